/-
  A component in new memory: what lies between two lines, and two components.
-/
import Derived.Test.YtenclgnkogmgiaaDoorXc
import Derived.Test.YtenclgnkogmgiaaDoorXb
import Derived.Deep.RegionLaw
namespace Go.Proofs.YtenclgnkogmgiaaDoor
open Go.RowKit Go.Shelf
set_option linter.unusedVariables false
set_option linter.unusedSimpArgs false

/-- What holds of a copy that is under way: what it holds lies in new memory. -/
def CmOk (K j : Nat) (l : List Rw) (V : World) (f : Fm) : Prop :=
  f.xs.length = f.ts.length ∧ f.nm.size ≤ 100000 ∧ f.ms.length ≤ j ∧ f.ts.length ≤ j ∧ (∀ m ∈ f.ms, FitN m.ln ∧ m.fs.length ≤ 9223372036854775807 ∧ Stay (fun b => b ≤ K ∨ b ∈ bks l) V (fun W => FRow W m.a m.fs)) ∧
    ∀ (i : Nat) (t : Cp) (x : Value × Value × Value), f.ts[i]? = some t → f.xs[i]? = some x → (∀ k, FitC k t) ∧ Stay (fun b => b ≤ K ∨ b ∈ bks l) V (fun W => CpAt j W t x.1 x.2.1 x.2.2)
/-- A copy that is under way: its frame lies in block K, its rows are its own. -/
def CJ (K N j : Nat) (f : Fm) (V : World) : Prop :=
  Blk V K #[.string f.nm, f.vl, f.vc] 25 ∧ K < N ∧ N ≤ V.heap.size ∧ Fo N V [f.rl, f.rc] ∧ CmOk K j [f.rl, f.rc] V f
theorem CJ.keep {K N j : Nat} {f : Fm} {V V' : World} (h : CJ K N j f V) (hb : Below V.heap.size V V') : CJ K N j f V' := by
  obtain ⟨h1, h2, h3, h4, k1, k2, k3, k4, k5, k6⟩ := h
  exact ⟨h1.below hb h1.lt, h2, Nat.le_trans h3 hb.size, h4.keep hb, k1, k2, k3, k4, fun m hm => ⟨(k5 m hm).1, (k5 m hm).2.1, (k5 m hm).2.2.go (Tk.of_below (O := fun _ => False) hb) (fun _ _ q => q.elim) (fun _ _ q => q)⟩, fun i t x ht hx => ⟨(k6 i t x ht hx).1, (k6 i t x ht hx).2.go (Tk.of_below (O := fun _ => False) hb) (fun _ _ q => q.elim) (fun _ _ q => q)⟩⟩
/-- Where all but K and the rows is kept the copy's parts are as they were. -/
theorem stay_set {K : Nat} {l l' : List Rw} {V V' : World} {Q : World → Prop} (hs : Stay (fun b => b ≤ K ∨ b ∈ bks l) V Q) (ht : Tk (fun b => b = K ∨ b ∈ bks l) V V') (hm : ∀ b, b ∈ bks l' → b ∈ bks l ∨ V.heap.size ≤ b) : Stay (fun b => b ≤ K ∨ b ∈ bks l') V' Q :=
  hs.go ht (fun b _ q => q.imp (fun e => Nat.le_of_eq e) id) (fun b hb q => by
    rcases q with q | q
    · exact .inl q
    · rcases hm b q with q | q
      · exact .inr q
      · omega)
theorem CmOk.set {K j : Nat} {l l' : List Rw} {V V' : World} {f : Fm} (h : CmOk K j l V f) (ht : Tk (fun b => b = K ∨ b ∈ bks l) V V') (hm : ∀ b, b ∈ bks l' → b ∈ bks l ∨ V.heap.size ≤ b) : CmOk K j l' V' f := by
  obtain ⟨h1, h2, h3, h4, h5, h6⟩ := h
  exact ⟨h1, h2, h3, h4, fun m hx => ⟨(h5 m hx).1, (h5 m hx).2.1, stay_set (h5 m hx).2.2 ht hm⟩, fun i t x ht' hx => ⟨(h6 i t x ht' hx).1, stay_set (h6 i t x ht' hx).2 ht hm⟩⟩
theorem Fo.far {N K i : Nat} {V : World} {l : List Rw} (h : Fo N V l) (hK : K < N) (u : Value) : Fo N (V.setCell ⟨K, i, none⟩ u) l :=
  ⟨fun r hr => own_set hK (h.1 r hr), h.2⟩
/-- A line more. -/
theorem CJ.line {K N j g : Nat} {v' : Value} {f : Fm} {m : Lm} {V V' : World} (h : CJ K N j f V) (hj : f.ms.length < j) (hfit : FitN m.ln) (hfs : m.fs.length ≤ 9223372036854775807) (hm : Stay (fun b => b ≤ K ∨ b ∈ bks [f.rl, f.rc]) V (fun W => FRow W m.a m.fs))
    (hg : V.grownBy V' f.vl.ownBlock) (ho : V'.ownsRow N 39 3 v' (f.ms.length + 1) (f.ms.flatMap cellM ++ cellM m)) (hv : v'.ownBlock = some g) (hfr : f.vl.ownBlock = some g ∨ V.heap.size ≤ g) :
    CJ K N j ⟨f.nm, v', f.ms ++ [m], f.vc, f.ts, f.xs⟩ (V'.setCell ⟨K, 1, none⟩ v') ∧ Tk (fun b => b = K ∨ b ∈ bks [f.rl, f.rc]) V (V'.setCell ⟨K, 1, none⟩ v') := by
  obtain ⟨h1, h2, h3, h4, h5⟩ := h
  have hT1 : Tk (fun b => b = K ∨ b ∈ bks [f.rl, f.rc]) V V' := Tk.grown hg (fun b hb => .inr (List.mem_filterMap.2 ⟨f.rl, by simp, hb⟩))
  have hT := hT1.trans (Tk.set (O := fun b => b = K ∨ b ∈ bks [f.rl, f.rc]) V' K 1 v' (.inl rfl))
  have hF1 := h4.up (r' := ⟨v', 39, (f.ms ++ [m]).length, (f.ms ++ [m]).flatMap cellM⟩) hg (by simpa using ho) hv hfr
  have hK1 : Blk V' K #[.string f.nm, f.vl, f.vc] 25 := (hg.block K h1.lt (fun q => by have := (h4.lt (List.mem_filterMap.2 ⟨f.rl, by simp, q.symm⟩)).1; omega)).trans h1
  have hmm : ∀ b, b ∈ bks [(⟨v', 39, (f.ms ++ [m]).length, (f.ms ++ [m]).flatMap cellM⟩ : Rw), f.rc] → b ∈ bks [f.rl, f.rc] ∨ V.heap.size ≤ b := by
    intro b hb
    rw [bks_cons (g := g) hv] at hb
    rcases List.mem_cons.1 hb with rfl | hb
    · rcases hfr with q | q
      · left; exact List.mem_filterMap.2 ⟨f.rl, by simp, q⟩
      · exact .inr q
    · left; exact bks_sub (fun r hr => by simp at hr ⊢; exact .inr hr) b hb
  refine ⟨⟨heap_setCell_same _ _ 1 _ 25 _ hK1, h2, by have := hT.size; omega, hF1.far h2 _, ?_⟩, hT⟩
  obtain ⟨k1, k2, k3, k4, k5, k6⟩ := h5.set hT hmm
  refine ⟨k1, k2, by simp; omega, k4, fun y hy => ?_, k6⟩
  rcases List.mem_append.1 hy with hy | hy
  · exact k5 y hy
  · simp at hy; subst hy; exact ⟨hfit, hfs, stay_set hm hT hmm⟩
/-- A component more. -/
theorem CJ.comp {K N j g : Nat} {v' : Value} {f : Fm} {t : Cp} {x : Value × Value × Value} {V V' : World} (h : CJ K N j f V) (hj : f.ts.length < j) (hfit : ∀ k, FitC k t) (hm : Stay (fun b => b ≤ K ∨ b ∈ bks [f.rl, f.rc]) V (fun W => CpAt j W t x.1 x.2.1 x.2.2))
    (hg : V.grownBy V' f.vc.ownBlock) (ho : V'.ownsRow N 25 3 v' (f.ts.length + 1) (f.xs.flatMap cell3 ++ cell3 x)) (hv : v'.ownBlock = some g) (hfr : f.vc.ownBlock = some g ∨ V.heap.size ≤ g) :
    CJ K N j ⟨f.nm, f.vl, f.ms, v', f.ts ++ [t], f.xs ++ [x]⟩ (V'.setCell ⟨K, 2, none⟩ v') ∧ Tk (fun b => b = K ∨ b ∈ bks [f.rl, f.rc]) V (V'.setCell ⟨K, 2, none⟩ v') := by
  obtain ⟨h1, h2, h3, h4, h5⟩ := h
  have hT1 : Tk (fun b => b = K ∨ b ∈ bks [f.rl, f.rc]) V V' := Tk.grown hg (fun b hb => .inr (List.mem_filterMap.2 ⟨f.rc, by simp, hb⟩))
  have hT := hT1.trans (Tk.set (O := fun b => b = K ∨ b ∈ bks [f.rl, f.rc]) V' K 2 v' (.inl rfl))
  have hF1 := (((h4.perm (List.Perm.swap _ _ _)).up (r' := ⟨v', 25, (f.ts ++ [t]).length, (f.xs ++ [x]).flatMap cell3⟩) hg (by simpa using ho) hv hfr)).perm (List.Perm.swap _ _ _)
  have hK1 : Blk V' K #[.string f.nm, f.vl, f.vc] 25 := (hg.block K h1.lt (fun q => by have := (h4.lt (List.mem_filterMap.2 ⟨f.rc, by simp, q.symm⟩)).1; omega)).trans h1
  have hmm : ∀ b, b ∈ bks [f.rl, (⟨v', 25, (f.ts ++ [t]).length, (f.xs ++ [x]).flatMap cell3⟩ : Rw)] → b ∈ bks [f.rl, f.rc] ∨ V.heap.size ≤ b := by
    intro b hb
    obtain ⟨r, hr, hrb⟩ := List.mem_filterMap.1 hb
    simp only [List.mem_cons, List.not_mem_nil, or_false] at hr
    rcases hr with rfl | rfl
    · left; exact List.mem_filterMap.2 ⟨f.rl, by simp, hrb⟩
    · have e : g = b := by rw [show (Rw.v _) = v' from rfl, hv] at hrb; simpa using hrb
      subst e
      rcases hfr with q | q
      · left; exact List.mem_filterMap.2 ⟨f.rc, by simp, q⟩
      · exact .inr q
  refine ⟨⟨heap_setCell_same _ _ 2 _ 25 _ hK1, h2, by have := hT.size; omega, hF1.far h2 _, ?_⟩, hT⟩
  obtain ⟨k1, k2, k3, k4, k5, k6⟩ := h5.set hT hmm
  refine ⟨by simp; exact k1, k2, k3, by simp; omega, k5, fun i u y hu hy => ?_⟩
  by_cases hi : i < f.ts.length
  · rw [List.getElem?_append_left hi] at hu
    rw [List.getElem?_append_left (by rw [k1]; exact hi)] at hy
    exact k6 i u y hu hy
  · have hi2 : i = f.ts.length := by have := (List.getElem?_eq_some_iff.1 hu).1; rw [List.length_append] at this; simp at this; omega
    subst hi2
    have e1 : u = t := by simpa using hu.symm
    have e2 : y = x := by rw [← k1] at hy; simpa using hy.symm
    subst e1; subst e2
    exact ⟨hfit, stay_set hm hT hmm⟩
/-- The copy, when it is done: it lies in new memory. -/
theorem CJ.tree {K N j : Nat} {V : World} {f : Fm} (h : CJ K N j f V) (hj : j ≤ 9223372036854775806) : Stay (fun b => b ≤ K) V (fun W => CpAt (j + 1) W f.cp (.string f.nm) f.vl f.vc) := by
  intro W hW
  obtain ⟨_, h2, _, h4, k1, k2, k3, k4, k5, k6⟩ := h
  have own : ∀ r : Rw, V.ownsRow N r.e 3 r.v r.n r.cs → W.ownsRow N r.e 3 r.v r.n r.cs := by
    intro r hr
    refine ⟨hr.1, ?_⟩
    rcases hr.2 with q | ⟨g, cap, cur, q1, q2, q3, q4⟩
    · exact .inl q
    · exact .inr ⟨g, cap, cur, q1, q2, hW.kept q3 (by omega), q4⟩
  have hW2 : Tk (fun b => b ≤ K ∨ b ∈ bks [f.rl, f.rc]) V W := hW.mono (fun b q => .inl q)
  have o1 : W.ownsRow N 39 3 f.vl f.ms.length (f.ms.flatMap cellM) := own f.rl (h4.1 f.rl (by simp))
  have o2 : W.ownsRow N 25 3 f.vc f.ts.length (f.xs.flatMap cell3) := own f.rc (h4.1 f.rc (by simp))
  exact ⟨⟨f.nm, rfl, rfl⟩, own_lsat o1 (by omega) (fun m hm => ⟨(k5 m hm).2.1, (k5 m hm).2.2 W hW2⟩), own_trow o2 (by show f.ts.length ≤ maxLen; unfold maxLen; omega) k1 (fun i t x ht hx => (k6 i t x ht hx).2 W hW2)⟩
end Go.Proofs.YtenclgnkogmgiaaDoor
