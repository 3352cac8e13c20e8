/-
  Reading a component from its front, of the document.
-/
import Derived.Test.YtenclgnkogmgiaaDoorXc
import Derived.Test.YtenclgnkogmgiaaDoorXb
import Derived.Deep.RegionLaw
import Derived.Test.YtenclgnkogmgiaaDoorXd
import Derived.Test.YtenclgnkogmgiaaDoorXj
import Derived.Test.YtenclgnkogmgiaaDoorXr
import Derived.Test.YtenclgnkogmgiaaDoorXs
import Derived.Test.YtenclgnkogmgiaaDoorXv
namespace Go.Proofs.YtenclgnkogmgiaaDoor
open Go.RowKit Go.Shelf
set_option linter.unusedVariables false
set_option linter.unusedSimpArgs false

/-- What holds of a copy that is under way: what it holds lies in new memory. -/
def CmOk (K j : Nat) (l : List Rw) (V : World) (f : Fm) : Prop :=
  f.xs.length = f.ts.length ∧ f.nm.size ≤ 100000 ∧ f.ms.length ≤ j ∧ f.ts.length ≤ j ∧ (∀ m ∈ f.ms, FitN m.ln ∧ m.fs.length ≤ 9223372036854775807 ∧ Stay (fun b => b ≤ K ∨ b ∈ bks l) V (fun W => FRow W m.a m.fs)) ∧
    ∀ (i : Nat) (t : Cp) (x : Value × Value × Value), f.ts[i]? = some t → f.xs[i]? = some x → (∀ k, FitC k t) ∧ Stay (fun b => b ≤ K ∨ b ∈ bks l) V (fun W => CpAt j W t x.1 x.2.1 x.2.2)
/-- A copy that is under way: its frame lies in block K, its rows are its own. -/
def CJ (K N j : Nat) (f : Fm) (V : World) : Prop :=
  Blk V K #[.string f.nm, f.vl, f.vc] 25 ∧ K < N ∧ N ≤ V.heap.size ∧ Fo N V [f.rl, f.rc] ∧ CmOk K j [f.rl, f.rc] V f
theorem CJ.keep {K N j : Nat} {f : Fm} {V V' : World} (h : CJ K N j f V) (hb : Below V.heap.size V V') : CJ K N j f V' := by
  obtain ⟨h1, h2, h3, h4, k1, k2, k3, k4, k5, k6⟩ := h
  exact ⟨h1.below hb h1.lt, h2, Nat.le_trans h3 hb.size, h4.keep hb, k1, k2, k3, k4, fun m hm => ⟨(k5 m hm).1, (k5 m hm).2.1, (k5 m hm).2.2.go (Tk.of_below (O := fun _ => False) hb) (fun _ _ q => q.elim) (fun _ _ q => q)⟩, fun i t x ht hx => ⟨(k6 i t x ht hx).1, (k6 i t x ht hx).2.go (Tk.of_below (O := fun _ => False) hb) (fun _ _ q => q.elim) (fun _ _ q => q)⟩⟩
/-- Where all but K and the rows is kept the copy's parts are as they were. -/
theorem stay_set {K : Nat} {l l' : List Rw} {V V' : World} {Q : World → Prop} (hs : Stay (fun b => b ≤ K ∨ b ∈ bks l) V Q) (ht : Tk (fun b => b = K ∨ b ∈ bks l) V V') (hm : ∀ b, b ∈ bks l' → b ∈ bks l ∨ V.heap.size ≤ b) : Stay (fun b => b ≤ K ∨ b ∈ bks l') V' Q :=
  hs.go ht (fun b _ q => q.imp (fun e => Nat.le_of_eq e) id) (fun b hb q => by
    rcases q with q | q
    · exact .inl q
    · rcases hm b q with q | q
      · exact .inr q
      · omega)
theorem CmOk.set {K j : Nat} {l l' : List Rw} {V V' : World} {f : Fm} (h : CmOk K j l V f) (ht : Tk (fun b => b = K ∨ b ∈ bks l) V V') (hm : ∀ b, b ∈ bks l' → b ∈ bks l ∨ V.heap.size ≤ b) : CmOk K j l' V' f := by
  obtain ⟨h1, h2, h3, h4, h5, h6⟩ := h
  exact ⟨h1, h2, h3, h4, fun m hx => ⟨(h5 m hx).1, (h5 m hx).2.1, stay_set (h5 m hx).2.2 ht hm⟩, fun i t x ht' hx => ⟨(h6 i t x ht' hx).1, stay_set (h6 i t x ht' hx).2 ht hm⟩⟩
theorem Fo.far {N K i : Nat} {V : World} {l : List Rw} (h : Fo N V l) (hK : K < N) (u : Value) : Fo N (V.setCell ⟨K, i, none⟩ u) l :=
  ⟨fun r hr => own_set hK (h.1 r hr), h.2⟩
/-- A line more. -/
theorem CJ.line {K N j g : Nat} {v' : Value} {f : Fm} {m : Lm} {V V' : World} (h : CJ K N j f V) (hj : f.ms.length < j) (hfit : FitN m.ln) (hfs : m.fs.length ≤ 9223372036854775807) (hm : Stay (fun b => b ≤ K ∨ b ∈ bks [f.rl, f.rc]) V (fun W => FRow W m.a m.fs))
    (hg : V.grownBy V' f.vl.ownBlock) (ho : V'.ownsRow N 39 3 v' (f.ms.length + 1) (f.ms.flatMap cellM ++ cellM m)) (hv : v'.ownBlock = some g) (hfr : f.vl.ownBlock = some g ∨ V.heap.size ≤ g) :
    CJ K N j ⟨f.nm, v', f.ms ++ [m], f.vc, f.ts, f.xs⟩ (V'.setCell ⟨K, 1, none⟩ v') ∧ Tk (fun b => b = K ∨ b ∈ bks [f.rl, f.rc]) V (V'.setCell ⟨K, 1, none⟩ v') := by
  obtain ⟨h1, h2, h3, h4, h5⟩ := h
  have hT1 : Tk (fun b => b = K ∨ b ∈ bks [f.rl, f.rc]) V V' := Tk.grown hg (fun b hb => .inr (List.mem_filterMap.2 ⟨f.rl, by simp, hb⟩))
  have hT := hT1.trans (Tk.set (O := fun b => b = K ∨ b ∈ bks [f.rl, f.rc]) V' K 1 v' (.inl rfl))
  have hF1 := h4.up (r' := ⟨v', 39, (f.ms ++ [m]).length, (f.ms ++ [m]).flatMap cellM⟩) hg (by simpa using ho) hv hfr
  have hK1 : Blk V' K #[.string f.nm, f.vl, f.vc] 25 := (hg.block K h1.lt (fun q => by have := (h4.lt (List.mem_filterMap.2 ⟨f.rl, by simp, q.symm⟩)).1; omega)).trans h1
  have hmm : ∀ b, b ∈ bks [(⟨v', 39, (f.ms ++ [m]).length, (f.ms ++ [m]).flatMap cellM⟩ : Rw), f.rc] → b ∈ bks [f.rl, f.rc] ∨ V.heap.size ≤ b := by
    intro b hb
    rw [bks_cons (g := g) hv] at hb
    rcases List.mem_cons.1 hb with rfl | hb
    · rcases hfr with q | q
      · left; exact List.mem_filterMap.2 ⟨f.rl, by simp, q⟩
      · exact .inr q
    · left; exact bks_sub (fun r hr => by simp at hr ⊢; exact .inr hr) b hb
  refine ⟨⟨heap_setCell_same _ _ 1 _ 25 _ hK1, h2, by have := hT.size; omega, hF1.far h2 _, ?_⟩, hT⟩
  obtain ⟨k1, k2, k3, k4, k5, k6⟩ := h5.set hT hmm
  refine ⟨k1, k2, by simp; omega, k4, fun y hy => ?_, k6⟩
  rcases List.mem_append.1 hy with hy | hy
  · exact k5 y hy
  · simp at hy; subst hy; exact ⟨hfit, hfs, stay_set hm hT hmm⟩
/-- A component more. -/
theorem CJ.comp {K N j g : Nat} {v' : Value} {f : Fm} {t : Cp} {x : Value × Value × Value} {V V' : World} (h : CJ K N j f V) (hj : f.ts.length < j) (hfit : ∀ k, FitC k t) (hm : Stay (fun b => b ≤ K ∨ b ∈ bks [f.rl, f.rc]) V (fun W => CpAt j W t x.1 x.2.1 x.2.2))
    (hg : V.grownBy V' f.vc.ownBlock) (ho : V'.ownsRow N 25 3 v' (f.ts.length + 1) (f.xs.flatMap cell3 ++ cell3 x)) (hv : v'.ownBlock = some g) (hfr : f.vc.ownBlock = some g ∨ V.heap.size ≤ g) :
    CJ K N j ⟨f.nm, f.vl, f.ms, v', f.ts ++ [t], f.xs ++ [x]⟩ (V'.setCell ⟨K, 2, none⟩ v') ∧ Tk (fun b => b = K ∨ b ∈ bks [f.rl, f.rc]) V (V'.setCell ⟨K, 2, none⟩ v') := by
  obtain ⟨h1, h2, h3, h4, h5⟩ := h
  have hT1 : Tk (fun b => b = K ∨ b ∈ bks [f.rl, f.rc]) V V' := Tk.grown hg (fun b hb => .inr (List.mem_filterMap.2 ⟨f.rc, by simp, hb⟩))
  have hT := hT1.trans (Tk.set (O := fun b => b = K ∨ b ∈ bks [f.rl, f.rc]) V' K 2 v' (.inl rfl))
  have hF1 := (((h4.perm (List.Perm.swap _ _ _)).up (r' := ⟨v', 25, (f.ts ++ [t]).length, (f.xs ++ [x]).flatMap cell3⟩) hg (by simpa using ho) hv hfr)).perm (List.Perm.swap _ _ _)
  have hK1 : Blk V' K #[.string f.nm, f.vl, f.vc] 25 := (hg.block K h1.lt (fun q => by have := (h4.lt (List.mem_filterMap.2 ⟨f.rc, by simp, q.symm⟩)).1; omega)).trans h1
  have hmm : ∀ b, b ∈ bks [f.rl, (⟨v', 25, (f.ts ++ [t]).length, (f.xs ++ [x]).flatMap cell3⟩ : Rw)] → b ∈ bks [f.rl, f.rc] ∨ V.heap.size ≤ b := by
    intro b hb
    obtain ⟨r, hr, hrb⟩ := List.mem_filterMap.1 hb
    simp only [List.mem_cons, List.not_mem_nil, or_false] at hr
    rcases hr with rfl | rfl
    · left; exact List.mem_filterMap.2 ⟨f.rl, by simp, hrb⟩
    · have e : g = b := by rw [show (Rw.v _) = v' from rfl, hv] at hrb; simpa using hrb
      subst e
      rcases hfr with q | q
      · left; exact List.mem_filterMap.2 ⟨f.rc, by simp, q⟩
      · exact .inr q
  refine ⟨⟨heap_setCell_same _ _ 2 _ 25 _ hK1, h2, by have := hT.size; omega, hF1.far h2 _, ?_⟩, hT⟩
  obtain ⟨k1, k2, k3, k4, k5, k6⟩ := h5.set hT hmm
  refine ⟨by simp; exact k1, k2, k3, by simp; omega, k5, fun i u y hu hy => ?_⟩
  by_cases hi : i < f.ts.length
  · rw [List.getElem?_append_left hi] at hu
    rw [List.getElem?_append_left (by rw [k1]; exact hi)] at hy
    exact k6 i u y hu hy
  · have hi2 : i = f.ts.length := by have := (List.getElem?_eq_some_iff.1 hu).1; rw [List.length_append] at this; simp at this; omega
    subst hi2
    have e1 : u = t := by simpa using hu.symm
    have e2 : y = x := by rw [← k1] at hy; simpa using hy.symm
    subst e1; subst e2
    exact ⟨hfit, stay_set hm hT hmm⟩
/-- The copy, when it is done: it lies in new memory. -/
theorem CJ.tree {K N j : Nat} {V : World} {f : Fm} (h : CJ K N j f V) (hj : j ≤ 9223372036854775806) : Stay (fun b => b ≤ K) V (fun W => CpAt (j + 1) W f.cp (.string f.nm) f.vl f.vc) := by
  intro W hW
  obtain ⟨_, h2, _, h4, k1, k2, k3, k4, k5, k6⟩ := h
  have own : ∀ r : Rw, V.ownsRow N r.e 3 r.v r.n r.cs → W.ownsRow N r.e 3 r.v r.n r.cs := by
    intro r hr
    refine ⟨hr.1, ?_⟩
    rcases hr.2 with q | ⟨g, cap, cur, q1, q2, q3, q4⟩
    · exact .inl q
    · exact .inr ⟨g, cap, cur, q1, q2, hW.kept q3 (by omega), q4⟩
  have hW2 : Tk (fun b => b ≤ K ∨ b ∈ bks [f.rl, f.rc]) V W := hW.mono (fun b q => .inl q)
  have o1 : W.ownsRow N 39 3 f.vl f.ms.length (f.ms.flatMap cellM) := own f.rl (h4.1 f.rl (by simp))
  have o2 : W.ownsRow N 25 3 f.vc f.ts.length (f.xs.flatMap cell3) := own f.rc (h4.1 f.rc (by simp))
  exact ⟨⟨f.nm, rfl, rfl⟩, own_lsat o1 (by omega) (fun m hm => ⟨(k5 m hm).2.1, (k5 m hm).2.2 W hW2⟩), own_trow o2 (by show f.ts.length ≤ maxLen; unfold maxLen; omega) k1 (fun i t x ht hx => (k6 i t x ht hx).2 W hW2)⟩
end Go.Proofs.YtenclgnkogmgiaaDoor
namespace Go.Proofs.YtenclgnkogmgiaaDoor
open Go.RowKit Go.Shelf
set_option linter.unusedVariables false
set_option linter.unusedSimpArgs false

/-- What follows a component's first line: the component, and what is left. -/
def rlL (rec : List Ln → Option (Cp × List Ln)) : Nat → Cp → List Ln → Option (Cp × List Ln)
  | 0, _, _ => none
  | _ + 1, _, [] => none
  | n + 1, f, l :: r =>
    if l.name = enZ then (if l.pars ≠ [] ∨ l.value.map largeZ ≠ f.nm then none else some (f, r))
    else if l.name ≠ bgZ then rlL rec n ⟨f.nm, f.ls ++ [l], f.cs⟩ r
    else match rec (l :: r) with
      | none => none
      | some (x, r') => rlL rec n ⟨f.nm, f.ls, f.cs ++ [x]⟩ r'
/-- A component at a list's front, of at most so many storeys. -/
def rfP : Nat → List Ln → Option (Cp × List Ln)
  | 0, _ => none
  | _ + 1, [] => none
  | k + 1, l :: r => if l.name ≠ bgZ ∨ l.pars ≠ [] then none else rlL (rfP k) (r.length + 1) ⟨l.value.map largeZ, [], []⟩ r
theorem rf_bad {k : Nat} {l : Ln} {r : List Ln} (h : l.name ≠ bgZ ∨ l.pars ≠ []) : rfP (k + 1) (l :: r) = none := by
  unfold rfP; rw [if_pos h]
theorem rf_go {k : Nat} {l : Ln} {r : List Ln} (h : l.name = bgZ) (h2 : l.pars = []) : rfP (k + 1) (l :: r) = rlL (rfP k) (r.length + 1) ⟨l.value.map largeZ, [], []⟩ r := by
  rw [rfP, if_neg (by rw [h, h2]; simp)]
theorem rl_end {rec : List Ln → Option (Cp × List Ln)} {n : Nat} {f : Cp} {l : Ln} {r : List Ln} (h : l.name = enZ) (h2 : l.pars = []) (h3 : l.value.map largeZ = f.nm) : rlL rec (n + 1) f (l :: r) = some (f, r) := by
  rw [rlL, if_pos h, if_neg (by rw [h2, h3]; simp)]
theorem rl_endn {rec : List Ln → Option (Cp × List Ln)} {n : Nat} {f : Cp} {l : Ln} {r : List Ln} (h : l.name = enZ) (h2 : l.pars ≠ [] ∨ l.value.map largeZ ≠ f.nm) : rlL rec (n + 1) f (l :: r) = none := by
  rw [rlL, if_pos h, if_pos h2]
theorem rl_own {rec : List Ln → Option (Cp × List Ln)} {n : Nat} {f : Cp} {l : Ln} {r : List Ln} (h : ¬ l.name = enZ) (h2 : ¬ l.name = bgZ) : rlL rec (n + 1) f (l :: r) = rlL rec n ⟨f.nm, f.ls ++ [l], f.cs⟩ r := by
  rw [rlL, if_neg h, if_pos h2]
theorem bg_ne : ¬ bgZ = enZ := by decide
theorem rl_in {rec : List Ln → Option (Cp × List Ln)} {n : Nat} {f x : Cp} {l : Ln} {r r' : List Ln} (h : l.name = bgZ) (h2 : rec (l :: r) = some (x, r')) : rlL rec (n + 1) f (l :: r) = rlL rec n ⟨f.nm, f.ls, f.cs ++ [x]⟩ r' := by
  rw [rlL, if_neg (by rw [h]; exact bg_ne), if_neg (by rw [h]; simp), h2]
theorem rl_inn {rec : List Ln → Option (Cp × List Ln)} {n : Nat} {f : Cp} {l : Ln} {r : List Ln} (h : l.name = bgZ) (h2 : rec (l :: r) = none) : rlL rec (n + 1) f (l :: r) = none := by
  rw [rlL, if_neg (by rw [h]; exact bg_ne), if_neg (by rw [h]; simp), h2]
/-- What is left is shorter. -/
def Shr (rec : List Ln → Option (Cp × List Ln)) : Prop := ∀ L x r, rec L = some (x, r) → r.length < L.length
theorem rl_short {rec : List Ln → Option (Cp × List Ln)} (hr : Shr rec) : ∀ (n : Nat) (f : Cp) (L : List Ln) (x : Cp) (r : List Ln), rlL rec n f L = some (x, r) → r.length < L.length
  | 0, f, L, x, r, h => by simp [rlL] at h
  | n + 1, f, [], x, r, h => by simp [rlL] at h
  | n + 1, f, l :: L, x, r, h => by
    by_cases h1 : l.name = enZ
    · by_cases h2 : l.pars ≠ [] ∨ l.value.map largeZ ≠ f.nm
      · rw [rl_endn h1 h2] at h; cases h
      · rw [not_or, Classical.not_not, Classical.not_not] at h2
        rw [rl_end h1 h2.1 h2.2] at h
        simp only [Option.some.injEq, Prod.mk.injEq] at h
        rw [← h.2]; simp
    · by_cases h2 : l.name = bgZ
      · cases h3 : rec (l :: L) with
        | none => rw [rl_inn h2 h3] at h; cases h
        | some p =>
          obtain ⟨y, r'⟩ := p
          rw [rl_in h2 h3] at h
          have a := hr _ _ _ h3
          have b := rl_short hr n _ r' x r h
          omega
      · rw [rl_own h1 h2] at h
        have := rl_short hr n _ L x r h
        simp only [List.length_cons]; omega
theorem rf_short : ∀ k, Shr (rfP k)
  | 0 => fun L x r h => by simp [rfP] at h
  | k + 1 => fun L x r h => by
    cases L with
    | nil => simp [rfP] at h
    | cons l L =>
      by_cases h1 : l.name ≠ bgZ ∨ l.pars ≠ []
      · rw [rf_bad h1] at h; cases h
      · rw [not_or, Classical.not_not, Classical.not_not] at h1
        rw [rf_go h1.1 h1.2] at h
        have := rl_short (rf_short k) _ _ _ _ _ h
        simp only [List.length_cons]; omega
theorem frz_bad {l : Ln} (h : l.name = bgZ ∨ l.name = enZ) (h2 : l.pars ≠ []) : (frZ l.name && decide (l.pars ≠ [])) = true := by
  rcases h with h | h <;> rw [h] <;> simp [h2] <;> rfl
theorem frz_ok {l : Ln} (h2 : l.pars = []) : (frZ l.name && decide (l.pars ≠ [])) = false := by rw [h2]; simp
theorem frz_own {l : Ln} (h : ¬ l.name = bgZ) (h2 : ¬ l.name = enZ) : (frZ l.name && decide (l.pars ≠ [])) = false := by
  have : frZ l.name = false := by unfold frZ; simp [h, h2]
  rw [this]; rfl
/-- A component that is read is put where it belongs. -/
def putC (x : Cp) (r : List Ln) : List Cp → Option Cp
  | [] => if r = [] ∧ rightT x = true then some x else none
  | g :: st => rdM (⟨g.nm, g.ls, g.cs ++ [x]⟩ :: st) r
def InR (rec : List Ln → Option (Cp × List Ln)) : Prop := ∀ L x r st, rec L = some (x, r) → rdM st L = putC x r st
theorem rl_rd {rec : List Ln → Option (Cp × List Ln)} (hr : InR rec) : ∀ (n : Nat) (f : Cp) (L : List Ln) (x : Cp) (r : List Ln) (st : List Cp), rlL rec n f L = some (x, r) → rdM (f :: st) L = putC x r st
  | 0, f, L, x, r, st, h => by simp [rlL] at h
  | n + 1, f, [], x, r, st, h => by simp [rlL] at h
  | n + 1, f, l :: L, x, r, st, h => by
    by_cases h1 : l.name = enZ
    · by_cases h2 : l.pars ≠ [] ∨ l.value.map largeZ ≠ f.nm
      · rw [rl_endn h1 h2] at h; cases h
      · rw [not_or, Classical.not_not, Classical.not_not] at h2
        rw [rl_end h1 h2.1 h2.2] at h
        simp only [Option.some.injEq, Prod.mk.injEq] at h
        obtain ⟨rfl, rfl⟩ := h
        have hb : ¬ l.name = bgZ := by rw [h1]; exact en_ne
        cases st with
        | nil => rw [rdM_last (frz_ok h2.1) hb h1 h2.2]; rfl
        | cons g st => rw [rdM_close (frz_ok h2.1) hb h1 h2.2]; rfl
    · by_cases h2 : l.name = bgZ
      · cases h3 : rec (l :: L) with
        | none => rw [rl_inn h2 h3] at h; cases h
        | some p =>
          obtain ⟨y, r'⟩ := p
          rw [rl_in h2 h3] at h
          rw [hr _ _ _ (f :: st) h3]
          exact rl_rd hr n _ r' x r st h
      · rw [rl_own h1 h2] at h
        rw [rdM_own (frz_own h2 h1) h2 h1]
        exact rl_rd hr n _ L x r st h
theorem rf_rd : ∀ k, InR (rfP k)
  | 0 => fun L x r st h => by simp [rfP] at h
  | k + 1 => fun L x r st h => by
    cases L with
    | nil => simp [rfP] at h
    | cons l L =>
      by_cases h1 : l.name ≠ bgZ ∨ l.pars ≠ []
      · rw [rf_bad h1] at h; cases h
      · rw [not_or, Classical.not_not, Classical.not_not] at h1
        rw [rf_go h1.1 h1.2] at h
        rw [rdM_bg (frz_ok h1.2) h1.1]
        exact rl_rd (rf_rd k) _ _ _ _ _ _ h
/-- How deep what is begun lies in what comes of it. -/
theorem rd_deep (j : Nat) : ∀ (L : List Ln) (st : List Cp) (c : Cp), rdM st L = some c → dep j c → ∀ pre f post, st = pre ++ f :: post → dep (j - post.length) f
  | [], st, c, h, _ => by cases st <;> simp [rdM] at h
  | l :: L, st, c, h, hd => by
    cases h1 : (frZ l.name && decide (l.pars ≠ [])) with
    | true => rw [rdM_bad h1] at h; cases h
    | false =>
      by_cases h2 : l.name = bgZ
      · rw [rdM_bg h1 h2] at h
        intro pre f post e
        exact rd_deep j L _ c h hd (_ :: pre) f post (by rw [e]; rfl)
      · cases st with
        | nil => rw [rdM_empty h1 h2] at h; cases h
        | cons f st =>
          by_cases h3 : l.name = enZ
          · by_cases h4 : l.value.map largeZ = f.nm
            · cases st with
              | nil =>
                rw [rdM_last h1 h2 h3 h4] at h
                split at h
                · simp only [Option.some.injEq] at h
                  subst h
                  intro pre g post e
                  cases pre with
                  | nil => simp at e; obtain ⟨rfl, rfl⟩ := e; simpa using hd
                  | cons a pre => simp at e
                · cases h
              | cons g st =>
                rw [rdM_close h1 h2 h3 h4] at h
                have ih := rd_deep j L _ c h hd
                have i0 := ih [] _ st rfl
                obtain ⟨m, hm⟩ : ∃ m, j - st.length = m + 1 := by
                  cases hq : j - st.length with
                  | zero => rw [hq] at i0; exact i0.elim
                  | succ m => exact ⟨m, rfl⟩
                rw [hm] at i0
                intro pre q post e
                cases pre with
                | nil =>
                  simp at e
                  obtain ⟨rfl, rfl⟩ := e
                  have : j - (g :: st).length = m := by simp only [List.length_cons]; omega
                  rw [this]
                  exact i0 _ (by simp)
                | cons a pre =>
                  cases pre with
                  | nil =>
                    simp at e
                    obtain ⟨_, rfl, rfl⟩ := e
                    rw [hm]
                    exact fun y hy => i0 y (by simp [hy])
                  | cons b pre =>
                    simp at e
                    obtain ⟨_, _, rfl⟩ := e
                    exact ih (_ :: pre) q post rfl
            · rw [rdM_end h1 h2 h3 h4] at h; cases h
          · rw [rdM_own h1 h2 h3] at h
            have ih := rd_deep j L _ c h hd
            intro pre q post e
            cases pre with
            | nil =>
              simp at e
              obtain ⟨rfl, rfl⟩ := e
              have i0 := ih [] _ st rfl
              cases hq : j - st.length with
              | zero => rw [hq] at i0; exact i0.elim
              | succ m => rw [hq] at i0; exact i0
            | cons a pre =>
              simp at e
              obtain ⟨_, rfl⟩ := e
              exact ih (_ :: pre) q post rfl
theorem rd_right : ∀ (L : List Ln) (st : List Cp) (c : Cp), rdM st L = some c → rightT c = true
  | [], st, c, h => by cases st <;> simp [rdM] at h
  | l :: L, st, c, h => by
    cases h1 : (frZ l.name && decide (l.pars ≠ [])) with
    | true => rw [rdM_bad h1] at h; cases h
    | false =>
      by_cases h2 : l.name = bgZ
      · rw [rdM_bg h1 h2] at h; exact rd_right L _ c h
      · cases st with
        | nil => rw [rdM_empty h1 h2] at h; cases h
        | cons f st =>
          by_cases h3 : l.name = enZ
          · by_cases h4 : l.value.map largeZ = f.nm
            · cases st with
              | nil =>
                rw [rdM_last h1 h2 h3 h4] at h
                split at h
                · rename_i hr
                  simp only [Option.some.injEq] at h
                  subst h
                  exact hr.2
                · cases h
              | cons g st => rw [rdM_close h1 h2 h3 h4] at h; exact rd_right L _ c h
            · rw [rdM_end h1 h2 h3 h4] at h; cases h
          · rw [rdM_own h1 h2 h3] at h; exact rd_right L _ c h
theorem rd_few {L : List Ln} {st : List Cp} {c : Cp} (h : rdM st L = some c) : st.length ≤ 8 := by
  cases st with
  | nil => simp
  | cons f st =>
    have hd : dep 8 c := dep_rt 8 (0, 0) c (rd_right L _ c h)
    have := rd_deep 8 L _ c h hd [] f st rfl
    cases hq : 8 - st.length with
    | zero => rw [hq] at this; exact this.elim
    | succ m => simp only [List.length_cons]; omega
theorem rd_rl (N : Nat) : ∀ (n k : Nat) (f : Cp) (st : List Cp) (L : List Ln) (c : Cp), L.length ≤ N → L.length < n → st.length + 1 + k = 8 → rdM (f :: st) L = some c → ∃ x r, rlL (rfP k) n f L = some (x, r) := by
  induction N with
  | zero =>
    intro n k f st L c hN _ _ h
    have : L = [] := List.length_eq_zero_iff.1 (by omega)
    subst this
    simp [rdM] at h
  | succ N ih =>
    intro n k f st L c hN hn hk h
    obtain ⟨n, rfl⟩ : ∃ m, n = m + 1 := ⟨n - 1, by omega⟩
    cases L with
    | nil => simp [rdM] at h
    | cons l L =>
      simp only [List.length_cons] at hN hn
      cases h1 : (frZ l.name && decide (l.pars ≠ [])) with
      | true => rw [rdM_bad h1] at h; cases h
      | false =>
        have hpars : l.name = bgZ ∨ l.name = enZ → l.pars = [] := fun q => by
          apply Classical.byContradiction
          intro hq
          rw [frz_bad q hq] at h1; cases h1
        by_cases h2 : l.name = bgZ
        · rw [rdM_bg h1 h2] at h
          have hf := rd_few h
          simp only [List.length_cons] at hf
          obtain ⟨k, rfl⟩ : ∃ m, k = m + 1 := ⟨k - 1, by omega⟩
          obtain ⟨x, r', hx⟩ := ih (L.length + 1) k _ (f :: st) L c (by omega) (by omega) (by simp only [List.length_cons]; omega) h
          have hrf : rfP (k + 1) (l :: L) = some (x, r') := by rw [rf_go h2 (hpars (.inl h2))]; exact hx
          have hsh := rl_short (rf_short k) _ _ _ _ _ hx
          rw [rl_rd (rf_rd k) _ _ _ _ _ (f :: st) hx] at h
          rw [rl_in h2 hrf]
          exact ih n (k + 1) _ st r' c (by omega) (by omega) hk h
        · by_cases h3 : l.name = enZ
          · by_cases h4 : l.value.map largeZ = f.nm
            · exact ⟨f, L, rl_end h3 (hpars (.inr h3)) h4⟩
            · rw [rdM_end h1 h2 h3 h4] at h; cases h
          · rw [rdM_own h1 h2 h3] at h
            rw [rl_own h3 h2]
            exact ih n k _ st L c (by omega) (by omega) hk h
/-- The two ways of reading are one. -/
theorem rd_iff (L : List Ln) (c : Cp) : rdM [] L = some c ↔ rfP 8 L = some (c, []) ∧ rightT c = true := by
  constructor
  · intro h
    cases L with
    | nil => simp [rdM] at h
    | cons l L =>
      cases h1 : (frZ l.name && decide (l.pars ≠ [])) with
      | true => rw [rdM_bad h1] at h; cases h
      | false =>
        by_cases h2 : l.name = bgZ
        · have hp : l.pars = [] := by
            apply Classical.byContradiction
            intro hq
            rw [frz_bad (.inl h2) hq] at h1; cases h1
          rw [rdM_bg h1 h2] at h
          obtain ⟨x, r, hx⟩ := rd_rl L.length (L.length + 1) 7 _ [] L c (Nat.le_refl _) (by omega) rfl h
          rw [rl_rd (rf_rd 7) _ _ _ _ _ [] hx] at h
          rw [show putC x r [] = (if r = [] ∧ rightT x = true then some x else none) from rfl] at h
          split at h
          · rename_i hq
            simp only [Option.some.injEq] at h
            subst h
            rw [rf_go h2 hp, hx, hq.1]
            exact ⟨rfl, hq.2⟩
          · cases h
        · rw [rdM_empty h1 h2] at h; cases h
  · rintro ⟨h, hr⟩
    rw [rf_rd 8 L c [] [] h]
    unfold putC
    rw [if_pos ⟨rfl, hr⟩]
end Go.Proofs.YtenclgnkogmgiaaDoor
namespace Go.Proofs.YtenclgnkogmgiaaDoor
open Go.RowKit Go.Shelf
set_option linter.unusedVariables false
set_option linter.unusedSimpArgs false

/-- What holds of a copy that is under way: what it holds lies in new memory. -/
def QmOk (M : Nat → Prop) (K j : Nat) (l : List Rw) (V : World) (f : Fm) : Prop :=
  f.xs.length = f.ts.length ∧ f.nm.size ≤ 100000 ∧ f.ms.length ≤ j ∧ f.ts.length ≤ j ∧ (∀ m ∈ f.ms, FitN m.ln ∧ m.fs.length ≤ 9223372036854775807 ∧ Stay (fun b => M b ∧ (b ≤ K ∨ b ∈ bks l)) V (fun W => FRow W m.a m.fs)) ∧
    ∀ (i : Nat) (t : Cp) (x : Value × Value × Value), f.ts[i]? = some t → f.xs[i]? = some x → (∀ k, FitC k t) ∧ Stay (fun b => M b ∧ (b ≤ K ∨ b ∈ bks l)) V (fun W => CpAt j W t x.1 x.2.1 x.2.2)
/-- A copy that is under way: its frame lies in block K, its rows are its own. -/
def GJ (M : Nat → Prop) (Z K N j : Nat) (f : Fm) (V : World) : Prop :=
  (Z ≤ K ∧ ∀ b, Z ≤ b → M b) ∧ Blk V K #[.string f.nm, f.vl, f.vc] 25 ∧ K < N ∧ N ≤ V.heap.size ∧ Fo N V [f.rl, f.rc] ∧ QmOk M K j [f.rl, f.rc] V f
theorem GJ.keep {M : Nat → Prop} {Z K N j : Nat} {f : Fm} {V V' : World} (h : GJ M Z K N j f V) (hb : Below V.heap.size V V') : GJ M Z K N j f V' := by
  obtain ⟨h0, h1, h2, h3, h4, k1, k2, k3, k4, k5, k6⟩ := h
  exact ⟨h0, h1.below hb h1.lt, h2, Nat.le_trans h3 hb.size, h4.keep hb, k1, k2, k3, k4, fun m hm => ⟨(k5 m hm).1, (k5 m hm).2.1, (k5 m hm).2.2.go (Tk.of_below (O := fun _ => False) hb) (fun _ _ q => q.elim) (fun _ _ q => q)⟩, fun i t x ht hx => ⟨(k6 i t x ht hx).1, (k6 i t x ht hx).2.go (Tk.of_below (O := fun _ => False) hb) (fun _ _ q => q.elim) (fun _ _ q => q)⟩⟩
/-- Where all but K and the rows is kept the copy's parts are as they were. -/
theorem stay_setq {M : Nat → Prop} {K : Nat} {l l' : List Rw} {V V' : World} {Q : World → Prop} (hZ : M K) (hl : ∀ b, b ∈ bks l → M b) (hs : Stay (fun b => M b ∧ (b ≤ K ∨ b ∈ bks l)) V Q) (ht : Tk (fun b => b = K ∨ b ∈ bks l) V V') (hm : ∀ b, b ∈ bks l' → b ∈ bks l ∨ V.heap.size ≤ b) : Stay (fun b => M b ∧ (b ≤ K ∨ b ∈ bks l')) V' Q :=
  hs.go ht (fun b _ q => by
    rcases q with q | q
    · subst q; exact ⟨hZ, .inl (Nat.le_refl _)⟩
    · exact ⟨hl b q, .inr q⟩) (fun b hb q => by
    rcases q with ⟨q0, q | q⟩
    · exact ⟨q0, .inl q⟩
    · rcases hm b q with q | q
      · exact ⟨q0, .inr q⟩
      · omega)
theorem QmOk.set {M : Nat → Prop} {K j : Nat} {l l' : List Rw} {V V' : World} {f : Fm} (hZ : M K) (hl : ∀ b, b ∈ bks l → M b) (h : QmOk M K j l V f) (ht : Tk (fun b => b = K ∨ b ∈ bks l) V V') (hm : ∀ b, b ∈ bks l' → b ∈ bks l ∨ V.heap.size ≤ b) : QmOk M K j l' V' f := by
  obtain ⟨h1, h2, h3, h4, h5, h6⟩ := h
  exact ⟨h1, h2, h3, h4, fun m hx => ⟨(h5 m hx).1, (h5 m hx).2.1, stay_setq hZ hl (h5 m hx).2.2 ht hm⟩, fun i t x ht' hx => ⟨(h6 i t x ht' hx).1, stay_setq hZ hl (h6 i t x ht' hx).2 ht hm⟩⟩
/-- A line more. -/
theorem GJ.line {M : Nat → Prop} {Z K N j g : Nat} {v' : Value} {f : Fm} {m : Lm} {V V' : World} (h : GJ M Z K N j f V) (hj : f.ms.length < j) (hfit : FitN m.ln) (hfs : m.fs.length ≤ 9223372036854775807) (hm : Stay (fun b => M b ∧ (b ≤ K ∨ b ∈ bks [f.rl, f.rc])) V (fun W => FRow W m.a m.fs))
    (hg : V.grownBy V' f.vl.ownBlock) (ho : V'.ownsRow N 39 3 v' (f.ms.length + 1) (f.ms.flatMap cellM ++ cellM m)) (hv : v'.ownBlock = some g) (hfr : f.vl.ownBlock = some g ∨ V.heap.size ≤ g) :
    GJ M Z K N j ⟨f.nm, v', f.ms ++ [m], f.vc, f.ts, f.xs⟩ (V'.setCell ⟨K, 1, none⟩ v') ∧ Tk (fun b => b = K ∨ b ∈ bks [f.rl, f.rc]) V (V'.setCell ⟨K, 1, none⟩ v') := by
  obtain ⟨h0, h1, h2, h3, h4, h5⟩ := h
  have hlz : ∀ b, b ∈ bks [f.rl, f.rc] → M b := fun b hb => h0.2 b (by have := (h4.lt hb).1; have := h0.1; omega)
  have hT1 : Tk (fun b => b = K ∨ b ∈ bks [f.rl, f.rc]) V V' := Tk.grown hg (fun b hb => .inr (List.mem_filterMap.2 ⟨f.rl, by simp, hb⟩))
  have hT := hT1.trans (Tk.set (O := fun b => b = K ∨ b ∈ bks [f.rl, f.rc]) V' K 1 v' (.inl rfl))
  have hF1 := h4.up (r' := ⟨v', 39, (f.ms ++ [m]).length, (f.ms ++ [m]).flatMap cellM⟩) hg (by simpa using ho) hv hfr
  have hK1 : Blk V' K #[.string f.nm, f.vl, f.vc] 25 := (hg.block K h1.lt (fun q => by have := (h4.lt (List.mem_filterMap.2 ⟨f.rl, by simp, q.symm⟩)).1; omega)).trans h1
  have hmm : ∀ b, b ∈ bks [(⟨v', 39, (f.ms ++ [m]).length, (f.ms ++ [m]).flatMap cellM⟩ : Rw), f.rc] → b ∈ bks [f.rl, f.rc] ∨ V.heap.size ≤ b := by
    intro b hb
    rw [bks_cons (g := g) hv] at hb
    rcases List.mem_cons.1 hb with rfl | hb
    · rcases hfr with q | q
      · left; exact List.mem_filterMap.2 ⟨f.rl, by simp, q⟩
      · exact .inr q
    · left; exact bks_sub (fun r hr => by simp at hr ⊢; exact .inr hr) b hb
  refine ⟨⟨h0, heap_setCell_same _ _ 1 _ 25 _ hK1, h2, by have := hT.size; omega, hF1.far h2 _, ?_⟩, hT⟩
  obtain ⟨k1, k2, k3, k4, k5, k6⟩ := h5.set (h0.2 K h0.1) hlz hT hmm
  refine ⟨k1, k2, by simp; omega, k4, fun y hy => ?_, k6⟩
  rcases List.mem_append.1 hy with hy | hy
  · exact k5 y hy
  · simp at hy; subst hy; exact ⟨hfit, hfs, stay_setq (h0.2 K h0.1) hlz hm hT hmm⟩
/-- A component more. -/
theorem GJ.comp {M : Nat → Prop} {Z K N j g : Nat} {v' : Value} {f : Fm} {t : Cp} {x : Value × Value × Value} {V V' : World} (h : GJ M Z K N j f V) (hj : f.ts.length < j) (hfit : ∀ k, FitC k t) (hm : Stay (fun b => M b ∧ (b ≤ K ∨ b ∈ bks [f.rl, f.rc])) V (fun W => CpAt j W t x.1 x.2.1 x.2.2))
    (hg : V.grownBy V' f.vc.ownBlock) (ho : V'.ownsRow N 25 3 v' (f.ts.length + 1) (f.xs.flatMap cell3 ++ cell3 x)) (hv : v'.ownBlock = some g) (hfr : f.vc.ownBlock = some g ∨ V.heap.size ≤ g) :
    GJ M Z K N j ⟨f.nm, f.vl, f.ms, v', f.ts ++ [t], f.xs ++ [x]⟩ (V'.setCell ⟨K, 2, none⟩ v') ∧ Tk (fun b => b = K ∨ b ∈ bks [f.rl, f.rc]) V (V'.setCell ⟨K, 2, none⟩ v') := by
  obtain ⟨h0, h1, h2, h3, h4, h5⟩ := h
  have hlz : ∀ b, b ∈ bks [f.rl, f.rc] → M b := fun b hb => h0.2 b (by have := (h4.lt hb).1; have := h0.1; omega)
  have hT1 : Tk (fun b => b = K ∨ b ∈ bks [f.rl, f.rc]) V V' := Tk.grown hg (fun b hb => .inr (List.mem_filterMap.2 ⟨f.rc, by simp, hb⟩))
  have hT := hT1.trans (Tk.set (O := fun b => b = K ∨ b ∈ bks [f.rl, f.rc]) V' K 2 v' (.inl rfl))
  have hF1 := (((h4.perm (List.Perm.swap _ _ _)).up (r' := ⟨v', 25, (f.ts ++ [t]).length, (f.xs ++ [x]).flatMap cell3⟩) hg (by simpa using ho) hv hfr)).perm (List.Perm.swap _ _ _)
  have hK1 : Blk V' K #[.string f.nm, f.vl, f.vc] 25 := (hg.block K h1.lt (fun q => by have := (h4.lt (List.mem_filterMap.2 ⟨f.rc, by simp, q.symm⟩)).1; omega)).trans h1
  have hmm : ∀ b, b ∈ bks [f.rl, (⟨v', 25, (f.ts ++ [t]).length, (f.xs ++ [x]).flatMap cell3⟩ : Rw)] → b ∈ bks [f.rl, f.rc] ∨ V.heap.size ≤ b := by
    intro b hb
    obtain ⟨r, hr, hrb⟩ := List.mem_filterMap.1 hb
    simp only [List.mem_cons, List.not_mem_nil, or_false] at hr
    rcases hr with rfl | rfl
    · left; exact List.mem_filterMap.2 ⟨f.rl, by simp, hrb⟩
    · have e : g = b := by rw [show (Rw.v _) = v' from rfl, hv] at hrb; simpa using hrb
      subst e
      rcases hfr with q | q
      · left; exact List.mem_filterMap.2 ⟨f.rc, by simp, q⟩
      · exact .inr q
  refine ⟨⟨h0, heap_setCell_same _ _ 2 _ 25 _ hK1, h2, by have := hT.size; omega, hF1.far h2 _, ?_⟩, hT⟩
  obtain ⟨k1, k2, k3, k4, k5, k6⟩ := h5.set (h0.2 K h0.1) hlz hT hmm
  refine ⟨by simp; exact k1, k2, k3, by simp; omega, k5, fun i u y hu hy => ?_⟩
  by_cases hi : i < f.ts.length
  · rw [List.getElem?_append_left hi] at hu
    rw [List.getElem?_append_left (by rw [k1]; exact hi)] at hy
    exact k6 i u y hu hy
  · have hi2 : i = f.ts.length := by have := (List.getElem?_eq_some_iff.1 hu).1; rw [List.length_append] at this; simp at this; omega
    subst hi2
    have e1 : u = t := by simpa using hu.symm
    have e2 : y = x := by rw [← k1] at hy; simpa using hy.symm
    subst e1; subst e2
    exact ⟨hfit, stay_setq (h0.2 K h0.1) hlz hm hT hmm⟩
/-- The copy, when it is done: it lies in new memory. -/
theorem GJ.tree {M : Nat → Prop} {Z K N j : Nat} {V : World} {f : Fm} (h : GJ M Z K N j f V) (hj : j ≤ 9223372036854775806) : Stay (fun b => M b ∧ b ≤ K) V (fun W => CpAt (j + 1) W f.cp (.string f.nm) f.vl f.vc) := by
  intro W hW
  obtain ⟨_, _, h2, _, h4, k1, k2, k3, k4, k5, k6⟩ := h
  have own : ∀ r : Rw, V.ownsRow N r.e 3 r.v r.n r.cs → W.ownsRow N r.e 3 r.v r.n r.cs := by
    intro r hr
    refine ⟨hr.1, ?_⟩
    rcases hr.2 with q | ⟨g, cap, cur, q1, q2, q3, q4⟩
    · exact .inl q
    · exact .inr ⟨g, cap, cur, q1, q2, hW.kept q3 (by omega), q4⟩
  have hW2 : Tk (fun b => M b ∧ (b ≤ K ∨ b ∈ bks [f.rl, f.rc])) V W := hW.mono (fun b q => ⟨q.1, .inl q.2⟩)
  have o1 : W.ownsRow N 39 3 f.vl f.ms.length (f.ms.flatMap cellM) := own f.rl (h4.1 f.rl (by simp))
  have o2 : W.ownsRow N 25 3 f.vc f.ts.length (f.xs.flatMap cell3) := own f.rc (h4.1 f.rc (by simp))
  exact ⟨⟨f.nm, rfl, rfl⟩, own_lsat o1 (by omega) (fun m hm => ⟨(k5 m hm).2.1, (k5 m hm).2.2 W hW2⟩), own_trow o2 (by show f.ts.length ≤ maxLen; unfold maxLen; omega) k1 (fun i t x ht hx => (k6 i t x ht hx).2 W hW2)⟩
end Go.Proofs.YtenclgnkogmgiaaDoor
namespace Go.Proofs.YtenclgnkogmgiaaDoor
open Go.RowKit Go.Shelf
set_option linter.unusedVariables false
set_option linter.unusedSimpArgs false

def RcPost (M : Nat → Prop) (w : World) (k : Nat) (L : List Ln) (e : Ending) (w' : World) : Prop :=
  ∃ x y z, ∃ cnt : Nat, e = .returned (.tuple #[compV x y z, .int .i64 cnt]) ∧ Below w.heap.size w w' ∧ (∃ nm a1 n1 c1 a2 n2 c2, x = .string nm ∧ y = .slice a1 n1 c1 ∧ z = .slice a2 n2 c2) ∧
    ((rfP k L = none ∧ cnt = 0) ∨ ∃ t, rfP k L = some (t, L.drop cnt) ∧ cnt ≤ L.length ∧ 1 ≤ cnt ∧ (∀ q, FitC q t) ∧ Stay (fun b => M b ∧ b < w.heap.size) w' (fun W => CpAt (k * 10000) W t x y z))
set_option maxRecDepth 100000 in
theorem rc_fin {M : Nat → Prop} {w W : World} {k : Nat} {L : List Ln} {nm : ByteArray} {a1 a2 : Option Addr} {n1 c1 n2 c2 cnt : Nat} {A : Act} {R : Nat} (hR : Blk W R #[.string nm, .slice a1 n1 c1, .slice a2 n2 c2] 25) (hb : Below w.heap.size w W)
    (h : (rfP k L = none ∧ cnt = 0) ∨ ∃ t, rfP k L = some (t, L.drop cnt) ∧ cnt ≤ L.length ∧ 1 ≤ cnt ∧ (∀ q, FitC q t) ∧ Stay (fun b => M b ∧ b < w.heap.size) W (fun W => CpAt (k * 10000) W t (.string nm) (.slice a1 n1 c1) (.slice a2 n2 c2))) (hd : A.defers = [])
    (h4 : A.tmps[4]?.getD undef = .pointer (some ⟨R, 0, none⟩)) (h5 : A.tmps[5]?.getD undef = .int .i64 cnt) : bodyPost Tryd.prog Tryd.f40 (RcPost M w k L) .ret A W := by
  obtain ⟨c0, c1', c2'⟩ := cells3 hR
  refine bodyPost_ret (v := .tuple #[compV (.string nm) (.slice a1 n1 c1) (.slice a2 n2 c2), .int .i64 cnt]) ?_ hd ⟨_, _, _, cnt, rfl, hb, ⟨_, _, _, _, _, _, _, rfl, rfl, rfl⟩, h⟩
  simp [results, Tryd.results40, go_sem, c0, c1', c2', h4, h5, compV]
def RcC (k : Nat) : Prop := ∀ (M : Nat → Prop) (a : Option Addr) (n c : Nat) (ms : List Lm) (U w : World) (d : Int), d = 9 - (k : Nat) → ms.length = n → n ≤ 4096 → n ≤ c → c ≤ 9223372036854775807 → LRow U a ms → Below U.heap.size U w → (∀ b, U.heap.size ≤ b → M b) → (∀ m ∈ ms, FitN m.ln ∧ m.fs.length ≤ 9223372036854775807 ∧ ∀ X : World, (∀ b, b < U.heap.size → ¬ M b → X.heap[b]? = U.heap[b]?) → FRow X m.a m.fs) →
  Calls Tryd.prog 40 #[.slice a n c, .int .i64 d] w (RcPost M w k (ms.map Lm.ln))
abbrev zC : Obj := .cells #[.string ⟨#[]⟩, .slice none 0 0, .slice none 0 0] 25
theorem two_blocks (w : World) : Blk ((w.alloc zC).alloc zC) w.heap.size #[.string ⟨#[]⟩, .slice none 0 0, .slice none 0 0] 25 ∧ Blk ((w.alloc zC).alloc zC) (w.heap.size + 1) #[.string ⟨#[]⟩, .slice none 0 0, .slice none 0 0] 25 ∧ Below w.heap.size w ((w.alloc zC).alloc zC) := by
  refine ⟨(Blk.new w _ _).alloc _, ?_, (keep w _).alloc (by simp) _⟩
  have := Blk.new (w.alloc zC) #[.string ⟨#[]⟩, .slice none 0 0, .slice none 0 0] 25
  rw [World.size_alloc] at this
  exact this
set_option maxHeartbeats 8000000 in
set_option maxRecDepth 100000 in
theorem read_zero : RcC 0 := by
  intro M a n c ms U w d hd hn hn4 hnc hc hr hb hM hf
  have hd9 : d ≤ 9 := by omega
  have hdd : decide ((8 : Int) < d) = true := by simp; omega
  clear hd
  obtain ⟨b0, b1, bb⟩ := two_blocks w
  obtain ⟨G, hG⟩ : ∃ G, w.heap.size = G := ⟨_, rfl⟩
  have HG : Hid (w.heap.size = G) := hG
  obtain ⟨W0, hW0⟩ : ∃ W0, (w.alloc zC).alloc zC = W0 := ⟨_, rfl⟩
  rw [hW0, hG] at b0 b1
  rw [hW0] at bb
  have HR0 : Hid (Blk W0 G #[.string ⟨#[]⟩, .slice none 0 0, .slice none 0 0] 25) := b0
  have HB0 : Hid (Below w.heap.size w W0) := bb
  obtain ⟨c0, c1, c2⟩ := cells3 b0
  obtain ⟨d0, d1, d2⟩ := cells3 b1
  have s0 := b0.frozen 0
  have s1 := b0.frozen 1
  have s2 := b0.frozen 2
  unfold zC at hW0
  clear b0 b1 bb hr hf hb hn hn4 hnc hc hM
  go_enter Tryd.func40, Tryd.ntmps40
  go_wp2
  exact rc_fin (cnt := 0) (R := G) (fin3_blk HR0.out (.string ⟨#[]⟩) (.slice none 0 0) (.slice none 0 0)) (fin3_below _ _ _ HB0.out (by rw [HG.out]; exact Nat.le_refl _)) (.inl ⟨rfl, rfl⟩) rfl rfl (by first | rfl | simp)
theorem ln_drop {ms : List Lm} {p : Nat} {m : Lm} (h : ms[p]? = some m) : (ms.map Lm.ln).drop p = m.ln :: (ms.map Lm.ln).drop (p + 1) := by
  have hl := (List.getElem?_eq_some_iff.1 h).1
  rw [List.drop_eq_getElem_cons (by simpa using hl)]
  congr 1
  rw [List.getElem_map]
  rw [List.getElem?_eq_getElem hl] at h
  simp only [Option.some.injEq] at h
  rw [h]
theorem row_from {U : World} {b off p : Nat} {ms : List Lm} (h : LRow U (some ⟨b, off, none⟩) ms) : LRow U (some ⟨b, off + p * 3, none⟩) (ms.drop p) := by
  rcases h with h0 | ⟨b', o', e, h⟩
  · rw [h0]; simp; exact .inl rfl
  · cases e
    refine .inr ⟨b, off + p * 3, rfl, fun i m hm => ?_⟩
    rw [List.getElem?_drop] at hm
    have := h _ m hm
    rw [show off + (p + i) * 3 = off + p * 3 + i * 3 by omega] at this
    exact this
theorem tk_belowq {P : Nat → Prop} {U V X : World} (hU : Below U.heap.size U V) (hX : Tk (fun b => U.heap.size ≤ b ∧ P b) V X) : Below U.heap.size U X :=
  ⟨hX.1.trans hU.os, hX.2.1.trans hU.tape, hX.2.2.1.trans hU.output, Nat.le_trans hU.size hX.size, fun b hb => (hX.2.2.2.2 b (by have := hU.size; omega) (fun q => by have := q.1; omega)).trans (hU.block b hb)⟩
theorem fit_cp {f : Fm} {M : Nat → Prop} {K j : Nat} {l : List Rw} {V : World} (h : QmOk M K j l V f) : ∀ q, FitC q f.cp := by
  intro q
  cases q with
  | zero => trivial
  | succ q =>
    obtain ⟨h1, h2, h3, h4, h5, h6⟩ := h
    refine ⟨by show (nums f.nm).length ≤ _; rw [nums_len]; exact h2, fun l hl => ?_, fun t ht => ?_⟩
    · obtain ⟨m, hm, rfl⟩ := List.mem_map.1 hl
      exact (h5 m hm).1
    · obtain ⟨i, hi⟩ := List.getElem?_of_mem ht
      have hil : i < f.ts.length := (List.getElem?_eq_some_iff.1 hi).1
      obtain ⟨x, hx⟩ : ∃ x, f.xs[i]? = some x := ⟨_, List.getElem?_eq_getElem (by omega)⟩
      exact (h6 i t x hi hx).1 q
set_option maxHeartbeats 32000000 in
set_option maxRecDepth 100000 in
theorem read_step (k : Nat) (hk8 : k < 8) (ih : RcC k) : RcC (k + 1) := by
  intro M a n c ms U w d hd hn hn4 hnc hc hr hb hM hf
  obtain ⟨b0, b1, bb⟩ := two_blocks w
  obtain ⟨G, hG⟩ : ∃ G, w.heap.size = G := ⟨_, rfl⟩
  have HG : Hid (w.heap.size = G) := hG
  obtain ⟨W0, hW0⟩ : ∃ W0, (w.alloc zC).alloc zC = W0 := ⟨_, rfl⟩
  have hz0 : W0.heap.size = G + 2 := by rw [← hW0, World.size_alloc, World.size_alloc, hG]
  have HZ0 : Hid (W0.heap.size = G + 2) := hz0
  rw [hW0, hG] at b0 b1
  rw [hW0] at bb
  have HUG : Hid (U.heap.size ≤ G) := by unfold Hid; rw [← hG]; exact hb.size
  have HR0 : Hid (Blk W0 G #[.string ⟨#[]⟩, .slice none 0 0, .slice none 0 0] 25) := b0
  have HK0 : Hid (Blk W0 (G + 1) #[.string ⟨#[]⟩, .slice none 0 0, .slice none 0 0] 25) := b1
  have HB0 : Hid (Below w.heap.size w W0) := bb
  have HUW : Hid (Below U.heap.size U w) := hb
  have HLR : Hid (LRow U a ms) := hr
  have HF : Hid (∀ m ∈ ms, FitN m.ln ∧ m.fs.length ≤ 9223372036854775807 ∧ ∀ X : World, (∀ b, b < U.heap.size → ¬ M b → X.heap[b]? = U.heap[b]?) → FRow X m.a m.fs) := hf
  have HM : Hid (∀ b, U.heap.size ≤ b → M b) := hM
  have HN : Hid (ms.length = n) := hn
  have HIH : Hid (RcC k) := ih
  obtain ⟨c0, c1, c2⟩ := cells3 b0
  obtain ⟨d0, d1, d2⟩ := cells3 b1
  have s0 := b0.frozen 0
  have s1 := b0.frozen 1
  have s2 := b0.frozen 2
  have HW0 : Hid ((w.alloc zC).alloc zC = W0) := hW0
  have hd8 : d ≤ 8 := by omega
  have HD : Hid (d + 1 = 9 - (k : Nat)) := by unfold Hid; omega
  have hd0 : 0 ≤ d := by omega
  have hdd : decide ((8 : Int) < d) = false := by simp; omega
  unfold zC at hW0
  clear b0 b1 bb hb hr hf hd ih hM
  by_cases h0 : n = 0
  · subst h0
    have HNO : Hid (rfP (k + 1) (ms.map Lm.ln) = none) := by unfold Hid; rw [List.eq_nil_of_length_eq_zero hn]; rfl
    clear hn
    go_enter Tryd.func40, Tryd.ntmps40
    go_wp2
    exact rc_fin (cnt := 0) (R := G) (fin3_blk HR0.out (.string ⟨#[]⟩) (.slice none 0 0) (.slice none 0 0)) (fin3_below _ _ _ HB0.out (by rw [HG.out]; exact Nat.le_refl _)) (.inl ⟨HNO.out, rfl⟩) rfl rfl (by first | rfl | simp)
  have h0' : ((n : Int) == 0) = false := by rw [beq_eq_false_iff_ne]; omega
  obtain ⟨m0, hm0⟩ : ∃ m, ms[0]? = some m := ⟨_, List.getElem?_eq_getElem (by omega)⟩
  obtain ⟨b, off, rfl⟩ : ∃ b off, a = some ⟨b, off, none⟩ := by
    rcases HLR.out with h | ⟨b, off, e, _⟩
    · rw [h] at hm0; simp at hm0
    · exact ⟨b, off, e⟩
  have HCL : Hid (∀ (i : Nat) m, ms[i]? = some m → (U.cell? ⟨b, off + i * 3, none⟩ = some (.string m.nm) ∧ U.cell? ⟨b, off + i * 3 + 1, none⟩ = some (.slice m.a m.fs.length m.c) ∧ U.cell? ⟨b, off + i * 3 + 2, none⟩ = some (.string m.vl)) ∧ FRow U m.a m.fs) := by
    rcases HLR.out with h | ⟨b', off', e, h⟩
    · rw [h] at hm0; simp at hm0
    · cases e; exact h
  have HU0 : Hid (Below U.heap.size U W0) := HUW.out.trans (HB0.out.mono HUW.out.size)
  obtain ⟨⟨e0, e1, e2⟩, _⟩ := HCL.out 0 m0 hm0
  have e0 := cell_keep HU0.out e0
  have e1 := cell_keep HU0.out e1
  have e2 := cell_keep HU0.out e2
  have hL0 := ln_drop hm0
  rw [List.drop_zero] at hL0
  have hfit0 := (HF.out m0 (List.mem_of_getElem? hm0)).1
  obtain ⟨mn, mv, ma, mc, fs⟩ := m0
  simp only [Nat.zero_mul, Nat.add_zero] at e0 e1 e2
  obtain ⟨fn, hfn⟩ : ∃ q, fs.length = q := ⟨_, rfl⟩
  have hfm : fn ≤ 9223372036854775807 := by have := (HF.out _ (List.mem_of_getElem? hm0)).2.1; simp only at this; omega
  rw [hfn] at e1
  have HL0 : Hid (ms.map Lm.ln = Lm.ln ⟨mn, mv, ma, mc, fs⟩ :: (ms.map Lm.ln).drop 1) := hL0
  have HPS : Hid ((Lm.ln ⟨mn, mv, ma, mc, fs⟩).pars = [] ↔ fn = 0) := by
    unfold Hid Lm.ln numsP; simp only [List.map_eq_nil_iff]; rw [← hfn]; exact List.length_eq_zero_iff.symm
  have HNB : Hid ((Lm.ln ⟨mn, mv, ma, mc, fs⟩).name = bgZ ↔ mn.toList = [66, 69, 71, 73, 78]) := (bg_iff mn).symm
  have hmv : mv.size ≤ 100000 := by have := hfit0.2.1; simpa [Lm.ln, nums_len] using this
  clear hL0 hfit0 hm0 hfn
  by_cases p1 : mn.toList = [66, 69, 71, 73, 78]
  rotate_left
  · have p1' : (mn.toList == [66, 69, 71, 73, 78]) = false := by simpa using p1
    have HNO : Hid (rfP (k + 1) (ms.map Lm.ln) = none) := by unfold Hid; rw [HL0.out]; exact rf_bad (.inl (fun q => p1 (HNB.out.1 q)))
    go_enter Tryd.func40, Tryd.ntmps40
    go_wp2
    exact rc_fin (cnt := 0) (R := G) (fin3_blk HR0.out (.string ⟨#[]⟩) (.slice none 0 0) (.slice none 0 0)) (fin3_below _ _ _ HB0.out (by rw [HG.out]; exact Nat.le_refl _)) (.inl ⟨HNO.out, rfl⟩) rfl rfl (by first | rfl | simp)
  have p1' : (mn.toList == [66, 69, 71, 73, 78]) = true := by rw [p1]; rfl
  by_cases p2 : fn = 0
  rotate_left
  · have p2' : decide ((0 : Int) < (fn : Int)) = true := by simp; omega
    have HNO : Hid (rfP (k + 1) (ms.map Lm.ln) = none) := by unfold Hid; rw [HL0.out]; exact rf_bad (.inr (fun q => p2 (HPS.out.1 q)))
    go_enter Tryd.func40, Tryd.ntmps40
    go_wp2
    exact rc_fin (cnt := 0) (R := G) (fin3_blk HR0.out (.string ⟨#[]⟩) (.slice none 0 0) (.slice none 0 0)) (fin3_below _ _ _ HB0.out (by rw [HG.out]; exact Nat.le_refl _)) (.inl ⟨HNO.out, rfl⟩) rfl rfl (by first | rfl | simp)
  have HGO : Hid (rfP (k + 1) (ms.map Lm.ln) = rlL (rfP k) (((ms.map Lm.ln).drop 1).length + 1) ⟨(nums mv).map largeZ, [], []⟩ ((ms.map Lm.ln).drop 1)) := by
    unfold Hid; rw [HL0.out]; rw [rf_go (HNB.out.2 p1) (HPS.out.2 p2)]; rfl
  subst p2
  have hup := rupper_any mv W0 (by omega)
  obtain ⟨un, hun⟩ : ∃ un, strOfNums ((nums mv).map largeZ) = un := ⟨_, rfl⟩
  have HUN : Hid (nums un = (nums mv).map largeZ) := by unfold Hid; rw [← hun]; exact nums_large mv
  have hunz : un.size ≤ 100000 := by rw [← nums_len, HUN.out, List.length_map, nums_len]; exact hmv
  rw [hun] at hup
  clear hun hmv
  go_enter Tryd.func40, Tryd.ntmps40
  go_wp2_with fail
  refine hup.mono ?_
  rintro e w1 ⟨rfl, hb1⟩
  clear hup e0 e1 e2 c0 c1 c2 d0 d1 d2 s0 s1 s2
  have HB1 : Hid (Below w.heap.size w w1) := HB0.out.trans (hb1.mono HB0.out.size)
  have hR1 := HR0.out.below hb1 HR0.out.lt
  have hK1 := HK0.out.below hb1 HK0.out.lt
  have hs1 : G + 2 ≤ w1.heap.size := by have := hb1.size; omega
  obtain ⟨d0, d1, d2⟩ := cells3 hK1
  have d3 := hK1.frozen 0
  have HC1 : Hid (GJ M U.heap.size (G + 1) (G + 2) (k * 10000 + 5000) ⟨un, .slice none 0 0, [], .slice none 0 0, [], []⟩ (w1.setCell ⟨G + 1, 0, none⟩ (.string un)) ∧ Blk (w1.setCell ⟨G + 1, 0, none⟩ (.string un)) G #[.string ⟨#[]⟩, .slice none 0 0, .slice none 0 0] 25 ∧ Below w.heap.size w (w1.setCell ⟨G + 1, 0, none⟩ (.string un))) := by
    refine ⟨⟨⟨by have := HUG.out; omega, HM.out⟩, heap_setCell_same _ _ 0 _ 25 _ hK1, by omega, by simpa using hs1, ⟨fun r hr => by simp [Fm.rl, Fm.rc] at hr; rcases hr with rfl | rfl <;> exact World.ownsRow_nil _ _ _ _, by simp [bks, Fm.rl, Fm.rc, Value.ownBlock]⟩, rfl, hunz, Nat.zero_le _, Nat.zero_le _, fun m hm => by simp at hm, fun i t x ht => by simp at ht⟩, hR1.other (by omega) _, HB1.out.setCell (p := ⟨G + 1, 0, none⟩) (by show w.heap.size ≤ G + 1; have := HG.out; omega) _⟩
  clear hb1 hR1 hK1
  go_wp2
  go_loopw [7, 8, 9] (fun i _ _ wr => ∃ (p fuel : Nat) (f : Fm), i = .int .i64 (p : Nat) ∧ 1 ≤ p ∧ p ≤ n ∧ GJ M U.heap.size (G + 1) (G + 2) (k * 10000 + 5000) f wr ∧ f.ms.length + f.ts.length ≤ p ∧ n - p < fuel ∧ rfP (k + 1) (ms.map Lm.ln) = rlL (rfP k) fuel f.cp ((ms.map Lm.ln).drop p) ∧ Blk wr G #[.string ⟨#[]⟩, .slice none 0 0, .slice none 0 0] 25 ∧ Below w.heap.size w wr) (fun i _ _ _ => n - (intOf i).toNat)
  case atStart => exact ⟨1, ((ms.map Lm.ln).drop 1).length + 1, _, rfl, by omega, by omega, HC1.out.1, Nat.zero_le _, by rw [List.length_drop, List.length_map, HN.out]; omega, by rw [HGO.out]; unfold Fm.cp; rw [HUN.out]; rfl, HC1.out.2.1, HC1.out.2.2⟩
  case round =>
    clear HC1 HGO HUN HPS HNB HL0 p1 p1' d0 d1 d2 d3
    obtain ⟨p, fuel, f, rfl, hp1, hp2, hqj, hfl, hfu, hgo, hR, hbw⟩ := hrel
    have HQ0 : Hid (GJ M U.heap.size (G + 1) (G + 2) (k * 10000 + 5000) f wr) := hqj
    have HR : Hid (Blk wr G #[.string ⟨#[]⟩, .slice none 0 0, .slice none 0 0] 25) := hR
    have HBW : Hid (Below w.heap.size w wr) := hbw
    have HUR : Hid (Below U.heap.size U wr) := HUW.out.trans (hbw.mono HUW.out.size)
    obtain ⟨fuel, rfl⟩ : ∃ q, fuel = q + 1 := ⟨fuel - 1, by omega⟩
    obtain ⟨fnm, fvl, fms, fvc, fts, fxs⟩ := f
    obtain ⟨va, vc, hvl⟩ := row_form (hqj.2.2.2.2.1.1 (Fm.rl ⟨fnm, fvl, fms, fvc, fts, fxs⟩) (by simp))
    obtain ⟨xa, xc, hvc⟩ := row_form (hqj.2.2.2.2.1.1 (Fm.rc ⟨fnm, fvl, fms, fvc, fts, fxs⟩) (by simp))
    simp only [Fm.rl] at hvl
    simp only [Fm.rc] at hvc
    obtain ⟨vn, hvn⟩ : ∃ q, fms.length = q := ⟨_, rfl⟩
    obtain ⟨xn, hxn⟩ : ∃ q, fts.length = q := ⟨_, rfl⟩
    rw [hvn] at hvl
    rw [hxn] at hvc
    subst hvl hvc
    have HVN : Hid (fms.length = vn) := hvn
    have HXN : Hid (fts.length = xn) := hxn
    have hfl' : vn + xn ≤ p := by simp only at hfl; omega
    have HQ : Hid (GJ M U.heap.size (G + 1) (G + 2) (k * 10000 + 5000) ⟨fnm, .slice va vn vc, fms, .slice xa xn xc, fts, fxs⟩ wr) := hqj
    have HGO : Hid (rfP (k + 1) (ms.map Lm.ln) = rlL (rfP k) (fuel + 1) (Fm.cp ⟨fnm, .slice va vn vc, fms, .slice xa xn xc, fts, fxs⟩) ((ms.map Lm.ln).drop p)) := hgo
    obtain ⟨k0, k1, k2⟩ := cells3 hqj.2.1
    obtain ⟨r0, r1, r2⟩ := cells3 hR
    have s0 := hR.frozen 0
    have s1 := hR.frozen 1
    have s2 := hR.frozen 2
    clear hqj hfl hgo hR hbw hvn hxn HQ0
    by_cases hlt : p < n
    rotate_left
    · obtain rfl : p = n := by omega
      have HNO : Hid (rfP (k + 1) (ms.map Lm.ln) = none) := by
        unfold Hid; rw [HGO.out, List.drop_of_length_le (by rw [List.length_map, HN.out]; exact Nat.le_refl _)]; rfl
      go_wp2
      exact rc_fin (cnt := 0) (R := G) (fin3_blk HR.out (.string fnm) (.slice va vn vc) (.slice xa xn xc)) (fin3_below _ _ _ HBW.out (by rw [HG.out]; exact Nat.le_refl _)) (.inl ⟨HNO.out, rfl⟩) rfl rfl (by first | rfl | simp)
    obtain ⟨m, hm⟩ : ∃ m, ms[p]? = some m := ⟨_, List.getElem?_eq_getElem (by have := HN.out; omega)⟩
    obtain ⟨⟨f0, f1, f2⟩, hfr⟩ := HCL.out p m hm
    have HDR := ln_drop hm
    have hfit := HF.out m (List.mem_of_getElem? hm)
    have e0 := cell_keep HUR.out f0
    have e1 := cell_keep HUR.out f1
    have e2 := cell_keep HUR.out f2
    obtain ⟨mn, mv, ma, mc, fs⟩ := m
    simp only at e0 e1 e2 f0 f1 f2 hfr
    obtain ⟨fn, hfn⟩ : ∃ q, fs.length = q := ⟨_, rfl⟩
    rw [hfn] at e1 f1
    have HSA : Hid (∀ V : World, (∀ q, q < U.heap.size → V.heap[q]? = U.heap[q]?) → V.cell? ⟨b, off + p * 3, none⟩ = some (.string mn) ∧ V.cell? ⟨b, off + p * 3 + 1, none⟩ = some (.slice ma fn mc) ∧ V.cell? ⟨b, off + p * 3 + 2, none⟩ = some (.string mv)) := fun V hq => by
      have hq := hq b (World.block_lt_of_cell? U _ f0)
      exact ⟨(World.cell?_of_block hq).trans f0, (World.cell?_of_block hq).trans f1, (World.cell?_of_block hq).trans f2⟩
    clear f0 f1 f2
    have HFN : Hid (fs.length = fn) := hfn
    have hfm : fn ≤ 9223372036854775807 := by have := hfit.2.1; simp only at this; omega
    have HFT : Hid (FitN (Lm.ln ⟨mn, mv, ma, mc, fs⟩)) := hfit.1
    have HFR : Hid (∀ X : World, (∀ b, b < U.heap.size → ¬ M b → X.heap[b]? = U.heap[b]?) → FRow X ma fs) := hfit.2.2
    have HDR : Hid ((ms.map Lm.ln).drop p = Lm.ln ⟨mn, mv, ma, mc, fs⟩ :: (ms.map Lm.ln).drop (p + 1)) := HDR
    have HPS : Hid ((Lm.ln ⟨mn, mv, ma, mc, fs⟩).pars = [] ↔ fn = 0) := by
      unfold Hid Lm.ln numsP; simp only [List.map_eq_nil_iff]; rw [← hfn]; exact List.length_eq_zero_iff.symm
    have HNB : Hid ((Lm.ln ⟨mn, mv, ma, mc, fs⟩).name = bgZ ↔ mn.toList = [66, 69, 71, 73, 78]) := (bg_iff mn).symm
    have HNE : Hid ((Lm.ln ⟨mn, mv, ma, mc, fs⟩).name = enZ ↔ mn.toList = [69, 78, 68]) := (en_iff mn).symm
    have hmv : mv.size ≤ 100000 := by have := hfit.1.2.1; simpa [Lm.ln, nums_len] using this
    have hpi : ¬ (n : Int) ≤ p := by omega
    clear hfr hfit hfn hm
    by_cases p1 : mn.toList = [69, 78, 68]
    · have p1' : (mn.toList == [69, 78, 68]) = true := by rw [p1]; rfl
      by_cases p2 : fn = 0
      rotate_left
      · have p2n : 0 < fn := by omega
        have p2' : decide ((0 : Int) < (fn : Int)) = true := by simp; omega
        have HNO : Hid (rfP (k + 1) (ms.map Lm.ln) = none) := by unfold Hid; rw [HGO.out, HDR.out]; exact rl_endn (HNE.out.2 p1) (.inl (fun q => p2 (HPS.out.1 q)))
        go_wp2
        refine wp_region_held_drew (S := (fun V => V.cell? ⟨b, off + p * 3 + 1, none⟩ = some (.slice ma fn mc))) (by kernel_rfl) (by exact e1) (fun hHeld => ?_)
        refine takeD (some 49) (i := 0) (v := .slice (some ⟨b, off, none⟩) n c) rfl rfl (by kernel_rfl) (by kernel_rfl) (by kernel_rfl) (fun _ _ _ h => h) (Or.inl ⟨by kernel_rfl, ?_⟩) (by assumption) ?_
        · (intro w hSw; (try dsimp only at hSw); go_simp)
        (try simp only [Act.put, List.setIfInBounds_toArray, List.set_cons_zero, List.set_cons_succ])
        refine takeD (some 50) (i := 1) (v := .int .i64 (p : Nat)) rfl rfl (by kernel_rfl) (by kernel_rfl) (by kernel_rfl) (fun _ _ _ h => h) (Or.inl ⟨by kernel_rfl, ?_⟩) (by assumption) ?_
        · (intro w hSw; (try dsimp only at hSw); go_simp)
        (try simp only [Act.put, List.setIfInBounds_toArray, List.set_cons_zero, List.set_cons_succ])
        refine takeD (some 51) (i := 2) (v := .pointer (some ⟨b, off + p * 3, none⟩)) rfl rfl (by kernel_rfl) (by kernel_rfl) (by kernel_rfl) (fun _ _ _ h => h) (Or.inl ⟨by kernel_rfl, ?_⟩) (by assumption) ?_
        · (intro w hSw; (try dsimp only at hSw); go_simp)
        (try simp only [Act.put, List.setIfInBounds_toArray, List.set_cons_zero, List.set_cons_succ])
        refine takeD (some 52) (i := 3) (v := .pointer (some ⟨b, off + p * 3 + 1, none⟩)) rfl rfl (by kernel_rfl) (by kernel_rfl) (by kernel_rfl) (fun _ _ _ h => h) (Or.inl ⟨by kernel_rfl, ?_⟩) (by assumption) ?_
        · (intro w hSw; (try dsimp only at hSw); go_simp)
        (try simp only [Act.put, List.setIfInBounds_toArray, List.set_cons_zero, List.set_cons_succ])
        refine takeD (some 53) (i := 4) (v := .slice ma fn mc) rfl rfl (by kernel_rfl) (by kernel_rfl) (by kernel_rfl) (fun _ _ _ h => h) (Or.inl ⟨by kernel_rfl, ?_⟩) (by assumption) ?_
        · (intro w hSw; (try dsimp only at hSw); go_simp)
        (try simp only [Act.put, List.setIfInBounds_toArray, List.set_cons_zero, List.set_cons_succ])
        refine takeD (some 54) (i := 5) (v := .int .i64 (fn : Nat)) rfl rfl (by kernel_rfl) (by kernel_rfl) (by kernel_rfl) (fun _ _ _ h => h) (Or.inl ⟨by kernel_rfl, ?_⟩) (by assumption) ?_
        · (intro w hSw; (try dsimp only at hSw); go_simp)
        (try simp only [Act.put, List.setIfInBounds_toArray, List.set_cons_zero, List.set_cons_succ])
        refine takeD (some 55) (i := 6) (v := .bool true) rfl rfl (by kernel_rfl) (by kernel_rfl) (by kernel_rfl) (fun _ _ _ h => h) (Or.inl ⟨by kernel_rfl, ?_⟩) (by assumption) ?_
        · (intro w hSw; (try dsimp only at hSw); go_simp)
        (try simp only [Act.put, List.setIfInBounds_toArray, List.set_cons_zero, List.set_cons_succ])
        refine takeD (some 56) (i := 7) (v := .bool true) rfl rfl (by kernel_rfl) (by kernel_rfl) (by kernel_rfl) (fun _ _ _ h => h) (Or.inl ⟨by kernel_rfl, ?_⟩) (by assumption) ?_
        · (intro w hSw; (try dsimp only at hSw); go_simp)
        (try simp only [Act.put, List.setIfInBounds_toArray, List.set_cons_zero, List.set_cons_succ])
        refine takeD (some 57) (i := 8) (v := undef) rfl rfl (by kernel_rfl) (by kernel_rfl) (by kernel_rfl) (fun _ _ _ h => h) (Or.inr ⟨by kernel_rfl, rfl⟩) (by assumption) ?_
        (try simp only [Act.put, List.setIfInBounds_toArray, List.set_cons_zero, List.set_cons_succ])
        refine takeD (some 58) (i := 9) (v := undef) rfl rfl (by kernel_rfl) (by kernel_rfl) (by kernel_rfl) (fun _ _ _ h => h) (Or.inr ⟨by kernel_rfl, rfl⟩) (by assumption) ?_
        (try simp only [Act.put, List.setIfInBounds_toArray, List.set_cons_zero, List.set_cons_succ])
        refine takeD (some 59) (i := 10) (v := undef) rfl rfl (by kernel_rfl) (by kernel_rfl) (by kernel_rfl) (fun _ _ _ h => h) (Or.inr ⟨by kernel_rfl, rfl⟩) (by assumption) ?_
        (try simp only [Act.put, List.setIfInBounds_toArray, List.set_cons_zero, List.set_cons_succ])
        refine takeD (some 60) (i := 11) (v := undef) rfl rfl (by kernel_rfl) (by kernel_rfl) (by kernel_rfl) (fun _ _ _ h => h) (Or.inr ⟨by kernel_rfl, rfl⟩) (by assumption) ?_
        (try simp only [Act.put, List.setIfInBounds_toArray, List.set_cons_zero, List.set_cons_succ])
        refine takeD (some 61) (i := 12) (v := undef) rfl rfl (by kernel_rfl) (by kernel_rfl) (by kernel_rfl) (fun _ _ _ h => h) (Or.inr ⟨by kernel_rfl, rfl⟩) (by assumption) ?_
        (try simp only [Act.put, List.setIfInBounds_toArray, List.set_cons_zero, List.set_cons_succ])
        refine takeD (some 62) (i := 13) (v := undef) rfl rfl (by kernel_rfl) (by kernel_rfl) (by kernel_rfl) (fun _ _ _ h => h) (Or.inr ⟨by kernel_rfl, rfl⟩) (by assumption) ?_
        (try simp only [Act.put, List.setIfInBounds_toArray, List.set_cons_zero, List.set_cons_succ])
        refine takeD (some 63) (i := 14) (v := undef) rfl rfl (by kernel_rfl) (by kernel_rfl) (by kernel_rfl) (fun _ _ _ h => h) (Or.inr ⟨by kernel_rfl, rfl⟩) (by assumption) ?_
        (try simp only [Act.put, List.setIfInBounds_toArray, List.set_cons_zero, List.set_cons_succ])
        refine takeD (some 64) (i := 15) (v := undef) rfl rfl (by kernel_rfl) (by kernel_rfl) (by kernel_rfl) (fun _ _ _ h => h) (Or.inr ⟨by kernel_rfl, rfl⟩) (by assumption) ?_
        (try simp only [Act.put, List.setIfInBounds_toArray, List.set_cons_zero, List.set_cons_succ])
        refine takeD (some 65) (i := 16) (v := undef) rfl rfl (by kernel_rfl) (by kernel_rfl) (by kernel_rfl) (fun _ _ _ h => h) (Or.inr ⟨by kernel_rfl, rfl⟩) (by assumption) ?_
        (try simp only [Act.put, List.setIfInBounds_toArray, List.set_cons_zero, List.set_cons_succ])
        refine takeD (some 66) (i := 17) (v := .bool true) rfl rfl (by kernel_rfl) (by kernel_rfl) (by kernel_rfl) (fun _ _ _ h => h) (Or.inl ⟨by kernel_rfl, ?_⟩) (by assumption) ?_
        · (intro w hSw; (try dsimp only at hSw); go_simp)
        (try simp only [Act.put, List.setIfInBounds_toArray, List.set_cons_zero, List.set_cons_succ])
        refine wpAnyH_done (by kernel_rfl) ?_ _
        go_wp2
        exact rc_fin (cnt := 0) (R := G) (fin3_blk HR.out (.string fnm) (.slice va vn vc) (.slice xa xn xc)) (fin3_below _ _ _ (below_drew HBW.out) (by rw [HG.out]; exact Nat.le_refl _)) (.inl ⟨HNO.out, rfl⟩) rfl rfl (by first | rfl | simp)
      · subst p2
        have hup := fun V => rupper_any mv V (by omega)
        obtain ⟨un, hun⟩ : ∃ un, strOfNums ((nums mv).map largeZ) = un := ⟨_, rfl⟩
        have HUN : Hid (nums un = (nums mv).map largeZ) := by unfold Hid; rw [← hun]; exact nums_large mv
        rw [hun] at hup
        have HKE : Hid (∀ V, Below wr.heap.size wr V → GJ M U.heap.size (G + 1) (G + 2) (k * 10000 + 5000) ⟨fnm, .slice va vn vc, fms, .slice xa xn xc, fts, fxs⟩ V ∧ Blk V G #[.string ⟨#[]⟩, .slice none 0 0, .slice none 0 0] 25 ∧ Below w.heap.size w V) := fun V hV => ⟨HQ.out.keep hV, HR.out.below hV HR.out.lt, HBW.out.trans (hV.mono HBW.out.size)⟩
        have hSall : ∀ V, Below wr.heap.size wr V → Below wr.heap.size wr V ∧ V.cell? ⟨b, off + p * 3 + 1, none⟩ = some (.slice ma 0 mc) ∧ V.cell? ⟨b, off + p * 3 + 2, none⟩ = some (.string mv) ∧ V.cell? ⟨G + 1, 0, none⟩ = some (.string fnm) := fun V hb => ⟨hb, cell_keep hb e1, cell_keep hb e2, cell_keep hb k0⟩
        clear hun
        by_cases p3 : un = fnm
        · have HYES : Hid (rfP (k + 1) (ms.map Lm.ln) = some (Fm.cp ⟨fnm, .slice va vn vc, fms, .slice xa xn xc, fts, fxs⟩, (ms.map Lm.ln).drop (p + 1))) := by
            unfold Hid; rw [HGO.out, HDR.out]; exact rl_end (HNE.out.2 p1) (HPS.out.2 rfl) (by show (nums mv).map largeZ = nums fnm; rw [← HUN.out, p3])
          subst p3
          have p3' : (un.toList == un.toList) = true := by simp
          go_wp2
          refine wp_region_held_drew (S := (fun V => Below wr.heap.size wr V ∧ V.cell? ⟨b, off + p * 3 + 1, none⟩ = some (.slice ma 0 mc) ∧ V.cell? ⟨b, off + p * 3 + 2, none⟩ = some (.string mv) ∧ V.cell? ⟨G + 1, 0, none⟩ = some (.string un))) (by kernel_rfl) (by exact hSall _ (by first | assumption | exact below_drew (Below.refl _ _))) (fun hHeld => ?_)
          refine takeD (some 49) (i := 0) (v := .slice (some ⟨b, off, none⟩) n c) rfl rfl (by kernel_rfl) (by kernel_rfl) (by kernel_rfl) (fun _ _ _ h => h) (Or.inl ⟨by kernel_rfl, ?_⟩) (by assumption) ?_
          · (intro w hSw; (try dsimp only at hSw); go_simp)
          (try simp only [Act.put, List.setIfInBounds_toArray, List.set_cons_zero, List.set_cons_succ])
          refine takeD (some 50) (i := 1) (v := .int .i64 (p : Nat)) rfl rfl (by kernel_rfl) (by kernel_rfl) (by kernel_rfl) (fun _ _ _ h => h) (Or.inl ⟨by kernel_rfl, ?_⟩) (by assumption) ?_
          · (intro w hSw; (try dsimp only at hSw); go_simp)
          (try simp only [Act.put, List.setIfInBounds_toArray, List.set_cons_zero, List.set_cons_succ])
          refine takeD (some 51) (i := 2) (v := .pointer (some ⟨b, off + p * 3, none⟩)) rfl rfl (by kernel_rfl) (by kernel_rfl) (by kernel_rfl) (fun _ _ _ h => h) (Or.inl ⟨by kernel_rfl, ?_⟩) (by assumption) ?_
          · (intro w hSw; (try dsimp only at hSw); go_simp)
          (try simp only [Act.put, List.setIfInBounds_toArray, List.set_cons_zero, List.set_cons_succ])
          refine takeD (some 52) (i := 3) (v := .pointer (some ⟨b, off + p * 3 + 1, none⟩)) rfl rfl (by kernel_rfl) (by kernel_rfl) (by kernel_rfl) (fun _ _ _ h => h) (Or.inl ⟨by kernel_rfl, ?_⟩) (by assumption) ?_
          · (intro w hSw; (try dsimp only at hSw); go_simp)
          (try simp only [Act.put, List.setIfInBounds_toArray, List.set_cons_zero, List.set_cons_succ])
          refine takeD (some 53) (i := 4) (v := .slice ma 0 mc) rfl rfl (by kernel_rfl) (by kernel_rfl) (by kernel_rfl) (fun _ _ _ h => h) (Or.inl ⟨by kernel_rfl, ?_⟩) (by assumption) ?_
          · (intro w hSw; (try dsimp only at hSw); go_simp)
          (try simp only [Act.put, List.setIfInBounds_toArray, List.set_cons_zero, List.set_cons_succ])
          refine takeD (some 54) (i := 5) (v := .int .i64 0) rfl rfl (by kernel_rfl) (by kernel_rfl) (by kernel_rfl) (fun _ _ _ h => h) (Or.inl ⟨by kernel_rfl, ?_⟩) (by assumption) ?_
          · (intro w hSw; (try dsimp only at hSw); go_simp)
          (try simp only [Act.put, List.setIfInBounds_toArray, List.set_cons_zero, List.set_cons_succ])
          refine takeD (some 55) (i := 6) (v := .bool false) rfl rfl (by kernel_rfl) (by kernel_rfl) (by kernel_rfl) (fun _ _ _ h => h) (Or.inl ⟨by kernel_rfl, ?_⟩) (by assumption) ?_
          · (intro w hSw; (try dsimp only at hSw); go_simp)
          (try simp only [Act.put, List.setIfInBounds_toArray, List.set_cons_zero, List.set_cons_succ])
          refine takeD (some 56) (i := 7) (v := .bool false) rfl rfl (by kernel_rfl) (by kernel_rfl) (by kernel_rfl) (fun _ _ _ h => h) (Or.inl ⟨by kernel_rfl, ?_⟩) (by assumption) ?_
          · (intro w hSw; (try dsimp only at hSw); go_simp)
          (try simp only [Act.put, List.setIfInBounds_toArray, List.set_cons_zero, List.set_cons_succ])
          refine takeD (some 57) (i := 8) (v := .slice (some ⟨b, off, none⟩) n c) rfl rfl (by kernel_rfl) (by kernel_rfl) (by kernel_rfl) (fun _ _ _ h => h) (Or.inl ⟨by kernel_rfl, ?_⟩) (by assumption) ?_
          · (intro w hSw; (try dsimp only at hSw); go_simp)
          (try simp only [Act.put, List.setIfInBounds_toArray, List.set_cons_zero, List.set_cons_succ])
          refine takeD (some 58) (i := 9) (v := .int .i64 (p : Nat)) rfl rfl (by kernel_rfl) (by kernel_rfl) (by kernel_rfl) (fun _ _ _ h => h) (Or.inl ⟨by kernel_rfl, ?_⟩) (by assumption) ?_
          · (intro w hSw; (try dsimp only at hSw); go_simp)
          (try simp only [Act.put, List.setIfInBounds_toArray, List.set_cons_zero, List.set_cons_succ])
          refine takeD (some 59) (i := 10) (v := .pointer (some ⟨b, off + p * 3, none⟩)) rfl rfl (by kernel_rfl) (by kernel_rfl) (by kernel_rfl) (fun _ _ _ h => h) (Or.inl ⟨by kernel_rfl, ?_⟩) (by assumption) ?_
          · (intro w hSw; (try dsimp only at hSw); go_simp)
          (try simp only [Act.put, List.setIfInBounds_toArray, List.set_cons_zero, List.set_cons_succ])
          refine takeD (some 60) (i := 11) (v := .pointer (some ⟨b, off + p * 3 + 2, none⟩)) rfl rfl (by kernel_rfl) (by kernel_rfl) (by kernel_rfl) (fun _ _ _ h => h) (Or.inl ⟨by kernel_rfl, ?_⟩) (by assumption) ?_
          · (intro w hSw; (try dsimp only at hSw); go_simp)
          (try simp only [Act.put, List.setIfInBounds_toArray, List.set_cons_zero, List.set_cons_succ])
          refine takeD (some 61) (i := 12) (v := .string mv) rfl rfl (by kernel_rfl) (by kernel_rfl) (by kernel_rfl) (fun _ _ _ h => h) (Or.inl ⟨by kernel_rfl, ?_⟩) (by assumption) ?_
          · (intro w hSw; (try dsimp only at hSw); go_simp)
          (try simp only [Act.put, List.setIfInBounds_toArray, List.set_cons_zero, List.set_cons_succ])
          refine takeD (some 63) (i := 14) (v := .pointer (some ⟨G + 1, 0, none⟩)) rfl rfl (by kernel_rfl) (by kernel_rfl) (by kernel_rfl) (fun _ _ _ h => h) (Or.inl ⟨by kernel_rfl, ?_⟩) (by assumption) ?_
          · (intro w hSw; (try dsimp only at hSw); go_simp)
          (try simp only [Act.put, List.setIfInBounds_toArray, List.set_cons_zero, List.set_cons_succ])
          refine takeD (some 64) (i := 15) (v := .string un) rfl rfl (by kernel_rfl) (by kernel_rfl) (by kernel_rfl) (fun _ _ _ h => h) (Or.inl ⟨by kernel_rfl, ?_⟩) (by assumption) ?_
          · (intro w hSw; (try dsimp only at hSw); go_simp)
          (try simp only [Act.put, List.setIfInBounds_toArray, List.set_cons_zero, List.set_cons_succ])
          refine wpAnyH_ready (rs := [13]) (by kernel_rfl) (by simp) ?_
          refine AllReadyH.cons rfl (fun K hK => ?_) AllReadyH.nil
          go_simp
          refine (hup _).mono ?_
          rintro e v1 ⟨rfl, hb1⟩
          have hV1 : Below wr.heap.size wr v1 := hHeld.1.trans (hb1.mono hHeld.1.size)
          clear hb1
          refine hK.out _ _ (by exact hSall _ (by first | assumption | exact below_drew (Below.refl _ _))) (fun hHeld => ?_)
          clear hK K
          refine takeD (some 65) (i := 16) (v := .bool false) rfl rfl (by kernel_rfl) (by kernel_rfl) (by kernel_rfl) (fun _ _ _ h => h) (Or.inl ⟨by kernel_rfl, ?_⟩) (by assumption) ?_
          · (intro w hSw; (try dsimp only at hSw); go_simp)
          (try simp only [Act.put, List.setIfInBounds_toArray, List.set_cons_zero, List.set_cons_succ])
          refine takeD (some 66) (i := 17) (v := .bool false) rfl rfl (by kernel_rfl) (by kernel_rfl) (by kernel_rfl) (fun _ _ _ h => h) (Or.inl ⟨by kernel_rfl, ?_⟩) (by assumption) ?_
          · (intro w hSw; (try dsimp only at hSw); go_simp)
          (try simp only [Act.put, List.setIfInBounds_toArray, List.set_cons_zero, List.set_cons_succ])
          refine wpAnyH_done (by kernel_rfl) ?_ _
          obtain ⟨HC4, HR4, HB4⟩ := HKE.out _ hV1
          have HC4 : Hid (GJ M U.heap.size (G + 1) (G + 2) (k * 10000 + 5000) ⟨un, .slice va vn vc, fms, .slice xa xn xc, fts, fxs⟩ v1) := HC4
          have HR4 : Hid (Blk v1 G #[.string ⟨#[]⟩, .slice none 0 0, .slice none 0 0] 25) := HR4
          have HB4 : Hid (Below w.heap.size w v1) := HB4
          obtain ⟨k0, k1, k2⟩ := cells3 HC4.out.2.1
          obtain ⟨r0, r1, r2⟩ := cells3 HR4.out
          have s0 := HR4.out.frozen 0
          have s1 := HR4.out.frozen 1
          have s2 := HR4.out.frozen 2
          clear hV1
          go_wp2
          refine rc_fin (cnt := p + 1) (R := G) (fin3_blk HR4.out (.string un) (.slice va vn vc) (.slice xa xn xc)) (fin3_below _ _ _ HB4.out (by rw [HG.out]; exact Nat.le_refl _)) (.inr ⟨_, HYES.out, by rw [List.length_map, HN.out]; omega, by omega, fit_cp HC4.out.2.2.2.2.2, ?_⟩) rfl rfl (by go_num)
          have hst := HC4.out.tree (by omega)
          exact fun X hX => CpAt.up (k * 10000 + 5000 + 1) ((k + 1) * 10000) _ _ _ _ (by omega) (hst X ((fin3_tk (O := fun b => M b ∧ b ≤ G + 1) v1 G _ _ _ ⟨HM.out G HUG.out, by omega⟩).two hX (fun _ _ q => q) (fun b _ q => ⟨q.1, by have := HG.out; omega⟩)))
        · have HNO : Hid (rfP (k + 1) (ms.map Lm.ln) = none) := by
            unfold Hid; rw [HGO.out, HDR.out]; exact rl_endn (HNE.out.2 p1) (.inr (fun q => p3 (nums_inj (HUN.out.trans q))))
          have p3' : (un.toList == fnm.toList) = false := by rw [beq_eq_false_iff_ne]; exact fun q => p3 (nums_inj (((eq_list un fnm.toList).1 q).trans ((eq_list fnm fnm.toList).1 rfl).symm))
          go_wp2
          refine wp_region_held_drew (S := (fun V => Below wr.heap.size wr V ∧ V.cell? ⟨b, off + p * 3 + 1, none⟩ = some (.slice ma 0 mc) ∧ V.cell? ⟨b, off + p * 3 + 2, none⟩ = some (.string mv) ∧ V.cell? ⟨G + 1, 0, none⟩ = some (.string fnm))) (by kernel_rfl) (by exact hSall _ (by first | assumption | exact below_drew (Below.refl _ _))) (fun hHeld => ?_)
          refine takeD (some 49) (i := 0) (v := .slice (some ⟨b, off, none⟩) n c) rfl rfl (by kernel_rfl) (by kernel_rfl) (by kernel_rfl) (fun _ _ _ h => h) (Or.inl ⟨by kernel_rfl, ?_⟩) (by assumption) ?_
          · (intro w hSw; (try dsimp only at hSw); go_simp)
          (try simp only [Act.put, List.setIfInBounds_toArray, List.set_cons_zero, List.set_cons_succ])
          refine takeD (some 50) (i := 1) (v := .int .i64 (p : Nat)) rfl rfl (by kernel_rfl) (by kernel_rfl) (by kernel_rfl) (fun _ _ _ h => h) (Or.inl ⟨by kernel_rfl, ?_⟩) (by assumption) ?_
          · (intro w hSw; (try dsimp only at hSw); go_simp)
          (try simp only [Act.put, List.setIfInBounds_toArray, List.set_cons_zero, List.set_cons_succ])
          refine takeD (some 51) (i := 2) (v := .pointer (some ⟨b, off + p * 3, none⟩)) rfl rfl (by kernel_rfl) (by kernel_rfl) (by kernel_rfl) (fun _ _ _ h => h) (Or.inl ⟨by kernel_rfl, ?_⟩) (by assumption) ?_
          · (intro w hSw; (try dsimp only at hSw); go_simp)
          (try simp only [Act.put, List.setIfInBounds_toArray, List.set_cons_zero, List.set_cons_succ])
          refine takeD (some 52) (i := 3) (v := .pointer (some ⟨b, off + p * 3 + 1, none⟩)) rfl rfl (by kernel_rfl) (by kernel_rfl) (by kernel_rfl) (fun _ _ _ h => h) (Or.inl ⟨by kernel_rfl, ?_⟩) (by assumption) ?_
          · (intro w hSw; (try dsimp only at hSw); go_simp)
          (try simp only [Act.put, List.setIfInBounds_toArray, List.set_cons_zero, List.set_cons_succ])
          refine takeD (some 53) (i := 4) (v := .slice ma 0 mc) rfl rfl (by kernel_rfl) (by kernel_rfl) (by kernel_rfl) (fun _ _ _ h => h) (Or.inl ⟨by kernel_rfl, ?_⟩) (by assumption) ?_
          · (intro w hSw; (try dsimp only at hSw); go_simp)
          (try simp only [Act.put, List.setIfInBounds_toArray, List.set_cons_zero, List.set_cons_succ])
          refine takeD (some 54) (i := 5) (v := .int .i64 0) rfl rfl (by kernel_rfl) (by kernel_rfl) (by kernel_rfl) (fun _ _ _ h => h) (Or.inl ⟨by kernel_rfl, ?_⟩) (by assumption) ?_
          · (intro w hSw; (try dsimp only at hSw); go_simp)
          (try simp only [Act.put, List.setIfInBounds_toArray, List.set_cons_zero, List.set_cons_succ])
          refine takeD (some 55) (i := 6) (v := .bool false) rfl rfl (by kernel_rfl) (by kernel_rfl) (by kernel_rfl) (fun _ _ _ h => h) (Or.inl ⟨by kernel_rfl, ?_⟩) (by assumption) ?_
          · (intro w hSw; (try dsimp only at hSw); go_simp)
          (try simp only [Act.put, List.setIfInBounds_toArray, List.set_cons_zero, List.set_cons_succ])
          refine takeD (some 56) (i := 7) (v := .bool false) rfl rfl (by kernel_rfl) (by kernel_rfl) (by kernel_rfl) (fun _ _ _ h => h) (Or.inl ⟨by kernel_rfl, ?_⟩) (by assumption) ?_
          · (intro w hSw; (try dsimp only at hSw); go_simp)
          (try simp only [Act.put, List.setIfInBounds_toArray, List.set_cons_zero, List.set_cons_succ])
          refine takeD (some 57) (i := 8) (v := .slice (some ⟨b, off, none⟩) n c) rfl rfl (by kernel_rfl) (by kernel_rfl) (by kernel_rfl) (fun _ _ _ h => h) (Or.inl ⟨by kernel_rfl, ?_⟩) (by assumption) ?_
          · (intro w hSw; (try dsimp only at hSw); go_simp)
          (try simp only [Act.put, List.setIfInBounds_toArray, List.set_cons_zero, List.set_cons_succ])
          refine takeD (some 58) (i := 9) (v := .int .i64 (p : Nat)) rfl rfl (by kernel_rfl) (by kernel_rfl) (by kernel_rfl) (fun _ _ _ h => h) (Or.inl ⟨by kernel_rfl, ?_⟩) (by assumption) ?_
          · (intro w hSw; (try dsimp only at hSw); go_simp)
          (try simp only [Act.put, List.setIfInBounds_toArray, List.set_cons_zero, List.set_cons_succ])
          refine takeD (some 59) (i := 10) (v := .pointer (some ⟨b, off + p * 3, none⟩)) rfl rfl (by kernel_rfl) (by kernel_rfl) (by kernel_rfl) (fun _ _ _ h => h) (Or.inl ⟨by kernel_rfl, ?_⟩) (by assumption) ?_
          · (intro w hSw; (try dsimp only at hSw); go_simp)
          (try simp only [Act.put, List.setIfInBounds_toArray, List.set_cons_zero, List.set_cons_succ])
          refine takeD (some 60) (i := 11) (v := .pointer (some ⟨b, off + p * 3 + 2, none⟩)) rfl rfl (by kernel_rfl) (by kernel_rfl) (by kernel_rfl) (fun _ _ _ h => h) (Or.inl ⟨by kernel_rfl, ?_⟩) (by assumption) ?_
          · (intro w hSw; (try dsimp only at hSw); go_simp)
          (try simp only [Act.put, List.setIfInBounds_toArray, List.set_cons_zero, List.set_cons_succ])
          refine takeD (some 61) (i := 12) (v := .string mv) rfl rfl (by kernel_rfl) (by kernel_rfl) (by kernel_rfl) (fun _ _ _ h => h) (Or.inl ⟨by kernel_rfl, ?_⟩) (by assumption) ?_
          · (intro w hSw; (try dsimp only at hSw); go_simp)
          (try simp only [Act.put, List.setIfInBounds_toArray, List.set_cons_zero, List.set_cons_succ])
          refine takeD (some 63) (i := 14) (v := .pointer (some ⟨G + 1, 0, none⟩)) rfl rfl (by kernel_rfl) (by kernel_rfl) (by kernel_rfl) (fun _ _ _ h => h) (Or.inl ⟨by kernel_rfl, ?_⟩) (by assumption) ?_
          · (intro w hSw; (try dsimp only at hSw); go_simp)
          (try simp only [Act.put, List.setIfInBounds_toArray, List.set_cons_zero, List.set_cons_succ])
          refine takeD (some 64) (i := 15) (v := .string fnm) rfl rfl (by kernel_rfl) (by kernel_rfl) (by kernel_rfl) (fun _ _ _ h => h) (Or.inl ⟨by kernel_rfl, ?_⟩) (by assumption) ?_
          · (intro w hSw; (try dsimp only at hSw); go_simp)
          (try simp only [Act.put, List.setIfInBounds_toArray, List.set_cons_zero, List.set_cons_succ])
          refine wpAnyH_ready (rs := [13]) (by kernel_rfl) (by simp) ?_
          refine AllReadyH.cons rfl (fun K hK => ?_) AllReadyH.nil
          go_simp
          refine (hup _).mono ?_
          rintro e v1 ⟨rfl, hb1⟩
          have hV1 : Below wr.heap.size wr v1 := hHeld.1.trans (hb1.mono hHeld.1.size)
          clear hb1
          refine hK.out _ _ (by exact hSall _ (by first | assumption | exact below_drew (Below.refl _ _))) (fun hHeld => ?_)
          clear hK K
          refine takeD (some 65) (i := 16) (v := .bool true) rfl rfl (by kernel_rfl) (by kernel_rfl) (by kernel_rfl) (fun _ _ _ h => h) (Or.inl ⟨by kernel_rfl, ?_⟩) (by assumption) ?_
          · (intro w hSw; (try dsimp only at hSw); go_simp)
          (try simp only [Act.put, List.setIfInBounds_toArray, List.set_cons_zero, List.set_cons_succ])
          refine takeD (some 66) (i := 17) (v := .bool true) rfl rfl (by kernel_rfl) (by kernel_rfl) (by kernel_rfl) (fun _ _ _ h => h) (Or.inl ⟨by kernel_rfl, ?_⟩) (by assumption) ?_
          · (intro w hSw; (try dsimp only at hSw); go_simp)
          (try simp only [Act.put, List.setIfInBounds_toArray, List.set_cons_zero, List.set_cons_succ])
          refine wpAnyH_done (by kernel_rfl) ?_ _
          obtain ⟨HC4, HR4, HB4⟩ := HKE.out _ hV1
          have HC4 : Hid (GJ M U.heap.size (G + 1) (G + 2) (k * 10000 + 5000) ⟨fnm, .slice va vn vc, fms, .slice xa xn xc, fts, fxs⟩ v1) := HC4
          have HR4 : Hid (Blk v1 G #[.string ⟨#[]⟩, .slice none 0 0, .slice none 0 0] 25) := HR4
          have HB4 : Hid (Below w.heap.size w v1) := HB4
          obtain ⟨k0, k1, k2⟩ := cells3 HC4.out.2.1
          obtain ⟨r0, r1, r2⟩ := cells3 HR4.out
          have s0 := HR4.out.frozen 0
          have s1 := HR4.out.frozen 1
          have s2 := HR4.out.frozen 2
          clear hV1
          go_wp2
          exact rc_fin (cnt := 0) (R := G) (fin3_blk HR4.out (.string fnm) (.slice va vn vc) (.slice xa xn xc)) (fin3_below _ _ _ HB4.out (by rw [HG.out]; exact Nat.le_refl _)) (.inl ⟨HNO.out, rfl⟩) rfl rfl (by first | rfl | simp)
    · have p1' : (mn.toList == [69, 78, 68]) = false := by simpa using p1
      by_cases p4 : mn.toList = [66, 69, 71, 73, 78]
      rotate_left
      · have p4' : (mn.toList == [66, 69, 71, 73, 78]) = false := by simpa using p4
        have HNX : Hid (rfP (k + 1) (ms.map Lm.ln) = rlL (rfP k) fuel ⟨nums fnm, fms.map Lm.ln ++ [Lm.ln ⟨mn, mv, ma, mc, fs⟩], fts⟩ ((ms.map Lm.ln).drop (p + 1))) := by
          unfold Hid; rw [HGO.out, HDR.out, rl_own (fun q => p1 (HNE.out.1 q)) (fun q => p4 (HNB.out.1 q))]; rfl
        obtain ⟨j0, hi, hz0', hz1, hz2⟩ := info_parts Tryd.info39
        have hkA : Below wr.heap.size wr (wr.alloc (.cells #[.string mn, .slice ma fn mc, .string mv] 39)).drew := below_drew (keep wr _)
        have HC5 : Hid (GJ M U.heap.size (G + 1) (G + 2) (k * 10000 + 5000) ⟨fnm, .slice va vn vc, fms, .slice xa xn xc, fts, fxs⟩ (wr.alloc (.cells #[.string mn, .slice ma fn mc, .string mv] 39)).drew) := HQ.out.keep hkA
        have HO5 : Hid ((wr.alloc (.cells #[.string mn, .slice ma fn mc, .string mv] 39)).drew.ownsRow (G + 2) 39 3 (.slice va vn vc) vn (fms.flatMap cellM)) := by
          have q := HC5.out.2.2.2.2.1.1 (Fm.rl ⟨fnm, .slice va vn vc, fms, .slice xa xn xc, fts, fxs⟩) (by simp)
          simp only [Fm.rl, HVN.out] at q
          exact q
        have HNEW : Hid (∀ i u, [Value.string mn, Value.slice ma fn mc, Value.string mv][i]? = some u → (wr.alloc (.cells #[.string mn, .slice ma fn mc, .string mv] 39)).drew.cell? ((⟨wr.heap.size, 0, none⟩ : Addr).add i) = some u) := cells_new wr [Value.string mn, Value.slice ma fn mc, Value.string mv] 39
        have HSZ : Hid (G + 2 ≤ (wr.alloc (.cells #[.string mn, .slice ma fn mc, .string mv] 39)).drew.heap.size) := HC5.out.2.2.2.1
        have HOB : Hid (∀ g, g ∈ bks [Fm.rl ⟨fnm, .slice va vn vc, fms, .slice xa xn xc, fts, fxs⟩, Fm.rc ⟨fnm, .slice va vn vc, fms, .slice xa xn xc, fts, fxs⟩] → G + 2 ≤ g ∧ g < wr.heap.size) := fun g hg => HQ.out.2.2.2.2.1.lt hg
        have hkk := HQ.out.2.1
        go_wp2
        refine wp_region_held_drew (S := (fun V => V.cell? ⟨b, off + p * 3, none⟩ = some (.string mn) ∧ V.cell? ⟨b, off + p * 3 + 1, none⟩ = some (.slice ma fn mc) ∧ V.cell? ⟨b, off + p * 3 + 2, none⟩ = some (.string mv))) (by kernel_rfl) (by exact ⟨e0, e1, e2⟩) (fun hHeld => ?_)
        refine takeD (some 77) (i := 0) (v := .pointer (some ⟨G + 1, 1, none⟩)) rfl rfl (by kernel_rfl) (by kernel_rfl) (by kernel_rfl) (fun _ _ _ h => h) (Or.inl ⟨by kernel_rfl, ?_⟩) (by assumption) ?_
        · (intro w hSw; (try dsimp only at hSw); go_simp)
        (try simp only [Act.put, List.setIfInBounds_toArray, List.set_cons_zero, List.set_cons_succ])
        refine takeD (some 79) (i := 2) (v := .slice (some ⟨b, off, none⟩) n c) rfl rfl (by kernel_rfl) (by kernel_rfl) (by kernel_rfl) (fun _ _ _ h => h) (Or.inl ⟨by kernel_rfl, ?_⟩) (by assumption) ?_
        · (intro w hSw; (try dsimp only at hSw); go_simp)
        (try simp only [Act.put, List.setIfInBounds_toArray, List.set_cons_zero, List.set_cons_succ])
        refine takeD (some 80) (i := 3) (v := .int .i64 (p : Nat)) rfl rfl (by kernel_rfl) (by kernel_rfl) (by kernel_rfl) (fun _ _ _ h => h) (Or.inl ⟨by kernel_rfl, ?_⟩) (by assumption) ?_
        · (intro w hSw; (try dsimp only at hSw); go_simp)
        (try simp only [Act.put, List.setIfInBounds_toArray, List.set_cons_zero, List.set_cons_succ])
        refine takeD (some 81) (i := 4) (v := .pointer (some ⟨b, off + p * 3, none⟩)) rfl rfl (by kernel_rfl) (by kernel_rfl) (by kernel_rfl) (fun _ _ _ h => h) (Or.inl ⟨by kernel_rfl, ?_⟩) (by assumption) ?_
        · (intro w hSw; (try dsimp only at hSw); go_simp)
        (try simp only [Act.put, List.setIfInBounds_toArray, List.set_cons_zero, List.set_cons_succ])
        refine takeD (some 82) (i := 5) (v := .agg #[.string mn, .slice ma fn mc, .string mv]) rfl rfl (by kernel_rfl) (by kernel_rfl) (by kernel_rfl) (fun _ _ _ h => h) (Or.inl ⟨by kernel_rfl, ?_⟩) (by assumption) ?_
        · (intro w hSw; (try dsimp only at hSw); go_simp)
        (try simp only [Act.put, List.setIfInBounds_toArray, List.set_cons_zero, List.set_cons_succ])
        refine wpAnyH_ready (rs := [1, 6]) (by kernel_rfl) (by simp) ?_
        refine AllReadyH.cons rfl (fun K hK => ?_) (AllReadyH.cons rfl (fun K hK => ?_) AllReadyH.nil)
        · skip
          have KF := k1
          go_simp
          refine hK.out _ _ (by assumption) (fun hHeld => ?_)
          clear hK K
          clear KF
          refine wpAnyH_ready (rs := [6]) (by kernel_rfl) (by simp) ?_
          refine AllReadyH.cons rfl (fun K hK => ?_) AllReadyH.nil
          go_simp
          refine hK.out _ _ (by exact ⟨cell_keep hkA e0, cell_keep hkA e1, cell_keep hkA e2⟩) (fun hHeld => ?_)
          clear hK K
          refine wpAnyH_ready (rs := [7]) (by kernel_rfl) (by simp) ?_
          refine AllReadyH.cons rfl (fun K hK => ?_) AllReadyH.nil
          refine step_append_lies _ rfl (.tmp 78) (.tmp 83) 22 rfl (G + 2) 39 j0 _ 3 56 Tryd.underlying22 hi hz0' hz1 hz2 rfl (by decide) (.slice va vn vc) vn (fms.flatMap cellM) rfl HO5.out ⟨wr.heap.size, 0, none⟩ 1 1 [Value.string mn, Value.slice ma fn mc, Value.string mv] rfl rfl HNEW.out (by intro u hu; simp at hu; rcases hu with rfl | rfl | rfl <;> rfl) (by decide) (by unfold maxLen; omega) (by omega) HSZ.out _ rfl ?_
          intro g7 cap7 w7 hown7 hgrow7 hfr7 hlt7
          have HOWN7 : Hid (w7.ownsRow (G + 2) 39 3 (.slice (some ⟨g7, 0, none⟩) (vn + 1) cap7) (vn + 1) (fms.flatMap cellM ++ [Value.string mn, Value.slice ma fn mc, Value.string mv])) := hown7
          have HGR7 : Hid ((wr.alloc (.cells #[.string mn, .slice ma fn mc, .string mv] 39)).drew.grownBy w7 (Value.slice va vn vc).ownBlock) := hgrow7
          have HFR7 : Hid ((Value.slice va vn vc).ownBlock = some g7 ∨ (wr.alloc (.cells #[.string mn, .slice ma fn mc, .string mv] 39)).drew.heap.size ≤ g7) := hfr7.imp id (fun q => by rw [q]; exact Nat.le_refl _)
          have hno : ∀ q, q < G + 2 → some q ≠ (Value.slice va vn vc).ownBlock := fun q hq e => by have := (HOB.out q (List.mem_filterMap.2 ⟨Fm.rl ⟨fnm, .slice va vn vc, fms, .slice xa xn xc, fts, fxs⟩, by simp, e.symm⟩)).1; omega
          have hbl7 : ∀ q, q < G + 2 → q < wr.heap.size → w7.heap[q]? = wr.heap[q]? := fun q hq hq2 => (hgrow7.block q (by show q < (wr.alloc _).heap.size; rw [World.size_alloc]; omega) (hno q hq)).trans (hkA.block q hq2)
          have hK7 : Blk w7 (G + 1) #[.string fnm, .slice va vn vc, .slice xa xn xc] 25 := (hbl7 (G + 1) (by omega) hkk.lt).trans hkk
          have hR7 : Blk w7 G #[.string ⟨#[]⟩, .slice none 0 0, .slice none 0 0] 25 := (hbl7 G (by omega) HR.out.lt).trans HR.out
          have hsz7 : wr.heap.size ≤ w7.heap.size := Nat.le_trans hkA.size hgrow7.size
          have hUr := HUR.out
          have hS7 := HSA.out w7 (fun q hq => (hbl7 q (by have := HUG.out; omega) (by have := hUr.size; omega)).trans (hUr.block q hq))
          have HB7 : Hid (∀ q, q < G + 2 → q < wr.heap.size → w7.heap[q]? = wr.heap[q]?) := hbl7
          clear hown7 hgrow7 hfr7 hbl7 hno
          refine hK.out _ _ (by exact hS7) (fun hHeld => ?_)
          clear hK K
          refine takeD (some 85) (i := 8) (v := .pointer (some ⟨G + 1, 1, none⟩)) rfl rfl (by kernel_rfl) (by kernel_rfl) (by kernel_rfl) (fun _ _ _ h => h) (Or.inl ⟨by kernel_rfl, ?_⟩) (by assumption) ?_
          · (intro w hSw; (try dsimp only at hSw); go_simp)
          (try simp only [Act.put, List.setIfInBounds_toArray, List.set_cons_zero, List.set_cons_succ])
          refine wpAnyH_ready (rs := [9]) (by kernel_rfl) (by simp) ?_
          refine AllReadyH.cons rfl (fun K hK => ?_) AllReadyH.nil
          have KK1 := (cells3 hK7).2.1
          have KF1 := hK7.frozen 1
          have hS8 := HSA.out (w7.setCell ⟨G + 1, 1, none⟩ (.slice (some ⟨g7, 0, none⟩) (vn + 1) cap7)) (fun q hq => by rw [heap_setCell_other w7 ⟨G + 1, 1, none⟩ q _ (by show q ≠ G + 1; have := HUG.out; omega)]; exact (HB7.out q (by have := HUG.out; omega) (by have := hUr.size; omega)).trans (hUr.block q hq))
          go_simp
          refine hK.out _ _ (by exact hS8) (fun hHeld => ?_)
          clear hK K
          refine wpAnyH_done (by kernel_rfl) ?_ _
          have hln := GJ.line (g := g7) (m := ⟨mn, mv, ma, mc, fs⟩) (v' := .slice (some ⟨g7, 0, none⟩) (vn + 1) cap7) HC5.out (by simp only; have := HVN.out; omega) HFT.out (by simp only; have := HFN.out; omega) (fun X hX => HFR.out X (fun q hq hMq => (hX.2.2.2.2 q (by have := HUR.out.size; have := hkA.size; omega) (fun cc => hMq cc.1)).trans ((hkA.block q (by have := HUR.out.size; omega)).trans (HUR.out.block q hq)))) HGR7.out (by simp only [cellM, HVN.out, HFN.out]; exact HOWN7.out) rfl HFR7.out
          have HC8 : Hid (GJ M U.heap.size (G + 1) (G + 2) (k * 10000 + 5000) ⟨fnm, .slice (some ⟨g7, 0, none⟩) (vn + 1) cap7, fms ++ [⟨mn, mv, ma, mc, fs⟩], .slice xa xn xc, fts, fxs⟩ (w7.setCell ⟨G + 1, 1, none⟩ (.slice (some ⟨g7, 0, none⟩) (vn + 1) cap7))) := hln.1
          have HR8 : Hid (Blk (w7.setCell ⟨G + 1, 1, none⟩ (.slice (some ⟨g7, 0, none⟩) (vn + 1) cap7)) G #[.string ⟨#[]⟩, .slice none 0 0, .slice none 0 0] 25) := hR7.other (by omega) _
          have HB8 : Hid (Below w.heap.size w (w7.setCell ⟨G + 1, 1, none⟩ (.slice (some ⟨g7, 0, none⟩) (vn + 1) cap7))) := ((HBW.out.trans (hkA.mono HBW.out.size)).grown HGR7.out (Nat.le_trans HBW.out.size hkA.size) (fun q hq => by have := (HOB.out q (List.mem_filterMap.2 ⟨Fm.rl ⟨fnm, .slice va vn vc, fms, .slice xa xn xc, fts, fxs⟩, by simp, hq⟩)).1; have := HG.out; omega)).setCell (p := ⟨G + 1, 1, none⟩) (by show w.heap.size ≤ G + 1; have := HG.out; omega) _
          clear hln hK7 hR7 KK1 KF1 HGR7 HFR7 hS7 hS8 hsz7 hUr
          go_wp2
          go_roundw
          case rel => exact ⟨p + 1, fuel, _, by go_num, by omega, by omega, HC8.out, by simp only [List.length_append, List.length_cons, List.length_nil]; have := HVN.out; have := HXN.out; omega, by omega, by rw [HNX.out]; unfold Fm.cp; simp, HR8.out, HB8.out⟩
          case measure => simp [intOf]; omega
        · skip
          go_simp
          refine hK.out _ _ (by exact ⟨cell_keep hkA e0, cell_keep hkA e1, cell_keep hkA e2⟩) (fun hHeld => ?_)
          clear hK K
          refine wpAnyH_ready (rs := [1]) (by kernel_rfl) (by simp) ?_
          refine AllReadyH.cons rfl (fun K hK => ?_) AllReadyH.nil
          have KF := cell_keep (keep wr (.cells #[.string mn, .slice ma fn mc, .string mv] 39)) k1
          go_simp
          refine hK.out _ _ (by assumption) (fun hHeld => ?_)
          clear hK K
          clear KF
          refine wpAnyH_ready (rs := [7]) (by kernel_rfl) (by simp) ?_
          refine AllReadyH.cons rfl (fun K hK => ?_) AllReadyH.nil
          refine step_append_lies _ rfl (.tmp 78) (.tmp 83) 22 rfl (G + 2) 39 j0 _ 3 56 Tryd.underlying22 hi hz0' hz1 hz2 rfl (by decide) (.slice va vn vc) vn (fms.flatMap cellM) rfl HO5.out ⟨wr.heap.size, 0, none⟩ 1 1 [Value.string mn, Value.slice ma fn mc, Value.string mv] rfl rfl HNEW.out (by intro u hu; simp at hu; rcases hu with rfl | rfl | rfl <;> rfl) (by decide) (by unfold maxLen; omega) (by omega) HSZ.out _ rfl ?_
          intro g7 cap7 w7 hown7 hgrow7 hfr7 hlt7
          have HOWN7 : Hid (w7.ownsRow (G + 2) 39 3 (.slice (some ⟨g7, 0, none⟩) (vn + 1) cap7) (vn + 1) (fms.flatMap cellM ++ [Value.string mn, Value.slice ma fn mc, Value.string mv])) := hown7
          have HGR7 : Hid ((wr.alloc (.cells #[.string mn, .slice ma fn mc, .string mv] 39)).drew.grownBy w7 (Value.slice va vn vc).ownBlock) := hgrow7
          have HFR7 : Hid ((Value.slice va vn vc).ownBlock = some g7 ∨ (wr.alloc (.cells #[.string mn, .slice ma fn mc, .string mv] 39)).drew.heap.size ≤ g7) := hfr7.imp id (fun q => by rw [q]; exact Nat.le_refl _)
          have hno : ∀ q, q < G + 2 → some q ≠ (Value.slice va vn vc).ownBlock := fun q hq e => by have := (HOB.out q (List.mem_filterMap.2 ⟨Fm.rl ⟨fnm, .slice va vn vc, fms, .slice xa xn xc, fts, fxs⟩, by simp, e.symm⟩)).1; omega
          have hbl7 : ∀ q, q < G + 2 → q < wr.heap.size → w7.heap[q]? = wr.heap[q]? := fun q hq hq2 => (hgrow7.block q (by show q < (wr.alloc _).heap.size; rw [World.size_alloc]; omega) (hno q hq)).trans (hkA.block q hq2)
          have hK7 : Blk w7 (G + 1) #[.string fnm, .slice va vn vc, .slice xa xn xc] 25 := (hbl7 (G + 1) (by omega) hkk.lt).trans hkk
          have hR7 : Blk w7 G #[.string ⟨#[]⟩, .slice none 0 0, .slice none 0 0] 25 := (hbl7 G (by omega) HR.out.lt).trans HR.out
          have hsz7 : wr.heap.size ≤ w7.heap.size := Nat.le_trans hkA.size hgrow7.size
          have hUr := HUR.out
          have hS7 := HSA.out w7 (fun q hq => (hbl7 q (by have := HUG.out; omega) (by have := hUr.size; omega)).trans (hUr.block q hq))
          have HB7 : Hid (∀ q, q < G + 2 → q < wr.heap.size → w7.heap[q]? = wr.heap[q]?) := hbl7
          clear hown7 hgrow7 hfr7 hbl7 hno
          refine hK.out _ _ (by exact hS7) (fun hHeld => ?_)
          clear hK K
          refine takeD (some 85) (i := 8) (v := .pointer (some ⟨G + 1, 1, none⟩)) rfl rfl (by kernel_rfl) (by kernel_rfl) (by kernel_rfl) (fun _ _ _ h => h) (Or.inl ⟨by kernel_rfl, ?_⟩) (by assumption) ?_
          · (intro w hSw; (try dsimp only at hSw); go_simp)
          (try simp only [Act.put, List.setIfInBounds_toArray, List.set_cons_zero, List.set_cons_succ])
          refine wpAnyH_ready (rs := [9]) (by kernel_rfl) (by simp) ?_
          refine AllReadyH.cons rfl (fun K hK => ?_) AllReadyH.nil
          have KK1 := (cells3 hK7).2.1
          have KF1 := hK7.frozen 1
          have hS8 := HSA.out (w7.setCell ⟨G + 1, 1, none⟩ (.slice (some ⟨g7, 0, none⟩) (vn + 1) cap7)) (fun q hq => by rw [heap_setCell_other w7 ⟨G + 1, 1, none⟩ q _ (by show q ≠ G + 1; have := HUG.out; omega)]; exact (HB7.out q (by have := HUG.out; omega) (by have := hUr.size; omega)).trans (hUr.block q hq))
          go_simp
          refine hK.out _ _ (by exact hS8) (fun hHeld => ?_)
          clear hK K
          refine wpAnyH_done (by kernel_rfl) ?_ _
          have hln := GJ.line (g := g7) (m := ⟨mn, mv, ma, mc, fs⟩) (v' := .slice (some ⟨g7, 0, none⟩) (vn + 1) cap7) HC5.out (by simp only; have := HVN.out; omega) HFT.out (by simp only; have := HFN.out; omega) (fun X hX => HFR.out X (fun q hq hMq => (hX.2.2.2.2 q (by have := HUR.out.size; have := hkA.size; omega) (fun cc => hMq cc.1)).trans ((hkA.block q (by have := HUR.out.size; omega)).trans (HUR.out.block q hq)))) HGR7.out (by simp only [cellM, HVN.out, HFN.out]; exact HOWN7.out) rfl HFR7.out
          have HC8 : Hid (GJ M U.heap.size (G + 1) (G + 2) (k * 10000 + 5000) ⟨fnm, .slice (some ⟨g7, 0, none⟩) (vn + 1) cap7, fms ++ [⟨mn, mv, ma, mc, fs⟩], .slice xa xn xc, fts, fxs⟩ (w7.setCell ⟨G + 1, 1, none⟩ (.slice (some ⟨g7, 0, none⟩) (vn + 1) cap7))) := hln.1
          have HR8 : Hid (Blk (w7.setCell ⟨G + 1, 1, none⟩ (.slice (some ⟨g7, 0, none⟩) (vn + 1) cap7)) G #[.string ⟨#[]⟩, .slice none 0 0, .slice none 0 0] 25) := hR7.other (by omega) _
          have HB8 : Hid (Below w.heap.size w (w7.setCell ⟨G + 1, 1, none⟩ (.slice (some ⟨g7, 0, none⟩) (vn + 1) cap7))) := ((HBW.out.trans (hkA.mono HBW.out.size)).grown HGR7.out (Nat.le_trans HBW.out.size hkA.size) (fun q hq => by have := (HOB.out q (List.mem_filterMap.2 ⟨Fm.rl ⟨fnm, .slice va vn vc, fms, .slice xa xn xc, fts, fxs⟩, by simp, hq⟩)).1; have := HG.out; omega)).setCell (p := ⟨G + 1, 1, none⟩) (by show w.heap.size ≤ G + 1; have := HG.out; omega) _
          clear hln hK7 hR7 KK1 KF1 HGR7 HFR7 hS7 hS8 hsz7 hUr
          go_wp2
          go_roundw
          case rel => exact ⟨p + 1, fuel, _, by go_num, by omega, by omega, HC8.out, by simp only [List.length_append, List.length_cons, List.length_nil]; have := HVN.out; have := HXN.out; omega, by omega, by rw [HNX.out]; unfold Fm.cp; simp, HR8.out, HB8.out⟩
          case measure => simp [intOf]; omega
      · have p4' : (mn.toList == [66, 69, 71, 73, 78]) = true := by rw [p4]; rfl
        have HNM : Hid ((Lm.ln ⟨mn, mv, ma, mc, fs⟩).name = bgZ) := HNB.out.2 p4
        have hch := HIH.out M (some ⟨b, off + p * 3, none⟩) (n - p) (c - p) (ms.drop p) U wr (d + 1) HD.out (by rw [List.length_drop, HN.out]) (by omega) (by omega) (by omega) (row_from HLR.out) HUR.out HM.out (fun m hm => HF.out m (List.mem_of_mem_drop hm))
        obtain ⟨j0, hi, hz0', hz1, hz2⟩ := info_parts Tryd.info25
        clear hmv
        go_wp2_with fail
        refine hch.mono ?_
        rintro e w4 ⟨x4, y4, z4, cnt, rfl, hb4, ⟨tn, ta, tl, tc, sa, sl, sc, rfl, rfl, rfl⟩, hans⟩
        clear hch
        unfold compV
        rw [List.map_drop] at hans
        have hkB : Below wr.heap.size wr (w4.alloc (.cells #[.string tn, .slice ta tl tc, .slice sa sl sc] 25)) := hb4.trans ((keep w4 _).mono hb4.size)
        have HKB : Hid (Below wr.heap.size wr (w4.alloc (.cells #[.string tn, .slice ta tl tc, .slice sa sl sc] 25))) := hkB
        have HRB : Hid (Blk (w4.alloc (.cells #[.string tn, .slice ta tl tc, .slice sa sl sc] 25)) G #[.string ⟨#[]⟩, .slice none 0 0, .slice none 0 0] 25) := HR.out.below hkB HR.out.lt
        have HQB : Hid (GJ M U.heap.size (G + 1) (G + 2) (k * 10000 + 5000) ⟨fnm, .slice va vn vc, fms, .slice xa xn xc, fts, fxs⟩ (w4.alloc (.cells #[.string tn, .slice ta tl tc, .slice sa sl sc] 25))) := HQ.out.keep hkB
        have HBB : Hid (Below w.heap.size w (w4.alloc (.cells #[.string tn, .slice ta tl tc, .slice sa sl sc] 25))) := HBW.out.trans (hkB.mono HBW.out.size)
        obtain ⟨g0, g1, g2⟩ := cells3 HQB.out.2.1
        obtain ⟨t0, t1, t2⟩ := cells3 HRB.out
        have u0 := HRB.out.frozen 0
        have u1 := HRB.out.frozen 1
        have u2 := HRB.out.frozen 2
        clear k0 k1 k2 r0 r1 r2 s0 s1 s2 e0 e1 e2 hkB
        rcases hans with ⟨hno, rfl⟩ | ⟨t, hyes, hcl, hc1, hft, hst⟩
        · have HNO : Hid (rfP (k + 1) (ms.map Lm.ln) = none) := by
            unfold Hid; rw [HGO.out, HDR.out]; rw [HDR.out] at hno; exact rl_inn HNM.out hno
          clear hno hb4
          go_wp2
          exact rc_fin (cnt := 0) (R := G) (fin3_blk HRB.out (.string fnm) (.slice va vn vc) (.slice xa xn xc)) (fin3_below _ _ _ HBB.out (by rw [HG.out]; exact Nat.le_refl _)) (.inl ⟨HNO.out, rfl⟩) rfl rfl (by first | rfl | simp)
        · rw [List.drop_drop] at hyes
          rw [List.length_drop, List.length_map, HN.out] at hcl
          have HNX : Hid (rfP (k + 1) (ms.map Lm.ln) = rlL (rfP k) fuel ⟨nums fnm, fms.map Lm.ln, fts ++ [t]⟩ ((ms.map Lm.ln).drop (p + cnt))) := by
            unfold Hid; rw [HGO.out, HDR.out]; rw [HDR.out] at hyes; rw [rl_in HNM.out hyes]; rfl
          have HFC : Hid (∀ q, FitC q t) := hft
          have hkC : Below wr.heap.size wr ((w4.alloc (.cells #[.string tn, .slice ta tl tc, .slice sa sl sc] 25)).alloc (.cells #[.string tn, .slice ta tl tc, .slice sa sl sc] 25)) := HKB.out.trans ((keep _ _).mono HKB.out.size)
          have HKC : Hid (Below wr.heap.size wr ((w4.alloc (.cells #[.string tn, .slice ta tl tc, .slice sa sl sc] 25)).alloc (.cells #[.string tn, .slice ta tl tc, .slice sa sl sc] 25))) := hkC
          have HST : Hid (Stay (fun b => M b ∧ b < wr.heap.size) ((w4.alloc (.cells #[.string tn, .slice ta tl tc, .slice sa sl sc] 25)).alloc (.cells #[.string tn, .slice ta tl tc, .slice sa sl sc] 25)) (fun W => CpAt (k * 10000) W t (.string tn) (.slice ta tl tc) (.slice sa sl sc))) := (hst.go (Tk.of_below (O := fun _ => False) (keep w4 _)) (fun _ _ q => q.elim) (fun _ _ q => q)).go (Tk.of_below (O := fun _ => False) (keep _ _)) (fun _ _ q => q.elim) (fun _ _ q => q)
          have HC5 : Hid (GJ M U.heap.size (G + 1) (G + 2) (k * 10000 + 5000) ⟨fnm, .slice va vn vc, fms, .slice xa xn xc, fts, fxs⟩ ((w4.alloc (.cells #[.string tn, .slice ta tl tc, .slice sa sl sc] 25)).alloc (.cells #[.string tn, .slice ta tl tc, .slice sa sl sc] 25))) := HQ.out.keep hkC
          have HO5 : Hid (((w4.alloc (.cells #[.string tn, .slice ta tl tc, .slice sa sl sc] 25)).alloc (.cells #[.string tn, .slice ta tl tc, .slice sa sl sc] 25)).ownsRow (G + 2) 25 3 (.slice xa xn xc) xn (fxs.flatMap cell3)) := by
            have q := HC5.out.2.2.2.2.1.1 (Fm.rc ⟨fnm, .slice va vn vc, fms, .slice xa xn xc, fts, fxs⟩) (by simp)
            simp only [Fm.rc, HXN.out] at q
            exact q
          have HNEW : Hid (∀ i u, [Value.string tn, Value.slice ta tl tc, Value.slice sa sl sc][i]? = some u → ((w4.alloc (.cells #[.string tn, .slice ta tl tc, .slice sa sl sc] 25)).alloc (.cells #[.string tn, .slice ta tl tc, .slice sa sl sc] 25)).cell? ((⟨(w4.alloc (.cells #[.string tn, .slice ta tl tc, .slice sa sl sc] 25)).heap.size, 0, none⟩ : Addr).add i) = some u) := cells_new (w4.alloc (.cells #[.string tn, .slice ta tl tc, .slice sa sl sc] 25)) [Value.string tn, Value.slice ta tl tc, Value.slice sa sl sc] 25
          have HSZ : Hid (G + 2 ≤ ((w4.alloc (.cells #[.string tn, .slice ta tl tc, .slice sa sl sc] 25)).alloc (.cells #[.string tn, .slice ta tl tc, .slice sa sl sc] 25)).heap.size) := HC5.out.2.2.2.1
          have HOB : Hid (∀ g, g ∈ bks [Fm.rl ⟨fnm, .slice va vn vc, fms, .slice xa xn xc, fts, fxs⟩, Fm.rc ⟨fnm, .slice va vn vc, fms, .slice xa xn xc, fts, fxs⟩] → G + 2 ≤ g ∧ g < wr.heap.size) := fun g hg => HQ.out.2.2.2.2.1.lt hg
          have hci : ((cnt : Int) == 0) = false := by rw [beq_eq_false_iff_ne]; omega
          have hci2 : cnt ≤ 4096 := by omega
          rw [World.size_alloc] at HNEW
          clear hyes hft hst hkC hb4 t0 t1 t2 u0 u1 u2
          go_wp2_with (at_builtin; refine wpList_append_lies _ rfl (.tmp 101) (.tmp 103) 23 rfl (G + 2) 25 j0 _ 3 64 Tryd.underlying23 hi hz0' hz1 hz2 rfl (by decide) (.slice xa xn xc) xn (fxs.flatMap cell3) rfl HO5.out ⟨w4.heap.size + 1, 0, none⟩ 1 1 [Value.string tn, Value.slice ta tl tc, Value.slice sa sl sc] rfl rfl HNEW.out (by intro u hu; simp at hu; rcases hu with rfl | rfl | rfl <;> rfl) (by decide) (by unfold maxLen; omega) (by omega) HSZ.out _ rfl ?_)
          intro g7 cap7 w7 hown7 hgrow7 hfr7 hlt7
          have hno : ∀ q, q < G + 2 → some q ≠ (Value.slice xa xn xc).ownBlock := fun q hq e => by have := (HOB.out q (List.mem_filterMap.2 ⟨Fm.rc ⟨fnm, .slice va vn vc, fms, .slice xa xn xc, fts, fxs⟩, by simp, e.symm⟩)).1; omega
          have hbl7 : ∀ q, q < G + 2 → q < wr.heap.size → w7.heap[q]? = wr.heap[q]? := fun q hq hq2 => (hgrow7.block q (by have := HKC.out.size; omega) (hno q hq)).trans (HKC.out.block q hq2)
          have hK7 : Blk w7 (G + 1) #[.string fnm, .slice va vn vc, .slice xa xn xc] 25 := (hbl7 (G + 1) (by omega) HQ.out.2.1.lt).trans HQ.out.2.1
          have hR7 : Blk w7 G #[.string ⟨#[]⟩, .slice none 0 0, .slice none 0 0] 25 := (hbl7 G (by omega) HR.out.lt).trans HR.out
          have hln := GJ.comp (g := g7) (t := t) (x := (Value.string tn, Value.slice ta tl tc, Value.slice sa sl sc)) (v' := .slice (some ⟨g7, 0, none⟩) (xn + 1) cap7) HC5.out (by simp only; have := HXN.out; omega) HFC.out (fun X hX => CpAt.up (k * 10000) (k * 10000 + 5000) _ _ _ _ (by omega) (HST.out X (hX.mono (fun b q => ⟨q.1, by
            rcases q.2 with q | q
            · have := HQ.out.2.2.2.1; omega
            · exact (HOB.out _ q).2⟩)))) hgrow7 (by simp only [HXN.out]; exact hown7) rfl (hfr7.imp id (fun q => by rw [q]; simp))
          have HC8 : Hid (GJ M U.heap.size (G + 1) (G + 2) (k * 10000 + 5000) ⟨fnm, .slice va vn vc, fms, .slice (some ⟨g7, 0, none⟩) (xn + 1) cap7, fts ++ [t], fxs ++ [(Value.string tn, Value.slice ta tl tc, Value.slice sa sl sc)]⟩ (w7.setCell ⟨G + 1, 2, none⟩ (.slice (some ⟨g7, 0, none⟩) (xn + 1) cap7))) := hln.1
          have HR8 : Hid (Blk (w7.setCell ⟨G + 1, 2, none⟩ (.slice (some ⟨g7, 0, none⟩) (xn + 1) cap7)) G #[.string ⟨#[]⟩, .slice none 0 0, .slice none 0 0] 25) := hR7.other (by omega) _
          have HB8 : Hid (Below w.heap.size w (w7.setCell ⟨G + 1, 2, none⟩ (.slice (some ⟨g7, 0, none⟩) (xn + 1) cap7))) := ((HBW.out.trans (HKC.out.mono HBW.out.size)).grown hgrow7 (Nat.le_trans HBW.out.size HKC.out.size) (fun q hq => by have := (HOB.out q (List.mem_filterMap.2 ⟨Fm.rc ⟨fnm, .slice va vn vc, fms, .slice xa xn xc, fts, fxs⟩, by simp, hq⟩)).1; have := HG.out; omega)).setCell (p := ⟨G + 1, 2, none⟩) (by show w.heap.size ≤ G + 1; have := HG.out; omega) _
          obtain ⟨k0, k1, k2⟩ := cells3 hK7
          have k3 := hK7.frozen 2
          clear hln hR7 hno hbl7 hown7 hgrow7 hfr7 g0 g1 g2 hlt7
          go_wp2
          go_roundw
          case rel => exact ⟨p + cnt, fuel, _, by go_num, by omega, by omega, HC8.out, by simp only [List.length_append, List.length_cons, List.length_nil]; have := HVN.out; have := HXN.out; omega, by omega, by rw [HNX.out]; rfl, HR8.out, HB8.out⟩
          case measure => simp [intOf]; omega
theorem read_all : ∀ k, k ≤ 8 → RcC k
  | 0, _ => read_zero
  | k + 1, h => read_step k (by omega) (read_all k (by omega))
end Go.Proofs.YtenclgnkogmgiaaDoor
namespace Go.Proofs.YtenclgnkogmgiaaDoor
open Go.RowKit
set_option linter.unusedVariables false

def RPostC (w : World) (l : List Int) (e : Ending) (w' : World) : Prop :=
  ∃ (v : Value) (p : Nat) (code : Int), e = .returned (.tuple #[v, .agg #[.int .i64 (p : Nat), .int .i64 code]]) ∧ Below w.heap.size w w' ∧
    ((RF l p code ∧ v = .slice none 0 0) ∨ (p = 0 ∧ code = 0 ∧ ∃ (a : Option Addr) (cap : Nat) (ls : List Lm), v = .slice a ls.length cap ∧ (ls.length ≤ cap ∧ cap ≤ 9223372036854775807) ∧ LRow w' a ls ∧ ROk l ls))
theorem rread_retc {w X : World} {l : List Int} {p : Nat} {code : Int} {v : Value} {A : Act} (hX : Blk X w.heap.size #[.int .i64 (p : Nat), .int .i64 code] 56) (hb : Below w.heap.size w X)
    (hans : (RF l p code ∧ v = .slice none 0 0) ∨ (p = 0 ∧ code = 0 ∧ ∃ (a : Option Addr) (cap : Nat) (ls : List Lm), v = .slice a ls.length cap ∧ (ls.length ≤ cap ∧ cap ≤ 9223372036854775807) ∧ LRow X a ls ∧ ROk l ls))
    (hd : A.defers = []) (h2 : A.tmps[2]?.getD undef = v) (h3 : A.tmps[3]?.getD undef = .pointer (some ⟨w.heap.size, 0, none⟩)) : bodyPost Tryd.prog Tryd.f39 (RPostC w l) .ret A X := by
  have q0 := hX.cell 0
  have q1 := hX.cell 1
  simp only [List.getElem?_toArray, List.getElem?_cons_zero, List.getElem?_cons_succ] at q0 q1
  refine bodyPost_ret (v := .tuple #[v, .agg #[.int .i64 (p : Nat), .int .i64 code]]) ?_ hd ⟨v, p, code, rfl, hb, hans⟩
  simp [results, Tryd.results39, go_sem, q0, q1, h2, h3]
set_option maxHeartbeats 16000000 in
set_option maxRecDepth 100000 in
theorem rread_cap (a : Option Addr) (len cap : Nat) (l : List Int) (w : World) (hl : l.length = len) (hb : Byt l) (hcap : len ≤ cap) (hcm : cap ≤ maxLen) (hr : Row w a l) : Calls Tryd.prog 39 #[.slice a len cap] w (RPostC w l) := by
  obtain ⟨j0, hi, hz0, hz1, hz2⟩ := info_parts Tryd.info39
  have hbig : len ≤ 9223372036854775807 := by have : maxLen = 9223372036854775807 := rfl; omega
  have HL : Hid (l.length = len) := hl
  have HR0 : Hid (Blk (w.alloc (.cells #[.int .i64 0, .int .i64 0] 56)) w.heap.size #[.int .i64 0, .int .i64 0] 56) := Blk.new w _ 56
  have hk0 : Below w.heap.size w (w.alloc (.cells #[.int .i64 0, .int .i64 0] 56)) := keep w _
  obtain ⟨c0, c1, f0, f1⟩ := two_facts HR0.out
  clear hl
  by_cases hlong : 1048576 < len
  · have HF : Hid (RF l 0 2) := .inl ⟨by rw [HL.out]; exact hlong, rfl, rfl⟩
    go_enter Tryd.func39, Tryd.ntmps39
    go_wp2
    refine rread_retc (p := 0) (code := 2) ?_ ?_ (.inl ⟨HF.out, rfl⟩) rfl rfl rfl
    · exact Blk.new w #[.int .i64 ((0 : Nat) : Int), .int .i64 2] 56
    · exact keep w _
  have HUL : Hid ((unfoldZ l).length ≤ 1048576) := by have := unf_len l; have := HL.out; unfold Hid; omega
  go_enter Tryd.func39, Tryd.ntmps39
  go_wp2_with fail
  refine (runfold_any a len cap l _ HL.out hb (by omega) hcap hcm (row_below hr hk0)).mono ?_
  rintro e w1 ⟨v1, rfl, hown1, hb1⟩
  obtain ⟨a1, c1', rfl, hcl1, hcm1, hrow1, _⟩ := own_row' hown1
  have HB1 : Hid (Below w.heap.size w w1) := hk0.trans (hb1.mono (by simp))
  have HR1 : Hid (Blk w1 w.heap.size #[.int .i64 0, .int .i64 0] 56) := HR0.out.below hb1 (by simp)
  have HRW : Hid (Row w1 a1 (unfoldZ l)) := hrow1
  have hUB : Byt (unfoldZ l) := unfold_byt hb
  obtain ⟨ps, r, hps, hur, hdr⟩ := Ut.split_ex (unfoldZ l) hUB
  obtain ⟨ul, hule⟩ : ∃ ul, (unfoldZ l).length = ul := ⟨_, rfl⟩
  have hul2 : ul ≤ 1048576 := by rw [← hule]; exact HUL.out
  rw [hule] at hcl1 ⊢
  have HULE : Hid ((unfoldZ l).length = ul) := hule
  clear hown1 hb1 hrow1 c0 c1 f0 f1 hk0 hule
  by_cases hrn : r = []
  case neg =>
    have HF : Hid (RF l (Ut.flat ps).length 20) := .inr (.inl ⟨by rw [HL.out]; omega, ps, r, hps, fun y hy => hUB y (by rw [hur]; simp [hy]), hur, hdr, hrn, rfl, rfl⟩)
    have hpts := Ut.rpoints_no a1 ul c1' ps r w1 (by rw [← hur]; exact HULE.out) hps hdr hrn (fun y hy => hUB y (by rw [hur]; simp [hy])) hcl1 hcm1 (by omega) (by rw [← hur]; exact HRW.out)
    obtain ⟨fp, hfp⟩ : ∃ fp, (Ut.flat ps).length = fp := ⟨_, rfl⟩
    rw [hfp] at HF hpts
    clear hur hdr hps hrn hfp hUB
    go_wp2_with fail
    refine hpts.mono ?_
    rintro e w2 ⟨rfl, hb2⟩
    have HB2 : Hid (Below w.heap.size w w2) := HB1.out.trans (hb2.mono HB1.out.size)
    have hR2 : Blk w2 w.heap.size #[.int .i64 0, .int .i64 0] 56 := HR1.out.below hb2 (by exact HR1.out.lt)
    have hR3 : Blk (w2.alloc (.cells #[.int .i64 (fp : Nat), .int .i64 20] 56)) w.heap.size #[.int .i64 0, .int .i64 0] 56 := hR2.below (keep w2 _) hR2.lt
    obtain ⟨d0, d1, g0, g1⟩ := two_facts hR3
    obtain ⟨e0, e1, _, _⟩ := two_facts (Blk.new w2 #[.int .i64 (fp : Nat), .int .i64 20] 56)
    have HR3 : Hid (Blk (w2.alloc (.cells #[.int .i64 (fp : Nat), .int .i64 20] 56)) w.heap.size #[.int .i64 0, .int .i64 0] 56) := hR3
    have HB3 : Hid (Below w.heap.size w (w2.alloc (.cells #[.int .i64 (fp : Nat), .int .i64 20] 56))) := HB2.out.alloc HB2.out.size _
    clear hb2 hR2 hR3
    go_wp2
    generalize w2.alloc (.cells #[.int .i64 (fp : Nat), .int .i64 20] 56) = w3 at d0 d1 g0 g1 e0 e1 HR3 HB3 ⊢
    go_region
    go_wp2
    exact rread_retc (p := fp) (code := 20) (blk_set2 HR3.out) (below_drew ((HB3.out.setCell (p := ⟨w.heap.size, 0, none⟩) (Nat.le_refl _) _).setCell (p := ⟨w.heap.size, 1, none⟩) (Nat.le_refl _) _)) (.inl ⟨HF.out, rfl⟩) rfl rfl rfl
  subst hrn
  rw [List.append_nil] at hur
  have hpts := Ut.rpoints_yes a1 ul c1' ps w1 (by rw [← hur]; exact HULE.out) hps hcl1 hcm1 (by omega) (by rw [← hur]; exact HRW.out)
  have HV : Hid (∃ ps, Ut.AllPt ps ∧ unfoldZ l = Ut.flat ps) := ⟨ps, hps, hur⟩
  clear hur hdr hps hUB
  go_wp2_with fail
  refine hpts.mono ?_
  rintro e w2 ⟨v2, rfl, _, hb2⟩
  have HB2 : Hid (Below w.heap.size w w2) := HB1.out.trans (hb2.mono HB1.out.size)
  have HR2 : Hid (Blk w2 w.heap.size #[.int .i64 0, .int .i64 0] 56) := HR1.out.below hb2 HR1.out.lt
  have HRW2 : Hid (Row w2 a1 (unfoldZ l)) := row_below HRW.out hb2
  obtain ⟨e0, e1, _, _⟩ := two_facts (Blk.new w2 #[.int .i64 0, .int .i64 0] 56)
  obtain ⟨bb, oo, ha⟩ : ∃ bb oo, unfoldZ l ≠ [] → a1 = some ⟨bb, oo, none⟩ := by
    rcases HRW.out with h | ⟨bb, oo, h, _⟩
    · exact ⟨0, 0, fun q => absurd h q⟩
    · exact ⟨bb, oo, fun _ => h⟩
  have hk2 := keep w2 (.cells #[.int .i64 0, .int .i64 0] 56)
  have hlr := lines_ref a1 bb oo ul c1' (unfoldZ l) (w2.alloc (.cells #[.int .i64 0, .int .i64 0] 56)) HULE.out (by omega) hcl1 hcm1 (row_below HRW2.out hk2) ha
  clear hb2 hpts
  go_wp2_with fail
  refine hlr.mono ?_
  rintro e w3 ⟨v3, rfl, hown3, hb3⟩
  have HB3 : Hid (Below w.heap.size w w3) := (HB2.out.alloc HB2.out.size _).trans (hb3.mono (by have := HB2.out.size; simp; omega))
  have HR3 : Hid (Blk w3 w.heap.size #[.int .i64 0, .int .i64 0] 56) := (HR2.out.below hk2 HR2.out.lt).below hb3 (by have := HR2.out.lt; simp; omega)
  have HRW3 : Hid (Row w3 a1 (unfoldZ l)) := row_below (row_below HRW2.out hk2) hb3
  obtain ⟨n, hne⟩ : ∃ n, (linesZ 0 (unfoldZ l)).length = n := ⟨_, rfl⟩
  have HN : Hid ((linesZ 0 (unfoldZ l)).length = n) := hne
  have hnle : n ≤ 1048577 := by
    rw [← hne, lines_split (unfoldZ l).length _ 0 (Nat.le_refl _), conv_len _ 0 0]
    have h1 := linesV_le (splitP (unfoldZ l).length (unfoldZ l)) 0
    have h2 := split_count (unfoldZ l).length (unfoldZ l)
    have := HUL.out
    omega
  obtain ⟨a3, c3, rfl, HAT⟩ : ∃ a3 c3, v3 = .slice a3 n c3 ∧ Hid (0 < n → ∃ b off g, a3 = some ⟨g, 0, none⟩ ∧ At w w3 l b off c1' g) := by
    by_cases hn0 : linesZ 0 (unfoldZ l) = []
    · rw [hn0] at hne hown3
      obtain rfl : n = 0 := hne.symm
      rcases hown3.2 with ⟨rfl, _⟩ | ⟨g, c, cur, rfl, _⟩
      · exact ⟨none, 0, rfl, fun h => by omega⟩
      · exact ⟨_, c, rfl, fun h => by omega⟩
    · obtain ⟨g, c, e, hc⟩ := ownL_cells hown3 hn0
      rw [hne] at e
      refine ⟨_, c, e, fun _ => ⟨bb, oo, g, rfl, HR3.out, HB3.out, ?_, hc, by rw [HL.out]; omega, HV.out⟩⟩
      have hUne : unfoldZ l ≠ [] := fun h => hn0 (by rw [h, linesZ_nil])
      rw [← ha hUne]; exact HRW3.out
  clear hown3 hb3 hlr hk2 e0 e1 hne ha
  obtain ⟨S, hS⟩ : ∃ S, splitP (unfoldZ l).length (unfoldZ l) = S := ⟨_, rfl⟩
  have HSS : Hid (splitP (unfoldZ l).length (unfoldZ l) = S) := hS
  clear hS
  go_wp2
  go_loopw [8, 7, 9, 10] (fun i v _ _ wr => ∃ k : Nat, i = .int .i64 k ∧ k ≤ n ∧ QJ w3 S k v wr) (fun i _ _ _ _ => n - (intOf i).toNat)
  case atStart => exact ⟨0, rfl, by omega, [], ⟨rfl, .inl ⟨rfl, rfl⟩⟩, by simp, rfl, by omega, by simp, Below.refl _ _⟩
  case round =>
    obtain ⟨k, rfl, hk, hq⟩ := hrel
    have HQ : Hid (QJ w3 S k u7 wr) := hq
    obtain ⟨ls, _, _, hlk, hk4, _, hbel⟩ := hq
    have HBW : Hid (Below w3.heap.size w3 wr) := hbel
    obtain ⟨av, cv, hv⟩ : ∃ av cv, u7 = .slice av k cv := by
      obtain ⟨ls', h1, _, h3, _⟩ := HQ.out
      rcases h1.2 with ⟨e, hn⟩ | ⟨g, c, cur, e, _⟩
      · exact ⟨none, 0, by rw [e]; rw [← h3, hn]⟩
      · exact ⟨_, c, by rw [e, h3]⟩
    subst hv
    clear hlk hbel
    by_cases hlt : k < n
    · have dl : decide ((k : Int) < (n : Int)) = true := by simp; omega
      obtain ⟨b, off, g, rfl, hat⟩ := HAT.out (by omega)
      obtain ⟨q, B, p, e, hq1, hq2, hq3, hq4, hq5, hq6, hrow, m0, m1, m2⟩ := hat.piece (i := k) (by rw [HN.out]; exact hlt)
      rw [HSS.out] at hq1 hq3
      have HQ1 : Hid (S[k]? = some q) := hq1
      have HQ3 : Hid (p = (S.take k).flatten.length) := hq3
      have HQ4 : Hid (goodP q = if e = true then oneR B else none) := hq4
      have HQ2 : Hid (q ≠ []) := hq2
      have x0 : wr.cell? ⟨g, k * 3, none⟩ = some (.int .i64 (p : Nat)) := cell_keep HBW.out m0
      have x1 : wr.cell? ⟨g, k * 3 + 1, none⟩ = some (.slice (some ⟨b, off + p, none⟩) B.length (c1' - p)) := cell_keep HBW.out m1
      have x2 : wr.cell? ⟨g, k * 3 + 2, none⟩ = some (.bool e) := cell_keep HBW.out m2
      have kc := conv_row B.length (c1' - p) rfl (row_below hrow HBW.out)
      have hadd : (⟨g, 0, none⟩ : Addr).add (k * 3) = ⟨g, k * 3, none⟩ := by rw [add_plain, Nat.zero_add]
      have hsB : (strOfNums B).size ≤ 2000000 := by have := nums_len (strOfNums B); rw [nums_str hq5] at this; omega
      have hone := fun V => rone_any (strOfNums B) V hsB
      rw [nums_str hq5] at hone
      have HK4 : Hid (k ≤ 4096) := hk4
      obtain ⟨bl, hbl⟩ : ∃ bl, B.length = bl := ⟨_, rfl⟩
      rw [hbl] at x1 kc
      have hbl2 : bl ≤ 1048576 := by omega
      clear hq1 hq2 hq3 hq4 hq5 hq6 hrow m0 m1 m2 hat hsB hbl
      go_wp2_with fail
      refine (hone _).mono ?_
      rintro e' w4 ⟨nm, vl, fa, fc, fs, code, rfl, hans, hln, hb4⟩
      have HJ4 : Hid (QJ w3 S k (.slice av k cv) w4) := HQ.out.below hb4
      have y0 := cell_keep hb4 x0
      have y2 := cell_keep hb4 x2
      have HB4 : Hid (Below w3.heap.size w3 w4) := HBW.out.trans (hb4.mono HBW.out.size)
      clear x0 x1 x2 kc hone HQ
      unfold lineV
      have hk4' := keep w4 (.cells #[.string nm, .slice fa fs.length fc, .string vl] 39)
      have z0 := cell_keep hk4' y0
      have z2 := cell_keep hk4' y2
      have HJ5 : Hid (QJ w3 S k (.slice av k cv) (w4.alloc (.cells #[.string nm, .slice fa fs.length fc, .string vl] 39))) := HJ4.out.below hk4'
      have HR5 : Hid (Blk (w4.alloc (.cells #[.string nm, .slice fa fs.length fc, .string vl] 39)) w.heap.size #[.int .i64 0, .int .i64 0] 56) := (HR3.out.below HB4.out HR3.out.lt).below hk4' (by have := HR3.out.lt; have := HB4.out.size; omega)
      obtain ⟨d0, d1, g0, g1⟩ := two_facts HR5.out
      have HB5 : Hid (Below w.heap.size w (w4.alloc (.cells #[.string nm, .slice fa fs.length fc, .string vl] 39))) := (HB3.out.trans (HB4.out.mono HB3.out.size)).alloc (by have := HB3.out.size; have := HB4.out.size; omega) _
      have hlow : w.heap.size < w4.heap.size := by have := HR3.out.lt; have := HB4.out.size; omega
      have good : goodP q = none → Hid (RF l p 90) := fun hn => .inr (.inr ⟨by rw [HL.out]; omega, HV.out, k, q, by rw [HSS.out]; exact HQ1.out, HQ2.out, (by
        intro i r hik hr
        obtain ⟨ls', _, _, h3, _, h5, _⟩ := HJ4.out
        rw [HSS.out] at hr
        obtain ⟨q', hq', hg'⟩ := h5 i ls'[i] (List.getElem?_eq_getElem (by omega))
        rw [hr] at hq'; cases hq'; rw [hg']; rfl), HK4.out, by rw [HSS.out]; exact HQ3.out, .inl ⟨hn, rfl⟩⟩)
      have many : (goodP q).isSome = true → k = 4096 → Hid (RF l p 2) := fun hn h4 => .inr (.inr ⟨by rw [HL.out]; omega, HV.out, k, q, by rw [HSS.out]; exact HQ1.out, HQ2.out, (by
        intro i r hik hr
        obtain ⟨ls', _, _, h3, _, h5, _⟩ := HJ4.out
        rw [HSS.out] at hr
        obtain ⟨q', hq', hg'⟩ := h5 i ls'[i] (List.getElem?_eq_getElem (by omega))
        rw [hr] at hq'; cases hq'; rw [hg']; rfl), HK4.out, by rw [HSS.out]; exact HQ3.out, .inr ⟨hn, h4, rfl⟩⟩)
      have bad : ∀ cc (HF : Hid (RF l p cc)) (A : Act) (X : World), X = ((w4.alloc (.cells #[.string nm, .slice fa fs.length fc, .string vl] 39)).setCell ⟨w.heap.size, 0, none⟩ (.int .i64 (p : Nat))).setCell ⟨w.heap.size, 1, none⟩ (.int .i64 cc) → A.defers = [] → A.tmps[2]?.getD undef = .slice none 0 0 → A.tmps[3]?.getD undef = .pointer (some ⟨w.heap.size, 0, none⟩) → ∀ j, bodyPost Tryd.prog Tryd.f39 (RPostC w l) .ret A (X.drewN j) := by
        intro cc HF A X hX h1 h2 h3 j
        subst hX
        exact rread_retc (p := p) (code := cc) (show Blk (World.drewN _ j) _ _ _ from blk_set2 HR5.out) (below_drewN ((HB5.out.setCell (p := ⟨w.heap.size, 0, none⟩) (Nat.le_refl _) _).setCell (p := ⟨w.heap.size, 1, none⟩) (Nat.le_refl _) _) j) (.inl ⟨HF.out, rfl⟩) h1 h2 h3
      rcases hans with ⟨hsome, rfl⟩ | ⟨hnone, rfl, hno⟩
      case inr =>
        have HF := good (by rw [HQ4.out, hnone]; split <;> rfl)
        clear hln hnone hno good many
        go_wp2
        generalize w4.alloc (.cells #[.string nm, .slice fa fs.length fc, .string vl] 39) = w5 at z0 z2 d0 d1 g0 g1 bad HR5 HB5 HJ5 hk4' ⊢
        go_region
        go_wp2
        exact bad 90 HF _ _ rfl rfl rfl rfl _
      cases e with
      | false =>
        have HF := good (by rw [HQ4.out]; rfl)
        clear hln hsome good many
        go_wp2
        generalize w4.alloc (.cells #[.string nm, .slice fa fs.length fc, .string vl] 39) = w5 at z0 z2 d0 d1 g0 g1 bad HR5 HB5 HJ5 hk4' ⊢
        go_region
        go_wp2
        exact bad 90 HF _ _ rfl rfl rfl rfl _
      | true =>
        have hgq : goodP q = some ⟨nums nm, numsP fs, nums vl⟩ := by rw [HQ4.out, if_pos rfl, hsome]
        by_cases h4096 : k = 4096
        · have HF := many (by rw [hgq]; rfl) h4096
          have e4 : ((k : Int) == 4096) = true := by simp [h4096]
          clear hln hsome good many hgq h4096
          go_wp2
          generalize w4.alloc (.cells #[.string nm, .slice fa fs.length fc, .string vl] 39) = w5 at z0 z2 d0 d1 g0 g1 bad HR5 HB5 HJ5 hk4' ⊢
          go_region
          go_wp2
          exact bad 2 HF _ _ rfl rfl rfl rfl _
        · have e4 : ((k : Int) == 4096) = false := by rw [beq_eq_false_iff_ne]; omega
          obtain ⟨l0, l1, l2, _, _, _⟩ := three_cells (heap_alloc_last w4 (.cells #[.string nm, .slice fa fs.length fc, .string vl] 39))
          obtain ⟨ls', o1, o2, o3, o4, o5, o6⟩ := HJ5.out
          have HO1 : Hid ((w4.alloc (.cells #[.string nm, .slice fa fs.length fc, .string vl] 39)).ownsRow w3.heap.size 39 3 (.slice av k cv) k (ls'.flatMap cellM)) := by rw [o3] at o1; exact o1
          have HFR : Hid (FRow (w4.alloc (.cells #[.string nm, .slice fa fs.length fc, .string vl] 39)) fa fs ∧ ∀ x, fa = some x → w3.heap.size ≤ x.block ∧ ∃ cs, (w4.alloc (.cells #[.string nm, .slice fa fs.length fc, .string vl] 39)).heap[x.block]? = some (.cells cs 65 (0, 0))) := by
            refine ⟨hln.1.below hk4', fun x hx => ?_⟩
            obtain ⟨h1, cs, h2⟩ := hln.2.1 x hx
            exact ⟨by have := HBW.out.size; omega, cs, (hk4'.block _ (Array.getElem?_eq_some_iff.1 h2).1).trans h2⟩
          have H26 : Hid ((∀ m ∈ ls', FRow (w4.alloc (.cells #[.string nm, .slice fa fs.length fc, .string vl] 39)) m.a m.fs ∧ ∀ x, m.a = some x → w3.heap.size ≤ x.block ∧ ∃ cs, (w4.alloc (.cells #[.string nm, .slice fa fs.length fc, .string vl] 39)).heap[x.block]? = some (.cells cs 65 (0, 0))) ∧ ls'.length = k ∧ (∀ (i : Nat) (m : Lm), ls'[i]? = some m → ∃ q, S[i]? = some q ∧ goodP q = some m.ln)) := ⟨o2, o3, o5⟩
          have HB6 : Hid (Below w3.heap.size w3 (w4.alloc (.cells #[.string nm, .slice fa fs.length fc, .string vl] 39))) := o6
          have HGQ : Hid (goodP q = some ⟨nums nm, numsP fs, nums vl⟩) := hgq
          have hsz5 : (w4.alloc (.cells #[.string nm, .slice fa fs.length fc, .string vl] 39)).heap.size = w4.heap.size + 1 := by simp
          have hw34 := HB4.out.size
          clear hln hsome good many hgq o1 o2 o3 o4 o5 o6 HJ4 HJ5 bad hb4
          go_wp2_with (at_builtin; refine wpList_append_own _ rfl (.tmp 69) (.tmp 71) 22 rfl w3.heap.size 39 j0 _ 3 56 Tryd.underlying22 hi hz0 hz1 hz2 rfl (by decide) (.slice av k cv) k _ rfl (own_keep HO1.out (keep _ _)) ⟨w4.heap.size + 1, 0, none⟩ 1 1 [.string nm, .slice fa fs.length fc, .string vl] rfl rfl ?a0 ?a4 ?a1 ?a2 ?a3 ?_)
          case a0 =>
            intro j u hu
            have q := cells_new (w4.alloc (.cells #[.string nm, .slice fa fs.length fc, .string vl] 39)) [.string nm, .slice fa fs.length fc, .string vl] 39 j u hu
            rwa [hsz5] at q
          case a4 => intro u hu; simp at hu; rcases hu with rfl | rfl | rfl <;> rfl
          case a1 => unfold maxLen; omega
          case a2 => omega
          case a3 => simp; omega
          intro v' w6 hown6 hgrow6 _
          have hk5 := keep (w4.alloc (.cells #[.string nm, .slice fa fs.length fc, .string vl] 39)) (.cells #[.string nm, .slice fa fs.length fc, .string vl] 39)
          have HJ6 : Hid (QJ w3 S (k + 1) v' w6) := by
            refine QJ.app (m := ⟨nm, vl, fa, fc, fs⟩) (own_keep HO1.out hk5) ?_ H26.out.2.1 (by have := HK4.out; omega) H26.out.2.2 (HB6.out.trans (hk5.mono HB6.out.size)) HQ1.out HGQ.out hown6 hgrow6
            intro m' hm'
            have key : FRow (w4.alloc (.cells #[.string nm, .slice fa fs.length fc, .string vl] 39)) m'.a m'.fs ∧ ∀ x, m'.a = some x → w3.heap.size ≤ x.block ∧ ∃ cs, (w4.alloc (.cells #[.string nm, .slice fa fs.length fc, .string vl] 39)).heap[x.block]? = some (.cells cs 65 (0, 0)) := by
              rcases List.mem_append.1 hm' with h | h
              · exact H26.out.1 m' h
              · simp at h; subst h; exact HFR.out
            refine ⟨key.1.below hk5, fun x hx => ⟨(key.2 x hx).1, ?_⟩⟩
            obtain ⟨cs, hcs⟩ := (key.2 x hx).2
            exact ⟨cs, (hk5.block _ (Array.getElem?_eq_some_iff.1 hcs).1).trans hcs⟩
          clear hown6 hgrow6
          go_wp2
          go_roundw
          case rel => exact ⟨k + 1, by go_num, by omega, HJ6.out⟩
          case measure => simp [intOf]; omega
    · have dl : decide ((k : Int) < (n : Int)) = false := by simp; omega
      have HRk : Hid (Blk wr w.heap.size #[.int .i64 0, .int .i64 0] 56) := HR3.out.below HBW.out HR3.out.lt
      have HBk : Hid (Below w.heap.size w wr) := HB3.out.trans (HBW.out.mono HB3.out.size)
      obtain ⟨d0, d1, g0, g1⟩ := two_facts HRk.out
      have HANS : Hid (∃ (a : Option Addr) (cap : Nat) (ls : List Lm), (.slice av k cv : Value) = .slice a ls.length cap ∧ (ls.length ≤ cap ∧ cap ≤ 9223372036854775807) ∧ LRow ((wr.setCell ⟨w.heap.size, 0, none⟩ (.int .i64 0)).setCell ⟨w.heap.size, 1, none⟩ (.int .i64 0)) a ls ∧ ROk l ls) := by
        obtain ⟨ls', o1, o2, o3, o4, o5, o6⟩ := HQ.out
        have hRlt := HR3.out.lt
        have o1' := own_set (f := w.heap.size) (o := 1) (u := .int .i64 0) hRlt (own_set (f := w.heap.size) (o := 0) (u := .int .i64 0) hRlt o1)
        obtain ⟨a', cap', e', hlr⟩ := ownM_view o1' (fun m hm => ((o2 m hm).1.blk (fun x hx => heap_setCell_other _ _ _ _ (by have := ((o2 m hm).2 x hx).1; simp; omega))).blk (fun x hx => heap_setCell_other _ _ _ _ (by have := ((o2 m hm).2 x hx).1; simp; omega)))
        have o1c := o1'
        rw [e'] at o1c
        have hcaps := row_caps o1c
        refine ⟨a', cap', ls', e', ⟨by omega, by omega⟩, hlr, by rw [HL.out]; omega, HV.out, ?_, by omega, by rw [HSS.out]; exact o5⟩
        rw [← conv_len _ 0 0, ← lines_split _ _ 0 (Nat.le_refl _), HN.out]
        omega
      go_wp2
      refine rread_retc (p := 0) (code := 0) ?_ ?_ (.inr ⟨rfl, rfl, ?_⟩) rfl rfl rfl
      · exact blk_set2 HRk.out
      · exact (HBk.out.setCell (p := ⟨w.heap.size, 0, none⟩) (Nat.le_refl _) _).setCell (p := ⟨w.heap.size, 1, none⟩) (Nat.le_refl _) _
      · exact HANS.out
end Go.Proofs.YtenclgnkogmgiaaDoor
namespace Go.Proofs.YtenclgnkogmgiaaDoor
open Go.RowKit Go.Shelf
set_option linter.unusedVariables false
set_option linter.unusedSimpArgs false

theorem rt_exact {h : Nat} {t : Cp} (hd : dep h t) : rightT t = (decide (((nP h t : Nat) : Int) ≤ 64) && decide (((lP h t : Nat) : Int) ≤ 8192) && decide (((dP h t : Nat) : Int) ≤ 8) && fitsZ h t) := by
  rw [Bool.eq_iff_iff, right_iff hd]
  simp only [Bool.and_eq_true, decide_eq_true_eq, fits_iff]
  constructor
  · rintro ⟨h1, h2, h3, h4⟩
    exact ⟨⟨⟨by omega, by omega⟩, by omega⟩, h1⟩
  · rintro ⟨⟨⟨h1, h2⟩, h3⟩, h4⟩
    exact ⟨h4, by omega, by omega, by omega⟩
set_option maxHeartbeats 8000000 in
set_option maxRecDepth 100000 in
theorem rright_big (h : Nat) (t : Cp) (x y z : Value) (w : World) (hp : CpAt h w t x y z) (hf : FitC h t) (hn : nP h t ≤ 1000000) (hl : lP h t ≤ 1000000000) : Calls Tryd.prog 15 #[compV x y z] w fun e w' => e = .returned (.bool (rightT t)) ∧ Below w.heap.size w w' := by
  have hd := dep_cp h t x y z hp
  obtain ⟨⟨nm, rfl, _⟩, ⟨ya, yn, yc, rfl⟩, ⟨za, zn, zc, rfl⟩⟩ := cp_form hp
  have hk0 := keep w (.cells #[.string nm, .slice ya yn yc, .slice za zn zc] 25)
  have hct := count_exact h t _ _ _ (w.alloc (.cells #[.string nm, .slice ya yn yc, .slice za zn zc] 25)) (CpAt.below hk0 _ _ _ _ _ hp) hn hl
  have HK0 : Hid (Below w.heap.size w (w.alloc (.cells #[.string nm, .slice ya yn yc, .slice za zn zc] 25))) := hk0
  have HG0 : Hid (Blk (w.alloc (.cells #[.string nm, .slice ya yn yc, .slice za zn zc] 25)) w.heap.size #[.string nm, .slice ya yn yc, .slice za zn zc] 25) := Blk.new _ _ _
  have HP : Hid (CpAt h w t (.string nm) (.slice ya yn yc) (.slice za zn zc)) := hp
  have HF : Hid (FitC h t) := hf
  have HD : Hid (dep h t) := hd
  unfold compV at hct ⊢
  clear hk0 hp hf hd hn hl
  go_enter Tryd.func15, Tryd.ntmps15
  go_wp2_with fail
  refine hct.mono ?_
  rintro e w2 ⟨rfl, hb2⟩
  have hz := rt_exact HD.out
  obtain ⟨n, hn⟩ : ∃ n, nP h t = n := ⟨_, rfl⟩
  obtain ⟨l, hl⟩ : ∃ n, lP h t = n := ⟨_, rfl⟩
  rw [hn, hl] at hz ⊢
  have hb := HK0.out.trans (hb2.mono HK0.out.size)
  obtain ⟨c0, c1, c2⟩ := cells3 (HG0.out.below hb2 HG0.out.lt)
  have HB2 : Hid (Below w.heap.size w w2) := hb
  obtain ⟨dd, hdd⟩ : ∃ d, dP h t = d := ⟨_, rfl⟩
  have hft := fits_any h t _ _ _ w2 (CpAt.below hb _ _ _ _ _ HP.out) HF.out
  obtain ⟨fb, hfb⟩ : ∃ b, fitsZ h t = b := ⟨_, rfl⟩
  rw [hfb] at hft hz
  rw [hdd] at hz ⊢
  have HZ : Hid (rightT t = (decide ((n : Int) ≤ 64) && decide ((l : Int) ≤ 8192) && decide ((dd : Int) ≤ 8) && fb)) := hz
  unfold compV at hft
  clear hct hb2 hz hb hdd hfb hn hl
  by_cases h1 : (n : Int) ≤ 64
  · by_cases h2 : (l : Int) ≤ 8192
    · by_cases h3 : (dd : Int) ≤ 8
      · go_wp2_with fail
        refine hft.mono ?_
        rintro e w3 ⟨rfl, hb3⟩
        have HB3 : Hid (Below w.heap.size w w3) := HB2.out.trans (hb3.mono HB2.out.size)
        clear hb3 hft
        go_wp2
        go_ret
        exact ⟨ret_bool (by rw [HZ.out]; simp [h1, h2, h3]), HB3.out⟩
      · go_wp2
        go_ret
        exact ⟨ret_bool (by rw [HZ.out]; simp; intros; omega), HB2.out⟩
    · go_wp2
      go_ret
      exact ⟨ret_bool (by rw [HZ.out]; simp; intros; omega), HB2.out⟩
  · go_wp2
    go_ret
    exact ⟨ret_bool (by rw [HZ.out]; simp; intros; omega), HB2.out⟩
theorem sumN_app (f : Cp → Nat) (x : Cp) : ∀ l : List Cp, sumN f (l ++ [x]) = sumN f l + f x
  | [] => by simp [sumN]
  | y :: l => by simp only [List.cons_append, sumN, sumN_app f x l]; omega
def SzR (h : Nat) (rec : List Ln → Option (Cp × List Ln)) : Prop := ∀ L x r, rec L = some (x, r) → nP h x + lP h x + r.length ≤ L.length
theorem rl_size {h : Nat} {rec : List Ln → Option (Cp × List Ln)} (hr : SzR h rec) : ∀ (n : Nat) (f : Cp) (L : List Ln) (x : Cp) (r : List Ln), rlL rec n f L = some (x, r) →
    x.ls.length + sumN (nP h) x.cs + sumN (lP h) x.cs + r.length ≤ f.ls.length + sumN (nP h) f.cs + sumN (lP h) f.cs + L.length
  | 0, f, L, x, r, h => by simp [rlL] at h
  | n + 1, f, [], x, r, h => by simp [rlL] at h
  | n + 1, f, l :: L, x, r, h => by
    by_cases h1 : l.name = enZ
    · by_cases h2 : l.pars ≠ [] ∨ l.value.map largeZ ≠ f.nm
      · rw [rl_endn h1 h2] at h; cases h
      · rw [not_or, Classical.not_not, Classical.not_not] at h2
        rw [rl_end h1 h2.1 h2.2] at h
        simp only [Option.some.injEq, Prod.mk.injEq] at h
        obtain ⟨rfl, rfl⟩ := h
        simp only [List.length_cons]; omega
    · by_cases h2 : l.name = bgZ
      · cases h3 : rec (l :: L) with
        | none => rw [rl_inn h2 h3] at h; cases h
        | some p =>
          obtain ⟨y, r'⟩ := p
          rw [rl_in h2 h3] at h
          have a := hr _ _ _ h3
          have b := rl_size hr n _ r' x r h
          simp only [sumN_app] at b
          omega
      · rw [rl_own h1 h2] at h
        have := rl_size hr n _ L x r h
        simp only [List.length_append, List.length_cons, List.length_nil] at this ⊢
        omega
theorem rf_size : ∀ h k, SzR h (rfP k)
  | 0, k => fun L x r hh => by have := rf_short k L x r hh; simp only [nP, lP]; omega
  | h + 1, 0 => fun L x r hh => by simp [rfP] at hh
  | h + 1, k + 1 => fun L x r hh => by
    cases L with
    | nil => simp [rfP] at hh
    | cons l L =>
      by_cases h1 : l.name ≠ bgZ ∨ l.pars ≠ []
      · rw [rf_bad h1] at hh; cases hh
      · rw [not_or, Classical.not_not, Classical.not_not] at h1
        rw [rf_go h1.1 h1.2] at hh
        have := rl_size (rf_size h k) _ _ _ _ _ hh
        simp only [nP, lP, List.length_cons, List.length_nil, sumN] at this ⊢
        omega
/-- Parameters stay where the answer's block changes. -/
theorem frow_off {R : Nat} {w1 X : World} {a : Option Addr} {fs : List (ByteArray × ByteArray)} (h : FRow w1 a fs) (hR : Blk w1 R #[.string ⟨#[]⟩, .slice none 0 0, .slice none 0 0] 25) (hX : ∀ b, b < w1.heap.size → ¬ (b = R ∨ w1.heap.size ≤ b) → X.heap[b]? = w1.heap[b]?) : FRow X a fs := by
  rcases h with h | ⟨b, off, rfl, h⟩
  · exact .inl h
  · refine .inr ⟨b, off, rfl, fun i f hf => ?_⟩
    obtain ⟨h1, h2⟩ := h i f hf
    have hlt : b < w1.heap.size := World.block_lt_of_cell? w1 _ h1
    have hbR : b ≠ R := by
      rintro rfl
      rw [hR.cell] at h1 h2
      have : off + i * 2 = 0 ∨ off + i * 2 = 1 ∨ off + i * 2 = 2 ∨ 3 ≤ off + i * 2 := by omega
      rcases this with e | e | e | e
      · rw [e] at h2; simp at h2
      · rw [e] at h1; simp at h1
      · rw [e] at h1; simp at h1
      · rw [Array.getElem?_eq_none (by simpa using e)] at h1; cases h1
    have e := hX b hlt (fun q => by rcases q with q | q <;> omega)
    exact ⟨(World.cell?_of_block (w := w1) e).trans h1, (World.cell?_of_block (w := w1) e).trans h2⟩
def RvAns (l : List Int) (W : World) (x y z : Value) (c : Int) : Prop :=
  (∃ p, RF l p c ∧ x = .string ⟨#[]⟩ ∧ y = .slice none 0 0 ∧ z = .slice none 0 0) ∨
  (∃ ms, ROk l ms ∧ ((rdM [] (ms.map Lm.ln) = none ∧ c = 100 ∧ x = .string ⟨#[]⟩ ∧ y = .slice none 0 0 ∧ z = .slice none 0 0) ∨
    (∃ t, rdM [] (ms.map Lm.ln) = some t ∧ c = 0 ∧ CpAt 80000 W t x y z)))
def RvPost (w : World) (l : List Int) (e : Ending) (w' : World) : Prop :=
  ∃ x y z c, e = .returned (.tuple #[compV x y z, .int .i64 c]) ∧ Below w.heap.size w w' ∧ RvAns l w' x y z c
set_option maxRecDepth 100000 in
theorem rtr_fin {w W : World} {l : List Int} {x y z : Value} {c : Int} {A : Act} {R : Nat} (hR : Blk W R #[x, y, z] 25) (hb : Below w.heap.size w W) (hans : RvAns l W x y z c) (hd : A.defers = [])
    (h2 : A.tmps[2]?.getD undef = .pointer (some ⟨R, 0, none⟩)) (h3 : A.tmps[3]?.getD undef = .int .i64 c) : bodyPost Tryd.prog Tryd.f17 (RvPost w l) .ret A W := by
  obtain ⟨c0, c1, c2⟩ := cells3 hR
  refine bodyPost_ret (v := .tuple #[compV x y z, .int .i64 c]) ?_ hd ⟨x, y, z, c, rfl, hb, hans⟩
  simp [results, Tryd.results17, go_sem, c0, c1, c2, h2, h3, compV]
set_option maxHeartbeats 16000000 in
set_option maxRecDepth 100000 in
theorem rread_tree (a : Option Addr) (len cap : Nat) (l : List Int) (w : World) (hl : l.length = len) (hb : Byt l) (hcap : len ≤ cap) (hcm : cap ≤ maxLen) (hr : Row w a l) : Calls Tryd.prog 17 #[.slice a len cap] w (RvPost w l) := by
  have hkA := keep w (.cells #[.string ⟨#[]⟩, .slice none 0 0, .slice none 0 0] 25)
  have hrd := rread_cap a len cap l (w.alloc (.cells #[.string ⟨#[]⟩, .slice none 0 0, .slice none 0 0] 25)) hl hb hcap hcm (row_below hr hkA)
  have HKA : Hid (Below w.heap.size w (w.alloc (.cells #[.string ⟨#[]⟩, .slice none 0 0, .slice none 0 0] 25))) := hkA
  have HRA : Hid (Blk (w.alloc (.cells #[.string ⟨#[]⟩, .slice none 0 0, .slice none 0 0] 25)) w.heap.size #[.string ⟨#[]⟩, .slice none 0 0, .slice none 0 0] 25) := Blk.new _ _ _
  clear hkA hr hb hl
  go_enter Tryd.func17, Tryd.ntmps17
  go_wp2_with fail
  refine hrd.mono ?_
  rintro e w1 ⟨v, p, code, rfl, hb1, hans⟩
  clear hrd
  have HB1 : Hid (Below w.heap.size w w1) := HKA.out.trans (hb1.mono HKA.out.size)
  have hR1 : Blk w1 w.heap.size #[.string ⟨#[]⟩, .slice none 0 0, .slice none 0 0] 25 := HRA.out.below hb1 HRA.out.lt
  have HR1 : Hid (Blk w1 w.heap.size #[.string ⟨#[]⟩, .slice none 0 0, .slice none 0 0] 25) := hR1
  clear hb1
  rcases hans with ⟨hrf, rfl⟩ | ⟨rfl, rfl, la, lc, ls, rfl, ⟨hc1, hc2⟩, hlr, hok⟩
  · have hne := (read_wrong hrf).2
    have HRF : Hid (RF l p code) := hrf
    obtain ⟨c0, c1, c2⟩ := cells3 hR1
    have f0 := hR1.frozen 0
    have f1 := hR1.frozen 1
    have f2 := hR1.frozen 2
    have hlt : w.heap.size < w1.heap.size := hR1.lt
    have hne2 : ¬ w.heap.size = w1.heap.size := by omega
    clear hrf hR1
    go_wp2
    go_region
    all_goals go_wp2
    all_goals
      exact rtr_fin (c := code) (R := w.heap.size) (show Blk _ _ #[.string ⟨#[]⟩, .slice none 0 0, .slice none 0 0] _ from (fin3_blk HR1.out (.string ⟨#[]⟩) (.slice none 0 0) (.slice none 0 0)).alloc (.cells #[.int .i64 p, .int .i64 code] 56)) (below_drew ((fin3_below (.string ⟨#[]⟩) (.slice none 0 0) (.slice none 0 0) HB1.out (Nat.le_refl _)).alloc (by simp [fin3]; exact HB1.out.size) _)) (.inl ⟨p, HRF.out, rfl, rfl, rfl⟩) rfl rfl rfl
  · have HOK : Hid (ROk l ls) := hok
    have hn4 : ls.length ≤ 4096 := hok.2.2.2.1
    obtain ⟨n, hn⟩ : ∃ n, ls.length = n := ⟨_, rfl⟩
    have HN : Hid (ls.length = n) := hn
    have hk2 := keep w1 (.cells #[.int .i64 0, .int .i64 0] 56)
    have HB2 : Hid (Below w.heap.size w (w1.alloc (.cells #[.int .i64 0, .int .i64 0] 56))) := HB1.out.trans (hk2.mono HB1.out.size)
    have HR2 : Hid (Blk (w1.alloc (.cells #[.int .i64 0, .int .i64 0] 56)) w.heap.size #[.string ⟨#[]⟩, .slice none 0 0, .slice none 0 0] 25) := HR1.out.below hk2 HR1.out.lt
    have HRT : Hid (∀ m ∈ ls, rightZ m.ln = true) := fun m hm => by
      obtain ⟨i, hi⟩ := List.getElem?_of_mem hm
      obtain ⟨q, _, hq⟩ := hok.2.2.2.2 i m hi
      exact (good_wlen hq).1
    have HFW : Hid (∀ m ∈ ls, FRow w1 m.a m.fs) := fun m hm => by
      obtain ⟨i, hi⟩ := List.getElem?_of_mem hm
      rcases hlr with h0 | ⟨b, off, _, h⟩
      · rw [h0] at hm; simp at hm
      · exact (h i m hi).2
    rw [hn] at hn4 hc1 ⊢
    have hrc := read_all 8 (Nat.le_refl _) (fun b => b = w.heap.size ∨ w1.heap.size ≤ b) la n lc ls w1 (w1.alloc (.cells #[.int .i64 0, .int .i64 0] 56)) 1 (by decide) hn hn4 hc1 hc2 hlr hk2 (fun b hb => .inr hb) (fun m hm => ⟨right_fit (HRT.out m hm), by
      have := (right_fit (HRT.out m hm)).2.2.1
      simp only [Lm.ln, numsP, List.length_map] at this
      omega, fun X hX => frow_off (HFW.out m hm) HR1.out hX⟩)
    clear hlr hok hR1 hk2 hn
    go_wp2_with fail
    refine hrc.mono ?_
    rintro e w4 ⟨x4, y4, z4, cnt, rfl, hb4, ⟨tn, ta, tl, tc, sa, sl, sc, rfl, rfl, rfl⟩, hans⟩
    clear hrc
    unfold compV
    have HB4 : Hid (Below w.heap.size w (w4.alloc (.cells #[.string tn, .slice ta tl tc, .slice sa sl sc] 25))) := HB2.out.trans ((hb4.trans ((keep w4 _).mono hb4.size)).mono HB2.out.size)
    have HR4 : Hid (Blk (w4.alloc (.cells #[.string tn, .slice ta tl tc, .slice sa sl sc] 25)) w.heap.size #[.string ⟨#[]⟩, .slice none 0 0, .slice none 0 0] 25) := (HR2.out.below hb4 HR2.out.lt).alloc _
    have HX4 : Hid (Blk (w4.alloc (.cells #[.string tn, .slice ta tl tc, .slice sa sl sc] 25)) w4.heap.size #[.string tn, .slice ta tl tc, .slice sa sl sc] 25) := Blk.new _ _ _
    obtain ⟨c0, c1, c2⟩ := cells3 HR4.out
    have f0 := HR4.out.frozen 0
    have f1 := HR4.out.frozen 1
    have f2 := HR4.out.frozen 2
    have HLT : Hid (w.heap.size < w1.heap.size) := HR1.out.lt
    have hne4 : ¬ w.heap.size = w4.heap.size := by have := (HR2.out.below hb4 HR2.out.lt).lt; omega
    rcases hans with ⟨hno, rfl⟩ | ⟨t, hyes, hcl, hc1', hft, hst⟩
    · have HNO : Hid (rdM [] (ls.map Lm.ln) = none) := by
        cases hq : rdM [] (ls.map Lm.ln) with
        | none => exact rfl
        | some t => have := ((rd_iff _ t).1 hq).1; rw [hno] at this; cases this
      clear hno hb4
      go_wp2
      exact rtr_fin (c := 100) (R := w.heap.size) (fin3_blk HR4.out (.string ⟨#[]⟩) (.slice none 0 0) (.slice none 0 0)) (fin3_below _ _ _ HB4.out (Nat.le_refl _)) (.inr ⟨ls, HOK.out, .inl ⟨HNO.out, rfl, rfl, rfl, rfl⟩⟩) rfl rfl rfl
    · rw [List.length_map, HN.out] at hcl
      have hci : ((cnt : Int) == 0) = false := by rw [beq_eq_false_iff_ne]; omega
      by_cases hall : cnt = n
      rotate_left
      · have HNO : Hid (rdM [] (ls.map Lm.ln) = none) := by
          cases hq : rdM [] (ls.map Lm.ln) with
          | none => exact rfl
          | some t' =>
            have h1 := ((rd_iff _ t').1 hq).1
            rw [hyes] at h1
            simp only [Option.some.injEq, Prod.mk.injEq] at h1
            have h2 := congrArg List.length h1.2
            rw [List.length_drop, List.length_map, HN.out, List.length_nil] at h2
            omega
        have hcn : ((cnt : Int) == (n : Int)) = false := by rw [beq_eq_false_iff_ne]; omega
        clear hyes hst hft hb4
        go_wp2
        exact rtr_fin (c := 100) (R := w.heap.size) (fin3_blk HR4.out (.string ⟨#[]⟩) (.slice none 0 0) (.slice none 0 0)) (fin3_below _ _ _ HB4.out (Nat.le_refl _)) (.inr ⟨ls, HOK.out, .inl ⟨HNO.out, rfl, rfl, rfl, rfl⟩⟩) rfl rfl rfl
      · have hcn : ((cnt : Int) == (n : Int)) = true := by rw [beq_iff_eq]; omega
        rw [List.drop_of_length_le (by rw [List.length_map, HN.out]; omega)] at hyes
        have HY : Hid (rfP 8 (ls.map Lm.ln) = some (t, [])) := hyes
        have hsz := rf_size 80000 8 _ _ _ hyes
        rw [List.length_map, HN.out, List.length_nil] at hsz
        have HST : Hid (Stay (fun b => (b = w.heap.size ∨ w1.heap.size ≤ b) ∧ b < (w1.alloc (.cells #[.int .i64 0, .int .i64 0] 56)).heap.size) (w4.alloc (.cells #[.string tn, .slice ta tl tc, .slice sa sl sc] 25)) (fun W => CpAt 80000 W t (.string tn) (.slice ta tl tc) (.slice sa sl sc))) := hst.go (Tk.of_below (O := fun _ => False) (keep w4 _)) (fun _ _ q => q.elim) (fun _ _ q => q)
        have hri := rright_big 80000 t _ _ _ (w4.alloc (.cells #[.string tn, .slice ta tl tc, .slice sa sl sc] 25)) HST.out.now (hft 80000) (by omega) (by omega)
        obtain ⟨rb, hrb⟩ : ∃ b, rightT t = b := ⟨_, rfl⟩
        have HRB : Hid (rightT t = rb) := hrb
        rw [hrb] at hri
        unfold compV at hri
        obtain ⟨x0, x1, x2⟩ := cells3 HX4.out
        clear hyes hst hft hb4 hrb hsz
        go_wp2_with fail
        refine hri.mono ?_
        rintro e w5 ⟨rfl, hb5⟩
        have HB5 : Hid (Below w.heap.size w w5) := HB4.out.trans (hb5.mono HB4.out.size)
        have HR5 : Hid (Blk w5 w.heap.size #[.string ⟨#[]⟩, .slice none 0 0, .slice none 0 0] 25) := HR4.out.below hb5 HR4.out.lt
        have HX5 : Hid (Blk w5 w4.heap.size #[.string tn, .slice ta tl tc, .slice sa sl sc] 25) := HX4.out.below hb5 HX4.out.lt
        have HS5 : Hid (Stay (fun b => (b = w.heap.size ∨ w1.heap.size ≤ b) ∧ b < (w1.alloc (.cells #[.int .i64 0, .int .i64 0] 56)).heap.size) w5 (fun W => CpAt 80000 W t (.string tn) (.slice ta tl tc) (.slice sa sl sc))) := HST.out.go (Tk.of_below (O := fun _ => False) hb5) (fun _ _ q => q.elim) (fun _ _ q => q)
        clear hri c0 c1 c2 f0 f1 f2 x0 x1 x2 hb5
        obtain ⟨c0, c1, c2⟩ := cells3 HR5.out
        have f0 := HR5.out.frozen 0
        have f1 := HR5.out.frozen 1
        have f2 := HR5.out.frozen 2
        obtain ⟨x0, x1, x2⟩ := cells3 HX5.out
        cases rb with
        | false =>
          have HNO : Hid (rdM [] (ls.map Lm.ln) = none) := by
            cases hq : rdM [] (ls.map Lm.ln) with
            | none => exact rfl
            | some t' =>
              obtain ⟨h1, h2⟩ := (rd_iff _ t').1 hq
              rw [HY.out] at h1
              simp only [Option.some.injEq, Prod.mk.injEq] at h1
              rw [← h1.1, HRB.out] at h2; cases h2
          go_wp2
          exact rtr_fin (c := 100) (R := w.heap.size) (fin3_blk HR5.out (.string ⟨#[]⟩) (.slice none 0 0) (.slice none 0 0)) (fin3_below _ _ _ HB5.out (Nat.le_refl _)) (.inr ⟨ls, HOK.out, .inl ⟨HNO.out, rfl, rfl, rfl, rfl⟩⟩) rfl rfl rfl
        | true =>
          have HYS : Hid (rdM [] (ls.map Lm.ln) = some t) := (rd_iff _ t).2 ⟨HY.out, HRB.out⟩
          go_wp2
          exact rtr_fin (c := 0) (R := w.heap.size) (fin3_blk HR5.out (.string tn) (.slice ta tl tc) (.slice sa sl sc)) (fin3_below _ _ _ HB5.out (Nat.le_refl _)) (.inr ⟨ls, HOK.out, .inr ⟨t, HYS.out, rfl, HS5.out _ (fin3_tk w5 w.heap.size _ _ _ ⟨.inl rfl, by rw [World.size_alloc]; have := HLT.out; omega⟩)⟩⟩) rfl rfl rfl
end Go.Proofs.YtenclgnkogmgiaaDoor
