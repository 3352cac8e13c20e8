/-
  A line that is read: where it lies; the contract of One.
-/
import Derived.Test.YtenclgnkogmgiaaDoorRs
import Derived.ScopeJumps
import Derived.Scope
namespace Go.Proofs.YtenclgnkogmgiaaDoor
open Go.RowKit
set_option linter.unusedVariables false

def cellF (f : ByteArray × ByteArray) : List Value := [.string f.1, .string f.2]
def OwnF (w : World) (B : Nat) (v : Value) (fs : List (ByteArray × ByteArray)) : Prop := w.ownsRow B 65 2 v fs.length (fs.flatMap cellF)
theorem ownF_view {w : World} {B : Nat} {v : Value} {fs : List (ByteArray × ByteArray)} (h : OwnF w B v fs) : ∃ a cap, v = .slice a fs.length cap ∧ FRow w a fs := by
  have h0 := h
  rcases h.2 with ⟨rfl, hn⟩ | ⟨g, cap, cur, rfl, hb, hg, hn, hm, hs, ht⟩
  · exact ⟨none, 0, by rw [hn], .inl (List.eq_nil_of_length_eq_zero hn)⟩
  · refine ⟨some ⟨g, 0, none⟩, cap, rfl, .inr ⟨g, 0, rfl, fun i f hf => ?_⟩⟩
    have key : ∀ j, j < 2 → (fs.flatMap cellF)[i * 2 + j]? = (cellF f)[j]? := by
      intro j hj
      clear h0 h hg hn hm hs ht hb
      induction fs generalizing i with
      | nil => simp at hf
      | cons x r ih =>
        cases i with
        | zero =>
          simp only [List.getElem?_cons_zero, Option.some.injEq] at hf
          subst hf
          rw [List.flatMap_cons, List.getElem?_append_left (by simp [cellF]; omega)]
          simp
        | succ i =>
          simp only [List.getElem?_cons_succ] at hf
          rw [List.flatMap_cons, List.getElem?_append_right (by simp [cellF]; omega)]
          rw [← ih i hf]
          congr 1
          simp [cellF]; omega
    have c0 := h0.cells (g := g) rfl (i * 2 + 0) (.string f.1) (by rw [key 0 (by omega)]; rfl)
    have c1 := h0.cells (g := g) rfl (i * 2 + 1) (.string f.2) (by rw [key 1 (by omega)]; rfl)
    rw [add_plain] at c0 c1
    exact ⟨by simpa using c0, by simpa [Nat.add_assoc] using c1⟩
theorem ownF_base {w : World} {B : Nat} {a : Option Addr} {n c : Nat} {fs : List (ByteArray × ByteArray)} (h : OwnF w B (.slice a n c) fs) : ∀ x, a = some x → B ≤ x.block := by
  intro x hx
  rcases h.2 with ⟨e, _⟩ | ⟨b, cap, cur, e, h2, _⟩
  · simp at e; rw [e.1] at hx; cases hx
  · simp at e; rw [e.1] at hx; simp at hx; subst hx; exact h2
theorem Tryd.info65 : (Tryd.prog.info? 65).map (fun i => (i.zero, i.size, i.bytes)) = some (some (.agg #[.string ⟨#[]⟩, .string ⟨#[]⟩]), 2, 32) := by kernel_rfl
theorem ownF_type {w : World} {B : Nat} {a : Option Addr} {n c : Nat} {fs : List (ByteArray × ByteArray)} (h : OwnF w B (.slice a n c) fs) : ∀ x, a = some x → ∃ cs, w.heap[x.block]? = some (.cells cs 65 (0, 0)) := by
  intro x hx
  rcases h.2 with ⟨e, _⟩ | ⟨b, cap, cur, e, h2, h3, _⟩
  · simp at e; rw [e.1] at hx; cases hx
  · simp at e; rw [e.1] at hx; simp at hx; subst hx; exact ⟨cur, h3⟩
theorem ne_type {w : World} {B e size : Nat} {v : Value} {n : Nat} {xs : List Value} {g : Nat} {cs : Array Value} {e' : TypeId} {k : Nat × Nat} (h : w.ownsRow B e size v n xs) (hg : w.heap[g]? = some (.cells cs e' k)) (he : e' ≠ e) : some g ≠ v.ownBlock := by
  intro hk
  rcases h.2 with ⟨rfl, _⟩ | ⟨b, cap, cur, rfl, h2, h3, _⟩
  · simp [Value.ownBlock] at hk
  · simp [Value.ownBlock] at hk
    subst hk
    rw [hg] at h3
    simp at h3
    exact he h3.2.1
theorem own_kx {W W' : World} {g B e size : Nat} {v : Value} {n : Nat} {xs : List Value} (h : W.ownsRow B e size v n xs) (hk : Kx g W W') (hg : g < B) : W'.ownsRow B e size v n xs := by
  refine ⟨h.1, ?_⟩
  rcases h.2 with h | ⟨b, cap, cur, h1, h2, h3, h4⟩
  · exact .inl h
  · exact .inr ⟨b, cap, cur, h1, h2, (hk.block (by omega) (Array.getElem?_eq_some_iff.1 h3).1).trans h3, h4⟩
/-- The parameters and what stands behind them. -/
def parsR : Nat → List (List Int × List Int) → List Int → Option (List (List Int × List Int) × List Int)
  | 0, _, _ => none
  | m + 1, acc, l =>
    if signB 59 l = true then
      match paramR l.tail with
      | none => none
      | some (p, r) => if acc.length = 16 then none else parsR m (acc ++ [p]) r
    else some (acc, l)
/-- The line that a text says. -/
def oneR (l : List Int) : Option Ln :=
  match parsR 17 [] (l.dropWhile nmC) with
  | none => none
  | some (ps, r) => if signB 58 r = true then (if rightZ ⟨(l.takeWhile nmC).map largeZ, ps, r.tail⟩ = true then some ⟨(l.takeWhile nmC).map largeZ, ps, r.tail⟩ else none) else none
def oneF (nm : List Int) (x : Option (List (List Int × List Int) × List Int)) : Option Ln :=
  match x with
  | none => none
  | some (ps, r) => if signB 58 r = true then (if rightZ ⟨nm, ps, r.tail⟩ = true then some ⟨nm, ps, r.tail⟩ else none) else none
theorem one_f (l : List Int) : oneR l = oneF ((l.takeWhile nmC).map largeZ) (parsR 17 [] (l.dropWhile nmC)) := rfl
theorem value_len {l v t : List Int} (h : valueR l = some (v, t)) : v.length + t.length ≤ l.length := by
  unfold valueR at h
  split at h
  · split at h
    · simp only [Option.some.injEq, Prod.mk.injEq] at h
      obtain ⟨rfl, rfl⟩ := h
      have h1 := congrArg List.length (List.takeWhile_append_dropWhile (p := fun c => !decide (c = 34)) (l := l.tail))
      simp only [List.length_append, List.length_tail] at h1 ⊢
      omega
    · cases h
  · split at h
    · simp only [Option.some.injEq, Prod.mk.injEq] at h
      obtain ⟨rfl, rfl⟩ := h
      have h1 := congrArg List.length (List.takeWhile_append_dropWhile (p := fun c => !mkQ c) (l := l))
      simp only [List.length_append] at h1
      omega
    · cases h
theorem param_len {l n v t : List Int} (h : paramR l = some ((n, v), t)) : n.length + v.length + t.length ≤ l.length := by
  unfold paramR at h
  split at h
  · rw [Option.map_eq_some_iff] at h
    obtain ⟨⟨a, b⟩, h1, h2⟩ := h
    simp only [Prod.mk.injEq] at h2
    obtain ⟨⟨rfl, rfl⟩, rfl⟩ := h2
    have q1 := value_len h1
    have q2 := sign_le 61 (l.dropWhile nmC)
    have q3 := congrArg List.length (List.takeWhile_append_dropWhile (p := nmC) (l := l))
    simp only [List.length_append, List.length_map] at q3 ⊢
    omega
  · cases h
theorem cell_two_new (w : World) (x y : Value) (t : TypeId) : ∀ j u, [x, y][j]? = some u → (w.alloc (.cells #[x, y] t)).cell? ((⟨w.heap.size, 0, none⟩ : Addr).add j) = some u := cells_new w [x, y] t
/-- What is answered in block R, the text in block g, the line in block K. -/
structure Od (W : World) (R g K : Nat) (t nm vl : ByteArray) (vf : Value) (fs : List (ByteArray × ByteArray)) : Prop where
  res : W.heap[R]? = some (.cells #[.string ⟨#[]⟩, .slice none 0 0, .string ⟨#[]⟩] 39 (0, 0))
  text : Rs W g t
  line : W.heap[K]? = some (.cells #[.string nm, vf, .string vl] 39 (0, 0))
  own : OwnF W (K + 1) vf fs
  Rg : R < g
  gK : g < K
theorem Od.lt {W : World} {R g K : Nat} {t nm vl : ByteArray} {vf : Value} {fs : List (ByteArray × ByteArray)} (h : Od W R g K t nm vl vf fs) : K < W.heap.size := (Array.getElem?_eq_some_iff.1 h.line).1
theorem Od.kx {W W' : World} {R g K : Nat} {t t' nm vl : ByteArray} {vf : Value} {fs : List (ByteArray × ByteArray)} (h : Od W R g K t nm vl vf fs) (hk : Kx g W W') (hr : Rs W' g t') : Od W' R g K t' nm vl vf fs := by
  have h1 := h.Rg
  have h2 := h.gK
  have h3 := h.lt
  exact ⟨(hk.block (by omega) (by omega)).trans h.res, hr, (hk.block (by omega) h3).trans h.line, own_kx h.own hk (by omega), h1, h2⟩
theorem Od.below {W W' : World} {R g K : Nat} {t nm vl : ByteArray} {vf : Value} {fs : List (ByteArray × ByteArray)} (h : Od W R g K t nm vl vf fs) (hb : Below W.heap.size W W') : Od W' R g K t nm vl vf fs :=
  h.kx (Kx.of hb (by have := h.gK; have := h.lt; omega)) (h.text.below hb)
theorem own_set {W : World} {B e size f o : Nat} {u v : Value} {n : Nat} {xs : List Value} (hf : f < B) (h : W.ownsRow B e size v n xs) : (W.setCell ⟨f, o, none⟩ u).ownsRow B e size v n xs := by
  refine ⟨h.1, ?_⟩
  rcases h.2 with h | ⟨b, cap, cur, h1, h2, h3, h4⟩
  · exact .inl h
  · exact .inr ⟨b, cap, cur, h1, h2, (heap_setCell_other _ _ _ _ (by simp; omega)).trans h3, h4⟩
theorem Od.set2 {W : World} {R g K : Nat} {t nm vl : ByteArray} {vf : Value} {fs : List (ByteArray × ByteArray)} (h : Od W R g K t nm vl vf fs) (x : ByteArray) : Od (W.setCell ⟨K, 2, none⟩ (.string x)) R g K t nm x vf fs := by
  have h1 := h.Rg
  have h2 := h.gK
  exact ⟨(heap_setCell_other _ _ _ _ (by simp; omega)).trans h.res, h.text.other (by omega), heap_setCell_same _ _ 2 _ 39 _ h.line, own_set (by omega) h.own, h1, h2⟩
theorem Od.app {W W' : World} {R g K : Nat} {t nm vl : ByteArray} {vf v' : Value} {fs fs' : List (ByteArray × ByteArray)} (h : Od W R g K t nm vl vf fs) (hg : W.grownBy W' vf.ownBlock) (ho : OwnF W' (K + 1) v' fs') : Od (W'.setCell ⟨K, 1, none⟩ v') R g K t nm vl v' fs' := by
  have h1 := h.Rg
  have h2 := h.gK
  have h3 := h.lt
  have ek : W'.heap[K]? = some (.cells #[.string nm, vf, .string vl] 39 (0, 0)) := (hg.block K h3 (ne_type h.own h.line (by decide))).trans h.line
  have er : W'.heap[R]? = some (.cells #[.string ⟨#[]⟩, .slice none 0 0, .string ⟨#[]⟩] 39 (0, 0)) := (hg.block R (by omega) (ne_type h.own h.res (by decide))).trans h.res
  have et : Rs W' g t := (hg.block g (by omega) (ne_type h.own h.text (by decide))).trans h.text
  exact ⟨(heap_setCell_other _ _ _ _ (by simp; omega)).trans er, et.other (by omega), heap_setCell_same _ _ 1 _ 39 _ ek, own_set (by omega) ho, h1, h2⟩
/-- What is answered. -/
def finW (W : World) (R : Nat) (nm vl : ByteArray) (vf : Value) : World := ((W.setCell ⟨R, 0, none⟩ (.string nm)).setCell ⟨R, 1, none⟩ vf).setCell ⟨R, 2, none⟩ (.string vl)
theorem fin_cells {W : World} {R : Nat} {nm vl : ByteArray} {vf : Value} (h : W.heap[R]? = some (.cells #[.string ⟨#[]⟩, .slice none 0 0, .string ⟨#[]⟩] 39 (0, 0))) :
    (finW W R nm vl vf).cell? ⟨R, 0, none⟩ = some (.string nm) ∧ (finW W R nm vl vf).cell? ⟨R, 1, none⟩ = some vf ∧ (finW W R nm vl vf).cell? ⟨R, 2, none⟩ = some (.string vl) := by
  have e1 := heap_setCell_same _ _ 0 _ 39 (.string nm) h
  have e2 := heap_setCell_same _ _ 1 _ 39 vf e1
  have e3 := heap_setCell_same _ _ 2 _ 39 (.string vl) e2
  exact ⟨(cell_of_row _ _ 0 _ _ _ e3).trans rfl, (cell_of_row _ _ 1 _ _ _ e3).trans rfl, (cell_of_row _ _ 2 _ _ _ e3).trans rfl⟩
theorem fin_below {w W : World} {R : Nat} {nm vl : ByteArray} {vf : Value} (h : Below w.heap.size w W) (hR : w.heap.size ≤ R) : Below w.heap.size w (finW W R nm vl vf) :=
  ((h.setCell (p := ⟨R, 0, none⟩) hR _).setCell (p := ⟨R, 1, none⟩) hR _).setCell (p := ⟨R, 2, none⟩) hR _
def Small (s : ByteArray) : Prop := s.size ≤ 1000000000
def SmallF (fs : List (ByteArray × ByteArray)) : Prop := ∀ f ∈ fs, f.1.size ≤ 1000000000 ∧ f.2.size ≤ 1000000000
/-- What One answers of a text. -/
def OAns (x : Option Ln) (code : Int) (nm vl : ByteArray) (fs : List (ByteArray × ByteArray)) : Prop :=
  (x = some ⟨nums nm, numsP fs, nums vl⟩ ∧ code = 0) ∨ (x = none ∧ code = 90 ∧ nm = ⟨#[]⟩ ∧ vl = ⟨#[]⟩ ∧ fs = [])
/-- A line as it lies. -/
def LnAt (w w' : World) (nm vl : ByteArray) (a : Option Addr) (cap : Nat) (fs : List (ByteArray × ByteArray)) : Prop :=
  FRow w' a fs ∧ (∀ x, a = some x → w.heap.size ≤ x.block ∧ ∃ cs, w'.heap[x.block]? = some (.cells cs 65 (0, 0))) ∧ Small nm ∧ Small vl ∧ SmallF fs
def OPost (w : World) (l : List Int) (e : Ending) (w' : World) : Prop :=
  ∃ nm vl a cap fs code, e = .returned (.tuple #[lineV nm vl a fs.length cap, .int .i64 code]) ∧ OAns (oneR l) code nm vl fs ∧ LnAt w w' nm vl a cap fs ∧ Below w.heap.size w w'
theorem one_fin {w W : World} {R g K : Nat} {t nm vl : ByteArray} {vf : Value} {fs : List (ByteArray × ByteArray)} {l : List Int} {A : Act} (h : Od W R g K t nm vl vf fs) (hb : Below w.heap.size w W) (hR : w.heap.size ≤ R) (hz : Small nm ∧ Small vl ∧ SmallF fs) (ha : oneR l = some ⟨nums nm, numsP fs, nums vl⟩)
    (hd : A.defers = []) (h2 : A.tmps[2]?.getD undef = .pointer (some ⟨R, 0, none⟩)) (h3 : A.tmps[3]?.getD undef = .int .i64 0) :
    bodyPost Tryd.prog Tryd.f54 (OPost w l) .ret A (finW W R nm vl vf) := by
  obtain ⟨c0, c1, c2⟩ := fin_cells (nm := nm) (vl := vl) (vf := vf) h.res
  have h1 := h.Rg
  have h22 := h.gK
  have hown3 := own_set (f := R) (o := 2) (u := .string vl) (by omega) (own_set (f := R) (o := 1) (u := vf) (by omega) (own_set (f := R) (o := 0) (u := .string nm) (by omega) h.own))
  obtain ⟨a, cap, e, hf⟩ := ownF_view hown3
  subst e
  have hbs : ∀ x, a = some x → w.heap.size ≤ x.block ∧ ∃ cs, (finW W R nm vl (.slice a fs.length cap)).heap[x.block]? = some (.cells cs 65 (0, 0)) := fun x hx => ⟨by have := ownF_base h.own x hx; omega, ownF_type hown3 x hx⟩
  refine bodyPost_ret (v := .tuple #[lineV nm vl a fs.length cap, .int .i64 0]) ?_ hd ⟨nm, vl, a, cap, fs, 0, rfl, .inl ⟨ha, rfl⟩, ⟨hf, hbs, hz⟩, fin_below hb hR⟩
  simp [results, Tryd.results54, go_sem, c0, c1, c2, h2, h3, lineV]
theorem one_bad {w W : World} {R : Nat} {l : List Int} {A : Act} (h : W.heap[R]? = some (.cells #[.string ⟨#[]⟩, .slice none 0 0, .string ⟨#[]⟩] 39 (0, 0))) (hb : Below w.heap.size w W) (hR : w.heap.size ≤ R) (ha : oneR l = none)
    (hd : A.defers = []) (h2 : A.tmps[2]?.getD undef = .pointer (some ⟨R, 0, none⟩)) (h3 : A.tmps[3]?.getD undef = .int .i64 90) :
    bodyPost Tryd.prog Tryd.f54 (OPost w l) .ret A (finW W R ⟨#[]⟩ ⟨#[]⟩ (.slice none 0 0)) := by
  obtain ⟨c0, c1, c2⟩ := fin_cells (nm := ⟨#[]⟩) (vl := ⟨#[]⟩) (vf := .slice none 0 0) h
  refine bodyPost_ret (v := .tuple #[lineV ⟨#[]⟩ ⟨#[]⟩ none 0 0, .int .i64 90]) ?_ hd ⟨⟨#[]⟩, ⟨#[]⟩, none, 0, [], 90, rfl, .inr ⟨ha, rfl, rfl, rfl, rfl⟩, ⟨.inl rfl, (fun x hx => by cases hx), (show Small ⟨#[]⟩ by unfold Small; decide), (show Small ⟨#[]⟩ by unfold Small; decide), (fun f hf => by cases hf)⟩, fin_below hb hR⟩
  simp [results, Tryd.results54, go_sem, c0, c1, c2, h2, h3, lineV]
/-- The frame at the fault. -/
def Ft (w : World) (s : ByteArray) (a : Act) (W : World) : Prop :=
  (∃ u1 u3 u4 u5 u6 u7 u8 u9 u10 u11 u12 u13 u14 u15 u16 u17 u18 u19 u20 u21 u22 u23 u24 u25 u26 u27 u28 u29 u30 u31 u32 u33 u34 u35 u36 u37 u38 u39 u40 : Value, a = { tmps := #[.string s, u1, .pointer (some ⟨w.heap.size, 0, none⟩), u3, u4, u5, u6, u7, u8, u9, u10, u11, u12, u13, u14, u15, u16, u17, u18, u19, u20, u21, u22, u23, u24, u25, u26, u27, u28, u29, u30, u31, u32, u33, u34, u35, u36, u37, u38, u39, u40], defers := [] }) ∧ W.heap[w.heap.size]? = some (.cells #[.string ⟨#[]⟩, .slice none 0 0, .string ⟨#[]⟩] 39 (0, 0)) ∧ Below w.heap.size w W ∧ oneR (nums s) = none
set_option maxHeartbeats 8000000 in
set_option maxRecDepth 100000 in
theorem one_any (s : ByteArray) (w : World) (hs : s.size ≤ 2000000) : Calls Tryd.prog 54 #[.string s] w (OPost w (nums s)) := by
  obtain ⟨j0, hi, hz0, hz1, hz2⟩ := info_parts Tryd.info65
  go_enter Tryd.func54, Tryd.ntmps54
  go_wp2
  refine wp_scope_jumps 0 (Ft w s) (fun _ _ => 0) rfl ?_ ?_
  · go_wp2_with fail
    have hR0 : Rs ((w.alloc (.cells #[.string ⟨#[]⟩, .slice none 0 0, .string ⟨#[]⟩] 39)).alloc (.cells #[.string s] 108)) (w.heap.size + 1) s := by
      have := heap_alloc_last (w.alloc (.cells #[.string ⟨#[]⟩, .slice none 0 0, .string ⟨#[]⟩] 39)) (.cells #[.string s] 108)
      rw [World.size_alloc] at this
      exact this
    refine (name_any (w.heap.size + 1) s _ hR0 (by omega)).mono ?_
    rintro e w1 ⟨nm, t1, rfl, hnm, hr1, ht1, hk1⟩
    have hres1 : w1.heap[w.heap.size]? = some (.cells #[.string ⟨#[]⟩, .slice none 0 0, .string ⟨#[]⟩] 39 (0, 0)) := by
      rw [hk1.block (by omega) (by simp; omega), Below.heap_alloc _ _ _ (by simp)]; exact heap_alloc_last w _
    have hb1 : Below w.heap.size w w1 := ((keep w _).alloc (by simp) _).trans (hk1.1.mono (by omega))
    have hw1 : w.heap.size + 1 < w1.heap.size := hr1.lt
    have HOD : Hid (Od (w1.alloc (.cells #[.string nm, .slice none 0 0, .string ⟨#[]⟩] 39)) w.heap.size (w.heap.size + 1) w1.heap.size t1 nm ⟨#[]⟩ (.slice none 0 0) []) :=
      ⟨(Below.heap_alloc w1 _ _ (by omega)).trans hres1, hr1.below (keep w1 _), heap_alloc_last w1 _, ⟨rfl, .inl ⟨rfl, rfl⟩⟩, by omega, hw1⟩
    have HB : Hid (Below w.heap.size w (w1.alloc (.cells #[.string nm, .slice none 0 0, .string ⟨#[]⟩] 39))) := hb1.alloc hb1.size _
    have hst : t1.size ≤ s.size := by rw [← nums_len, ht1, ← nums_len s]; exact dropWhile_le _ _
    have hsn : nm.size ≤ s.size := by rw [← nums_len, hnm, List.length_map, ← nums_len s]; exact tw_le _ _
    have HQ : Hid (oneR (nums s) = oneF (nums nm) (parsR 17 (numsP []) (nums t1))) := by unfold Hid; rw [one_f, hnm, ht1]; rfl
    clear hR0 hnm hr1 ht1 hk1 hres1 hb1
    go_wp2
    go_loopw [6, 7] (fun _ _ wr => ∃ (tr : ByteArray) (vf : Value) (fs : List (ByteArray × ByteArray)) (m : Nat), Od wr w.heap.size (w.heap.size + 1) w1.heap.size tr nm ⟨#[]⟩ vf fs ∧ Below w.heap.size w wr ∧ tr.size ≤ s.size ∧ oneR (nums s) = oneF (nums nm) (parsR m (numsP fs) (nums tr)) ∧ fs.length + m = 17 ∧ 1 ≤ m ∧ SmallF fs) (fun _ _ wr => restLen wr (w.heap.size + 1))
    case atStart => exact ⟨t1, _, [], 17, HOD.out, HB.out, hst, HQ.out, rfl, by omega, by intro f hf; cases hf⟩
    case round =>
      clear HOD HB HQ hst
      obtain ⟨tr, vf, fs, m, hod, hb, hts, hq, hm, hm1, hsf⟩ := hrel
      have HD : Hid (Od wr w.heap.size (w.heap.size + 1) w1.heap.size tr nm ⟨#[]⟩ vf fs) := hod
      have HB : Hid (Below w.heap.size w wr) := hb
      have HQ : Hid (oneR (nums s) = oneF (nums nm) (parsR m (numsP fs) (nums tr))) := hq
      have HSF : Hid (SmallF fs) := hsf
      have HLN : Hid (restLen wr (w.heap.size + 1) = tr.size) := restLen_of hod.text
      obtain ⟨m', rfl⟩ : ∃ m', m = m' + 1 := ⟨m - 1, by omega⟩
      clear hod hb hq hsf hm1
      obtain ⟨af, cap, rfl, hfr⟩ := ownF_view HD.out.own
      clear hfr
      go_wp2_with fail
      refine (sign_any (w.heap.size + 1) 59 tr _ HD.out.text (by omega)).mono ?_
      rintro e w8 ⟨rfl, t8, hr8, ht8, hk8⟩
      have HD8 : Hid (Od w8 w.heap.size (w.heap.size + 1) w1.heap.size t8 nm ⟨#[]⟩ (.slice af fs.length cap) fs) := HD.out.kx hk8 hr8
      have HB8 : Hid (Below w.heap.size w w8) := HB.out.trans (hk8.1.mono (by omega))
      cases hsb : signB 59 (nums tr) with
      | false =>
        have HT8 : Hid (nums t8 = nums tr) := by unfold Hid; rw [ht8, signR, if_neg (by rw [hsb]; simp)]
        have HQ8 : Hid (oneR (nums s) = oneF (nums nm) (some (numsP fs, nums t8))) := by
          unfold Hid; rw [HQ.out, parsR, if_neg (by rw [hsb]; simp), HT8.out]
        have hs8 : t8.size ≤ s.size := by rw [← nums_len, HT8.out, nums_len]; exact hts
        clear hr8 ht8 hk8 HT8 HQ HD HB
        go_wp2_with fail
        refine (sign_any (w.heap.size + 1) 58 t8 _ HD8.out.text (by omega)).mono ?_
        rintro e w9 ⟨rfl, t9, hr9, ht9, hk9⟩
        have HD9 : Hid (Od w9 w.heap.size (w.heap.size + 1) w1.heap.size t9 nm ⟨#[]⟩ (.slice af fs.length cap) fs) := HD8.out.kx hk9 hr9
        have HB9 : Hid (Below w.heap.size w w9) := HB8.out.trans (hk9.1.mono (by omega))
        cases hsb2 : signB 58 (nums t8) with
        | false =>
          have HN : Hid (oneR (nums s) = none) := by unfold Hid; rw [HQ8.out, oneF, if_neg (by rw [hsb2]; simp)]
          clear hr9 ht9 hk9
          go_wp2
          go_step3
          exact ⟨rfl, ⟨_, _, _, _, _, _, _, _, _, _, _, _, _, _, _, _, _, _, _, _, _, _, _, _, _, _, _, _, _, _, _, _, _, _, _, _, _, _, _, rfl⟩, HD9.out.res, HB9.out, HN.out⟩
        | true =>
          have HT9 : Hid (nums t9 = (nums t8).tail) := by unfold Hid; rw [ht9, signR, if_pos hsb2]
          have hs9 : t9.size ≤ s.size := by rw [← nums_len, HT9.out, List.length_tail, nums_len]; omega
          have HQ9 : Hid (oneR (nums s) = if rightZ ⟨nums nm, numsP fs, nums t9⟩ = true then some ⟨nums nm, numsP fs, nums t9⟩ else none) := by
            unfold Hid; rw [HQ8.out, oneF, if_pos hsb2, HT9.out]
          have hc9 := HD9.out.text.cell
          have k2 : w9.cell? ⟨w1.heap.size, 2, none⟩ = some (.string ⟨#[]⟩) := by rw [cell_of_row _ _ _ _ _ _ HD9.out.line]; rfl
          have y2 : w9.frozen? ⟨w1.heap.size, 2, none⟩ = false := frozen_of_row _ _ _ _ _ HD9.out.line
          have HDA : Hid (Od (w9.setCell ⟨w1.heap.size, 2, none⟩ (.string t9)) w.heap.size (w.heap.size + 1) w1.heap.size t9 nm t9 (.slice af fs.length cap) fs) := HD9.out.set2 t9
          have HBA : Hid (Below w.heap.size w (w9.setCell ⟨w1.heap.size, 2, none⟩ (.string t9))) := HB9.out.setCell (p := ⟨w1.heap.size, 2, none⟩) (by simp; omega) _
          have z0 : (w9.setCell ⟨w1.heap.size, 2, none⟩ (.string t9)).cell? ⟨w1.heap.size, 0, none⟩ = some (.string nm) := by rw [cell_of_row _ _ _ _ _ _ HDA.out.line]; rfl
          have z1 : (w9.setCell ⟨w1.heap.size, 2, none⟩ (.string t9)).cell? ⟨w1.heap.size, 1, none⟩ = some (.slice af fs.length cap) := by rw [cell_of_row _ _ _ _ _ _ HDA.out.line]; rfl
          have z2 : (w9.setCell ⟨w1.heap.size, 2, none⟩ (.string t9)).cell? ⟨w1.heap.size, 2, none⟩ = some (.string t9) := by rw [cell_of_row _ _ _ _ _ _ HDA.out.line]; rfl
          clear hr9 ht9 hk9 HQ8 HD8 HB8
          go_wp2_with fail
          generalize w9.setCell ⟨w1.heap.size, 2, none⟩ (.string t9) = wA at HDA HBA z0 z1 z2 ⊢
          clear k2 y2 hc9 HD9 HB9
          obtain ⟨aA, cA, eA, hfA⟩ := ownF_view HDA.out.own
          simp only [Value.slice.injEq] at eA
          obtain ⟨rfl, _, rfl⟩ := eA
          refine (right_any nm t9 af fs.length cap fs _ rfl hfA (by omega) (by omega) HSF.out).mono ?_
          rintro e wB ⟨rfl, hbB⟩
          have HDB : Hid (Od wB w.heap.size (w.heap.size + 1) w1.heap.size t9 nm t9 (.slice af fs.length cap) fs) := HDA.out.below hbB
          have HBB : Hid (Below w.heap.size w wB) := HBA.out.trans (hbB.mono HBA.out.size)
          clear hbB hfA z0 z1 z2 HDA HBA
          cases hrz : rightZ ⟨nums nm, numsP fs, nums t9⟩ with
          | false =>
            have HN : Hid (oneR (nums s) = none) := by unfold Hid; rw [HQ9.out, if_neg (by rw [hrz]; simp)]
            go_wp2
            go_step3
            exact ⟨rfl, ⟨_, _, _, _, _, _, _, _, _, _, _, _, _, _, _, _, _, _, _, _, _, _, _, _, _, _, _, _, _, _, _, _, _, _, _, _, _, _, _, rfl⟩, HDB.out.res, HBB.out, HN.out⟩
          | true =>
            have HN : Hid (oneR (nums s) = some ⟨nums nm, numsP fs, nums t9⟩) := by unfold Hid; rw [HQ9.out, if_pos hrz]
            have z0 : wB.cell? ⟨w1.heap.size, 0, none⟩ = some (.string nm) := by rw [cell_of_row _ _ _ _ _ _ HDB.out.line]; rfl
            have z1 : wB.cell? ⟨w1.heap.size, 1, none⟩ = some (.slice af fs.length cap) := by rw [cell_of_row _ _ _ _ _ _ HDB.out.line]; rfl
            have z2 : wB.cell? ⟨w1.heap.size, 2, none⟩ = some (.string t9) := by rw [cell_of_row _ _ _ _ _ _ HDB.out.line]; rfl
            have r0 : wB.cell? ⟨w.heap.size, 0, none⟩ = some (.string ⟨#[]⟩) := by rw [cell_of_row _ _ _ _ _ _ HDB.out.res]; rfl
            have r1 : wB.cell? ⟨w.heap.size, 1, none⟩ = some (.slice none 0 0) := by rw [cell_of_row _ _ _ _ _ _ HDB.out.res]; rfl
            have r2 : wB.cell? ⟨w.heap.size, 2, none⟩ = some (.string ⟨#[]⟩) := by rw [cell_of_row _ _ _ _ _ _ HDB.out.res]; rfl
            have f0 : wB.frozen? ⟨w.heap.size, 0, none⟩ = false := frozen_of_row _ _ _ _ _ HDB.out.res
            have f1 : wB.frozen? ⟨w.heap.size, 1, none⟩ = false := frozen_of_row _ _ _ _ _ HDB.out.res
            have f2 : wB.frozen? ⟨w.heap.size, 2, none⟩ = false := frozen_of_row _ _ _ _ _ HDB.out.res
            go_wp2
            exact one_fin HDB.out HBB.out (Nat.le_refl _) ⟨by unfold Small; omega, by unfold Small; omega, HSF.out⟩ HN.out rfl rfl rfl
      | true =>
        have HT8 : Hid (nums t8 = (nums tr).tail) := by unfold Hid; rw [ht8, signR, if_pos hsb]
        have hs8 : t8.size + 1 ≤ tr.size := by
          rw [← nums_len, HT8.out, List.length_tail, nums_len]
          have : tr.size ≠ 0 := by
            intro h0
            rw [List.eq_nil_of_length_eq_zero (show (nums tr).length = 0 by rw [nums_len]; exact h0)] at hsb
            cases hsb
          omega
        have HQ8 : Hid (oneR (nums s) = oneF (nums nm) (match paramR (nums t8) with | none => none | some (p, r) => if (numsP fs).length = 16 then none else parsR m' (numsP fs ++ [p]) r)) := by
          unfold Hid; rw [HQ.out, parsR, if_pos hsb, HT8.out]
        clear hr8 ht8 hk8 HT8 HQ HD HB
        go_wp2_with fail
        refine (param_any (w.heap.size + 1) t8 _ HD8.out.text (by omega)).mono ?_
        rintro e w10 ⟨pn, pv, t10, b, rfl, hr10, hk10, hap⟩
        have HD10 : Hid (Od w10 w.heap.size (w.heap.size + 1) w1.heap.size t10 nm ⟨#[]⟩ (.slice af fs.length cap) fs) := HD8.out.kx hk10 hr10
        have HB10 : Hid (Below w.heap.size w w10) := HB8.out.trans (hk10.1.mono (by omega))
        have HAP : Hid (AnsP b (paramR (nums t8)) (nums pn) (nums pv) (nums t10)) := hap
        clear hr10 hk10 hap HD8 HB8
        have HD11 : Hid (Od (w10.alloc (.cells #[.string pn, .string pv] 65)) w.heap.size (w.heap.size + 1) w1.heap.size t10 nm ⟨#[]⟩ (.slice af fs.length cap) fs) := HD10.out.below (keep w10 _)
        have HB11 : Hid (Below w.heap.size w (w10.alloc (.cells #[.string pn, .string pv] 65))) := HB10.out.alloc HB10.out.size _
        have hlt10 := HD10.out.lt
        have x1 : w10.cell? ⟨w1.heap.size, 1, none⟩ = some (.slice af fs.length cap) := by rw [cell_of_row _ _ _ _ _ _ HD10.out.line]; rfl
        have hlf : (numsP fs).length = fs.length := by unfold numsP; rw [List.length_map]
        cases b with
        | false =>
          have HN : Hid (oneR (nums s) = none) := by unfold Hid; rw [HQ8.out, HAP.out.2 rfl]; rfl
          go_wp2
          go_step3
          exact ⟨rfl, ⟨_, _, _, _, _, _, _, _, _, _, _, _, _, _, _, _, _, _, _, _, _, _, _, _, _, _, _, _, _, _, _, _, _, _, _, _, _, _, _, rfl⟩, HD11.out.res, HB11.out, HN.out⟩
        | true =>
          have hp := HAP.out.1 rfl
          have hpl := param_len hp
          rw [nums_len, nums_len, nums_len, nums_len] at hpl
          by_cases h16 : fs.length = 16
          · have hd : ((fs.length : Int) == 16) = true := by simp [h16]
            have HN : Hid (oneR (nums s) = none) := by unfold Hid; rw [HQ8.out, hp]; simp only; rw [if_pos (by rw [hlf]; exact h16)]; rfl
            clear h16 hlf
            go_wp2
            go_step3
            exact ⟨rfl, ⟨_, _, _, _, _, _, _, _, _, _, _, _, _, _, _, _, _, _, _, _, _, _, _, _, _, _, _, _, _, _, _, _, _, _, _, _, _, _, _, rfl⟩, HD11.out.res, HB11.out, HN.out⟩
          · have hd : ((fs.length : Int) == 16) = false := by rw [beq_eq_false_iff_ne]; omega
            have HP : Hid (oneR (nums s) = oneF (nums nm) (parsR m' (numsP (fs ++ [(pn, pv)])) (nums t10))) := by
              unfold Hid; rw [HQ8.out, hp]; simp only; rw [if_neg (by rw [hlf]; exact h16)]; simp [numsP]
            have hlen : (fs ++ [(pn, pv)]).length = fs.length + 1 := by simp
            clear hlf hp HQ8 HAP
            go_wp2_with (at_builtin; refine wpList_append_own _ rfl (.tmp 26) (.tmp 28) 37 rfl (w1.heap.size + 1) 65 j0 _ 2 32 Tryd.underlying37 hi hz0 hz1 hz2 rfl (by decide) _ _ _ rfl (own_keep HD11.out.own (keep _ _)) ⟨w10.heap.size + 1, 0, none⟩ 1 1 (cellF (pn, pv)) rfl rfl ?a0 ?a4 ?a1 ?a2 ?a3 ?_)
            case a0 =>
              intro j u hu
              have q := cell_two_new (w10.alloc (.cells #[.string pn, .string pv] 65)) (.string pn) (.string pv) 65 j u hu
              rwa [show (w10.alloc (.cells #[.string pn, .string pv] 65)).heap.size = w10.heap.size + 1 from by simp] at q
            case a4 => intro u hu; simp [cellF] at hu; rcases hu with rfl | rfl <;> rfl
            case a1 => unfold maxLen; omega
            case a2 => omega
            case a3 => simp; omega
            intro v' w12 hown12 hgrow12 _
            have hO12 : OwnF w12 (w1.heap.size + 1) v' (fs ++ [(pn, pv)]) := by
              unfold OwnF; rw [hlen, List.flatMap_append]; simpa using hown12
            have hD11b := HD11.out.below (keep (w10.alloc (.cells #[.string pn, .string pv] 65)) (.cells #[.string pn, .string pv] 65))
            have hD12 := hD11b.app hgrow12 hO12
            have hB11b : Below w.heap.size w ((w10.alloc (.cells #[.string pn, .string pv] 65)).alloc (.cells #[.string pn, .string pv] 65)) := HB11.out.alloc HB11.out.size _
            have hB12 : Below w.heap.size w (w12.setCell ⟨w1.heap.size, 1, none⟩ v') :=
              (hB11b.grown hgrow12 hB11b.size (fun j hj => by have := (hD11b.own.lt j hj).1; omega)).setCell (p := ⟨w1.heap.size, 1, none⟩) (by simp; omega) _
            have e12 : w12.heap[w1.heap.size]? = some (.cells #[.string nm, .slice af fs.length cap, .string ⟨#[]⟩] 39 (0, 0)) := (hgrow12.block _ hD11b.lt (ne_type hD11b.own hD11b.line (by decide))).trans hD11b.line
            obtain ⟨a12, cap12, hv12, _⟩ := ownF_view hO12
            rw [hlen] at hv12
            subst hv12
            have HD12 : Hid (Od (w12.setCell ⟨w1.heap.size, 1, none⟩ (.slice a12 (fs.length + 1) cap12)) w.heap.size (w.heap.size + 1) w1.heap.size t10 nm ⟨#[]⟩ (.slice a12 (fs.length + 1) cap12) (fs ++ [(pn, pv)])) := hD12
            have HB12 : Hid (Below w.heap.size w (w12.setCell ⟨w1.heap.size, 1, none⟩ (.slice a12 (fs.length + 1) cap12))) := hB12
            have y1 : w12.cell? ⟨w1.heap.size, 1, none⟩ = some (.slice af fs.length cap) := by rw [cell_of_row _ _ _ _ _ _ e12]; rfl
            have z1 : w12.frozen? ⟨w1.heap.size, 1, none⟩ = false := frozen_of_row _ _ _ _ _ e12
            have HL12 : Hid (restLen (w12.setCell ⟨w1.heap.size, 1, none⟩ (.slice a12 (fs.length + 1) cap12)) (w.heap.size + 1) = t10.size) := restLen_of HD12.out.text
            clear hown12 hgrow12 hO12 hD11b hD12 hB12 hB11b e12 x1 hd
            go_wp2
            go_roundw
            case rel =>
              refine ⟨t10, _, fs ++ [(pn, pv)], m', HD12.out, HB12.out, by omega, HP.out, by rw [hlen]; omega, by omega, ?_⟩
              intro f hf
              rcases List.mem_append.1 hf with q | q
              · exact HSF.out f q
              · simp at q; subst q; exact ⟨by simp; omega, by simp; omega⟩
            case measure => rw [HL12.out, HLN.out]; omega
  · rintro a W ⟨⟨u1, u3, u4, u5, u6, u7, u8, u9, u10, u11, u12, u13, u14, u15, u16, u17, u18, u19, u20, u21, u22, u23, u24, u25, u26, u27, u28, u29, u30, u31, u32, u33, u34, u35, u36, u37, u38, u39, u40, rfl⟩, hres, hbel, hno⟩
    have r0 : W.cell? ⟨w.heap.size, 0, none⟩ = some (.string ⟨#[]⟩) := by rw [cell_of_row _ _ _ _ _ _ hres]; rfl
    have r1 : W.cell? ⟨w.heap.size, 1, none⟩ = some (.slice none 0 0) := by rw [cell_of_row _ _ _ _ _ _ hres]; rfl
    have r2 : W.cell? ⟨w.heap.size, 2, none⟩ = some (.string ⟨#[]⟩) := by rw [cell_of_row _ _ _ _ _ _ hres]; rfl
    have f0 : W.frozen? ⟨w.heap.size, 0, none⟩ = false := frozen_of_row _ _ _ _ _ hres
    have f1 : W.frozen? ⟨w.heap.size, 1, none⟩ = false := frozen_of_row _ _ _ _ _ hres
    have f2 : W.frozen? ⟨w.heap.size, 2, none⟩ = false := frozen_of_row _ _ _ _ _ hres
    have HRS : Hid (W.heap[w.heap.size]? = some (.cells #[.string ⟨#[]⟩, .slice none 0 0, .string ⟨#[]⟩] 39 (0, 0))) := hres
    have HBL : Hid (Below w.heap.size w W) := hbel
    have HNO : Hid (oneR (nums s) = none) := hno
    clear hres hbel hno
    go_wp2
    exact one_bad HRS.out HBL.out (Nat.le_refl _) HNO.out rfl rfl rfl
end Go.Proofs.YtenclgnkogmgiaaDoor
