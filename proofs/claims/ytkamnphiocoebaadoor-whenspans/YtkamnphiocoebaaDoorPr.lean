/-
  Times are written: the contract of Print.
-/
import Derived.Test.YtkamnphiocoebaaDoorPu
import Derived.Lib.SlBytesConst
namespace Go.Proofs.YtkamnphiocoebaaDoor
open Go.RowKit
set_option linter.unusedVariables false

/-- The table of places lies there. -/
def placesL : List Int := [0, 4, 4, 6, 6, 8, 9, 11, 11, 13, 13, 15]
def Pl (w : World) : Prop := ∀ i, i < 12 → w.cell? ⟨0, i, none⟩ = some (.int .i64 (placesL.getD i 0))
theorem Pl.below {w w' : World} (h : Pl w) (b : Below w.heap.size w w') : Pl w' := by
  intro i hi
  rw [b.cell (World.block_lt_of_cell? w _ (h i hi))]; exact h i hi
def rightB (t : Int) : Bool := decide (0 ≤ t ∧ t < 253402300800)
theorem right_any (t : Int) (w : World) (h0 : -9223372036854775808 ≤ t) (h1 : t ≤ 9223372036854775807) :
    Calls Tryd.prog 14 #[.int .i64 t] w fun e w' => e = .returned (.bool (rightB t)) ∧ w = w' := by
  unfold rightB
  by_cases a : 0 ≤ t
  · by_cases b : t ≤ 253402300799
    · go_enter Tryd.func14, Tryd.ntmps14
      go_wp2
      go_ret
      exact ⟨ret_bool (by simp; omega), rfl⟩
    · go_enter Tryd.func14, Tryd.ntmps14
      go_wp2
      go_ret
      exact ⟨ret_bool (by simp; omega), rfl⟩
  · go_enter Tryd.func14, Tryd.ntmps14
    go_wp2
    go_ret
    exact ⟨ret_bool (by simp; omega), rfl⟩
theorem print_no (t : Int) (w : World) (h : rightB t = false) (h0 : -9223372036854775808 ≤ t) (h1 : t ≤ 9223372036854775807) :
    Calls Tryd.prog 16 #[.int .i64 t] w fun e w' => e = .returned (.tuple #[.string ⟨#[]⟩, .int .i64 110]) ∧ w = w' := by
  have H : Hid (rightB t = false) := h
  clear h
  go_enter Tryd.func16, Tryd.ntmps16
  go_wp2_with fail
  refine (right_any t _ h0 h1).mono ?_
  rintro e w' ⟨rfl, rfl⟩
  rw [H.out]
  go_wp2
  go_ret2
  exact ⟨rfl, rfl⟩
/-- What is written so far. -/
def cutK (k : Nat) : Nat := [0, 4, 6, 8, 11, 13, 15].getD k 0
def tk (y m d t : Int) (k : Nat) : List Int := (timeL y m d t).take (cutK k) ++ formL.drop (cutK k)
theorem conv_const (X : World) (C : Array Value) (n c g : Nat) (hg : X.heap.size = g) :
    (convert 41 41 (.slice (some ⟨g, 0, none⟩) n c)).run Tryd.prog (X.alloc (.cells C 5)) = .ok (.slice (some ⟨g, 0, none⟩) n c) (X.alloc (.cells C 5 (C.size, C.size + 1))) := by
  subst hg; exact Lib.run_convert_bytes_const X 41 5 C n c Tryd.underlying41 Tryd.underlying5
theorem row_set {w : World} {b : Nat} {l : List Int} {k : Nat} (v : Int) (h : Row w (some ⟨b, 0, none⟩) l) (hk : k < l.length) : Row (w.setCell ⟨b, k, none⟩ (.int .u8 v)) (some ⟨b, 0, none⟩) (l.set k v) := by
  rcases h with rfl | ⟨b', off, e, h⟩
  · simp at hk
  · simp at e
    obtain ⟨rfl, rfl⟩ := e
    refine .inr ⟨b, 0, rfl, fun i hi => ?_⟩
    rw [List.length_set] at hi
    by_cases q : i = k
    · subst q
      rw [Nat.zero_add, World.cell?_setCell_same _ _ _ (by have := h i hi; rw [Nat.zero_add] at this; rw [this])]
      simp [List.getD_eq_getElem?_getD, hi]
    · rw [World.cell?_setCell_other _ _ _ _ (by simp), h i hi]
      simp [List.getD_eq_getElem?_getD, Ne.symm q]
theorem row_at {w : World} {b : Nat} {l : List Int} (h : Row w (some ⟨b, 0, none⟩) l) (k : Nat) (hk : k < l.length) : w.cell? ⟨b, k, none⟩ = some (.int .u8 (l.getD k 0)) := by
  rcases h with rfl | ⟨b', off, e, h⟩
  · simp at hk
  · simp at e
    obtain ⟨rfl, rfl⟩ := e
    have := h k hk
    rwa [Nat.zero_add] at this
/-- What lies between two rounds: the row, the numbers, nothing frozen. -/
structure PJ (w : World) (y m d t : Int) (k : Nat) (wr : World) : Prop where
  row : Row wr (some ⟨w.heap.size + 1, 0, none⟩) (tk y m d t k)
  fz : ∀ i, i < 16 → wr.frozen? ⟨w.heap.size + 1, i, none⟩ = false
  n0 : wr.cell? ⟨w.heap.size, 0, none⟩ = some (.int .i64 y)
  n1 : wr.cell? ⟨w.heap.size, 1, none⟩ = some (.int .i64 m)
  n2 : wr.cell? ⟨w.heap.size, 2, none⟩ = some (.int .i64 d)
  n3 : wr.cell? ⟨w.heap.size, 3, none⟩ = some (.int .i64 (t % 86400 / 3600))
  n4 : wr.cell? ⟨w.heap.size, 4, none⟩ = some (.int .i64 (t % 3600 / 60))
  n5 : wr.cell? ⟨w.heap.size, 5, none⟩ = some (.int .i64 (t % 60))
  sz : w.heap.size + 2 ≤ wr.heap.size
  bel : Below w.heap.size w wr
theorem PJ.keep {w : World} {y m d t : Int} {k : Nat} {wr W : World} (h : PJ w y m d t k wr) (hb : Below wr.heap.size wr W) : PJ w y m d t k W := by
  have c : ∀ p v, wr.cell? p = some v → W.cell? p = some v := fun p v e => (hb.cell (World.block_lt_of_cell? wr p e)).trans e
  have hs := h.sz
  refine ⟨row_below h.row hb, fun i hi => ?_, c _ _ h.n0, c _ _ h.n1, c _ _ h.n2, c _ _ h.n3, c _ _ h.n4, c _ _ h.n5, Nat.le_trans h.sz hb.size, h.bel.trans (hb.mono (by omega))⟩
  rw [← h.fz i hi]
  exact hb.frozen (p := ⟨w.heap.size + 1, i, none⟩) (by show w.heap.size + 1 < _; omega)
/-- A round's stores. -/
theorem PJ.two {w : World} {y m d t : Int} {k : Nat} {wr : World} (h : PJ w y m d t k wr) (j : Nat) (v0 v1 : Int) (hj : j + 1 < 16) (hl : (tk y m d t k).length = 16)
    (e : ((tk y m d t k).set (j + 1) v1).set j v0 = tk y m d t (k + 1)) :
    PJ w y m d t (k + 1) ((wr.setCell ⟨w.heap.size + 1, j + 1, none⟩ (.int .u8 v1)).setCell ⟨w.heap.size + 1, j, none⟩ (.int .u8 v0)) := by
  have o : ∀ i : Nat, (⟨w.heap.size, i, none⟩ : Addr).block ≠ w.heap.size + 1 := fun i => by simp
  refine ⟨?_, fun i hi => by rw [World.frozen?_setCell, World.frozen?_setCell]; exact h.fz i hi, ?_, ?_, ?_, ?_, ?_, ?_, by simpa using h.sz, (h.bel.setCell (p := ⟨w.heap.size + 1, j + 1, none⟩) (by simp) _).setCell (p := ⟨w.heap.size + 1, j, none⟩) (by simp) _⟩
  · rw [← e]; exact row_set v0 (row_set v1 h.row (by omega)) (by rw [List.length_set]; omega)
  all_goals (rw [World.cell?_setCell_other _ _ _ _ (by simp), World.cell?_setCell_other _ _ _ _ (by simp)])
  · exact h.n0
  · exact h.n1
  · exact h.n2
  · exact h.n3
  · exact h.n4
  · exact h.n5
theorem PJ.four {w : World} {y m d t : Int} {k : Nat} {wr : World} (h : PJ w y m d t k wr) (j : Nat) (v0 v1 v2 v3 : Int) (hj : j + 3 < 16) (hl : (tk y m d t k).length = 16)
    (e : ((((tk y m d t k).set (j + 3) v3).set (j + 2) v2).set (j + 1) v1).set j v0 = tk y m d t (k + 1)) :
    PJ w y m d t (k + 1) ((((wr.setCell ⟨w.heap.size + 1, j + 3, none⟩ (.int .u8 v3)).setCell ⟨w.heap.size + 1, j + 2, none⟩ (.int .u8 v2)).setCell ⟨w.heap.size + 1, j + 1, none⟩ (.int .u8 v1)).setCell ⟨w.heap.size + 1, j, none⟩ (.int .u8 v0)) := by
  refine ⟨?_, fun i hi => by rw [World.frozen?_setCell, World.frozen?_setCell, World.frozen?_setCell, World.frozen?_setCell]; exact h.fz i hi, ?_, ?_, ?_, ?_, ?_, ?_, by simpa using h.sz, (((h.bel.setCell (p := ⟨w.heap.size + 1, j + 3, none⟩) (by simp) _).setCell (p := ⟨w.heap.size + 1, j + 2, none⟩) (by simp) _).setCell (p := ⟨w.heap.size + 1, j + 1, none⟩) (by simp) _).setCell (p := ⟨w.heap.size + 1, j, none⟩) (by simp) _⟩
  · rw [← e]; exact row_set v0 (row_set v1 (row_set v2 (row_set v3 h.row (by omega)) (by rw [List.length_set]; omega)) (by rw [List.length_set, List.length_set]; omega)) (by rw [List.length_set, List.length_set, List.length_set]; omega)
  all_goals (rw [World.cell?_setCell_other _ _ _ _ (by simp), World.cell?_setCell_other _ _ _ _ (by simp), World.cell?_setCell_other _ _ _ _ (by simp), World.cell?_setCell_other _ _ _ _ (by simp)])
  · exact h.n0
  · exact h.n1
  · exact h.n2
  · exact h.n3
  · exact h.n4
  · exact h.n5
theorem tk_len (y m d t : Int) (k : Nat) (h : k ≤ 6) : (tk y m d t k).length = 16 := by
  have : k = 0 ∨ k = 1 ∨ k = 2 ∨ k = 3 ∨ k = 4 ∨ k = 5 ∨ k = 6 := by omega
  rcases this with rfl | rfl | rfl | rfl | rfl | rfl | rfl <;> rfl
theorem put2_pj (w : World) (y m d t n : Int) (k j c : Nat) (W : World) (h : PJ w y m d t k W) (hk : k ≤ 6) (hj : j + 1 < 16) (h0 : 0 ≤ n) (h1 : n < 1000000000000) (hc : c = 16 - j)
    (e : ((tk y m d t k).set (j + 1) (48 + n % 10)).set j (48 + n / 10 % 10) = tk y m d t (k + 1)) :
    Calls Tryd.prog 28 #[.slice (some ⟨w.heap.size + 1, j, none⟩) 2 c, .int .i64 n] W fun e w' => e = .returned (.tuple #[]) ∧ PJ w y m d t (k + 1) w' ∧ ∀ p : Addr, p.block ≠ w.heap.size + 1 → w'.cell? p = W.cell? p := by
  have hl := tk_len y m d t k hk
  refine (put2 (w.heap.size + 1) j c n _ _ W h0 h1 (by omega) (by omega) (row_at h.row j (by omega)) (row_at h.row (j + 1) (by omega)) (h.fz _ (by omega)) (h.fz _ (by omega))).mono ?_
  rintro e w' ⟨rfl, rfl⟩
  refine ⟨rfl, h.two j _ _ hj hl (by assumption), fun p hp => ?_⟩
  rw [World.cell?_setCell_other _ _ _ _ (by intro q; exact hp (congrArg Addr.block q).symm), World.cell?_setCell_other _ _ _ _ (by intro q; exact hp (congrArg Addr.block q).symm)]
theorem put4_pj (w : World) (y m d t n : Int) (k j c : Nat) (W : World) (h : PJ w y m d t k W) (hk : k ≤ 6) (hj : j + 3 < 16) (h0 : 0 ≤ n) (h1 : n < 1000000000000) (hc : c = 16 - j)
    (e : ((((tk y m d t k).set (j + 3) (48 + n % 10)).set (j + 2) (48 + n / 10 % 10)).set (j + 1) (48 + n / 10 / 10 % 10)).set j (48 + n / 10 / 10 / 10 % 10) = tk y m d t (k + 1)) :
    Calls Tryd.prog 28 #[.slice (some ⟨w.heap.size + 1, j, none⟩) 4 c, .int .i64 n] W fun e w' => e = .returned (.tuple #[]) ∧ PJ w y m d t (k + 1) w' ∧ ∀ p : Addr, p.block ≠ w.heap.size + 1 → w'.cell? p = W.cell? p := by
  have hl := tk_len y m d t k hk
  refine (put4 (w.heap.size + 1) j c n _ _ _ _ W h0 h1 (by omega) (by omega) (row_at h.row j (by omega)) (row_at h.row (j + 1) (by omega)) (row_at h.row (j + 2) (by omega)) (row_at h.row (j + 3) (by omega)) (h.fz _ (by omega)) (h.fz _ (by omega)) (h.fz _ (by omega)) (h.fz _ (by omega))).mono ?_
  rintro e w' ⟨rfl, rfl⟩
  refine ⟨rfl, h.four j _ _ _ _ hj hl (by assumption), fun p hp => ?_⟩
  rw [World.cell?_setCell_other _ _ _ _ (by intro q; exact hp (congrArg Addr.block q).symm), World.cell?_setCell_other _ _ _ _ (by intro q; exact hp (congrArg Addr.block q).symm), World.cell?_setCell_other _ _ _ _ (by intro q; exact hp (congrArg Addr.block q).symm), World.cell?_setCell_other _ _ _ _ (by intro q; exact hp (congrArg Addr.block q).symm)]
theorem start_row (w : World) (y m d t : Int) (hP : Pl w) :
    ∃ W2, (convert 41 41 (.slice (some ⟨w.heap.size + 1, 0, none⟩) 16 16)).run Tryd.prog ((w.alloc (.cells #[.int .i64 y, .int .i64 m, .int .i64 d, .int .i64 (t % 86400 / 3600), .int .i64 (t % 3600 / 60), .int .i64 (t % 60)] 40)).alloc (.cells #[.int .u8 48, .int .u8 48, .int .u8 48, .int .u8 48, .int .u8 48, .int .u8 48, .int .u8 48, .int .u8 48, .int .u8 84, .int .u8 48, .int .u8 48, .int .u8 48, .int .u8 48, .int .u8 48, .int .u8 48, .int .u8 90] 5)) = .ok (.slice (some ⟨w.heap.size + 1, 0, none⟩) 16 16) W2 ∧ PJ w y m d t 0 W2 ∧ Pl W2 := by
  have kc := conv_const (w.alloc (.cells #[.int .i64 y, .int .i64 m, .int .i64 d, .int .i64 (t % 86400 / 3600), .int .i64 (t % 3600 / 60), .int .i64 (t % 60)] 40)) #[.int .u8 48, .int .u8 48, .int .u8 48, .int .u8 48, .int .u8 48, .int .u8 48, .int .u8 48, .int .u8 48, .int .u8 84, .int .u8 48, .int .u8 48, .int .u8 48, .int .u8 48, .int .u8 48, .int .u8 48, .int .u8 90] 16 16 (w.heap.size + 1) (by simp)
  have hb : Below w.heap.size w ((w.alloc (.cells #[.int .i64 y, .int .i64 m, .int .i64 d, .int .i64 (t % 86400 / 3600), .int .i64 (t % 3600 / 60), .int .i64 (t % 60)] 40)).alloc (.cells #[.int .u8 48, .int .u8 48, .int .u8 48, .int .u8 48, .int .u8 48, .int .u8 48, .int .u8 48, .int .u8 48, .int .u8 84, .int .u8 48, .int .u8 48, .int .u8 48, .int .u8 48, .int .u8 48, .int .u8 48, .int .u8 90] 5 (16, 17))) :=
    ((Below.refl _ _).alloc (Nat.le_refl _) _).alloc (by simp) _
  refine ⟨_, kc, ⟨.inr ⟨w.heap.size + 1, 0, rfl, fun i hi => ?_⟩, fun i hi => ?_, ?_, ?_, ?_, ?_, ?_, ?_, by simp, hb⟩, hP.below hb⟩
  · have e : w.heap.size + 1 = (w.alloc (.cells #[.int .i64 y, .int .i64 m, .int .i64 d, .int .i64 (t % 86400 / 3600), .int .i64 (t % 3600 / 60), .int .i64 (t % 60)] 40)).heap.size := by simp
    have h16 : i < 16 := hi
    rw [e, World.cell?_alloc_mark]
    have : i = 0 ∨ i = 1 ∨ i = 2 ∨ i = 3 ∨ i = 4 ∨ i = 5 ∨ i = 6 ∨ i = 7 ∨ i = 8 ∨ i = 9 ∨ i = 10 ∨ i = 11 ∨ i = 12 ∨ i = 13 ∨ i = 14 ∨ i = 15 := by omega
    rcases this with rfl | rfl | rfl | rfl | rfl | rfl | rfl | rfl | rfl | rfl | rfl | rfl | rfl | rfl | rfl | rfl <;> rfl
  · have e : w.heap.size + 1 = (w.alloc (.cells #[.int .i64 y, .int .i64 m, .int .i64 d, .int .i64 (t % 86400 / 3600), .int .i64 (t % 3600 / 60), .int .i64 (t % 60)] 40)).heap.size := by simp
    rw [e, World.frozen?_alloc_mark]
    simp; omega
  all_goals
    rw [World.cell?_alloc_old _ _ _ (by simp), World.cell?_alloc_mark]; rfl
theorem idx0 (w : World) : (Instr.index 43 (.agg #[.int .i64 0, .int .i64 4, .int .i64 4, .int .i64 6, .int .i64 6, .int .i64 8, .int .i64 9, .int .i64 11, .int .i64 11, .int .i64 13, .int .i64 13, .int .i64 15]) (.int .i64 0)).run Tryd.prog w = .ok (.agg #[.int .i64 0, .int .i64 4]) w := by kernel_rfl
theorem idx1 (w : World) : (Instr.index 43 (.agg #[.int .i64 0, .int .i64 4, .int .i64 4, .int .i64 6, .int .i64 6, .int .i64 8, .int .i64 9, .int .i64 11, .int .i64 11, .int .i64 13, .int .i64 13, .int .i64 15]) (.int .i64 1)).run Tryd.prog w = .ok (.agg #[.int .i64 4, .int .i64 6]) w := by kernel_rfl
theorem idx2 (w : World) : (Instr.index 43 (.agg #[.int .i64 0, .int .i64 4, .int .i64 4, .int .i64 6, .int .i64 6, .int .i64 8, .int .i64 9, .int .i64 11, .int .i64 11, .int .i64 13, .int .i64 13, .int .i64 15]) (.int .i64 2)).run Tryd.prog w = .ok (.agg #[.int .i64 6, .int .i64 8]) w := by kernel_rfl
theorem idx3 (w : World) : (Instr.index 43 (.agg #[.int .i64 0, .int .i64 4, .int .i64 4, .int .i64 6, .int .i64 6, .int .i64 8, .int .i64 9, .int .i64 11, .int .i64 11, .int .i64 13, .int .i64 13, .int .i64 15]) (.int .i64 3)).run Tryd.prog w = .ok (.agg #[.int .i64 9, .int .i64 11]) w := by kernel_rfl
theorem idx4 (w : World) : (Instr.index 43 (.agg #[.int .i64 0, .int .i64 4, .int .i64 4, .int .i64 6, .int .i64 6, .int .i64 8, .int .i64 9, .int .i64 11, .int .i64 11, .int .i64 13, .int .i64 13, .int .i64 15]) (.int .i64 4)).run Tryd.prog w = .ok (.agg #[.int .i64 11, .int .i64 13]) w := by kernel_rfl
theorem idx5 (w : World) : (Instr.index 43 (.agg #[.int .i64 0, .int .i64 4, .int .i64 4, .int .i64 6, .int .i64 6, .int .i64 8, .int .i64 9, .int .i64 11, .int .i64 11, .int .i64 13, .int .i64 13, .int .i64 15]) (.int .i64 5)).run Tryd.prog w = .ok (.agg #[.int .i64 13, .int .i64 15]) w := by kernel_rfl
set_option maxHeartbeats 4000000 in
theorem print_yes (t : Int) (w : World) (h : rightB t = true) (hA : Ah w) (hP : Pl w) :
    Calls Tryd.prog 16 #[.int .i64 t] w fun e w' => (∃ y m d, Civ (t / 86400) y m d ∧ e = .returned (.tuple #[.string (strOfNums (timeL y m d t)), .int .i64 0])) ∧ Below w.heap.size w w' := by
  have H : Hid (rightB t = true) := h
  have ht : 0 ≤ t ∧ t < 253402300800 := by simpa [rightB] using h
  have HA : Hid (Ah w) := hA
  have HP : Hid (Pl w) := hP
  clear h hA hP
  obtain ⟨ht0, ht1⟩ := ht
  go_enter Tryd.func16, Tryd.ntmps16
  go_wp2_with fail
  refine (right_any t _ (by omega) (by omega)).mono ?_
  rintro e w' ⟨rfl, rfl⟩
  rw [H.out]
  go_wp2_with fail
  refine (civil_yes (t / 86400) w (by omega) (by omega) HA.out).mono ?_
  rintro e w' ⟨⟨y, m, d, hc, rfl⟩, rfl⟩
  have hcd := (day_iff _ _ _).1 hc.hd
  have hm31 := (mon_ge y m hcd.2.2.1 hcd.2.2.2.1).2
  have HC : Hid (Civ (t / 86400) y m d) := hc
  have y0 : 0 ≤ y := by omega
  have y1 : y ≤ 9999 := by omega
  have m0 : 0 ≤ m := by omega
  have m1 : m ≤ 12 := by omega
  have d0 : 0 ≤ d := by omega
  have d1 : d ≤ 31 := by omega
  clear hc hcd hm31
  obtain ⟨W2, kc, hj, hP⟩ := start_row w y m d t HP.out
  have p0 := hP 0 (by omega)
  have p1 := hP 1 (by omega)
  have p2 := hP 2 (by omega)
  have p3 := hP 3 (by omega)
  have p4 := hP 4 (by omega)
  have p5 := hP 5 (by omega)
  have p6 := hP 6 (by omega)
  have p7 := hP 7 (by omega)
  have p8 := hP 8 (by omega)
  have p9 := hP 9 (by omega)
  have p10 := hP 10 (by omega)
  have p11 := hP 11 (by omega)
  simp only [placesL, List.getD_cons_zero, List.getD_cons_succ] at p0 p1 p2 p3 p4 p5 p6 p7 p8 p9 p10 p11
  have HJ : Hid (PJ w y m d t 0 W2) := hj
  clear hj hP
  go_wp2
  go_loopw [38] (fun i wr => ∃ k : Nat, i = .int .i64 k ∧ k ≤ 6 ∧ PJ w y m d t k wr) (fun i _ => 6 - (intOf i).toNat)
  case atStart => exact ⟨0, rfl, by omega, HJ.out⟩
  case round =>
    clear HJ kc p0 p1 p2 p3 p4 p5 p6 p7 p8 p9 p10 p11
    obtain ⟨k, rfl, hk, hj⟩ := hrel
    have HJ : Hid (PJ w y m d t k wr) := hj
    clear hj
    have h7 : k = 0 ∨ k = 1 ∨ k = 2 ∨ k = 3 ∨ k = 4 ∨ k = 5 ∨ k = 6 := by omega
    rcases h7 with rfl | rfl | rfl | rfl | rfl | rfl | rfl
    · have kx := idx0
      go_wp2
      obtain ⟨W, hW⟩ : ∃ W, wr.alloc (.cells #[.int .i64 0, .int .i64 4] 42) = W := ⟨_, rfl⟩
      have hbW : Below wr.heap.size wr W := by rw [← hW]; exact keep wr _
      have hs := HJ.out.sz
      have g0 : W.cell? ⟨wr.heap.size, 0, none⟩ = some (.int .i64 0) := by rw [← hW, World.cell?_alloc_mark]; rfl
      have g1 : W.cell? ⟨wr.heap.size, 1, none⟩ = some (.int .i64 4) := by rw [← hW, World.cell?_alloc_mark]; rfl
      have HJW : Hid (PJ w y m d t 0 W) := HJ.out.keep hbW
      have q0 := HJW.out.n0
      have HX : Hid (Calls Tryd.prog 28 #[.slice (some ⟨w.heap.size + 1, 0, none⟩) 4 16, .int .i64 y] W.drew fun e w' => e = .returned (.tuple #[]) ∧ (PJ w y m d t 1 w' ∧ Below w.heap.size w w') ∧ w'.cell? ⟨wr.heap.size, 0, none⟩ = some (.int .i64 0) ∧ w'.cell? ⟨wr.heap.size, 1, none⟩ = some (.int .i64 4) ∧ w'.cell? ⟨w.heap.size, 0, none⟩ = some (.int .i64 y)) := by
        refine (put4_pj w y m d t y 0 0 16 W.drew (HJW.out.keep (Below.refl _ _).drew) (by omega) (by omega) (by omega) (by omega) rfl rfl).mono ?_
        rintro e w' ⟨rfl, a, b⟩
        exact ⟨rfl, ⟨a, a.bel⟩, (b _ (by show wr.heap.size ≠ _; omega)).trans g0, (b _ (by show wr.heap.size ≠ _; omega)).trans g1, (b _ (by simp)).trans q0⟩
      rw [hW]
      clear hW hbW HJW HJ kx
      generalize wr.heap.size = pb at *
      go_region_held (fun V => V.cell? ⟨pb, 0, none⟩ = some (.int .i64 0) ∧ V.cell? ⟨pb, 1, none⟩ = some (.int .i64 4) ∧ V.cell? ⟨w.heap.size, 0, none⟩ = some (.int .i64 y)) (go_keep) (first
        | (go_at_call 28; refine HX.out.mono ?_; rintro e w5 ⟨rfl, hj5, z0, z1, z2⟩; have HJ5 : Hid (PJ w y m d t 1 w5 ∧ Below w.heap.size w w5) := hj5; clear hj5))
      all_goals
        go_wp2
        go_roundw
        case rel => exact ⟨1, by go_num, by omega, HJ5.out.1⟩
        case measure => simp [intOf]
    · have kx := idx1
      go_wp2
      obtain ⟨W, hW⟩ : ∃ W, wr.alloc (.cells #[.int .i64 4, .int .i64 6] 42) = W := ⟨_, rfl⟩
      have hbW : Below wr.heap.size wr W := by rw [← hW]; exact keep wr _
      have hs := HJ.out.sz
      have g0 : W.cell? ⟨wr.heap.size, 0, none⟩ = some (.int .i64 4) := by rw [← hW, World.cell?_alloc_mark]; rfl
      have g1 : W.cell? ⟨wr.heap.size, 1, none⟩ = some (.int .i64 6) := by rw [← hW, World.cell?_alloc_mark]; rfl
      have HJW : Hid (PJ w y m d t 1 W) := HJ.out.keep hbW
      have q0 := HJW.out.n1
      have HX : Hid (Calls Tryd.prog 28 #[.slice (some ⟨w.heap.size + 1, 4, none⟩) 2 12, .int .i64 m] W.drew fun e w' => e = .returned (.tuple #[]) ∧ (PJ w y m d t 2 w' ∧ Below w.heap.size w w') ∧ w'.cell? ⟨wr.heap.size, 0, none⟩ = some (.int .i64 4) ∧ w'.cell? ⟨wr.heap.size, 1, none⟩ = some (.int .i64 6) ∧ w'.cell? ⟨w.heap.size, 1, none⟩ = some (.int .i64 m)) := by
        refine (put2_pj w y m d t m 1 4 12 W.drew (HJW.out.keep (Below.refl _ _).drew) (by omega) (by omega) (by omega) (by omega) rfl rfl).mono ?_
        rintro e w' ⟨rfl, a, b⟩
        exact ⟨rfl, ⟨a, a.bel⟩, (b _ (by show wr.heap.size ≠ _; omega)).trans g0, (b _ (by show wr.heap.size ≠ _; omega)).trans g1, (b _ (by simp)).trans q0⟩
      rw [hW]
      clear hW hbW HJW HJ kx
      generalize wr.heap.size = pb at *
      go_region_held (fun V => V.cell? ⟨pb, 0, none⟩ = some (.int .i64 4) ∧ V.cell? ⟨pb, 1, none⟩ = some (.int .i64 6) ∧ V.cell? ⟨w.heap.size, 1, none⟩ = some (.int .i64 m)) (go_keep) (first
        | (go_at_call 28; refine HX.out.mono ?_; rintro e w5 ⟨rfl, hj5, z0, z1, z2⟩; have HJ5 : Hid (PJ w y m d t 2 w5 ∧ Below w.heap.size w w5) := hj5; clear hj5))
      all_goals
        go_wp2
        go_roundw
        case rel => exact ⟨2, by go_num, by omega, HJ5.out.1⟩
        case measure => simp [intOf]
    · have kx := idx2
      go_wp2
      obtain ⟨W, hW⟩ : ∃ W, wr.alloc (.cells #[.int .i64 6, .int .i64 8] 42) = W := ⟨_, rfl⟩
      have hbW : Below wr.heap.size wr W := by rw [← hW]; exact keep wr _
      have hs := HJ.out.sz
      have g0 : W.cell? ⟨wr.heap.size, 0, none⟩ = some (.int .i64 6) := by rw [← hW, World.cell?_alloc_mark]; rfl
      have g1 : W.cell? ⟨wr.heap.size, 1, none⟩ = some (.int .i64 8) := by rw [← hW, World.cell?_alloc_mark]; rfl
      have HJW : Hid (PJ w y m d t 2 W) := HJ.out.keep hbW
      have q0 := HJW.out.n2
      have HX : Hid (Calls Tryd.prog 28 #[.slice (some ⟨w.heap.size + 1, 6, none⟩) 2 10, .int .i64 d] W.drew fun e w' => e = .returned (.tuple #[]) ∧ (PJ w y m d t 3 w' ∧ Below w.heap.size w w') ∧ w'.cell? ⟨wr.heap.size, 0, none⟩ = some (.int .i64 6) ∧ w'.cell? ⟨wr.heap.size, 1, none⟩ = some (.int .i64 8) ∧ w'.cell? ⟨w.heap.size, 2, none⟩ = some (.int .i64 d)) := by
        refine (put2_pj w y m d t d 2 6 10 W.drew (HJW.out.keep (Below.refl _ _).drew) (by omega) (by omega) (by omega) (by omega) rfl rfl).mono ?_
        rintro e w' ⟨rfl, a, b⟩
        exact ⟨rfl, ⟨a, a.bel⟩, (b _ (by show wr.heap.size ≠ _; omega)).trans g0, (b _ (by show wr.heap.size ≠ _; omega)).trans g1, (b _ (by simp)).trans q0⟩
      rw [hW]
      clear hW hbW HJW HJ kx
      generalize wr.heap.size = pb at *
      go_region_held (fun V => V.cell? ⟨pb, 0, none⟩ = some (.int .i64 6) ∧ V.cell? ⟨pb, 1, none⟩ = some (.int .i64 8) ∧ V.cell? ⟨w.heap.size, 2, none⟩ = some (.int .i64 d)) (go_keep) (first
        | (go_at_call 28; refine HX.out.mono ?_; rintro e w5 ⟨rfl, hj5, z0, z1, z2⟩; have HJ5 : Hid (PJ w y m d t 3 w5 ∧ Below w.heap.size w w5) := hj5; clear hj5))
      all_goals
        go_wp2
        go_roundw
        case rel => exact ⟨3, by go_num, by omega, HJ5.out.1⟩
        case measure => simp [intOf]
    · have kx := idx3
      go_wp2
      obtain ⟨W, hW⟩ : ∃ W, wr.alloc (.cells #[.int .i64 9, .int .i64 11] 42) = W := ⟨_, rfl⟩
      have hbW : Below wr.heap.size wr W := by rw [← hW]; exact keep wr _
      have hs := HJ.out.sz
      have g0 : W.cell? ⟨wr.heap.size, 0, none⟩ = some (.int .i64 9) := by rw [← hW, World.cell?_alloc_mark]; rfl
      have g1 : W.cell? ⟨wr.heap.size, 1, none⟩ = some (.int .i64 11) := by rw [← hW, World.cell?_alloc_mark]; rfl
      have HJW : Hid (PJ w y m d t 3 W) := HJ.out.keep hbW
      have q0 := HJW.out.n3
      have HX : Hid (Calls Tryd.prog 28 #[.slice (some ⟨w.heap.size + 1, 9, none⟩) 2 7, .int .i64 (t % 86400 / 3600)] W.drew fun e w' => e = .returned (.tuple #[]) ∧ (PJ w y m d t 4 w' ∧ Below w.heap.size w w') ∧ w'.cell? ⟨wr.heap.size, 0, none⟩ = some (.int .i64 9) ∧ w'.cell? ⟨wr.heap.size, 1, none⟩ = some (.int .i64 11) ∧ w'.cell? ⟨w.heap.size, 3, none⟩ = some (.int .i64 (t % 86400 / 3600))) := by
        refine (put2_pj w y m d t (t % 86400 / 3600) 3 9 7 W.drew (HJW.out.keep (Below.refl _ _).drew) (by omega) (by omega) (by omega) (by omega) rfl rfl).mono ?_
        rintro e w' ⟨rfl, a, b⟩
        exact ⟨rfl, ⟨a, a.bel⟩, (b _ (by show wr.heap.size ≠ _; omega)).trans g0, (b _ (by show wr.heap.size ≠ _; omega)).trans g1, (b _ (by simp)).trans q0⟩
      rw [hW]
      clear hW hbW HJW HJ kx
      generalize wr.heap.size = pb at *
      go_region_held (fun V => V.cell? ⟨pb, 0, none⟩ = some (.int .i64 9) ∧ V.cell? ⟨pb, 1, none⟩ = some (.int .i64 11) ∧ V.cell? ⟨w.heap.size, 3, none⟩ = some (.int .i64 (t % 86400 / 3600))) (go_keep) (first
        | (go_at_call 28; refine HX.out.mono ?_; rintro e w5 ⟨rfl, hj5, z0, z1, z2⟩; have HJ5 : Hid (PJ w y m d t 4 w5 ∧ Below w.heap.size w w5) := hj5; clear hj5))
      all_goals
        go_wp2
        go_roundw
        case rel => exact ⟨4, by go_num, by omega, HJ5.out.1⟩
        case measure => simp [intOf]
    · have kx := idx4
      go_wp2
      obtain ⟨W, hW⟩ : ∃ W, wr.alloc (.cells #[.int .i64 11, .int .i64 13] 42) = W := ⟨_, rfl⟩
      have hbW : Below wr.heap.size wr W := by rw [← hW]; exact keep wr _
      have hs := HJ.out.sz
      have g0 : W.cell? ⟨wr.heap.size, 0, none⟩ = some (.int .i64 11) := by rw [← hW, World.cell?_alloc_mark]; rfl
      have g1 : W.cell? ⟨wr.heap.size, 1, none⟩ = some (.int .i64 13) := by rw [← hW, World.cell?_alloc_mark]; rfl
      have HJW : Hid (PJ w y m d t 4 W) := HJ.out.keep hbW
      have q0 := HJW.out.n4
      have HX : Hid (Calls Tryd.prog 28 #[.slice (some ⟨w.heap.size + 1, 11, none⟩) 2 5, .int .i64 (t % 3600 / 60)] W.drew fun e w' => e = .returned (.tuple #[]) ∧ (PJ w y m d t 5 w' ∧ Below w.heap.size w w') ∧ w'.cell? ⟨wr.heap.size, 0, none⟩ = some (.int .i64 11) ∧ w'.cell? ⟨wr.heap.size, 1, none⟩ = some (.int .i64 13) ∧ w'.cell? ⟨w.heap.size, 4, none⟩ = some (.int .i64 (t % 3600 / 60))) := by
        refine (put2_pj w y m d t (t % 3600 / 60) 4 11 5 W.drew (HJW.out.keep (Below.refl _ _).drew) (by omega) (by omega) (by omega) (by omega) rfl rfl).mono ?_
        rintro e w' ⟨rfl, a, b⟩
        exact ⟨rfl, ⟨a, a.bel⟩, (b _ (by show wr.heap.size ≠ _; omega)).trans g0, (b _ (by show wr.heap.size ≠ _; omega)).trans g1, (b _ (by simp)).trans q0⟩
      rw [hW]
      clear hW hbW HJW HJ kx
      generalize wr.heap.size = pb at *
      go_region_held (fun V => V.cell? ⟨pb, 0, none⟩ = some (.int .i64 11) ∧ V.cell? ⟨pb, 1, none⟩ = some (.int .i64 13) ∧ V.cell? ⟨w.heap.size, 4, none⟩ = some (.int .i64 (t % 3600 / 60))) (go_keep) (first
        | (go_at_call 28; refine HX.out.mono ?_; rintro e w5 ⟨rfl, hj5, z0, z1, z2⟩; have HJ5 : Hid (PJ w y m d t 5 w5 ∧ Below w.heap.size w w5) := hj5; clear hj5))
      all_goals
        go_wp2
        go_roundw
        case rel => exact ⟨5, by go_num, by omega, HJ5.out.1⟩
        case measure => simp [intOf]
    · have kx := idx5
      go_wp2
      obtain ⟨W, hW⟩ : ∃ W, wr.alloc (.cells #[.int .i64 13, .int .i64 15] 42) = W := ⟨_, rfl⟩
      have hbW : Below wr.heap.size wr W := by rw [← hW]; exact keep wr _
      have hs := HJ.out.sz
      have g0 : W.cell? ⟨wr.heap.size, 0, none⟩ = some (.int .i64 13) := by rw [← hW, World.cell?_alloc_mark]; rfl
      have g1 : W.cell? ⟨wr.heap.size, 1, none⟩ = some (.int .i64 15) := by rw [← hW, World.cell?_alloc_mark]; rfl
      have HJW : Hid (PJ w y m d t 5 W) := HJ.out.keep hbW
      have q0 := HJW.out.n5
      have HX : Hid (Calls Tryd.prog 28 #[.slice (some ⟨w.heap.size + 1, 13, none⟩) 2 3, .int .i64 (t % 60)] W.drew fun e w' => e = .returned (.tuple #[]) ∧ (PJ w y m d t 6 w' ∧ Below w.heap.size w w') ∧ w'.cell? ⟨wr.heap.size, 0, none⟩ = some (.int .i64 13) ∧ w'.cell? ⟨wr.heap.size, 1, none⟩ = some (.int .i64 15) ∧ w'.cell? ⟨w.heap.size, 5, none⟩ = some (.int .i64 (t % 60))) := by
        refine (put2_pj w y m d t (t % 60) 5 13 3 W.drew (HJW.out.keep (Below.refl _ _).drew) (by omega) (by omega) (by omega) (by omega) rfl rfl).mono ?_
        rintro e w' ⟨rfl, a, b⟩
        exact ⟨rfl, ⟨a, a.bel⟩, (b _ (by show wr.heap.size ≠ _; omega)).trans g0, (b _ (by show wr.heap.size ≠ _; omega)).trans g1, (b _ (by simp)).trans q0⟩
      rw [hW]
      clear hW hbW HJW HJ kx
      generalize wr.heap.size = pb at *
      go_region_held (fun V => V.cell? ⟨pb, 0, none⟩ = some (.int .i64 13) ∧ V.cell? ⟨pb, 1, none⟩ = some (.int .i64 15) ∧ V.cell? ⟨w.heap.size, 5, none⟩ = some (.int .i64 (t % 60))) (go_keep) (first
        | (go_at_call 28; refine HX.out.mono ?_; rintro e w5 ⟨rfl, hj5, z0, z1, z2⟩; have HJ5 : Hid (PJ w y m d t 6 w5 ∧ Below w.heap.size w w5) := hj5; clear hj5))
      all_goals
        go_wp2
        go_roundw
        case rel => exact ⟨6, by go_num, by omega, HJ5.out.1⟩
        case measure => simp [intOf]
    · have kr : (convert 41 9 (.slice (some ⟨w.heap.size + 1, 0, none⟩) 16 16)).run Tryd.prog wr = .ok (.string (strOfNums (timeL y m d t))) wr := conv_row 16 16 rfl HJ.out.row
      go_wp2
      go_ret2
      exact ⟨⟨y, m, d, HC.out, rfl⟩, HJ.out.bel⟩
end Go.Proofs.YtkamnphiocoebaaDoor
