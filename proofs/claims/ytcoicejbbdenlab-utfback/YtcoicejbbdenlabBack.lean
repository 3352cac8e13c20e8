/-
  For every list of points and every text the law UtfBack of reading and writing texts returns true, and both read as before: no condition.
-/
import Derived.Test.YtcoicejbbdenlabRows
import Derived.Test.YtcoicejbbdenlabText
import Derived.WalkKit
import Derived.ProofKit
import Derived.OpenShut
import Derived.ShutString
import Derived.ChangeOld
import Derived.Below
namespace Go.Proofs.Ytcoicejbbdenlab.utfBack
open Go.ChangeShapes Go.WideShapes Go.ChangeAt Go.RowKit
open Go.ChangeMaps (open_string shut_string)
set_option linter.unusedVariables false

theorem own_row32 {w : World} {B : Nat} {v : Value} {l : List Int} (h : Own32 w B v l) :
    ∃ a cap, v = .slice a l.length cap ∧ l.length ≤ cap ∧ cap ≤ maxLen ∧ RowK .i32 w a l := by
  rcases h.2 with ⟨rfl, hn⟩ | ⟨g, cap, cur, rfl, hb, hg, hn, hm, hs, ht⟩
  · exact ⟨none, 0, by rw [hn], by omega, by simp [maxLen], .inl (List.eq_nil_of_length_eq_zero hn)⟩
  · refine ⟨some ⟨g, 0, none⟩, cap, rfl, hn, hm, .inr ⟨g, 0, rfl, fun i hi => ?_⟩⟩
    have hc := h.cells (g := g) rfl i (.int .i32 (l.getD i 0)) (by simp [List.getElem?_eq_getElem hi, List.getD_eq_getElem?_getD])
    rw [add_plain] at hc
    exact hc

theorem cellA (w : World) (x y : Value) : (w.alloc (.cells #[x, y] 32)).cell? ⟨w.heap.size, 0, none⟩ = some x := by simp
theorem cellB (w : World) (x y : Value) : (w.alloc (.cells #[x, y] 32)).cell? ⟨w.heap.size, 1, none⟩ = some y := by simp
theorem keep (w : World) (o : Obj) : Below w.heap.size w (w.alloc o) := (Below.refl _ _).alloc (Nat.le_refl _) _

set_option maxHeartbeats 1000000 in
theorem walk_long (a : Option Addr) (len cap : Nat) (a' : Option Addr) (len' cap' : Nat) (w : World) (hcap : len ≤ cap) (hm : cap ≤ maxLen) (hcap' : len' ≤ cap') (hm' : cap' ≤ maxLen) (h : 2000 < len' ∨ len' ≤ 2000 ∧ 1000 < len) :
    Calls Try.prog 5 #[.slice a len cap, .slice a' len' cap'] w fun e w' => e = .returned (.bool true) ∧ Below w.heap.size w w' := by
  unfold maxLen at hm hm'
  rcases h with h | ⟨h, h'⟩
  all_goals
    go_enter Try.func5, Try.ntmps5
    go_wp2_with fail
    refine (alive_any _).mono ?_
    rintro e w3 ⟨rfl, hb3⟩
    have HB : Hid (Below w.heap.size w w3) := hb3
    clear hb3
    go_wp2
    go_ret
    exact ⟨rfl, HB.out⟩

set_option maxHeartbeats 2000000 in
theorem walk_yy (a : Option Addr) (len cap : Nat) (qs : List Int) (a' : Option Addr) (len' cap' : Nat) (ps : List Int) (w : World)
    (hl : qs.length = len) (hcap : len ≤ cap) (hm : cap ≤ maxLen) (hsm : len ≤ 1000) (hq : AllPt qs) (hrow : RowK .i32 w a qs)
    (hl' : (flat ps).length = len') (hcap' : len' ≤ cap') (hm' : cap' ≤ maxLen) (hsm' : len' ≤ 2000) (hp : AllPt ps) (hrow' : Row w a' (flat ps)) :
    Calls Try.prog 5 #[.slice a len cap, .slice a' len' cap'] w fun e w' => e = .returned (.bool true) ∧ Below w.heap.size w w' := by
  have HL : Hid (qs.length = len) := hl
  have HR : Hid (RowK .i32 w a qs) := hrow
  have HL' : Hid ((flat ps).length = len') := hl'
  have HR' : Hid (Row w a' (flat ps)) := hrow'
  clear hl hl' hrow hrow'
  go_enter Try.func5, Try.ntmps5
  go_wp2_with fail
  refine (text_yes a len cap qs w HL.out hq hcap hm (by omega) HR.out).mono ?_
  rintro e w1 ⟨v, rfl, hown, hb1⟩
  obtain ⟨a1, cap1, rfl, hcap1, hm1, hrow1⟩ := own_row hown
  have HB1 : Hid (Below w.heap.size w w1) := hb1
  have HR1 : Hid (Row w1 a1 (flat qs)) := hrow1
  clear hown hb1 hrow1
  go_wp2_with fail
  refine (points_yes a1 _ cap1 qs (w1.alloc (.cells #[.int .i64 0, .int .i64 0] 32)) rfl hq hcap1 hm1 (by have := flat_le qs; have := HL.out; omega) (row_below HR1.out (keep _ _))).mono ?_
  rintro e w2 ⟨v, rfl, hown, hb2⟩
  obtain ⟨a2, cap2, rfl, hcap2, hm2, hrow2⟩ := own_row32 hown
  have HB2 : Hid (Below w.heap.size w w2) := (HB1.out.alloc HB1.out.size _).trans (hb2.mono (HB1.out.alloc HB1.out.size _).size)
  have HR2 : Hid (RowK .i32 w2 a2 qs) := hrow2
  clear hown hb2 hrow2
  go_wp2_with fail
  refine (same_any a a2 len cap _ cap2 qs qs (w2.alloc (.cells #[.int .i64 0, .int .i64 0] 32)) HL.out rfl (by omega) (by have := HL.out; omega) (rowK_below (rowK_below HR.out HB2.out) (keep _ _)) (rowK_below HR2.out (keep _ _))).mono ?_
  rintro e w2' ⟨rfl, n2, rfl⟩
  rw [show (qs == qs) = true from by simp]
  have HB2' : Hid (Below w.heap.size w ((w2.alloc (.cells #[.int .i64 0, .int .i64 0] 32)).drewN n2)) := below_drewN (HB2.out.alloc HB2.out.size _) n2
  go_wp2_with fail
  refine (points_yes a' len' cap' ps ((w2.alloc (.cells #[.int .i64 0, .int .i64 0] 32)).drewN n2) HL'.out hp hcap' hm' (by omega) (row_below HR'.out HB2'.out)).mono ?_
  rintro e w3 ⟨v, rfl, hown, hb3⟩
  obtain ⟨a3, cap3, rfl, hcap3, hm3, hrow3⟩ := own_row32 hown
  have HB3 : Hid (Below w.heap.size w w3) := HB2'.out.trans (hb3.mono HB2'.out.size)
  have HR3 : Hid (RowK .i32 w3 a3 ps) := hrow3
  clear hown hb3 hrow3
  go_wp2_with fail
  refine (text_yes a3 _ cap3 ps (w3.alloc (.cells #[.int .i64 0, .int .i64 0] 32)) rfl hp hcap3 hm3 (by have := flat_ge ps; have := HL'.out; omega) (rowK_below HR3.out (keep _ _))).mono ?_
  rintro e w4 ⟨v, rfl, hown, hb4⟩
  obtain ⟨a4, cap4, rfl, hcap4, hm4, hrow4⟩ := own_row hown
  have HB4 : Hid (Below w.heap.size w w4) := (HB3.out.alloc HB3.out.size _).trans (hb4.mono (HB3.out.alloc HB3.out.size _).size)
  have HR4 : Hid (Row w4 a4 (flat ps)) := hrow4
  have hs4 : w3.heap.size + 1 ≤ w4.heap.size := by have := hb4.size; simpa using this
  have HC4 : Hid (w4.cell? ⟨w3.heap.size, 1, none⟩ = some (.int .i64 0)) := by unfold Hid; rw [hb4.cell (by simp)]; exact cellB _ _ _
  clear hown hb4 hrow4
  go_wp2_with fail
  refine (alive_any _).mono ?_
  rintro e w5 ⟨rfl, hb5⟩
  have HB5 : Hid (Below w.heap.size w w5) := (HB4.out.alloc HB4.out.size _).trans (hb5.mono (HB4.out.alloc HB4.out.size _).size)
  have d1 : w5.cell? ⟨w3.heap.size, 1, none⟩ = some (.int .i64 0) := by rw [hb5.cell (by simp; omega), (keep w4 _).cell (by simp; omega)]; exact HC4.out
  have d2 : w5.cell? ⟨w4.heap.size, 1, none⟩ = some (.int .i64 0) := by rw [hb5.cell (by simp)]; exact cellB _ _ _
  have k1 : (convert 22 9 (.slice a4 (flat ps).length cap4)).run Try.prog w5 = .ok (.string (strOfNums (flat ps))) w5 := conv_row _ _ rfl (row_below (row_below HR4.out (keep _ _)) hb5)
  have k2 : (convert 22 9 (.slice a' len' cap')).run Try.prog w5 = .ok (.string (strOfNums (flat ps))) w5 := conv_row _ _ HL'.out (row_below HR'.out HB5.out)
  clear hb5
  go_wp2
  go_ret
  exact ⟨rfl, HB5.out⟩

set_option maxHeartbeats 2000000 in
theorem walk_yn (a : Option Addr) (len cap : Nat) (qs : List Int) (a' : Option Addr) (len' cap' : Nat) (ps : List Int) (r : List Int) (w : World)
    (hl : qs.length = len) (hcap : len ≤ cap) (hm : cap ≤ maxLen) (hsm : len ≤ 1000) (hq : AllPt qs) (hrow : RowK .i32 w a qs)
    (hl' : (flat ps ++ r).length = len') (hcap' : len' ≤ cap') (hm' : cap' ≤ maxLen) (hsm' : len' ≤ 2000) (hp : AllPt ps) (hr : decZ r = none) (hne : r ≠ []) (hby : Byt r) (hrow' : Row w a' (flat ps ++ r)) :
    Calls Try.prog 5 #[.slice a len cap, .slice a' len' cap'] w fun e w' => e = .returned (.bool true) ∧ Below w.heap.size w w' := by
  have HL : Hid (qs.length = len) := hl
  have HR : Hid (RowK .i32 w a qs) := hrow
  have HL' : Hid ((flat ps ++ r).length = len') := hl'
  have HR' : Hid (Row w a' (flat ps ++ r)) := hrow'
  clear hl hl' hrow hrow'
  go_enter Try.func5, Try.ntmps5
  go_wp2_with fail
  refine (text_yes a len cap qs w HL.out hq hcap hm (by omega) HR.out).mono ?_
  rintro e w1 ⟨v, rfl, hown, hb1⟩
  obtain ⟨a1, cap1, rfl, hcap1, hm1, hrow1⟩ := own_row hown
  have HB1 : Hid (Below w.heap.size w w1) := hb1
  have HR1 : Hid (Row w1 a1 (flat qs)) := hrow1
  clear hown hb1 hrow1
  go_wp2_with fail
  refine (points_yes a1 _ cap1 qs (w1.alloc (.cells #[.int .i64 0, .int .i64 0] 32)) rfl hq hcap1 hm1 (by have := flat_le qs; have := HL.out; omega) (row_below HR1.out (keep _ _))).mono ?_
  rintro e w2 ⟨v, rfl, hown, hb2⟩
  obtain ⟨a2, cap2, rfl, hcap2, hm2, hrow2⟩ := own_row32 hown
  have HB2 : Hid (Below w.heap.size w w2) := (HB1.out.alloc HB1.out.size _).trans (hb2.mono (HB1.out.alloc HB1.out.size _).size)
  have HR2 : Hid (RowK .i32 w2 a2 qs) := hrow2
  clear hown hb2 hrow2
  go_wp2_with fail
  refine (same_any a a2 len cap _ cap2 qs qs (w2.alloc (.cells #[.int .i64 0, .int .i64 0] 32)) HL.out rfl (by omega) (by have := HL.out; omega) (rowK_below (rowK_below HR.out HB2.out) (keep _ _)) (rowK_below HR2.out (keep _ _))).mono ?_
  rintro e w2' ⟨rfl, n2, rfl⟩
  rw [show (qs == qs) = true from by simp]
  have HB2' : Hid (Below w.heap.size w ((w2.alloc (.cells #[.int .i64 0, .int .i64 0] 32)).drewN n2)) := below_drewN (HB2.out.alloc HB2.out.size _) n2
  go_wp2_with fail
  refine (points_no a' len' cap' ps r ((w2.alloc (.cells #[.int .i64 0, .int .i64 0] 32)).drewN n2) HL'.out hp hr hne hby hcap' hm' (by omega) (row_below HR'.out HB2'.out)).mono ?_
  rintro e w3 ⟨rfl, hb3⟩
  have HB3 : Hid (Below w.heap.size w w3) := HB2'.out.trans (hb3.mono HB2'.out.size)
  clear hb3
  go_wp2_with fail
  refine (text_yes none 0 0 [] (w3.alloc (.cells #[.int .i64 (flat ps).length, .int .i64 20] 32)) rfl (by intro x hx; simp at hx) (by omega) (by simp [maxLen]) (by omega) (.inl rfl)).mono ?_
  rintro e w4 ⟨v, rfl, hown, hb4⟩
  obtain ⟨a4, cap4, rfl, hcap4, hm4, hrow4⟩ := own_row hown
  have HB4 : Hid (Below w.heap.size w w4) := (HB3.out.alloc HB3.out.size _).trans (hb4.mono (HB3.out.alloc HB3.out.size _).size)
  have hs4 : w3.heap.size + 1 ≤ w4.heap.size := by have := hb4.size; simpa using this
  have HC4 : Hid (w4.cell? ⟨w3.heap.size, 1, none⟩ = some (.int .i64 20)) := by unfold Hid; rw [hb4.cell (by simp)]; exact cellB _ _ _
  clear hown hb4 hrow4
  go_wp2_with fail
  refine (alive_any _).mono ?_
  rintro e w5 ⟨rfl, hb5⟩
  have HB5 : Hid (Below w.heap.size w w5) := (HB4.out.alloc HB4.out.size _).trans (hb5.mono (HB4.out.alloc HB4.out.size _).size)
  have d1 : w5.cell? ⟨w3.heap.size, 1, none⟩ = some (.int .i64 20) := by rw [hb5.cell (by simp; omega), (keep w4 _).cell (by simp; omega)]; exact HC4.out
  clear hb5
  go_wp2
  go_ret
  exact ⟨rfl, HB5.out⟩

set_option maxHeartbeats 2000000 in
theorem walk_ny (a : Option Addr) (len cap : Nat) (qs : List Int) (q0 : Int) (t0 : List Int) (a' : Option Addr) (len' cap' : Nat) (ps : List Int) (w : World)
    (hl : (qs ++ q0 :: t0).length = len) (hcap : len ≤ cap) (hm : cap ≤ maxLen) (hsm : len ≤ 1000) (hq : AllPt qs) (hq0 : ptB q0 = false) (hrow : RowK .i32 w a (qs ++ q0 :: t0))
    (hl' : (flat ps).length = len') (hcap' : len' ≤ cap') (hm' : cap' ≤ maxLen) (hsm' : len' ≤ 2000) (hp : AllPt ps) (hrow' : Row w a' (flat ps)) :
    Calls Try.prog 5 #[.slice a len cap, .slice a' len' cap'] w fun e w' => e = .returned (.bool true) ∧ Below w.heap.size w w' := by
  have HL : Hid ((qs ++ q0 :: t0).length = len) := hl
  have HR : Hid (RowK .i32 w a (qs ++ q0 :: t0)) := hrow
  have HL' : Hid ((flat ps).length = len') := hl'
  have HR' : Hid (Row w a' (flat ps)) := hrow'
  clear hl hl' hrow hrow'
  go_enter Try.func5, Try.ntmps5
  go_wp2_with fail
  refine (text_no a len cap qs q0 t0 w HL.out hq hq0 hcap hm (by omega) HR.out).mono ?_
  rintro e w1 ⟨rfl, hb1⟩
  have HB1 : Hid (Below w.heap.size w (w1.alloc (.cells #[.int .i64 qs.length, .int .i64 20] 32))) := hb1.alloc hb1.size _
  clear hb1
  go_wp2_with fail
  refine (points_yes a' len' cap' ps (w1.alloc (.cells #[.int .i64 qs.length, .int .i64 20] 32)) HL'.out hp hcap' hm' (by omega) (row_below HR'.out HB1.out)).mono ?_
  rintro e w3 ⟨v, rfl, hown, hb3⟩
  obtain ⟨a3, cap3, rfl, hcap3, hm3, hrow3⟩ := own_row32 hown
  have HB3 : Hid (Below w.heap.size w w3) := HB1.out.trans (hb3.mono HB1.out.size)
  have HR3 : Hid (RowK .i32 w3 a3 ps) := hrow3
  clear hown hb3 hrow3
  go_wp2_with fail
  refine (text_yes a3 _ cap3 ps (w3.alloc (.cells #[.int .i64 0, .int .i64 0] 32)) rfl hp hcap3 hm3 (by have := flat_ge ps; have := HL'.out; omega) (rowK_below HR3.out (keep _ _))).mono ?_
  rintro e w4 ⟨v, rfl, hown, hb4⟩
  obtain ⟨a4, cap4, rfl, hcap4, hm4, hrow4⟩ := own_row hown
  have HB4 : Hid (Below w.heap.size w w4) := (HB3.out.alloc HB3.out.size _).trans (hb4.mono (HB3.out.alloc HB3.out.size _).size)
  have HR4 : Hid (Row w4 a4 (flat ps)) := hrow4
  have hs4 : w3.heap.size + 1 ≤ w4.heap.size := by have := hb4.size; simpa using this
  have HC4 : Hid (w4.cell? ⟨w3.heap.size, 1, none⟩ = some (.int .i64 0)) := by unfold Hid; rw [hb4.cell (by simp)]; exact cellB _ _ _
  clear hown hb4 hrow4
  go_wp2_with fail
  refine (alive_any _).mono ?_
  rintro e w5 ⟨rfl, hb5⟩
  have HB5 : Hid (Below w.heap.size w w5) := (HB4.out.alloc HB4.out.size _).trans (hb5.mono (HB4.out.alloc HB4.out.size _).size)
  have d1 : w5.cell? ⟨w3.heap.size, 1, none⟩ = some (.int .i64 0) := by rw [hb5.cell (by simp; omega), (keep w4 _).cell (by simp; omega)]; exact HC4.out
  have d2 : w5.cell? ⟨w4.heap.size, 1, none⟩ = some (.int .i64 0) := by rw [hb5.cell (by simp)]; exact cellB _ _ _
  have k1 : (convert 22 9 (.slice a4 (flat ps).length cap4)).run Try.prog w5 = .ok (.string (strOfNums (flat ps))) w5 := conv_row _ _ rfl (row_below (row_below HR4.out (keep _ _)) hb5)
  have k2 : (convert 22 9 (.slice a' len' cap')).run Try.prog w5 = .ok (.string (strOfNums (flat ps))) w5 := conv_row _ _ HL'.out (row_below HR'.out HB5.out)
  clear hb5
  go_wp2
  go_ret
  exact ⟨rfl, HB5.out⟩

set_option maxHeartbeats 2000000 in
theorem walk_nn (a : Option Addr) (len cap : Nat) (qs : List Int) (q0 : Int) (t0 : List Int) (a' : Option Addr) (len' cap' : Nat) (ps : List Int) (r : List Int) (w : World)
    (hl : (qs ++ q0 :: t0).length = len) (hcap : len ≤ cap) (hm : cap ≤ maxLen) (hsm : len ≤ 1000) (hq : AllPt qs) (hq0 : ptB q0 = false) (hrow : RowK .i32 w a (qs ++ q0 :: t0))
    (hl' : (flat ps ++ r).length = len') (hcap' : len' ≤ cap') (hm' : cap' ≤ maxLen) (hsm' : len' ≤ 2000) (hp : AllPt ps) (hr : decZ r = none) (hne : r ≠ []) (hby : Byt r) (hrow' : Row w a' (flat ps ++ r)) :
    Calls Try.prog 5 #[.slice a len cap, .slice a' len' cap'] w fun e w' => e = .returned (.bool true) ∧ Below w.heap.size w w' := by
  have HL : Hid ((qs ++ q0 :: t0).length = len) := hl
  have HR : Hid (RowK .i32 w a (qs ++ q0 :: t0)) := hrow
  have HL' : Hid ((flat ps ++ r).length = len') := hl'
  have HR' : Hid (Row w a' (flat ps ++ r)) := hrow'
  clear hl hl' hrow hrow'
  go_enter Try.func5, Try.ntmps5
  go_wp2_with fail
  refine (text_no a len cap qs q0 t0 w HL.out hq hq0 hcap hm (by omega) HR.out).mono ?_
  rintro e w1 ⟨rfl, hb1⟩
  have HB1 : Hid (Below w.heap.size w (w1.alloc (.cells #[.int .i64 qs.length, .int .i64 20] 32))) := hb1.alloc hb1.size _
  clear hb1
  go_wp2_with fail
  refine (points_no a' len' cap' ps r (w1.alloc (.cells #[.int .i64 qs.length, .int .i64 20] 32)) HL'.out hp hr hne hby hcap' hm' (by omega) (row_below HR'.out HB1.out)).mono ?_
  rintro e w3 ⟨rfl, hb3⟩
  have HB3 : Hid (Below w.heap.size w w3) := HB1.out.trans (hb3.mono HB1.out.size)
  clear hb3
  go_wp2_with fail
  refine (text_yes none 0 0 [] (w3.alloc (.cells #[.int .i64 (flat ps).length, .int .i64 20] 32)) rfl (by intro x hx; simp at hx) (by omega) (by simp [maxLen]) (by omega) (.inl rfl)).mono ?_
  rintro e w4 ⟨v, rfl, hown, hb4⟩
  obtain ⟨a4, cap4, rfl, hcap4, hm4, hrow4⟩ := own_row hown
  have HB4 : Hid (Below w.heap.size w w4) := (HB3.out.alloc HB3.out.size _).trans (hb4.mono (HB3.out.alloc HB3.out.size _).size)
  have hs4 : w3.heap.size + 1 ≤ w4.heap.size := by have := hb4.size; simpa using this
  have HC4 : Hid (w4.cell? ⟨w3.heap.size, 1, none⟩ = some (.int .i64 20)) := by unfold Hid; rw [hb4.cell (by simp)]; exact cellB _ _ _
  clear hown hb4 hrow4
  go_wp2_with fail
  refine (alive_any _).mono ?_
  rintro e w5 ⟨rfl, hb5⟩
  have HB5 : Hid (Below w.heap.size w w5) := (HB4.out.alloc HB4.out.size _).trans (hb5.mono (HB4.out.alloc HB4.out.size _).size)
  have d1 : w5.cell? ⟨w3.heap.size, 1, none⟩ = some (.int .i64 20) := by rw [hb5.cell (by simp; omega), (keep w4 _).cell (by simp; omega)]; exact HC4.out
  clear hb5
  go_wp2
  go_ret
  exact ⟨rfl, HB5.out⟩

theorem split_pts : ∀ l : List Int, AllPt l ∨ ∃ ps q t, AllPt ps ∧ ptB q = false ∧ l = ps ++ q :: t
  | [] => .inl (by intro x hx; simp at hx)
  | p :: l => by
    by_cases hp : ptB p = true
    · rcases split_pts l with h | ⟨ps, q, t, h1, h2, rfl⟩
      · exact .inl (fun x hx => by rcases List.mem_cons.1 hx with rfl | hx; · exact hp
                                   · exact h x hx)
      · exact .inr ⟨p :: ps, q, t, fun x hx => by rcases List.mem_cons.1 hx with rfl | hx; · exact hp
                                                  · exact h1 x hx, h2, rfl⟩
    · exact .inr ⟨[], p, l, by intro x hx; simp at hx, by simpa using hp, rfl⟩

theorem walk (a0 : Option Addr) (len0 cap0 : Nat) (z0 : List Int) (a1 : Option Addr) (len1 cap1 : Nat) (z1 : List Int) (w : World) (w0 : IsRow .i32 w a0 len0 cap0 z0) (w1 : IsRow .u8 w a1 len1 cap1 z1) :
    Calls Try.prog 5 #[.slice a0 len0 cap0, .slice a1 len1 cap1] w fun e w' => e = .returned (.bool true) ∧ Below w.heap.size w w' := by
  obtain ⟨l, h1, h2, h3, h4, h5⟩ := isRow_view w0
  obtain ⟨m, k1, k2, k3, k4, k5⟩ := byte_view w1
  by_cases hl : 2000 < len1 ∨ len1 ≤ 2000 ∧ 1000 < len0
  · exact walk_long a0 len0 cap0 a1 len1 cap1 w h2 h3 k2 k3 hl
  · obtain ⟨ps, r, e1, rfl, e3⟩ := split_ex m k4
    rcases split_pts l with hq | ⟨qs, q, t, hq, hq0, rfl⟩
    · by_cases hr : r = []
      · subst hr
        rw [List.append_nil] at k1 k5
        exact walk_yy a0 len0 cap0 l a1 len1 cap1 ps w h1 h2 h3 (by omega) hq h5 k1 k2 k3 (by omega) e1 k5
      · exact walk_yn a0 len0 cap0 l a1 len1 cap1 ps r w h1 h2 h3 (by omega) hq h5 k1 k2 k3 (by omega) e1 e3 hr (fun x hx => k4 x (by simp [hx])) k5
    · by_cases hr : r = []
      · subst hr
        rw [List.append_nil] at k1 k5
        exact walk_ny a0 len0 cap0 qs q t a1 len1 cap1 ps w h1 h2 h3 (by omega) hq hq0 h5 k1 k2 k3 (by omega) e1 k5
      · exact walk_nn a0 len0 cap0 qs q t a1 len1 cap1 ps r w h1 h2 h3 (by omega) hq hq0 h5 k1 k2 k3 (by omega) e1 e3 hr (fun x hx => k4 x (by simp [hx])) k5

set_option maxRecDepth 100000 in
theorem lifted (os : Os) (started : os.Started) (H : Type) (enc : TypeId × Value → H) :
    ReturnsInHanded {} Try.checked os 5 .any (Rows.utfBackSpec.pre6 enc Try.prog Try.f5 Rows.utfBackRow.domain false) (Rows.utfBackSpec.post enc Try.prog Try.f5 false true false false) := by
  refine returnsInHanded_of_change (C := Try.checked) own started (by kernel_rfl) Try.func5
    (ChangeSpec.witness6 (enc := enc) (C := Try.checked) false ⟨#[], #[.slice none 0 0, .slice none 0 0], []⟩ 8 (by kernel_rfl) (by kernel_rfl) (by kernel_rfl) (by kernel_rfl)) ?_
  intro W base args ds gs before hval0 hW hcnd _
  have hval : ∀ (j : Nat) t v, Try.f5.params[j]? = some t → args[j]? = some v → Value.okWide Try.prog W .any base t v := hval0
  have hW' := hW
  obtain ⟨p, q, hA0, hV, rfl, hfz, hnd⟩ := hW
  have hA : DataW.TrodAll enc Try.prog W 0 (fun _ => true) true Try.f5.params.toList args.toList ds p := hA0
  rw [Try.params5] at hA hval
  obtain ⟨v0, vs0, d0, ds0, p0, q0, hargs, rfl, rfl, h0, r0⟩ := trodAll_cons hA
  obtain ⟨v1, vs1, d1, ds1, p1, q1, rfl, rfl, rfl, h1, r1⟩ := trodAll_cons r0
  obtain ⟨rfl, rfl, rfl⟩ := trodAll_nil r1
  obtain rfl : args = #[v0, v1] := by cases args; simp_all
  obtain ⟨rfl, rfl⟩ := trodVars_none hV
  obtain ⟨a0, len0, cap0, rfl⟩ := okWide_slice Try.underlying30 (hval 0 30 v0 rfl rfl)
  have k0 := h0
  have lt0 : ∀ x ∈ p0, x.block < W.heap.size := by obtain ⟨m, hm⟩ := k0; exact DataW.trod_lt m _ _ _ hm
  obtain ⟨z0, w0⟩ : ∃ zs, IsRow .i32 W a0 len0 cap0 zs := by
    obtain ⟨fuel, hf⟩ := h0
    rcases open_ints Try.underlying30 Try.underlying21 (by kernel_rfl) hf with ⟨hcs, _⟩ | ⟨x, l, c, zs, hcs, _, hl, hm, hz, _, hcell, hwz⟩
    · simp [Value.cells] at hcs
      obtain ⟨rfl, rfl, rfl⟩ := hcs
      exact ⟨[], .inl ⟨rfl, rfl, rfl, rfl⟩⟩
    · simp [Value.cells] at hcs
      obtain ⟨rfl, rfl, rfl⟩ := hcs
      exact ⟨zs, .inr ⟨_, rfl, hl, hm, by simpa using hz, hcell, hwz⟩⟩
  obtain ⟨a1, len1, cap1, rfl⟩ := okWide_slice Try.underlying22 (hval 1 22 v1 rfl rfl)
  have k1 := h1
  have lt1 : ∀ x ∈ p1, x.block < W.heap.size := by obtain ⟨m, hm⟩ := k1; exact DataW.trod_lt m _ _ _ hm
  obtain ⟨z1, w1⟩ : ∃ zs, IsRow .u8 W a1 len1 cap1 zs := by
    obtain ⟨fuel, hf⟩ := h1
    rcases open_ints Try.underlying22 Try.underlying5 (by kernel_rfl) hf with ⟨hcs, _⟩ | ⟨x, l, c, zs, hcs, _, hl, hm, hz, _, hcell, hwz⟩
    · simp [Value.cells] at hcs
      obtain ⟨rfl, rfl, rfl⟩ := hcs
      exact ⟨[], .inl ⟨rfl, rfl, rfl, rfl⟩⟩
    · simp [Value.cells] at hcs
      obtain ⟨rfl, rfl, rfl⟩ := hcs
      exact ⟨zs, .inr ⟨_, rfl, hl, hm, by simpa using hz, hcell, hwz⟩⟩
  clear hA0 hval0
  refine (walk a0 len0 cap0 z0 a1 len1 cap1 z1 W w0 w1).mono fun e W' ⟨he, bel⟩ => ?_
  subst he
  exact ⟨_, rfl, _, _, _, [], _, [], hW', trodAll_mk1 (shut_bool Try.underlying4 _), (trodAll_cons_mk (Below.trod laidOut (by kernel_rfl) (of_decide_eq_true (by kernel_rfl)) k0 bel lt0) (trodAll_cons_mk (Below.trod laidOut (by kernel_rfl) (of_decide_eq_true (by kernel_rfl)) k1 bel lt1) trodAll_mk0)), rfl, bel.frame _, fun h => by cases h⟩

theorem over : Rows.utfBackRow.holds Try.pinned (OpenSpec.ofChange Rows.utfBackSpec) :=
  OpenClaim.holds_of_wide 5 Try.f5 rfl rfl rfl rfl rfl rfl rfl ⟨rfl, rfl, rfl, rfl, rfl⟩ rfl rfl rfl rfl rfl (by kernel_rfl) Try.func5 (by kernel_rfl)
    (of_decide_eq_true (by kernel_rfl)) (by unfold Func.isWrapper; first | (rw [if_pos (by decide +kernel)]; kernel_rfl) | (rw [if_neg (by decide +kernel)]; exact ⟨rfl, rfl⟩))
    (fun os started H enc _ => lifted os started H enc)


end Go.Proofs.Ytcoicejbbdenlab.utfBack
namespace Go.Proofs.Ytcoicejbbdenlab
theorem utfBack_holds : Rows.UtfBackSaid := utfBack.over
#print axioms utfBack_holds
end Go.Proofs.Ytcoicejbbdenlab
