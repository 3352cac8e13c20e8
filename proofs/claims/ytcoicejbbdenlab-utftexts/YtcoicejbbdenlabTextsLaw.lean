/-
  For every text, every list of points and every number the law UtfTexts returns true, and all read as before: no condition.
-/
import Derived.Test.YtcoicejbbdenlabRows
import Derived.Test.YtcoicejbbdenlabRtext
import Derived.WalkKit
import Derived.ProofKit
import Derived.OpenShut
import Derived.ShutString
import Derived.ChangeOld
import Derived.Below
namespace Go.Proofs.Ytcoicejbbdenlab.utfTexts
open Go.ChangeShapes Go.WideShapes Go.ChangeAt Go.RowKit
open Go.ChangeMaps (open_string shut_string)
set_option linter.unusedVariables false


set_option maxHeartbeats 1000000 in
theorem walk_long (a : Option Addr) (len cap : Nat) (a' : Option Addr) (len' cap' : Nat) (most : Int) (w : World) (hcap : len ≤ cap) (hm : cap ≤ maxLen) (hcap' : len' ≤ cap') (hm' : cap' ≤ maxLen) (h : 2000 < len ∨ len ≤ 2000 ∧ 1000 < len') :
    Calls Try.prog 4 #[.slice a len cap, .slice a' len' cap', .int .i64 most] w fun e w' => e = .returned (.bool true) ∧ Below w.heap.size w w' := by
  unfold maxLen at hm hm'
  rcases h with h | ⟨h, h'⟩
  all_goals
    go_enter Try.func4, Try.ntmps4
    go_wp2_with fail
    refine (alive_any _).mono ?_
    rintro e w3 ⟨rfl, hb3⟩
    have HB : Hid (Below w.heap.size w w3) := hb3
    clear hb3
    go_wp2
    go_ret
    exact ⟨rfl, HB.out⟩

set_option maxHeartbeats 4000000 in
theorem walk_yym (a : Option Addr) (len cap : Nat) (ps : List Int) (a' : Option Addr) (len' cap' : Nat) (qs : List Int) (most : Int) (w : World)
    (hl : (flat ps).length = len) (hcap : len ≤ cap) (hm : cap ≤ maxLen) (hsm : len ≤ 2000) (hp : AllPt ps) (hrow : Row w a (flat ps))
    (hl' : qs.length = len') (hcap' : len' ≤ cap') (hm' : cap' ≤ maxLen) (hsm' : len' ≤ 1000) (hq : AllPt qs) (hrow' : RowK .i32 w a' qs) (hmo : most < 0) (h63 : most ≤ 9223372036854775807) :
    Calls Try.prog 4 #[.slice a len cap, .slice a' len' cap', .int .i64 most] w fun e w' => e = .returned (.bool true) ∧ Below w.heap.size w w' := by
  have HL : Hid ((flat ps).length = len) := hl
  have HR : Hid (Row w a (flat ps)) := hrow
  have HL' : Hid (qs.length = len') := hl'
  have HR' : Hid (RowK .i32 w a' qs) := hrow'
  clear hl hl' hrow hrow'
  go_enter Try.func4, Try.ntmps4
  go_wp2_with fail
  refine (points_yes a len cap ps w HL.out hp hcap hm (by omega) HR.out).mono ?_
  rintro e w1 ⟨v1, rfl, hown1, hb1⟩
  obtain ⟨a1, cap1, rfl, hcap1, hm1, hrow1, hn1⟩ := own_row' hown1
  have HX1 : Hid (RowK .i32 w1 a1 ps) := hrow1
  have HB1 : Hid (Below w.heap.size w w1) := hb1
  clear hown1 hb1 hrow1 hn1
  go_wp2_with fail
  refine (rpoints_yes a len cap ps (w1.alloc (.cells #[.int .i64 0, .int .i64 0] 32)) HL.out hp hcap hm (by omega) (row_below HR.out (HB1.out.alloc HB1.out.size _))).mono ?_
  rintro e w2 ⟨v2, rfl, hown2, hb2⟩
  obtain ⟨a2, cap2, rfl, hcap2, hm2, hrow2, hn2⟩ := own_row' hown2
  have HX2 : Hid (RowK .i32 w2 a1 ps) := rowK_below (rowK_below HX1.out (keep _ _)) hb2
  have HY2 : Hid (RowK .i32 w2 a2 ps) := hrow2
  clear hown2 hrow2 hn2
  have HB2 : Hid (Below w.heap.size w w2) := (HB1.out.alloc HB1.out.size _).trans (hb2.mono (HB1.out.alloc HB1.out.size _).size)
  have hs2 : w1.heap.size + 1 ≤ w2.heap.size := by have := hb2.size; simpa using this
  have A2 : Hid (w2.cell? ⟨w1.heap.size, 0, none⟩ = some (.int .i64 0)) := by unfold Hid; rw [hb2.cell (by simp)]; exact cellA _ _ _
  have B2 : Hid (w2.cell? ⟨w1.heap.size, 1, none⟩ = some (.int .i64 0)) := by unfold Hid; rw [hb2.cell (by simp)]; exact cellB _ _ _
  clear hb2
  go_wp2_with fail
  refine (text_yes a' len' cap' qs (w2.alloc (.cells #[.int .i64 0, .int .i64 0] 32)) HL'.out hq hcap' hm' (by omega) (rowK_below HR'.out (HB2.out.alloc HB2.out.size _))).mono ?_
  rintro e w3 ⟨v3, rfl, hown3, hb3⟩
  obtain ⟨a3, cap3, rfl, hcap3, hm3, hrow3, hn3⟩ := own_row' hown3
  have HZ3 : Hid (RowK .u8 w3 a3 (flat qs)) := hrow3
  clear hown3 hrow3 hn3
  have HB3 : Hid (Below w.heap.size w w3) := (HB2.out.alloc HB2.out.size _).trans (hb3.mono (HB2.out.alloc HB2.out.size _).size)
  have hs3 : w2.heap.size + 1 ≤ w3.heap.size := by have := hb3.size; simpa using this
  have HK3 : Hid (Below w2.heap.size w2 w3) := (keep w2 _).trans (hb3.mono (by simp))
  have A3 : Hid (w3.cell? ⟨w2.heap.size, 0, none⟩ = some (.int .i64 0)) := by unfold Hid; rw [hb3.cell (by simp)]; exact cellA _ _ _
  have B3 : Hid (w3.cell? ⟨w2.heap.size, 1, none⟩ = some (.int .i64 0)) := by unfold Hid; rw [hb3.cell (by simp)]; exact cellB _ _ _
  clear hb3
  go_wp2_with fail
  refine (rtext_yes a' len' cap' qs (w3.alloc (.cells #[.int .i64 0, .int .i64 0] 32)) HL'.out hq hcap' hm' (by omega) (rowK_below HR'.out (HB3.out.alloc HB3.out.size _))).mono ?_
  rintro e w4 ⟨v4, rfl, hown4, hb4⟩
  obtain ⟨a4, cap4, rfl, hcap4, hm4, hrow4, hn4⟩ := own_row' hown4
  have HZ4 : Hid (RowK .u8 w4 a3 (flat qs)) := rowK_below (rowK_below HZ3.out (keep _ _)) hb4
  have HV4 : Hid (RowK .u8 w4 a4 (flat qs)) := hrow4
  clear hown4 hrow4 hn4
  have HB4 : Hid (Below w.heap.size w w4) := (HB3.out.alloc HB3.out.size _).trans (hb4.mono (HB3.out.alloc HB3.out.size _).size)
  have hs4 : w3.heap.size + 1 ≤ w4.heap.size := by have := hb4.size; simpa using this
  have HK4 : Hid (Below w3.heap.size w3 w4) := (keep w3 _).trans (hb4.mono (by simp))
  have A4 : Hid (w4.cell? ⟨w3.heap.size, 0, none⟩ = some (.int .i64 0)) := by unfold Hid; rw [hb4.cell (by simp)]; exact cellA _ _ _
  have B4 : Hid (w4.cell? ⟨w3.heap.size, 1, none⟩ = some (.int .i64 0)) := by unfold Hid; rw [hb4.cell (by simp)]; exact cellB _ _ _
  clear hb4
  go_wp2_with fail
  refine (alive_any _).mono ?_
  rintro e w5 ⟨rfl, hb5⟩
  have HB5 : Hid (Below w.heap.size w w5) := (HB4.out.alloc HB4.out.size _).trans (hb5.mono (HB4.out.alloc HB4.out.size _).size)
  have HK5 : Hid (Below w4.heap.size w4 w5) := (keep w4 _).trans (hb5.mono (by simp))
  have hs5 : w4.heap.size + 1 ≤ w5.heap.size := by have := hb5.size; simpa using this
  have p1 : w5.cell? ⟨w1.heap.size, 0, none⟩ = some (.int .i64 0) := by rw [HK5.out.cell (by simp; omega), HK4.out.cell (by simp; omega), HK3.out.cell (by simp; omega)]; exact A2.out
  have p2 : w5.cell? ⟨w1.heap.size, 1, none⟩ = some (.int .i64 0) := by rw [HK5.out.cell (by simp; omega), HK4.out.cell (by simp; omega), HK3.out.cell (by simp; omega)]; exact B2.out
  have p3 : w5.cell? ⟨w2.heap.size, 0, none⟩ = some (.int .i64 0) := by rw [HK5.out.cell (by simp; omega), HK4.out.cell (by simp; omega)]; exact A3.out
  have p4 : w5.cell? ⟨w2.heap.size, 1, none⟩ = some (.int .i64 0) := by rw [HK5.out.cell (by simp; omega), HK4.out.cell (by simp; omega)]; exact B3.out
  have p5 : w5.cell? ⟨w3.heap.size, 0, none⟩ = some (.int .i64 0) := by rw [HK5.out.cell (by simp; omega)]; exact A4.out
  have p6 : w5.cell? ⟨w3.heap.size, 1, none⟩ = some (.int .i64 0) := by rw [HK5.out.cell (by simp; omega)]; exact B4.out
  have p7 : w5.cell? ⟨w4.heap.size, 0, none⟩ = some (.int .i64 0) := by rw [hb5.cell (by simp)]; exact cellA _ _ _
  have p8 : w5.cell? ⟨w4.heap.size, 1, none⟩ = some (.int .i64 0) := by rw [hb5.cell (by simp)]; exact cellB _ _ _
  have HZ5 : Hid (RowK .u8 w5 a3 (flat qs)) := rowK_below HZ4.out HK5.out
  have HV5 : Hid (RowK .u8 w5 a4 (flat qs)) := rowK_below HV4.out HK5.out
  clear hb5
  go_wp2_with fail
  refine (same_any a1 a2 _ cap1 _ cap2 ps ps w5 rfl rfl (by have := flat_ge ps; have := HL.out; omega) (by have := flat_ge ps; have := HL.out; omega) (rowK_below (rowK_below (rowK_below HX2.out HK3.out) HK4.out) HK5.out) (rowK_below (rowK_below (rowK_below HY2.out HK3.out) HK4.out) HK5.out)).mono ?_
  rintro e w6 ⟨rfl, n6, rfl⟩
  rw [show (ps == ps) = true from by simp]
  have k1 : (convert 22 9 (.slice a3 (flat qs).length cap3)).run Try.prog (w5.drewN n6) = .ok (.string (strOfNums (flat qs))) (w5.drewN n6) := conv_row _ _ rfl HZ5.out
  have k2 : (convert 22 9 (.slice a4 (flat qs).length cap4)).run Try.prog (w5.drewN n6) = .ok (.string (strOfNums (flat qs))) (w5.drewN n6) := conv_row _ _ rfl HV5.out
  have HB6 : Hid (Below w.heap.size w (w5.drewN n6)) := below_drewN HB5.out n6
  go_wp2_with fail
  refine (valid_any a len cap ps [] _ (by rw [List.append_nil]; exact HL.out) hp rfl (by intro x hx; simp at hx) hcap hm (by rw [List.append_nil]; exact row_below HR.out HB6.out)).mono ?_
  rintro e w7 ⟨rfl, rfl⟩
  go_wp2_with fail
  refine (rvalid_yes a len cap ps _ HL.out hp hcap hm (by omega) (row_below HR.out HB6.out)).mono ?_
  rintro e w8 ⟨rfl, hb8⟩
  have HB8 : Hid (Below w.heap.size w w8) := HB6.out.trans (hb8.mono HB6.out.size)
  clear hb8
  go_wp2_with fail
  refine (cut_yes a len cap most ps w8 HL.out hp hcap hm (row_below HR.out HB8.out)).mono ?_
  rintro e w9 ⟨rfl, rfl⟩
  rw [show cutZ (flat ps) (m0Z most len) = 0 from by rw [show m0Z most len = 0 from by unfold m0Z; omega]; rfl]
  go_wp2_with fail
  refine (rcut_neg a len cap most w8 hmo).mono ?_
  rintro e w10 ⟨rfl, rfl⟩
  go_wp2
  go_ret
  exact ⟨rfl, HB8.out⟩

set_option maxHeartbeats 4000000 in
theorem walk_yyp (a : Option Addr) (len cap : Nat) (ps : List Int) (a' : Option Addr) (len' cap' : Nat) (qs : List Int) (most : Int) (w : World)
    (hl : (flat ps).length = len) (hcap : len ≤ cap) (hm : cap ≤ maxLen) (hsm : len ≤ 2000) (hp : AllPt ps) (hrow : Row w a (flat ps))
    (hl' : qs.length = len') (hcap' : len' ≤ cap') (hm' : cap' ≤ maxLen) (hsm' : len' ≤ 1000) (hq : AllPt qs) (hrow' : RowK .i32 w a' qs) (hmo : 0 ≤ most) (h63 : most ≤ 9223372036854775807) :
    Calls Try.prog 4 #[.slice a len cap, .slice a' len' cap', .int .i64 most] w fun e w' => e = .returned (.bool true) ∧ Below w.heap.size w w' := by
  have HL : Hid ((flat ps).length = len) := hl
  have HR : Hid (Row w a (flat ps)) := hrow
  have HL' : Hid (qs.length = len') := hl'
  have HR' : Hid (RowK .i32 w a' qs) := hrow'
  clear hl hl' hrow hrow'
  go_enter Try.func4, Try.ntmps4
  go_wp2_with fail
  refine (points_yes a len cap ps w HL.out hp hcap hm (by omega) HR.out).mono ?_
  rintro e w1 ⟨v1, rfl, hown1, hb1⟩
  obtain ⟨a1, cap1, rfl, hcap1, hm1, hrow1, hn1⟩ := own_row' hown1
  have HX1 : Hid (RowK .i32 w1 a1 ps) := hrow1
  have HB1 : Hid (Below w.heap.size w w1) := hb1
  clear hown1 hb1 hrow1 hn1
  go_wp2_with fail
  refine (rpoints_yes a len cap ps (w1.alloc (.cells #[.int .i64 0, .int .i64 0] 32)) HL.out hp hcap hm (by omega) (row_below HR.out (HB1.out.alloc HB1.out.size _))).mono ?_
  rintro e w2 ⟨v2, rfl, hown2, hb2⟩
  obtain ⟨a2, cap2, rfl, hcap2, hm2, hrow2, hn2⟩ := own_row' hown2
  have HX2 : Hid (RowK .i32 w2 a1 ps) := rowK_below (rowK_below HX1.out (keep _ _)) hb2
  have HY2 : Hid (RowK .i32 w2 a2 ps) := hrow2
  clear hown2 hrow2 hn2
  have HB2 : Hid (Below w.heap.size w w2) := (HB1.out.alloc HB1.out.size _).trans (hb2.mono (HB1.out.alloc HB1.out.size _).size)
  have hs2 : w1.heap.size + 1 ≤ w2.heap.size := by have := hb2.size; simpa using this
  have A2 : Hid (w2.cell? ⟨w1.heap.size, 0, none⟩ = some (.int .i64 0)) := by unfold Hid; rw [hb2.cell (by simp)]; exact cellA _ _ _
  have B2 : Hid (w2.cell? ⟨w1.heap.size, 1, none⟩ = some (.int .i64 0)) := by unfold Hid; rw [hb2.cell (by simp)]; exact cellB _ _ _
  clear hb2
  go_wp2_with fail
  refine (text_yes a' len' cap' qs (w2.alloc (.cells #[.int .i64 0, .int .i64 0] 32)) HL'.out hq hcap' hm' (by omega) (rowK_below HR'.out (HB2.out.alloc HB2.out.size _))).mono ?_
  rintro e w3 ⟨v3, rfl, hown3, hb3⟩
  obtain ⟨a3, cap3, rfl, hcap3, hm3, hrow3, hn3⟩ := own_row' hown3
  have HZ3 : Hid (RowK .u8 w3 a3 (flat qs)) := hrow3
  clear hown3 hrow3 hn3
  have HB3 : Hid (Below w.heap.size w w3) := (HB2.out.alloc HB2.out.size _).trans (hb3.mono (HB2.out.alloc HB2.out.size _).size)
  have hs3 : w2.heap.size + 1 ≤ w3.heap.size := by have := hb3.size; simpa using this
  have HK3 : Hid (Below w2.heap.size w2 w3) := (keep w2 _).trans (hb3.mono (by simp))
  have A3 : Hid (w3.cell? ⟨w2.heap.size, 0, none⟩ = some (.int .i64 0)) := by unfold Hid; rw [hb3.cell (by simp)]; exact cellA _ _ _
  have B3 : Hid (w3.cell? ⟨w2.heap.size, 1, none⟩ = some (.int .i64 0)) := by unfold Hid; rw [hb3.cell (by simp)]; exact cellB _ _ _
  clear hb3
  go_wp2_with fail
  refine (rtext_yes a' len' cap' qs (w3.alloc (.cells #[.int .i64 0, .int .i64 0] 32)) HL'.out hq hcap' hm' (by omega) (rowK_below HR'.out (HB3.out.alloc HB3.out.size _))).mono ?_
  rintro e w4 ⟨v4, rfl, hown4, hb4⟩
  obtain ⟨a4, cap4, rfl, hcap4, hm4, hrow4, hn4⟩ := own_row' hown4
  have HZ4 : Hid (RowK .u8 w4 a3 (flat qs)) := rowK_below (rowK_below HZ3.out (keep _ _)) hb4
  have HV4 : Hid (RowK .u8 w4 a4 (flat qs)) := hrow4
  clear hown4 hrow4 hn4
  have HB4 : Hid (Below w.heap.size w w4) := (HB3.out.alloc HB3.out.size _).trans (hb4.mono (HB3.out.alloc HB3.out.size _).size)
  have hs4 : w3.heap.size + 1 ≤ w4.heap.size := by have := hb4.size; simpa using this
  have HK4 : Hid (Below w3.heap.size w3 w4) := (keep w3 _).trans (hb4.mono (by simp))
  have A4 : Hid (w4.cell? ⟨w3.heap.size, 0, none⟩ = some (.int .i64 0)) := by unfold Hid; rw [hb4.cell (by simp)]; exact cellA _ _ _
  have B4 : Hid (w4.cell? ⟨w3.heap.size, 1, none⟩ = some (.int .i64 0)) := by unfold Hid; rw [hb4.cell (by simp)]; exact cellB _ _ _
  clear hb4
  go_wp2_with fail
  refine (alive_any _).mono ?_
  rintro e w5 ⟨rfl, hb5⟩
  have HB5 : Hid (Below w.heap.size w w5) := (HB4.out.alloc HB4.out.size _).trans (hb5.mono (HB4.out.alloc HB4.out.size _).size)
  have HK5 : Hid (Below w4.heap.size w4 w5) := (keep w4 _).trans (hb5.mono (by simp))
  have hs5 : w4.heap.size + 1 ≤ w5.heap.size := by have := hb5.size; simpa using this
  have p1 : w5.cell? ⟨w1.heap.size, 0, none⟩ = some (.int .i64 0) := by rw [HK5.out.cell (by simp; omega), HK4.out.cell (by simp; omega), HK3.out.cell (by simp; omega)]; exact A2.out
  have p2 : w5.cell? ⟨w1.heap.size, 1, none⟩ = some (.int .i64 0) := by rw [HK5.out.cell (by simp; omega), HK4.out.cell (by simp; omega), HK3.out.cell (by simp; omega)]; exact B2.out
  have p3 : w5.cell? ⟨w2.heap.size, 0, none⟩ = some (.int .i64 0) := by rw [HK5.out.cell (by simp; omega), HK4.out.cell (by simp; omega)]; exact A3.out
  have p4 : w5.cell? ⟨w2.heap.size, 1, none⟩ = some (.int .i64 0) := by rw [HK5.out.cell (by simp; omega), HK4.out.cell (by simp; omega)]; exact B3.out
  have p5 : w5.cell? ⟨w3.heap.size, 0, none⟩ = some (.int .i64 0) := by rw [HK5.out.cell (by simp; omega)]; exact A4.out
  have p6 : w5.cell? ⟨w3.heap.size, 1, none⟩ = some (.int .i64 0) := by rw [HK5.out.cell (by simp; omega)]; exact B4.out
  have p7 : w5.cell? ⟨w4.heap.size, 0, none⟩ = some (.int .i64 0) := by rw [hb5.cell (by simp)]; exact cellA _ _ _
  have p8 : w5.cell? ⟨w4.heap.size, 1, none⟩ = some (.int .i64 0) := by rw [hb5.cell (by simp)]; exact cellB _ _ _
  have HZ5 : Hid (RowK .u8 w5 a3 (flat qs)) := rowK_below HZ4.out HK5.out
  have HV5 : Hid (RowK .u8 w5 a4 (flat qs)) := rowK_below HV4.out HK5.out
  clear hb5
  go_wp2_with fail
  refine (same_any a1 a2 _ cap1 _ cap2 ps ps w5 rfl rfl (by have := flat_ge ps; have := HL.out; omega) (by have := flat_ge ps; have := HL.out; omega) (rowK_below (rowK_below (rowK_below HX2.out HK3.out) HK4.out) HK5.out) (rowK_below (rowK_below (rowK_below HY2.out HK3.out) HK4.out) HK5.out)).mono ?_
  rintro e w6 ⟨rfl, n6, rfl⟩
  rw [show (ps == ps) = true from by simp]
  have k1 : (convert 22 9 (.slice a3 (flat qs).length cap3)).run Try.prog (w5.drewN n6) = .ok (.string (strOfNums (flat qs))) (w5.drewN n6) := conv_row _ _ rfl HZ5.out
  have k2 : (convert 22 9 (.slice a4 (flat qs).length cap4)).run Try.prog (w5.drewN n6) = .ok (.string (strOfNums (flat qs))) (w5.drewN n6) := conv_row _ _ rfl HV5.out
  have HB6 : Hid (Below w.heap.size w (w5.drewN n6)) := below_drewN HB5.out n6
  go_wp2_with fail
  refine (valid_any a len cap ps [] _ (by rw [List.append_nil]; exact HL.out) hp rfl (by intro x hx; simp at hx) hcap hm (by rw [List.append_nil]; exact row_below HR.out HB6.out)).mono ?_
  rintro e w7 ⟨rfl, rfl⟩
  go_wp2_with fail
  refine (rvalid_yes a len cap ps _ HL.out hp hcap hm (by omega) (row_below HR.out HB6.out)).mono ?_
  rintro e w8 ⟨rfl, hb8⟩
  have HB8 : Hid (Below w.heap.size w w8) := HB6.out.trans (hb8.mono HB6.out.size)
  clear hb8
  go_wp2_with fail
  refine (cut_yes a len cap most ps w8 HL.out hp hcap hm (row_below HR.out HB8.out)).mono ?_
  rintro e w9 ⟨rfl, rfl⟩
  go_wp2_with fail
  refine (rcut_yes a len cap most ps w8 hmo h63 HL.out hp hcap hm (by omega) (row_below HR.out HB8.out)).mono ?_
  rintro e w10 ⟨rfl, hb10⟩
  have HB10 : Hid (Below w.heap.size w w10) := HB8.out.trans (hb10.mono HB8.out.size)
  clear hb10
  go_wp2
  go_ret
  exact ⟨rfl, HB10.out⟩

set_option maxHeartbeats 4000000 in
theorem walk_ynm (a : Option Addr) (len cap : Nat) (ps : List Int) (a' : Option Addr) (len' cap' : Nat) (qs : List Int) (q0 : Int) (t0 : List Int) (most : Int) (w : World)
    (hl : (flat ps).length = len) (hcap : len ≤ cap) (hm : cap ≤ maxLen) (hsm : len ≤ 2000) (hp : AllPt ps) (hrow : Row w a (flat ps))
    (hl' : (qs ++ q0 :: t0).length = len') (hcap' : len' ≤ cap') (hm' : cap' ≤ maxLen) (hsm' : len' ≤ 1000) (hq : AllPt qs) (hq0 : ptB q0 = false) (hrow' : RowK .i32 w a' (qs ++ q0 :: t0)) (hmo : most < 0) (h63 : most ≤ 9223372036854775807) :
    Calls Try.prog 4 #[.slice a len cap, .slice a' len' cap', .int .i64 most] w fun e w' => e = .returned (.bool true) ∧ Below w.heap.size w w' := by
  have HL : Hid ((flat ps).length = len) := hl
  have HR : Hid (Row w a (flat ps)) := hrow
  have HL' : Hid ((qs ++ q0 :: t0).length = len') := hl'
  have HR' : Hid (RowK .i32 w a' (qs ++ q0 :: t0)) := hrow'
  clear hl hl' hrow hrow'
  go_enter Try.func4, Try.ntmps4
  go_wp2_with fail
  refine (points_yes a len cap ps w HL.out hp hcap hm (by omega) HR.out).mono ?_
  rintro e w1 ⟨v1, rfl, hown1, hb1⟩
  obtain ⟨a1, cap1, rfl, hcap1, hm1, hrow1, hn1⟩ := own_row' hown1
  have HX1 : Hid (RowK .i32 w1 a1 ps) := hrow1
  have HB1 : Hid (Below w.heap.size w w1) := hb1
  clear hown1 hb1 hrow1 hn1
  go_wp2_with fail
  refine (rpoints_yes a len cap ps (w1.alloc (.cells #[.int .i64 0, .int .i64 0] 32)) HL.out hp hcap hm (by omega) (row_below HR.out (HB1.out.alloc HB1.out.size _))).mono ?_
  rintro e w2 ⟨v2, rfl, hown2, hb2⟩
  obtain ⟨a2, cap2, rfl, hcap2, hm2, hrow2, hn2⟩ := own_row' hown2
  have HX2 : Hid (RowK .i32 w2 a1 ps) := rowK_below (rowK_below HX1.out (keep _ _)) hb2
  have HY2 : Hid (RowK .i32 w2 a2 ps) := hrow2
  clear hown2 hrow2 hn2
  have HB2 : Hid (Below w.heap.size w w2) := (HB1.out.alloc HB1.out.size _).trans (hb2.mono (HB1.out.alloc HB1.out.size _).size)
  have hs2 : w1.heap.size + 1 ≤ w2.heap.size := by have := hb2.size; simpa using this
  have A2 : Hid (w2.cell? ⟨w1.heap.size, 0, none⟩ = some (.int .i64 0)) := by unfold Hid; rw [hb2.cell (by simp)]; exact cellA _ _ _
  have B2 : Hid (w2.cell? ⟨w1.heap.size, 1, none⟩ = some (.int .i64 0)) := by unfold Hid; rw [hb2.cell (by simp)]; exact cellB _ _ _
  clear hb2
  go_wp2_with fail
  refine (text_no a' len' cap' qs q0 t0 (w2.alloc (.cells #[.int .i64 0, .int .i64 0] 32)) HL'.out hq hq0 hcap' hm' (by omega) (rowK_below HR'.out (HB2.out.alloc HB2.out.size _))).mono ?_
  rintro e w3 ⟨rfl, hb3⟩
  have HB3 : Hid (Below w.heap.size w w3) := (HB2.out.alloc HB2.out.size _).trans (hb3.mono (HB2.out.alloc HB2.out.size _).size)
  have hs3 : w2.heap.size + 1 ≤ w3.heap.size := by have := hb3.size; simpa using this
  have HK3 : Hid (Below w2.heap.size w2 w3) := (keep w2 _).trans (hb3.mono (by simp))
  have A3 : Hid (w3.cell? ⟨w2.heap.size, 0, none⟩ = some (.int .i64 0)) := by unfold Hid; rw [hb3.cell (by simp)]; exact cellA _ _ _
  have B3 : Hid (w3.cell? ⟨w2.heap.size, 1, none⟩ = some (.int .i64 0)) := by unfold Hid; rw [hb3.cell (by simp)]; exact cellB _ _ _
  clear hb3
  go_wp2_with fail
  refine (rtext_no a' len' cap' qs q0 t0 (w3.alloc (.cells #[.int .i64 qs.length, .int .i64 20] 32)) HL'.out hq hq0 hcap' hm' (by omega) (rowK_below HR'.out (HB3.out.alloc HB3.out.size _))).mono ?_
  rintro e w4 ⟨rfl, hb4⟩
  have HB4 : Hid (Below w.heap.size w w4) := (HB3.out.alloc HB3.out.size _).trans (hb4.mono (HB3.out.alloc HB3.out.size _).size)
  have hs4 : w3.heap.size + 1 ≤ w4.heap.size := by have := hb4.size; simpa using this
  have HK4 : Hid (Below w3.heap.size w3 w4) := (keep w3 _).trans (hb4.mono (by simp))
  have A4 : Hid (w4.cell? ⟨w3.heap.size, 0, none⟩ = some (.int .i64 qs.length)) := by unfold Hid; rw [hb4.cell (by simp)]; exact cellA _ _ _
  have B4 : Hid (w4.cell? ⟨w3.heap.size, 1, none⟩ = some (.int .i64 20)) := by unfold Hid; rw [hb4.cell (by simp)]; exact cellB _ _ _
  clear hb4
  go_wp2_with fail
  refine (alive_any _).mono ?_
  rintro e w5 ⟨rfl, hb5⟩
  have HB5 : Hid (Below w.heap.size w w5) := (HB4.out.alloc HB4.out.size _).trans (hb5.mono (HB4.out.alloc HB4.out.size _).size)
  have HK5 : Hid (Below w4.heap.size w4 w5) := (keep w4 _).trans (hb5.mono (by simp))
  have hs5 : w4.heap.size + 1 ≤ w5.heap.size := by have := hb5.size; simpa using this
  have p1 : w5.cell? ⟨w1.heap.size, 0, none⟩ = some (.int .i64 0) := by rw [HK5.out.cell (by simp; omega), HK4.out.cell (by simp; omega), HK3.out.cell (by simp; omega)]; exact A2.out
  have p2 : w5.cell? ⟨w1.heap.size, 1, none⟩ = some (.int .i64 0) := by rw [HK5.out.cell (by simp; omega), HK4.out.cell (by simp; omega), HK3.out.cell (by simp; omega)]; exact B2.out
  have p3 : w5.cell? ⟨w2.heap.size, 0, none⟩ = some (.int .i64 0) := by rw [HK5.out.cell (by simp; omega), HK4.out.cell (by simp; omega)]; exact A3.out
  have p4 : w5.cell? ⟨w2.heap.size, 1, none⟩ = some (.int .i64 0) := by rw [HK5.out.cell (by simp; omega), HK4.out.cell (by simp; omega)]; exact B3.out
  have p5 : w5.cell? ⟨w3.heap.size, 0, none⟩ = some (.int .i64 qs.length) := by rw [HK5.out.cell (by simp; omega)]; exact A4.out
  have p6 : w5.cell? ⟨w3.heap.size, 1, none⟩ = some (.int .i64 20) := by rw [HK5.out.cell (by simp; omega)]; exact B4.out
  have p7 : w5.cell? ⟨w4.heap.size, 0, none⟩ = some (.int .i64 qs.length) := by rw [hb5.cell (by simp)]; exact cellA _ _ _
  have p8 : w5.cell? ⟨w4.heap.size, 1, none⟩ = some (.int .i64 20) := by rw [hb5.cell (by simp)]; exact cellB _ _ _
  clear hb5
  go_wp2_with fail
  refine (same_any a1 a2 _ cap1 _ cap2 ps ps w5 rfl rfl (by have := flat_ge ps; have := HL.out; omega) (by have := flat_ge ps; have := HL.out; omega) (rowK_below (rowK_below (rowK_below HX2.out HK3.out) HK4.out) HK5.out) (rowK_below (rowK_below (rowK_below HY2.out HK3.out) HK4.out) HK5.out)).mono ?_
  rintro e w6 ⟨rfl, n6, rfl⟩
  rw [show (ps == ps) = true from by simp]
  have k1 : (convert 22 9 (.slice none 0 0)).run Try.prog (w5.drewN n6) = .ok (.string (strOfNums [])) (w5.drewN n6) := conv_row _ _ rfl (.inl rfl)
  have HB6 : Hid (Below w.heap.size w (w5.drewN n6)) := below_drewN HB5.out n6
  go_wp2_with fail
  refine (valid_any a len cap ps [] _ (by rw [List.append_nil]; exact HL.out) hp rfl (by intro x hx; simp at hx) hcap hm (by rw [List.append_nil]; exact row_below HR.out HB6.out)).mono ?_
  rintro e w7 ⟨rfl, rfl⟩
  go_wp2_with fail
  refine (rvalid_yes a len cap ps _ HL.out hp hcap hm (by omega) (row_below HR.out HB6.out)).mono ?_
  rintro e w8 ⟨rfl, hb8⟩
  have HB8 : Hid (Below w.heap.size w w8) := HB6.out.trans (hb8.mono HB6.out.size)
  clear hb8
  go_wp2_with fail
  refine (cut_yes a len cap most ps w8 HL.out hp hcap hm (row_below HR.out HB8.out)).mono ?_
  rintro e w9 ⟨rfl, rfl⟩
  rw [show cutZ (flat ps) (m0Z most len) = 0 from by rw [show m0Z most len = 0 from by unfold m0Z; omega]; rfl]
  go_wp2_with fail
  refine (rcut_neg a len cap most w8 hmo).mono ?_
  rintro e w10 ⟨rfl, rfl⟩
  go_wp2
  go_ret
  exact ⟨rfl, HB8.out⟩

set_option maxHeartbeats 4000000 in
theorem walk_ynp (a : Option Addr) (len cap : Nat) (ps : List Int) (a' : Option Addr) (len' cap' : Nat) (qs : List Int) (q0 : Int) (t0 : List Int) (most : Int) (w : World)
    (hl : (flat ps).length = len) (hcap : len ≤ cap) (hm : cap ≤ maxLen) (hsm : len ≤ 2000) (hp : AllPt ps) (hrow : Row w a (flat ps))
    (hl' : (qs ++ q0 :: t0).length = len') (hcap' : len' ≤ cap') (hm' : cap' ≤ maxLen) (hsm' : len' ≤ 1000) (hq : AllPt qs) (hq0 : ptB q0 = false) (hrow' : RowK .i32 w a' (qs ++ q0 :: t0)) (hmo : 0 ≤ most) (h63 : most ≤ 9223372036854775807) :
    Calls Try.prog 4 #[.slice a len cap, .slice a' len' cap', .int .i64 most] w fun e w' => e = .returned (.bool true) ∧ Below w.heap.size w w' := by
  have HL : Hid ((flat ps).length = len) := hl
  have HR : Hid (Row w a (flat ps)) := hrow
  have HL' : Hid ((qs ++ q0 :: t0).length = len') := hl'
  have HR' : Hid (RowK .i32 w a' (qs ++ q0 :: t0)) := hrow'
  clear hl hl' hrow hrow'
  go_enter Try.func4, Try.ntmps4
  go_wp2_with fail
  refine (points_yes a len cap ps w HL.out hp hcap hm (by omega) HR.out).mono ?_
  rintro e w1 ⟨v1, rfl, hown1, hb1⟩
  obtain ⟨a1, cap1, rfl, hcap1, hm1, hrow1, hn1⟩ := own_row' hown1
  have HX1 : Hid (RowK .i32 w1 a1 ps) := hrow1
  have HB1 : Hid (Below w.heap.size w w1) := hb1
  clear hown1 hb1 hrow1 hn1
  go_wp2_with fail
  refine (rpoints_yes a len cap ps (w1.alloc (.cells #[.int .i64 0, .int .i64 0] 32)) HL.out hp hcap hm (by omega) (row_below HR.out (HB1.out.alloc HB1.out.size _))).mono ?_
  rintro e w2 ⟨v2, rfl, hown2, hb2⟩
  obtain ⟨a2, cap2, rfl, hcap2, hm2, hrow2, hn2⟩ := own_row' hown2
  have HX2 : Hid (RowK .i32 w2 a1 ps) := rowK_below (rowK_below HX1.out (keep _ _)) hb2
  have HY2 : Hid (RowK .i32 w2 a2 ps) := hrow2
  clear hown2 hrow2 hn2
  have HB2 : Hid (Below w.heap.size w w2) := (HB1.out.alloc HB1.out.size _).trans (hb2.mono (HB1.out.alloc HB1.out.size _).size)
  have hs2 : w1.heap.size + 1 ≤ w2.heap.size := by have := hb2.size; simpa using this
  have A2 : Hid (w2.cell? ⟨w1.heap.size, 0, none⟩ = some (.int .i64 0)) := by unfold Hid; rw [hb2.cell (by simp)]; exact cellA _ _ _
  have B2 : Hid (w2.cell? ⟨w1.heap.size, 1, none⟩ = some (.int .i64 0)) := by unfold Hid; rw [hb2.cell (by simp)]; exact cellB _ _ _
  clear hb2
  go_wp2_with fail
  refine (text_no a' len' cap' qs q0 t0 (w2.alloc (.cells #[.int .i64 0, .int .i64 0] 32)) HL'.out hq hq0 hcap' hm' (by omega) (rowK_below HR'.out (HB2.out.alloc HB2.out.size _))).mono ?_
  rintro e w3 ⟨rfl, hb3⟩
  have HB3 : Hid (Below w.heap.size w w3) := (HB2.out.alloc HB2.out.size _).trans (hb3.mono (HB2.out.alloc HB2.out.size _).size)
  have hs3 : w2.heap.size + 1 ≤ w3.heap.size := by have := hb3.size; simpa using this
  have HK3 : Hid (Below w2.heap.size w2 w3) := (keep w2 _).trans (hb3.mono (by simp))
  have A3 : Hid (w3.cell? ⟨w2.heap.size, 0, none⟩ = some (.int .i64 0)) := by unfold Hid; rw [hb3.cell (by simp)]; exact cellA _ _ _
  have B3 : Hid (w3.cell? ⟨w2.heap.size, 1, none⟩ = some (.int .i64 0)) := by unfold Hid; rw [hb3.cell (by simp)]; exact cellB _ _ _
  clear hb3
  go_wp2_with fail
  refine (rtext_no a' len' cap' qs q0 t0 (w3.alloc (.cells #[.int .i64 qs.length, .int .i64 20] 32)) HL'.out hq hq0 hcap' hm' (by omega) (rowK_below HR'.out (HB3.out.alloc HB3.out.size _))).mono ?_
  rintro e w4 ⟨rfl, hb4⟩
  have HB4 : Hid (Below w.heap.size w w4) := (HB3.out.alloc HB3.out.size _).trans (hb4.mono (HB3.out.alloc HB3.out.size _).size)
  have hs4 : w3.heap.size + 1 ≤ w4.heap.size := by have := hb4.size; simpa using this
  have HK4 : Hid (Below w3.heap.size w3 w4) := (keep w3 _).trans (hb4.mono (by simp))
  have A4 : Hid (w4.cell? ⟨w3.heap.size, 0, none⟩ = some (.int .i64 qs.length)) := by unfold Hid; rw [hb4.cell (by simp)]; exact cellA _ _ _
  have B4 : Hid (w4.cell? ⟨w3.heap.size, 1, none⟩ = some (.int .i64 20)) := by unfold Hid; rw [hb4.cell (by simp)]; exact cellB _ _ _
  clear hb4
  go_wp2_with fail
  refine (alive_any _).mono ?_
  rintro e w5 ⟨rfl, hb5⟩
  have HB5 : Hid (Below w.heap.size w w5) := (HB4.out.alloc HB4.out.size _).trans (hb5.mono (HB4.out.alloc HB4.out.size _).size)
  have HK5 : Hid (Below w4.heap.size w4 w5) := (keep w4 _).trans (hb5.mono (by simp))
  have hs5 : w4.heap.size + 1 ≤ w5.heap.size := by have := hb5.size; simpa using this
  have p1 : w5.cell? ⟨w1.heap.size, 0, none⟩ = some (.int .i64 0) := by rw [HK5.out.cell (by simp; omega), HK4.out.cell (by simp; omega), HK3.out.cell (by simp; omega)]; exact A2.out
  have p2 : w5.cell? ⟨w1.heap.size, 1, none⟩ = some (.int .i64 0) := by rw [HK5.out.cell (by simp; omega), HK4.out.cell (by simp; omega), HK3.out.cell (by simp; omega)]; exact B2.out
  have p3 : w5.cell? ⟨w2.heap.size, 0, none⟩ = some (.int .i64 0) := by rw [HK5.out.cell (by simp; omega), HK4.out.cell (by simp; omega)]; exact A3.out
  have p4 : w5.cell? ⟨w2.heap.size, 1, none⟩ = some (.int .i64 0) := by rw [HK5.out.cell (by simp; omega), HK4.out.cell (by simp; omega)]; exact B3.out
  have p5 : w5.cell? ⟨w3.heap.size, 0, none⟩ = some (.int .i64 qs.length) := by rw [HK5.out.cell (by simp; omega)]; exact A4.out
  have p6 : w5.cell? ⟨w3.heap.size, 1, none⟩ = some (.int .i64 20) := by rw [HK5.out.cell (by simp; omega)]; exact B4.out
  have p7 : w5.cell? ⟨w4.heap.size, 0, none⟩ = some (.int .i64 qs.length) := by rw [hb5.cell (by simp)]; exact cellA _ _ _
  have p8 : w5.cell? ⟨w4.heap.size, 1, none⟩ = some (.int .i64 20) := by rw [hb5.cell (by simp)]; exact cellB _ _ _
  clear hb5
  go_wp2_with fail
  refine (same_any a1 a2 _ cap1 _ cap2 ps ps w5 rfl rfl (by have := flat_ge ps; have := HL.out; omega) (by have := flat_ge ps; have := HL.out; omega) (rowK_below (rowK_below (rowK_below HX2.out HK3.out) HK4.out) HK5.out) (rowK_below (rowK_below (rowK_below HY2.out HK3.out) HK4.out) HK5.out)).mono ?_
  rintro e w6 ⟨rfl, n6, rfl⟩
  rw [show (ps == ps) = true from by simp]
  have k1 : (convert 22 9 (.slice none 0 0)).run Try.prog (w5.drewN n6) = .ok (.string (strOfNums [])) (w5.drewN n6) := conv_row _ _ rfl (.inl rfl)
  have HB6 : Hid (Below w.heap.size w (w5.drewN n6)) := below_drewN HB5.out n6
  go_wp2_with fail
  refine (valid_any a len cap ps [] _ (by rw [List.append_nil]; exact HL.out) hp rfl (by intro x hx; simp at hx) hcap hm (by rw [List.append_nil]; exact row_below HR.out HB6.out)).mono ?_
  rintro e w7 ⟨rfl, rfl⟩
  go_wp2_with fail
  refine (rvalid_yes a len cap ps _ HL.out hp hcap hm (by omega) (row_below HR.out HB6.out)).mono ?_
  rintro e w8 ⟨rfl, hb8⟩
  have HB8 : Hid (Below w.heap.size w w8) := HB6.out.trans (hb8.mono HB6.out.size)
  clear hb8
  go_wp2_with fail
  refine (cut_yes a len cap most ps w8 HL.out hp hcap hm (row_below HR.out HB8.out)).mono ?_
  rintro e w9 ⟨rfl, rfl⟩
  go_wp2_with fail
  refine (rcut_yes a len cap most ps w8 hmo h63 HL.out hp hcap hm (by omega) (row_below HR.out HB8.out)).mono ?_
  rintro e w10 ⟨rfl, hb10⟩
  have HB10 : Hid (Below w.heap.size w w10) := HB8.out.trans (hb10.mono HB8.out.size)
  clear hb10
  go_wp2
  go_ret
  exact ⟨rfl, HB10.out⟩

set_option maxHeartbeats 4000000 in
theorem walk_nym (a : Option Addr) (len cap : Nat) (ps : List Int) (r : List Int) (a' : Option Addr) (len' cap' : Nat) (qs : List Int) (most : Int) (w : World)
    (hl : (flat ps ++ r).length = len) (hcap : len ≤ cap) (hm : cap ≤ maxLen) (hsm : len ≤ 2000) (hp : AllPt ps) (hr : decZ r = none) (hne : r ≠ []) (hby : Byt r) (hrow : Row w a (flat ps ++ r))
    (hl' : qs.length = len') (hcap' : len' ≤ cap') (hm' : cap' ≤ maxLen) (hsm' : len' ≤ 1000) (hq : AllPt qs) (hrow' : RowK .i32 w a' qs) (hmo : most < 0) (h63 : most ≤ 9223372036854775807) :
    Calls Try.prog 4 #[.slice a len cap, .slice a' len' cap', .int .i64 most] w fun e w' => e = .returned (.bool true) ∧ Below w.heap.size w w' := by
  have HL : Hid ((flat ps ++ r).length = len) := hl
  have HR : Hid (Row w a (flat ps ++ r)) := hrow
  have HL' : Hid (qs.length = len') := hl'
  have HR' : Hid (RowK .i32 w a' qs) := hrow'
  clear hl hl' hrow hrow'
  go_enter Try.func4, Try.ntmps4
  go_wp2_with fail
  refine (points_no a len cap ps r w HL.out hp hr hne hby hcap hm (by omega) HR.out).mono ?_
  rintro e w1 ⟨rfl, hb1⟩
  have HB1 : Hid (Below w.heap.size w w1) := hb1
  clear hb1
  go_wp2_with fail
  refine (rpoints_no a len cap ps r (w1.alloc (.cells #[.int .i64 (flat ps).length, .int .i64 20] 32)) HL.out hp hr hne hby hcap hm (by omega) (row_below HR.out (HB1.out.alloc HB1.out.size _))).mono ?_
  rintro e w2 ⟨rfl, hb2⟩
  have HB2 : Hid (Below w.heap.size w w2) := (HB1.out.alloc HB1.out.size _).trans (hb2.mono (HB1.out.alloc HB1.out.size _).size)
  have hs2 : w1.heap.size + 1 ≤ w2.heap.size := by have := hb2.size; simpa using this
  have A2 : Hid (w2.cell? ⟨w1.heap.size, 0, none⟩ = some (.int .i64 (flat ps).length)) := by unfold Hid; rw [hb2.cell (by simp)]; exact cellA _ _ _
  have B2 : Hid (w2.cell? ⟨w1.heap.size, 1, none⟩ = some (.int .i64 20)) := by unfold Hid; rw [hb2.cell (by simp)]; exact cellB _ _ _
  clear hb2
  go_wp2_with fail
  refine (text_yes a' len' cap' qs (w2.alloc (.cells #[.int .i64 (flat ps).length, .int .i64 20] 32)) HL'.out hq hcap' hm' (by omega) (rowK_below HR'.out (HB2.out.alloc HB2.out.size _))).mono ?_
  rintro e w3 ⟨v3, rfl, hown3, hb3⟩
  obtain ⟨a3, cap3, rfl, hcap3, hm3, hrow3, hn3⟩ := own_row' hown3
  have HZ3 : Hid (RowK .u8 w3 a3 (flat qs)) := hrow3
  clear hown3 hrow3 hn3
  have HB3 : Hid (Below w.heap.size w w3) := (HB2.out.alloc HB2.out.size _).trans (hb3.mono (HB2.out.alloc HB2.out.size _).size)
  have hs3 : w2.heap.size + 1 ≤ w3.heap.size := by have := hb3.size; simpa using this
  have HK3 : Hid (Below w2.heap.size w2 w3) := (keep w2 _).trans (hb3.mono (by simp))
  have A3 : Hid (w3.cell? ⟨w2.heap.size, 0, none⟩ = some (.int .i64 (flat ps).length)) := by unfold Hid; rw [hb3.cell (by simp)]; exact cellA _ _ _
  have B3 : Hid (w3.cell? ⟨w2.heap.size, 1, none⟩ = some (.int .i64 20)) := by unfold Hid; rw [hb3.cell (by simp)]; exact cellB _ _ _
  clear hb3
  go_wp2_with fail
  refine (rtext_yes a' len' cap' qs (w3.alloc (.cells #[.int .i64 0, .int .i64 0] 32)) HL'.out hq hcap' hm' (by omega) (rowK_below HR'.out (HB3.out.alloc HB3.out.size _))).mono ?_
  rintro e w4 ⟨v4, rfl, hown4, hb4⟩
  obtain ⟨a4, cap4, rfl, hcap4, hm4, hrow4, hn4⟩ := own_row' hown4
  have HZ4 : Hid (RowK .u8 w4 a3 (flat qs)) := rowK_below (rowK_below HZ3.out (keep _ _)) hb4
  have HV4 : Hid (RowK .u8 w4 a4 (flat qs)) := hrow4
  clear hown4 hrow4 hn4
  have HB4 : Hid (Below w.heap.size w w4) := (HB3.out.alloc HB3.out.size _).trans (hb4.mono (HB3.out.alloc HB3.out.size _).size)
  have hs4 : w3.heap.size + 1 ≤ w4.heap.size := by have := hb4.size; simpa using this
  have HK4 : Hid (Below w3.heap.size w3 w4) := (keep w3 _).trans (hb4.mono (by simp))
  have A4 : Hid (w4.cell? ⟨w3.heap.size, 0, none⟩ = some (.int .i64 0)) := by unfold Hid; rw [hb4.cell (by simp)]; exact cellA _ _ _
  have B4 : Hid (w4.cell? ⟨w3.heap.size, 1, none⟩ = some (.int .i64 0)) := by unfold Hid; rw [hb4.cell (by simp)]; exact cellB _ _ _
  clear hb4
  go_wp2_with fail
  refine (alive_any _).mono ?_
  rintro e w5 ⟨rfl, hb5⟩
  have HB5 : Hid (Below w.heap.size w w5) := (HB4.out.alloc HB4.out.size _).trans (hb5.mono (HB4.out.alloc HB4.out.size _).size)
  have HK5 : Hid (Below w4.heap.size w4 w5) := (keep w4 _).trans (hb5.mono (by simp))
  have hs5 : w4.heap.size + 1 ≤ w5.heap.size := by have := hb5.size; simpa using this
  have p1 : w5.cell? ⟨w1.heap.size, 0, none⟩ = some (.int .i64 (flat ps).length) := by rw [HK5.out.cell (by simp; omega), HK4.out.cell (by simp; omega), HK3.out.cell (by simp; omega)]; exact A2.out
  have p2 : w5.cell? ⟨w1.heap.size, 1, none⟩ = some (.int .i64 20) := by rw [HK5.out.cell (by simp; omega), HK4.out.cell (by simp; omega), HK3.out.cell (by simp; omega)]; exact B2.out
  have p3 : w5.cell? ⟨w2.heap.size, 0, none⟩ = some (.int .i64 (flat ps).length) := by rw [HK5.out.cell (by simp; omega), HK4.out.cell (by simp; omega)]; exact A3.out
  have p4 : w5.cell? ⟨w2.heap.size, 1, none⟩ = some (.int .i64 20) := by rw [HK5.out.cell (by simp; omega), HK4.out.cell (by simp; omega)]; exact B3.out
  have p5 : w5.cell? ⟨w3.heap.size, 0, none⟩ = some (.int .i64 0) := by rw [HK5.out.cell (by simp; omega)]; exact A4.out
  have p6 : w5.cell? ⟨w3.heap.size, 1, none⟩ = some (.int .i64 0) := by rw [HK5.out.cell (by simp; omega)]; exact B4.out
  have p7 : w5.cell? ⟨w4.heap.size, 0, none⟩ = some (.int .i64 0) := by rw [hb5.cell (by simp)]; exact cellA _ _ _
  have p8 : w5.cell? ⟨w4.heap.size, 1, none⟩ = some (.int .i64 0) := by rw [hb5.cell (by simp)]; exact cellB _ _ _
  have HZ5 : Hid (RowK .u8 w5 a3 (flat qs)) := rowK_below HZ4.out HK5.out
  have HV5 : Hid (RowK .u8 w5 a4 (flat qs)) := rowK_below HV4.out HK5.out
  clear hb5
  go_wp2_with fail
  refine (same_any none none 0 0 0 0 [] [] w5 rfl rfl (by omega) (by omega) (.inl rfl) (.inl rfl)).mono ?_
  rintro e w6 ⟨rfl, n6, rfl⟩
  have k1 : (convert 22 9 (.slice a3 (flat qs).length cap3)).run Try.prog (w5.drewN n6) = .ok (.string (strOfNums (flat qs))) (w5.drewN n6) := conv_row _ _ rfl HZ5.out
  have k2 : (convert 22 9 (.slice a4 (flat qs).length cap4)).run Try.prog (w5.drewN n6) = .ok (.string (strOfNums (flat qs))) (w5.drewN n6) := conv_row _ _ rfl HV5.out
  have HB6 : Hid (Below w.heap.size w (w5.drewN n6)) := below_drewN HB5.out n6
  go_wp2_with fail
  refine (valid_any a len cap ps r _ HL.out hp hr hby hcap hm (row_below HR.out HB6.out)).mono ?_
  rintro e w7 ⟨rfl, rfl⟩
  rw [List.isEmpty_eq_false_iff.2 hne]
  go_wp2_with fail
  refine (rvalid_no a len cap ps r _ HL.out hp hr hne hby hcap hm (by omega) (row_below HR.out HB6.out)).mono ?_
  rintro e w8 ⟨rfl, hb8⟩
  have HB8 : Hid (Below w.heap.size w w8) := HB6.out.trans (hb8.mono HB6.out.size)
  clear hb8
  go_wp2_with fail
  refine (cut_no a len cap most ps r w8 HL.out hp hr hne hby hcap hm (row_below HR.out HB8.out)).mono ?_
  rintro e w9 ⟨rfl, rfl⟩
  rw [show m0Z most len = 0 from by unfold m0Z; omega]
  go_wp2_with fail
  refine (rcut_neg a len cap most w8 hmo).mono ?_
  rintro e w10 ⟨rfl, rfl⟩
  go_wp2
  go_ret
  exact ⟨rfl, HB8.out⟩

set_option maxHeartbeats 4000000 in
theorem walk_nyp (a : Option Addr) (len cap : Nat) (ps : List Int) (r : List Int) (a' : Option Addr) (len' cap' : Nat) (qs : List Int) (most : Int) (w : World)
    (hl : (flat ps ++ r).length = len) (hcap : len ≤ cap) (hm : cap ≤ maxLen) (hsm : len ≤ 2000) (hp : AllPt ps) (hr : decZ r = none) (hne : r ≠ []) (hby : Byt r) (hrow : Row w a (flat ps ++ r))
    (hl' : qs.length = len') (hcap' : len' ≤ cap') (hm' : cap' ≤ maxLen) (hsm' : len' ≤ 1000) (hq : AllPt qs) (hrow' : RowK .i32 w a' qs) (hmo : 0 ≤ most) (h63 : most ≤ 9223372036854775807) :
    Calls Try.prog 4 #[.slice a len cap, .slice a' len' cap', .int .i64 most] w fun e w' => e = .returned (.bool true) ∧ Below w.heap.size w w' := by
  have HL : Hid ((flat ps ++ r).length = len) := hl
  have HR : Hid (Row w a (flat ps ++ r)) := hrow
  have HL' : Hid (qs.length = len') := hl'
  have HR' : Hid (RowK .i32 w a' qs) := hrow'
  clear hl hl' hrow hrow'
  go_enter Try.func4, Try.ntmps4
  go_wp2_with fail
  refine (points_no a len cap ps r w HL.out hp hr hne hby hcap hm (by omega) HR.out).mono ?_
  rintro e w1 ⟨rfl, hb1⟩
  have HB1 : Hid (Below w.heap.size w w1) := hb1
  clear hb1
  go_wp2_with fail
  refine (rpoints_no a len cap ps r (w1.alloc (.cells #[.int .i64 (flat ps).length, .int .i64 20] 32)) HL.out hp hr hne hby hcap hm (by omega) (row_below HR.out (HB1.out.alloc HB1.out.size _))).mono ?_
  rintro e w2 ⟨rfl, hb2⟩
  have HB2 : Hid (Below w.heap.size w w2) := (HB1.out.alloc HB1.out.size _).trans (hb2.mono (HB1.out.alloc HB1.out.size _).size)
  have hs2 : w1.heap.size + 1 ≤ w2.heap.size := by have := hb2.size; simpa using this
  have A2 : Hid (w2.cell? ⟨w1.heap.size, 0, none⟩ = some (.int .i64 (flat ps).length)) := by unfold Hid; rw [hb2.cell (by simp)]; exact cellA _ _ _
  have B2 : Hid (w2.cell? ⟨w1.heap.size, 1, none⟩ = some (.int .i64 20)) := by unfold Hid; rw [hb2.cell (by simp)]; exact cellB _ _ _
  clear hb2
  go_wp2_with fail
  refine (text_yes a' len' cap' qs (w2.alloc (.cells #[.int .i64 (flat ps).length, .int .i64 20] 32)) HL'.out hq hcap' hm' (by omega) (rowK_below HR'.out (HB2.out.alloc HB2.out.size _))).mono ?_
  rintro e w3 ⟨v3, rfl, hown3, hb3⟩
  obtain ⟨a3, cap3, rfl, hcap3, hm3, hrow3, hn3⟩ := own_row' hown3
  have HZ3 : Hid (RowK .u8 w3 a3 (flat qs)) := hrow3
  clear hown3 hrow3 hn3
  have HB3 : Hid (Below w.heap.size w w3) := (HB2.out.alloc HB2.out.size _).trans (hb3.mono (HB2.out.alloc HB2.out.size _).size)
  have hs3 : w2.heap.size + 1 ≤ w3.heap.size := by have := hb3.size; simpa using this
  have HK3 : Hid (Below w2.heap.size w2 w3) := (keep w2 _).trans (hb3.mono (by simp))
  have A3 : Hid (w3.cell? ⟨w2.heap.size, 0, none⟩ = some (.int .i64 (flat ps).length)) := by unfold Hid; rw [hb3.cell (by simp)]; exact cellA _ _ _
  have B3 : Hid (w3.cell? ⟨w2.heap.size, 1, none⟩ = some (.int .i64 20)) := by unfold Hid; rw [hb3.cell (by simp)]; exact cellB _ _ _
  clear hb3
  go_wp2_with fail
  refine (rtext_yes a' len' cap' qs (w3.alloc (.cells #[.int .i64 0, .int .i64 0] 32)) HL'.out hq hcap' hm' (by omega) (rowK_below HR'.out (HB3.out.alloc HB3.out.size _))).mono ?_
  rintro e w4 ⟨v4, rfl, hown4, hb4⟩
  obtain ⟨a4, cap4, rfl, hcap4, hm4, hrow4, hn4⟩ := own_row' hown4
  have HZ4 : Hid (RowK .u8 w4 a3 (flat qs)) := rowK_below (rowK_below HZ3.out (keep _ _)) hb4
  have HV4 : Hid (RowK .u8 w4 a4 (flat qs)) := hrow4
  clear hown4 hrow4 hn4
  have HB4 : Hid (Below w.heap.size w w4) := (HB3.out.alloc HB3.out.size _).trans (hb4.mono (HB3.out.alloc HB3.out.size _).size)
  have hs4 : w3.heap.size + 1 ≤ w4.heap.size := by have := hb4.size; simpa using this
  have HK4 : Hid (Below w3.heap.size w3 w4) := (keep w3 _).trans (hb4.mono (by simp))
  have A4 : Hid (w4.cell? ⟨w3.heap.size, 0, none⟩ = some (.int .i64 0)) := by unfold Hid; rw [hb4.cell (by simp)]; exact cellA _ _ _
  have B4 : Hid (w4.cell? ⟨w3.heap.size, 1, none⟩ = some (.int .i64 0)) := by unfold Hid; rw [hb4.cell (by simp)]; exact cellB _ _ _
  clear hb4
  go_wp2_with fail
  refine (alive_any _).mono ?_
  rintro e w5 ⟨rfl, hb5⟩
  have HB5 : Hid (Below w.heap.size w w5) := (HB4.out.alloc HB4.out.size _).trans (hb5.mono (HB4.out.alloc HB4.out.size _).size)
  have HK5 : Hid (Below w4.heap.size w4 w5) := (keep w4 _).trans (hb5.mono (by simp))
  have hs5 : w4.heap.size + 1 ≤ w5.heap.size := by have := hb5.size; simpa using this
  have p1 : w5.cell? ⟨w1.heap.size, 0, none⟩ = some (.int .i64 (flat ps).length) := by rw [HK5.out.cell (by simp; omega), HK4.out.cell (by simp; omega), HK3.out.cell (by simp; omega)]; exact A2.out
  have p2 : w5.cell? ⟨w1.heap.size, 1, none⟩ = some (.int .i64 20) := by rw [HK5.out.cell (by simp; omega), HK4.out.cell (by simp; omega), HK3.out.cell (by simp; omega)]; exact B2.out
  have p3 : w5.cell? ⟨w2.heap.size, 0, none⟩ = some (.int .i64 (flat ps).length) := by rw [HK5.out.cell (by simp; omega), HK4.out.cell (by simp; omega)]; exact A3.out
  have p4 : w5.cell? ⟨w2.heap.size, 1, none⟩ = some (.int .i64 20) := by rw [HK5.out.cell (by simp; omega), HK4.out.cell (by simp; omega)]; exact B3.out
  have p5 : w5.cell? ⟨w3.heap.size, 0, none⟩ = some (.int .i64 0) := by rw [HK5.out.cell (by simp; omega)]; exact A4.out
  have p6 : w5.cell? ⟨w3.heap.size, 1, none⟩ = some (.int .i64 0) := by rw [HK5.out.cell (by simp; omega)]; exact B4.out
  have p7 : w5.cell? ⟨w4.heap.size, 0, none⟩ = some (.int .i64 0) := by rw [hb5.cell (by simp)]; exact cellA _ _ _
  have p8 : w5.cell? ⟨w4.heap.size, 1, none⟩ = some (.int .i64 0) := by rw [hb5.cell (by simp)]; exact cellB _ _ _
  have HZ5 : Hid (RowK .u8 w5 a3 (flat qs)) := rowK_below HZ4.out HK5.out
  have HV5 : Hid (RowK .u8 w5 a4 (flat qs)) := rowK_below HV4.out HK5.out
  clear hb5
  go_wp2_with fail
  refine (same_any none none 0 0 0 0 [] [] w5 rfl rfl (by omega) (by omega) (.inl rfl) (.inl rfl)).mono ?_
  rintro e w6 ⟨rfl, n6, rfl⟩
  have k1 : (convert 22 9 (.slice a3 (flat qs).length cap3)).run Try.prog (w5.drewN n6) = .ok (.string (strOfNums (flat qs))) (w5.drewN n6) := conv_row _ _ rfl HZ5.out
  have k2 : (convert 22 9 (.slice a4 (flat qs).length cap4)).run Try.prog (w5.drewN n6) = .ok (.string (strOfNums (flat qs))) (w5.drewN n6) := conv_row _ _ rfl HV5.out
  have HB6 : Hid (Below w.heap.size w (w5.drewN n6)) := below_drewN HB5.out n6
  go_wp2_with fail
  refine (valid_any a len cap ps r _ HL.out hp hr hby hcap hm (row_below HR.out HB6.out)).mono ?_
  rintro e w7 ⟨rfl, rfl⟩
  rw [List.isEmpty_eq_false_iff.2 hne]
  go_wp2_with fail
  refine (rvalid_no a len cap ps r _ HL.out hp hr hne hby hcap hm (by omega) (row_below HR.out HB6.out)).mono ?_
  rintro e w8 ⟨rfl, hb8⟩
  have HB8 : Hid (Below w.heap.size w w8) := HB6.out.trans (hb8.mono HB6.out.size)
  clear hb8
  go_wp2_with fail
  refine (cut_no a len cap most ps r w8 HL.out hp hr hne hby hcap hm (row_below HR.out HB8.out)).mono ?_
  rintro e w9 ⟨rfl, rfl⟩
  go_wp2_with fail
  refine (rcut_no a len cap most ps r w8 hmo HL.out hp hr hne hby hcap hm (by omega) (row_below HR.out HB8.out)).mono ?_
  rintro e w10 ⟨rfl, hb10⟩
  have HB10 : Hid (Below w.heap.size w w10) := HB8.out.trans (hb10.mono HB8.out.size)
  clear hb10
  go_wp2
  go_ret
  exact ⟨rfl, HB10.out⟩

set_option maxHeartbeats 4000000 in
theorem walk_nnm (a : Option Addr) (len cap : Nat) (ps : List Int) (r : List Int) (a' : Option Addr) (len' cap' : Nat) (qs : List Int) (q0 : Int) (t0 : List Int) (most : Int) (w : World)
    (hl : (flat ps ++ r).length = len) (hcap : len ≤ cap) (hm : cap ≤ maxLen) (hsm : len ≤ 2000) (hp : AllPt ps) (hr : decZ r = none) (hne : r ≠ []) (hby : Byt r) (hrow : Row w a (flat ps ++ r))
    (hl' : (qs ++ q0 :: t0).length = len') (hcap' : len' ≤ cap') (hm' : cap' ≤ maxLen) (hsm' : len' ≤ 1000) (hq : AllPt qs) (hq0 : ptB q0 = false) (hrow' : RowK .i32 w a' (qs ++ q0 :: t0)) (hmo : most < 0) (h63 : most ≤ 9223372036854775807) :
    Calls Try.prog 4 #[.slice a len cap, .slice a' len' cap', .int .i64 most] w fun e w' => e = .returned (.bool true) ∧ Below w.heap.size w w' := by
  have HL : Hid ((flat ps ++ r).length = len) := hl
  have HR : Hid (Row w a (flat ps ++ r)) := hrow
  have HL' : Hid ((qs ++ q0 :: t0).length = len') := hl'
  have HR' : Hid (RowK .i32 w a' (qs ++ q0 :: t0)) := hrow'
  clear hl hl' hrow hrow'
  go_enter Try.func4, Try.ntmps4
  go_wp2_with fail
  refine (points_no a len cap ps r w HL.out hp hr hne hby hcap hm (by omega) HR.out).mono ?_
  rintro e w1 ⟨rfl, hb1⟩
  have HB1 : Hid (Below w.heap.size w w1) := hb1
  clear hb1
  go_wp2_with fail
  refine (rpoints_no a len cap ps r (w1.alloc (.cells #[.int .i64 (flat ps).length, .int .i64 20] 32)) HL.out hp hr hne hby hcap hm (by omega) (row_below HR.out (HB1.out.alloc HB1.out.size _))).mono ?_
  rintro e w2 ⟨rfl, hb2⟩
  have HB2 : Hid (Below w.heap.size w w2) := (HB1.out.alloc HB1.out.size _).trans (hb2.mono (HB1.out.alloc HB1.out.size _).size)
  have hs2 : w1.heap.size + 1 ≤ w2.heap.size := by have := hb2.size; simpa using this
  have A2 : Hid (w2.cell? ⟨w1.heap.size, 0, none⟩ = some (.int .i64 (flat ps).length)) := by unfold Hid; rw [hb2.cell (by simp)]; exact cellA _ _ _
  have B2 : Hid (w2.cell? ⟨w1.heap.size, 1, none⟩ = some (.int .i64 20)) := by unfold Hid; rw [hb2.cell (by simp)]; exact cellB _ _ _
  clear hb2
  go_wp2_with fail
  refine (text_no a' len' cap' qs q0 t0 (w2.alloc (.cells #[.int .i64 (flat ps).length, .int .i64 20] 32)) HL'.out hq hq0 hcap' hm' (by omega) (rowK_below HR'.out (HB2.out.alloc HB2.out.size _))).mono ?_
  rintro e w3 ⟨rfl, hb3⟩
  have HB3 : Hid (Below w.heap.size w w3) := (HB2.out.alloc HB2.out.size _).trans (hb3.mono (HB2.out.alloc HB2.out.size _).size)
  have hs3 : w2.heap.size + 1 ≤ w3.heap.size := by have := hb3.size; simpa using this
  have HK3 : Hid (Below w2.heap.size w2 w3) := (keep w2 _).trans (hb3.mono (by simp))
  have A3 : Hid (w3.cell? ⟨w2.heap.size, 0, none⟩ = some (.int .i64 (flat ps).length)) := by unfold Hid; rw [hb3.cell (by simp)]; exact cellA _ _ _
  have B3 : Hid (w3.cell? ⟨w2.heap.size, 1, none⟩ = some (.int .i64 20)) := by unfold Hid; rw [hb3.cell (by simp)]; exact cellB _ _ _
  clear hb3
  go_wp2_with fail
  refine (rtext_no a' len' cap' qs q0 t0 (w3.alloc (.cells #[.int .i64 qs.length, .int .i64 20] 32)) HL'.out hq hq0 hcap' hm' (by omega) (rowK_below HR'.out (HB3.out.alloc HB3.out.size _))).mono ?_
  rintro e w4 ⟨rfl, hb4⟩
  have HB4 : Hid (Below w.heap.size w w4) := (HB3.out.alloc HB3.out.size _).trans (hb4.mono (HB3.out.alloc HB3.out.size _).size)
  have hs4 : w3.heap.size + 1 ≤ w4.heap.size := by have := hb4.size; simpa using this
  have HK4 : Hid (Below w3.heap.size w3 w4) := (keep w3 _).trans (hb4.mono (by simp))
  have A4 : Hid (w4.cell? ⟨w3.heap.size, 0, none⟩ = some (.int .i64 qs.length)) := by unfold Hid; rw [hb4.cell (by simp)]; exact cellA _ _ _
  have B4 : Hid (w4.cell? ⟨w3.heap.size, 1, none⟩ = some (.int .i64 20)) := by unfold Hid; rw [hb4.cell (by simp)]; exact cellB _ _ _
  clear hb4
  go_wp2_with fail
  refine (alive_any _).mono ?_
  rintro e w5 ⟨rfl, hb5⟩
  have HB5 : Hid (Below w.heap.size w w5) := (HB4.out.alloc HB4.out.size _).trans (hb5.mono (HB4.out.alloc HB4.out.size _).size)
  have HK5 : Hid (Below w4.heap.size w4 w5) := (keep w4 _).trans (hb5.mono (by simp))
  have hs5 : w4.heap.size + 1 ≤ w5.heap.size := by have := hb5.size; simpa using this
  have p1 : w5.cell? ⟨w1.heap.size, 0, none⟩ = some (.int .i64 (flat ps).length) := by rw [HK5.out.cell (by simp; omega), HK4.out.cell (by simp; omega), HK3.out.cell (by simp; omega)]; exact A2.out
  have p2 : w5.cell? ⟨w1.heap.size, 1, none⟩ = some (.int .i64 20) := by rw [HK5.out.cell (by simp; omega), HK4.out.cell (by simp; omega), HK3.out.cell (by simp; omega)]; exact B2.out
  have p3 : w5.cell? ⟨w2.heap.size, 0, none⟩ = some (.int .i64 (flat ps).length) := by rw [HK5.out.cell (by simp; omega), HK4.out.cell (by simp; omega)]; exact A3.out
  have p4 : w5.cell? ⟨w2.heap.size, 1, none⟩ = some (.int .i64 20) := by rw [HK5.out.cell (by simp; omega), HK4.out.cell (by simp; omega)]; exact B3.out
  have p5 : w5.cell? ⟨w3.heap.size, 0, none⟩ = some (.int .i64 qs.length) := by rw [HK5.out.cell (by simp; omega)]; exact A4.out
  have p6 : w5.cell? ⟨w3.heap.size, 1, none⟩ = some (.int .i64 20) := by rw [HK5.out.cell (by simp; omega)]; exact B4.out
  have p7 : w5.cell? ⟨w4.heap.size, 0, none⟩ = some (.int .i64 qs.length) := by rw [hb5.cell (by simp)]; exact cellA _ _ _
  have p8 : w5.cell? ⟨w4.heap.size, 1, none⟩ = some (.int .i64 20) := by rw [hb5.cell (by simp)]; exact cellB _ _ _
  clear hb5
  go_wp2_with fail
  refine (same_any none none 0 0 0 0 [] [] w5 rfl rfl (by omega) (by omega) (.inl rfl) (.inl rfl)).mono ?_
  rintro e w6 ⟨rfl, n6, rfl⟩
  have k1 : (convert 22 9 (.slice none 0 0)).run Try.prog (w5.drewN n6) = .ok (.string (strOfNums [])) (w5.drewN n6) := conv_row _ _ rfl (.inl rfl)
  have HB6 : Hid (Below w.heap.size w (w5.drewN n6)) := below_drewN HB5.out n6
  go_wp2_with fail
  refine (valid_any a len cap ps r _ HL.out hp hr hby hcap hm (row_below HR.out HB6.out)).mono ?_
  rintro e w7 ⟨rfl, rfl⟩
  rw [List.isEmpty_eq_false_iff.2 hne]
  go_wp2_with fail
  refine (rvalid_no a len cap ps r _ HL.out hp hr hne hby hcap hm (by omega) (row_below HR.out HB6.out)).mono ?_
  rintro e w8 ⟨rfl, hb8⟩
  have HB8 : Hid (Below w.heap.size w w8) := HB6.out.trans (hb8.mono HB6.out.size)
  clear hb8
  go_wp2_with fail
  refine (cut_no a len cap most ps r w8 HL.out hp hr hne hby hcap hm (row_below HR.out HB8.out)).mono ?_
  rintro e w9 ⟨rfl, rfl⟩
  rw [show m0Z most len = 0 from by unfold m0Z; omega]
  go_wp2_with fail
  refine (rcut_neg a len cap most w8 hmo).mono ?_
  rintro e w10 ⟨rfl, rfl⟩
  go_wp2
  go_ret
  exact ⟨rfl, HB8.out⟩

set_option maxHeartbeats 4000000 in
theorem walk_nnp (a : Option Addr) (len cap : Nat) (ps : List Int) (r : List Int) (a' : Option Addr) (len' cap' : Nat) (qs : List Int) (q0 : Int) (t0 : List Int) (most : Int) (w : World)
    (hl : (flat ps ++ r).length = len) (hcap : len ≤ cap) (hm : cap ≤ maxLen) (hsm : len ≤ 2000) (hp : AllPt ps) (hr : decZ r = none) (hne : r ≠ []) (hby : Byt r) (hrow : Row w a (flat ps ++ r))
    (hl' : (qs ++ q0 :: t0).length = len') (hcap' : len' ≤ cap') (hm' : cap' ≤ maxLen) (hsm' : len' ≤ 1000) (hq : AllPt qs) (hq0 : ptB q0 = false) (hrow' : RowK .i32 w a' (qs ++ q0 :: t0)) (hmo : 0 ≤ most) (h63 : most ≤ 9223372036854775807) :
    Calls Try.prog 4 #[.slice a len cap, .slice a' len' cap', .int .i64 most] w fun e w' => e = .returned (.bool true) ∧ Below w.heap.size w w' := by
  have HL : Hid ((flat ps ++ r).length = len) := hl
  have HR : Hid (Row w a (flat ps ++ r)) := hrow
  have HL' : Hid ((qs ++ q0 :: t0).length = len') := hl'
  have HR' : Hid (RowK .i32 w a' (qs ++ q0 :: t0)) := hrow'
  clear hl hl' hrow hrow'
  go_enter Try.func4, Try.ntmps4
  go_wp2_with fail
  refine (points_no a len cap ps r w HL.out hp hr hne hby hcap hm (by omega) HR.out).mono ?_
  rintro e w1 ⟨rfl, hb1⟩
  have HB1 : Hid (Below w.heap.size w w1) := hb1
  clear hb1
  go_wp2_with fail
  refine (rpoints_no a len cap ps r (w1.alloc (.cells #[.int .i64 (flat ps).length, .int .i64 20] 32)) HL.out hp hr hne hby hcap hm (by omega) (row_below HR.out (HB1.out.alloc HB1.out.size _))).mono ?_
  rintro e w2 ⟨rfl, hb2⟩
  have HB2 : Hid (Below w.heap.size w w2) := (HB1.out.alloc HB1.out.size _).trans (hb2.mono (HB1.out.alloc HB1.out.size _).size)
  have hs2 : w1.heap.size + 1 ≤ w2.heap.size := by have := hb2.size; simpa using this
  have A2 : Hid (w2.cell? ⟨w1.heap.size, 0, none⟩ = some (.int .i64 (flat ps).length)) := by unfold Hid; rw [hb2.cell (by simp)]; exact cellA _ _ _
  have B2 : Hid (w2.cell? ⟨w1.heap.size, 1, none⟩ = some (.int .i64 20)) := by unfold Hid; rw [hb2.cell (by simp)]; exact cellB _ _ _
  clear hb2
  go_wp2_with fail
  refine (text_no a' len' cap' qs q0 t0 (w2.alloc (.cells #[.int .i64 (flat ps).length, .int .i64 20] 32)) HL'.out hq hq0 hcap' hm' (by omega) (rowK_below HR'.out (HB2.out.alloc HB2.out.size _))).mono ?_
  rintro e w3 ⟨rfl, hb3⟩
  have HB3 : Hid (Below w.heap.size w w3) := (HB2.out.alloc HB2.out.size _).trans (hb3.mono (HB2.out.alloc HB2.out.size _).size)
  have hs3 : w2.heap.size + 1 ≤ w3.heap.size := by have := hb3.size; simpa using this
  have HK3 : Hid (Below w2.heap.size w2 w3) := (keep w2 _).trans (hb3.mono (by simp))
  have A3 : Hid (w3.cell? ⟨w2.heap.size, 0, none⟩ = some (.int .i64 (flat ps).length)) := by unfold Hid; rw [hb3.cell (by simp)]; exact cellA _ _ _
  have B3 : Hid (w3.cell? ⟨w2.heap.size, 1, none⟩ = some (.int .i64 20)) := by unfold Hid; rw [hb3.cell (by simp)]; exact cellB _ _ _
  clear hb3
  go_wp2_with fail
  refine (rtext_no a' len' cap' qs q0 t0 (w3.alloc (.cells #[.int .i64 qs.length, .int .i64 20] 32)) HL'.out hq hq0 hcap' hm' (by omega) (rowK_below HR'.out (HB3.out.alloc HB3.out.size _))).mono ?_
  rintro e w4 ⟨rfl, hb4⟩
  have HB4 : Hid (Below w.heap.size w w4) := (HB3.out.alloc HB3.out.size _).trans (hb4.mono (HB3.out.alloc HB3.out.size _).size)
  have hs4 : w3.heap.size + 1 ≤ w4.heap.size := by have := hb4.size; simpa using this
  have HK4 : Hid (Below w3.heap.size w3 w4) := (keep w3 _).trans (hb4.mono (by simp))
  have A4 : Hid (w4.cell? ⟨w3.heap.size, 0, none⟩ = some (.int .i64 qs.length)) := by unfold Hid; rw [hb4.cell (by simp)]; exact cellA _ _ _
  have B4 : Hid (w4.cell? ⟨w3.heap.size, 1, none⟩ = some (.int .i64 20)) := by unfold Hid; rw [hb4.cell (by simp)]; exact cellB _ _ _
  clear hb4
  go_wp2_with fail
  refine (alive_any _).mono ?_
  rintro e w5 ⟨rfl, hb5⟩
  have HB5 : Hid (Below w.heap.size w w5) := (HB4.out.alloc HB4.out.size _).trans (hb5.mono (HB4.out.alloc HB4.out.size _).size)
  have HK5 : Hid (Below w4.heap.size w4 w5) := (keep w4 _).trans (hb5.mono (by simp))
  have hs5 : w4.heap.size + 1 ≤ w5.heap.size := by have := hb5.size; simpa using this
  have p1 : w5.cell? ⟨w1.heap.size, 0, none⟩ = some (.int .i64 (flat ps).length) := by rw [HK5.out.cell (by simp; omega), HK4.out.cell (by simp; omega), HK3.out.cell (by simp; omega)]; exact A2.out
  have p2 : w5.cell? ⟨w1.heap.size, 1, none⟩ = some (.int .i64 20) := by rw [HK5.out.cell (by simp; omega), HK4.out.cell (by simp; omega), HK3.out.cell (by simp; omega)]; exact B2.out
  have p3 : w5.cell? ⟨w2.heap.size, 0, none⟩ = some (.int .i64 (flat ps).length) := by rw [HK5.out.cell (by simp; omega), HK4.out.cell (by simp; omega)]; exact A3.out
  have p4 : w5.cell? ⟨w2.heap.size, 1, none⟩ = some (.int .i64 20) := by rw [HK5.out.cell (by simp; omega), HK4.out.cell (by simp; omega)]; exact B3.out
  have p5 : w5.cell? ⟨w3.heap.size, 0, none⟩ = some (.int .i64 qs.length) := by rw [HK5.out.cell (by simp; omega)]; exact A4.out
  have p6 : w5.cell? ⟨w3.heap.size, 1, none⟩ = some (.int .i64 20) := by rw [HK5.out.cell (by simp; omega)]; exact B4.out
  have p7 : w5.cell? ⟨w4.heap.size, 0, none⟩ = some (.int .i64 qs.length) := by rw [hb5.cell (by simp)]; exact cellA _ _ _
  have p8 : w5.cell? ⟨w4.heap.size, 1, none⟩ = some (.int .i64 20) := by rw [hb5.cell (by simp)]; exact cellB _ _ _
  clear hb5
  go_wp2_with fail
  refine (same_any none none 0 0 0 0 [] [] w5 rfl rfl (by omega) (by omega) (.inl rfl) (.inl rfl)).mono ?_
  rintro e w6 ⟨rfl, n6, rfl⟩
  have k1 : (convert 22 9 (.slice none 0 0)).run Try.prog (w5.drewN n6) = .ok (.string (strOfNums [])) (w5.drewN n6) := conv_row _ _ rfl (.inl rfl)
  have HB6 : Hid (Below w.heap.size w (w5.drewN n6)) := below_drewN HB5.out n6
  go_wp2_with fail
  refine (valid_any a len cap ps r _ HL.out hp hr hby hcap hm (row_below HR.out HB6.out)).mono ?_
  rintro e w7 ⟨rfl, rfl⟩
  rw [List.isEmpty_eq_false_iff.2 hne]
  go_wp2_with fail
  refine (rvalid_no a len cap ps r _ HL.out hp hr hne hby hcap hm (by omega) (row_below HR.out HB6.out)).mono ?_
  rintro e w8 ⟨rfl, hb8⟩
  have HB8 : Hid (Below w.heap.size w w8) := HB6.out.trans (hb8.mono HB6.out.size)
  clear hb8
  go_wp2_with fail
  refine (cut_no a len cap most ps r w8 HL.out hp hr hne hby hcap hm (row_below HR.out HB8.out)).mono ?_
  rintro e w9 ⟨rfl, rfl⟩
  go_wp2_with fail
  refine (rcut_no a len cap most ps r w8 hmo HL.out hp hr hne hby hcap hm (by omega) (row_below HR.out HB8.out)).mono ?_
  rintro e w10 ⟨rfl, hb10⟩
  have HB10 : Hid (Below w.heap.size w w10) := HB8.out.trans (hb10.mono HB8.out.size)
  clear hb10
  go_wp2
  go_ret
  exact ⟨rfl, HB10.out⟩

theorem split_pts : ∀ l : List Int, AllPt l ∨ ∃ ps q t, AllPt ps ∧ ptB q = false ∧ l = ps ++ q :: t
  | [] => .inl (by intro x hx; simp at hx)
  | p :: l => by
    by_cases hp : ptB p = true
    · rcases split_pts l with h | ⟨ps, q, t, h1, h2, rfl⟩
      · exact .inl (fun x hx => by rcases List.mem_cons.1 hx with rfl | hx; · exact hp
                                   · exact h x hx)
      · exact .inr ⟨p :: ps, q, t, fun x hx => by rcases List.mem_cons.1 hx with rfl | hx; · exact hp
                                                  · exact h1 x hx, h2, rfl⟩
    · exact .inr ⟨[], p, l, by intro x hx; simp at hx, by simpa using hp, rfl⟩

theorem walk (a0 : Option Addr) (len0 cap0 : Nat) (z0 : List Int) (a1 : Option Addr) (len1 cap1 : Nat) (z1 : List Int) (a2 : Int) (w : World) (w0 : IsRow .u8 w a0 len0 cap0 z0) (w1 : IsRow .i32 w a1 len1 cap1 z1) (w2 : (Lit.int .i64 a2).wf = true) :
    Calls Try.prog 4 #[.slice a0 len0 cap0, .slice a1 len1 cap1, .int .i64 a2] w fun e w' => e = .returned (.bool true) ∧ Below w.heap.size w w' := by
  obtain ⟨m, k1, k2, k3, k4, k5⟩ := byte_view w0
  obtain ⟨l, h1, h2, h3, h4, h5⟩ := isRow_view w1
  have hb := (bounds_i64 w2).2
  by_cases hl : 2000 < len0 ∨ len0 ≤ 2000 ∧ 1000 < len1
  · exact walk_long a0 len0 cap0 a1 len1 cap1 a2 w k2 k3 h2 h3 hl
  · obtain ⟨ps, r, e1, rfl, e3⟩ := split_ex m k4
    by_cases hmo : a2 < 0
    · rcases split_pts l with hq | ⟨qs, q, t, hq, hq0, rfl⟩
      · by_cases hr : r = []
        · subst hr
          rw [List.append_nil] at k1 k5
          exact walk_yym a0 len0 cap0 ps a1 len1 cap1 l a2 w k1 k2 k3 (by omega) e1 k5 h1 h2 h3 (by omega) hq h5 hmo (by omega)
        · exact walk_nym a0 len0 cap0 ps r a1 len1 cap1 l a2 w k1 k2 k3 (by omega) e1 e3 hr (fun x hx => k4 x (by simp [hx])) k5 h1 h2 h3 (by omega) hq h5 hmo (by omega)
      · by_cases hr : r = []
        · subst hr
          rw [List.append_nil] at k1 k5
          exact walk_ynm a0 len0 cap0 ps a1 len1 cap1 qs q t a2 w k1 k2 k3 (by omega) e1 k5 h1 h2 h3 (by omega) hq hq0 h5 hmo (by omega)
        · exact walk_nnm a0 len0 cap0 ps r a1 len1 cap1 qs q t a2 w k1 k2 k3 (by omega) e1 e3 hr (fun x hx => k4 x (by simp [hx])) k5 h1 h2 h3 (by omega) hq hq0 h5 hmo (by omega)
    · rcases split_pts l with hq | ⟨qs, q, t, hq, hq0, rfl⟩
      · by_cases hr : r = []
        · subst hr
          rw [List.append_nil] at k1 k5
          exact walk_yyp a0 len0 cap0 ps a1 len1 cap1 l a2 w k1 k2 k3 (by omega) e1 k5 h1 h2 h3 (by omega) hq h5 (by omega) (by omega)
        · exact walk_nyp a0 len0 cap0 ps r a1 len1 cap1 l a2 w k1 k2 k3 (by omega) e1 e3 hr (fun x hx => k4 x (by simp [hx])) k5 h1 h2 h3 (by omega) hq h5 (by omega) (by omega)
      · by_cases hr : r = []
        · subst hr
          rw [List.append_nil] at k1 k5
          exact walk_ynp a0 len0 cap0 ps a1 len1 cap1 qs q t a2 w k1 k2 k3 (by omega) e1 k5 h1 h2 h3 (by omega) hq hq0 h5 (by omega) (by omega)
        · exact walk_nnp a0 len0 cap0 ps r a1 len1 cap1 qs q t a2 w k1 k2 k3 (by omega) e1 e3 hr (fun x hx => k4 x (by simp [hx])) k5 h1 h2 h3 (by omega) hq hq0 h5 (by omega) (by omega)

set_option maxRecDepth 100000 in
theorem lifted (os : Os) (started : os.Started) (H : Type) (enc : TypeId × Value → H) :
    ReturnsInHanded {} Try.checked os 4 .any (Rows.utfTextsSpec.pre6 enc Try.prog Try.f4 Rows.utfTextsRow.domain false) (Rows.utfTextsSpec.post enc Try.prog Try.f4 false true false false) := by
  refine returnsInHanded_of_change (C := Try.checked) own started (by kernel_rfl) Try.func4
    (ChangeSpec.witness6 (enc := enc) (C := Try.checked) false ⟨#[], #[.slice none 0 0, .slice none 0 0, .int .i64 0], []⟩ 8 (by kernel_rfl) (by kernel_rfl) (by kernel_rfl) (by kernel_rfl)) ?_
  intro W base args ds gs before hval0 hW hcnd _
  have hval : ∀ (j : Nat) t v, Try.f4.params[j]? = some t → args[j]? = some v → Value.okWide Try.prog W .any base t v := hval0
  have hW' := hW
  obtain ⟨p, q, hA0, hV, rfl, hfz, hnd⟩ := hW
  have hA : DataW.TrodAll enc Try.prog W 0 (fun _ => true) true Try.f4.params.toList args.toList ds p := hA0
  rw [Try.params4] at hA hval
  obtain ⟨v0, vs0, d0, ds0, p0, q0, hargs, rfl, rfl, h0, r0⟩ := trodAll_cons hA
  obtain ⟨v1, vs1, d1, ds1, p1, q1, rfl, rfl, rfl, h1, r1⟩ := trodAll_cons r0
  obtain ⟨v2, vs2, d2, ds2, p2, q2, rfl, rfl, rfl, h2, r2⟩ := trodAll_cons r1
  obtain ⟨rfl, rfl, rfl⟩ := trodAll_nil r2
  obtain rfl : args = #[v0, v1, v2] := by cases args; simp_all
  obtain ⟨rfl, rfl⟩ := trodVars_none hV
  obtain ⟨a0, len0, cap0, rfl⟩ := okWide_slice Try.underlying22 (hval 0 22 v0 rfl rfl)
  have k0 := h0
  have lt0 : ∀ x ∈ p0, x.block < W.heap.size := by obtain ⟨m, hm⟩ := k0; exact DataW.trod_lt m _ _ _ hm
  obtain ⟨z0, w0⟩ : ∃ zs, IsRow .u8 W a0 len0 cap0 zs := by
    obtain ⟨fuel, hf⟩ := h0
    rcases open_ints Try.underlying22 Try.underlying5 (by kernel_rfl) hf with ⟨hcs, _⟩ | ⟨x, l, c, zs, hcs, _, hl, hm, hz, _, hcell, hwz⟩
    · simp [Value.cells] at hcs
      obtain ⟨rfl, rfl, rfl⟩ := hcs
      exact ⟨[], .inl ⟨rfl, rfl, rfl, rfl⟩⟩
    · simp [Value.cells] at hcs
      obtain ⟨rfl, rfl, rfl⟩ := hcs
      exact ⟨zs, .inr ⟨_, rfl, hl, hm, by simpa using hz, hcell, hwz⟩⟩
  obtain ⟨a1, len1, cap1, rfl⟩ := okWide_slice Try.underlying30 (hval 1 30 v1 rfl rfl)
  have k1 := h1
  have lt1 : ∀ x ∈ p1, x.block < W.heap.size := by obtain ⟨m, hm⟩ := k1; exact DataW.trod_lt m _ _ _ hm
  obtain ⟨z1, w1⟩ : ∃ zs, IsRow .i32 W a1 len1 cap1 zs := by
    obtain ⟨fuel, hf⟩ := h1
    rcases open_ints Try.underlying30 Try.underlying21 (by kernel_rfl) hf with ⟨hcs, _⟩ | ⟨x, l, c, zs, hcs, _, hl, hm, hz, _, hcell, hwz⟩
    · simp [Value.cells] at hcs
      obtain ⟨rfl, rfl, rfl⟩ := hcs
      exact ⟨[], .inl ⟨rfl, rfl, rfl, rfl⟩⟩
    · simp [Value.cells] at hcs
      obtain ⟨rfl, rfl, rfl⟩ := hcs
      exact ⟨zs, .inr ⟨_, rfl, hl, hm, by simpa using hz, hcell, hwz⟩⟩
  obtain ⟨a2, rfl, rfl, rfl, w2⟩ := open_int Try.underlying3 (hval 2 3 v2 rfl rfl) h2
  clear hA0 hval0
  refine (walk a0 len0 cap0 z0 a1 len1 cap1 z1 a2 W w0 w1 w2).mono fun e W' ⟨he, bel⟩ => ?_
  subst he
  exact ⟨_, rfl, _, _, _, [], _, [], hW', trodAll_mk1 (shut_bool Try.underlying4 _), (trodAll_cons_mk (Below.trod laidOut (by kernel_rfl) (of_decide_eq_true (by kernel_rfl)) k0 bel lt0) (trodAll_cons_mk (Below.trod laidOut (by kernel_rfl) (of_decide_eq_true (by kernel_rfl)) k1 bel lt1) (trodAll_cons_mk (shut_int Try.underlying3 w2) trodAll_mk0))), rfl, bel.frame _, fun h => by cases h⟩

theorem over : Rows.utfTextsRow.holds Try.pinned (OpenSpec.ofChange Rows.utfTextsSpec) :=
  OpenClaim.holds_of_wide 4 Try.f4 rfl rfl rfl rfl rfl rfl rfl ⟨rfl, rfl, rfl, rfl, rfl⟩ rfl rfl rfl rfl rfl (by kernel_rfl) Try.func4 (by kernel_rfl)
    (of_decide_eq_true (by kernel_rfl)) (by unfold Func.isWrapper; first | (rw [if_pos (by decide +kernel)]; kernel_rfl) | (rw [if_neg (by decide +kernel)]; exact ⟨rfl, rfl⟩))
    (fun os started H enc _ => lifted os started H enc)


end Go.Proofs.Ytcoicejbbdenlab.utfTexts
namespace Go.Proofs.Ytcoicejbbdenlab
theorem utfTexts_holds : Rows.UtfTextsSaid := utfTexts.over
#print axioms utfTexts_holds
end Go.Proofs.Ytcoicejbbdenlab
