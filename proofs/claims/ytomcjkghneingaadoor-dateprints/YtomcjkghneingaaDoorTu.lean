/-
  The document's own dates as texts: the contracts of its Weekday and Print.
-/
import Derived.Test.YtomcjkghneingaaDoorWRp
import Derived.Test.YtomcjkghneingaaDoorLb
namespace Go.Proofs.YtomcjkghneingaaDoor
open Go.RowKit
set_option linter.unusedVariables false
set_option linter.unusedSimpArgs false

def shiftB (s : Int) : Bool := decide (-86400 < s) && decide (s < 86400) && decide (s % 60 = 0)
set_option maxRecDepth 100000 in
theorem rshift_any (s : Int) (w : World) (h0 : -9223372036854775808 ≤ s) (h1 : s ≤ 9223372036854775807) : Calls Tryd.prog 24 #[.int .i64 s] w fun e w' => e = .returned (.bool (shiftB s)) ∧ w = w' := by
  have hm : (Int.tmod s 60 == 0) = decide (s % 60 = 0) := by
    rw [Bool.eq_iff_iff, beq_iff_eq, decide_eq_true_iff]
    exact ⟨fun h => Int.emod_eq_zero_of_dvd (Int.dvd_of_tmod_eq_zero h), fun h => Int.tmod_eq_zero_of_dvd (Int.dvd_of_emod_eq_zero h)⟩
  obtain ⟨b, hb⟩ : ∃ b, decide (s % 60 = 0) = b := ⟨_, rfl⟩
  have HB : Hid (shiftB s = (decide (-86400 < s) && decide (s < 86400) && b)) := by unfold Hid shiftB; rw [hb]
  rw [hb] at hm
  cases b with
  | false =>
    have hb1 : ¬ s % 60 = 0 := by simpa using hb
    have hb2 : (s % 60 == 0) = false := by simpa using hb1
    clear hb
    have HB2 : Hid (shiftB s = false) := by unfold Hid; rw [HB.out]; simp
    go_enter Tryd.func24, Tryd.ntmps24
    go_wp2
    go_ret
    exact ⟨by rw [HB2.out] <;> rfl, rfl⟩
  | true =>
    have hb1 : s % 60 = 0 := by simpa using hb
    have hb2 : (s % 60 == 0) = true := by simpa using hb1
    clear hb
    by_cases a : -86400 < s
    · by_cases c : s < 86400
      · have HB2 : Hid (shiftB s = true) := by unfold Hid; rw [HB.out, decide_eq_true a, decide_eq_true c]; rfl
        go_enter Tryd.func24, Tryd.ntmps24
        go_wp2
        go_ret
        exact ⟨by rw [HB2.out] <;> rfl, rfl⟩
      · have HB2 : Hid (shiftB s = false) := by unfold Hid; rw [HB.out, decide_eq_false c]; simp
        go_enter Tryd.func24, Tryd.ntmps24
        go_wp2
        go_ret
        exact ⟨by rw [HB2.out] <;> rfl, rfl⟩
    · have HB2 : Hid (shiftB s = false) := by unfold Hid; rw [HB.out, decide_eq_false a]; simp
      go_enter Tryd.func24, Tryd.ntmps24
      go_wp2
      go_ret
      exact ⟨by rw [HB2.out] <;> rfl, rfl⟩
set_option maxRecDepth 100000 in
theorem rday_any (n : Int) (w : World) (h0 : 0 ≤ n) (h1 : n < 7) : Calls Tryd.prog 26 #[.int .i64 n] w fun e w' => e = .returned (.string (strOfNums (dayL n))) ∧ w = w' := by
  have h : n = 0 ∨ n = 1 ∨ n = 2 ∨ n = 3 ∨ n = 4 ∨ n = 5 ∨ n = 6 := by omega
  rcases h with rfl | rfl | rfl | rfl | rfl | rfl | rfl
  all_goals
    go_enter Tryd.func26, Tryd.ntmps26
    go_wp2
    go_ret
    exact ⟨by rfl, rfl⟩
set_option maxRecDepth 100000 in
theorem rmon_any (n : Int) (w : World) (h0 : 1 ≤ n) (h1 : n ≤ 12) : Calls Tryd.prog 28 #[.int .i64 n] w fun e w' => e = .returned (.string (strOfNums (monL n))) ∧ w = w' := by
  have h : n = 1 ∨ n = 2 ∨ n = 3 ∨ n = 4 ∨ n = 5 ∨ n = 6 ∨ n = 7 ∨ n = 8 ∨ n = 9 ∨ n = 10 ∨ n = 11 ∨ n = 12 := by omega
  rcases h with rfl | rfl | rfl | rfl | rfl | rfl | rfl | rfl | rfl | rfl | rfl | rfl
  all_goals
    go_enter Tryd.func28, Tryd.ntmps28
    go_wp2
    go_ret
    exact ⟨by rfl, rfl⟩
set_option maxRecDepth 100000 in
theorem rweek_no (n : Int) (w : World) (h : n < 0 ∨ 2932896 < n) (h0 : -9223372036854775808 ≤ n) (h1 : n ≤ 9223372036854775807) :
    Calls Tryd.prog 12 #[.int .i64 n] w fun e w' => e = .returned (.tuple #[.int .i64 0, .int .i64 110]) ∧ w = w' := by
  rcases h with h | h
  all_goals
    go_enter Tryd.func12, Tryd.ntmps12
    go_wp2
    go_ret2
    exact ⟨rfl, rfl⟩
set_option maxRecDepth 100000 in
theorem rweek_yes (n : Int) (w : World) (h0 : 0 ≤ n) (h1 : n ≤ 2932896) :
    Calls Tryd.prog 12 #[.int .i64 n] w fun e w' => e = .returned (.tuple #[.int .i64 (wdZ n), .int .i64 0]) ∧ w = w' := by
  have hm : Int.tmod n 7 = n % 7 := Int.tmod_eq_emod_of_nonneg h0
  obtain ⟨q, hq⟩ : ∃ q, n % 7 = q := ⟨_, rfl⟩
  have q0 : 0 ≤ q := by omega
  have q1 : q < 7 := by omega
  rw [hq] at hm
  by_cases h : q < 4
  · have HW : Hid (wdZ n = q + 3) := by unfold Hid wdZ; omega
    clear hq
    go_enter Tryd.func12, Tryd.ntmps12
    go_wp2
    go_ret2
    exact ⟨by rw [HW.out] <;> rfl, rfl⟩
  · have HW : Hid (wdZ n = q - 4) := by unfold Hid wdZ; omega
    clear hq
    go_enter Tryd.func12, Tryd.ntmps12
    go_wp2
    go_ret2
    exact ⟨by rw [HW.out] <;> rfl, rfl⟩
theorem rtwo_any (n : Int) (w : World) (h0 : 0 ≤ n) (h1 : n < 100) : Calls Tryd.prog 27 #[.int .i64 n, .int .i64 2] w fun e w' => e = .returned (.string (strOfNums (twoL n))) ∧ Below w.heap.size w w' :=
  (Wn.rdigits_any n 2 w h0 (by omega) (by decide)).mono fun e w' h => by
    obtain ⟨x, rfl, ⟨hx, _⟩, hb⟩ := h
    refine ⟨?_, hb⟩
    rw [str_ext hx, Wn.digN_two]
    congr 3
    unfold Wn.two twoL
    rw [show n / 10 % 10 = n / 10 by omega]
theorem rfour_any (n : Int) (w : World) (h0 : 0 ≤ n) (h1 : n < 10000) : Calls Tryd.prog 27 #[.int .i64 n, .int .i64 4] w fun e w' => e = .returned (.string (strOfNums (twoL (n / 100) ++ twoL (n % 100)))) ∧ Below w.heap.size w w' :=
  (Wn.rdigits_any n 4 w h0 (by omega) (by decide)).mono fun e w' h => by
    obtain ⟨x, rfl, ⟨hx, _⟩, hb⟩ := h
    refine ⟨?_, hb⟩
    rw [str_ext hx, Wn.digN_four]
    congr 3
    unfold Wn.four twoL
    rw [show n / 10 / 10 / 10 % 10 = n / 100 / 10 by omega, show n / 10 / 10 % 10 = n / 100 % 10 by omega, show n / 10 % 10 = n % 100 / 10 by omega, show n % 10 = n % 100 % 10 by omega]
    rfl
end Go.Proofs.YtomcjkghneingaaDoor
