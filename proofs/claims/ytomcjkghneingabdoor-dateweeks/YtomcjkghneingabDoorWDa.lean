/-
  Years, months and days.
-/
import Derived.Test.YtomcjkghneingabDoorWMd
import Derived.Test.YtomcjkghneingabDoorStr
import Derived.Deep.RegionHeld
namespace Go.Proofs.YtomcjkghneingabDoor.Wn
open Go.RowKit
set_option linter.unusedVariables false

/-- The table of months lies there. -/
def Ah (w : World) : Prop := ∀ i, i < 13 → w.cell? ⟨4, i, none⟩ = some (.int .i64 (aheadL.getD i 0))
theorem Ah.below {w w' : World} (h : Ah w) (b : Below w.heap.size w w') : Ah w' := by
  intro i hi
  rw [b.cell (World.block_lt_of_cell? w _ (h i hi))]; exact h i hi

set_option maxRecDepth 100000 in
theorem leaps_any (y : Int) (w : World) (h0 : 0 ≤ y) (h1 : y < 1000000) :
    Calls Tryd.prog 44 #[.int .i64 y] w fun e w' => e = .returned (.int .i64 (leapsZ y)) ∧ w = w' := by
  go_enter Tryd.func44, Tryd.ntmps44
  go_wp2
  go_ret
  exact ⟨rfl, rfl⟩
set_option maxRecDepth 100000 in
theorem isLeap_any (y : Int) (w : World) (h0 : 0 ≤ y) (h1 : y < 1000000) :
    Calls Tryd.prog 45 #[.int .i64 y] w fun e w' => e = .returned (.bool (leapB y)) ∧ w = w' := by
  unfold leapB
  by_cases a : y % 4 = 0
  · by_cases b : y % 100 = 0
    · have ha : (y % 4 == 0) = true := by simp [a]
      have hb : (y % 100 != 0) = false := by simp [b]
      go_enter Tryd.func45, Tryd.ntmps45
      go_wp2
      go_ret
      refine ⟨ret_bool ?_, rfl⟩
      simp [a, b]
      try rfl
    · have ha : (y % 4 == 0) = true := by simp [a]
      have hb : (y % 100 != 0) = true := by simp [b]
      go_enter Tryd.func45, Tryd.ntmps45
      go_wp2
      go_ret
      refine ⟨ret_bool ?_, rfl⟩
      simp [a, b]
  · have ha : (y % 4 == 0) = false := by simp [a]
    go_enter Tryd.func45, Tryd.ntmps45
    go_wp2
    go_ret
    refine ⟨ret_bool ?_, rfl⟩
    simp [a]
set_option maxRecDepth 100000 in
theorem yearStart_any (y : Int) (w : World) (h0 : 1 ≤ y) (h1 : y < 100000) :
    Calls Tryd.prog 24 #[.int .i64 y] w fun e w' => e = .returned (.int .i64 (ysZ y)) ∧ w = w' := by
  have hr : 0 ≤ leapsZ (y - 1) ∧ leapsZ (y - 1) < 1000000 := by unfold leapsZ; omega
  have h2 : leapsZ 1969 = 477 := by decide
  have e : ysZ y = 365 * (y - 1970) + leapsZ (y - 1) - 477 := rfl
  rw [e]; clear e
  have HL : Hid (∀ w, Calls Tryd.prog 44 #[.int .i64 (y - 1)] w fun e w' => e = .returned (.int .i64 (leapsZ (y - 1))) ∧ w = w') := fun w => leaps_any (y - 1) w (by omega) (by omega)
  have HL2 : Hid (∀ w, Calls Tryd.prog 44 #[.int .i64 1969] w fun e w' => e = .returned (.int .i64 477) ∧ w = w') := fun w => by
    have := leaps_any 1969 w (by omega) (by omega)
    rwa [h2] at this
  clear h2
  generalize leapsZ (y - 1) = L at hr HL
  go_enter Tryd.func24, Tryd.ntmps24
  go_wp2_with fail
  refine (HL.out _).mono ?_
  rintro e w' ⟨rfl, rfl⟩
  go_wp2_with fail
  refine (HL2.out _).mono ?_
  rintro e w' ⟨rfl, rfl⟩
  go_wp2
  go_ret
  exact ⟨rfl, rfl⟩
set_option maxRecDepth 100000 in
theorem ahead_in (m : Int) (h1 : 1 ≤ m) (h2 : m ≤ 13) : 0 ≤ aheadZ m ∧ aheadZ m ≤ 365 := by
  rcases month_cases m h1 h2 with rfl | rfl | rfl | rfl | rfl | rfl | rfl | rfl | rfl | rfl | rfl | rfl | rfl <;> decide
set_option maxRecDepth 100000 in
theorem monthStart_any (y m : Int) (w : World) (h0 : 0 ≤ y) (h1 : y < 100000) (hm1 : 1 ≤ m) (hm2 : m ≤ 13) (hA : Ah w) :
    Calls Tryd.prog 25 #[.int .i64 y, .int .i64 m] w fun e w' => e = .returned (.int .i64 (msZ y m)) ∧ w = w' := by
  have hc : w.cell? ⟨4, m.toNat - 1, none⟩ = some (.int .i64 (aheadZ m)) := by
    have e : m.toNat - 1 = (m - 1).toNat := by omega
    rw [e]; exact hA (m - 1).toNat (by omega)
  have hr := ahead_in m hm1 hm2
  have HL : Hid (∀ w, Calls Tryd.prog 45 #[.int .i64 y] w fun e w' => e = .returned (.bool (leapB y)) ∧ w = w') := fun w => isLeap_any y w (by omega) (by omega)
  unfold msZ
  generalize aheadZ m = A at hc hr
  generalize leapB y = B at HL
  clear hA
  by_cases hm : 2 < m
  · cases B
    · rw [if_neg (by simp)]
      go_enter Tryd.func25, Tryd.ntmps25
      go_wp2_with fail
      refine (HL.out _).mono ?_
      rintro e w' ⟨rfl, rfl⟩
      go_wp2
      go_ret
      exact ⟨ret_int (by omega), rfl⟩
    · rw [if_pos ⟨hm, rfl⟩]
      go_enter Tryd.func25, Tryd.ntmps25
      go_wp2_with fail
      refine (HL.out _).mono ?_
      rintro e w' ⟨rfl, rfl⟩
      go_wp2
      go_ret
      exact ⟨ret_int (by omega), rfl⟩
  · rw [if_neg (by omega)]
    go_enter Tryd.func25, Tryd.ntmps25
    go_wp2
    go_ret
    exact ⟨ret_int (by omega), rfl⟩

theorem ys_in (y : Int) (h0 : 1970 ≤ y) (h1 : y ≤ 10001) : 0 ≤ ysZ y ∧ ysZ y ≤ 3000000 := by unfold ysZ leapsZ; omega
/-- Days: how many days lie ahead of a day, or that there is none. -/
def daysE (y m d : Int) : Int := if dayB y m d = true then 0 else 110
def daysV (y m d : Int) : Int := if dayB y m d = true then daysZ y m d else 0
set_option maxRecDepth 100000 in
set_option maxHeartbeats 1000000 in
theorem days_any (y m d : Int) (w : World) (hy0 : -9223372036854775808 ≤ y) (hy1 : y ≤ 9223372036854775807) (hm0 : -9223372036854775808 ≤ m) (hm1 : m ≤ 9223372036854775807) (hd0 : -9223372036854775808 ≤ d) (hd1 : d ≤ 9223372036854775807) (hA : Ah w) :
    Calls Tryd.prog 32 #[.int .i64 y, .int .i64 m, .int .i64 d] w fun e w' => e = .returned (.tuple #[.int .i64 (daysV y m d), .int .i64 (daysE y m d)]) ∧ w = w' := by
  unfold daysV daysE
  by_cases hb : 1970 ≤ y ∧ y ≤ 9999 ∧ 1 ≤ m ∧ m ≤ 12
  · obtain ⟨b1, b2, b3, b4⟩ := hb
    have k1 := ms_bound y m b3 (by omega)
    have k2 := ms_bound y (m + 1) (by omega) (by omega)
    have k3 := mon_ge y m b3 b4
    have k4 := ys_in y b1 (by omega)
    have c1 : Hid (∀ w, Ah w → Calls Tryd.prog 25 #[.int .i64 y, .int .i64 m] w fun e w' => e = .returned (.int .i64 (msZ y m)) ∧ w = w') := fun w h => monthStart_any y m w (by omega) (by omega) b3 (by omega) h
    have c2 : Hid (∀ w, Ah w → Calls Tryd.prog 25 #[.int .i64 y, .int .i64 (m + 1)] w fun e w' => e = .returned (.int .i64 (msZ y (m + 1))) ∧ w = w') := fun w h => monthStart_any y (m + 1) w (by omega) (by omega) (by omega) (by omega) h
    have c3 : Hid (∀ w, Calls Tryd.prog 24 #[.int .i64 y] w fun e w' => e = .returned (.int .i64 (ysZ y)) ∧ w = w') := fun w => yearStart_any y w (by omega) (by omega)
    have e1 : dayB y m d = decide (1 ≤ d ∧ d ≤ msZ y (m + 1) - msZ y m) := by
      rw [Bool.eq_iff_iff, day_iff, decide_eq_true_eq]; unfold monZ; omega
    have e2 : daysZ y m d = ysZ y + msZ y m + (d - 1) := rfl
    unfold monZ at k3
    rw [e1, e2]; clear e1 e2
    have HA : Hid (Ah w) := hA
    clear hA
    generalize msZ y m = A at *
    generalize msZ y (m + 1) = B at *
    generalize ysZ y = Y at *
    by_cases g1 : d < 1
    · rw [if_neg (by simp; omega), if_neg (by simp; omega)]
      go_enter Tryd.func32, Tryd.ntmps32
      go_wp2_with fail
      refine (c1.out _ HA.out).mono ?_
      rintro e w' ⟨rfl, rfl⟩
      go_wp2
      go_ret2
      exact ⟨rfl, rfl⟩
    · by_cases g2 : d > B - A
      · rw [if_neg (by simp; omega), if_neg (by simp; omega)]
        go_enter Tryd.func32, Tryd.ntmps32
        go_wp2_with fail
        refine (c1.out _ HA.out).mono ?_
        rintro e w' ⟨rfl, rfl⟩
        go_wp2_with fail
        refine (c2.out _ HA.out).mono ?_
        rintro e w' ⟨rfl, rfl⟩
        go_wp2
        go_ret2
        exact ⟨rfl, rfl⟩
      · rw [if_pos (by simp; omega), if_pos (by simp; omega)]
        go_enter Tryd.func32, Tryd.ntmps32
        go_wp2_with fail
        refine (c1.out _ HA.out).mono ?_
        rintro e w' ⟨rfl, rfl⟩
        go_wp2_with fail
        refine (c2.out _ HA.out).mono ?_
        rintro e w' ⟨rfl, rfl⟩
        go_wp2_with fail
        refine (c3.out _).mono ?_
        rintro e w' ⟨rfl, rfl⟩
        go_wp2
        go_ret2
        exact ⟨rfl, rfl⟩
  · have e1 : dayB y m d = false := by
      rw [← Bool.not_eq_true, day_iff]; intro h; exact hb ⟨h.1, h.2.1, h.2.2.1, h.2.2.2.1⟩
    rw [e1]; clear e1
    clear hA
    by_cases a1 : y < 1970
    · clear hb
      go_enter Tryd.func32, Tryd.ntmps32
      go_wp2
      go_ret2
      exact ⟨rfl, rfl⟩
    · by_cases a2 : y > 9999
      · clear hb
        go_enter Tryd.func32, Tryd.ntmps32
        go_wp2
        go_ret2
        exact ⟨rfl, rfl⟩
      · by_cases a3 : m < 1
        · clear hb
          go_enter Tryd.func32, Tryd.ntmps32
          go_wp2
          go_ret2
          exact ⟨rfl, rfl⟩
        · have a4 : m > 12 := by omega
          clear hb
          go_enter Tryd.func32, Tryd.ntmps32
          go_wp2
          go_ret2
          exact ⟨rfl, rfl⟩
end Go.Proofs.YtomcjkghneingabDoor.Wn
