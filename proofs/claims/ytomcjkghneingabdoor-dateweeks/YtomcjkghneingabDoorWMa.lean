/-
  Days, years and months, as numbers.
-/
import Derived.Test.YtomcjkghneingabDoorBase
namespace Go.Proofs.YtomcjkghneingabDoor.Wn
set_option linter.unusedVariables false

def leapsZ (y : Int) : Int := y / 4 - y / 100 + y / 400
def ysZ (y : Int) : Int := 365 * (y - 1970) + leapsZ (y - 1) - 477
def leapB (y : Int) : Bool := decide (y % 4 = 0) && (decide (y % 100 ≠ 0) || decide (y % 400 = 0))
def aheadL : List Int := [0, 31, 59, 90, 120, 151, 181, 212, 243, 273, 304, 334, 365]
def aheadZ (m : Int) : Int := aheadL.getD (m - 1).toNat 0
def msZ (y m : Int) : Int := aheadZ m + if 2 < m ∧ leapB y = true then 1 else 0
def yearZ (y : Int) : Int := if leapB y = true then 366 else 365

theorem leap_iff (y : Int) : leapB y = true ↔ y % 4 = 0 ∧ (y % 100 ≠ 0 ∨ y % 400 = 0) := by simp [leapB]
theorem ys_next (y : Int) : ysZ (y + 1) = ysZ y + yearZ y := by
  unfold ysZ yearZ leapsZ
  by_cases h : leapB y = true
  · rw [if_pos h]; rw [leap_iff] at h; omega
  · rw [if_neg h]; rw [leap_iff] at h; omega
theorem ys_mono (y z : Int) (h : y < z) : ysZ y + 365 ≤ ysZ z := by unfold ysZ leapsZ; omega
theorem ys_le (y z : Int) (h : y ≤ z) : ysZ y ≤ ysZ z := by unfold ysZ leapsZ; omega
theorem ys_first : ysZ 1970 = 0 := by decide
theorem ys_last : ysZ 10000 = 2932897 := by decide
/-- 366 days a year are too many. -/
theorem ys_guess (d : Int) (h : 0 ≤ d) : ysZ (1970 + d / 366) ≤ d := by unfold ysZ leapsZ; omega
theorem month_cases (m : Int) (h1 : 1 ≤ m) (h2 : m ≤ 13) : m = 1 ∨ m = 2 ∨ m = 3 ∨ m = 4 ∨ m = 5 ∨ m = 6 ∨ m = 7 ∨ m = 8 ∨ m = 9 ∨ m = 10 ∨ m = 11 ∨ m = 12 ∨ m = 13 := by omega
theorem ah1 : aheadZ 1 = 0 := rfl
theorem ah2 : aheadZ 2 = 31 := rfl
theorem ah3 : aheadZ 3 = 59 := rfl
theorem ah4 : aheadZ 4 = 90 := rfl
theorem ah5 : aheadZ 5 = 120 := rfl
theorem ah6 : aheadZ 6 = 151 := rfl
theorem ah7 : aheadZ 7 = 181 := rfl
theorem ah8 : aheadZ 8 = 212 := rfl
theorem ah9 : aheadZ 9 = 243 := rfl
theorem ah10 : aheadZ 10 = 273 := rfl
theorem ah11 : aheadZ 11 = 304 := rfl
theorem ah12 : aheadZ 12 = 334 := rfl
theorem ah13 : aheadZ 13 = 365 := rfl
/-- How many days a month has. -/
def monZ (y m : Int) : Int := msZ y (m + 1) - msZ y m
theorem mon_ge (y m : Int) (h1 : 1 ≤ m) (h2 : m ≤ 12) : 28 ≤ monZ y m ∧ monZ y m ≤ 31 := by
  unfold monZ msZ
  rcases month_cases m h1 (by omega) with rfl | rfl | rfl | rfl | rfl | rfl | rfl | rfl | rfl | rfl | rfl | rfl | rfl <;>
    simp [ah1, ah2, ah3, ah4, ah5, ah6, ah7, ah8, ah9, ah10, ah11, ah12, ah13] <;> (try split) <;> omega
theorem ms_first (y : Int) : msZ y 1 = 0 := by simp [msZ, ah1]
theorem ms_last (y : Int) : msZ y 13 = yearZ y := by simp only [msZ, ah13, yearZ]; by_cases h : leapB y = true <;> simp [h]
theorem ms_mono (y : Int) (a b : Int) (h1 : 1 ≤ a) (h2 : a ≤ b) (h3 : b ≤ 13) : msZ y a ≤ msZ y b := by
  obtain ⟨k, rfl⟩ : ∃ k : Nat, b = a + k := ⟨(b - a).toNat, by omega⟩
  clear h2
  induction k with
  | zero => simp
  | succ k ih =>
    have h := ih (by omega)
    have := mon_ge y (a + k) (by omega) (by omega)
    unfold monZ at this
    rw [show a + ((k + 1 : Nat) : Int) = a + k + 1 by omega]
    omega
theorem ms_bound (y m : Int) (h1 : 1 ≤ m) (h2 : m ≤ 13) : 0 ≤ msZ y m ∧ msZ y m ≤ 366 := by
  have a := ms_mono y 1 m (by omega) h1 h2
  have b := ms_mono y m 13 h1 h2 (by omega)
  rw [ms_first] at a
  rw [ms_last] at b
  unfold yearZ at b
  split at b <;> omega
/-- There is such a day. -/
def dayB (y m d : Int) : Bool := decide (1970 ≤ y ∧ y ≤ 9999 ∧ 1 ≤ m ∧ m ≤ 12 ∧ 1 ≤ d ∧ d ≤ monZ y m)
def daysZ (y m d : Int) : Int := ysZ y + msZ y m + (d - 1)
theorem day_iff (y m d : Int) : dayB y m d = true ↔ 1970 ≤ y ∧ y ≤ 9999 ∧ 1 ≤ m ∧ m ≤ 12 ∧ 1 ≤ d ∧ d ≤ monZ y m := by simp [dayB]
/-- A day's year, month and day. -/
structure Civ (n y m d : Int) : Prop where
  hd : dayB y m d = true
  hn : daysZ y m d = n
theorem in_year (y m d : Int) (h : dayB y m d = true) : ysZ y ≤ daysZ y m d ∧ daysZ y m d < ysZ (y + 1) := by
  rw [day_iff] at h
  obtain ⟨a, b, c, e, f, g⟩ := h
  have := ms_bound y m c (by omega)
  have k := ms_mono y (m + 1) 13 (by omega) (by omega) (by omega)
  rw [ms_last] at k
  rw [ys_next]
  unfold daysZ
  unfold monZ at g
  omega
theorem days_range (y m d : Int) (h : dayB y m d = true) : 0 ≤ daysZ y m d ∧ daysZ y m d ≤ 2932896 := by
  have h1 := in_year y m d h
  rw [day_iff] at h
  have a := ys_le 1970 y (by omega)
  have b := ys_le (y + 1) 10000 (by omega)
  rw [ys_first] at a
  rw [ys_last] at b
  omega
/-- Days stand in the order of year, month, day. -/
theorem days_lt (y m d y' m' d' : Int) (h : dayB y m d = true) (h' : dayB y' m' d' = true) :
    daysZ y m d < daysZ y' m' d' ↔ y < y' ∨ y = y' ∧ (m < m' ∨ m = m' ∧ d < d') := by
  have key : ∀ y m d y' m' d' : Int, dayB y m d = true → dayB y' m' d' = true → (y < y' ∨ y = y' ∧ (m < m' ∨ m = m' ∧ d < d')) → daysZ y m d < daysZ y' m' d' := by
    intro y m d y' m' d' h h' hl
    rcases hl with hl | ⟨rfl, hl | ⟨rfl, hl⟩⟩
    · have a := in_year y m d h
      have b := in_year y' m' d' h'
      have c := ys_le (y + 1) y' (by omega)
      omega
    · rw [day_iff] at h h'
      have c := ms_mono y (m + 1) m' (by omega) (by omega) (by omega)
      unfold daysZ
      unfold monZ at h
      omega
    · unfold daysZ; omega
  constructor
  · intro hlt
    by_cases hc : y < y' ∨ y = y' ∧ (m < m' ∨ m = m' ∧ d < d')
    · exact hc
    · by_cases he : y = y' ∧ m = m' ∧ d = d'
      · obtain ⟨rfl, rfl, rfl⟩ := he; omega
      · have := key y' m' d' y m d h' h (by omega)
        omega
  · exact key y m d y' m' d' h h'
theorem days_inj (y m d y' m' d' : Int) (h : dayB y m d = true) (h' : dayB y' m' d' = true) (e : daysZ y m d = daysZ y' m' d') : y = y' ∧ m = m' ∧ d = d' := by
  have a := days_lt y m d y' m' d' h h'
  have b := days_lt y' m' d' y m d h' h
  omega
theorem civ_mk (n y m : Int) (hy0 : 1970 ≤ y) (h1 : ysZ y ≤ n) (h2 : n < ysZ (y + 1)) (hn : n ≤ 2932896) (hm1 : 1 ≤ m) (hm2 : m ≤ 12) (h3 : msZ y m ≤ n - ysZ y) (h4 : n - ysZ y < msZ y (m + 1)) :
    Civ n y m (n - ysZ y - msZ y m + 1) := by
  refine ⟨(day_iff _ _ _).2 ⟨hy0, ?_, hm1, hm2, by omega, by unfold monZ; omega⟩, by unfold daysZ; omega⟩
  have : ¬ 10000 ≤ y := fun hy => by
    have := ys_le 10000 y hy
    rw [ys_last] at this
    omega
  omega
end Go.Proofs.YtomcjkghneingabDoor.Wn
