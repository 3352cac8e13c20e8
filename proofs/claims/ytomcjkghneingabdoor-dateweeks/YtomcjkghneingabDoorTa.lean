/-
  Dates: Right, Weekday, two, isDate.
-/
import Derived.Test.YtomcjkghneingabDoorWCi
import Derived.Test.YtomcjkghneingabDoorPlain
namespace Go.Proofs.YtomcjkghneingabDoor
open Go.RowKit
set_option linter.unusedVariables false
set_option linter.unusedSimpArgs false

def timeB (t : Int) : Bool := decide (0 ≤ t) && decide (t ≤ 253402300799)
set_option maxRecDepth 100000 in
theorem wright_any (t : Int) (w : World) (h0 : -9223372036854775808 ≤ t) (h1 : t ≤ 9223372036854775807) :
    Calls Tryd.prog 18 #[.int .i64 t] w fun e w' => e = .returned (.bool (timeB t)) ∧ w = w' := by
  unfold timeB
  by_cases a : 0 ≤ t
  · by_cases b : t ≤ 253402300799
    · go_enter Tryd.func18, Tryd.ntmps18
      go_wp2
      go_ret
      exact ⟨ret_bool (by simp; omega), rfl⟩
    · go_enter Tryd.func18, Tryd.ntmps18
      go_wp2
      go_ret
      exact ⟨ret_bool (by simp; omega), rfl⟩
  · go_enter Tryd.func18, Tryd.ntmps18
    go_wp2
    go_ret
    exact ⟨ret_bool (by simp; omega), rfl⟩
def wdZ (n : Int) : Int := (n + 3) % 7
set_option maxRecDepth 100000 in
theorem wd_no (n : Int) (w : World) (h : n < 0 ∨ 2932896 < n) (h0 : -9223372036854775808 ≤ n) (h1 : n ≤ 9223372036854775807) :
    Calls Tryd.prog 5 #[.int .i64 n] w fun e w' => e = .returned (.tuple #[.int .i64 0, .int .i64 110]) ∧ w = w' := by
  have hc := Wn.civil_no n w h h0 h1
  clear h
  go_enter Tryd.func5, Tryd.ntmps5
  go_wp2_with fail
  refine hc.mono ?_
  rintro e w' ⟨rfl, rfl⟩
  go_wp2
  go_ret2
  exact ⟨rfl, rfl⟩
set_option maxRecDepth 100000 in
theorem wd_yes (n : Int) (w : World) (h0 : 0 ≤ n) (h1 : n ≤ 2932896) (hA : Wn.Ah w) :
    Calls Tryd.prog 5 #[.int .i64 n] w fun e w' => e = .returned (.tuple #[.int .i64 (wdZ n), .int .i64 0]) ∧ w = w' := by
  have hc := Wn.civil_yes n w h0 h1 hA
  clear hA
  unfold wdZ
  have hm : Int.tmod (n + 3) 7 = (n + 3) % 7 := Int.tmod_eq_emod_of_nonneg (by omega)
  go_enter Tryd.func5, Tryd.ntmps5
  go_wp2_with fail
  refine hc.mono ?_
  rintro e w' ⟨⟨y, m, d, _, rfl⟩, rfl⟩
  go_wp2
  go_ret2
  exact ⟨by first | rfl | simp [hm] | omega, rfl⟩
theorem row_two (w : World) (x y : Int) : Row (w.alloc (.cells #[.int .u8 x, .int .u8 y] 5)) (some ⟨w.heap.size, 0, none⟩) [x, y] := by
  have h := World.alloc_heap_new w (.cells #[.int .u8 x, .int .u8 y] 5)
  refine .inr ⟨_, 0, rfl, fun i hi => ?_⟩
  rw [cell_of_row _ _ _ _ _ _ h, Nat.zero_add]
  have hi : i < 2 := hi
  match i, hi with
  | 0, _ => rfl
  | 1, _ => rfl
def twoL (n : Int) : List Int := [48 + n / 10, 48 + n % 10]
set_option maxRecDepth 100000 in
theorem two_any (n : Int) (w : World) (h0 : 0 ≤ n) (h1 : n < 100) :
    Calls Tryd.prog 12 #[.int .i64 n] w fun e w' => e = .returned (.string (strOfNums (twoL n))) ∧ Below w.heap.size w w' := by
  have hq : Int.tdiv n 10 = n / 10 := Int.tdiv_eq_ediv_of_nonneg h0
  have hm : Int.tmod n 10 = n % 10 := Int.tmod_eq_emod_of_nonneg h0
  have q0 : 0 ≤ n / 10 := by omega
  have q1 : n / 10 ≤ 9 := by omega
  have m0 : 0 ≤ n % 10 := by omega
  have m1 : n % 10 ≤ 9 := by omega
  unfold twoL
  obtain ⟨q, hq'⟩ : ∃ q, n / 10 = q := ⟨_, rfl⟩
  obtain ⟨r, hr'⟩ : ∃ r, n % 10 = r := ⟨_, rfl⟩
  rw [hq'] at hq q0 q1 ⊢
  rw [hr'] at hm m0 m1 ⊢
  go_enter Tryd.func12, Tryd.ntmps12
  have kc := conv_row (w := w.alloc (.cells #[.int .u8 (48 + q), .int .u8 (48 + r)] 5)) 2 2 rfl (row_two w (48 + q) (48 + r))
  go_wp2
  go_ret
  exact ⟨rfl, keep w _⟩
def dateB (t s : Int) : Bool := decide (-86340 ≤ s) && decide (s ≤ 86340) && decide (s % 60 = 0) && (timeB t && timeB (t + s))
set_option maxRecDepth 100000 in
theorem isDate_any (t s : Int) (w : World) (t0 : -9223372036854775808 ≤ t) (t1 : t ≤ 9223372036854775807) (s0 : -9223372036854775808 ≤ s) (s1 : s ≤ 9223372036854775807) :
    Calls Tryd.prog 11 #[.int .i64 t, .int .i64 s] w fun e w' => e = .returned (.bool (dateB t s)) ∧ w = w' := by
  by_cases a : s < -86340
  · have d1 : decide (s < -86340) = true := by simpa using a
    have HZ : Hid (dateB t s = false) := by
      unfold Hid dateB
      rw [show decide (-86340 ≤ s) = false from by simp; omega]
      rfl
    go_enter Tryd.func11, Tryd.ntmps11
    go_wp2
    go_ret
    exact ⟨ret_bool HZ.out.symm, rfl⟩
  have d1 : decide (s < -86340) = false := by simpa using a
  by_cases b : s > 86340
  · have d2 : decide (s > 86340) = true := by simpa using b
    have HZ : Hid (dateB t s = false) := by
      unfold Hid dateB
      rw [show decide (s ≤ 86340) = false from by simp; omega]
      simp
    go_enter Tryd.func11, Tryd.ntmps11
    go_wp2
    go_ret
    exact ⟨ret_bool HZ.out.symm, rfl⟩
  have d2 : decide (s > 86340) = false := by simpa using b
  have HM : Hid ((s % 60 = 0) ↔ Int.tmod s 60 = 0) := by
    unfold Hid
    constructor
    · intro h; exact Int.tmod_eq_zero_of_dvd (Int.dvd_of_emod_eq_zero h)
    · intro h; exact Int.emod_eq_zero_of_dvd (Int.dvd_of_tmod_eq_zero h)
  by_cases c : Int.tmod s 60 = 0
  rotate_left
  · have d3 : (Int.tmod s 60 != 0) = true := by simpa using c
    have HZ : Hid (dateB t s = false) := by
      unfold Hid dateB
      rw [show decide (s % 60 = 0) = false from by simp; exact fun h => c (HM.out.1 h)]
      simp
    go_enter Tryd.func11, Tryd.ntmps11
    go_wp2
    go_ret
    exact ⟨ret_bool HZ.out.symm, rfl⟩
  have d3 : (Int.tmod s 60 != 0) = false := by simpa using c
  have HZ : Hid (dateB t s = (timeB t && timeB (t + s))) := by
    unfold Hid dateB
    rw [show decide (-86340 ≤ s) = true from by simp; omega, show decide (s ≤ 86340) = true from by simp; omega, show decide (s % 60 = 0) = true from by simp; exact HM.out.2 c]
    rfl
  have r1 := wright_any t w t0 t1
  cases e1 : timeB t with
  | false =>
    rw [e1] at r1
    rw [e1] at HZ
    go_enter Tryd.func11, Tryd.ntmps11
    go_wp2_with fail
    refine r1.mono ?_
    rintro e w' ⟨rfl, rfl⟩
    go_wp2
    go_ret
    exact ⟨ret_bool HZ.out.symm, rfl⟩
  | true =>
    have e2 := e1
    unfold timeB at e2
    simp only [Bool.and_eq_true, decide_eq_true_eq] at e2
    have r2 := wright_any (t + s) w (by omega) (by omega)
    rw [e1] at r1 HZ
    rw [Bool.true_and] at HZ
    clear e1
    go_enter Tryd.func11, Tryd.ntmps11
    go_wp2_with fail
    refine r1.mono ?_
    rintro e w' ⟨rfl, rfl⟩
    go_wp2_with fail
    refine r2.mono ?_
    rintro e w' ⟨rfl, rfl⟩
    go_wp2
    go_ret
    exact ⟨ret_bool HZ.out.symm, rfl⟩
end Go.Proofs.YtomcjkghneingabDoor
