/-
  The document's own days: the contracts of its Time, Year, Month, Days and Civil.
-/
import Derived.Test.YtomcjkghneingaaDoorWCi
namespace Go.Proofs.YtomcjkghneingaaDoor.Wn
open Go.RowKit
set_option linter.unusedVariables false

def rightB (t : Int) : Bool := decide (0 ≤ t ∧ t < 253402300800)
set_option maxRecDepth 100000 in
theorem rtime_any (t : Int) (w : World) (h0 : -9223372036854775808 ≤ t) (h1 : t ≤ 9223372036854775807) :
    Calls Tryd.prog 23 #[.int .i64 t] w fun e w' => e = .returned (.bool (rightB t)) ∧ w = w' := by
  unfold rightB
  by_cases a : 0 ≤ t
  · by_cases b : t < 253402300800
    · go_enter Tryd.func23, Tryd.ntmps23
      go_wp2
      go_ret
      exact ⟨ret_bool (by simp; omega), rfl⟩
    · go_enter Tryd.func23, Tryd.ntmps23
      go_wp2
      go_ret
      exact ⟨ret_bool (by simp; omega), rfl⟩
  · go_enter Tryd.func23, Tryd.ntmps23
    go_wp2
    go_ret
    exact ⟨ret_bool (by simp; omega), rfl⟩
set_option maxRecDepth 100000 in
theorem ryear_any (y : Int) (w : World) (h0 : 0 ≤ y) (h1 : y < 1000000) :
    Calls Tryd.prog 54 #[.int .i64 y] w fun e w' => e = .returned (.int .i64 (yearZ y)) ∧ w = w' := by
  unfold yearZ
  have hl := leap_iff y
  by_cases a : y % 400 = 0
  · have ta : (y % 400 == 0) = true := by simp [a]
    rw [if_pos (hl.2 (by omega))]
    clear hl a
    go_enter Tryd.func54, Tryd.ntmps54
    go_wp2
    go_ret
    exact ⟨rfl, rfl⟩
  · have ta : (y % 400 == 0) = false := by simp [a]
    by_cases b : y % 4 = 0
    · have tb : (y % 4 == 0) = true := by simp [b]
      by_cases c : y % 100 = 0
      · have tc : (y % 100 != 0) = false := by simp [c]
        rw [if_neg (fun q => by have := hl.1 q; omega)]
        clear hl a b c
        go_enter Tryd.func54, Tryd.ntmps54
        go_wp2
        go_ret
        exact ⟨rfl, rfl⟩
      · have tc : (y % 100 != 0) = true := by simp [c]
        rw [if_pos (hl.2 (by omega))]
        clear hl a b c
        go_enter Tryd.func54, Tryd.ntmps54
        go_wp2
        go_ret
        exact ⟨rfl, rfl⟩
    · have tb : (y % 4 == 0) = false := by simp [b]
      rw [if_neg (fun q => by have := hl.1 q; omega)]
      clear hl a b
      go_enter Tryd.func54, Tryd.ntmps54
      go_wp2
      go_ret
      exact ⟨rfl, rfl⟩
set_option maxRecDepth 100000 in
theorem rmonth_any (y m : Int) (w : World) (h0 : 0 ≤ y) (h1 : y < 1000000) (hm0 : 1 ≤ m) (hm1 : m ≤ 12) :
    Calls Tryd.prog 55 #[.int .i64 y, .int .i64 m] w fun e w' => e = .returned (.int .i64 (monZ y m)) ∧ w = w' := by
  have HY : Hid (∀ w, Calls Tryd.prog 54 #[.int .i64 y] w fun e w' => e = .returned (.int .i64 (yearZ y)) ∧ w = w') := fun w => ryear_any y w h0 h1
  have hyr : yearZ y = 365 ∨ yearZ y = 366 := by unfold yearZ; split <;> simp
  have e2 : monZ y 2 = yearZ y - 337 := by
    unfold monZ msZ yearZ
    rw [show (2 : Int) + 1 = 3 from rfl, ah2, ah3]
    by_cases q : leapB y = true <;> simp [q]
  have e1 : monZ y 1 = 31 := by
    unfold monZ msZ
    rw [show (1 : Int) + 1 = 2 from rfl, ah1, ah2]
    by_cases q : leapB y = true <;> simp [q]
  have e3 : monZ y 3 = 31 := by
    unfold monZ msZ
    rw [show (3 : Int) + 1 = 4 from rfl, ah3, ah4]
    by_cases q : leapB y = true <;> simp [q]
  have e4 : monZ y 4 = 30 := by
    unfold monZ msZ
    rw [show (4 : Int) + 1 = 5 from rfl, ah4, ah5]
    by_cases q : leapB y = true <;> simp [q]
  have e5 : monZ y 5 = 31 := by
    unfold monZ msZ
    rw [show (5 : Int) + 1 = 6 from rfl, ah5, ah6]
    by_cases q : leapB y = true <;> simp [q]
  have e6 : monZ y 6 = 30 := by
    unfold monZ msZ
    rw [show (6 : Int) + 1 = 7 from rfl, ah6, ah7]
    by_cases q : leapB y = true <;> simp [q]
  have e7 : monZ y 7 = 31 := by
    unfold monZ msZ
    rw [show (7 : Int) + 1 = 8 from rfl, ah7, ah8]
    by_cases q : leapB y = true <;> simp [q]
  have e8 : monZ y 8 = 31 := by
    unfold monZ msZ
    rw [show (8 : Int) + 1 = 9 from rfl, ah8, ah9]
    by_cases q : leapB y = true <;> simp [q]
  have e9 : monZ y 9 = 30 := by
    unfold monZ msZ
    rw [show (9 : Int) + 1 = 10 from rfl, ah9, ah10]
    by_cases q : leapB y = true <;> simp [q]
  have e10 : monZ y 10 = 31 := by
    unfold monZ msZ
    rw [show (10 : Int) + 1 = 11 from rfl, ah10, ah11]
    by_cases q : leapB y = true <;> simp [q]
  have e11 : monZ y 11 = 30 := by
    unfold monZ msZ
    rw [show (11 : Int) + 1 = 12 from rfl, ah11, ah12]
    by_cases q : leapB y = true <;> simp [q]
  have e12 : monZ y 12 = 31 := by
    unfold monZ msZ
    rw [show (12 : Int) + 1 = 13 from rfl, ah12, ah13]
    by_cases q : leapB y = true <;> simp [q]
  rcases month_cases m hm0 (by omega) with rfl | rfl | rfl | rfl | rfl | rfl | rfl | rfl | rfl | rfl | rfl | rfl | rfl
  · rw [e1]
    clear e1 e2 e3 e4 e5 e6 e7 e8 e9 e10 e11 e12
    go_enter Tryd.func55, Tryd.ntmps55
    go_wp2
    go_ret
    exact ⟨rfl, rfl⟩
  · rw [e2]
    clear e1 e2 e3 e4 e5 e6 e7 e8 e9 e10 e11 e12
    generalize yearZ y = Y at HY hyr
    go_enter Tryd.func55, Tryd.ntmps55
    go_wp2_with fail
    refine (HY.out _).mono ?_
    rintro e w' ⟨rfl, rfl⟩
    go_wp2
    go_ret
    exact ⟨rfl, rfl⟩
  · rw [e3]
    clear e1 e2 e3 e4 e5 e6 e7 e8 e9 e10 e11 e12
    go_enter Tryd.func55, Tryd.ntmps55
    go_wp2
    go_ret
    exact ⟨rfl, rfl⟩
  · rw [e4]
    clear e1 e2 e3 e4 e5 e6 e7 e8 e9 e10 e11 e12
    go_enter Tryd.func55, Tryd.ntmps55
    go_wp2
    go_ret
    exact ⟨rfl, rfl⟩
  · rw [e5]
    clear e1 e2 e3 e4 e5 e6 e7 e8 e9 e10 e11 e12
    go_enter Tryd.func55, Tryd.ntmps55
    go_wp2
    go_ret
    exact ⟨rfl, rfl⟩
  · rw [e6]
    clear e1 e2 e3 e4 e5 e6 e7 e8 e9 e10 e11 e12
    go_enter Tryd.func55, Tryd.ntmps55
    go_wp2
    go_ret
    exact ⟨rfl, rfl⟩
  · rw [e7]
    clear e1 e2 e3 e4 e5 e6 e7 e8 e9 e10 e11 e12
    go_enter Tryd.func55, Tryd.ntmps55
    go_wp2
    go_ret
    exact ⟨rfl, rfl⟩
  · rw [e8]
    clear e1 e2 e3 e4 e5 e6 e7 e8 e9 e10 e11 e12
    go_enter Tryd.func55, Tryd.ntmps55
    go_wp2
    go_ret
    exact ⟨rfl, rfl⟩
  · rw [e9]
    clear e1 e2 e3 e4 e5 e6 e7 e8 e9 e10 e11 e12
    go_enter Tryd.func55, Tryd.ntmps55
    go_wp2
    go_ret
    exact ⟨rfl, rfl⟩
  · rw [e10]
    clear e1 e2 e3 e4 e5 e6 e7 e8 e9 e10 e11 e12
    go_enter Tryd.func55, Tryd.ntmps55
    go_wp2
    go_ret
    exact ⟨rfl, rfl⟩
  · rw [e11]
    clear e1 e2 e3 e4 e5 e6 e7 e8 e9 e10 e11 e12
    go_enter Tryd.func55, Tryd.ntmps55
    go_wp2
    go_ret
    exact ⟨rfl, rfl⟩
  · rw [e12]
    clear e1 e2 e3 e4 e5 e6 e7 e8 e9 e10 e11 e12
    go_enter Tryd.func55, Tryd.ntmps55
    go_wp2
    go_ret
    exact ⟨rfl, rfl⟩
  · omega
set_option maxRecDepth 100000 in
set_option maxHeartbeats 2000000 in
theorem rdays_any (y m d : Int) (w : World) (hy0 : -9223372036854775808 ≤ y) (hy1 : y ≤ 9223372036854775807) (hm0 : -9223372036854775808 ≤ m) (hm1 : m ≤ 9223372036854775807) (hd0 : -9223372036854775808 ≤ d) (hd1 : d ≤ 9223372036854775807) :
    Calls Tryd.prog 38 #[.int .i64 y, .int .i64 m, .int .i64 d] w fun e w' => e = .returned (.tuple #[.int .i64 (daysV y m d), .int .i64 (daysE y m d)]) ∧ w = w' := by
  unfold daysV daysE
  by_cases hb : 1970 ≤ y ∧ y ≤ 9999 ∧ 1 ≤ m ∧ m ≤ 12 ∧ 1 ≤ d
  · obtain ⟨b1, b2, b3, b4, b5⟩ := hb
    have k3 := mon_ge y m b3 b4
    have HM : Hid (∀ w, Calls Tryd.prog 55 #[.int .i64 y, .int .i64 m] w fun e w' => e = .returned (.int .i64 (monZ y m)) ∧ w = w') := fun w => rmonth_any y m w (by omega) (by omega) b3 b4
    by_cases g2 : d > monZ y m
    · have e1 : dayB y m d = false := by rw [← Bool.not_eq_true, day_iff]; omega
      rw [e1]; clear e1
      generalize monZ y m = M at *
      go_enter Tryd.func38, Tryd.ntmps38
      go_wp2_with fail
      refine (HM.out _).mono ?_
      rintro e w' ⟨rfl, rfl⟩
      go_wp2
      go_ret2
      exact ⟨rfl, rfl⟩
    · have e1 : dayB y m d = true := by rw [day_iff]; omega
      rw [e1]; clear e1
      have HE : Hid (daysZ y m d = ysZ y + msZ y m + (d - 1)) := rfl
      generalize hMM : monZ y m = M at *
      clear hMM
      go_enter Tryd.func38, Tryd.ntmps38
      go_wp2_with fail
      refine (HM.out _).mono ?_
      rintro e w' ⟨rfl, rfl⟩
      clear HM
      go_wp2
      go_loopw [8, 9] (fun a b wr => ∃ i : Int, a = .int .i64 (ysZ i) ∧ b = .int .i64 i ∧ 1970 ≤ i ∧ i ≤ y ∧ w = wr) (fun _ b _ => (y - intOf b).toNat)
      case atStart => exact ⟨1970, rfl, rfl, by omega, by omega, rfl⟩
      case round =>
        obtain ⟨i, rfl, rfl, hi0, hi1, rfl⟩ := hrel
        have k0 := ys_in i (by omega) (by omega)
        have hyr : yearZ i = 365 ∨ yearZ i = 366 := by unfold yearZ; split <;> simp
        have HN : Hid (ysZ (i + 1) = ysZ i + yearZ i) := ys_next i
        have HY : Hid (∀ w, Calls Tryd.prog 54 #[.int .i64 i] w fun e w' => e = .returned (.int .i64 (yearZ i)) ∧ w = w') := fun w => ryear_any i w (by omega) (by omega)
        by_cases hlt : i < y
        · generalize yearZ i = Y at HY hyr HN
          generalize hZ : ysZ i = Z at *
          clear hZ HE
          go_wp2_with fail
          refine (HY.out _).mono ?_
          rintro e w' ⟨rfl, rfl⟩
          go_wp2
          go_roundw
          case rel => exact ⟨i + 1, by rw [HN.out], rfl, by omega, by omega, trivial⟩
          case measure => simp [intOf]; omega
        · obtain rfl : i = y := by omega
          clear HY HN hyr
          have HMS : Hid (msZ i 1 = 0) := ms_first i
          have HMN : Hid (∀ j, monZ i j = msZ i (j + 1) - msZ i j) := fun j => rfl
          have HMB : Hid (∀ j, 1 ≤ j → j ≤ 13 → 0 ≤ msZ i j ∧ msZ i j ≤ 366) := fun j a b => ms_bound i j a b
          have HMC : Hid (∀ j, 1 ≤ j → j ≤ 12 → ∀ w, Calls Tryd.prog 55 #[.int .i64 i, .int .i64 j] w fun e w' => e = .returned (.int .i64 (monZ i j)) ∧ w = w') := fun j a b w => rmonth_any i j w (by omega) (by omega) a b
          generalize msZ i = S at *
          generalize ysZ i = Z at *
          go_wp2
          go_loopw [8, 10] (fun a b wr => ∃ j : Int, a = .int .i64 (Z + S j) ∧ b = .int .i64 j ∧ 1 ≤ j ∧ j ≤ m ∧ w = wr) (fun _ b _ => (m - intOf b).toNat)
          case atStart => exact ⟨1, by rw [HMS.out]; simp, rfl, by omega, by omega, rfl⟩
          case round =>
            obtain ⟨j, rfl, rfl, hj0, hj1, rfl⟩ := hrel
            have r0 := HMB.out j (by omega) (by omega)
            have HN := HMN.out j
            by_cases hlt2 : j < m
            · have r1 := HMB.out (j + 1) (by omega) (by omega)
              have HC := HMC.out j (by omega) (by omega) w
              have HCC : Hid (Calls Tryd.prog 55 #[.int .i64 i, .int .i64 j] w fun e w' => e = .returned (.int .i64 (monZ i j)) ∧ w = w') := HC
              have HNN : Hid (monZ i j = S (j + 1) - S j) := HN
              have hr2 : -366 ≤ monZ i j ∧ monZ i j ≤ 366 := by omega
              clear HC HN HE HMS HMN HMB HMC
              generalize monZ i j = X at *
              generalize hSj : S j = A at *
              generalize hSk : S (j + 1) = A1 at *
              go_wp2_with fail
              refine HCC.out.mono ?_
              rintro e w' ⟨rfl, rfl⟩
              go_wp2
              go_roundw
              case rel => exact ⟨j + 1, by rw [hSk]; have := HNN.out; congr 1; omega, rfl, by omega, by omega, trivial⟩
              case measure => simp [intOf]; omega
            · obtain rfl : j = m := by omega
              clear HN HMS HMN HMB HMC
              generalize S j = A at *
              go_wp2
              go_ret2
              have hD : daysZ i j d = Z + A + d - 1 := by have := HE.out; omega
              exact ⟨by rw [hD]; rfl, rfl⟩
  · have e1 : dayB y m d = false := by
      rw [← Bool.not_eq_true, day_iff]; intro h; exact hb ⟨h.1, h.2.1, h.2.2.1, h.2.2.2.1, h.2.2.2.2.1⟩
    rw [e1]; clear e1
    by_cases a0 : y < 1970
    · clear hb
      go_enter Tryd.func38, Tryd.ntmps38
      go_wp2
      go_ret2
      exact ⟨rfl, rfl⟩
    · skip
      by_cases a1 : y > 9999
      · clear hb
        go_enter Tryd.func38, Tryd.ntmps38
        go_wp2
        go_ret2
        exact ⟨rfl, rfl⟩
      · skip
        by_cases a2 : m < 1
        · clear hb
          go_enter Tryd.func38, Tryd.ntmps38
          go_wp2
          go_ret2
          exact ⟨rfl, rfl⟩
        · skip
          by_cases a3 : m > 12
          · clear hb
            go_enter Tryd.func38, Tryd.ntmps38
            go_wp2
            go_ret2
            exact ⟨rfl, rfl⟩
          · skip
            have a4 : d < 1 := by omega
            clear hb
            go_enter Tryd.func38, Tryd.ntmps38
            go_wp2
            go_ret2
            exact ⟨rfl, rfl⟩
set_option maxRecDepth 100000 in
theorem rcivil_no (n : Int) (w : World) (h : n < 0 ∨ 2932896 < n) (h0 : -9223372036854775808 ≤ n) (h1 : n ≤ 9223372036854775807) :
    Calls Tryd.prog 25 #[.int .i64 n] w fun e w' => e = .returned (.tuple #[.int .i64 0, .int .i64 0, .int .i64 0, .int .i64 110]) ∧ w = w' := by
  rcases h with h | h
  all_goals
    go_enter Tryd.func25, Tryd.ntmps25
    go_wp2
    try simp only [Exit.inBlock, Exit.then]
    refine bodyPost_ret (results_tmp4 rfl _ _ _) rfl ?_
    exact ⟨rfl, rfl⟩
set_option maxRecDepth 100000 in
set_option maxHeartbeats 2000000 in
theorem rcivil_yes (n : Int) (w : World) (h0 : 0 ≤ n) (h1 : n ≤ 2932896) :
    Calls Tryd.prog 25 #[.int .i64 n] w fun e w' => CAns n e ∧ w = w' := by
  go_enter Tryd.func25, Tryd.ntmps25
  go_wp2
  go_loopw [6, 7] (fun a b wr => ∃ y : Int, a = .int .i64 (n - ysZ y) ∧ b = .int .i64 y ∧ 1970 ≤ y ∧ y ≤ 9999 ∧ ysZ y ≤ n ∧ w = wr) (fun _ b _ => (10000 - intOf b).toNat)
  case atStart => exact ⟨1970, by rw [ys_first]; simp, rfl, by omega, by omega, by rw [ys_first]; exact h0, rfl⟩
  case round =>
    obtain ⟨y, rfl, rfl, hy0, hy1, hle, rfl⟩ := hrel
    have k0 := ys_in y (by omega) (by omega)
    have hyr : yearZ y = 365 ∨ yearZ y = 366 := by unfold yearZ; split <;> simp
    have HN : Hid (ysZ (y + 1) = ysZ y + yearZ y) := ys_next y
    have HY : Hid (∀ w, Calls Tryd.prog 54 #[.int .i64 y] w fun e w' => e = .returned (.int .i64 (yearZ y)) ∧ w = w') := fun w => ryear_any y w (by omega) (by omega)
    by_cases hlt : n - ysZ y ≥ yearZ y
    · have hy2 : y + 1 ≤ 9999 := by
        by_cases e : y = 9999
        · subst e; have := HN.out; rw [show (9999 : Int) + 1 = 10000 from rfl, ys_last] at this; omega
        · omega
      have HL : Hid (ysZ (y + 1) ≤ n) := by unfold Hid; have := HN.out; omega
      generalize yearZ y = Y at HY hyr HN hlt
      generalize hZ : ysZ y = Z at *
      clear hZ
      go_wp2_with fail
      refine (HY.out _).mono ?_
      rintro e w' ⟨rfl, rfl⟩
      go_wp2_with fail
      refine (HY.out _).mono ?_
      rintro e w' ⟨rfl, rfl⟩
      go_wp2
      go_roundw
      case rel => exact ⟨y + 1, by rw [HN.out]; congr 1; omega, rfl, by omega, hy2, HL.out, trivial⟩
      case measure => simp [intOf]; omega
    · have HC : Hid (∀ m, 1 ≤ m → m ≤ 12 → msZ y m ≤ n - ysZ y → n - ysZ y < msZ y (m + 1) → Civ n y m (n - ysZ y - msZ y m + 1)) := fun m a b c d => civ_mk n y m hy0 hle (by have := HN.out; omega) h1 a b c d
      have HMS : Hid (msZ y 1 = 0) := ms_first y
      have HMN : Hid (∀ j, monZ y j = msZ y (j + 1) - msZ y j) := fun j => rfl
      have HMB : Hid (∀ j, 1 ≤ j → j ≤ 13 → 0 ≤ msZ y j ∧ msZ y j ≤ 366) := fun j a b => ms_bound y j a b
      have HMC : Hid (∀ j, 1 ≤ j → j ≤ 12 → ∀ w, Calls Tryd.prog 55 #[.int .i64 y, .int .i64 j] w fun e w' => e = .returned (.int .i64 (monZ y j)) ∧ w = w') := fun j a b w => rmonth_any y j w (by omega) (by omega) a b
      have HX : Hid (n - ysZ y < msZ y 13) := by unfold Hid; rw [ms_last]; omega
      clear HN
      generalize yearZ y = Y at *
      generalize ysZ y = Z at *
      generalize msZ y = S at *
      go_wp2_with fail
      refine (HY.out _).mono ?_
      rintro e w' ⟨rfl, rfl⟩
      clear HY
      go_wp2
      go_loopw [6, 8] (fun a b wr => ∃ m : Int, a = .int .i64 (n - Z - S m) ∧ b = .int .i64 m ∧ 1 ≤ m ∧ m ≤ 12 ∧ S m ≤ n - Z ∧ w = wr) (fun _ b _ => (13 - intOf b).toNat)
      case atStart => exact ⟨1, by rw [HMS.out]; simp, rfl, by omega, by omega, by rw [HMS.out]; omega, rfl⟩
      case round =>
        obtain ⟨m, rfl, rfl, hm0, hm1, hle2, rfl⟩ := hrel
        have r0 := HMB.out m (by omega) (by omega)
        have r1 := HMB.out (m + 1) (by omega) (by omega)
        have HN := HMN.out m
        have HCC : Hid (Calls Tryd.prog 55 #[.int .i64 y, .int .i64 m] w fun e w' => e = .returned (.int .i64 (monZ y m)) ∧ w = w') := HMC.out m (by omega) (by omega) w
        have HNN : Hid (monZ y m = S (m + 1) - S m) := HN
        have hr2 : -366 ≤ monZ y m ∧ monZ y m ≤ 366 := by omega
        by_cases hlt2 : n - Z - S m ≥ monZ y m
        · have hm2 : m + 1 ≤ 12 := by
            by_cases e : m = 12
            · subst e; have := HX.out; rw [show (12 : Int) + 1 = 13 from rfl] at HN; omega
            · omega
          have HL : Hid (S (m + 1) ≤ n - Z) := by unfold Hid; omega
          clear HN HC HMS HMN HMB HMC HX
          generalize monZ y m = X at *
          generalize hSm : S m = A at *
          generalize hSk : S (m + 1) = A1 at *
          clear hSm
          go_wp2_with fail
          refine HCC.out.mono ?_
          rintro e w' ⟨rfl, rfl⟩
          go_wp2_with fail
          refine HCC.out.mono ?_
          rintro e w' ⟨rfl, rfl⟩
          go_wp2
          go_roundw
          case rel => exact ⟨m + 1, by rw [hSk]; have := HNN.out; congr 1; omega, rfl, by omega, hm2, by rw [hSk]; exact HL.out, trivial⟩
          case measure => simp [intOf]; omega
        · have HC2 : Hid (Civ n y m (n - Z - S m + 1)) := HC.out m (by omega) (by omega) hle2 (by omega)
          clear HN HNN HC HMS HMN HMB HMC HX r1
          generalize monZ y m = X at *
          generalize S m = A at *
          go_wp2_with fail
          refine HCC.out.mono ?_
          rintro e w' ⟨rfl, rfl⟩
          go_wp2
          try simp only [Exit.inBlock, Exit.then]
          refine bodyPost_ret (results_tmp4 rfl _ _ _) rfl ?_
          exact ⟨⟨y, m, _, HC2.out, rfl⟩, rfl⟩
end Go.Proofs.YtomcjkghneingaaDoor.Wn
