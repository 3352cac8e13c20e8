/-
  A number's day: the contract of Civil.
-/
import Derived.Test.YtomcjkghneingabDoorWDa
namespace Go.Proofs.YtomcjkghneingabDoor.Wn
open Go.RowKit
set_option linter.unusedVariables false

theorem results_tmp4 {fn : Func} {t u v x : Tmp} (h : fn.results = #[.tmp t, .tmp u, .tmp v, .tmp x]) (tmps : Array Value) (P : Program) (w : World) :
    (results fn tmps).run P w = .ok (.tuple #[tmps.getD t undef, tmps.getD u undef, tmps.getD v undef, tmps.getD x undef]) w := by
  simp [results, h]
theorem jump_noGoto {Q : Exit → Act → World → Prop} {a : Act} {w : World} : Exit.noGoto Q .ret a w = Q .ret a w := rfl
/-- What Civil answers. -/
def CAns (n : Int) (e : Ending) : Prop := ∃ y m d, Civ n y m d ∧ e = .returned (.tuple #[.int .i64 y, .int .i64 m, .int .i64 d, .int .i64 0])
set_option maxRecDepth 100000 in
theorem civil_no (n : Int) (w : World) (h : n < 0 ∨ 2932896 < n) (h0 : -9223372036854775808 ≤ n) (h1 : n ≤ 9223372036854775807) :
    Calls Tryd.prog 10 #[.int .i64 n] w fun e w' => e = .returned (.tuple #[.int .i64 0, .int .i64 0, .int .i64 0, .int .i64 110]) ∧ w = w' := by
  rcases h with h | h
  · go_enter Tryd.func10, Tryd.ntmps10
    go_wp2
    try simp only [Exit.inBlock, Exit.then]
    refine bodyPost_ret (results_tmp4 rfl _ _ _) rfl ?_
    exact ⟨rfl, rfl⟩
  · go_enter Tryd.func10, Tryd.ntmps10
    go_wp2
    try simp only [Exit.inBlock, Exit.then]
    refine bodyPost_ret (results_tmp4 rfl _ _ _) rfl ?_
    exact ⟨rfl, rfl⟩
set_option maxRecDepth 100000 in
set_option maxHeartbeats 1000000 in
theorem civil_yes (n : Int) (w : World) (h0 : 0 ≤ n) (h1 : n ≤ 2932896) (hA : Ah w) :
    Calls Tryd.prog 10 #[.int .i64 n] w fun e w' => CAns n e ∧ w = w' := by
  have HA : Hid (Ah w) := hA
  clear hA
  go_enter Tryd.func10, Tryd.ntmps10
  go_wp2
  go_loopw [6] (fun i wr => ∃ y : Int, i = .int .i64 y ∧ 1970 ≤ y ∧ y ≤ 9999 ∧ ysZ y ≤ n ∧ w = wr) (fun i _ => (10000 - intOf i).toNat)
  case atStart => exact ⟨1970 + n / 366, rfl, by omega, by omega, ys_guess n h0, rfl⟩
  case round =>
    obtain ⟨y, rfl, hy0, hy1, hle, rfl⟩ := hrel
    have k1 := ys_in (y + 1) (by omega) (by omega)
    have k0 := ys_in y (by omega) (by omega)
    have HL : Hid (ysZ y ≤ n) := hle
    have c1 : Hid (∀ w, Calls Tryd.prog 24 #[.int .i64 (y + 1)] w fun e w' => e = .returned (.int .i64 (ysZ (y + 1))) ∧ w = w') := fun w => yearStart_any (y + 1) w (by omega) (by omega)
    have c0 : Hid (∀ w, Calls Tryd.prog 24 #[.int .i64 y] w fun e w' => e = .returned (.int .i64 (ysZ y)) ∧ w = w') := fun w => yearStart_any y w (by omega) (by omega)
    by_cases hlt : ysZ (y + 1) ≤ n
    · have hy2 : y + 1 ≤ 9999 := by
        have := ys_last
        by_cases e : y = 9999
        · subst e; rw [show (9999 : Int) + 1 = 10000 from rfl, ys_last] at hlt; omega
        · omega
      have HN : Hid (ysZ (y + 1) ≤ n) := hlt
      generalize ysZ (y + 1) = Y1 at k1 c1 hlt
      clear k0 hle c0
      go_wp2_with fail
      refine (c1.out _).mono ?_
      rintro e w' ⟨rfl, rfl⟩
      go_wp2
      go_roundw
      case rel => exact ⟨y + 1, rfl, by omega, hy2, HN.out, trivial⟩
      case measure => simp [intOf]; omega
    · have HN : Hid (n < ysZ (y + 1)) := by unfold Hid; omega
      have HY : Hid (ysZ (y + 1) = ysZ y + yearZ y) := ys_next y
      have HC : Hid (∀ m, 1 ≤ m → m ≤ 12 → msZ y m ≤ n - ysZ y → n - ysZ y < msZ y (m + 1) → Civ n y m (n - ysZ y - msZ y m + 1)) := fun m a b c d => civ_mk n y m hy0 HL.out HN.out h1 a b c d
      have HM : Hid (∀ m, 1 ≤ m → m ≤ 13 → ∀ w, Ah w → Calls Tryd.prog 25 #[.int .i64 y, .int .i64 m] w fun e w' => e = .returned (.int .i64 (msZ y m)) ∧ w = w') := fun m a b w h => monthStart_any y m w (by omega) (by omega) a b h
      have HX : Hid (n - ysZ y < msZ y 13) := by
        unfold Hid; rw [ms_last]; have a := HN.out; have b := HY.out; omega
      have HB : Hid (∀ m, 1 ≤ m → m ≤ 13 → 0 ≤ msZ y m ∧ msZ y m ≤ 366) := fun m a b => ms_bound y m a b
      have H1 : Hid (msZ y 1 = 0) := ms_first y
      clear HY HN
      generalize ysZ (y + 1) = Y1 at k1 c1 hlt
      generalize ysZ y = Y at *
      clear HL
      generalize msZ y = M at *
      go_wp2_with fail
      refine (c1.out _).mono ?_
      rintro e w' ⟨rfl, rfl⟩
      go_wp2_with fail
      refine (c0.out _).mono ?_
      rintro e w' ⟨rfl, rfl⟩
      go_wp2
      go_loopw [8] (fun i wr => ∃ m : Int, i = .int .i64 m ∧ 1 ≤ m ∧ m ≤ 12 ∧ M m ≤ n - Y ∧ w = wr) (fun i _ => (13 - intOf i).toNat)
      case atStart => exact ⟨1, rfl, by omega, by omega, by rw [H1.out]; omega, rfl⟩
      case round =>
        obtain ⟨m, rfl, hm0, hm1, hle2, rfl⟩ := hrel
        have HL : Hid (M m ≤ n - Y) := hle2
        have d1 := HM.out (m + 1) (by omega) (by omega) w HA.out
        have d0 := HM.out m (by omega) (by omega) w HA.out
        have D1 : Hid (Calls Tryd.prog 25 #[.int .i64 y, .int .i64 (m + 1)] w fun e w' => e = .returned (.int .i64 (M (m + 1))) ∧ w = w') := d1
        have D0 : Hid (Calls Tryd.prog 25 #[.int .i64 y, .int .i64 m] w fun e w' => e = .returned (.int .i64 (M m)) ∧ w = w') := d0
        have r1 := HB.out (m + 1) (by omega) (by omega)
        have r0 := HB.out m (by omega) (by omega)
        clear d1 d0 hle2
        by_cases hlt2 : M (m + 1) ≤ n - Y
        · have hm2 : m + 1 ≤ 12 := by
            by_cases e : m = 12
            · subst e; have := HX.out; rw [show (12 : Int) + 1 = 13 from rfl] at hlt2; omega
            · omega
          have HN : Hid (M (m + 1) ≤ n - Y) := hlt2
          clear D0 r0 HM HX HC HB H1 c0 c1
          generalize hMM : M (m + 1) = M1 at r1 D1 hlt2
          clear hMM
          go_wp2_with fail
          refine (D1.out).mono ?_
          rintro e w' ⟨rfl, rfl⟩
          go_wp2
          go_roundw
          case rel => exact ⟨m + 1, rfl, by omega, hm2, HN.out, trivial⟩
          case measure => simp [intOf]; omega
        · have HCC := HC.out m (by omega) (by omega) HL.out (by omega)
          have HC2 : Hid (Civ n y m (n - Y - M m + 1)) := HCC
          clear HCC HM HX HC HB H1 c0 c1 HL
          generalize M (m + 1) = M1 at r1 D1 hlt2
          generalize M m = M0 at r0 D0 HC2
          go_wp2_with fail
          refine (D1.out).mono ?_
          rintro e w' ⟨rfl, rfl⟩
          go_wp2_with fail
          refine (D0.out).mono ?_
          rintro e w' ⟨rfl, rfl⟩
          go_wp2
          try simp only [Exit.inBlock, Exit.then]
          refine bodyPost_ret (results_tmp4 rfl _ _ _) rfl ?_
          exact ⟨⟨y, m, _, HC2.out, rfl⟩, rfl⟩
end Go.Proofs.YtomcjkghneingabDoor.Wn
