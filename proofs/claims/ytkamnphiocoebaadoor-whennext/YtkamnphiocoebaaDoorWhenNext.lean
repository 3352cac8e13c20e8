/-
  For every number the law WhenNext returns true (the day behind a day is the next one), and the number reads as before: no condition but the listed tables, which are tied to the program's text.
-/
import Derived.Test.YtkamnphiocoebaaDoorCards
import Derived.Test.YtkamnphiocoebaaDoorTie
import Derived.Test.YtkamnphiocoebaaDoorLa
import Derived.WalkKit
import Derived.ProofKit
import Derived.OpenShut
import Derived.ShutString
import Derived.ChangeOld
import Derived.Below
import Derived.LaidMore
import Derived.Lay
import Derived.SevenTiedAt
import Derived.Stop.Joined
namespace Go.Proofs.YtkamnphiocoebaaDoor.whenNext
open Go.ChangeShapes Go.WideShapes Go.ChangeAt Go.RowKit
open Go.ChangeMaps (open_string shut_string)
set_option linter.unusedVariables false

theorem next_day {n y m d : Int} (h : Civ n y m d) (hn : n < 2932896) :
    (dayB y m (d + 1) = true ∧ Civ (n + 1) y m (d + 1)) ∨ (dayB y m (d + 1) = false ∧ m < 12 ∧ Civ (n + 1) y (m + 1) 1 ∧ 28 ≤ d) ∨ (dayB y m (d + 1) = false ∧ m = 12 ∧ Civ (n + 1) (y + 1) 1 1 ∧ d = 31) := by
  have hd := (day_iff _ _ _).1 h.hd
  obtain ⟨a1, a2, a3, a4, a5, a6⟩ := hd
  have hmon := mon_ge y m a3 a4
  have hn' := h.hn
  by_cases hb : dayB y m (d + 1) = true
  · left
    exact ⟨hb, hb, by rw [← hn']; unfold daysZ; omega⟩
  · right
    have hb' : dayB y m (d + 1) = false := by simpa using hb
    have hdm : d = monZ y m := by
      have : ¬ (d + 1 ≤ monZ y m) := fun q => hb ((day_iff _ _ _).2 ⟨a1, a2, a3, a4, by omega, q⟩)
      omega
    by_cases hm : m < 12
    · left
      have h2 := mon_ge y (m + 1) (by omega) (by omega)
      refine ⟨hb', hm, ⟨(day_iff _ _ _).2 ⟨a1, a2, by omega, by omega, by omega, by omega⟩, ?_⟩, by omega⟩
      rw [← hn']; unfold daysZ; unfold monZ at hdm; omega
    · right
      obtain rfl : m = 12 := by omega
      have hy : y < 9999 := by
        by_cases e : y = 9999
        · subst e
          have k := ys_next 9999
          rw [show (9999 : Int) + 1 = 10000 from rfl, ys_last] at k
          have k2 := ms_last 9999
          unfold daysZ at hn'
          unfold monZ at hdm
          rw [show (12 : Int) + 1 = 13 from rfl, k2] at hdm
          omega
        · omega
      have h31 : monZ y 12 = 31 := by
        unfold monZ msZ
        rw [show (12 : Int) + 1 = 13 from rfl, ah12, ah13]
        by_cases q : leapB y = true <;> simp [q]
      have h2 := mon_ge (y + 1) 1 (by omega) (by omega)
      refine ⟨hb', rfl, ⟨(day_iff _ _ _).2 ⟨by omega, by omega, by omega, by omega, by omega, by omega⟩, ?_⟩, by omega⟩
      rw [← hn']; unfold daysZ
      rw [ys_next, ms_first]
      have k2 := ms_last y
      unfold monZ at hdm
      rw [show (12 : Int) + 1 = 13 from rfl, k2] at hdm
      omega
set_option maxHeartbeats 2000000 in
theorem walk (n : Int) (w : World) (hn0 : -9223372036854775808 ≤ n) (hn1 : n ≤ 9223372036854775807) (hA : Ah w) (hP : Pl w) (hT : Tb w) :
    Calls Tryd.prog 7 #[.int .i64 n] w fun e w' => e = .returned (.bool true) ∧ Below w.heap.size w w' := by
  have HA : Hid (Ah w) := hA
  have AL : Hid (Calls Tryd.prog 13 #[] w fun e w' => e = .returned (.bool true) ∧ Below w.heap.size w w') := alive_any w hA hP hT
  clear hA hP hT
  by_cases h0 : n < 0
  · go_enter Tryd.func7, Tryd.ntmps7
    go_wp2_with fail
    refine AL.out.mono ?_
    rintro e w1 ⟨rfl, hb⟩
    have HB : Hid (Below w.heap.size w w1) := hb
    clear hb
    go_wp2
    go_ret
    exact ⟨rfl, HB.out⟩
  · by_cases h1 : 2932896 ≤ n
    · go_enter Tryd.func7, Tryd.ntmps7
      go_wp2_with fail
      refine AL.out.mono ?_
      rintro e w1 ⟨rfl, hb⟩
      have HB : Hid (Below w.heap.size w w1) := hb
      clear hb
      go_wp2
      go_ret
      exact ⟨rfl, HB.out⟩
    · have C0 := civil_yes n w (by omega) (by omega) HA.out
      have C1 := civil_yes (n + 1) w (by omega) (by omega) HA.out
      go_enter Tryd.func7, Tryd.ntmps7
      go_wp2_with fail
      refine C0.mono ?_
      rintro e w1 ⟨⟨y, m, d, hc, rfl⟩, rfl⟩
      have hcd := (day_iff _ _ _).1 hc.hd
      have hm31 := (mon_ge y m hcd.2.2.1 hcd.2.2.2.1).2
      have HC : Hid (Civ n y m d) := hc
      have y0 : 1970 ≤ y := by omega
      have y1 : y ≤ 9999 := by omega
      have m0 : 1 ≤ m := by omega
      have m1 : m ≤ 12 := by omega
      have d0 : 1 ≤ d := by omega
      have d1 : d ≤ 31 := by omega
      clear hc hcd hm31 C0
      go_wp2_with fail
      refine C1.mono ?_
      rintro e w1 ⟨⟨y', m', d', hc', rfl⟩, rfl⟩
      have D0 := days_any y m (d + 1) w (by omega) (by omega) (by omega) (by omega) (by omega) (by omega) HA.out
      unfold daysV daysE at D0
      clear C1
      rcases next_day HC.out (by omega) with ⟨hb, hc2⟩ | ⟨hb, hm, hc2, h28⟩ | ⟨hb, rfl, hc2, rfl⟩
      · obtain ⟨rfl, rfl, rfl⟩ := civ_one hc' hc2
        rw [if_pos hb, if_pos hb] at D0
        generalize daysZ y' m' (d + 1) = D at D0
        clear hb hc2 hc' HC
        go_wp2_with fail
        refine D0.mono ?_
        rintro e w1 ⟨rfl, rfl⟩
        go_wp2_with fail
        refine AL.out.mono ?_
        rintro e w1 ⟨rfl, hb⟩
        have HB : Hid (Below w.heap.size w w1) := hb
        clear hb
        go_wp2
        go_ret
        exact ⟨rfl, HB.out⟩
      · obtain ⟨rfl, rfl, rfl⟩ := civ_one hc' hc2
        rw [if_neg (by rw [hb]; simp), if_neg (by rw [hb]; simp)] at D0
        clear hb hc2 hc' HC
        go_wp2_with fail
        refine D0.mono ?_
        rintro e w1 ⟨rfl, rfl⟩
        go_wp2_with fail
        refine AL.out.mono ?_
        rintro e w1 ⟨rfl, hb⟩
        have HB : Hid (Below w.heap.size w w1) := hb
        clear hb
        go_wp2
        go_ret
        exact ⟨rfl, HB.out⟩
      · obtain ⟨rfl, rfl, rfl⟩ := civ_one hc' hc2
        rw [if_neg (by rw [hb]; simp), if_neg (by rw [hb]; simp)] at D0
        clear hb hc2 hc' HC
        go_wp2_with fail
        refine D0.mono ?_
        rintro e w1 ⟨rfl, rfl⟩
        go_wp2_with fail
        refine AL.out.mono ?_
        rintro e w1 ⟨rfl, hb⟩
        have HB : Hid (Below w.heap.size w w1) := hb
        clear hb
        go_wp2
        go_ret
        exact ⟨rfl, HB.out⟩

set_option maxRecDepth 100000 in
theorem lifted (os : Os) (started : os.Started) (H : Type) (enc : TypeId × Value → H) :
    ReturnsInHanded {} Tryd.checked os 7 .any (fun w args => (Rows.whenNextSpec.pre enc Tryd.prog Tryd.f7 Rows.whenNextRow.domain false w args ∧ laidMetH Tryd.prog Rows.whenNextRow.laid w) ∧ sizedMet enc Tryd.prog Tryd.f7 (OpenSpec.ofChange Rows.whenNextSpec) false w args)
      (Rows.whenNextSpec.post enc Tryd.prog Tryd.f7 false true false false) := by
  refine returnsInHanded_of_change_and (C := Tryd.checked) (X := fun w _ => laidMetH Tryd.prog Rows.whenNextRow.laid w) (fun _ _ _ hh h => h.of_heap hh) own started (by kernel_rfl) Tryd.func7
    (ChangeSpec.witness_shaped (enc := enc) (C := Tryd.checked) (os := os) (X := fun w _ => laidMetH Tryd.prog Rows.whenNextRow.laid w) false (World.laidAll Tryd.prog os Rows.whenNextRow.laid) #[.int .i64 0] 8 (World.laidAll_os _ _ _)
      (World.shaped_of_ZipB (by kernel_rfl) (by kernel_rfl)) (by kernel_rfl) (by kernel_rfl) (by kernel_rfl)
      (by rw [MakeChecks.laidMetH_plain _ _ _ (by kernel_rfl)]; exact laidMet_laidAll _ (by kernel_rfl) (by kernel_rfl))) ?_
  intro W base args ds gs before hval0 hW hcnd _ hL0 _
  have hL : laidMet Tryd.prog Rows.whenNextRow.laid W := by
    have : laidMetH Tryd.prog Rows.whenNextRow.laid W := hL0
    rwa [MakeChecks.laidMetH_plain _ _ _ (by kernel_rfl)] at this
  have hval : ∀ (j : Nat) t v, Tryd.f7.params[j]? = some t → args[j]? = some v → Value.okWide Tryd.prog W .any base t v := hval0
  have hW' := hW
  obtain ⟨p, q, hA0, hV, rfl, hfz, hnd⟩ := hW
  have hA : DataW.TrodAll enc Tryd.prog W 0 (fun _ => true) true Tryd.f7.params.toList args.toList ds p := hA0
  rw [Tryd.params7] at hA hval
  obtain ⟨v0, vs0, d0, ds0, p0, q0, hargs, rfl, rfl, h0, r0⟩ := trodAll_cons hA
  obtain ⟨rfl, rfl, rfl⟩ := trodAll_nil r0
  obtain rfl : args = #[v0] := by cases args; simp_all
  obtain ⟨rfl, rfl⟩ := trodVars_none hV
  obtain ⟨a0, rfl, rfl, rfl, w0⟩ := open_int Tryd.underlying2 (hval 0 2 v0 rfl rfl) h0
  have b0 := bounds_i64 w0
  clear hA0 hval0
  have t0 := laidMet.tail (laidMet.tail hL)
  have hT := pow_of t0
  have hAh := ahead_of (laidMet.tail t0)
  have hPl := places_of (laidMet.tail (laidMet.tail t0))

  simp only [List.append_nil] at hW'
  refine (walk a0 W b0.1 b0.2 hAh hPl hT).mono fun e W' ⟨he, bel⟩ => ?_
  subst he
  exact ⟨_, rfl, _, _, _, [], _, [], hW', trodAll_mk1 (shut_bool Tryd.underlying4 _), (trodAll_cons_mk (shut_int Tryd.underlying2 w0) trodAll_mk0), rfl, bel.frame _, fun h => by cases h⟩

theorem over : Rows.WhenNextSaid :=
  OpenClaim.holds_of_wide 7 Tryd.f7 rfl rfl rfl rfl rfl rfl rfl ⟨rfl, rfl, rfl, rfl, rfl⟩ rfl rfl rfl rfl rfl (by kernel_rfl) Tryd.func7 (by kernel_rfl)
    (of_decide_eq_true (by kernel_rfl)) (by unfold Func.isWrapper; first | (rw [if_pos (by decide +kernel)]; kernel_rfl) | (rw [if_neg (by decide +kernel)]; exact ⟨rfl, rfl⟩))
    (fun os started H enc _ => lifted os started H enc)
end Go.Proofs.YtkamnphiocoebaaDoor.whenNext
namespace Go.Proofs.YtkamnphiocoebaaDoor
theorem whenNext_card : Rows.WhenNextCardSaid :=
  Claim7.holds_tied_plain_at .later [] _ _ _ _ whenNext.over (fun _ h => by cases h) (by kernel_rfl) (fun _ h => by cases h) whenNext_row_tie rfl ⟨rfl, rfl⟩ (by kernel_rfl) rfl
    (fun f fn hf hfn => by
      obtain rfl : f = 7 := Option.some.inj ((show Tryd.prog.funcNamed Rows.whenNextRow.func = some 7 by kernel_rfl).symm.trans hf) |>.symm
      obtain rfl : fn = Tryd.f7 := (Option.some.inj (Tryd.func7.symm.trans hfn)).symm
      exact ⟨by kernel_rfl, fun j t ht => by
        rw [Tryd.params7] at ht
        have hm : t ∈ [2] := by simpa using Array.mem_of_getElem? ht
        have hall : ([2].all fun u => !Tryd.prog.wantsStandIn u) = true := by kernel_rfl
        exact (show Tryd.prog.wantsStandIn t = false by simpa using List.all_eq_true.1 hall t hm)⟩)
    (by kernel_rfl)
#print axioms whenNext_card
end Go.Proofs.YtkamnphiocoebaaDoor
