/-
  For every day that is a 64-bit number and lies in the days that there are: its weekday is the one behind that of the day ahead of it, and that of seven days ahead. Conditions: the listed tables of the library are tied to the pruned copy of the project that the seat holds, and say nothing of its other packages, commands or tests.
-/
import Derived.Test.YtomcjkghneingabDoorCards
import Derived.Test.YtomcjkghneingabDoorTie
import Derived.Test.YtomcjkghneingabDoorLa
import Derived.WalkKit
import Derived.ProofKit
import Derived.OpenShut
import Derived.ShutString
import Derived.ChangeOld
import Derived.Below
import Derived.LaidMore
import Derived.Lay
import Derived.SevenTiedAt
import Derived.Stop.Joined
namespace Go.Proofs.YtomcjkghneingabDoor.dateWeeks
open Go.ChangeShapes Go.WideShapes Go.ChangeAt Go.RowKit
open Go.ChangeMaps (open_string shut_string)
set_option linter.unusedVariables false

set_option maxHeartbeats 8000000 in
set_option maxRecDepth 100000 in
theorem walk (n : Int) (W : World) (n0 : -9223372036854775808 ≤ n) (n1 : n ≤ 9223372036854775807) (hg : Gz W) :
    Calls Tryd.prog 3 #[.int .i64 n] W fun e W' => e = .returned (.bool true) ∧ Below W.heap.size W W' := by
  have ha := alive_any W hg
  by_cases h : n < 7
  · have d1 : decide (n < 7) = true := decide_eq_true h
    go_enter Tryd.func3, Tryd.ntmps3
    go_wp2_with fail
    refine ha.mono ?_
    rintro e w2 ⟨rfl, hb2⟩
    go_wp2
    go_ret
    exact ⟨rfl, hb2⟩
  · by_cases h2 : 2932896 < n
    · have d1 : decide (n < 7) = false := decide_eq_false h
      have d2 : decide (n > 2932896) = true := decide_eq_true h2
      go_enter Tryd.func3, Tryd.ntmps3
      go_wp2_with fail
      refine ha.mono ?_
      rintro e w2 ⟨rfl, hb2⟩
      go_wp2
      go_ret
      exact ⟨rfl, hb2⟩
    · have d1 : decide (n < 7) = false := decide_eq_false h
      have d2 : decide (n > 2932896) = false := decide_eq_false h2
      have h1 := wd_yes n W (by omega) (by omega) hg.ah
      have h3 := wd_yes (n - 1) W (by omega) (by omega) hg.ah
      have h7 := wd_yes (n - 7) W (by omega) (by omega) hg.ah
      obtain ⟨a, hA⟩ : ∃ a, wdZ n = a := ⟨_, rfl⟩
      obtain ⟨b, hB⟩ : ∃ b, wdZ (n - 1) = b := ⟨_, rfl⟩
      have hC : wdZ (n - 7) = a := by rw [← hA]; unfold wdZ; omega
      have a0 : 0 ≤ a := by rw [← hA]; unfold wdZ; omega
      have a1 : a < 7 := by rw [← hA]; unfold wdZ; omega
      have b0 : 0 ≤ b := by rw [← hB]; unfold wdZ; omega
      have b1 : b < 7 := by rw [← hB]; unfold wdZ; omega
      have hm : (b + 1) % 7 = a := by rw [← hA, ← hB]; unfold wdZ; omega
      have ht : Int.tmod (b + 1) 7 = a := by rw [Int.tmod_eq_emod_of_nonneg (by omega)]; exact hm
      rw [hA] at h1
      rw [hB] at h3
      rw [hC] at h7
      clear hA hB hC
      have e1 : decide (0 ≤ a) = true := decide_eq_true a0
      have e2 : decide (a < 7) = true := decide_eq_true a1
      go_enter Tryd.func3, Tryd.ntmps3
      go_wp2_with fail
      refine h1.mono ?_
      rintro e w' ⟨rfl, hw'⟩
      rw [← hw']
      clear hw' w'
      go_wp2_with fail
      refine h3.mono ?_
      rintro e w' ⟨rfl, hw'⟩
      rw [← hw']
      clear hw' w'
      go_wp2_with fail
      refine h7.mono ?_
      rintro e w' ⟨rfl, hw'⟩
      rw [← hw']
      clear hw' w'
      go_wp2_with fail
      refine ha.mono ?_
      rintro e w2 ⟨rfl, hb2⟩
      go_wp2
      go_ret
      exact ⟨by first | rfl | simp, hb2⟩

set_option maxRecDepth 100000 in
theorem lifted (os : Os) (started : os.Started) (H : Type) (enc : TypeId × Value → H) :
    ReturnsInHanded {} Tryd.checked os 3 .any (fun w args => (Rows.dateWeeksSpec.pre enc Tryd.prog Tryd.f3 Rows.dateWeeksRow.domain false w args ∧ laidMetH Tryd.prog Rows.dateWeeksRow.laid w) ∧ sizedMet enc Tryd.prog Tryd.f3 (OpenSpec.ofChange Rows.dateWeeksSpec) false w args)
      (Rows.dateWeeksSpec.post enc Tryd.prog Tryd.f3 false true false false) := by
  refine returnsInHanded_of_change_and (C := Tryd.checked) (X := fun w _ => laidMetH Tryd.prog Rows.dateWeeksRow.laid w) (fun _ _ _ hh h => h.of_heap hh) own started (by kernel_rfl) Tryd.func3
    (ChangeSpec.witness_shaped (enc := enc) (C := Tryd.checked) (os := os) (X := fun w _ => laidMetH Tryd.prog Rows.dateWeeksRow.laid w) false (World.laidAll Tryd.prog os Rows.dateWeeksRow.laid) #[.int .i64 0] 8 (World.laidAll_os _ _ _)
      (World.shaped_of_ZipB (by kernel_rfl) (by kernel_rfl)) (by kernel_rfl) (by kernel_rfl) (by kernel_rfl)
      (by rw [MakeChecks.laidMetH_plain _ _ _ (by kernel_rfl)]; exact laidMet_laidAll _ (by kernel_rfl) (by kernel_rfl))) ?_
  intro W base args ds gs before hval0 hW hcnd _ hL0 _
  have hL : laidMet Tryd.prog Rows.dateWeeksRow.laid W := by
    have : laidMetH Tryd.prog Rows.dateWeeksRow.laid W := hL0
    rwa [MakeChecks.laidMetH_plain _ _ _ (by kernel_rfl)] at this
  have hval : ∀ (j : Nat) t v, Tryd.f3.params[j]? = some t → args[j]? = some v → Value.okWide Tryd.prog W .any base t v := hval0
  have hW' := hW
  obtain ⟨p, q, hA0, hV, rfl, hfz, hnd⟩ := hW
  have hA : DataW.TrodAll enc Tryd.prog W 0 (fun _ => true) true Tryd.f3.params.toList args.toList ds p := hA0
  rw [Tryd.params3] at hA hval
  obtain ⟨v0, vs0, d0, ds0, p0, q0, hargs, rfl, rfl, h0, r0⟩ := trodAll_cons hA
  obtain ⟨rfl, rfl, rfl⟩ := trodAll_nil r0
  obtain rfl : args = #[v0] := by cases args; simp_all
  obtain ⟨rfl, rfl⟩ := trodVars_none hV
  obtain ⟨a0, rfl, rfl, rfl, w0⟩ := open_int Tryd.underlying2 (hval 0 2 v0 rfl rfl) h0
  have b0 := bounds_i64 w0
  clear hA0 hval0
  have hGz : Gz W := gz_of hL
  simp only [List.append_nil] at hW'
  refine (walk a0 W b0.1 b0.2 hGz).mono fun e W' ⟨he, bel⟩ => ?_
  subst he
  exact ⟨_, rfl, _, _, _, [], _, [], hW', trodAll_mk1 (shut_bool Tryd.underlying4 _), (trodAll_cons_mk (shut_int Tryd.underlying2 w0) trodAll_mk0), rfl, bel.frame _, fun h => by cases h⟩

theorem over : Rows.DateWeeksSaid :=
  OpenClaim.holds_of_wide 3 Tryd.f3 rfl rfl rfl rfl rfl rfl rfl ⟨rfl, rfl, rfl, rfl, rfl⟩ rfl rfl rfl rfl rfl (by kernel_rfl) Tryd.func3 (by kernel_rfl)
    (of_decide_eq_true (by kernel_rfl)) (by unfold Func.isWrapper; first | (rw [if_pos (by decide +kernel)]; kernel_rfl) | (rw [if_neg (by decide +kernel)]; exact ⟨rfl, rfl⟩))
    (fun os started H enc _ => lifted os started H enc)
end Go.Proofs.YtomcjkghneingabDoor.dateWeeks
namespace Go.Proofs.YtomcjkghneingabDoor
theorem dateWeeks_card : Rows.DateWeeksCardSaid :=
  Claim7.holds_tied_plain_at .later [] _ _ _ _ dateWeeks.over (fun _ h => by cases h) (by kernel_rfl) (fun _ h => by cases h) dateWeeks_row_tie rfl ⟨rfl, rfl⟩ (by kernel_rfl) rfl
    (fun f fn hf hfn => by
      obtain rfl : f = 3 := Option.some.inj ((show Tryd.prog.funcNamed Rows.dateWeeksRow.func = some 3 by kernel_rfl).symm.trans hf) |>.symm
      obtain rfl : fn = Tryd.f3 := (Option.some.inj (Tryd.func3.symm.trans hfn)).symm
      exact ⟨by kernel_rfl, fun j t ht => by
        rw [Tryd.params3] at ht
        have hm : t ∈ [2] := by simpa using Array.mem_of_getElem? ht
        have hall : ([2].all fun u => !Tryd.prog.wantsStandIn u) = true := by kernel_rfl
        exact (show Tryd.prog.wantsStandIn t = false by simpa using List.all_eq_true.1 hall t hm)⟩)
    (by kernel_rfl)
#print axioms dateWeeks_card
end Go.Proofs.YtomcjkghneingabDoor
