/-
  For every time, shift and day that are 64-bit numbers: the date is written as the document writes it, or is none, and the day has the weekday that the document tells, or none. Conditions: the listed tables of the library are tied to the pruned copy of the project that the seat holds, and say nothing of its other packages, commands or tests.
-/
import Derived.Test.YtomcjkghneingaaDoorCards
import Derived.Test.YtomcjkghneingaaDoorTie
import Derived.Test.YtomcjkghneingaaDoorTv
import Derived.WalkKit
import Derived.ProofKit
import Derived.OpenShut
import Derived.ShutString
import Derived.ChangeOld
import Derived.Below
import Derived.LaidMore
import Derived.Lay
import Derived.SevenTiedAt
import Derived.Stop.Joined
namespace Go.Proofs.YtomcjkghneingaaDoor.datePrints
open Go.ChangeShapes Go.WideShapes Go.ChangeAt Go.RowKit
open Go.ChangeMaps (open_string shut_string)
set_option linter.unusedVariables false

theorem civ_one {n y m d y' m' d' : Int} (h : Wn.Civ n y m d) (h' : Wn.Civ n y' m' d') : y = y' ∧ m = m' ∧ d = d' := Wn.days_inj y m d y' m' d' h.hd h'.hd (h.hn.trans h'.hn.symm)
theorem week_both (n : Int) (n0 : -9223372036854775808 ≤ n) (n1 : n ≤ 9223372036854775807) : ∃ a b : Int, (∀ V, Wn.Ah V → Calls Tryd.prog 11 #[.int .i64 n] V fun e w' => e = .returned (.tuple #[.int .i64 a, .int .i64 b]) ∧ V = w') ∧ (∀ V, Calls Tryd.prog 12 #[.int .i64 n] V fun e w' => e = .returned (.tuple #[.int .i64 a, .int .i64 b]) ∧ V = w') := by
  by_cases h : n < 0 ∨ 2932896 < n
  · exact ⟨0, 110, fun V _ => wd_no n V h n0 n1, fun V => rweek_no n V h n0 n1⟩
  · exact ⟨wdZ n, 0, fun V hV => wd_yes n V (by omega) (by omega) hV, fun V => rweek_yes n V (by omega) (by omega)⟩
set_option maxHeartbeats 8000000 in
set_option maxRecDepth 100000 in
theorem walk (t s n : Int) (W : World) (t0 : -9223372036854775808 ≤ t) (t1 : t ≤ 9223372036854775807) (s0 : -9223372036854775808 ≤ s) (s1 : s ≤ 9223372036854775807) (n0 : -9223372036854775808 ≤ n) (n1 : n ≤ 9223372036854775807) (hg : Gz W) :
    Calls Tryd.prog 3 #[.int .i64 t, .int .i64 s, .int .i64 n] W fun e W' => e = .returned (.bool true) ∧ Below W.heap.size W W' := by
  have HG : Hid (Gz W) := hg
  cases hb : dateB t s with
  | false =>
    have hp := print_no t s W t0 t1 s0 s1 hb
    have hq := rprint_no t s W t0 t1 s0 s1 hb
    have HB : Hid (Below W.heap.size W W) := Below.refl _ _
    go_enter Tryd.func3, Tryd.ntmps3
    go_wp2_with fail
    refine hp.mono ?_
    rintro e w' ⟨rfl, hw'⟩
    rw [← hw']
    clear hw' w'
    go_wp2_with fail
    refine hq.mono ?_
    rintro e w' ⟨rfl, hw'⟩
    rw [← hw']
    clear hw' w' hp hq
    have hg2 := HG.out.below HB.out
    obtain ⟨W1, E1, k1, k2⟩ := week_both n n0 n1
    have K1 := k1 W hg2.ah
    have K2 := k2 W
    have HA := alive_any W hg2
    clear hg2 k1 k2
    go_wp2_with fail
    refine K1.mono ?_
    rintro e w' ⟨rfl, hw'⟩
    rw [← hw']
    clear hw' w'
    go_wp2_with fail
    refine K2.mono ?_
    rintro e w' ⟨rfl, hw'⟩
    rw [← hw']
    clear hw' w'
    go_wp2_with fail
    refine HA.mono ?_
    rintro e wz ⟨rfl, hbz⟩
    have HBZ : Hid (Below W.heap.size W wz) := HB.out.trans (hbz.mono HB.out.size)
    clear hbz HA K1 K2
    go_wp2
    go_ret
    exact ⟨rfl, HBZ.out⟩
  | true =>
    have hp := print_yes t s W hb hg.toGl
    have HQ : Hid (∀ V, Calls Tryd.prog 10 #[.int .i64 t, .int .i64 s] V fun e w' => (∃ y m d, Wn.Civ ((t + s) / 86400) y m d ∧ e = .returned (.tuple #[.string (strOfNums (dateL t s y m d)), .int .i64 0])) ∧ Below V.heap.size V w') := fun V => rprint_yes t s V hb
    go_enter Tryd.func3, Tryd.ntmps3
    go_wp2_with fail
    refine hp.mono ?_
    clear hp
    rintro e w1 ⟨⟨y, m, d, hc, rfl⟩, hb1⟩
    go_wp2_with fail
    refine (HQ.out w1).mono ?_
    rintro e w2 ⟨⟨y', m', d', hc', rfl⟩, hb2⟩
    obtain ⟨rfl, rfl, rfl⟩ := civ_one hc hc'
    have HB : Hid (Below W.heap.size W w2) := hb1.trans (hb2.mono hb1.size)
    clear hb1 hb2 hc hc' HQ
    generalize strOfNums (dateL t s y m d) = S
    have hg2 := HG.out.below HB.out
    obtain ⟨W1, E1, k1, k2⟩ := week_both n n0 n1
    have K1 := k1 w2 hg2.ah
    have K2 := k2 w2
    have HA := alive_any w2 hg2
    clear hg2 k1 k2
    go_wp2_with fail
    refine K1.mono ?_
    rintro e w' ⟨rfl, rfl⟩
    go_wp2_with fail
    refine K2.mono ?_
    rintro e w' ⟨rfl, rfl⟩
    go_wp2_with fail
    refine HA.mono ?_
    rintro e wz ⟨rfl, hbz⟩
    have HBZ : Hid (Below W.heap.size W wz) := HB.out.trans (hbz.mono HB.out.size)
    clear hbz HA K1 K2
    go_wp2
    go_ret
    exact ⟨rfl, HBZ.out⟩

set_option maxRecDepth 100000 in
theorem lifted (os : Os) (started : os.Started) (H : Type) (enc : TypeId × Value → H) :
    ReturnsInHanded {} Tryd.checked os 3 .any (fun w args => (Rows.datePrintsSpec.pre enc Tryd.prog Tryd.f3 Rows.datePrintsRow.domain false w args ∧ laidMetH Tryd.prog Rows.datePrintsRow.laid w) ∧ sizedMet enc Tryd.prog Tryd.f3 (OpenSpec.ofChange Rows.datePrintsSpec) false w args)
      (Rows.datePrintsSpec.post enc Tryd.prog Tryd.f3 false true false false) := by
  refine returnsInHanded_of_change_and (C := Tryd.checked) (X := fun w _ => laidMetH Tryd.prog Rows.datePrintsRow.laid w) (fun _ _ _ hh h => h.of_heap hh) own started (by kernel_rfl) Tryd.func3
    (ChangeSpec.witness_shaped (enc := enc) (C := Tryd.checked) (os := os) (X := fun w _ => laidMetH Tryd.prog Rows.datePrintsRow.laid w) false (World.laidAll Tryd.prog os Rows.datePrintsRow.laid) #[.int .i64 0, .int .i64 0, .int .i64 0] 8 (World.laidAll_os _ _ _)
      (World.shaped_of_ZipB (by kernel_rfl) (by kernel_rfl)) (by kernel_rfl) (by kernel_rfl) (by kernel_rfl)
      (by rw [MakeChecks.laidMetH_plain _ _ _ (by kernel_rfl)]; exact laidMet_laidAll _ (by kernel_rfl) (by kernel_rfl))) ?_
  intro W base args ds gs before hval0 hW hcnd _ hL0 _
  have hL : laidMet Tryd.prog Rows.datePrintsRow.laid W := by
    have : laidMetH Tryd.prog Rows.datePrintsRow.laid W := hL0
    rwa [MakeChecks.laidMetH_plain _ _ _ (by kernel_rfl)] at this
  have hval : ∀ (j : Nat) t v, Tryd.f3.params[j]? = some t → args[j]? = some v → Value.okWide Tryd.prog W .any base t v := hval0
  have hW' := hW
  obtain ⟨p, q, hA0, hV, rfl, hfz, hnd⟩ := hW
  have hA : DataW.TrodAll enc Tryd.prog W 0 (fun _ => true) true Tryd.f3.params.toList args.toList ds p := hA0
  rw [Tryd.params3] at hA hval
  obtain ⟨v0, vs0, d0, ds0, p0, q0, hargs, rfl, rfl, h0, r0⟩ := trodAll_cons hA
  obtain ⟨v1, vs1, d1, ds1, p1, q1, rfl, rfl, rfl, h1, r1⟩ := trodAll_cons r0
  obtain ⟨v2, vs2, d2, ds2, p2, q2, rfl, rfl, rfl, h2, r2⟩ := trodAll_cons r1
  obtain ⟨rfl, rfl, rfl⟩ := trodAll_nil r2
  obtain rfl : args = #[v0, v1, v2] := by cases args; simp_all
  obtain ⟨rfl, rfl⟩ := trodVars_none hV
  obtain ⟨a0, rfl, rfl, rfl, w0⟩ := open_int Tryd.underlying2 (hval 0 2 v0 rfl rfl) h0
  have b0 := bounds_i64 w0
  obtain ⟨a1, rfl, rfl, rfl, w1⟩ := open_int Tryd.underlying2 (hval 1 2 v1 rfl rfl) h1
  have b1 := bounds_i64 w1
  obtain ⟨a2, rfl, rfl, rfl, w2⟩ := open_int Tryd.underlying2 (hval 2 2 v2 rfl rfl) h2
  have b2 := bounds_i64 w2
  clear hA0 hval0
  have hGz : Gz W := gz_of hL
  simp only [List.append_nil] at hW'
  refine (walk a0 a1 a2 W b0.1 b0.2 b1.1 b1.2 b2.1 b2.2 hGz).mono fun e W' ⟨he, bel⟩ => ?_
  subst he
  exact ⟨_, rfl, _, _, _, [], _, [], hW', trodAll_mk1 (shut_bool Tryd.underlying4 _), (trodAll_cons_mk (shut_int Tryd.underlying2 w0) (trodAll_cons_mk (shut_int Tryd.underlying2 w1) (trodAll_cons_mk (shut_int Tryd.underlying2 w2) trodAll_mk0))), rfl, bel.frame _, fun h => by cases h⟩

theorem over : Rows.DatePrintsSaid :=
  OpenClaim.holds_of_wide 3 Tryd.f3 rfl rfl rfl rfl rfl rfl rfl ⟨rfl, rfl, rfl, rfl, rfl⟩ rfl rfl rfl rfl rfl (by kernel_rfl) Tryd.func3 (by kernel_rfl)
    (of_decide_eq_true (by kernel_rfl)) (by unfold Func.isWrapper; first | (rw [if_pos (by decide +kernel)]; kernel_rfl) | (rw [if_neg (by decide +kernel)]; exact ⟨rfl, rfl⟩))
    (fun os started H enc _ => lifted os started H enc)
end Go.Proofs.YtomcjkghneingaaDoor.datePrints
namespace Go.Proofs.YtomcjkghneingaaDoor
theorem datePrints_card : Rows.DatePrintsCardSaid :=
  Claim7.holds_tied_plain_at .later [] _ _ _ _ datePrints.over (fun _ h => by cases h) (by kernel_rfl) (fun _ h => by cases h) datePrints_row_tie rfl ⟨rfl, rfl⟩ (by kernel_rfl) rfl
    (fun f fn hf hfn => by
      obtain rfl : f = 3 := Option.some.inj ((show Tryd.prog.funcNamed Rows.datePrintsRow.func = some 3 by kernel_rfl).symm.trans hf) |>.symm
      obtain rfl : fn = Tryd.f3 := (Option.some.inj (Tryd.func3.symm.trans hfn)).symm
      exact ⟨by kernel_rfl, fun j t ht => by
        rw [Tryd.params3] at ht
        have hm : t ∈ [2, 2, 2] := by simpa using Array.mem_of_getElem? ht
        have hall : ([2, 2, 2].all fun u => !Tryd.prog.wantsStandIn u) = true := by kernel_rfl
        exact (show Tryd.prog.wantsStandIn t = false by simpa using List.all_eq_true.1 hall t hm)⟩)
    (by kernel_rfl)
#print axioms datePrints_card
end Go.Proofs.YtomcjkghneingaaDoor
