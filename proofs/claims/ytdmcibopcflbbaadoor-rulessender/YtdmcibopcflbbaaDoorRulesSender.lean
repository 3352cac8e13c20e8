/-
  For every message the statement RulesSender of the given rows holds: the sender of what may be sent is the organizer of an organizer's method, the one attendee of an attendee's (a tied card: the listed tables are tied to the program; no other condition).
-/
import Derived.Test.YtdmcibopcflbbaaDoorCards
import Derived.Test.YtdmcibopcflbbaaDoorTie
import Derived.Test.YtdmcibopcflbbaaDoorAr
import Derived.WalkKit
import Derived.ProofKit
import Derived.OpenShut
import Derived.ShutString
import Derived.ChangeOld
import Derived.Below
import Derived.LaidMore
import Derived.Lay
import Derived.SevenTiedAt
import Derived.Stop.Joined
import Derived.SizedLaws
namespace Go.Proofs.YtdmcibopcflbbaaDoor.rulesSender
open Go.ChangeShapes Go.WideShapes Go.ChangeAt Go.RowKit
open Go.ChangeMaps (open_string shut_string)
set_option linter.unusedVariables false

theorem role_three (t : List Int) : roleZ t = 0 ∨ roleZ t = 1 ∨ roleZ t = 2 := by
  unfold roleZ askZ
  repeat' (first | split | (exact .inl rfl) | (exact .inr (.inl rfl)) | (exact .inr (.inr rfl)))
set_option maxHeartbeats 8000000 in
set_option maxRecDepth 100000 in
theorem walk (m : Msg) (fs : List (ByteArray × ByteArray)) (w : World) (hr : FRow w m.a fs) (hm : MWide m fs) :
    Calls Tryd.prog 7 #[msgV m] w fun e w' => e = .returned (.bool true) ∧ Below w.heap.size w w' := by
  have HR : Hid (FRow w m.a fs) := hr
  have HW : Hid (MWide m fs) := hm
  clear hr hm
  unfold msgV
  go_enter Tryd.func7, Tryd.ntmps7
  go_wp2_with fail
  have HA : Hid (MAt (w.alloc (.cells #[.string m.meth, .string m.uid, .int .i64 m.seq, .int .i64 m.stamp, .int .i64 m.recur, .string m.org, .slice m.a m.n m.c, .int .i64 m.start, .int .i64 m.fin, .string m.sum, .string m.com] 24)) w.heap.size m) := mat_new w m
  have HB : Hid (Below w.heap.size w (w.alloc (.cells #[.string m.meth, .string m.uid, .int .i64 m.seq, .int .i64 m.stamp, .int .i64 m.recur, .string m.org, .slice m.a m.n m.c, .int .i64 m.start, .int .i64 m.fin, .string m.sum, .string m.com] 24))) := keep w _
  generalize w.alloc (.cells #[.string m.meth, .string m.uid, .int .i64 m.seq, .int .i64 m.stamp, .int .i64 m.recur, .string m.org, .slice m.a m.n m.c, .int .i64 m.start, .int .i64 m.fin, .string m.sum, .string m.com] 24) = V0 at HA HB ⊢
  have hcall := great_any m fs V0 (HR.out.below HB.out) HW.out
  unfold msgV at hcall
  refine hcall.mono ?_
  clear hcall
  rintro e V1 ⟨b, rfl, hb, hfit⟩
  replace HA : Hid (MAt V1 w.heap.size m) := HA.out.below hb
  replace HB : Hid (Below w.heap.size w V1) := HB.out.trans (hb.mono HB.out.size)
  clear hb
  cases b with
  | true =>
    go_wp2_with fail
    refine (alive_any _).mono ?_
    rintro e V2 ⟨rfl, hb⟩
    replace HA : Hid (MAt V2 w.heap.size m) := HA.out.below hb
    replace HB : Hid (Below w.heap.size w V2) := HB.out.trans (hb.mono HB.out.size)
    clear hb
    go_wp2
    go_ret
    exact ⟨rfl, HB.out⟩
  | false =>
    have HM : Hid (MFit m fs) := hfit rfl
    clear hfit
    obtain ⟨_, K0, K1, K2, K3, K4, K5, K6, K7, K8, K9, K10⟩ := HA.out
    go_wp2_with fail
    clear K0 K1 K2 K3 K4 K5 K6 K7 K8 K9 K10
    have hcall := sender_any m fs _ (HR.out.below HB.out) HM.out
    unfold msgV at hcall
    refine hcall.mono ?_
    clear hcall
    rintro e V3 ⟨rfl, hb⟩
    replace HA : Hid (MAt V3 w.heap.size m) := HA.out.below hb
    replace HB : Hid (Below w.heap.size w V3) := HB.out.trans (hb.mono HB.out.size)
    clear hb
    by_cases hc : checkZ m fs = 0
    · have hq : (checkZ m fs != 0) = false := by simpa using hc
      obtain ⟨_, K0, _, _, _, _, _, _, _, _, _, _⟩ := HA.out
      go_wp2_with fail
      clear K0
      refine (role_any m.meth _).mono ?_
      rintro e V4 ⟨rfl, hb⟩
      replace HA : Hid (MAt V4 w.heap.size m) := HA.out.below hb
      replace HB : Hid (Below w.heap.size w V4) := HB.out.trans (hb.mono HB.out.size)
      clear hb
      obtain ⟨_, o0, _, o1, o2, _⟩ := check_ok hc
      rcases role_three (nums m.meth) with hro | hro | hro
      · exact absurd hro o0
      · have HS : Hid (sendZ m fs = m.org) := by unfold Hid sendZ; rw [if_neg (by simp [hc]), if_neg (by rw [hro]; decide)]
        rw [hro, HS.out]
        clear o0 o1 o2 hc hro hq HS
        go_wp2_with fail
        refine (alive_any _).mono ?_
        rintro e V5 ⟨rfl, hb⟩
        replace HA : Hid (MAt V5 w.heap.size m) := HA.out.below hb
        replace HB : Hid (Below w.heap.size w V5) := HB.out.trans (hb.mono HB.out.size)
        clear hb
        obtain ⟨_, _, _, _, _, _, K5, _, _, _, _, _⟩ := HA.out
        go_wp2
        go_ret
        exact ⟨rfl, HB.out⟩
      · obtain ⟨t1, t2⟩ := ask_two _ hro
        have hn1 : m.n = 1 := by omega
        obtain ⟨f, fr, hfs⟩ : ∃ f fr, fs = f :: fr := by
          cases hq : fs with
          | nil => have := HM.out.l; rw [hq] at this; simp at this; omega
          | cons f fr => exact ⟨f, fr, rfl⟩
        have HS : Hid (sendZ m fs = f.1) := by unfold Hid sendZ; rw [if_neg (by simp [hc]), if_pos hro, hfs]
        rw [hro, HS.out]
        have HFS : Hid (fs = f :: fr) := hfs
        have HN1 : Hid (m.n = 1) := hn1
        clear o0 o1 o2 hc hro hq HS t1 t2 hfs hn1
        go_wp2_with fail
        refine (alive_any _).mono ?_
        rintro e V6 ⟨rfl, hb⟩
        replace HA : Hid (MAt V6 w.heap.size m) := HA.out.below hb
        replace HB : Hid (Below w.heap.size w V6) := HB.out.trans (hb.mono HB.out.size)
        clear hb
        obtain ⟨b, off, hma, hcf⟩ : ∃ b off, m.a = some ⟨b, off, none⟩ ∧ V6.cell? ⟨b, off, none⟩ = some (.string f.1) := by
          rcases HR.out.below HB.out with h | ⟨b, off, ha, h⟩
          · rw [HFS.out] at h; cases h
          · exact ⟨b, off, ha, by have := (h 0 f (by rw [HFS.out]; rfl)).1; simpa using this⟩
        obtain ⟨_, _, _, _, _, _, _, K6, _, _, _, _⟩ := HA.out
        rw [hma, HN1.out] at K6
        go_wp2
        go_ret
        exact ⟨rfl, HB.out⟩
    · have hq : (checkZ m fs != 0) = true := by simpa using hc
      have HS : Hid (sendZ m fs = ⟨#[]⟩) := by unfold Hid sendZ; rw [if_pos hc]
      rw [HS.out]
      clear hc HS
      go_wp2_with fail
      refine (alive_any _).mono ?_
      rintro e V7 ⟨rfl, hb⟩
      replace HA : Hid (MAt V7 w.heap.size m) := HA.out.below hb
      replace HB : Hid (Below w.heap.size w V7) := HB.out.trans (hb.mono HB.out.size)
      clear hb
      obtain ⟨_, K0, K1, K2, K3, K4, K5, K6, K7, K8, K9, K10⟩ := HA.out
      go_wp2_with fail
      clear K0 K1 K2 K3 K4 K5 K6 K7 K8 K9 K10
      have hcall := check_any m fs _ (HR.out.below HB.out) HM.out
      unfold msgV at hcall
      refine hcall.mono ?_
      clear hcall
      rintro e V8 ⟨rfl, hb⟩
      replace HA : Hid (MAt V8 w.heap.size m) := HA.out.below hb
      replace HB : Hid (Below w.heap.size w V8) := HB.out.trans (hb.mono HB.out.size)
      clear hb
      go_wp2
      go_ret
      exact ⟨rfl, HB.out⟩

set_option maxRecDepth 100000 in
theorem lifted (os : Os) (started : os.Started) (H : Type) (enc : TypeId × Value → H) :
    ReturnsInHanded {} Tryd.checked os 7 .any (fun w args => (Rows.rulesSenderSpec.pre enc Tryd.prog Tryd.f7 Rows.rulesSenderRow.domain false w args ∧ laidMetH Tryd.prog Rows.rulesSenderRow.laid w) ∧ sizedMet enc Tryd.prog Tryd.f7 (OpenSpec.ofChange Rows.rulesSenderSpec) false w args)
      (Rows.rulesSenderSpec.post enc Tryd.prog Tryd.f7 false true false false) := by
  refine returnsInHanded_of_change_and (C := Tryd.checked) (X := fun w _ => laidMetH Tryd.prog Rows.rulesSenderRow.laid w) (fun _ _ _ hh h => h.of_heap hh) own started (by kernel_rfl) Tryd.func7
    (ChangeSpec.witness_shaped (enc := enc) (C := Tryd.checked) (os := os) (X := fun w _ => laidMetH Tryd.prog Rows.rulesSenderRow.laid w) false (World.laidAll Tryd.prog os Rows.rulesSenderRow.laid) #[.agg #[.string ⟨#[]⟩, .string ⟨#[]⟩, .int .i64 0, .int .i64 0, .int .i64 0, .string ⟨#[]⟩, .slice none 0 0, .int .i64 0, .int .i64 0, .string ⟨#[]⟩, .string ⟨#[]⟩]] 8 (World.laidAll_os _ _ _)
      (World.shaped_of_ZipB (by kernel_rfl) (by kernel_rfl)) (by kernel_rfl) (by kernel_rfl) (by kernel_rfl)
      (by rw [MakeChecks.laidMetH_plain _ _ _ (by kernel_rfl)]; exact laidMet_laidAll _ (by kernel_rfl) (by kernel_rfl))) ?_
  intro W base args ds gs before hval0 hW hcnd hsz0 hL _
  have hval : ∀ (j : Nat) t v, Tryd.f7.params[j]? = some t → args[j]? = some v → Value.okWide Tryd.prog W .any base t v := hval0
  have hsz : (DataW.weightsEach Tryd.prog (Tryd.f7.params.toList ++ Rows.rulesSenderSpec.plain.varTypes Tryd.prog) (ds ++ gs)).all (· ≤ reachBytes) = true := hsz0
  have hW' := hW
  obtain ⟨p, q, hA0, hV, rfl, hfz, hnd⟩ := hW
  have hA : DataW.TrodAll enc Tryd.prog W 0 (fun _ => true) true Tryd.f7.params.toList args.toList ds p := hA0
  rw [Tryd.params7] at hA hval hsz
  obtain ⟨v0, vs0, d0, ds0, p0, q0, hargs, rfl, rfl, h0, r0⟩ := trodAll_cons hA
  obtain ⟨rfl, rfl, rfl⟩ := trodAll_nil r0
  obtain rfl : args = #[v0] := by cases args; simp_all
  obtain ⟨rfl, rfl⟩ := trodVars_none hV
  have k0 := h0
  have lt0 : ∀ x ∈ p0, x.block < W.heap.size := by obtain ⟨m, hm⟩ := k0; exact DataW.trod_lt m _ _ _ hm
  obtain ⟨m0, f0, rfl, g0, w0⟩ := msg_arg (hval 0 24 v0 rfl rfl) h0 (fun n hn => by simpa using List.all_eq_true.1 hsz n (DataW.weights_mem_each (j := 0) rfl rfl n hn))
  clear hA0 hval0
  refine (walk m0 f0 W g0 w0).mono fun e W' ⟨he, bel⟩ => ?_
  subst he
  exact ⟨_, rfl, _, _, _, [], _, [], hW', trodAll_mk1 (shut_bool Tryd.underlying4 _), (trodAll_cons_mk (Below.trod laidOut (by kernel_rfl) (of_decide_eq_true (by kernel_rfl)) k0 bel lt0) trodAll_mk0), rfl, bel.frame _, fun h => by cases h⟩

theorem over : Rows.RulesSenderSaid :=
  OpenClaim.holds_of_wide 7 Tryd.f7 rfl rfl rfl rfl rfl rfl rfl ⟨rfl, rfl, rfl, rfl, rfl⟩ rfl rfl rfl rfl rfl (by kernel_rfl) Tryd.func7 (by kernel_rfl)
    (of_decide_eq_true (by kernel_rfl)) (by unfold Func.isWrapper; first | (rw [if_pos (by decide +kernel)]; kernel_rfl) | (rw [if_neg (by decide +kernel)]; exact ⟨rfl, rfl⟩))
    (fun os started H enc _ => lifted os started H enc)
end Go.Proofs.YtdmcibopcflbbaaDoor.rulesSender
namespace Go.Proofs.YtdmcibopcflbbaaDoor
theorem rulesSender_card : Rows.RulesSenderCardSaid :=
  Claim7.holds_tied_plain_at .later [] _ _ _ _ rulesSender.over (fun _ h => by cases h) (by kernel_rfl) (fun _ h => by cases h) rulesSender_row_tie rfl ⟨rfl, rfl⟩ (by kernel_rfl) rfl
    (fun f fn hf hfn => by
      obtain rfl : f = 7 := Option.some.inj ((show Tryd.prog.funcNamed Rows.rulesSenderRow.func = some 7 by kernel_rfl).symm.trans hf) |>.symm
      obtain rfl : fn = Tryd.f7 := (Option.some.inj (Tryd.func7.symm.trans hfn)).symm
      exact ⟨by kernel_rfl, fun j t ht => by
        rw [Tryd.params7] at ht
        have hm : t ∈ [24] := by simpa using Array.mem_of_getElem? ht
        have hall : ([24].all fun u => !Tryd.prog.wantsStandIn u) = true := by kernel_rfl
        exact (show Tryd.prog.wantsStandIn t = false by simpa using List.all_eq_true.1 hall t hm)⟩)
    (by kernel_rfl)
#print axioms rulesSender_card
end Go.Proofs.YtdmcibopcflbbaaDoor
