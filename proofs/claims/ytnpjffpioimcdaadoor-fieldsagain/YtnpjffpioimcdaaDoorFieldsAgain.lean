/-
  What is read can be written, if its lines are not too long, and is read as the same (P6.5): for all bytes the statement FieldsAgain answers true, and leaves its argument as it was.
-/
import Derived.Test.YtnpjffpioimcdaaDoorCards
import Derived.Test.YtnpjffpioimcdaaDoorTie
import Derived.Test.YtnpjffpioimcdaaDoorArgs
import Derived.Test.YtnpjffpioimcdaaDoorAlive
import Derived.Test.YtnpjffpioimcdaaDoorAmath
import Derived.Test.YtnpjffpioimcdaaDoorSame
import Derived.WalkKit
import Derived.ProofKit
import Derived.OpenShut
import Derived.ShutString
import Derived.ChangeOld
import Derived.Below
import Derived.LaidMore
import Derived.Lay
import Derived.SevenTiedAt
import Derived.Stop.Joined
namespace Go.Proofs.YtnpjffpioimcdaaDoor.fieldsAgain
open Go.ChangeShapes Go.WideShapes Go.ChangeAt Go.RowKit
open Go.ChangeMaps (open_string shut_string)
set_option linter.unusedVariables false

set_option maxRecDepth 100000 in
set_option maxHeartbeats 4000000 in
theorem walk (a0 : Option Addr) (len0 cap0 : Nat) (z0 : List Int) (w : World) (w0 : IsRow .u8 w a0 len0 cap0 z0) (hm : Mx w) :
    Calls Tryd.prog 6 #[.slice a0 len0 cap0] w fun e w' => e = .returned (.bool true) ∧ Below w.heap.size w w' := by
  have hnil := isRow_nil w0
  obtain ⟨zs, hl, hc, hcm, hb, hr⟩ := byte_view w0
  unfold maxLen at hcm
  have HM : Hid (Mx w) := hm
  have HR : Hid (Row w a0 zs) := hr
  have HBY : Hid (Byt zs) := hb
  clear hm hr hb w0
  by_cases h6 : 6000 < len0
  · have hd : decide ((len0 : Int) > 6000) = true := by simp; omega
    go_enter Tryd.func6, Tryd.ntmps6
    go_wp2_with fail
    refine (alive_any w HM.out).mono ?_
    rintro e w2 ⟨rfl, hb2⟩
    go_wp2
    go_ret
    exact ⟨rfl, hb2⟩
  have hd : decide ((len0 : Int) > 6000) = false := by simp; omega
  have hP := parse_any a0 len0 cap0 zs w hl hc hcm hnil (by omega) HBY.out HR.out HM.out
  have hI := out_inv HBY.out
  unfold faultV at hP
  obtain ⟨oc, hoc⟩ : ∃ oc, outC zs = oc := ⟨_, rfl⟩
  obtain ⟨op, hop⟩ : ∃ op, outP zs = op := ⟨_, rfl⟩
  obtain ⟨on, hon⟩ : ∃ on, outN zs = on := ⟨_, rfl⟩
  obtain ⟨ol, hol⟩ : ∃ ol, outL zs = ol := ⟨_, rfl⟩
  rw [hoc, hop, hon, hol] at hP hI
  clear hoc hop hon hol
  rw [hl] at hI
  go_enter Tryd.func6, Tryd.ntmps6
  go_wp2_with fail
  refine hP.mono ?_
  clear hP
  rintro e w1 ⟨vf, rfl, ho, hb1⟩
  obtain ⟨af, capf, rfl, hfr⟩ := ownF_view ho
  have HB1 : Hid (Below w.heap.size w w1) := hb1
  have hsw : w.heap.size ≤ w1.heap.size := hb1.size
  have HFR : Hid (FRow w1 af ol) := hfr
  clear ho hb1 hfr
  by_cases hC : oc = 0
  · subst hC
    obtain ⟨i1, i2, i3⟩ := hI.1 rfl
    have HI1 : Hid (ol.all okF = true) := i1
    have hW := write_any af ol.length capf ol (w1.alloc (.cells #[.int .i64 op, .int .i64 0] 27)) rfl (by omega) (HFR.out.below (keep w1 _)) (fun f hf => by have := okF_bounds (List.all_eq_true.1 HI1.out f hf); omega)
    have hCC := writeC_ok HI1.out i2
    clear hI i1
    go_wp2_with fail
    refine hW.mono ?_
    clear hW
    rintro e w2 ⟨v, rfl, ho2, hb2⟩
    obtain ⟨a2, cap2, rfl, hc2, hm2, hr2, hn2⟩ := own_row' ho2
    have HB2 : Hid (Below w.heap.size w w2) := (HB1.out.alloc hsw _).trans (hb2.mono (by simp; omega))
    have hsw2 : w.heap.size ≤ w2.heap.size := HB2.out.size
    have HF2 : Hid (FRow w2 af ol) := (HFR.out.below (keep w1 _)).below hb2
    rcases hCC with hC | hC
    · have hK := parse_back (fs := ol) [] hC
      rw [List.append_nil] at hK
      have hlen := writeB_len hC
      obtain ⟨out, hout⟩ : ∃ out, writeB ol = out := ⟨_, rfl⟩
      rw [hout] at hK hlen hr2 hc2 ho2 ⊢
      unfold maxLen at hm2
      have hby : Byt out := by
        rw [← hout]; exact writeB_byt
      have hP2 := parse_any a2 out.length cap2 out w2 rfl hc2 (by omega) hn2 (by omega) hby hr2 (HM.out.keep HB2.out)
      unfold faultV at hP2
      rw [hK.1, hK.2.1, hK.2.2.1, hK.2.2.2] at hP2
      rw [hC]
      clear hout hK hr2 ho2 hby hb2
      go_wp2_with fail
      refine hP2.mono ?_
      clear hP2
      rintro e w3 ⟨vg, rfl, ho3, hb3⟩
      obtain ⟨ag, capg, rfl, hfg⟩ := ownF_view ho3
      have HB3 : Hid (Below w.heap.size w w3) := HB2.out.trans (hb3.mono hsw2)
      have HF3 : Hid (FRow w3 af ol) := HF2.out.below hb3
      have HG3 : Hid (FRow w3 ag ol) := hfg
      have hsw3 : w.heap.size ≤ w3.heap.size := HB3.out.size
      clear ho3 hb3 hfg
      go_wp2_with fail
      refine (alive_any (w3.alloc (.cells #[.int .i64 0, .int .i64 0] 27)) (HM.out.keep (HB3.out.alloc hsw3 _))).mono ?_
      rintro e w4 ⟨rfl, hb4⟩
      have d1 : w4.cell? ⟨w3.heap.size, 1, none⟩ = some (.int .i64 0) := by rw [hb4.cell (p := ⟨w3.heap.size, 1, none⟩) (by simp)]; rw [World.cell?_alloc_mark]; rfl
      have HB4 : Hid (Below w.heap.size w w4) := (HB3.out.alloc hsw3 _).trans (hb4.mono (by simp; omega))
      have HF4 : Hid (FRow w4 af ol) := (HF3.out.below (keep w3 _)).below hb4
      have HG4 : Hid (FRow w4 ag ol) := (HG3.out.below (keep w3 _)).below hb4
      have hsw4 : w.heap.size ≤ w4.heap.size := HB4.out.size
      clear hb4
      go_wp2_with fail
      refine (sameAll_any af ag ol.length ol.length capf capg ol ol w4 rfl rfl (by omega) HF4.out HG4.out rfl).mono ?_
      rintro e w5 ⟨rfl, hb5⟩
      go_wp2
      go_ret
      exact ⟨rfl, HB4.out.trans (hb5.mono hsw4)⟩
    · rw [hC]
      have hd3 : decide (on ≥ 2) = true := by simpa using i3
      clear hr2 ho2 hb2
      go_wp2_with fail
      refine (alive_any w2 (HM.out.keep HB2.out)).mono ?_
      rintro e w3 ⟨rfl, hb3⟩
      go_wp2
      go_ret
      exact ⟨rfl, HB2.out.trans (hb3.mono hsw2)⟩
  · obtain ⟨i1, i2, rfl, rfl⟩ := hI.2 hC
    have hCb : (oc != 0) = true := by simpa using hC
    have hd1 : decide (op ≥ 0) = true := by simpa using i1
    have hd2 : decide (op ≤ (len0 : Int)) = true := by simpa using i2
    clear hI
    go_wp2_with fail
    refine (alive_any (w1.alloc (.cells #[.int .i64 op, .int .i64 oc] 27)) (HM.out.keep (HB1.out.alloc hsw _))).mono ?_
    rintro e w2 ⟨rfl, hb2⟩
    have d0 : w2.cell? ⟨w1.heap.size, 0, none⟩ = some (.int .i64 op) := by rw [hb2.cell (p := ⟨w1.heap.size, 0, none⟩) (by simp)]; rw [World.cell?_alloc_mark]; rfl
    have d1 : w2.cell? ⟨w1.heap.size, 1, none⟩ = some (.int .i64 oc) := by rw [hb2.cell (p := ⟨w1.heap.size, 1, none⟩) (by simp)]; rw [World.cell?_alloc_mark]; rfl
    have HB2 : Hid (Below w.heap.size w w2) := (HB1.out.alloc hsw _).trans (hb2.mono (by simp; omega))
    clear hb2
    go_wp2
    go_ret
    exact ⟨rfl, HB2.out⟩

set_option maxRecDepth 100000 in
theorem lifted (os : Os) (started : os.Started) (H : Type) (enc : TypeId × Value → H) :
    ReturnsInHanded {} Tryd.checked os 6 .any (fun w args => (Rows.fieldsAgainSpec.pre enc Tryd.prog Tryd.f6 Rows.fieldsAgainRow.domain false w args ∧ laidMetH Tryd.prog Rows.fieldsAgainRow.laid w) ∧ sizedMet enc Tryd.prog Tryd.f6 (OpenSpec.ofChange Rows.fieldsAgainSpec) false w args)
      (Rows.fieldsAgainSpec.post enc Tryd.prog Tryd.f6 false true false false) := by
  refine step_both (C := Tryd.checked) (X := fun w _ => laidMetH Tryd.prog Rows.fieldsAgainRow.laid w) (fun _ _ _ hh h => h.of_heap hh) own started (by kernel_rfl) Tryd.func6
    (ChangeSpec.witness_shaped (enc := enc) (C := Tryd.checked) (os := os) (X := fun w _ => laidMetH Tryd.prog Rows.fieldsAgainRow.laid w) false (World.laidAll Tryd.prog os Rows.fieldsAgainRow.laid) #[.slice none 0 0] 8 (World.laidAll_os _ _ _)
      (World.shaped_of_ZipB (by kernel_rfl) (by kernel_rfl)) (by kernel_rfl) (by kernel_rfl) (by kernel_rfl)
      (by rw [MakeChecks.laidMetH_plain _ _ _ (by kernel_rfl)]; exact laidMet_laidAll _ (by kernel_rfl) (by kernel_rfl))) ?_
  intro W base args ds gs before hval0 hW hcnd hsh hL
  have hval : ∀ (j : Nat) t v, Tryd.f6.params[j]? = some t → args[j]? = some v → Value.okWide Tryd.prog W .any base t v := hval0
  have hW' := hW
  obtain ⟨p, q, hA0, hV, rfl, hfz, hnd⟩ := hW
  have hA : DataW.TrodAll enc Tryd.prog W 0 (fun _ => true) true Tryd.f6.params.toList args.toList ds p := hA0
  rw [Tryd.params6] at hA hval
  obtain ⟨v0, vs0, d0, ds0, p0, q0, hargs, rfl, rfl, h0, r0⟩ := trodAll_cons hA
  obtain ⟨rfl, rfl, rfl⟩ := trodAll_nil r0
  obtain rfl : args = #[v0] := by cases args; simp_all
  obtain ⟨rfl, rfl⟩ := trodVars_none hV
  have k0 := h0
  have lt0 : ∀ x ∈ p0, x.block < W.heap.size := by obtain ⟨m, hm⟩ := k0; exact DataW.trod_lt m _ _ _ hm
  obtain ⟨a0, len0, cap0, rfl⟩ := okWide_slice Tryd.underlying22 (hval 0 22 v0 rfl rfl)
  obtain ⟨z0, w0⟩ : ∃ zs, IsRow .u8 W a0 len0 cap0 zs := by
    obtain ⟨fuel, hf⟩ := h0
    rcases open_ints Tryd.underlying22 Tryd.underlying5 (by kernel_rfl) hf with ⟨hcs, _⟩ | ⟨x, l, c, zs, hcs, _, hl, hm, hz, _, hcell, hwz⟩
    · simp [Value.cells] at hcs
      obtain ⟨rfl, rfl, rfl⟩ := hcs
      exact ⟨[], .inl ⟨rfl, rfl, rfl, rfl⟩⟩
    · simp [Value.cells] at hcs
      obtain ⟨rfl, rfl, rfl⟩ := hcs
      exact ⟨zs, .inr ⟨_, rfl, hl, hm, by simpa using hz, hcell, hwz⟩⟩
  clear hA0 hval0
  refine (walk a0 len0 cap0 z0 W w0 (laysM185.s1_3 W hsh)).mono fun e W' ⟨he, bel⟩ => ?_
  subst he
  exact ⟨_, rfl, _, _, _, [], _, [], hW', trodAll_mk1 (shut_bool Tryd.underlying4 _), (trodAll_cons_mk (Below.trod laidOut (by kernel_rfl) (of_decide_eq_true (by kernel_rfl)) k0 bel lt0) trodAll_mk0), rfl, bel.frame _, fun h => by cases h⟩

theorem over : Rows.FieldsAgainSaid :=
  OpenClaim.holds_of_wide 6 Tryd.f6 rfl rfl rfl rfl rfl rfl rfl ⟨rfl, rfl, rfl, rfl, rfl⟩ rfl rfl rfl rfl rfl (by kernel_rfl) Tryd.func6 (by kernel_rfl)
    (of_decide_eq_true (by kernel_rfl)) (by unfold Func.isWrapper; first | (rw [if_pos (by decide +kernel)]; kernel_rfl) | (rw [if_neg (by decide +kernel)]; exact ⟨rfl, rfl⟩))
    (fun os started H enc _ => lifted os started H enc)
end Go.Proofs.YtnpjffpioimcdaaDoor.fieldsAgain
namespace Go.Proofs.YtnpjffpioimcdaaDoor
theorem fieldsAgain_card : Rows.FieldsAgainCardSaid :=
  Claim7.holds_tied_plain_at .later [] _ _ _ _ fieldsAgain.over (fun _ h => by cases h) (by kernel_rfl) (fun _ h => by cases h) fieldsAgain_row_tie rfl ⟨rfl, rfl⟩ (by kernel_rfl) rfl
    (fun f fn hf hfn => by
      obtain rfl : f = 6 := Option.some.inj ((show Tryd.prog.funcNamed Rows.fieldsAgainRow.func = some 6 by kernel_rfl).symm.trans hf) |>.symm
      obtain rfl : fn = Tryd.f6 := (Option.some.inj (Tryd.func6.symm.trans hfn)).symm
      exact ⟨by kernel_rfl, fun j t ht => by
        rw [Tryd.params6] at ht
        have hm : t ∈ [22] := by simpa using Array.mem_of_getElem? ht
        have hall : ([22].all fun u => !Tryd.prog.wantsStandIn u) = true := by kernel_rfl
        exact (show Tryd.prog.wantsStandIn t = false by simpa using List.all_eq_true.1 hall t hm)⟩)
    (by kernel_rfl)
#print axioms fieldsAgain_card
end Go.Proofs.YtnpjffpioimcdaaDoor
