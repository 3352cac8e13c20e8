/-
  Any bytes are a header, or what is wrong is told, and where (P6.2): for all bytes the statement FieldsParses, which holds Parse against the document's answer, answers true, and leaves its argument as it was.
-/
import Derived.Test.YtnpjffpioimcdaaDoorCards
import Derived.Test.YtnpjffpioimcdaaDoorTie
import Derived.Test.YtnpjffpioimcdaaDoorArgs
import Derived.Test.YtnpjffpioimcdaaDoorAlive
import Derived.Test.YtnpjffpioimcdaaDoorRparse
import Derived.Test.YtnpjffpioimcdaaDoorSame
import Derived.WalkKit
import Derived.ProofKit
import Derived.OpenShut
import Derived.ShutString
import Derived.ChangeOld
import Derived.Below
import Derived.LaidMore
import Derived.Lay
import Derived.SevenTiedAt
import Derived.Stop.Joined
namespace Go.Proofs.YtnpjffpioimcdaaDoor.fieldsParses
open Go.ChangeShapes Go.WideShapes Go.ChangeAt Go.RowKit
open Go.ChangeMaps (open_string shut_string)
set_option linter.unusedVariables false

set_option maxRecDepth 100000 in
set_option maxHeartbeats 4000000 in
theorem walk (a0 : Option Addr) (len0 cap0 : Nat) (z0 : List Int) (w : World) (w0 : IsRow .u8 w a0 len0 cap0 z0) (hm : Mx w) :
    Calls Tryd.prog 3 #[.slice a0 len0 cap0] w fun e w' => e = .returned (.bool true) ∧ Below w.heap.size w w' := by
  have hnil := isRow_nil w0
  obtain ⟨zs, hl, hc, hcm, hb, hr⟩ := byte_view w0
  have HM : Hid (Mx w) := hm
  have HR : Hid (Row w a0 zs) := hr
  have HBY : Hid (Byt zs) := hb
  clear hm hr hb w0
  by_cases h6 : 6000 < len0
  · have hd : decide ((len0 : Int) > 6000) = true := by simp; omega
    go_enter Tryd.func3, Tryd.ntmps3
    go_wp2_with fail
    refine (alive_any w HM.out).mono ?_
    rintro e w2 ⟨rfl, hb2⟩
    go_wp2
    go_ret
    exact ⟨rfl, hb2⟩
  have hd : decide ((len0 : Int) > 6000) = false := by simp; omega
  have hP := parse_any a0 len0 cap0 zs w hl hc (by unfold maxLen at hcm; omega) hnil (by omega) HBY.out HR.out HM.out
  have hP2 : ∀ X, Below w.heap.size w X → Calls Tryd.prog 11 #[.slice a0 len0 cap0] X fun e w' => ∃ vf, e = .returned (.tuple #[vf, .int .i64 (outN zs), faultV (outP zs) (outC zs)]) ∧ OwnF w' X.heap.size vf (outL zs) ∧ Below X.heap.size X w' :=
    fun X hX => rparse_any a0 len0 cap0 zs X hl hc hcm (by omega) HBY.out (row_below HR.out hX)
  have hI := out_inv HBY.out
  have holn : (outL zs).length ≤ 128 := by
    by_cases h : outC zs = 0
    · exact (hI.1 h).2.1
    · rw [(hI.2 h).2.2.1]; simp
  unfold maxLen at hcm
  unfold faultV at hP hP2
  obtain ⟨oc, hoc⟩ : ∃ oc, outC zs = oc := ⟨_, rfl⟩
  obtain ⟨op, hop⟩ : ∃ op, outP zs = op := ⟨_, rfl⟩
  obtain ⟨on, hon⟩ : ∃ on, outN zs = on := ⟨_, rfl⟩
  obtain ⟨ol, hol⟩ : ∃ ol, outL zs = ol := ⟨_, rfl⟩
  rw [hoc, hop, hon, hol] at hP
  rw [hol] at holn
  simp only [hoc, hop, hon, hol] at hP2
  have HP2 : Hid _ := hP2
  clear hoc hop hon hol hI hP2
  go_enter Tryd.func3, Tryd.ntmps3
  go_wp2_with fail
  refine hP.mono ?_
  clear hP
  rintro e w1 ⟨vf, rfl, ho, hb1⟩
  obtain ⟨af, capf, rfl, hfr⟩ := ownF_view ho
  have HB1 : Hid (Below w.heap.size w w1) := hb1
  have hsw : w.heap.size ≤ w1.heap.size := hb1.size
  have HFR : Hid (FRow w1 af ol) := hfr
  clear ho hb1 hfr
  go_wp2_with fail
  refine (HP2.out (w1.alloc (.cells #[.int .i64 op, .int .i64 oc] 27)) (HB1.out.alloc hsw _)).mono ?_
  rintro e w2 ⟨vg, rfl, ho2, hb2⟩
  obtain ⟨ag, capg, rfl, hfg⟩ := ownF_view ho2
  have HB2 : Hid (Below w.heap.size w w2) := (HB1.out.alloc hsw _).trans (hb2.mono (by simp; omega))
  have hsw2 : w.heap.size ≤ w2.heap.size := HB2.out.size
  have hs12 : w1.heap.size + 1 ≤ w2.heap.size := by have := hb2.size; simpa using this
  have HF2 : Hid (FRow w2 af ol) := (HFR.out.below (keep w1 _)).below hb2
  have HG2 : Hid (FRow w2 ag ol) := hfg
  have HK1 : Hid (Blk w2 w1.heap.size #[.int .i64 op, .int .i64 oc] 27) := (Blk.new w1 _ 27).below hb2 (by simp)
  clear ho2 hb2 hfg
  go_wp2_with fail
  refine (alive_any (w2.alloc (.cells #[.int .i64 op, .int .i64 oc] 27)) (HM.out.keep (HB2.out.alloc hsw2 _))).mono ?_
  rintro e w3 ⟨rfl, hb3⟩
  have k1 : Blk w3 w1.heap.size #[.int .i64 op, .int .i64 oc] 27 := (HK1.out.alloc _).below hb3 (by simp; omega)
  have k2 : Blk w3 w2.heap.size #[.int .i64 op, .int .i64 oc] 27 := (Blk.new w2 _ 27).below hb3 (by simp)
  have HB3 : Hid (Below w.heap.size w w3) := (HB2.out.alloc hsw2 _).trans (hb3.mono (by simp; omega))
  have hsw3 : w.heap.size ≤ w3.heap.size := HB3.out.size
  have HF3 : Hid (FRow w3 af ol) := (HF2.out.below (keep w2 _)).below hb3
  have HG3 : Hid (FRow w3 ag ol) := (HG2.out.below (keep w2 _)).below hb3
  have HK2 : Hid (Blk w3 w1.heap.size #[.int .i64 op, .int .i64 oc] 27 ∧ Blk w3 w2.heap.size #[.int .i64 op, .int .i64 oc] 27) := ⟨k1, k2⟩
  clear hb3 k1 k2
  go_wp2_with fail
  refine (sameAll_any af ag ol.length ol.length capf capg ol ol w3 rfl rfl (by omega) HF3.out HG3.out rfl).mono ?_
  rintro e w4 ⟨rfl, hb4⟩
  have k1 := HK2.out.1.below hb4 HK2.out.1.lt
  have k2 := HK2.out.2.below hb4 HK2.out.2.lt
  have d0 := k1.cell 0
  have d1 := k1.cell 1
  have e0 := k2.cell 0
  have e1 := k2.cell 1
  simp only [List.getElem?_toArray, List.getElem?_cons_zero, List.getElem?_cons_succ] at d0 d1 e0 e1
  have HB4 : Hid (Below w.heap.size w w4) := HB3.out.trans (hb4.mono hsw3)
  clear hb4 k1 k2
  go_wp2
  go_ret
  exact ⟨rfl, HB4.out⟩

set_option maxRecDepth 100000 in
theorem lifted (os : Os) (started : os.Started) (H : Type) (enc : TypeId × Value → H) :
    ReturnsInHanded {} Tryd.checked os 3 .any (fun w args => (Rows.fieldsParsesSpec.pre enc Tryd.prog Tryd.f3 Rows.fieldsParsesRow.domain false w args ∧ laidMetH Tryd.prog Rows.fieldsParsesRow.laid w) ∧ sizedMet enc Tryd.prog Tryd.f3 (OpenSpec.ofChange Rows.fieldsParsesSpec) false w args)
      (Rows.fieldsParsesSpec.post enc Tryd.prog Tryd.f3 false true false false) := by
  refine step_both (C := Tryd.checked) (X := fun w _ => laidMetH Tryd.prog Rows.fieldsParsesRow.laid w) (fun _ _ _ hh h => h.of_heap hh) own started (by kernel_rfl) Tryd.func3
    (ChangeSpec.witness_shaped (enc := enc) (C := Tryd.checked) (os := os) (X := fun w _ => laidMetH Tryd.prog Rows.fieldsParsesRow.laid w) false (World.laidAll Tryd.prog os Rows.fieldsParsesRow.laid) #[.slice none 0 0] 8 (World.laidAll_os _ _ _)
      (World.shaped_of_ZipB (by kernel_rfl) (by kernel_rfl)) (by kernel_rfl) (by kernel_rfl) (by kernel_rfl)
      (by rw [MakeChecks.laidMetH_plain _ _ _ (by kernel_rfl)]; exact laidMet_laidAll _ (by kernel_rfl) (by kernel_rfl))) ?_
  intro W base args ds gs before hval0 hW hcnd hsh hL
  have hval : ∀ (j : Nat) t v, Tryd.f3.params[j]? = some t → args[j]? = some v → Value.okWide Tryd.prog W .any base t v := hval0
  have hW' := hW
  obtain ⟨p, q, hA0, hV, rfl, hfz, hnd⟩ := hW
  have hA : DataW.TrodAll enc Tryd.prog W 0 (fun _ => true) true Tryd.f3.params.toList args.toList ds p := hA0
  rw [Tryd.params3] at hA hval
  obtain ⟨v0, vs0, d0, ds0, p0, q0, hargs, rfl, rfl, h0, r0⟩ := trodAll_cons hA
  obtain ⟨rfl, rfl, rfl⟩ := trodAll_nil r0
  obtain rfl : args = #[v0] := by cases args; simp_all
  obtain ⟨rfl, rfl⟩ := trodVars_none hV
  have k0 := h0
  have lt0 : ∀ x ∈ p0, x.block < W.heap.size := by obtain ⟨m, hm⟩ := k0; exact DataW.trod_lt m _ _ _ hm
  obtain ⟨a0, len0, cap0, rfl⟩ := okWide_slice Tryd.underlying22 (hval 0 22 v0 rfl rfl)
  obtain ⟨z0, w0⟩ : ∃ zs, IsRow .u8 W a0 len0 cap0 zs := by
    obtain ⟨fuel, hf⟩ := h0
    rcases open_ints Tryd.underlying22 Tryd.underlying5 (by kernel_rfl) hf with ⟨hcs, _⟩ | ⟨x, l, c, zs, hcs, _, hl, hm, hz, _, hcell, hwz⟩
    · simp [Value.cells] at hcs
      obtain ⟨rfl, rfl, rfl⟩ := hcs
      exact ⟨[], .inl ⟨rfl, rfl, rfl, rfl⟩⟩
    · simp [Value.cells] at hcs
      obtain ⟨rfl, rfl, rfl⟩ := hcs
      exact ⟨zs, .inr ⟨_, rfl, hl, hm, by simpa using hz, hcell, hwz⟩⟩
  clear hA0 hval0
  refine (walk a0 len0 cap0 z0 W w0 (laysM185.s1_3 W hsh)).mono fun e W' ⟨he, bel⟩ => ?_
  subst he
  exact ⟨_, rfl, _, _, _, [], _, [], hW', trodAll_mk1 (shut_bool Tryd.underlying4 _), (trodAll_cons_mk (Below.trod laidOut (by kernel_rfl) (of_decide_eq_true (by kernel_rfl)) k0 bel lt0) trodAll_mk0), rfl, bel.frame _, fun h => by cases h⟩

theorem over : Rows.FieldsParsesSaid :=
  OpenClaim.holds_of_wide 3 Tryd.f3 rfl rfl rfl rfl rfl rfl rfl ⟨rfl, rfl, rfl, rfl, rfl⟩ rfl rfl rfl rfl rfl (by kernel_rfl) Tryd.func3 (by kernel_rfl)
    (of_decide_eq_true (by kernel_rfl)) (by unfold Func.isWrapper; first | (rw [if_pos (by decide +kernel)]; kernel_rfl) | (rw [if_neg (by decide +kernel)]; exact ⟨rfl, rfl⟩))
    (fun os started H enc _ => lifted os started H enc)
end Go.Proofs.YtnpjffpioimcdaaDoor.fieldsParses
namespace Go.Proofs.YtnpjffpioimcdaaDoor
theorem fieldsParses_card : Rows.FieldsParsesCardSaid :=
  Claim7.holds_tied_plain_at .later [] _ _ _ _ fieldsParses.over (fun _ h => by cases h) (by kernel_rfl) (fun _ h => by cases h) fieldsParses_row_tie rfl ⟨rfl, rfl⟩ (by kernel_rfl) rfl
    (fun f fn hf hfn => by
      obtain rfl : f = 3 := Option.some.inj ((show Tryd.prog.funcNamed Rows.fieldsParsesRow.func = some 3 by kernel_rfl).symm.trans hf) |>.symm
      obtain rfl : fn = Tryd.f3 := (Option.some.inj (Tryd.func3.symm.trans hfn)).symm
      exact ⟨by kernel_rfl, fun j t ht => by
        rw [Tryd.params3] at ht
        have hm : t ∈ [22] := by simpa using Array.mem_of_getElem? ht
        have hall : ([22].all fun u => !Tryd.prog.wantsStandIn u) = true := by kernel_rfl
        exact (show Tryd.prog.wantsStandIn t = false by simpa using List.all_eq_true.1 hall t hm)⟩)
    (by kernel_rfl)
#print axioms fieldsParses_card
end Go.Proofs.YtnpjffpioimcdaaDoor
