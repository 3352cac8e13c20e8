/-
  TreeRight: whatever bytes come, what is read of them as a component may be, and written it is read as the same; if nothing is read, the answer is empty.
-/
import Derived.Test.YtenclgnkogmgiaaDoorCards
import Derived.Test.YtenclgnkogmgiaaDoorTie
import Derived.Test.YtenclgnkogmgiaaDoorXd
import Derived.Test.YtenclgnkogmgiaaDoorXc
import Derived.WalkKit
import Derived.ProofKit
import Derived.OpenShut
import Derived.ShutString
import Derived.ChangeOld
import Derived.Below
import Derived.HandedShaped
import Derived.LaidMore
import Derived.Lay
import Derived.SevenTiedAt
import Derived.Stop.Joined
namespace Go.Proofs.YtenclgnkogmgiaaDoor.treeRight
open Go.ChangeShapes Go.WideShapes Go.ChangeAt Go.RowKit
open Go.ChangeMaps (open_string shut_string)
set_option linter.unusedVariables false
set_option linter.unusedSimpArgs false

set_option maxHeartbeats 8000000 in
set_option maxRecDepth 100000 in
theorem walk (a : Option Addr) (len cap : Nat) (z0 : List Int) (w : World) (h : IsRow .u8 w a len cap z0) (mx : Int) (hm : w.cell? ⟨0, 0, none⟩ = some (.int .i64 mx)) : Calls Tryd.prog 7 #[.slice a len cap] w fun e w' => e = .returned (.bool true) ∧ Below w.heap.size w w' := by
  obtain ⟨zs, hl, hcap, hcm, hb, hr⟩ := byte_view h
  have HM : Hid (w.cell? ⟨0, 0, none⟩ = some (.int .i64 mx)) := hm
  have HL : Hid (zs.length = len) := hl
  have hbig : len ≤ 9223372036854775807 := by have : maxLen = 9223372036854775807 := rfl; omega
  clear hm h hl
  by_cases h6 : 6000 < len
  · go_enter Tryd.func7, Tryd.ntmps7
    go_wp2_with (go_at_call 11; refine (alive_any _ mx HM.out).mono ?_; rintro e w1 ⟨rfl, hb1⟩)
    go_ret
    exact ⟨rfl, hb1⟩
  have hrd := read_tree a len cap zs w HL.out hb hcap hcm hr mx HM.out
  go_enter Tryd.func7, Tryd.ntmps7
  go_wp2_with fail
  refine hrd.mono ?_
  rintro e w1 ⟨x1, y1, z1, c1, rfl, hb1, hans⟩
  have HB1 : Hid (Below w.heap.size w w1) := hb1
  clear hb1 hrd
  have hz : (c1 ≠ 0 ∧ x1 = .string ⟨#[]⟩ ∧ y1 = .slice none 0 0 ∧ z1 = .slice none 0 0) ∨ ∃ t ms, ROk zs ms ∧ rdM [] (ms.map Lm.ln) = some t ∧ c1 = 0 ∧ (∀ k, FitC k t) ∧ CpAt 4097 w1 t x1 y1 z1 := by
    rcases hans with ⟨p, hrf, h1, h2, h3⟩ | ⟨ms, hok, ⟨_, h0, h1, h2, h3⟩ | ⟨t, h1, h2, h3, h4⟩⟩
    · exact .inl ⟨(read_wrong hrf).2, h1, h2, h3⟩
    · exact .inl ⟨by rw [h0]; decide, h1, h2, h3⟩
    · exact .inr ⟨t, ms, hok, h1, h2, h3, h4⟩
  clear hans
  rcases hz with ⟨hne, rfl, rfl, rfl⟩ | ⟨t, ms, hok, hsome, rfl, hfit, hcp⟩
  · have hne2 : (c1 != 0) = true := by simp [hne]
    have hkz := keep w1 (.cells #[.string ⟨#[]⟩, .slice none 0 0, .slice none 0 0] 25)
    have hBz := Blk.new w1 #[.string ⟨#[]⟩, .slice none 0 0, .slice none 0 0] 25
    have hal := alive_any (w1.alloc (.cells #[.string ⟨#[]⟩, .slice none 0 0, .slice none 0 0] 25)) mx (cell_keep hkz (cell_keep HB1.out HM.out))
    have HKZ : Hid (Below w1.heap.size w1 (w1.alloc (.cells #[.string ⟨#[]⟩, .slice none 0 0, .slice none 0 0] 25))) := hkz
    have HBZ : Hid (Blk (w1.alloc (.cells #[.string ⟨#[]⟩, .slice none 0 0, .slice none 0 0] 25)) w1.heap.size #[.string ⟨#[]⟩, .slice none 0 0, .slice none 0 0] 25) := hBz
    unfold compV
    clear hne hkz hBz
    go_wp2_with fail
    refine hal.mono ?_
    rintro e w2 ⟨rfl, hb2⟩
    have hb12 := HKZ.out.trans (hb2.mono HKZ.out.size)
    have HB2 : Hid (Below w.heap.size w w2) := HB1.out.trans (hb12.mono HB1.out.size)
    obtain ⟨c0, c1', c2⟩ := cells3 (HBZ.out.below hb2 HBZ.out.lt)
    have hsm := same_all 1 ⟨[], [], []⟩ _ _ _ _ _ _ w2 (zero_at w2) (zero_at w2)
    unfold compV at hsm
    clear hal hb2 hb12
    go_wp2_with (go_at_call 18; refine hsm.mono ?_; rintro e w3 ⟨rfl, hb3⟩)
    go_ret
    exact ⟨by first | rfl | simp, HB2.out.trans (hb3.mono HB2.out.size)⟩
  · have hn4 : ms.length ≤ 4096 := hok.2.2.2.1
    obtain ⟨hdep, hrt, hsum⟩ := rd_sum 4096 (ms.map Lm.ln) [] 0 t (fun f hf => by simp at hf) (by rw [List.length_map]; omega) hsome
    have hsw := ok_sumW hok
    have hl := HL.out
    simp only [openW, Nat.zero_add] at hsum
    have hsum : sumW (wlP 4097 t) = sumW (ms.map Lm.ln) := hsum
    have hlw := len_sum (wlP 4097 t)
    have how := out_sum (wlP 4097 t)
    have hlen1 : (wlP 4097 t).length ≤ 3000 := by omega
    have hlen2 : (outN (wlP 4097 t)).length ≤ 24000 := by omega
    obtain ⟨ks, hks⟩ := cp_ms 4097 t _ _ _ hcp
    obtain ⟨⟨nm1, rfl, _⟩, ⟨ya, yn, yc, rfl⟩, ⟨za, zn, zc, rfl⟩⟩ := cp_form hcp
    have HCP : Hid (CpAt 4097 w1 t (.string nm1) (.slice ya yn yc) (.slice za zn zc)) := hcp
    have HFIT : Hid (∀ k, FitC k t) := hfit
    have HRT : Hid (rightT t = true) := hrt
    have HDEP : Hid (dep 4097 t) := hdep
    have HKS : Hid (ks.map Lm.ln = wlP 4097 t) := hks
    have HL1 : Hid ((wlP 4097 t).length ≤ 3000) := hlen1
    have HL2 : Hid ((outN (wlP 4097 t)).length ≤ 24000) := hlen2
    have hk1 := keep w1 (.cells #[.string nm1, .slice ya yn yc, .slice za zn zc] 25)
    have hwr := write_tree 4097 t _ _ _ (w1.alloc (.cells #[.string nm1, .slice ya yn yc, .slice za zn zc] 25)) (CpAt.below hk1 _ _ _ _ _ hcp) (hfit _)
    have HK1 : Hid (Below w1.heap.size w1 (w1.alloc (.cells #[.string nm1, .slice ya yn yc, .slice za zn zc] 25))) := hk1
    have HG1 : Hid (Blk (w1.alloc (.cells #[.string nm1, .slice ya yn yc, .slice za zn zc] 25)) w1.heap.size #[.string nm1, .slice ya yn yc, .slice za zn zc] 25) := Blk.new _ _ _
    unfold compV at hwr ⊢
    clear hk1 hcp hsome hok hfit hrt hdep hks hlen1 hlen2 how hlw hsum hsw hl
    go_wp2_with fail
    refine hwr.mono ?_
    rintro e w2 ⟨v2, c2, rfl, hb2, hans⟩
    clear hwr
    have hgood : c2 = 0 ∧ Own w2 (w1.alloc (.cells #[.string nm1, .slice ya yn yc, .slice za zn zc] 25)).heap.size v2 (outN (wlP 4097 t)) := by
      rcases hans with ⟨h1, _, _, _, h5⟩ | ⟨_, ⟨h1, _⟩ | ⟨_, _, h1⟩⟩
      · exact ⟨h1, h5⟩
      · rw [HRT.out] at h1; cases h1
      · have := HL1.out; have := HL2.out; omega
    obtain ⟨rfl, hown⟩ := hgood
    have hb12 : Below w1.heap.size w1 w2 := HK1.out.trans (hb2.mono HK1.out.size)
    have HB2 : Hid (Below w.heap.size w w2) := HB1.out.trans (hb12.mono HB1.out.size)
    have HCP2 : Hid (CpAt 4097 w2 t (.string nm1) (.slice ya yn yc) (.slice za zn zc)) := CpAt.below hb12 _ _ _ _ _ HCP.out
    have HG2 : Hid (Blk w2 w1.heap.size #[.string nm1, .slice ya yn yc, .slice za zn zc] 25) := HG1.out.below hb2 HG1.out.lt
    have hrw := read_written HKS.out HRT.out HDEP.out (by have := HL1.out; omega) (by have := HL2.out; omega) v2 _ w2 hown mx (cell_keep HB2.out HM.out)
    obtain ⟨va, vn, vc, rfl⟩ : ∃ a n c, v2 = .slice a n c := by obtain ⟨a, c, h1, _⟩ := row_of_own hown; exact ⟨_, _, _, h1⟩
    clear hans hown hb2 hb12
    go_wp2_with fail
    refine hrw.mono ?_
    rintro e w3 ⟨x3, y3, z3, rfl, hb3, _, hcp3⟩
    clear hrw
    obtain ⟨⟨nm3, rfl, _⟩, ⟨ua, un, uc, rfl⟩, ⟨ta, tn, tc, rfl⟩⟩ := cp_form hcp3
    have HB3 : Hid (Below w.heap.size w w3) := HB2.out.trans (hb3.mono HB2.out.size)
    have HCP3 : Hid (CpAt 4097 w3 t (.string nm1) (.slice ya yn yc) (.slice za zn zc)) := CpAt.below hb3 _ _ _ _ _ HCP2.out
    have HCQ3 : Hid (CpAt 4097 w3 t (.string nm3) (.slice ua un uc) (.slice ta tn tc)) := hcp3
    have HG3 : Hid (Blk w3 w1.heap.size #[.string nm1, .slice ya yn yc, .slice za zn zc] 25) := HG2.out.below hb3 HG2.out.lt
    have HQ3 : Hid (Blk (w3.alloc (.cells #[.string nm3, .slice ua un uc, .slice ta tn tc] 25)) w3.heap.size #[.string nm3, .slice ua un uc, .slice ta tn tc] 25) := Blk.new _ _ _
    have hk3 := keep w3 (.cells #[.string nm3, .slice ua un uc, .slice ta tn tc] 25)
    have HK3 : Hid (Below w3.heap.size w3 (w3.alloc (.cells #[.string nm3, .slice ua un uc, .slice ta tn tc] 25))) := hk3
    have hal := alive_any (w3.alloc (.cells #[.string nm3, .slice ua un uc, .slice ta tn tc] 25)) mx (cell_keep hk3 (cell_keep HB3.out HM.out))
    unfold compV
    clear hb3 hcp3 hk3
    go_wp2_with fail
    refine hal.mono ?_
    rintro e w4 ⟨rfl, hb4⟩
    clear hal
    have hb34 : Below w3.heap.size w3 w4 := HK3.out.trans (hb4.mono HK3.out.size)
    have HB4 : Hid (Below w.heap.size w w4) := HB3.out.trans (hb34.mono HB3.out.size)
    have HCP4 : Hid (CpAt 4097 w4 t (.string nm1) (.slice ya yn yc) (.slice za zn zc)) := CpAt.below hb34 _ _ _ _ _ HCP3.out
    have HCQ4 : Hid (CpAt 4097 w4 t (.string nm3) (.slice ua un uc) (.slice ta tn tc)) := CpAt.below hb34 _ _ _ _ _ HCQ3.out
    have HG4 : Hid (Blk w4 w1.heap.size #[.string nm1, .slice ya yn yc, .slice za zn zc] 25) := HG3.out.below hb34 HG3.out.lt
    have HQ4 : Hid (Blk w4 w3.heap.size #[.string nm3, .slice ua un uc, .slice ta tn tc] 25) := HQ3.out.below hb4 HQ3.out.lt
    obtain ⟨g0, g1, g2⟩ := cells3 HG4.out
    have hrt := right_tree 4097 t _ _ _ w4 HCP4.out (HFIT.out _)
    rw [HRT.out] at hrt
    unfold compV at hrt
    clear hb4 hb34
    go_wp2_with fail
    refine hrt.mono ?_
    rintro e w5 ⟨rfl, hb5⟩
    clear hrt g0 g1 g2
    have HB5 : Hid (Below w.heap.size w w5) := HB4.out.trans (hb5.mono HB4.out.size)
    obtain ⟨g0, g1, g2⟩ := cells3 (HG4.out.below hb5 HG4.out.lt)
    obtain ⟨q0, q1, q2⟩ := cells3 (HQ4.out.below hb5 HQ4.out.lt)
    have hsm := same_all 4097 t _ _ _ _ _ _ w5 (CpAt.below hb5 _ _ _ _ _ HCP4.out) (CpAt.below hb5 _ _ _ _ _ HCQ4.out)
    unfold compV at hsm
    clear hb5
    go_wp2_with (go_at_call 18; refine hsm.mono ?_; rintro e w6 ⟨rfl, hb6⟩)
    go_ret
    exact ⟨by first | rfl | simp, HB5.out.trans (hb6.mono HB5.out.size)⟩

set_option maxRecDepth 100000 in
theorem lifted (os : Os) (started : os.Started) (H : Type) (enc : TypeId × Value → H) :
    ReturnsInHanded {} Tryd.checked os 7 .any (fun w args => (Rows.treeRightSpec.pre enc Tryd.prog Tryd.f7 Rows.treeRightRow.domain false w args ∧ laidMetH Tryd.prog Rows.treeRightRow.laid w) ∧ sizedMet enc Tryd.prog Tryd.f7 (OpenSpec.ofChange Rows.treeRightSpec) false w args)
      (Rows.treeRightSpec.post enc Tryd.prog Tryd.f7 false true false false) := by
  refine step_all (C := Tryd.checked) (X := fun w _ => laidMetH Tryd.prog Rows.treeRightRow.laid w) (fun _ _ _ hh h => h.of_heap hh) own started (by kernel_rfl) Tryd.func7
    (ChangeSpec.witness_shaped (enc := enc) (C := Tryd.checked) (os := os) (X := fun w _ => laidMetH Tryd.prog Rows.treeRightRow.laid w) false (World.laidAll Tryd.prog os Rows.treeRightRow.laid) #[.slice none 0 0] 8 (World.laidAll_os _ _ _)
      (World.shaped_of_ZipB (by kernel_rfl) (by kernel_rfl)) (by kernel_rfl) (by kernel_rfl) (by kernel_rfl)
      (by rw [MakeChecks.laidMetH_plain _ _ _ (by kernel_rfl)]; exact laidMet_laidAll _ (by kernel_rfl) (by kernel_rfl))) ?_
  intro W base args ds gs before hval0 hW hcnd hsz0 hsh hL
  have hval : ∀ (j : Nat) t v, Tryd.f7.params[j]? = some t → args[j]? = some v → Value.okWide Tryd.prog W .any base t v := hval0
  have hsz : (DataW.weightsEach Tryd.prog (Tryd.f7.params.toList ++ Rows.treeRightSpec.plain.varTypes Tryd.prog) (ds ++ gs)).all (· ≤ reachBytes) = true := hsz0
  have hW' := hW
  obtain ⟨p, q, hA0, hV, rfl, hfz, hnd⟩ := hW
  have hA : DataW.TrodAll enc Tryd.prog W 0 (fun _ => true) true Tryd.f7.params.toList args.toList ds p := hA0
  rw [Tryd.params7] at hA hval hsz
  obtain ⟨v0, vs0, d0, ds0, p0, q0, hargs0, rfl, rfl, h0, r0⟩ := trodAll_cons hA
  obtain ⟨rfl, rfl, rfl⟩ := trodAll_nil r0
  obtain rfl : args = #[v0] := by cases args; simp_all
  obtain ⟨rfl, rfl⟩ := trodVars_none hV
  have k0 := h0
  have lt0 : ∀ x ∈ p0, x.block < W.heap.size := by obtain ⟨m, hm⟩ := k0; exact DataW.trod_lt m _ _ _ hm
  obtain ⟨a0, len0, cap0, rfl⟩ := okWide_slice Tryd.underlying29 (hval 0 29 v0 rfl rfl)
  obtain ⟨z0, w0⟩ : ∃ zs, IsRow .u8 W a0 len0 cap0 zs := by
    obtain ⟨fuel, hf⟩ := h0
    rcases open_ints Tryd.underlying29 Tryd.underlying5 (by kernel_rfl) hf with ⟨hcs, _⟩ | ⟨x, l, c, zs, hcs, _, hl, hm, hz, _, hcell, hwz⟩
    · simp [Value.cells] at hcs
      obtain ⟨rfl, rfl, rfl⟩ := hcs
      exact ⟨[], .inl ⟨rfl, rfl, rfl, rfl⟩⟩
    · simp [Value.cells] at hcs
      obtain ⟨rfl, rfl, rfl⟩ := hcs
      exact ⟨zs, .inr ⟨_, rfl, hl, hm, by simpa using hz, hcell, hwz⟩⟩
  clear hA0 hval0
  obtain ⟨m, hm⟩ := shape_cell W hsh
  refine (walk a0 len0 cap0 z0 W w0 m hm).mono fun e W' ⟨he, bel⟩ => ?_
  subst he
  exact ⟨_, rfl, _, _, _, [], _, [], hW', trodAll_mk1 (shut_bool Tryd.underlying4 _), (trodAll_cons_mk (Below.trod laidOut (by kernel_rfl) (of_decide_eq_true (by kernel_rfl)) k0 bel lt0) trodAll_mk0), rfl, bel.frame _, fun h => by cases h⟩

theorem over : Rows.TreeRightSaid :=
  OpenClaim.holds_of_wide 7 Tryd.f7 rfl rfl rfl rfl rfl rfl rfl ⟨rfl, rfl, rfl, rfl, rfl⟩ rfl rfl rfl rfl rfl (by kernel_rfl) Tryd.func7 (by kernel_rfl)
    (of_decide_eq_true (by kernel_rfl)) (by unfold Func.isWrapper; first | (rw [if_pos (by decide +kernel)]; kernel_rfl) | (rw [if_neg (by decide +kernel)]; exact ⟨rfl, rfl⟩))
    (fun os started H enc _ => lifted os started H enc)
end Go.Proofs.YtenclgnkogmgiaaDoor.treeRight
namespace Go.Proofs.YtenclgnkogmgiaaDoor
theorem treeRight_card : Rows.TreeRightCardSaid :=
  Claim7.holds_tied_plain_at .later [] _ _ _ _ treeRight.over (fun _ h => by cases h) (by kernel_rfl) (fun _ h => by cases h) treeRight_row_tie rfl ⟨rfl, rfl⟩ (by kernel_rfl) rfl
    (fun f fn hf hfn => by
      obtain rfl : f = 7 := Option.some.inj ((show Tryd.prog.funcNamed Rows.treeRightRow.func = some 7 by kernel_rfl).symm.trans hf) |>.symm
      obtain rfl : fn = Tryd.f7 := (Option.some.inj (Tryd.func7.symm.trans hfn)).symm
      exact ⟨by kernel_rfl, fun j t ht => by
        rw [Tryd.params7] at ht
        have hm : t ∈ [29] := by simpa using Array.mem_of_getElem? ht
        have hall : ([29].all fun u => !Tryd.prog.wantsStandIn u) = true := by kernel_rfl
        exact (show Tryd.prog.wantsStandIn t = false by simpa using List.all_eq_true.1 hall t hm)⟩)
    (by kernel_rfl)
#print axioms treeRight_card
end Go.Proofs.YtenclgnkogmgiaaDoor
