/-
  SheetRight: whatever bytes come, what is read of them may be, and written it is read as the same; or what is wrong is told at a place of them.
-/
import Derived.Test.YtjcjhcpaojhcfaaDoorCards
import Derived.Test.YtjcjhcpaojhcfaaDoorTie
import Derived.Test.YtjcjhcpaojhcfaaDoorRm
import Derived.Test.YtjcjhcpaojhcfaaDoorRd
import Derived.Test.YtjcjhcpaojhcfaaDoorSt
import Derived.WalkKit
import Derived.ProofKit
import Derived.OpenShut
import Derived.ShutString
import Derived.ChangeOld
import Derived.Below
import Derived.HandedShaped
import Derived.LaidMore
import Derived.Lay
import Derived.SevenTiedAt
import Derived.Stop.Joined
namespace Go.Proofs.YtjcjhcpaojhcfaaDoor.sheetRight
open Go.ChangeShapes Go.WideShapes Go.ChangeAt Go.RowKit
open Go.ChangeMaps (open_string shut_string)
set_option linter.unusedVariables false

theorem out_byt (ls : List Lm) : Byt (outM ls) := by
  intro x hx
  unfold outM endW at hx
  obtain ⟨p, hp, hx⟩ := List.mem_flatMap.1 hx
  obtain ⟨m, hm, hp⟩ := List.mem_flatMap.1 hp
  have hpb : Byt p := fold_byt _ _ _ (by intro y hy; cases hy) (written_byt m.nm m.vl m.fs) p hp
  rcases List.mem_append.1 hx with h | h
  · exact hpb x h
  · simp at h; omega
set_option maxHeartbeats 8000000 in
set_option maxRecDepth 100000 in
theorem walk (a : Option Addr) (len cap : Nat) (z0 : List Int) (w : World) (h : IsRow .u8 w a len cap z0) (m : Int) (hm : w.cell? ⟨2, 0, none⟩ = some (.int .i64 m)) : Calls Tryd.prog 5 #[.slice a len cap] w fun e w' => e = .returned (.bool true) ∧ Below w.heap.size w w' := by
  obtain ⟨zs, hl, hcap, hcm, hb, hr⟩ := byte_view h
  have HM : Hid (w.cell? ⟨2, 0, none⟩ = some (.int .i64 m)) := hm
  have HL : Hid (zs.length = len) := hl
  have hbig : len ≤ 9223372036854775807 := by have : maxLen = 9223372036854775807 := rfl; omega
  clear hm h hl
  by_cases h6 : 6000 < len
  · go_enter Tryd.func5, Tryd.ntmps5
    go_wp2_with (go_at_call 6; refine (alive_any _).mono ?_; rintro e w1 ⟨rfl, hb1⟩)
    go_ret
    exact ⟨rfl, hb1⟩
  have hrd := read_any a len cap zs w HL.out hb hcap hcm hr m HM.out
  unfold RPost at hrd
  go_enter Tryd.func5, Tryd.ntmps5
  go_wp2_with fail
  refine hrd.mono ?_
  rintro e w1 ⟨v1, p, code, rfl, hb1, hans⟩
  have HB1 : Hid (Below w.heap.size w w1) := hb1
  clear hb1 hrd
  rcases hans with ⟨hRF, rfl⟩ | ⟨rfl, rfl, a1, c1, ls, rfl, hLR, hRO⟩
  · obtain ⟨hp, hc⟩ := read_wrong hRF
    clear hRF
    have hne : (code != 0) = true := by simp [hc]
    have hB := Blk.new w1 #[.int .i64 (p : Nat), .int .i64 code] 27
    have c0 := hB.cell 0
    have c1 := hB.cell 1
    simp only [List.getElem?_toArray, List.getElem?_cons_zero, List.getElem?_cons_succ] at c0 c1
    have hal := alive_any (w1.alloc (.cells #[.int .i64 (p : Nat), .int .i64 code] 27))
    have hp0 : (0 : Int) ≤ (p : Int) := by omega
    have hpl : (p : Int) ≤ (len : Int) := by have := HL.out; omega
    clear hc hp
    go_wp2_with fail
    refine hal.mono ?_
    rintro e w2 ⟨rfl, hb2⟩
    have B2 : Blk w2 w1.heap.size #[.int .i64 (p : Nat), .int .i64 code] 27 := hB.below hb2 (by simp)
    have m1 := B2.cell 0
    have m2 := B2.cell 1
    simp only [List.getElem?_toArray, List.getElem?_cons_zero, List.getElem?_cons_succ] at m1 m2
    have hb12 : Below w1.heap.size w1 w2 := (keep w1 _).trans (hb2.mono (by simp))
    have HB2 : Hid (Below w.heap.size w w2) := HB1.out.trans (hb12.mono HB1.out.size)
    clear hb2 hal c0 c1 hB B2
    go_wp2_with fail
    go_ret
    exact ⟨by first | rfl | simp, HB2.out⟩
  · obtain ⟨hok, hol, hcnt⟩ := read_right hRO
    have HL1 : Hid (LRow w1 a1 ls) := hLR
    have hB := Blk.new w1 #[.int .i64 ((0 : Nat) : Int), .int .i64 0] 27
    have d0 := hB.cell 0
    have d1 := hB.cell 1
    simp only [List.getElem?_toArray, List.getElem?_cons_zero, List.getElem?_cons_succ] at d0 d1
    have hk1 : Below w1.heap.size w1 (w1.alloc (.cells #[.int .i64 ((0 : Nat) : Int), .int .i64 0] 27)) := keep w1 _
    have hwr := write_any a1 ls.length c1 ls (w1.alloc (.cells #[.int .i64 ((0 : Nat) : Int), .int .i64 0] 27)) rfl (by have := HL.out; omega) (hLR.below hk1) (fun m hm => ok_fit (List.all_eq_true.1 hok m hm))
    unfold WPost at hwr
    have hc0 : writeC ls = 0 := by
      have hl := HL.out
      unfold writeC
      rw [if_neg (by omega), if_neg (by rw [hok]; simp)]
    have hwb : writeB ls = outM ls := by unfold writeB; rw [if_pos hc0]
    rw [hc0, hwb] at hwr
    have hl := HL.out
    obtain ⟨hno, hyes⟩ := read_back ls hok (by omega) (by omega)
    have HNO : Hid (∀ p code, ¬ RF (outM ls) p code) := hno
    have HYES : Hid (∀ ks, ROk (outM ls) ks → SameL ls ks) := hyes
    have hls : ls.length ≤ 3000 := by omega
    have HOK : Hid (ls.all okM = true) := hok
    have HOL : Hid ((outM ls).length ≤ 4 * zs.length) := hol
    clear hno hyes hc0 hwb hRO hol hcnt hok hl
    obtain ⟨kl, hkl⟩ : ∃ kl, ls.length = kl := ⟨_, rfl⟩
    rw [hkl] at hwr hls ⊢
    have HKL : Hid (ls.length = kl) := hkl
    clear hkl
    go_wp2_with fail
    refine hwr.mono ?_
    rintro e w2 ⟨v2, rfl, hown, hb2⟩
    have hb12 : Below w1.heap.size w1 w2 := hk1.trans (hb2.mono (by simp))
    have HB2 : Hid (Below w.heap.size w w2) := HB1.out.trans (hb12.mono HB1.out.size)
    have HL2 : Hid (LRow w2 a1 ls) := HL1.out.below hb12
    obtain ⟨a2, c2, rfl, hcl, hcm2, hrow, _⟩ := own_row' hown
    have hrd := read_any a2 _ c2 (outM ls) w2 rfl (out_byt ls) hcl hcm2 hrow m ((HB2.out.cell (World.block_lt_of_cell? w _ HM.out)).trans HM.out)
    unfold RPost at hrd
    clear hown hrow hwr hk1 hb2 hb12 hB d0 d1 hLR
    obtain ⟨ol, hole⟩ : ∃ ol, (outM ls).length = ol := ⟨_, rfl⟩
    rw [hole] at hrd ⊢
    clear hole hcl
    go_wp2_with fail
    refine hrd.mono ?_
    rintro e w3 ⟨v3, p, code, rfl, hb3, hans⟩
    rcases hans with ⟨hRF, _⟩ | ⟨rfl, rfl, a3, c3, ks, rfl, hLR, hRO⟩
    · exact absurd hRF (HNO.out _ _)
    have HB3 : Hid (Below w.heap.size w w3) := HB2.out.trans (hb3.mono HB2.out.size)
    have HL3 : Hid (LRow w3 a3 ks) := hLR
    have HL3' : Hid (LRow w3 a1 ls) := HL2.out.below hb3
    have HS : Hid (SameL ls ks) := HYES.out ks hRO
    clear hb3 hrd hLR hRO
    have hsm := fun V (hb : Below w3.heap.size w3 V) => same_any a1 a3 kl ks.length c1 c3 ls ks V HKL.out rfl (by omega) (fun m hm => by have := (ok_fit (List.all_eq_true.1 HOK.out m hm)).2.2.1; omega) (HL3'.out.below hb) (HL3.out.below hb) HS.out
    obtain ⟨jl, hjl⟩ : ∃ jl, ks.length = jl := ⟨_, rfl⟩
    rw [hjl] at hsm ⊢
    clear hjl
    have hal := alive_any (w3.alloc (.cells #[.int .i64 ((0 : Nat) : Int), .int .i64 0] 27))
    have hB3 := Blk.new w3 #[.int .i64 ((0 : Nat) : Int), .int .i64 0] 27
    go_wp2_with fail
    refine hal.mono ?_
    rintro e w4 ⟨rfl, hb4⟩
    have B4 : Blk w4 w3.heap.size #[.int .i64 ((0 : Nat) : Int), .int .i64 0] 27 := hB3.below hb4 (by simp)
    have m1 := B4.cell 0
    have m2 := B4.cell 1
    simp only [List.getElem?_toArray, List.getElem?_cons_zero, List.getElem?_cons_succ] at m1 m2
    have hb34 : Below w3.heap.size w3 w4 := (keep w3 _).trans (hb4.mono (by simp))
    have HB4 : Hid (Below w.heap.size w w4) := HB3.out.trans (hb34.mono HB3.out.size)
    have hsm4 := hsm w4 hb34
    clear hsm hal hb4 B4 hB3 hb34
    go_wp2_with (go_at_call 11; refine hsm4.mono ?_; rintro e w5 ⟨rfl, hb5⟩)
    go_ret
    exact ⟨by first | rfl | simp, HB4.out.trans (hb5.mono HB4.out.size)⟩

set_option maxRecDepth 100000 in
theorem lifted (os : Os) (started : os.Started) (H : Type) (enc : TypeId × Value → H) :
    ReturnsInHanded {} Tryd.checked os 5 .any (fun w args => (Rows.sheetRightSpec.pre enc Tryd.prog Tryd.f5 Rows.sheetRightRow.domain false w args ∧ laidMetH Tryd.prog Rows.sheetRightRow.laid w) ∧ sizedMet enc Tryd.prog Tryd.f5 (OpenSpec.ofChange Rows.sheetRightSpec) false w args)
      (Rows.sheetRightSpec.post enc Tryd.prog Tryd.f5 false true false false) := by
  refine step_all (C := Tryd.checked) (X := fun w _ => laidMetH Tryd.prog Rows.sheetRightRow.laid w) (fun _ _ _ hh h => h.of_heap hh) own started (by kernel_rfl) Tryd.func5
    (ChangeSpec.witness_shaped (enc := enc) (C := Tryd.checked) (os := os) (X := fun w _ => laidMetH Tryd.prog Rows.sheetRightRow.laid w) false (World.laidAll Tryd.prog os Rows.sheetRightRow.laid) #[.slice none 0 0] 8 (World.laidAll_os _ _ _)
      (World.shaped_of_ZipB (by kernel_rfl) (by kernel_rfl)) (by kernel_rfl) (by kernel_rfl) (by kernel_rfl)
      (by rw [MakeChecks.laidMetH_plain _ _ _ (by kernel_rfl)]; exact laidMet_laidAll _ (by kernel_rfl) (by kernel_rfl))) ?_
  intro W base args ds gs before hval0 hW hcnd hsz0 hsh hL
  have hval : ∀ (j : Nat) t v, Tryd.f5.params[j]? = some t → args[j]? = some v → Value.okWide Tryd.prog W .any base t v := hval0
  have hsz : (DataW.weightsEach Tryd.prog (Tryd.f5.params.toList ++ Rows.sheetRightSpec.plain.varTypes Tryd.prog) (ds ++ gs)).all (· ≤ reachBytes) = true := hsz0
  have hW' := hW
  obtain ⟨p, q, hA0, hV, rfl, hfz, hnd⟩ := hW
  have hA : DataW.TrodAll enc Tryd.prog W 0 (fun _ => true) true Tryd.f5.params.toList args.toList ds p := hA0
  rw [Tryd.params5] at hA hval hsz
  obtain ⟨v0, vs0, d0, ds0, p0, q0, hargs, rfl, rfl, h0, r0⟩ := trodAll_cons hA
  obtain ⟨rfl, rfl, rfl⟩ := trodAll_nil r0
  obtain rfl : args = #[v0] := by cases args; simp_all
  obtain ⟨rfl, rfl⟩ := trodVars_none hV
  obtain ⟨a0, len0, cap0, rfl⟩ := okWide_slice Tryd.underlying22 (hval 0 22 v0 rfl rfl)
  have k0 := h0
  have lt0 : ∀ x ∈ p0, x.block < W.heap.size := by obtain ⟨m, hm⟩ := k0; exact DataW.trod_lt m _ _ _ hm
  obtain ⟨z0, w0⟩ : ∃ zs, IsRow .u8 W a0 len0 cap0 zs := by
    obtain ⟨fuel, hf⟩ := h0
    rcases open_ints Tryd.underlying22 Tryd.underlying5 (by kernel_rfl) hf with ⟨hcs, _⟩ | ⟨x, l, c, zs, hcs, _, hl, hm, hz, _, hcell, hwz⟩
    · simp [Value.cells] at hcs
      obtain ⟨rfl, rfl, rfl⟩ := hcs
      exact ⟨[], .inl ⟨rfl, rfl, rfl, rfl⟩⟩
    · simp [Value.cells] at hcs
      obtain ⟨rfl, rfl, rfl⟩ := hcs
      exact ⟨zs, .inr ⟨_, rfl, hl, hm, by simpa using hz, hcell, hwz⟩⟩
  clear hA0 hval0
  obtain ⟨m, hm⟩ := shape_cell W hsh
  refine (walk a0 len0 cap0 z0 W w0 m hm).mono fun e W' ⟨he, bel⟩ => ?_
  subst he
  exact ⟨_, rfl, _, _, _, [], _, [], hW', trodAll_mk1 (shut_bool Tryd.underlying4 _), (trodAll_cons_mk (Below.trod laidOut (by kernel_rfl) (of_decide_eq_true (by kernel_rfl)) k0 bel lt0) trodAll_mk0), rfl, bel.frame _, fun h => by cases h⟩

theorem over : Rows.SheetRightSaid :=
  OpenClaim.holds_of_wide 5 Tryd.f5 rfl rfl rfl rfl rfl rfl rfl ⟨rfl, rfl, rfl, rfl, rfl⟩ rfl rfl rfl rfl rfl (by kernel_rfl) Tryd.func5 (by kernel_rfl)
    (of_decide_eq_true (by kernel_rfl)) (by unfold Func.isWrapper; first | (rw [if_pos (by decide +kernel)]; kernel_rfl) | (rw [if_neg (by decide +kernel)]; exact ⟨rfl, rfl⟩))
    (fun os started H enc _ => lifted os started H enc)
end Go.Proofs.YtjcjhcpaojhcfaaDoor.sheetRight
namespace Go.Proofs.YtjcjhcpaojhcfaaDoor
theorem sheetRight_card : Rows.SheetRightCardSaid :=
  Claim7.holds_tied_plain_at .later [] _ _ _ _ sheetRight.over (fun _ h => by cases h) (by kernel_rfl) (fun _ h => by cases h) sheetRight_row_tie rfl ⟨rfl, rfl⟩ (by kernel_rfl) rfl
    (fun f fn hf hfn => by
      obtain rfl : f = 5 := Option.some.inj ((show Tryd.prog.funcNamed Rows.sheetRightRow.func = some 5 by kernel_rfl).symm.trans hf) |>.symm
      obtain rfl : fn = Tryd.f5 := (Option.some.inj (Tryd.func5.symm.trans hfn)).symm
      exact ⟨by kernel_rfl, fun j t ht => by
        rw [Tryd.params5] at ht
        have hm : t ∈ [22] := by simpa using Array.mem_of_getElem? ht
        have hall : ([22].all fun u => !Tryd.prog.wantsStandIn u) = true := by kernel_rfl
        exact (show Tryd.prog.wantsStandIn t = false by simpa using List.all_eq_true.1 hall t hm)⟩)
    (by kernel_rfl)
#print axioms sheetRight_card
end Go.Proofs.YtjcjhcpaojhcfaaDoor
