/-
  What is written is read as it was, whatever stands behind it (P6.4): for every list of fields and all bytes behind it the statement FieldsBack answers true, and leaves its arguments as they were.
-/
import Derived.Test.YtnpjffpioimcdaaDoorCards
import Derived.Test.YtnpjffpioimcdaaDoorTie
import Derived.Test.YtnpjffpioimcdaaDoorArgs
import Derived.Test.YtnpjffpioimcdaaDoorAlive
import Derived.Test.YtnpjffpioimcdaaDoorBack
import Derived.Test.YtnpjffpioimcdaaDoorSame
import Derived.WalkKit
import Derived.ProofKit
import Derived.OpenShut
import Derived.ShutString
import Derived.ChangeOld
import Derived.Below
import Derived.LaidMore
import Derived.Lay
import Derived.SevenTiedAt
import Derived.Stop.Joined
namespace Go.Proofs.YtnpjffpioimcdaaDoor.fieldsBack
open Go.ChangeShapes Go.WideShapes Go.ChangeAt Go.RowKit
open Go.ChangeMaps (open_string shut_string)
set_option linter.unusedVariables false

theorem own_empty (w : World) (B : Nat) (hB : B ≤ w.heap.size) : Own (w.alloc (.cells #[] 5)) B (.slice (some ⟨w.heap.size, 0, none⟩) 0 0) [] :=
  ⟨by simp, .inr ⟨w.heap.size, 0, #[], rfl, hB, World.alloc_heap_new w _, by simp, by simp [maxLen], by simp, by simp⟩⟩
set_option maxRecDepth 100000 in
set_option maxHeartbeats 4000000 in
theorem walk (a0 : Option Addr) (len0 cap0 : Nat) (fs : List (ByteArray × ByteArray)) (a1 : Option Addr) (len1 cap1 : Nat) (z1 : List Int) (w : World) (w0 : IsFs w a0 len0 cap0 fs) (w1 : IsRow .u8 w a1 len1 cap1 z1) (hm : Mx w) :
    Calls Tryd.prog 5 #[.slice a0 len0 cap0, .slice a1 len1 cap1] w fun e w' => e = .returned (.bool true) ∧ Below w.heap.size w w' := by
  obtain ⟨hn, hlc, hcm, hfr, hnil, _⟩ := w0
  have hnil1 := isRow_nil w1
  obtain ⟨more, hml, hmc, hmm, hmb, hmr⟩ := byte_view w1
  unfold maxLen at hcm hmm
  obtain ⟨j0, hi, hz0, hz1, hz2⟩ := info_parts Tryd.info5
  have HM : Hid (Mx w) := hm
  have HF : Hid (FRow w a0 fs) := hfr
  have HR : Hid (Row w a1 more) := hmr
  clear hm hfr hmr w1
  go_enter Tryd.func5, Tryd.ntmps5
  go_wp2_with fail
  refine (great_any a0 len0 cap0 fs w hn (by omega) HF.out).mono ?_
  rintro e w' ⟨rfl, rfl⟩
  cases hg1 : greatZ fs with
  | true =>
    go_wp2_with fail
    refine (alive_any w HM.out).mono ?_
    rintro e w2 ⟨rfl, hb2⟩
    go_wp2
    go_ret
    exact ⟨rfl, hb2⟩
  | false =>
  obtain ⟨g1, g2⟩ := great_mem hg1
  have HG2 : Hid (∀ f ∈ fs, f.1.size ≤ 200 ∧ f.2.size ≤ 5000) := g2
  clear hg1 g2
  by_cases h3 : 300 < len1
  · have hd : decide ((len1 : Int) > 300) = true := by simp; omega
    go_wp2_with fail
    refine (alive_any w HM.out).mono ?_
    rintro e w2 ⟨rfl, hb2⟩
    go_wp2
    go_ret
    exact ⟨rfl, hb2⟩
  have hd : decide ((len1 : Int) > 300) = false := by simp; omega
  go_wp2_with fail
  refine (write_any a0 len0 cap0 fs w hn (by omega) HF.out (fun f hf => by have := HG2.out f hf; omega)).mono ?_
  rintro e w1 ⟨v, rfl, ho, hb1⟩
  obtain ⟨a2, cap2, rfl, hc2, hm2, hr2, hn2⟩ := own_row' ho
  have HB1 : Hid (Below w.heap.size w w1) := hb1
  have HR2 : Hid (RowK .u8 w1 a2 (writeB fs)) := hr2
  have hsw : w.heap.size ≤ w1.heap.size := hb1.size
  clear ho hb1 hr2
  by_cases hC : writeC fs = 0
  · have HC : Hid (writeC fs = 0) := hC
    rw [hC]
    have hlen := writeB_len hC
    obtain ⟨out, hout⟩ : ∃ out, writeB fs = out := ⟨_, rfl⟩
    have HO : Hid (writeB fs = out) := hout
    rw [hout] at hlen HR2 hc2 ⊢
    clear hout hC
    go_wp2_with (at_builtin; refine wpList_append_rowk rfl _ _ 22 rfl w1.heap.size 5 j0 (.int .u8 0) 1 Tryd.underlying22 hi hz0 hz1 hz2 rfl .u8 _ 0 [] rfl (own_empty w1 w1.heap.size (Nat.le_refl _)) a2 out.length cap2 out rfl rfl hn2 (rowK_below HR2.out (keep w1 _)) (by unfold maxLen; omega) (by omega) (by simp) ?_)
    intro v1 w2 hown1 hgrow1
    have ho1 : Own w2 w1.heap.size v1 out := hown1
    have hb2 : Below w1.heap.size w1 w2 := (keep w1 (.cells #[] 5)).trans ((Below.refl _ _).grown hgrow1 (by simp) (fun k hk => by simp [Value.ownBlock] at hk; omega))
    obtain ⟨a3, cap3, rfl, hc3, hm3, hr3, hn3⟩ := own_row' ho1
    have HO1 : Hid (Own w2 w1.heap.size (.slice a3 out.length cap3) out) := ho1
    have HB2 : Hid (Below w.heap.size w w2) := HB1.out.trans (hb2.mono hsw)
    have hs2 : w1.heap.size ≤ w2.heap.size := hb2.size
    clear hown1 hgrow1 ho1 hb2 hr3
    go_wp2_with (at_builtin; refine wpList_append_rowk rfl _ _ 22 rfl w1.heap.size 5 j0 (.int .u8 0) 1 Tryd.underlying22 hi hz0 hz1 hz2 rfl .u8 _ out.length (out.map (Value.int .u8)) rfl HO1.out a1 len1 cap1 more rfl hml hnil1 (row_below HR.out HB2.out) (by unfold maxLen; omega) (by omega) hs2 ?_)
    intro v2 w3 hown2 hgrow2
    have ho2 : Own w3 w1.heap.size v2 (out ++ more) := own_snoc (by rw [hml]; exact hown2)
    have hb3 : Below w1.heap.size w2 w3 := (Below.refl _ _).grown hgrow2 hs2 (fun k hk => by
      rcases HO1.out.2 with ⟨h, _⟩ | ⟨b, cap, cur, h, h2, _⟩
      · rw [h] at hk; simp [Value.ownBlock] at hk
      · rw [h] at hk; simp [Value.ownBlock] at hk; omega)
    obtain ⟨a4, cap4, rfl, hc4, hm4, hr4, hn4⟩ := own_row' ho2
    have HB3 : Hid (Below w.heap.size w w3) := HB2.out.trans (hb3.mono hsw)
    have hK := parse_back (fs := fs) more HC.out
    rw [HO.out] at hK
    have hby : Byt (out ++ more) := by rw [← HO.out]; exact writeB_byt.append hmb
    unfold maxLen at hm4
    have hfl : (out ++ more).length = out.length + len1 := by rw [List.length_append, hml]
    rw [hfl] at hc4 ⊢
    have hP := parse_any a4 (out.length + len1) cap4 (out ++ more) w3 hfl hc4 (by omega) hn4 (by omega) hby hr4 (HM.out.keep HB3.out)
    unfold faultV at hP
    rw [hK.1, hK.2.1, hK.2.2.1, hK.2.2.2] at hP
    have hsw3 : w.heap.size ≤ w3.heap.size := HB3.out.size
    clear hown2 hgrow2 ho2 hb3 hr4 hK hby
    go_wp2_with fail
    refine hP.mono ?_
    clear hP
    rintro e w4 ⟨vg, rfl, ho3, hb4⟩
    obtain ⟨ag, capg, rfl, hfg⟩ := ownF_view ho3
    have HB4 : Hid (Below w.heap.size w w4) := HB3.out.trans (hb4.mono hsw3)
    have HG4 : Hid (FRow w4 ag fs) := hfg
    have hsw4 : w.heap.size ≤ w4.heap.size := HB4.out.size
    clear ho3 hb4 hfg
    go_wp2_with fail
    refine (alive_any (w4.alloc (.cells #[.int .i64 0, .int .i64 0] 27)) (HM.out.keep (HB4.out.alloc hsw4 _))).mono ?_
    rintro e w5 ⟨rfl, hb5⟩
    have d0 : w5.cell? ⟨w4.heap.size, 0, none⟩ = some (.int .i64 0) := by rw [hb5.cell (p := ⟨w4.heap.size, 0, none⟩) (by simp)]; rw [World.cell?_alloc_mark]; rfl
    have d1 : w5.cell? ⟨w4.heap.size, 1, none⟩ = some (.int .i64 0) := by rw [hb5.cell (p := ⟨w4.heap.size, 1, none⟩) (by simp)]; rw [World.cell?_alloc_mark]; rfl
    have HB5 : Hid (Below w.heap.size w w5) := (HB4.out.alloc hsw4 _).trans (hb5.mono (by simp; omega))
    have HG5 : Hid (FRow w5 ag fs) := (HG4.out.below (keep w4 _)).below hb5
    have hsw5 : w.heap.size ≤ w5.heap.size := HB5.out.size
    clear hb5
    go_wp2_with fail
    refine (sameAll_any a0 ag len0 len0 cap0 capg fs fs w5 hn hn (by omega) (HF.out.below HB5.out) HG5.out rfl).mono ?_
    rintro e w6 ⟨rfl, hb6⟩
    go_wp2
    go_ret
    exact ⟨rfl, HB5.out.trans (hb6.mono hsw5)⟩
  · have HC : Hid (writeB fs = []) := by unfold Hid writeB; rw [if_neg hC]
    have hCb : (writeC fs != 0) = true := by simpa using hC
    rw [HC.out] at hc2 ⊢
    go_wp2_with fail
    refine (alive_any w1 (HM.out.keep HB1.out)).mono ?_
    rintro e w2 ⟨rfl, hb2⟩
    go_wp2
    go_ret
    exact ⟨rfl, HB1.out.trans (hb2.mono hsw)⟩

set_option maxRecDepth 100000 in
theorem lifted (os : Os) (started : os.Started) (H : Type) (enc : TypeId × Value → H) :
    ReturnsInHanded {} Tryd.checked os 5 .any (fun w args => (Rows.fieldsBackSpec.pre enc Tryd.prog Tryd.f5 Rows.fieldsBackRow.domain false w args ∧ laidMetH Tryd.prog Rows.fieldsBackRow.laid w) ∧ sizedMet enc Tryd.prog Tryd.f5 (OpenSpec.ofChange Rows.fieldsBackSpec) false w args)
      (Rows.fieldsBackSpec.post enc Tryd.prog Tryd.f5 false true false false) := by
  refine step_both (C := Tryd.checked) (X := fun w _ => laidMetH Tryd.prog Rows.fieldsBackRow.laid w) (fun _ _ _ hh h => h.of_heap hh) own started (by kernel_rfl) Tryd.func5
    (ChangeSpec.witness_shaped (enc := enc) (C := Tryd.checked) (os := os) (X := fun w _ => laidMetH Tryd.prog Rows.fieldsBackRow.laid w) false (World.laidAll Tryd.prog os Rows.fieldsBackRow.laid) #[.slice none 0 0, .slice none 0 0] 8 (World.laidAll_os _ _ _)
      (World.shaped_of_ZipB (by kernel_rfl) (by kernel_rfl)) (by kernel_rfl) (by kernel_rfl) (by kernel_rfl)
      (by rw [MakeChecks.laidMetH_plain _ _ _ (by kernel_rfl)]; exact laidMet_laidAll _ (by kernel_rfl) (by kernel_rfl))) ?_
  intro W base args ds gs before hval0 hW hcnd hsh hL
  have hval : ∀ (j : Nat) t v, Tryd.f5.params[j]? = some t → args[j]? = some v → Value.okWide Tryd.prog W .any base t v := hval0
  have hW' := hW
  obtain ⟨p, q, hA0, hV, rfl, hfz, hnd⟩ := hW
  have hA : DataW.TrodAll enc Tryd.prog W 0 (fun _ => true) true Tryd.f5.params.toList args.toList ds p := hA0
  rw [Tryd.params5] at hA hval
  obtain ⟨v0, vs0, d0, ds0, p0, q0, hargs, rfl, rfl, h0, r0⟩ := trodAll_cons hA
  obtain ⟨v1, vs1, d1, ds1, p1, q1, rfl, rfl, rfl, h1, r1⟩ := trodAll_cons r0
  obtain ⟨rfl, rfl, rfl⟩ := trodAll_nil r1
  obtain rfl : args = #[v0, v1] := by cases args; simp_all
  obtain ⟨rfl, rfl⟩ := trodVars_none hV
  have k0 := h0
  have lt0 : ∀ x ∈ p0, x.block < W.heap.size := by obtain ⟨m, hm⟩ := k0; exact DataW.trod_lt m _ _ _ hm
  obtain ⟨a0, len0, cap0, rfl⟩ := okWide_slice Tryd.underlying24 (hval 0 24 v0 rfl rfl)
  obtain ⟨z0, w0⟩ := fields_arg h0
  have k1 := h1
  have lt1 : ∀ x ∈ p1, x.block < W.heap.size := by obtain ⟨m, hm⟩ := k1; exact DataW.trod_lt m _ _ _ hm
  obtain ⟨a1, len1, cap1, rfl⟩ := okWide_slice Tryd.underlying22 (hval 1 22 v1 rfl rfl)
  obtain ⟨z1, w1⟩ : ∃ zs, IsRow .u8 W a1 len1 cap1 zs := by
    obtain ⟨fuel, hf⟩ := h1
    rcases open_ints Tryd.underlying22 Tryd.underlying5 (by kernel_rfl) hf with ⟨hcs, _⟩ | ⟨x, l, c, zs, hcs, _, hl, hm, hz, _, hcell, hwz⟩
    · simp [Value.cells] at hcs
      obtain ⟨rfl, rfl, rfl⟩ := hcs
      exact ⟨[], .inl ⟨rfl, rfl, rfl, rfl⟩⟩
    · simp [Value.cells] at hcs
      obtain ⟨rfl, rfl, rfl⟩ := hcs
      exact ⟨zs, .inr ⟨_, rfl, hl, hm, by simpa using hz, hcell, hwz⟩⟩
  clear hA0 hval0
  refine (walk a0 len0 cap0 z0 a1 len1 cap1 z1 W w0 w1 (laysM185.s1_3 W hsh)).mono fun e W' ⟨he, bel⟩ => ?_
  subst he
  exact ⟨_, rfl, _, _, _, [], _, [], hW', trodAll_mk1 (shut_bool Tryd.underlying4 _), (trodAll_cons_mk (Below.trod laidOut (by kernel_rfl) (of_decide_eq_true (by kernel_rfl)) k0 bel lt0) (trodAll_cons_mk (Below.trod laidOut (by kernel_rfl) (of_decide_eq_true (by kernel_rfl)) k1 bel lt1) trodAll_mk0)), rfl, bel.frame _, fun h => by cases h⟩

theorem over : Rows.FieldsBackSaid :=
  OpenClaim.holds_of_wide 5 Tryd.f5 rfl rfl rfl rfl rfl rfl rfl ⟨rfl, rfl, rfl, rfl, rfl⟩ rfl rfl rfl rfl rfl (by kernel_rfl) Tryd.func5 (by kernel_rfl)
    (of_decide_eq_true (by kernel_rfl)) (by unfold Func.isWrapper; first | (rw [if_pos (by decide +kernel)]; kernel_rfl) | (rw [if_neg (by decide +kernel)]; exact ⟨rfl, rfl⟩))
    (fun os started H enc _ => lifted os started H enc)
end Go.Proofs.YtnpjffpioimcdaaDoor.fieldsBack
namespace Go.Proofs.YtnpjffpioimcdaaDoor
theorem fieldsBack_card : Rows.FieldsBackCardSaid :=
  Claim7.holds_tied_plain_at .later [] _ _ _ _ fieldsBack.over (fun _ h => by cases h) (by kernel_rfl) (fun _ h => by cases h) fieldsBack_row_tie rfl ⟨rfl, rfl⟩ (by kernel_rfl) rfl
    (fun f fn hf hfn => by
      obtain rfl : f = 5 := Option.some.inj ((show Tryd.prog.funcNamed Rows.fieldsBackRow.func = some 5 by kernel_rfl).symm.trans hf) |>.symm
      obtain rfl : fn = Tryd.f5 := (Option.some.inj (Tryd.func5.symm.trans hfn)).symm
      exact ⟨by kernel_rfl, fun j t ht => by
        rw [Tryd.params5] at ht
        have hm : t ∈ [24, 22] := by simpa using Array.mem_of_getElem? ht
        have hall : ([24, 22].all fun u => !Tryd.prog.wantsStandIn u) = true := by kernel_rfl
        exact (show Tryd.prog.wantsStandIn t = false by simpa using List.all_eq_true.1 hall t hm)⟩)
    (by kernel_rfl)
#print axioms fieldsBack_card
end Go.Proofs.YtnpjffpioimcdaaDoor
