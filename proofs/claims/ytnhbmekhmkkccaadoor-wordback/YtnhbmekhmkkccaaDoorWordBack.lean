/-
  For every text: what is written is read as it was; what is not written is not valid; no condition but what the row lists.
-/
import Derived.Test.YtnhbmekhmkkccaaDoorCards
import Derived.Test.YtnhbmekhmkkccaaDoorTie
import Derived.Test.YtnhbmekhmkkccaaDoorSh
import Derived.WalkKit
import Derived.ProofKit
import Derived.OpenShut
import Derived.ShutString
import Derived.ChangeOld
import Derived.Below
import Derived.LaidMore
import Derived.Lay
import Derived.SevenTiedAt
import Derived.Stop.Joined
namespace Go.Proofs.YtnhbmekhmkkccaaDoor.wordBack
open Go.ChangeShapes Go.WideShapes Go.ChangeAt Go.RowKit
open Go.ChangeMaps (open_string shut_string)
set_option linter.unusedVariables false

theorem eq_self (s : ByteArray) : (s.toList == s.toList) = true := by simp
set_option maxHeartbeats 4000000 in
set_option maxRecDepth 100000 in
theorem walk (s : ByteArray) (w : World) (hs : s.size ≤ maxLen) (m : Int) (hm : w.cell? ⟨0, 0, none⟩ = some (.int .i64 m)) :
    Calls Tryd.prog 5 #[.string s] w fun e w' => e = .returned (.bool true) ∧ Below w.heap.size w w' := by
  have hal := alive_any m w hm
  by_cases hlong : 3000 < s.size
  · have hd : decide ((s.size : Int) > 3000) = true := decide_eq_true (by omega)
    go_enter Tryd.func5, Tryd.ntmps5
    go_wp2_with (go_at_call 9; refine hal.mono ?_; rintro e w1 ⟨rfl, hb1⟩)
    go_ret
    exact ⟨rfl, hb1⟩
  have hd : decide ((s.size : Int) > 3000) = false := decide_eq_false (by omega)
  have henc := encode_any s m w hm
  have hmV : Hid (∀ V, Below w.heap.size w V → V.cell? ⟨0, 0, none⟩ = some (.int .i64 m)) := fun V hb => (hb.cell (World.block_lt_of_cell? w _ hm)).trans hm
  clear hm hal
  cases hv : validZ (nums s) with
  | false =>
    have hA : encA (nums s) = ([], 20) := by unfold encA; rw [if_neg (by rw [nums_len]; omega), if_pos hv]
    rw [hA, show strOfNums [] = (⟨#[]⟩ : ByteArray) from rfl] at henc
    clear hA
    go_enter Tryd.func5, Tryd.ntmps5
    go_wp2_with fail
    refine henc.mono ?_
    clear henc
    rintro e w1 ⟨rfl, hb1⟩
    have HB1 : Hid (Below w.heap.size w w1) := hb1
    have hal := alive_any m w1 (hmV.out w1 hb1)
    clear hb1
    go_wp2_with fail
    refine hal.mono ?_
    clear hal
    rintro e w2 ⟨rfl, hb2⟩
    have HB2 : Hid (Below w.heap.size w w2) := HB1.out.trans (hb2.mono HB1.out.size)
    obtain ⟨cap, w3, kc, hcap, hmx, hrow, hb, hfz⟩ := conv_bytes s w2 (by unfold maxLen; omega)
    have hval := valid_row _ s.size cap (nums s) w3 (nums_len s) (nums_byt s) hcap (by unfold maxLen; omega) hrow
    rw [hv] at hval
    have HB3 : Hid (Below w.heap.size w w3) := HB2.out.trans (hb.mono HB2.out.size)
    clear hrow hfz hv hb hb2 HB1 HB2
    go_wp2_with (go_at_call 18; refine hval.mono ?_; rintro e w' ⟨rfl, rfl⟩)
    go_ret
    exact ⟨rfl, HB3.out⟩
  | true =>
    have hA : encA (nums s) = (encL (nums s), 0) := by unfold encA; rw [if_neg (by rw [nums_len]; omega), if_neg (by rw [hv]; simp)]
    rw [hA] at henc
    have HD : Hid (decodeL (encL (nums s)) = nums s) := back_all (nums_byt s) hv
    have hbe : Byt (encL (nums s)) := enc_byt hv
    have hez : (encL (nums s)).length ≤ 76 * 3001 := enc_len (n := 3000) (nums_byt s) hv (by rw [nums_len]; omega)
    have HX : Hid (nums (strOfNums (encL (nums s))) = encL (nums s)) := nums_str hbe
    have hxz : (strOfNums (encL (nums s))).size ≤ 1000000 := by rw [← nums_len, HX.out]; omega
    simp only at henc
    generalize strOfNums (encL (nums s)) = x at henc HX hxz
    clear hA hbe hez hv
    go_enter Tryd.func5, Tryd.ntmps5
    go_wp2_with fail
    refine henc.mono ?_
    clear henc
    rintro e w1 ⟨rfl, hb1⟩
    have HB1 : Hid (Below w.heap.size w w1) := hb1
    have hal := alive_any m w1 (hmV.out w1 hb1)
    clear hb1
    go_wp2_with fail
    refine hal.mono ?_
    clear hal
    rintro e w2 ⟨rfl, hb2⟩
    have HB2 : Hid (Below w.heap.size w w2) := HB1.out.trans (hb2.mono HB1.out.size)
    have hdec := decode_any x m w2 (by omega) (hmV.out w2 HB2.out)
    rw [HX.out, HD.out, str_nums] at hdec
    have hself := eq_self s
    clear hb2 HB1
    go_wp2_with (go_at_call 16; refine hdec.mono ?_; rintro e w3 ⟨rfl, hb3⟩)
    go_ret
    exact ⟨rfl, HB2.out.trans (hb3.mono HB2.out.size)⟩

set_option maxRecDepth 100000 in
theorem lifted (os : Os) (started : os.Started) (H : Type) (enc : TypeId × Value → H) :
    ReturnsInHanded {} Tryd.checked os 5 .any (fun w args => (Rows.wordBackSpec.pre enc Tryd.prog Tryd.f5 Rows.wordBackRow.domain false w args ∧ laidMetH Tryd.prog Rows.wordBackRow.laid w) ∧ sizedMet enc Tryd.prog Tryd.f5 (OpenSpec.ofChange Rows.wordBackSpec) false w args)
      (Rows.wordBackSpec.post enc Tryd.prog Tryd.f5 false true false false) := by
  refine step_both (C := Tryd.checked) (X := fun w _ => laidMetH Tryd.prog Rows.wordBackRow.laid w) (fun _ _ _ hh h => h.of_heap hh) own started (by kernel_rfl) Tryd.func5
    (ChangeSpec.witness_shaped (enc := enc) (C := Tryd.checked) (os := os) (X := fun w _ => laidMetH Tryd.prog Rows.wordBackRow.laid w) false (World.laidAll Tryd.prog os Rows.wordBackRow.laid) #[.string ⟨#[]⟩] 8 (World.laidAll_os _ _ _)
      (World.shaped_of_ZipB (by kernel_rfl) (by kernel_rfl)) (by kernel_rfl) (by kernel_rfl) (by kernel_rfl)
      (by rw [MakeChecks.laidMetH_plain _ _ _ (by kernel_rfl)]; exact laidMet_laidAll _ (by kernel_rfl) (by kernel_rfl))) ?_
  intro W base args ds gs before hval0 hW hcnd hsh hL
  have hval : ∀ (j : Nat) t v, Tryd.f5.params[j]? = some t → args[j]? = some v → Value.okWide Tryd.prog W .any base t v := hval0
  have hW' := hW
  obtain ⟨p, q, hA0, hV, rfl, hfz, hnd⟩ := hW
  have hA : DataW.TrodAll enc Tryd.prog W 0 (fun _ => true) true Tryd.f5.params.toList args.toList ds p := hA0
  rw [Tryd.params5] at hA hval
  obtain ⟨v0, vs0, d0, ds0, p0, q0, hargs, rfl, rfl, h0, r0⟩ := trodAll_cons hA
  obtain ⟨rfl, rfl, rfl⟩ := trodAll_nil r0
  obtain rfl : args = #[v0] := by cases args; simp_all
  obtain ⟨rfl, rfl⟩ := trodVars_none hV
  have k0 := h0
  have lt0 : ∀ x ∈ p0, x.block < W.heap.size := by obtain ⟨m, hm⟩ := k0; exact DataW.trod_lt m _ _ _ hm
  obtain ⟨s0, rfl, _, _, hs0⟩ := open_string Tryd.underlying9 (hval 0 9 v0 rfl rfl) h0
  clear hA0 hval0
  obtain ⟨m, hm⟩ := shape_cell W hsh
  refine (walk s0 W hs0 m hm).mono fun e W' ⟨he, bel⟩ => ?_
  subst he
  exact ⟨_, rfl, _, _, _, [], _, [], hW', trodAll_mk1 (shut_bool Tryd.underlying4 _), (trodAll_cons_mk (Below.trod laidOut (by kernel_rfl) (of_decide_eq_true (by kernel_rfl)) k0 bel lt0) trodAll_mk0), rfl, bel.frame _, fun h => by cases h⟩

theorem over : Rows.WordBackSaid :=
  OpenClaim.holds_of_wide 5 Tryd.f5 rfl rfl rfl rfl rfl rfl rfl ⟨rfl, rfl, rfl, rfl, rfl⟩ rfl rfl rfl rfl rfl (by kernel_rfl) Tryd.func5 (by kernel_rfl)
    (of_decide_eq_true (by kernel_rfl)) (by unfold Func.isWrapper; first | (rw [if_pos (by decide +kernel)]; kernel_rfl) | (rw [if_neg (by decide +kernel)]; exact ⟨rfl, rfl⟩))
    (fun os started H enc _ => lifted os started H enc)
end Go.Proofs.YtnhbmekhmkkccaaDoor.wordBack
namespace Go.Proofs.YtnhbmekhmkkccaaDoor
theorem wordBack_card : Rows.WordBackCardSaid :=
  Claim7.holds_tied_plain_at .later [] _ _ _ _ wordBack.over (fun _ h => by cases h) (by kernel_rfl) (fun _ h => by cases h) wordBack_row_tie rfl ⟨rfl, rfl⟩ (by kernel_rfl) rfl
    (fun f fn hf hfn => by
      obtain rfl : f = 5 := Option.some.inj ((show Tryd.prog.funcNamed Rows.wordBackRow.func = some 5 by kernel_rfl).symm.trans hf) |>.symm
      obtain rfl : fn = Tryd.f5 := (Option.some.inj (Tryd.func5.symm.trans hfn)).symm
      exact ⟨by kernel_rfl, fun j t ht => by
        rw [Tryd.params5] at ht
        have hm : t ∈ [9] := by simpa using Array.mem_of_getElem? ht
        have hall : ([9].all fun u => !Tryd.prog.wantsStandIn u) = true := by kernel_rfl
        exact (show Tryd.prog.wantsStandIn t = false by simpa using List.all_eq_true.1 hall t hm)⟩)
    (by kernel_rfl)
#print axioms wordBack_card
end Go.Proofs.YtnhbmekhmkkccaaDoor
