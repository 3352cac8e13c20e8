/-
  QuotedAgain: whatever the text: what is read of it, written again as no text, is read as the same; what is wrong lies in it.
  The condition: the listed tables of the library are laid as its text lays them (the card ties them).
-/
import Derived.Test.YteoojlpaciaobaaDoorCards
import Derived.Test.YteoojlpaciaobaaDoorTie
import Derived.Test.YteoojlpaciaobaaDoorAlive
import Derived.WalkKit
import Derived.ProofKit
import Derived.OpenShut
import Derived.ShutString
import Derived.ChangeOld
import Derived.Below
import Derived.LaidMore
import Derived.Lay
import Derived.SevenTiedAt
import Derived.Stop.Joined
namespace Go.Proofs.YteoojlpaciaobaaDoor.quotedAgain
open Go.ChangeShapes Go.WideShapes Go.ChangeAt Go.RowKit
open Go.ChangeMaps (open_string shut_string)
set_option linter.unusedVariables false

set_option maxHeartbeats 4000000 in
theorem walk (s : ByteArray) (hsz : s.size ≤ maxLen) (w : World) :
    Calls Tryd.prog 7 #[.string s] w fun e w' => e = .returned (.bool true) ∧ Below w.heap.size w w' := by
  by_cases h4 : 3000 < s.size
  · go_enter Tryd.func7, Tryd.ntmps7
    go_wp2_with (go_at_call 9; refine (alive_any _).mono ?_; rintro e w' ⟨rfl, hb1⟩)
    go_ret
    exact ⟨rfl, by assumption⟩
  · have h4' : s.size ≤ 3000 := by omega
    have HD := dec_bd (nums s) 0 0 (nums_byt s)
    rw [nums_len] at HD
    go_enter Tryd.func7, Tryd.ntmps7
    go_wp2_with fail
    refine (decode_any s w (by omega)).mono ?_
    rintro e w2 ⟨v2, fa2, fc2, rfl, hb2, hd2⟩
    cases hd : decQ 0 0 (nums s) with
    | error e =>
      have he := HD.2 e hd
      rw [hd] at hd2
      obtain ⟨rfl, rfl, rfl⟩ := hd2
      obtain ⟨p, z⟩ := e
      simp only at he
      have hz : (z == 0) = false := by rw [beq_eq_false_iff_ne]; omega
      have hp : p < s.size := by omega
      clear hd HD he
      have HB2 : Hid (Below w.heap.size w w2) := hb2
      clear hb2
      go_wp2_with fail
      refine (alive_any _).mono ?_
      rintro e w3 ⟨rfl, hb3⟩
      have hb3' : Below w2.heap.size w2 w3 := (keep w2 _).trans (hb3.mono (by simp))
      have hs3 : w2.heap.size + 1 ≤ w3.heap.size := by have := hb3.size; simpa using this
      have c0 : w3.cell? ⟨w2.heap.size, 0, none⟩ = some (.int .i64 p) := by rw [hb3.cell (by simp)]; simp
      have c1 : w3.cell? ⟨w2.heap.size, 1, none⟩ = some (.int .i64 z) := by rw [hb3.cell (by simp)]; simp
      have HB3 : Hid (Below w.heap.size w w3) := HB2.out.trans (hb3'.mono HB2.out.size)
      clear hb3 hb3'
      go_wp2
      go_ret
      exact ⟨rfl, HB3.out⟩
    | ok l =>
      have he := HD.1 l hd
      rw [hd] at hd2
      obtain ⟨a2, cap2, rfl, hc2, hm2, hr2, rfl, rfl⟩ := hd2
      have hl : l.length ≤ s.size := by omega
      have HBY : Hid (Byt l) := he.2
      clear hd HD he
      have HB2 : Hid (Below w.heap.size w w2) := hb2
      have HR2 : Hid (Row w2 a2 l) := hr2
      clear hb2 hr2
      obtain ⟨n, hn⟩ : ∃ n, l.length = n := ⟨_, rfl⟩
      have HLN : Hid (l.length = n) := hn
      rw [hn] at hl hc2 ⊢
      clear hn
      have hm2' := hm2
      unfold maxLen at hm2'
      go_wp2_with fail
      refine (encode_ok a2 n cap2 false l _ HLN.out HBY.out hc2 hm2 (by omega) (row_below HR2.out (keep w2 _))).mono ?_
      rintro e w3 ⟨rfl, hb3⟩
      have hb3' : Below w2.heap.size w2 w3 := (keep w2 _).trans (hb3.mono (by simp))
      have c0 : w3.cell? ⟨w2.heap.size, 0, none⟩ = some (.int .i64 0) := by rw [hb3.cell (by simp)]; simp
      have c1 : w3.cell? ⟨w2.heap.size, 1, none⟩ = some (.int .i64 0) := by rw [hb3.cell (by simp)]; simp
      have HB3 : Hid (Below w.heap.size w w3) := HB2.out.trans (hb3'.mono HB2.out.size)
      have HR3 : Hid (Row w3 a2 l) := row_below HR2.out hb3'
      clear hb3 hb3'
      go_wp2_with fail
      refine (decode_any (strOfNums (encQ false 0 l)) w3 (by rw [size_str]; have := enc_len false 0 l; have := HLN.out; omega)).mono ?_
      rintro e w4 ⟨v4, fa4, fc4, rfl, hb4, hd4⟩
      rw [nums_str (enc_byt false 0 l HBY.out), dec_enc false 0 l HBY.out] at hd4
      obtain ⟨a4, cap4, rfl, hc4, hm4, hr4, rfl, rfl⟩ := hd4
      rw [HLN.out] at hc4 ⊢
      have HB4 : Hid (Below w.heap.size w w4) := HB3.out.trans (hb4.mono HB3.out.size)
      have HR34 : Hid (Row w4 a2 l) := row_below HR3.out hb4
      have HR4 : Hid (Row w4 a4 l) := hr4
      clear hb4 hr4
      go_wp2_with fail
      refine (alive_any _).mono ?_
      rintro e w5 ⟨rfl, hb5⟩
      have hb5' : Below w4.heap.size w4 w5 := (keep w4 _).trans (hb5.mono (by simp))
      have d0 : w5.cell? ⟨w4.heap.size, 0, none⟩ = some (.int .i64 0) := by rw [hb5.cell (by simp)]; simp
      have d1 : w5.cell? ⟨w4.heap.size, 1, none⟩ = some (.int .i64 0) := by rw [hb5.cell (by simp)]; simp
      have k1 : (convert 22 9 (.slice a2 n cap2)).run Tryd.prog w5 = .ok (.string (strOfNums l)) w5 := conv_row _ _ HLN.out (row_below HR34.out hb5')
      have k2 : (convert 22 9 (.slice a4 n cap4)).run Tryd.prog w5 = .ok (.string (strOfNums l)) w5 := conv_row _ _ HLN.out (row_below HR4.out hb5')
      have HB5 : Hid (Below w.heap.size w w5) := HB4.out.trans (hb5'.mono HB4.out.size)
      clear hb5 hb5'
      go_wp2
      go_ret
      exact ⟨rfl, HB5.out⟩

set_option maxRecDepth 100000 in
theorem lifted (os : Os) (started : os.Started) (H : Type) (enc : TypeId × Value → H) :
    ReturnsInHanded {} Tryd.checked os 7 .any (fun w args => (Rows.quotedAgainSpec.pre enc Tryd.prog Tryd.f7 Rows.quotedAgainRow.domain false w args ∧ laidMetH Tryd.prog Rows.quotedAgainRow.laid w) ∧ sizedMet enc Tryd.prog Tryd.f7 (OpenSpec.ofChange Rows.quotedAgainSpec) false w args)
      (Rows.quotedAgainSpec.post enc Tryd.prog Tryd.f7 false true false false) := by
  refine returnsInHanded_of_change_and (C := Tryd.checked) (X := fun w _ => laidMetH Tryd.prog Rows.quotedAgainRow.laid w) (fun _ _ _ hh h => h.of_heap hh) own started (by kernel_rfl) Tryd.func7
    (ChangeSpec.witness_shaped (enc := enc) (C := Tryd.checked) (os := os) (X := fun w _ => laidMetH Tryd.prog Rows.quotedAgainRow.laid w) false (World.laidAll Tryd.prog os Rows.quotedAgainRow.laid) #[.string ⟨#[]⟩] 8 (World.laidAll_os _ _ _)
      (World.shaped_of_ZipB (by kernel_rfl) (by kernel_rfl)) (by kernel_rfl) (by kernel_rfl) (by kernel_rfl)
      (by rw [MakeChecks.laidMetH_plain _ _ _ (by kernel_rfl)]; exact laidMet_laidAll _ (by kernel_rfl) (by kernel_rfl))) ?_
  intro W base args ds gs before hval0 hW hcnd _ hL _
  have hval : ∀ (j : Nat) t v, Tryd.f7.params[j]? = some t → args[j]? = some v → Value.okWide Tryd.prog W .any base t v := hval0
  have hW' := hW
  obtain ⟨p, q, hA0, hV, rfl, hfz, hnd⟩ := hW
  have hA : DataW.TrodAll enc Tryd.prog W 0 (fun _ => true) true Tryd.f7.params.toList args.toList ds p := hA0
  rw [Tryd.params7] at hA hval
  obtain ⟨v0, vs0, d0, ds0, p0, q0, hargs, rfl, rfl, h0, r0⟩ := trodAll_cons hA
  obtain ⟨rfl, rfl, rfl⟩ := trodAll_nil r0
  obtain rfl : args = #[v0] := by cases args; simp_all
  obtain ⟨rfl, rfl⟩ := trodVars_none hV
  obtain ⟨a0, rfl, rfl, rfl, w0⟩ := open_string Tryd.underlying9 (hval 0 9 v0 rfl rfl) h0
  clear hA0 hval0
  simp only [List.append_nil] at hW'
  refine (walk a0 w0 W).mono fun e W' ⟨he, bel⟩ => ?_
  subst he
  exact ⟨_, rfl, _, _, _, [], _, [], hW', trodAll_mk1 (shut_bool Tryd.underlying4 _), (trodAll_cons_mk (shut_string Tryd.underlying9 w0) trodAll_mk0), rfl, bel.frame _, fun h => by cases h⟩

theorem over : Rows.QuotedAgainSaid :=
  OpenClaim.holds_of_wide 7 Tryd.f7 rfl rfl rfl rfl rfl rfl rfl ⟨rfl, rfl, rfl, rfl, rfl⟩ rfl rfl rfl rfl rfl (by kernel_rfl) Tryd.func7 (by kernel_rfl)
    (of_decide_eq_true (by kernel_rfl)) (by unfold Func.isWrapper; first | (rw [if_pos (by decide +kernel)]; kernel_rfl) | (rw [if_neg (by decide +kernel)]; exact ⟨rfl, rfl⟩))
    (fun os started H enc _ => lifted os started H enc)
end Go.Proofs.YteoojlpaciaobaaDoor.quotedAgain
namespace Go.Proofs.YteoojlpaciaobaaDoor
theorem quotedAgain_card : Rows.QuotedAgainCardSaid :=
  Claim7.holds_tied_plain_at .later [] _ _ _ _ quotedAgain.over (fun _ h => by cases h) (by kernel_rfl) (fun _ h => by cases h) quotedAgain_row_tie rfl ⟨rfl, rfl⟩ (by kernel_rfl) rfl
    (fun f fn hf hfn => by
      obtain rfl : f = 7 := Option.some.inj ((show Tryd.prog.funcNamed Rows.quotedAgainRow.func = some 7 by kernel_rfl).symm.trans hf) |>.symm
      obtain rfl : fn = Tryd.f7 := (Option.some.inj (Tryd.func7.symm.trans hfn)).symm
      exact ⟨by kernel_rfl, fun j t ht => by
        rw [Tryd.params7] at ht
        have hm : t ∈ [9] := by simpa using Array.mem_of_getElem? ht
        have hall : ([9].all fun u => !Tryd.prog.wantsStandIn u) = true := by kernel_rfl
        exact (show Tryd.prog.wantsStandIn t = false by simpa using List.all_eq_true.1 hall t hm)⟩)
    (by kernel_rfl)
#print axioms quotedAgain_card
end Go.Proofs.YteoojlpaciaobaaDoor
