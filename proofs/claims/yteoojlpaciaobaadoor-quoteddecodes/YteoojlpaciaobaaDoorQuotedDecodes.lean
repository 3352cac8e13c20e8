/-
  QuotedDecodes: whatever the text: it is read as the bytes that the document says, or what is wrong is told, and where.
  The condition: the listed tables of the library are laid as its text lays them (the card ties them).
-/
import Derived.Test.YteoojlpaciaobaaDoorCards
import Derived.Test.YteoojlpaciaobaaDoorTie
import Derived.Test.YteoojlpaciaobaaDoorRdec
import Derived.WalkKit
import Derived.ProofKit
import Derived.OpenShut
import Derived.ShutString
import Derived.ChangeOld
import Derived.Below
import Derived.LaidMore
import Derived.Lay
import Derived.SevenTiedAt
import Derived.Stop.Joined
namespace Go.Proofs.YteoojlpaciaobaaDoor.quotedDecodes
open Go.ChangeShapes Go.WideShapes Go.ChangeAt Go.RowKit
open Go.ChangeMaps (open_string shut_string)
set_option linter.unusedVariables false

set_option maxHeartbeats 4000000 in
theorem walk (s : ByteArray) (hsz : s.size ≤ maxLen) (w : World) :
    Calls Tryd.prog 4 #[.string s] w fun e w' => e = .returned (.bool true) ∧ Below w.heap.size w w' := by
  by_cases h4 : 3000 < s.size
  · go_enter Tryd.func4, Tryd.ntmps4
    go_wp2_with (go_at_call 9; refine (alive_any _).mono ?_; rintro e w' ⟨rfl, hb1⟩)
    go_ret
    exact ⟨rfl, by assumption⟩
  · have h4' : s.size ≤ 3000 := by omega
    go_enter Tryd.func4, Tryd.ntmps4
    go_wp2_with fail
    refine (decode_any s w (by omega)).mono ?_
    rintro e w2 ⟨v2, fa, fc, rfl, hb2, hd2⟩
    have HB2 : Hid (Below w.heap.size w w2) := hb2
    have HD2 : Hid (DecR (decQ 0 0 (nums s)) v2 fa fc w2) := hd2
    clear hb2 hd2
    go_wp2_with fail
    refine (rdecode_any s _ (by omega)).mono ?_
    rintro e w3 ⟨v3, ga, gc, rfl, hb3, hd3⟩
    have hb3' : Below w2.heap.size w2 w3 := (keep w2 _).trans (hb3.mono (by simp))
    have c0 : w3.cell? ⟨w2.heap.size, 0, none⟩ = some (.int .i64 fa) := by rw [hb3.cell (by simp)]; simp
    have c1 : w3.cell? ⟨w2.heap.size, 1, none⟩ = some (.int .i64 fc) := by rw [hb3.cell (by simp)]; simp
    have HB3 : Hid (Below w.heap.size w w3) := HB2.out.trans (hb3'.mono HB2.out.size)
    have hs3 : w2.heap.size + 1 ≤ w3.heap.size := by have := hb3.size; simpa using this
    have HD3 : Hid (DecR (decQ 0 0 (nums s)) v3 ga gc w3) := hd3
    have HD2' : Hid (ga = fa ∧ gc = fc ∧ ∃ x, (∃ a n cp, v2 = .slice a n cp ∧ x.length = n ∧ Row w2 a x) ∧ ∃ a n cp, v3 = .slice a n cp ∧ x.length = n ∧ Row w3 a x) := by
      have h2 := HD2.out
      have h3 := hd3
      unfold DecR at h2 h3
      cases hq : decQ 0 0 (nums s) with
      | error e =>
        rw [hq] at h2 h3
        obtain ⟨rfl, rfl, rfl⟩ := h2
        obtain ⟨rfl, rfl, rfl⟩ := h3
        exact ⟨rfl, rfl, [], ⟨none, 0, 0, rfl, rfl, .inl rfl⟩, ⟨none, 0, 0, rfl, rfl, .inl rfl⟩⟩
      | ok l =>
        rw [hq] at h2 h3
        obtain ⟨a2, cap2, rfl, _, _, hr2, rfl, rfl⟩ := h2
        obtain ⟨a3, cap3, rfl, _, _, hr3, rfl, rfl⟩ := h3
        exact ⟨rfl, rfl, l, ⟨a2, _, cap2, rfl, rfl, hr2⟩, ⟨a3, _, cap3, rfl, rfl, hr3⟩⟩
    obtain ⟨rfl, rfl, x, ⟨a2, n2, cp2, rfl, hx2, hr2⟩, ⟨a3, n3, cp3, rfl, hx3, hr3⟩⟩ := HD2'.out
    have HR2 : Hid (Row w3 a2 x) := row_below hr2 hb3'
    have HR3 : Hid (Row w3 a3 x) := hr3
    have HX2 : Hid (x.length = n2) := hx2
    have HX3 : Hid (x.length = n3) := hx3
    clear hb3 hb3' HD2 HD3 hd3 hr2 hr3 hx2 hx3
    go_wp2_with fail
    refine (alive_any _).mono ?_
    rintro e w5 ⟨rfl, hb5⟩
    have hb5' : Below w3.heap.size w3 w5 := (keep w3 _).trans (hb5.mono (by simp))
    have d0 : w5.cell? ⟨w2.heap.size, 0, none⟩ = some (.int .i64 ga) := by rw [hb5'.cell (by simp; omega)]; exact c0
    have d1 : w5.cell? ⟨w2.heap.size, 1, none⟩ = some (.int .i64 gc) := by rw [hb5'.cell (by simp; omega)]; exact c1
    have e0 : w5.cell? ⟨w3.heap.size, 0, none⟩ = some (.int .i64 ga) := by rw [hb5.cell (by simp)]; simp
    have e1 : w5.cell? ⟨w3.heap.size, 1, none⟩ = some (.int .i64 gc) := by rw [hb5.cell (by simp)]; simp
    have k1 : (convert 22 9 (.slice a2 n2 cp2)).run Tryd.prog w5 = .ok (.string (strOfNums x)) w5 := conv_row _ _ HX2.out (row_below HR2.out hb5')
    have k2 : (convert 22 9 (.slice a3 n3 cp3)).run Tryd.prog w5 = .ok (.string (strOfNums x)) w5 := conv_row _ _ HX3.out (row_below HR3.out hb5')
    have HB5 : Hid (Below w.heap.size w w5) := HB3.out.trans (hb5'.mono HB3.out.size)
    clear hb5 hb5' c0 c1
    go_wp2
    go_ret
    exact ⟨rfl, HB5.out⟩

set_option maxRecDepth 100000 in
theorem lifted (os : Os) (started : os.Started) (H : Type) (enc : TypeId × Value → H) :
    ReturnsInHanded {} Tryd.checked os 4 .any (fun w args => (Rows.quotedDecodesSpec.pre enc Tryd.prog Tryd.f4 Rows.quotedDecodesRow.domain false w args ∧ laidMetH Tryd.prog Rows.quotedDecodesRow.laid w) ∧ sizedMet enc Tryd.prog Tryd.f4 (OpenSpec.ofChange Rows.quotedDecodesSpec) false w args)
      (Rows.quotedDecodesSpec.post enc Tryd.prog Tryd.f4 false true false false) := by
  refine returnsInHanded_of_change_and (C := Tryd.checked) (X := fun w _ => laidMetH Tryd.prog Rows.quotedDecodesRow.laid w) (fun _ _ _ hh h => h.of_heap hh) own started (by kernel_rfl) Tryd.func4
    (ChangeSpec.witness_shaped (enc := enc) (C := Tryd.checked) (os := os) (X := fun w _ => laidMetH Tryd.prog Rows.quotedDecodesRow.laid w) false (World.laidAll Tryd.prog os Rows.quotedDecodesRow.laid) #[.string ⟨#[]⟩] 8 (World.laidAll_os _ _ _)
      (World.shaped_of_ZipB (by kernel_rfl) (by kernel_rfl)) (by kernel_rfl) (by kernel_rfl) (by kernel_rfl)
      (by rw [MakeChecks.laidMetH_plain _ _ _ (by kernel_rfl)]; exact laidMet_laidAll _ (by kernel_rfl) (by kernel_rfl))) ?_
  intro W base args ds gs before hval0 hW hcnd _ hL _
  have hval : ∀ (j : Nat) t v, Tryd.f4.params[j]? = some t → args[j]? = some v → Value.okWide Tryd.prog W .any base t v := hval0
  have hW' := hW
  obtain ⟨p, q, hA0, hV, rfl, hfz, hnd⟩ := hW
  have hA : DataW.TrodAll enc Tryd.prog W 0 (fun _ => true) true Tryd.f4.params.toList args.toList ds p := hA0
  rw [Tryd.params4] at hA hval
  obtain ⟨v0, vs0, d0, ds0, p0, q0, hargs, rfl, rfl, h0, r0⟩ := trodAll_cons hA
  obtain ⟨rfl, rfl, rfl⟩ := trodAll_nil r0
  obtain rfl : args = #[v0] := by cases args; simp_all
  obtain ⟨rfl, rfl⟩ := trodVars_none hV
  obtain ⟨a0, rfl, rfl, rfl, w0⟩ := open_string Tryd.underlying9 (hval 0 9 v0 rfl rfl) h0
  clear hA0 hval0
  simp only [List.append_nil] at hW'
  refine (walk a0 w0 W).mono fun e W' ⟨he, bel⟩ => ?_
  subst he
  exact ⟨_, rfl, _, _, _, [], _, [], hW', trodAll_mk1 (shut_bool Tryd.underlying4 _), (trodAll_cons_mk (shut_string Tryd.underlying9 w0) trodAll_mk0), rfl, bel.frame _, fun h => by cases h⟩

theorem over : Rows.QuotedDecodesSaid :=
  OpenClaim.holds_of_wide 4 Tryd.f4 rfl rfl rfl rfl rfl rfl rfl ⟨rfl, rfl, rfl, rfl, rfl⟩ rfl rfl rfl rfl rfl (by kernel_rfl) Tryd.func4 (by kernel_rfl)
    (of_decide_eq_true (by kernel_rfl)) (by unfold Func.isWrapper; first | (rw [if_pos (by decide +kernel)]; kernel_rfl) | (rw [if_neg (by decide +kernel)]; exact ⟨rfl, rfl⟩))
    (fun os started H enc _ => lifted os started H enc)
end Go.Proofs.YteoojlpaciaobaaDoor.quotedDecodes
namespace Go.Proofs.YteoojlpaciaobaaDoor
theorem quotedDecodes_card : Rows.QuotedDecodesCardSaid :=
  Claim7.holds_tied_plain_at .later [] _ _ _ _ quotedDecodes.over (fun _ h => by cases h) (by kernel_rfl) (fun _ h => by cases h) quotedDecodes_row_tie rfl ⟨rfl, rfl⟩ (by kernel_rfl) rfl
    (fun f fn hf hfn => by
      obtain rfl : f = 4 := Option.some.inj ((show Tryd.prog.funcNamed Rows.quotedDecodesRow.func = some 4 by kernel_rfl).symm.trans hf) |>.symm
      obtain rfl : fn = Tryd.f4 := (Option.some.inj (Tryd.func4.symm.trans hfn)).symm
      exact ⟨by kernel_rfl, fun j t ht => by
        rw [Tryd.params4] at ht
        have hm : t ∈ [9] := by simpa using Array.mem_of_getElem? ht
        have hall : ([9].all fun u => !Tryd.prog.wantsStandIn u) = true := by kernel_rfl
        exact (show Tryd.prog.wantsStandIn t = false by simpa using List.all_eq_true.1 hall t hm)⟩)
    (by kernel_rfl)
#print axioms quotedDecodes_card
end Go.Proofs.YteoojlpaciaobaaDoor
