/-
  For every time and any two shifts that are 64-bit numbers: where both are dates, both texts are read as the same time, that one, and the texts are the same just where the shifts are. Conditions: the listed tables of the library are tied to the pruned copy of the project that the seat holds, and say nothing of its other packages, commands or tests.
-/
import Derived.Test.YtomcjkghneingaaDoorCards
import Derived.Test.YtomcjkghneingaaDoorTie
import Derived.Test.YtomcjkghneingaaDoorLb
import Derived.WalkKit
import Derived.ProofKit
import Derived.OpenShut
import Derived.ShutString
import Derived.ChangeOld
import Derived.Below
import Derived.LaidMore
import Derived.Lay
import Derived.SevenTiedAt
import Derived.Stop.Joined
namespace Go.Proofs.YtomcjkghneingaaDoor.dateSame
open Go.ChangeShapes Go.WideShapes Go.ChangeAt Go.RowKit
open Go.ChangeMaps (open_string shut_string)
set_option linter.unusedVariables false

theorem civ_one {n y m d y' m' d' : Int} (h : Wn.Civ n y m d) (h' : Wn.Civ n y' m' d') : y = y' ∧ m = m' ∧ d = d' := Wn.days_inj y m d y' m' d' h.hd h'.hd (h.hn.trans h'.hn.symm)
theorem same_text {t s s' y m d y' m' d' : Int} (h : dateB t s = true) (h' : dateB t s' = true) (hc : Wn.Civ ((t + s) / 86400) y m d) (hc' : Wn.Civ ((t + s') / 86400) y' m' d') : ((strOfNums (dateL t s y m d)).toList == (strOfNums (dateL t s' y' m' d')).toList) = (s == s') := by
  rw [eq_nums, nums_str (dl_byt h hc), nums_str (dl_byt h' hc'), Bool.eq_iff_iff, decide_eq_true_iff, beq_iff_eq]
  constructor
  · intro e
    obtain ⟨e1, e2⟩ := (⟨(Wn.day_iff y m d).1 hc.hd, (Wn.day_iff y' m' d').1 hc'.hd⟩ : _ ∧ _)
    have p1 := date_back [] [] (fun _ => rfl) (.inl rfl) h e1 hc.hn
    have p2 := date_back [] [] (fun _ => rfl) (.inl rfl) h' e2 hc'.hn
    rw [e, p2] at p1
    simp at p1
    exact p1.symm
  · rintro rfl
    obtain ⟨rfl, rfl, rfl⟩ := civ_one hc hc'
    rfl
set_option maxHeartbeats 8000000 in
set_option maxRecDepth 100000 in
theorem walk (t s u : Int) (W : World) (t0 : -9223372036854775808 ≤ t) (t1 : t ≤ 9223372036854775807) (s0 : -9223372036854775808 ≤ s) (s1 : s ≤ 9223372036854775807) (u0 : -9223372036854775808 ≤ u) (u1 : u ≤ 9223372036854775807) (hg : Gz W) :
    Calls Tryd.prog 7 #[.int .i64 t, .int .i64 s, .int .i64 u] W fun e W' => e = .returned (.bool true) ∧ Below W.heap.size W W' := by
  have HG : Hid (Gz W) := hg
  cases hb : dateB t s with
  | false =>
    have hp := print_no t s W t0 t1 s0 s1 hb
    have HA : Hid (∀ V, Gz V → Calls Tryd.prog 13 #[] V fun e w' => e = .returned (.bool true) ∧ Below V.heap.size V w') := alive_any
    cases hb2 : dateB t u with
    | false =>
      have hp2 := print_no t u W t0 t1 u0 u1 hb2
      go_enter Tryd.func7, Tryd.ntmps7
      go_wp2_with fail
      refine hp.mono ?_
      rintro e w' ⟨rfl, rfl⟩
      go_wp2_with fail
      refine hp2.mono ?_
      rintro e w' ⟨rfl, rfl⟩
      go_wp2_with fail
      refine (HA.out _ hg).mono ?_
      rintro e w2 ⟨rfl, hb2⟩
      go_wp2
      go_ret
      exact ⟨rfl, hb2⟩
    | true =>
      have hp2 := print_yes t u W hb2 hg.toGl
      go_enter Tryd.func7, Tryd.ntmps7
      go_wp2_with fail
      refine hp.mono ?_
      rintro e w' ⟨rfl, rfl⟩
      go_wp2_with fail
      refine hp2.mono ?_
      rintro e w1 ⟨⟨y, m, d, hc, rfl⟩, hb1⟩
      go_wp2_with fail
      refine (HA.out _ (hg.below hb1)).mono ?_
      rintro e w2 ⟨rfl, hb2⟩
      go_wp2
      go_ret
      exact ⟨rfl, hb1.trans (hb2.mono hb1.size)⟩
  | true =>
    have hp := print_yes t s W hb hg.toGl
    have HA : Hid (∀ V, Gz V → Calls Tryd.prog 13 #[] V fun e w' => e = .returned (.bool true) ∧ Below V.heap.size V w') := alive_any
    cases hb2 : dateB t u with
    | false =>
      have hp2 : ∀ V, Calls Tryd.prog 9 #[.int .i64 t, .int .i64 u] V _ := fun V => print_no t u V t0 t1 u0 u1 hb2
      go_enter Tryd.func7, Tryd.ntmps7
      go_wp2_with fail
      refine hp.mono ?_
      rintro e w1 ⟨⟨y, m, d, hc, rfl⟩, hb1⟩
      go_wp2_with fail
      refine (hp2 w1).mono ?_
      rintro e w' ⟨rfl, rfl⟩
      go_wp2_with fail
      refine (HA.out _ (hg.below hb1)).mono ?_
      rintro e w2 ⟨rfl, hb2⟩
      go_wp2
      go_ret
      exact ⟨rfl, hb1.trans (hb2.mono hb1.size)⟩
    | true =>
      go_enter Tryd.func7, Tryd.ntmps7
      go_wp2_with fail
      refine hp.mono ?_
      clear hp
      rintro e w1 ⟨⟨y, m, d, hc, rfl⟩, hb1⟩
      have HB1 : Hid (Below W.heap.size W w1) := hb1
      have hp2 := print_yes t u w1 hb2 (hg.below hb1).toGl
      clear hb1
      go_wp2_with fail
      refine hp2.mono ?_
      clear hp2
      rintro e w2 ⟨⟨y', m', d', hc', rfl⟩, hb2'⟩
      have HB2 : Hid (Below W.heap.size W w2) := HB1.out.trans (hb2'.mono HB1.out.size)
      have H1 := fun V => back_bare hb hc V
      have H2 := fun V => back_bare hb2 hc' V
      have hse := same_text hb hb2 hc hc'
      obtain ⟨S, hS⟩ : ∃ S, strOfNums (dateL t s y m d) = S := ⟨_, rfl⟩
      obtain ⟨T, hT⟩ : ∃ T, strOfNums (dateL t u y' m' d') = T := ⟨_, rfl⟩
      simp only [hS, hT] at H1 H2 hse ⊢
      have H1 : Hid _ := H1
      have H2 : Hid _ := H2
      clear hS hT hb2' hc hc'
      go_wp2_with fail
      refine (H1.out w2 (HG.out.below HB2.out)).mono ?_
      rintro e w3 ⟨rfl, hb3⟩
      have HB3 : Hid (Below W.heap.size W w3) := HB2.out.trans (hb3.mono HB2.out.size)
      clear hb3
      go_wp2_with fail
      refine (H2.out w3 (HG.out.below HB3.out)).mono ?_
      rintro e w4 ⟨rfl, hb4⟩
      have HB4 : Hid (Below W.heap.size W w4) := HB3.out.trans (hb4.mono HB3.out.size)
      clear hb4
      go_wp2_with fail
      refine (HA.out w4 (HG.out.below HB4.out)).mono ?_
      rintro e w5 ⟨rfl, hb5⟩
      have HB5 : Hid (Below W.heap.size W w5) := HB4.out.trans (hb5.mono HB4.out.size)
      clear hb5
      have HSE : Hid _ := hse
      clear hse
      go_wp2
      go_ret
      refine ⟨?_, HB5.out⟩
      have e := HSE.out
      first | (rw [e]; simp) | simp [e]

set_option maxRecDepth 100000 in
theorem lifted (os : Os) (started : os.Started) (H : Type) (enc : TypeId × Value → H) :
    ReturnsInHanded {} Tryd.checked os 7 .any (fun w args => (Rows.dateSameSpec.pre enc Tryd.prog Tryd.f7 Rows.dateSameRow.domain false w args ∧ laidMetH Tryd.prog Rows.dateSameRow.laid w) ∧ sizedMet enc Tryd.prog Tryd.f7 (OpenSpec.ofChange Rows.dateSameSpec) false w args)
      (Rows.dateSameSpec.post enc Tryd.prog Tryd.f7 false true false false) := by
  refine returnsInHanded_of_change_and (C := Tryd.checked) (X := fun w _ => laidMetH Tryd.prog Rows.dateSameRow.laid w) (fun _ _ _ hh h => h.of_heap hh) own started (by kernel_rfl) Tryd.func7
    (ChangeSpec.witness_shaped (enc := enc) (C := Tryd.checked) (os := os) (X := fun w _ => laidMetH Tryd.prog Rows.dateSameRow.laid w) false (World.laidAll Tryd.prog os Rows.dateSameRow.laid) #[.int .i64 0, .int .i64 0, .int .i64 0] 8 (World.laidAll_os _ _ _)
      (World.shaped_of_ZipB (by kernel_rfl) (by kernel_rfl)) (by kernel_rfl) (by kernel_rfl) (by kernel_rfl)
      (by rw [MakeChecks.laidMetH_plain _ _ _ (by kernel_rfl)]; exact laidMet_laidAll _ (by kernel_rfl) (by kernel_rfl))) ?_
  intro W base args ds gs before hval0 hW hcnd _ hL0 _
  have hL : laidMet Tryd.prog Rows.dateSameRow.laid W := by
    have : laidMetH Tryd.prog Rows.dateSameRow.laid W := hL0
    rwa [MakeChecks.laidMetH_plain _ _ _ (by kernel_rfl)] at this
  have hval : ∀ (j : Nat) t v, Tryd.f7.params[j]? = some t → args[j]? = some v → Value.okWide Tryd.prog W .any base t v := hval0
  have hW' := hW
  obtain ⟨p, q, hA0, hV, rfl, hfz, hnd⟩ := hW
  have hA : DataW.TrodAll enc Tryd.prog W 0 (fun _ => true) true Tryd.f7.params.toList args.toList ds p := hA0
  rw [Tryd.params7] at hA hval
  obtain ⟨v0, vs0, d0, ds0, p0, q0, hargs, rfl, rfl, h0, r0⟩ := trodAll_cons hA
  obtain ⟨v1, vs1, d1, ds1, p1, q1, rfl, rfl, rfl, h1, r1⟩ := trodAll_cons r0
  obtain ⟨v2, vs2, d2, ds2, p2, q2, rfl, rfl, rfl, h2, r2⟩ := trodAll_cons r1
  obtain ⟨rfl, rfl, rfl⟩ := trodAll_nil r2
  obtain rfl : args = #[v0, v1, v2] := by cases args; simp_all
  obtain ⟨rfl, rfl⟩ := trodVars_none hV
  obtain ⟨a0, rfl, rfl, rfl, w0⟩ := open_int Tryd.underlying2 (hval 0 2 v0 rfl rfl) h0
  have b0 := bounds_i64 w0
  obtain ⟨a1, rfl, rfl, rfl, w1⟩ := open_int Tryd.underlying2 (hval 1 2 v1 rfl rfl) h1
  have b1 := bounds_i64 w1
  obtain ⟨a2, rfl, rfl, rfl, w2⟩ := open_int Tryd.underlying2 (hval 2 2 v2 rfl rfl) h2
  have b2 := bounds_i64 w2
  clear hA0 hval0
  have hGz : Gz W := gz_of hL
  simp only [List.append_nil] at hW'
  refine (walk a0 a1 a2 W b0.1 b0.2 b1.1 b1.2 b2.1 b2.2 hGz).mono fun e W' ⟨he, bel⟩ => ?_
  subst he
  exact ⟨_, rfl, _, _, _, [], _, [], hW', trodAll_mk1 (shut_bool Tryd.underlying4 _), (trodAll_cons_mk (shut_int Tryd.underlying2 w0) (trodAll_cons_mk (shut_int Tryd.underlying2 w1) (trodAll_cons_mk (shut_int Tryd.underlying2 w2) trodAll_mk0))), rfl, bel.frame _, fun h => by cases h⟩

theorem over : Rows.DateSameSaid :=
  OpenClaim.holds_of_wide 7 Tryd.f7 rfl rfl rfl rfl rfl rfl rfl ⟨rfl, rfl, rfl, rfl, rfl⟩ rfl rfl rfl rfl rfl (by kernel_rfl) Tryd.func7 (by kernel_rfl)
    (of_decide_eq_true (by kernel_rfl)) (by unfold Func.isWrapper; first | (rw [if_pos (by decide +kernel)]; kernel_rfl) | (rw [if_neg (by decide +kernel)]; exact ⟨rfl, rfl⟩))
    (fun os started H enc _ => lifted os started H enc)
end Go.Proofs.YtomcjkghneingaaDoor.dateSame
namespace Go.Proofs.YtomcjkghneingaaDoor
theorem dateSame_card : Rows.DateSameCardSaid :=
  Claim7.holds_tied_plain_at .later [] _ _ _ _ dateSame.over (fun _ h => by cases h) (by kernel_rfl) (fun _ h => by cases h) dateSame_row_tie rfl ⟨rfl, rfl⟩ (by kernel_rfl) rfl
    (fun f fn hf hfn => by
      obtain rfl : f = 7 := Option.some.inj ((show Tryd.prog.funcNamed Rows.dateSameRow.func = some 7 by kernel_rfl).symm.trans hf) |>.symm
      obtain rfl : fn = Tryd.f7 := (Option.some.inj (Tryd.func7.symm.trans hfn)).symm
      exact ⟨by kernel_rfl, fun j t ht => by
        rw [Tryd.params7] at ht
        have hm : t ∈ [2, 2, 2] := by simpa using Array.mem_of_getElem? ht
        have hall : ([2, 2, 2].all fun u => !Tryd.prog.wantsStandIn u) = true := by kernel_rfl
        exact (show Tryd.prog.wantsStandIn t = false by simpa using List.all_eq_true.1 hall t hm)⟩)
    (by kernel_rfl)
#print axioms dateSame_card
end Go.Proofs.YtomcjkghneingaaDoor
