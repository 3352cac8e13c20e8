/-
  For every two numbers the law WhenOrder returns true (times stand in the order of their texts), and the numbers read as before: no condition but the listed tables, which are tied to the program's text.
-/
import Derived.Test.YtkamnphiocoebaaDoorCards
import Derived.Test.YtkamnphiocoebaaDoorTie
import Derived.Test.YtkamnphiocoebaaDoorLa
import Derived.WalkKit
import Derived.ProofKit
import Derived.OpenShut
import Derived.ShutString
import Derived.ChangeOld
import Derived.Below
import Derived.LaidMore
import Derived.Lay
import Derived.SevenTiedAt
import Derived.Stop.Joined
namespace Go.Proofs.YtkamnphiocoebaaDoor.whenOrder
open Go.ChangeShapes Go.WideShapes Go.ChangeAt Go.RowKit
open Go.ChangeMaps (open_string shut_string)
set_option linter.unusedVariables false

theorem civ_in {n y m d : Int} (h : Civ n y m d) : (0 ≤ y ∧ y < 10000) ∧ (0 ≤ m ∧ m < 100) ∧ (0 ≤ d ∧ d < 100) := by
  have hcd := (day_iff _ _ _).1 h.hd
  have hm31 := (mon_ge y m hcd.2.2.1 hcd.2.2.2.1).2
  omega
theorem time_byt (y m d t : Int) : Byt (timeL y m d t) := by
  have h : ∀ n : Int, 0 ≤ 48 + n % 10 ∧ 48 + n % 10 < 256 := fun n => by omega
  intro x hx
  simp only [timeL, four, two, List.cons_append, List.nil_append, List.mem_cons, List.not_mem_nil, or_false] at hx
  rcases hx with rfl | rfl | rfl | rfl | rfl | rfl | rfl | rfl | rfl | rfl | rfl | rfl | rfl | rfl | rfl | rfl <;> first | exact h _ | omega
theorem str_less {t u y m d y' m' d' : Int} (ht : 0 ≤ t) (hu : 0 ≤ u) (h : Civ (t / 86400) y m d) (h' : Civ (u / 86400) y' m' d') :
    Op.bytesLess (strOfNums (timeL y m d t)).toList (strOfNums (timeL y' m' d' u)).toList = decide (t < u) := by
  obtain ⟨a, b, c⟩ := civ_in h
  obtain ⟨a', b', c'⟩ := civ_in h'
  rw [toList_str, toList_str, bytesLess_z (time_byt y m d t) (time_byt y' m' d' u)]
  refine time_order y m d t y' m' d' u a b c a' b' c' ht hu ?_ ?_
  · rw [← h.hn, ← h'.hn]; exact days_lt _ _ _ _ _ _ h.hd h'.hd
  · constructor
    · intro e; exact days_inj _ _ _ _ _ _ h.hd h'.hd (by rw [h.hn, h'.hn, e])
    · rintro ⟨rfl, rfl, rfl⟩; rw [← h.hn, ← h'.hn]
theorem str_same {t u y m d y' m' d' : Int} (ht : 0 ≤ t) (hu : 0 ≤ u) (h : Civ (t / 86400) y m d) (h' : Civ (u / 86400) y' m' d') :
    ((strOfNums (timeL y m d t)).toList == (strOfNums (timeL y' m' d' u)).toList) = (t == u) := by
  have l1 := str_less ht hu h h'
  have l2 := str_less hu ht h' h
  have irr : ∀ l : List Int, (∀ x ∈ l, 0 ≤ x ∧ x < 256) → Op.bytesLess (strOfNums l).toList (strOfNums l).toList = false := fun l hl => by
    rw [toList_str, bytesLess_z hl hl, lex_self]
  rw [Bool.eq_iff_iff, beq_iff_eq, beq_iff_eq]
  constructor
  · intro e
    rw [e, irr _ (time_byt _ _ _ _)] at l1
    rw [e, irr _ (time_byt _ _ _ _)] at l2
    simp at l1 l2
    omega
  · rintro rfl
    obtain ⟨rfl, rfl, rfl⟩ := civ_one h h'
    rfl
set_option maxHeartbeats 2000000 in
theorem walk (t u : Int) (w : World) (ht0 : -9223372036854775808 ≤ t) (ht1 : t ≤ 9223372036854775807) (hu0 : -9223372036854775808 ≤ u) (hu1 : u ≤ 9223372036854775807) (hA : Ah w) (hP : Pl w) (hT : Tb w) :
    Calls Tryd.prog 8 #[.int .i64 t, .int .i64 u] w fun e w' => e = .returned (.bool true) ∧ Below w.heap.size w w' := by
  have HA : Hid (Ah w) := hA
  have HP : Hid (Pl w) := hP
  have HT : Hid (Tb w) := hT
  have AL : Hid (∀ v, Below w.heap.size w v → Calls Tryd.prog 13 #[] v fun e w' => e = .returned (.bool true) ∧ Below w.heap.size w w') := fun v hb => by
    refine (alive_any v (hA.below hb) (hP.below hb) (hT.below hb)).mono ?_
    rintro e w' ⟨rfl, hb'⟩
    exact ⟨rfl, hb.trans (hb'.mono hb.size)⟩
  have RT : Hid (∀ v, Calls Tryd.prog 14 #[.int .i64 t] v fun e w' => e = .returned (.bool (rightB t)) ∧ v = w') := fun v => right_any t v ht0 ht1
  have RU : Hid (∀ v, Calls Tryd.prog 14 #[.int .i64 u] v fun e w' => e = .returned (.bool (rightB u)) ∧ v = w') := fun v => right_any u v hu0 hu1
  clear hA hP hT
  cases ht : rightB t with
  | false =>
    have PT : Hid (Calls Tryd.prog 16 #[.int .i64 t] w fun e w' => e = .returned (.tuple #[.string ⟨#[]⟩, .int .i64 110]) ∧ w = w') := print_no t w ht ht0 ht1
    rw [ht] at RT
    clear ht
    go_enter Tryd.func8, Tryd.ntmps8
    go_wp2_with fail
    refine PT.out.mono ?_
    rintro e w1 ⟨rfl, rfl⟩
    cases hu : rightB u with
    | false =>
      have PU : Hid (Calls Tryd.prog 16 #[.int .i64 u] w fun e w' => e = .returned (.tuple #[.string ⟨#[]⟩, .int .i64 110]) ∧ w = w') := print_no u w hu hu0 hu1
      rw [hu] at RU
      clear hu
      go_wp2_with fail
      refine PU.out.mono ?_
      rintro e w1 ⟨rfl, rfl⟩
      go_wp2_with fail
      refine (AL.out w (Below.refl _ _)).mono ?_
      rintro e w2 ⟨rfl, hb2⟩
      have HB2 : Hid (Below w.heap.size w w2) := hb2
      clear hb2
      go_wp2_with fail
      refine (RT.out _).mono ?_
      rintro e w3 ⟨rfl, rfl⟩
      go_wp2_with fail
      refine (RU.out _).mono ?_
      rintro e w3 ⟨rfl, rfl⟩
      go_wp2
      go_ret
      exact ⟨rfl, HB2.out⟩
    | true =>
      have PU := print_yes u w hu HA.out HP.out
      rw [hu] at RU
      clear hu
      go_wp2_with fail
      refine PU.mono ?_
      rintro e w1 ⟨⟨y, m, d, hc, rfl⟩, hb1⟩
      have HB1 : Hid (Below w.heap.size w w1) := hb1
      clear hb1 hc PU
      generalize strOfNums (timeL y m d u) = x
      go_wp2_with fail
      refine (AL.out w1 HB1.out).mono ?_
      rintro e w2 ⟨rfl, hb2⟩
      have HB2 : Hid (Below w.heap.size w w2) := hb2
      clear hb2
      go_wp2_with fail
      refine (RT.out _).mono ?_
      rintro e w3 ⟨rfl, rfl⟩
      go_wp2_with fail
      refine (RU.out _).mono ?_
      rintro e w3 ⟨rfl, rfl⟩
      go_wp2
      go_ret
      exact ⟨rfl, HB2.out⟩
  | true =>
    have PT := print_yes t w ht HA.out HP.out
    have ht' : 0 ≤ t := by simp [rightB] at ht; omega
    rw [ht] at RT
    clear ht
    go_enter Tryd.func8, Tryd.ntmps8
    go_wp2_with fail
    refine PT.mono ?_
    rintro e w1 ⟨⟨y, m, d, hc, rfl⟩, hb1⟩
    have HB1 : Hid (Below w.heap.size w w1) := hb1
    have HC : Hid (Civ (t / 86400) y m d) := hc
    clear hb1 hc PT
    cases hu : rightB u with
    | false =>
      have PU : Hid (Calls Tryd.prog 16 #[.int .i64 u] w1 fun e w' => e = .returned (.tuple #[.string ⟨#[]⟩, .int .i64 110]) ∧ w1 = w') := print_no u w1 hu hu0 hu1
      rw [hu] at RU
      clear hu
      generalize strOfNums (timeL y m d t) = x
      go_wp2_with fail
      refine PU.out.mono ?_
      rintro e w2 ⟨rfl, rfl⟩
      go_wp2_with fail
      refine (AL.out w1 HB1.out).mono ?_
      rintro e w2 ⟨rfl, hb2⟩
      have HB2 : Hid (Below w.heap.size w w2) := hb2
      clear hb2
      go_wp2_with fail
      refine (RT.out _).mono ?_
      rintro e w3 ⟨rfl, rfl⟩
      go_wp2_with fail
      refine (RU.out _).mono ?_
      rintro e w3 ⟨rfl, rfl⟩
      go_wp2
      go_ret
      exact ⟨rfl, HB2.out⟩
    | true =>
      have PU := print_yes u w1 hu (HA.out.below HB1.out) (HP.out.below HB1.out)
      have hu' : 0 ≤ u := by simp [rightB] at hu; omega
      clear hu RT RU
      go_wp2_with fail
      refine PU.mono ?_
      rintro e w2 ⟨⟨y', m', d', hc', rfl⟩, hb2⟩
      have HB2 : Hid (Below w.heap.size w w2) := HB1.out.trans (hb2.mono HB1.out.size)
      have s1 := str_less ht' hu' HC.out hc'
      have s2 := str_same ht' hu' HC.out hc'
      clear hb2 hc' PU HC
      generalize strOfNums (timeL y m d t) = x at s1 s2
      generalize strOfNums (timeL y' m' d' u) = x' at s1 s2
      go_wp2_with fail
      refine (AL.out w2 HB2.out).mono ?_
      rintro e w3 ⟨rfl, hb3⟩
      have HB3 : Hid (Below w.heap.size w w3) := hb3
      clear hb3
      go_wp2
      go_ret
      exact ⟨rfl, HB3.out⟩

set_option maxRecDepth 100000 in
theorem lifted (os : Os) (started : os.Started) (H : Type) (enc : TypeId × Value → H) :
    ReturnsInHanded {} Tryd.checked os 8 .any (fun w args => (Rows.whenOrderSpec.pre enc Tryd.prog Tryd.f8 Rows.whenOrderRow.domain false w args ∧ laidMetH Tryd.prog Rows.whenOrderRow.laid w) ∧ sizedMet enc Tryd.prog Tryd.f8 (OpenSpec.ofChange Rows.whenOrderSpec) false w args)
      (Rows.whenOrderSpec.post enc Tryd.prog Tryd.f8 false true false false) := by
  refine returnsInHanded_of_change_and (C := Tryd.checked) (X := fun w _ => laidMetH Tryd.prog Rows.whenOrderRow.laid w) (fun _ _ _ hh h => h.of_heap hh) own started (by kernel_rfl) Tryd.func8
    (ChangeSpec.witness_shaped (enc := enc) (C := Tryd.checked) (os := os) (X := fun w _ => laidMetH Tryd.prog Rows.whenOrderRow.laid w) false (World.laidAll Tryd.prog os Rows.whenOrderRow.laid) #[.int .i64 0, .int .i64 0] 8 (World.laidAll_os _ _ _)
      (World.shaped_of_ZipB (by kernel_rfl) (by kernel_rfl)) (by kernel_rfl) (by kernel_rfl) (by kernel_rfl)
      (by rw [MakeChecks.laidMetH_plain _ _ _ (by kernel_rfl)]; exact laidMet_laidAll _ (by kernel_rfl) (by kernel_rfl))) ?_
  intro W base args ds gs before hval0 hW hcnd _ hL0 _
  have hL : laidMet Tryd.prog Rows.whenOrderRow.laid W := by
    have : laidMetH Tryd.prog Rows.whenOrderRow.laid W := hL0
    rwa [MakeChecks.laidMetH_plain _ _ _ (by kernel_rfl)] at this
  have hval : ∀ (j : Nat) t v, Tryd.f8.params[j]? = some t → args[j]? = some v → Value.okWide Tryd.prog W .any base t v := hval0
  have hW' := hW
  obtain ⟨p, q, hA0, hV, rfl, hfz, hnd⟩ := hW
  have hA : DataW.TrodAll enc Tryd.prog W 0 (fun _ => true) true Tryd.f8.params.toList args.toList ds p := hA0
  rw [Tryd.params8] at hA hval
  obtain ⟨v0, vs0, d0, ds0, p0, q0, hargs, rfl, rfl, h0, r0⟩ := trodAll_cons hA
  obtain ⟨v1, vs1, d1, ds1, p1, q1, rfl, rfl, rfl, h1, r1⟩ := trodAll_cons r0
  obtain ⟨rfl, rfl, rfl⟩ := trodAll_nil r1
  obtain rfl : args = #[v0, v1] := by cases args; simp_all
  obtain ⟨rfl, rfl⟩ := trodVars_none hV
  obtain ⟨a0, rfl, rfl, rfl, w0⟩ := open_int Tryd.underlying2 (hval 0 2 v0 rfl rfl) h0
  have b0 := bounds_i64 w0
  obtain ⟨a1, rfl, rfl, rfl, w1⟩ := open_int Tryd.underlying2 (hval 1 2 v1 rfl rfl) h1
  have b1 := bounds_i64 w1
  clear hA0 hval0
  have t0 := laidMet.tail (laidMet.tail hL)
  have hT := pow_of t0
  have hAh := ahead_of (laidMet.tail t0)
  have hPl := places_of (laidMet.tail (laidMet.tail t0))

  simp only [List.append_nil] at hW'
  refine (walk a0 a1 W b0.1 b0.2 b1.1 b1.2 hAh hPl hT).mono fun e W' ⟨he, bel⟩ => ?_
  subst he
  exact ⟨_, rfl, _, _, _, [], _, [], hW', trodAll_mk1 (shut_bool Tryd.underlying4 _), (trodAll_cons_mk (shut_int Tryd.underlying2 w0) (trodAll_cons_mk (shut_int Tryd.underlying2 w1) trodAll_mk0)), rfl, bel.frame _, fun h => by cases h⟩

theorem over : Rows.WhenOrderSaid :=
  OpenClaim.holds_of_wide 8 Tryd.f8 rfl rfl rfl rfl rfl rfl rfl ⟨rfl, rfl, rfl, rfl, rfl⟩ rfl rfl rfl rfl rfl (by kernel_rfl) Tryd.func8 (by kernel_rfl)
    (of_decide_eq_true (by kernel_rfl)) (by unfold Func.isWrapper; first | (rw [if_pos (by decide +kernel)]; kernel_rfl) | (rw [if_neg (by decide +kernel)]; exact ⟨rfl, rfl⟩))
    (fun os started H enc _ => lifted os started H enc)
end Go.Proofs.YtkamnphiocoebaaDoor.whenOrder
namespace Go.Proofs.YtkamnphiocoebaaDoor
theorem whenOrder_card : Rows.WhenOrderCardSaid :=
  Claim7.holds_tied_plain_at .later [] _ _ _ _ whenOrder.over (fun _ h => by cases h) (by kernel_rfl) (fun _ h => by cases h) whenOrder_row_tie rfl ⟨rfl, rfl⟩ (by kernel_rfl) rfl
    (fun f fn hf hfn => by
      obtain rfl : f = 8 := Option.some.inj ((show Tryd.prog.funcNamed Rows.whenOrderRow.func = some 8 by kernel_rfl).symm.trans hf) |>.symm
      obtain rfl : fn = Tryd.f8 := (Option.some.inj (Tryd.func8.symm.trans hfn)).symm
      exact ⟨by kernel_rfl, fun j t ht => by
        rw [Tryd.params8] at ht
        have hm : t ∈ [2, 2] := by simpa using Array.mem_of_getElem? ht
        have hall : ([2, 2].all fun u => !Tryd.prog.wantsStandIn u) = true := by kernel_rfl
        exact (show Tryd.prog.wantsStandIn t = false by simpa using List.all_eq_true.1 hall t hm)⟩)
    (by kernel_rfl)
#print axioms whenOrder_card
end Go.Proofs.YtkamnphiocoebaaDoor
