/-
  For every text the law WhenAgain returns true (what is read as a length, written and read again, is the same; turned by its sign it is the opposite), and the text reads as before: no condition but the listed tables, which are tied to the program's text.
-/
import Derived.Test.YtkamnphiocoebabDoorCards
import Derived.Test.YtkamnphiocoebabDoorTie
import Derived.Test.YtkamnphiocoebabDoorLa
import Derived.WalkKit
import Derived.ProofKit
import Derived.OpenShut
import Derived.ShutString
import Derived.ChangeOld
import Derived.Below
import Derived.LaidMore
import Derived.Lay
import Derived.SevenTiedAt
import Derived.Stop.Joined
namespace Go.Proofs.YtkamnphiocoebabDoor.whenAgain
open Go.ChangeShapes Go.WideShapes Go.ChangeAt Go.RowKit
open Go.ChangeMaps (open_string shut_string)
set_option linter.unusedVariables false

structure Facts (w : World) : Prop where
  a : Ah w
  p : Pl w
  t : Tb w
  c : Cs w
theorem Facts.below {w w' : World} (h : Facts w) (b : Below w.heap.size w w') : Facts w' := ⟨h.a.below b, h.p.below b, h.t.below b, h.c.below b⟩
theorem mode1 {n : Int} (h : -mostZ ≤ n ∧ n ≤ mostZ) : spanE n = 0 ∧ spanT n = spanL n := by unfold spanE spanT; rw [if_pos h, if_pos h]; exact ⟨rfl, rfl⟩
theorem n45' : nums { data := #[45] } = [45] := by decide
theorem z45 : (⟨#[45]⟩ : ByteArray).size = 1 := rfl
set_option maxHeartbeats 4000000 in
theorem walk (s : ByteArray) (w : World) (hs0 : s.size ≤ maxLen) (hA : Ah w) (hP : Pl w) (hT : Tb w) (hC : Cs w) :
    Calls Tryd.prog 3 #[.string s] w fun e w' => e = .returned (.bool true) ∧ Below w.heap.size w w' := by
  have hs : s.size ≤ 9223372036854775807 := by unfold maxLen at hs0; omega
  have HF : Hid (Facts w) := ⟨hA, hP, hT, hC⟩
  clear hA hP hT hC hs0
  have AL : Hid (∀ v, Below w.heap.size w v → Calls Tryd.prog 4 #[] v fun e w' => e = .returned (.bool true) ∧ Below w.heap.size w w') := fun v hb => by
    have hf := HF.out.below hb
    refine (alive_any v hf.a hf.p hf.t).mono ?_
    rintro e w' ⟨rfl, hb'⟩
    exact ⟨rfl, hb.trans (hb'.mono hb.size)⟩
  have PS : Hid (∀ (x : ByteArray) v, x.size ≤ 100000 → Below w.heap.size w v → Calls Tryd.prog 5 #[.string x] v fun e w' => e = .returned (.tuple #[.int .i64 (psV (nums x)), .int .i64 (psE (nums x))]) ∧ Below w.heap.size w w') := fun x v hx hb => by
    refine (parseSpan_any x v (by omega) (HF.out.below hb).c).mono ?_
    rintro e w' ⟨rfl, hb'⟩
    exact ⟨rfl, hb.trans (hb'.mono hb.size)⟩
  by_cases hlen : 300 < s.size
  · have HBX : Hid (Below w.heap.size w w) := Below.refl _ _
    go_enter Tryd.func3, Tryd.ntmps3
    go_wp2_with fail
    refine (AL.out _ HBX.out).mono ?_
    rintro e w9 ⟨rfl, hb9⟩
    have HB9 : Hid (Below w.heap.size w w9) := hb9
    clear hb9
    go_wp2
    go_ret
    exact ⟨rfl, HB9.out⟩
  · cases hr : spanR (nums s) with
    | none =>
      have P1 := PS.out s w (by omega) (Below.refl _ _)
      rw [(ps_none hr).1, (ps_none hr).2] at P1
      clear hr
      go_enter Tryd.func3, Tryd.ntmps3
      go_wp2_with fail
      refine P1.mono ?_
      rintro e w1 ⟨rfl, hb1⟩
      have HBX : Hid (Below w.heap.size w w1) := hb1
      clear hb1 P1
      go_wp2_with fail
      refine (AL.out _ HBX.out).mono ?_
      rintro e w9 ⟨rfl, hb9⟩
      have HB9 : Hid (Below w.heap.size w w9) := hb9
      clear hb9
      go_wp2
      go_ret
      exact ⟨rfl, HB9.out⟩
    | some n =>
      have P1 := PS.out s w (by omega) (Below.refl _ _)
      rw [(ps_some hr).1, (ps_some hr).2] at P1
      have hrg := span_range _ _ hr
      have HM := mode1 hrg
      have HSB : Hid (spanR (spanL n) = some n) := span_back n hrg.1 hrg.2
      have HE : Hid (spanE n = 0 ∧ spanT n = spanL n) := HM
      have hn0 : -1099511627776 ≤ n := hrg.1
      have hn1 : n ≤ 1099511627776 := hrg.2
      have HR : Hid (spanR (nums s) = some n) := hr
      have hne : s.size ≠ 0 := fun q => by
        rw [List.eq_nil_of_length_eq_zero (show (nums s).length = 0 by rw [nums_len]; exact q)] at hr
        cases hr
      clear hr hrg HM
      have he := empty_list s
      rw [decide_eq_false hne] at he
      have he2 : ¬ s.toList = [] := by simpa using he
      have hlt : 0 < s.size := by omega
      have HD : Hid (nums s = (s[0].toNat : Int) :: (nums s).drop 1) := nums_drop s 0 hlt
      obtain ⟨c, hc⟩ : ∃ c : Int, ((s[0]'hlt).toNat : Int) = c := ⟨_, rfl⟩
      rw [hc] at HD
      go_enter Tryd.func3, Tryd.ntmps3
      go_wp2_with fail
      refine P1.mono ?_
      rintro e w1 ⟨rfl, hb1⟩
      have HB1 : Hid (Below w.heap.size w w1) := hb1
      clear hb1 P1
      go_wp2_with fail
      refine (span_any n w1 (by omega) (by omega) (HF.out.below HB1.out).t).mono ?_
      rintro e w2 ⟨x, rfl, ⟨hx, hxs⟩, hb2⟩
      have HB2 : Hid (Below w.heap.size w w2) := HB1.out.trans (hb2.mono HB1.out.size)
      have P2 := PS.out x w2 (by omega) HB2.out
      rw [hx, HE.out.2, (ps_some HSB.out).1, (ps_some HSB.out).2] at P2
      rw [HE.out.1]
      clear hb2 hx HSB HE
      go_wp2_with fail
      refine P2.mono ?_
      rintro e w3 ⟨rfl, hb3⟩
      have HB3 : Hid (Below w.heap.size w w3) := hb3
      clear hb3 P2
      by_cases h43 : c = 43
      · have t1 : (c == 43) = true := by simp [h43]
        have HBX := HB3
        clear h43
        go_wp2_with fail
        refine (AL.out _ HBX.out).mono ?_
        rintro e w9 ⟨rfl, hb9⟩
        have HB9 : Hid (Below w.heap.size w w9) := hb9
        clear hb9
        go_wp2
        go_ret
        exact ⟨rfl, HB9.out⟩
      · have t1 : (c == 43) = false := by simp [h43]
        by_cases h45 : c = 45
        · have t2 : (c == 45) = true := by simp [h45]
          have HBX := HB3
          clear h43 h45
          go_wp2_with fail
          refine (AL.out _ HBX.out).mono ?_
          rintro e w9 ⟨rfl, hb9⟩
          have HB9 : Hid (Below w.heap.size w w9) := hb9
          clear hb9
          go_wp2
          go_ret
          exact ⟨rfl, HB9.out⟩
        · have t2 : (c == 45) = false := by simp [h45]
          have hturn := span_turn (nums s) n HR.out (fun r e => by rw [HD.out] at e; injection e with a _; exact h45 a) (fun r e => by rw [HD.out] at e; injection e with a _; exact h43 a)
          have hnn : 0 ≤ n := hturn.2
          have hN : nums ({ data := #[45] } ++ s) = 45 :: nums s := by rw [nums_append, n45']; rfl
          have hz : ({ data := #[45] } ++ s : ByteArray).size = s.size + 1 := by rw [ByteArray.size_append, z45]; omega
          have P3 := PS.out ({ data := #[45] } ++ s) w3 (by rw [hz]; omega) HB3.out
          rw [hN, (ps_some hturn.1).1, (ps_some hturn.1).2] at P3
          have hz45 := z45
          clear h43 h45 hturn hN hz HR HD
          go_wp2_with fail
          refine P3.mono ?_
          rintro e w4 ⟨rfl, hb4⟩
          have HBX : Hid (Below w.heap.size w w4) := hb4
          clear hb4 P3
          go_wp2_with fail
          refine (AL.out _ HBX.out).mono ?_
          rintro e w9 ⟨rfl, hb9⟩
          have HB9 : Hid (Below w.heap.size w w9) := hb9
          clear hb9
          go_wp2
          go_ret
          exact ⟨rfl, HB9.out⟩

set_option maxRecDepth 100000 in
theorem lifted (os : Os) (started : os.Started) (H : Type) (enc : TypeId × Value → H) :
    ReturnsInHanded {} Tryd.checked os 3 .any (fun w args => (Rows.whenAgainSpec.pre enc Tryd.prog Tryd.f3 Rows.whenAgainRow.domain false w args ∧ laidMetH Tryd.prog Rows.whenAgainRow.laid w) ∧ sizedMet enc Tryd.prog Tryd.f3 (OpenSpec.ofChange Rows.whenAgainSpec) false w args)
      (Rows.whenAgainSpec.post enc Tryd.prog Tryd.f3 false true false false) := by
  refine returnsInHanded_of_change_and (C := Tryd.checked) (X := fun w _ => laidMetH Tryd.prog Rows.whenAgainRow.laid w) (fun _ _ _ hh h => h.of_heap hh) own started (by kernel_rfl) Tryd.func3
    (ChangeSpec.witness_shaped (enc := enc) (C := Tryd.checked) (os := os) (X := fun w _ => laidMetH Tryd.prog Rows.whenAgainRow.laid w) false (World.laidAll Tryd.prog os Rows.whenAgainRow.laid) #[.string ⟨#[]⟩] 8 (World.laidAll_os _ _ _)
      (World.shaped_of_ZipB (by kernel_rfl) (by kernel_rfl)) (by kernel_rfl) (by kernel_rfl) (by kernel_rfl)
      (by rw [MakeChecks.laidMetH_plain _ _ _ (by kernel_rfl)]; exact laidMet_laidAll _ (by kernel_rfl) (by kernel_rfl))) ?_
  intro W base args ds gs before hval0 hW hcnd _ hL0 _
  have hL : laidMet Tryd.prog Rows.whenAgainRow.laid W := by
    have : laidMetH Tryd.prog Rows.whenAgainRow.laid W := hL0
    rwa [MakeChecks.laidMetH_plain _ _ _ (by kernel_rfl)] at this
  have hval : ∀ (j : Nat) t v, Tryd.f3.params[j]? = some t → args[j]? = some v → Value.okWide Tryd.prog W .any base t v := hval0
  have hW' := hW
  obtain ⟨p, q, hA0, hV, rfl, hfz, hnd⟩ := hW
  have hA : DataW.TrodAll enc Tryd.prog W 0 (fun _ => true) true Tryd.f3.params.toList args.toList ds p := hA0
  rw [Tryd.params3] at hA hval
  obtain ⟨v0, vs0, d0, ds0, p0, q0, hargs, rfl, rfl, h0, r0⟩ := trodAll_cons hA
  obtain ⟨rfl, rfl, rfl⟩ := trodAll_nil r0
  obtain rfl : args = #[v0] := by cases args; simp_all
  obtain ⟨rfl, rfl⟩ := trodVars_none hV
  have k0 := h0
  have lt0 : ∀ x ∈ p0, x.block < W.heap.size := by obtain ⟨m, hm⟩ := k0; exact DataW.trod_lt m _ _ _ hm
  obtain ⟨s0, rfl, _, _, hs0⟩ := open_string Tryd.underlying9 (hval 0 9 v0 rfl rfl) h0
  clear hA0 hval0
  have t0 := laidMet.tail (laidMet.tail hL)
  have hT := pow_of t0
  have hAh := ahead_of (laidMet.tail t0)
  have hPl := places_of (laidMet.tail (laidMet.tail t0))
  have hCs := sizes_of (laidMet.tail (laidMet.tail (laidMet.tail t0)))
  simp only [List.append_nil] at hW'
  refine (walk s0 W hs0 hAh hPl hT hCs).mono fun e W' ⟨he, bel⟩ => ?_
  subst he
  exact ⟨_, rfl, _, _, _, [], _, [], hW', trodAll_mk1 (shut_bool Tryd.underlying4 _), (trodAll_cons_mk (Below.trod laidOut (by kernel_rfl) (of_decide_eq_true (by kernel_rfl)) k0 bel lt0) trodAll_mk0), rfl, bel.frame _, fun h => by cases h⟩

theorem over : Rows.WhenAgainSaid :=
  OpenClaim.holds_of_wide 3 Tryd.f3 rfl rfl rfl rfl rfl rfl rfl ⟨rfl, rfl, rfl, rfl, rfl⟩ rfl rfl rfl rfl rfl (by kernel_rfl) Tryd.func3 (by kernel_rfl)
    (of_decide_eq_true (by kernel_rfl)) (by unfold Func.isWrapper; first | (rw [if_pos (by decide +kernel)]; kernel_rfl) | (rw [if_neg (by decide +kernel)]; exact ⟨rfl, rfl⟩))
    (fun os started H enc _ => lifted os started H enc)
end Go.Proofs.YtkamnphiocoebabDoor.whenAgain
namespace Go.Proofs.YtkamnphiocoebabDoor
theorem whenAgain_card : Rows.WhenAgainCardSaid :=
  Claim7.holds_tied_plain_at .later [] _ _ _ _ whenAgain.over (fun _ h => by cases h) (by kernel_rfl) (fun _ h => by cases h) whenAgain_row_tie rfl ⟨rfl, rfl⟩ (by kernel_rfl) rfl
    (fun f fn hf hfn => by
      obtain rfl : f = 3 := Option.some.inj ((show Tryd.prog.funcNamed Rows.whenAgainRow.func = some 3 by kernel_rfl).symm.trans hf) |>.symm
      obtain rfl : fn = Tryd.f3 := (Option.some.inj (Tryd.func3.symm.trans hfn)).symm
      exact ⟨by kernel_rfl, fun j t ht => by
        rw [Tryd.params3] at ht
        have hm : t ∈ [9] := by simpa using Array.mem_of_getElem? ht
        have hall : ([9].all fun u => !Tryd.prog.wantsStandIn u) = true := by kernel_rfl
        exact (show Tryd.prog.wantsStandIn t = false by simpa using List.all_eq_true.1 hall t hm)⟩)
    (by kernel_rfl)
#print axioms whenAgain_card
end Go.Proofs.YtkamnphiocoebabDoor
