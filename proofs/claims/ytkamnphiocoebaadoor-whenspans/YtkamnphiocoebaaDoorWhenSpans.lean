/-
  For every number and every text the law WhenSpans returns true (lengths are written, and any text is read as one, or is none, as the document's own answer has it), and both read as before: no condition but the listed tables, which are tied to the program's text.
-/
import Derived.Test.YtkamnphiocoebaaDoorCards
import Derived.Test.YtkamnphiocoebaaDoorTie
import Derived.Test.YtkamnphiocoebaaDoorLa
import Derived.Test.YtkamnphiocoebaaDoorRt
import Derived.Test.YtkamnphiocoebaaDoorRw
import Derived.WalkKit
import Derived.ProofKit
import Derived.OpenShut
import Derived.ShutString
import Derived.ChangeOld
import Derived.Below
import Derived.LaidMore
import Derived.Lay
import Derived.SevenTiedAt
import Derived.Stop.Joined
namespace Go.Proofs.YtkamnphiocoebaaDoor.whenSpans
open Go.ChangeShapes Go.WideShapes Go.ChangeAt Go.RowKit
open Go.ChangeMaps (open_string shut_string)
set_option linter.unusedVariables false

structure Facts (w : World) : Prop where
  a : Ah w
  p : Pl w
  t : Tb w
  c : Cs w
theorem Facts.below {w w' : World} (h : Facts w) (b : Below w.heap.size w w') : Facts w' := ⟨h.a.below b, h.p.below b, h.t.below b, h.c.below b⟩
set_option maxHeartbeats 4000000 in
theorem walk (n : Int) (s : ByteArray) (w : World) (hn0 : -9223372036854775808 ≤ n) (hn1 : n ≤ 9223372036854775807) (hs0 : s.size ≤ maxLen) (hA : Ah w) (hP : Pl w) (hT : Tb w) (hC : Cs w) :
    Calls Tryd.prog 5 #[.int .i64 n, .string s] w fun e w' => e = .returned (.bool true) ∧ Below w.heap.size w w' := by
  have hs : s.size ≤ 9223372036854775807 := by unfold maxLen at hs0; omega
  have HF : Hid (Facts w) := ⟨hA, hP, hT, hC⟩
  clear hA hP hT hC hs0
  have AL : Hid (∀ v, Below w.heap.size w v → Calls Tryd.prog 13 #[] v fun e w' => e = .returned (.bool true) ∧ Below w.heap.size w w') := fun v hb => by
    have hf := HF.out.below hb
    refine (alive_any v hf.a hf.p hf.t).mono ?_
    rintro e w' ⟨rfl, hb'⟩
    exact ⟨rfl, hb.trans (hb'.mono hb.size)⟩
  by_cases hlen : 300 < s.size
  · go_enter Tryd.func5, Tryd.ntmps5
    go_wp2_with fail
    refine (AL.out w (Below.refl _ _)).mono ?_
    rintro e w9 ⟨rfl, hb9⟩
    have HB9 : Hid (Below w.heap.size w w9) := hb9
    clear hb9
    go_wp2
    go_ret
    exact ⟨rfl, HB9.out⟩
  · go_enter Tryd.func5, Tryd.ntmps5
    go_wp2_with fail
    refine (span_any n w hn0 hn1 HF.out.t).mono ?_
    rintro e w1 ⟨x, rfl, ⟨hx, hxs⟩, hb1⟩
    have HB1 : Hid (Below w.heap.size w w1) := hb1
    have HX : Hid (nums x = spanT n) := hx
    clear hb1 hx
    go_wp2_with fail
    refine (rspan_any n w1 hn0 hn1).mono ?_
    rintro e w2 ⟨y, rfl, hy, hb2⟩
    have HB2 : Hid (Below w.heap.size w w2) := HB1.out.trans (hb2.mono HB1.out.size)
    obtain rfl : x = y := nums_inj (by rw [HX.out, hy])
    clear hb2 hy HX
    go_wp2_with fail
    refine (parseSpan_any s w2 (by omega) (HF.out.below HB2.out).c).mono ?_
    rintro e w3 ⟨rfl, hb3⟩
    have HB3 : Hid (Below w.heap.size w w3) := HB2.out.trans (hb3.mono HB2.out.size)
    clear hb3
    have R3 := rparseSpan_any s w3 (by omega)
    generalize psV (nums s) = V at R3
    generalize psE (nums s) = E at R3
    generalize spanE n = F
    go_wp2_with fail
    refine R3.mono ?_
    rintro e w4 ⟨rfl, hb4⟩
    have HB4 : Hid (Below w.heap.size w w4) := HB3.out.trans (hb4.mono HB3.out.size)
    clear hb4 R3
    go_wp2_with fail
    refine (AL.out w4 HB4.out).mono ?_
    rintro e w9 ⟨rfl, hb9⟩
    have HB9 : Hid (Below w.heap.size w w9) := hb9
    clear hb9
    go_wp2
    go_ret
    exact ⟨rfl, HB9.out⟩

set_option maxRecDepth 100000 in
theorem lifted (os : Os) (started : os.Started) (H : Type) (enc : TypeId × Value → H) :
    ReturnsInHanded {} Tryd.checked os 5 .any (fun w args => (Rows.whenSpansSpec.pre enc Tryd.prog Tryd.f5 Rows.whenSpansRow.domain false w args ∧ laidMetH Tryd.prog Rows.whenSpansRow.laid w) ∧ sizedMet enc Tryd.prog Tryd.f5 (OpenSpec.ofChange Rows.whenSpansSpec) false w args)
      (Rows.whenSpansSpec.post enc Tryd.prog Tryd.f5 false true false false) := by
  refine returnsInHanded_of_change_and (C := Tryd.checked) (X := fun w _ => laidMetH Tryd.prog Rows.whenSpansRow.laid w) (fun _ _ _ hh h => h.of_heap hh) own started (by kernel_rfl) Tryd.func5
    (ChangeSpec.witness_shaped (enc := enc) (C := Tryd.checked) (os := os) (X := fun w _ => laidMetH Tryd.prog Rows.whenSpansRow.laid w) false (World.laidAll Tryd.prog os Rows.whenSpansRow.laid) #[.int .i64 0, .string ⟨#[]⟩] 8 (World.laidAll_os _ _ _)
      (World.shaped_of_ZipB (by kernel_rfl) (by kernel_rfl)) (by kernel_rfl) (by kernel_rfl) (by kernel_rfl)
      (by rw [MakeChecks.laidMetH_plain _ _ _ (by kernel_rfl)]; exact laidMet_laidAll _ (by kernel_rfl) (by kernel_rfl))) ?_
  intro W base args ds gs before hval0 hW hcnd _ hL0 _
  have hL : laidMet Tryd.prog Rows.whenSpansRow.laid W := by
    have : laidMetH Tryd.prog Rows.whenSpansRow.laid W := hL0
    rwa [MakeChecks.laidMetH_plain _ _ _ (by kernel_rfl)] at this
  have hval : ∀ (j : Nat) t v, Tryd.f5.params[j]? = some t → args[j]? = some v → Value.okWide Tryd.prog W .any base t v := hval0
  have hW' := hW
  obtain ⟨p, q, hA0, hV, rfl, hfz, hnd⟩ := hW
  have hA : DataW.TrodAll enc Tryd.prog W 0 (fun _ => true) true Tryd.f5.params.toList args.toList ds p := hA0
  rw [Tryd.params5] at hA hval
  obtain ⟨v0, vs0, d0, ds0, p0, q0, hargs, rfl, rfl, h0, r0⟩ := trodAll_cons hA
  obtain ⟨v1, vs1, d1, ds1, p1, q1, rfl, rfl, rfl, h1, r1⟩ := trodAll_cons r0
  obtain ⟨rfl, rfl, rfl⟩ := trodAll_nil r1
  obtain rfl : args = #[v0, v1] := by cases args; simp_all
  obtain ⟨rfl, rfl⟩ := trodVars_none hV
  obtain ⟨a0, rfl, rfl, rfl, w0⟩ := open_int Tryd.underlying2 (hval 0 2 v0 rfl rfl) h0
  have b0 := bounds_i64 w0
  have k1 := h1
  have lt1 : ∀ x ∈ p1, x.block < W.heap.size := by obtain ⟨m, hm⟩ := k1; exact DataW.trod_lt m _ _ _ hm
  obtain ⟨s1, rfl, _, _, hs1⟩ := open_string Tryd.underlying9 (hval 1 9 v1 rfl rfl) h1
  clear hA0 hval0
  have t0 := laidMet.tail (laidMet.tail hL)
  have hT := pow_of t0
  have hAh := ahead_of (laidMet.tail t0)
  have hPl := places_of (laidMet.tail (laidMet.tail t0))
  have hCs := sizes_of (laidMet.tail (laidMet.tail (laidMet.tail t0)))
  simp only [List.append_nil] at hW'
  refine (walk a0 s1 W b0.1 b0.2 hs1 hAh hPl hT hCs).mono fun e W' ⟨he, bel⟩ => ?_
  subst he
  exact ⟨_, rfl, _, _, _, [], _, [], hW', trodAll_mk1 (shut_bool Tryd.underlying4 _), (trodAll_cons_mk (shut_int Tryd.underlying2 w0) (trodAll_cons_mk (Below.trod laidOut (by kernel_rfl) (of_decide_eq_true (by kernel_rfl)) k1 bel lt1) trodAll_mk0)), rfl, bel.frame _, fun h => by cases h⟩

theorem over : Rows.WhenSpansSaid :=
  OpenClaim.holds_of_wide 5 Tryd.f5 rfl rfl rfl rfl rfl rfl rfl ⟨rfl, rfl, rfl, rfl, rfl⟩ rfl rfl rfl rfl rfl (by kernel_rfl) Tryd.func5 (by kernel_rfl)
    (of_decide_eq_true (by kernel_rfl)) (by unfold Func.isWrapper; first | (rw [if_pos (by decide +kernel)]; kernel_rfl) | (rw [if_neg (by decide +kernel)]; exact ⟨rfl, rfl⟩))
    (fun os started H enc _ => lifted os started H enc)
end Go.Proofs.YtkamnphiocoebaaDoor.whenSpans
namespace Go.Proofs.YtkamnphiocoebaaDoor
theorem whenSpans_card : Rows.WhenSpansCardSaid :=
  Claim7.holds_tied_plain_at .later [] _ _ _ _ whenSpans.over (fun _ h => by cases h) (by kernel_rfl) (fun _ h => by cases h) whenSpans_row_tie rfl ⟨rfl, rfl⟩ (by kernel_rfl) rfl
    (fun f fn hf hfn => by
      obtain rfl : f = 5 := Option.some.inj ((show Tryd.prog.funcNamed Rows.whenSpansRow.func = some 5 by kernel_rfl).symm.trans hf) |>.symm
      obtain rfl : fn = Tryd.f5 := (Option.some.inj (Tryd.func5.symm.trans hfn)).symm
      exact ⟨by kernel_rfl, fun j t ht => by
        rw [Tryd.params5] at ht
        have hm : t ∈ [2, 9] := by simpa using Array.mem_of_getElem? ht
        have hall : ([2, 9].all fun u => !Tryd.prog.wantsStandIn u) = true := by kernel_rfl
        exact (show Tryd.prog.wantsStandIn t = false by simpa using List.all_eq_true.1 hall t hm)⟩)
    (by kernel_rfl)
#print axioms whenSpans_card
end Go.Proofs.YtkamnphiocoebaaDoor
