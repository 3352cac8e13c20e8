/-
  For every text: Read answers as the document does; no condition but what the row lists.
-/
import Derived.Test.YtkbkajipkdlmbaaDoorCards
import Derived.Test.YtkbkajipkdlmbaaDoorTie
import Derived.Test.YtkbkajipkdlmbaaDoorRread
import Derived.WalkKit
import Derived.ProofKit
import Derived.OpenShut
import Derived.ShutString
import Derived.ChangeOld
import Derived.Below
import Derived.LaidMore
import Derived.Lay
import Derived.SevenTiedAt
import Derived.Stop.Joined
namespace Go.Proofs.YtkbkajipkdlmbaaDoor.kindReads
open Go.ChangeShapes Go.WideShapes Go.ChangeAt Go.RowKit
open Go.ChangeMaps (open_string shut_string)
set_option linter.unusedVariables false

theorem rans_same {c c' : Int} {x : Option (List Int × List Int × List (List Int × List Int))} {t s t' s' : ByteArray} {f f' : List (ByteArray × ByteArray)} (h : RAns c x t s f) (h' : RAns c' x t' s' f') : c' = c ∧ nums t = nums t' ∧ nums s = nums s' ∧ numsP f = numsP f' := by
  rcases h with ⟨hx, rfl, rfl, rfl, rfl⟩ | ⟨hx, rfl⟩ <;> rcases h' with ⟨hy, rfl, rfl, rfl, rfl⟩ | ⟨hy, rfl⟩
  · exact ⟨rfl, rfl, rfl, rfl⟩
  · rw [hx] at hy; cases hy
  · rw [hx] at hy; cases hy
  · rw [hx] at hy
    simp only [Option.some.injEq, Prod.mk.injEq] at hy
    exact ⟨rfl, hy.1, hy.2.1, hy.2.2⟩
set_option maxHeartbeats 4000000 in
set_option maxRecDepth 100000 in
theorem walk (s : ByteArray) (w : World) (hs : s.size ≤ maxLen) : Calls Tryd.prog 4 #[.string s] w fun e w' => e = .returned (.bool true) ∧ Below w.heap.size w w' := by
  unfold maxLen at hs
  by_cases h3 : 3000 < s.size
  · have hd : decide ((s.size : Int) > 3000) = true := by simp; omega
    go_enter Tryd.func4, Tryd.ntmps4
    go_wp2_with (go_at_call 9; refine (alive_any _).mono ?_; rintro e w1 ⟨rfl, hb1⟩)
    go_ret
    exact ⟨rfl, hb1⟩
  have hd : decide ((s.size : Int) > 3000) = false := by simp; omega
  have hread := read_any s w (by omega)
  go_enter Tryd.func4, Tryd.ntmps4
  go_wp2_with fail
  refine hread.mono ?_
  clear hread
  rintro e w1 ⟨ty, sub, a, cap, fs, c, rfl, hfr, ⟨hz1, hz2, hz3⟩, hb1, hans⟩
  have HB1 : Hid (Below w.heap.size w (w1.alloc (.cells #[.string ty, .string sub, .slice a fs.length cap] 24))) := hb1.alloc hb1.size _
  have HF1 : Hid (FRow (w1.alloc (.cells #[.string ty, .string sub, .slice a fs.length cap] 24)) a fs) := hfr.below (keep w1 _)
  have HA1 : Hid (KAt (w1.alloc (.cells #[.string ty, .string sub, .slice a fs.length cap] 24)) w1.heap.size ty sub a fs.length cap) := kat_new w1 ty sub a fs.length cap
  have HAN : Hid (RAns c (readR (nums s)) ty sub fs) := hans
  clear hfr hb1 hans
  unfold kindV
  have hread := rread_any s (w1.alloc (.cells #[.string ty, .string sub, .slice a fs.length cap] 24)) (by omega)
  go_wp2_with fail
  refine hread.mono ?_
  clear hread
  rintro e w2 ⟨ty2, sub2, a2, cap2, fs2, c2, rfl, hfr2, hb2, hl2, hans2⟩
  obtain ⟨rfl, hty, hsub, hps⟩ := rans_same HAN.out hans2
  have HB2 : Hid (Below w.heap.size w (w2.alloc (.cells #[.string ty2, .string sub2, .slice a2 fs2.length cap2] 24))) := (HB1.out.trans (hb2.mono HB1.out.size)).alloc (HB1.out.trans (hb2.mono HB1.out.size)).size _
  have HF2 : Hid (FRow (w2.alloc (.cells #[.string ty2, .string sub2, .slice a2 fs2.length cap2] 24)) a fs) := (HF1.out.below hb2).below (keep w2 _)
  have HG2 : Hid (FRow (w2.alloc (.cells #[.string ty2, .string sub2, .slice a2 fs2.length cap2] 24)) a2 fs2) := hfr2.below (keep w2 _)
  have HA2 : Hid (KAt (w2.alloc (.cells #[.string ty2, .string sub2, .slice a2 fs2.length cap2] 24)) w1.heap.size ty sub a fs.length cap) := (HA1.out.below hb2).below (keep w2 _)
  have HC2 : Hid (KAt (w2.alloc (.cells #[.string ty2, .string sub2, .slice a2 fs2.length cap2] 24)) w2.heap.size ty2 sub2 a2 fs2.length cap2) := kat_new w2 ty2 sub2 a2 fs2.length cap2
  have hlf : fs.length ≤ 1000000 := by have := congrArg List.length hps; simp [numsP] at this; omega
  clear hfr2 hb2 hans2 HA1 HF1 HAN
  unfold kindV
  go_wp2_with fail
  refine (alive_any _).mono ?_
  rintro e w3 ⟨rfl, hb3⟩
  have hsame := same_any ty sub ty2 sub2 a a2 cap cap2 fs fs2 w3 hty hsub hps (by omega) (HF2.out.below hb3) (HG2.out.below hb3)
  obtain ⟨_, x0, x1, x2⟩ := HA2.out.below hb3
  obtain ⟨_, u0, u1, u2⟩ := HC2.out.below hb3
  have HB3 : Hid (Below w.heap.size w w3) := HB2.out.trans (hb3.mono HB2.out.size)
  unfold kindV at hsame
  clear hb3
  go_wp2_with (go_at_call 19; refine hsame.mono ?_; rintro e w4 ⟨rfl, hb4⟩)
  go_ret
  exact ⟨rfl, HB3.out.trans (hb4.mono HB3.out.size)⟩

set_option maxRecDepth 100000 in
theorem lifted (os : Os) (started : os.Started) (H : Type) (enc : TypeId × Value → H) :
    ReturnsInHanded {} Tryd.checked os 4 .any (fun w args => (Rows.kindReadsSpec.pre enc Tryd.prog Tryd.f4 Rows.kindReadsRow.domain false w args ∧ laidMetH Tryd.prog Rows.kindReadsRow.laid w) ∧ sizedMet enc Tryd.prog Tryd.f4 (OpenSpec.ofChange Rows.kindReadsSpec) false w args)
      (Rows.kindReadsSpec.post enc Tryd.prog Tryd.f4 false true false false) := by
  refine returnsInHanded_of_change_and (C := Tryd.checked) (X := fun w _ => laidMetH Tryd.prog Rows.kindReadsRow.laid w) (fun _ _ _ hh h => h.of_heap hh) own started (by kernel_rfl) Tryd.func4
    (ChangeSpec.witness_shaped (enc := enc) (C := Tryd.checked) (os := os) (X := fun w _ => laidMetH Tryd.prog Rows.kindReadsRow.laid w) false (World.laidAll Tryd.prog os Rows.kindReadsRow.laid) #[.string ⟨#[]⟩] 8 (World.laidAll_os _ _ _)
      (World.shaped_of_ZipB (by kernel_rfl) (by kernel_rfl)) (by kernel_rfl) (by kernel_rfl) (by kernel_rfl)
      (by rw [MakeChecks.laidMetH_plain _ _ _ (by kernel_rfl)]; exact laidMet_laidAll _ (by kernel_rfl) (by kernel_rfl))) ?_
  intro W base args ds gs before hval0 hW hcnd hsz0 hL _
  have hval : ∀ (j : Nat) t v, Tryd.f4.params[j]? = some t → args[j]? = some v → Value.okWide Tryd.prog W .any base t v := hval0
  have hsz : (DataW.weightsEach Tryd.prog (Tryd.f4.params.toList ++ Rows.kindReadsSpec.plain.varTypes Tryd.prog) (ds ++ gs)).all (· ≤ reachBytes) = true := hsz0
  have hW' := hW
  obtain ⟨p, q, hA0, hV, rfl, hfz, hnd⟩ := hW
  have hA : DataW.TrodAll enc Tryd.prog W 0 (fun _ => true) true Tryd.f4.params.toList args.toList ds p := hA0
  rw [Tryd.params4] at hA hval hsz
  obtain ⟨v0, vs0, d0, ds0, p0, q0, hargs, rfl, rfl, h0, r0⟩ := trodAll_cons hA
  obtain ⟨rfl, rfl, rfl⟩ := trodAll_nil r0
  obtain rfl : args = #[v0] := by cases args; simp_all
  obtain ⟨rfl, rfl⟩ := trodVars_none hV
  have k0 := h0
  have lt0 : ∀ x ∈ p0, x.block < W.heap.size := by obtain ⟨m, hm⟩ := k0; exact DataW.trod_lt m _ _ _ hm
  obtain ⟨s0, rfl, _, _, hs0⟩ := open_string Tryd.underlying9 (hval 0 9 v0 rfl rfl) h0
  clear hA0 hval0
  refine (walk s0 W hs0).mono fun e W' ⟨he, bel⟩ => ?_
  subst he
  exact ⟨_, rfl, _, _, _, [], _, [], hW', trodAll_mk1 (shut_bool Tryd.underlying4 _), (trodAll_cons_mk (Below.trod laidOut (by kernel_rfl) (of_decide_eq_true (by kernel_rfl)) k0 bel lt0) trodAll_mk0), rfl, bel.frame _, fun h => by cases h⟩

theorem over : Rows.KindReadsSaid :=
  OpenClaim.holds_of_wide 4 Tryd.f4 rfl rfl rfl rfl rfl rfl rfl ⟨rfl, rfl, rfl, rfl, rfl⟩ rfl rfl rfl rfl rfl (by kernel_rfl) Tryd.func4 (by kernel_rfl)
    (of_decide_eq_true (by kernel_rfl)) (by unfold Func.isWrapper; first | (rw [if_pos (by decide +kernel)]; kernel_rfl) | (rw [if_neg (by decide +kernel)]; exact ⟨rfl, rfl⟩))
    (fun os started H enc _ => lifted os started H enc)
end Go.Proofs.YtkbkajipkdlmbaaDoor.kindReads
namespace Go.Proofs.YtkbkajipkdlmbaaDoor
theorem kindReads_card : Rows.KindReadsCardSaid :=
  Claim7.holds_tied_plain_at .later [] _ _ _ _ kindReads.over (fun _ h => by cases h) (by kernel_rfl) (fun _ h => by cases h) kindReads_row_tie rfl ⟨rfl, rfl⟩ (by kernel_rfl) rfl
    (fun f fn hf hfn => by
      obtain rfl : f = 4 := Option.some.inj ((show Tryd.prog.funcNamed Rows.kindReadsRow.func = some 4 by kernel_rfl).symm.trans hf) |>.symm
      obtain rfl : fn = Tryd.f4 := (Option.some.inj (Tryd.func4.symm.trans hfn)).symm
      exact ⟨by kernel_rfl, fun j t ht => by
        rw [Tryd.params4] at ht
        have hm : t ∈ [9] := by simpa using Array.mem_of_getElem? ht
        have hall : ([9].all fun u => !Tryd.prog.wantsStandIn u) = true := by kernel_rfl
        exact (show Tryd.prog.wantsStandIn t = false by simpa using List.all_eq_true.1 hall t hm)⟩)
    (by kernel_rfl)
#print axioms kindReads_card
end Go.Proofs.YtkbkajipkdlmbaaDoor
