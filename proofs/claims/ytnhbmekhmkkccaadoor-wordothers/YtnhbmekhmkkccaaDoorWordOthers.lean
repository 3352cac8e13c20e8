/-
  For every text: one without =? is no word, and is read as it is; no condition but what the row lists.
-/
import Derived.Test.YtnhbmekhmkkccaaDoorCards
import Derived.Test.YtnhbmekhmkkccaaDoorTie
import Derived.Test.YtnhbmekhmkkccaaDoorArgs
import Derived.WalkKit
import Derived.ProofKit
import Derived.OpenShut
import Derived.ShutString
import Derived.ChangeOld
import Derived.Below
import Derived.LaidMore
import Derived.Lay
import Derived.SevenTiedAt
import Derived.Stop.Joined
namespace Go.Proofs.YtnhbmekhmkkccaaDoor.wordOthers
open Go.ChangeShapes Go.WideShapes Go.ChangeAt Go.RowKit
open Go.ChangeMaps (open_string shut_string)
set_option linter.unusedVariables false

theorem has2_take {l : List Int} {k : Nat} {c d : Int} (h1 : l[k]? = some c) (h2 : l[k + 1]? = some d) : has2 61 63 (l.take (k + 2)) = (has2 61 63 (l.take (k + 1)) || (decide (c = 61) && decide (d = 63))) := by
  rw [show l.take (k + 2) = l.take k ++ [c, d] by rw [List.take_add_one, h2, List.take_add_one, h1]; simp, has2_snoc, show l.take (k + 1) = l.take k ++ [c] by rw [List.take_add_one, h1]; rfl]
theorem eq_self (s : ByteArray) : (s.toList == s.toList) = true := by simp
set_option maxHeartbeats 4000000 in
set_option maxRecDepth 100000 in
theorem walk (s : ByteArray) (w : World) (hs : s.size ≤ maxLen) (m : Int) (hm : w.cell? ⟨0, 0, none⟩ = some (.int .i64 m)) :
    Calls Tryd.prog 8 #[.string s] w fun e w' => e = .returned (.bool true) ∧ Below w.heap.size w w' := by
  have hal := alive_any m w hm
  by_cases hlong : 2000 < s.size
  · have hd : decide ((s.size : Int) > 2000) = true := decide_eq_true (by omega)
    go_enter Tryd.func8, Tryd.ntmps8
    go_wp2_with (go_at_call 9; refine hal.mono ?_; rintro e w1 ⟨rfl, hb1⟩)
    go_ret
    exact ⟨rfl, hb1⟩
  have hd : decide ((s.size : Int) > 2000) = false := decide_eq_false (by omega)
  have hone := one_any s m w (by omega) hm
  have hmV : Hid (∀ V, Below w.heap.size w V → V.cell? ⟨0, 0, none⟩ = some (.int .i64 m)) := fun V hb => (hb.cell (World.block_lt_of_cell? w _ hm)).trans hm
  clear hm
  go_enter Tryd.func8, Tryd.ntmps8
  go_wp2
  go_loopw [3] (fun i wr => ∃ k : Nat, i = .int .i64 ((k + 1 : Nat) : Int) ∧ has2 61 63 ((nums s).take (k + 1)) = false ∧ k ≤ s.size ∧ w = wr) (fun i _ => s.size + 1 - (intOf i).toNat)
  case atStart =>
    refine ⟨0, rfl, ?_, Nat.zero_le _, rfl⟩
    cases h : nums s with
    | nil => rfl
    | cons c r => rfl
  case round =>
    obtain ⟨k, rfl, hh, hk, rfl⟩ := hrel
    have HH : Hid (has2 61 63 ((nums s).take (k + 1)) = false) := hh
    clear hh
    by_cases hlt : k + 1 < s.size
    · have HC : Hid ((nums s)[k]? = some (s[k].toNat : Int)) := nums_at s k (by omega)
      have HD : Hid ((nums s)[k + 1]? = some (s[k + 1].toNat : Int)) := nums_at s (k + 1) hlt
      have hc2 : ((k + 1 : Nat) : Int) - 1 = (k : Int) := by omega
      have hl2 : decide (((k + 1 : Nat) : Int) < (s.size : Int)) = true := decide_eq_true (by omega)
      obtain ⟨c, hc⟩ : ∃ c : Int, ((s[k]'(by omega)).toNat : Int) = c := ⟨_, rfl⟩
      obtain ⟨d, hdd⟩ : ∃ d : Int, ((s[k + 1]'hlt).toNat : Int) = d := ⟨_, rfl⟩
      rw [hc] at HC
      rw [hdd] at HD
      have hk2 : k < s.size := by omega
      by_cases hq : c = 61 ∧ d = 63
      · obtain ⟨rfl, rfl⟩ := hq
        go_wp2_with (go_at_call 9; refine hal.mono ?_; rintro e w1 ⟨rfl, hb1⟩)
        go_ret
        exact ⟨rfl, hb1⟩
      · have HN : Hid (has2 61 63 ((nums s).take (k + 1 + 1)) = false) := by
          unfold Hid; rw [has2_take HC.out HD.out, HH.out, Bool.false_or]
          by_cases h1 : c = 61
          · rw [decide_eq_true h1, Bool.true_and, decide_eq_false (fun h2 => hq ⟨h1, h2⟩)]
          · rw [decide_eq_false h1, Bool.false_and]
        by_cases h1 : c = 61
        · have h2 : (d == 63) = false := by rw [beq_eq_false_iff_ne]; exact fun h2 => hq ⟨h1, h2⟩
          have h1b : (c == 61) = true := by rw [h1]; rfl
          clear hq h1
          go_wp2
          go_roundw
          case rel => exact ⟨k + 1, by go_num, HN.out, by omega, by first | trivial | rfl⟩
          case measure => simp [intOf]; omega
        · have h1b : (c == 61) = false := by rw [beq_eq_false_iff_ne]; exact h1
          clear hq h1
          go_wp2
          go_roundw
          case rel => exact ⟨k + 1, by go_num, HN.out, by omega, by first | trivial | rfl⟩
          case measure => simp [intOf]; omega
    · have HN : Hid (has2 61 63 (nums s) = false) := by
        have := HH.out
        rw [List.take_of_length_le (by rw [nums_len]; omega)] at this
        exact this
      have hl2 : decide (((k + 1 : Nat) : Int) < (s.size : Int)) = false := decide_eq_false (by omega)
      clear hal
      go_wp2_with fail
      refine hone.mono ?_
      clear hone
      rintro e w1 ⟨x, b, rfl, hans, hb1⟩
      have hbf : b = false := by
        cases b with
        | false => rfl
        | true => have := hans.1 rfl; rw [one_not HN.out] at this; cases this
      subst hbf
      have HB1 : Hid (Below w.heap.size w w1) := hb1
      have hal := alive_any m w1 (hmV.out w1 hb1)
      clear hans hb1
      go_wp2_with fail
      refine hal.mono ?_
      clear hal
      rintro e w2 ⟨rfl, hb2⟩
      have HB2 : Hid (Below w.heap.size w w2) := HB1.out.trans (hb2.mono HB1.out.size)
      have hdec := decode_any s m w2 (by omega) (hmV.out w2 HB2.out)
      rw [decode_others HN.out, str_nums] at hdec
      have hself := eq_self s
      clear hb2 HB1
      go_wp2_with (go_at_call 16; refine hdec.mono ?_; rintro e w3 ⟨rfl, hb3⟩)
      go_ret
      exact ⟨rfl, HB2.out.trans (hb3.mono HB2.out.size)⟩

set_option maxRecDepth 100000 in
theorem lifted (os : Os) (started : os.Started) (H : Type) (enc : TypeId × Value → H) :
    ReturnsInHanded {} Tryd.checked os 8 .any (fun w args => (Rows.wordOthersSpec.pre enc Tryd.prog Tryd.f8 Rows.wordOthersRow.domain false w args ∧ laidMetH Tryd.prog Rows.wordOthersRow.laid w) ∧ sizedMet enc Tryd.prog Tryd.f8 (OpenSpec.ofChange Rows.wordOthersSpec) false w args)
      (Rows.wordOthersSpec.post enc Tryd.prog Tryd.f8 false true false false) := by
  refine step_both (C := Tryd.checked) (X := fun w _ => laidMetH Tryd.prog Rows.wordOthersRow.laid w) (fun _ _ _ hh h => h.of_heap hh) own started (by kernel_rfl) Tryd.func8
    (ChangeSpec.witness_shaped (enc := enc) (C := Tryd.checked) (os := os) (X := fun w _ => laidMetH Tryd.prog Rows.wordOthersRow.laid w) false (World.laidAll Tryd.prog os Rows.wordOthersRow.laid) #[.string ⟨#[]⟩] 8 (World.laidAll_os _ _ _)
      (World.shaped_of_ZipB (by kernel_rfl) (by kernel_rfl)) (by kernel_rfl) (by kernel_rfl) (by kernel_rfl)
      (by rw [MakeChecks.laidMetH_plain _ _ _ (by kernel_rfl)]; exact laidMet_laidAll _ (by kernel_rfl) (by kernel_rfl))) ?_
  intro W base args ds gs before hval0 hW hcnd hsh hL
  have hval : ∀ (j : Nat) t v, Tryd.f8.params[j]? = some t → args[j]? = some v → Value.okWide Tryd.prog W .any base t v := hval0
  have hW' := hW
  obtain ⟨p, q, hA0, hV, rfl, hfz, hnd⟩ := hW
  have hA : DataW.TrodAll enc Tryd.prog W 0 (fun _ => true) true Tryd.f8.params.toList args.toList ds p := hA0
  rw [Tryd.params8] at hA hval
  obtain ⟨v0, vs0, d0, ds0, p0, q0, hargs, rfl, rfl, h0, r0⟩ := trodAll_cons hA
  obtain ⟨rfl, rfl, rfl⟩ := trodAll_nil r0
  obtain rfl : args = #[v0] := by cases args; simp_all
  obtain ⟨rfl, rfl⟩ := trodVars_none hV
  have k0 := h0
  have lt0 : ∀ x ∈ p0, x.block < W.heap.size := by obtain ⟨m, hm⟩ := k0; exact DataW.trod_lt m _ _ _ hm
  obtain ⟨s0, rfl, _, _, hs0⟩ := open_string Tryd.underlying9 (hval 0 9 v0 rfl rfl) h0
  clear hA0 hval0
  obtain ⟨m, hm⟩ := shape_cell W hsh
  refine (walk s0 W hs0 m hm).mono fun e W' ⟨he, bel⟩ => ?_
  subst he
  exact ⟨_, rfl, _, _, _, [], _, [], hW', trodAll_mk1 (shut_bool Tryd.underlying4 _), (trodAll_cons_mk (Below.trod laidOut (by kernel_rfl) (of_decide_eq_true (by kernel_rfl)) k0 bel lt0) trodAll_mk0), rfl, bel.frame _, fun h => by cases h⟩

theorem over : Rows.WordOthersSaid :=
  OpenClaim.holds_of_wide 8 Tryd.f8 rfl rfl rfl rfl rfl rfl rfl ⟨rfl, rfl, rfl, rfl, rfl⟩ rfl rfl rfl rfl rfl (by kernel_rfl) Tryd.func8 (by kernel_rfl)
    (of_decide_eq_true (by kernel_rfl)) (by unfold Func.isWrapper; first | (rw [if_pos (by decide +kernel)]; kernel_rfl) | (rw [if_neg (by decide +kernel)]; exact ⟨rfl, rfl⟩))
    (fun os started H enc _ => lifted os started H enc)
end Go.Proofs.YtnhbmekhmkkccaaDoor.wordOthers
namespace Go.Proofs.YtnhbmekhmkkccaaDoor
theorem wordOthers_card : Rows.WordOthersCardSaid :=
  Claim7.holds_tied_plain_at .later [] _ _ _ _ wordOthers.over (fun _ h => by cases h) (by kernel_rfl) (fun _ h => by cases h) wordOthers_row_tie rfl ⟨rfl, rfl⟩ (by kernel_rfl) rfl
    (fun f fn hf hfn => by
      obtain rfl : f = 8 := Option.some.inj ((show Tryd.prog.funcNamed Rows.wordOthersRow.func = some 8 by kernel_rfl).symm.trans hf) |>.symm
      obtain rfl : fn = Tryd.f8 := (Option.some.inj (Tryd.func8.symm.trans hfn)).symm
      exact ⟨by kernel_rfl, fun j t ht => by
        rw [Tryd.params8] at ht
        have hm : t ∈ [9] := by simpa using Array.mem_of_getElem? ht
        have hall : ([9].all fun u => !Tryd.prog.wantsStandIn u) = true := by kernel_rfl
        exact (show Tryd.prog.wantsStandIn t = false by simpa using List.all_eq_true.1 hall t hm)⟩)
    (by kernel_rfl)
#print axioms wordOthers_card
end Go.Proofs.YtnhbmekhmkkccaaDoor
