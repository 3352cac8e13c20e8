/-
  For every text: what is written is printable, and, if it is not as it was, each of its words has at most 75 bytes, and is read; no condition but what the row lists.
-/
import Derived.Test.YtnhbmekhmkkccaaDoorCards
import Derived.Test.YtnhbmekhmkkccaaDoorTie
import Derived.Test.YtnhbmekhmkkccaaDoorSh
import Derived.WalkKit
import Derived.ProofKit
import Derived.OpenShut
import Derived.ShutString
import Derived.ChangeOld
import Derived.Below
import Derived.LaidMore
import Derived.Lay
import Derived.SevenTiedAt
import Derived.Stop.Joined
namespace Go.Proofs.YtnhbmekhmkkccaaDoor.wordShort
open Go.ChangeShapes Go.WideShapes Go.ChangeAt Go.RowKit
open Go.ChangeMaps (open_string shut_string)
set_option linter.unusedVariables false

theorem eq_self (s : ByteArray) : (s.toList == s.toList) = true := by simp
theorem ne_list {s t : ByteArray} (h : nums s ≠ nums t) : ¬ s.toList = t.toList ∧ (s.toList == t.toList) = false := by
  have := eq_nums s t
  rw [decide_eq_false h] at this
  exact ⟨by simpa using this, this⟩
theorem take_sub {l : List Int} {f k : Nat} {c : Int} (hf : f ≤ k) (h : l[k]? = some c) : (l.drop f).take (k + 1 - f) = (l.drop f).take (k - f) ++ [c] := by
  rw [show k + 1 - f = (k - f) + 1 by omega, List.take_add_one, List.getElem?_drop, show f + (k - f) = k by omega, h]; rfl
theorem drop_sub {l : List Int} {f k : Nat} {c : Int} (hf : f ≤ k) (h : l[k]? = some c) : l.drop f = (l.drop f).take (k - f) ++ c :: l.drop (k + 1) := by
  conv => lhs; rw [← List.take_append_drop (k - f) (l.drop f), List.drop_drop, show f + (k - f) = k by omega]
  congr 1
  obtain ⟨hk, e⟩ := List.getElem?_eq_some_iff.1 h
  rw [List.drop_eq_getElem_cons hk, e]
def Gd (p : List Int) : Prop := p.length ≤ 75 ∧ (oneR p).isSome = true
set_option maxHeartbeats 4000000 in
set_option maxRecDepth 100000 in
theorem walk_same (s : ByteArray) (w : World) (m : Int) (hm : w.cell? ⟨0, 0, none⟩ = some (.int .i64 m)) (hs : s.size ≤ 3000) (hpr : Prt (nums s))
    (henc : Calls Tryd.prog 10 #[.string s] w fun e w' => e = .returned (.tuple #[.string s, .int .i64 0]) ∧ Below w.heap.size w w') :
    Calls Tryd.prog 6 #[.string s] w fun e w' => e = .returned (.bool true) ∧ Below w.heap.size w w' := by
  have hd : decide ((s.size : Int) > 3000) = false := decide_eq_false (by omega)
  have hmV : Hid (∀ V, Below w.heap.size w V → V.cell? ⟨0, 0, none⟩ = some (.int .i64 m)) := fun V hb => (hb.cell (World.block_lt_of_cell? w _ hm)).trans hm
  have hself := eq_self s
  have HPR : Hid (Prt (nums s)) := hpr
  clear hm hpr
  go_enter Tryd.func6, Tryd.ntmps6
  go_wp2_with fail
  refine henc.mono ?_
  clear henc
  rintro e w1 ⟨rfl, hb1⟩
  have HB0 : Hid (Below w.heap.size w w1) := hb1
  clear hb1
  go_wp2
  go_loopw [6] (fun i wr => ∃ k : Nat, i = .int .i64 k ∧ k ≤ s.size + 1 ∧ w1 = wr) (fun i _ => s.size + 1 - (intOf i).toNat)
  case atStart => exact ⟨0, rfl, by omega, rfl⟩
  case round =>
    obtain ⟨k, rfl, hk, rfl⟩ := hrel
    by_cases hle : k ≤ s.size
    · have hl1 : decide ((k : Int) ≤ (s.size : Int)) = true := decide_eq_true (by omega)
      by_cases hlt : k < s.size
      · have hl2 : decide ((k : Int) < (s.size : Int)) = true := decide_eq_true (by omega)
        have hcp := HPR.out (s[k].toNat : Int) (List.mem_of_getElem? (nums_at s k hlt))
        obtain ⟨c, hc⟩ : ∃ c : Int, ((s[k]'hlt).toNat : Int) = c := ⟨_, rfl⟩
        rw [hc] at hcp
        have hc1 : decide (c < 32) = false := decide_eq_false (by omega)
        have hc2 : decide (c > 126) = false := decide_eq_false (by omega)
        go_wp2
        go_roundw
        case rel => exact ⟨k + 1, by go_num, by omega, by first | trivial | rfl⟩
        case measure => simp [intOf]; omega
      · have hl2 : decide ((k : Int) < (s.size : Int)) = false := decide_eq_false (by omega)
        go_wp2
        go_roundw
        case rel => exact ⟨k + 1, by go_num, by omega, by first | trivial | rfl⟩
        case measure => simp [intOf]; omega
    · have hl1 : decide ((k : Int) ≤ (s.size : Int)) = false := decide_eq_false (by omega)
      have hal := alive_any m w1 (hmV.out w1 HB0.out)
      go_wp2_with fail
      refine hal.mono ?_
      clear hal
      rintro e w2 ⟨rfl, hb2⟩
      have HB2 : Hid (Below w.heap.size w w2) := HB0.out.trans (hb2.mono HB0.out.size)
      have hp1 := plain_any s m w2 (by omega) (hmV.out w2 HB2.out)
      generalize plainZ (nums s) = pz at hp1
      clear hb2
      go_wp2_with (go_at_call 12; refine hp1.mono ?_; rintro e w' ⟨rfl, rfl⟩)
      go_ret
      exact ⟨by first | rfl | (cases pz <;> rfl) | simp, HB2.out⟩
set_option maxHeartbeats 8000000 in
set_option maxRecDepth 100000 in
theorem walk_diff (s x : ByteArray) (w : World) (m : Int) (hm : w.cell? ⟨0, 0, none⟩ = some (.int .i64 m)) (hs : s.size ≤ 3000) (hx : x.size ≤ 1000000) (hpr : Prt (nums x)) (hne : nums x ≠ nums s) (hpz : plainZ (nums s) = false) (hg : ∀ p ∈ pieces 32 (nums x), Gd p)
    (henc : Calls Tryd.prog 10 #[.string s] w fun e w' => e = .returned (.tuple #[.string x, .int .i64 0]) ∧ Below w.heap.size w w') :
    Calls Tryd.prog 6 #[.string s] w fun e w' => e = .returned (.bool true) ∧ Below w.heap.size w w' := by
  have hd : decide ((s.size : Int) > 3000) = false := decide_eq_false (by omega)
  have hmV : Hid (∀ V, Below w.heap.size w V → V.cell? ⟨0, 0, none⟩ = some (.int .i64 m)) := fun V hb => (hb.cell (World.block_lt_of_cell? w _ hm)).trans hm
  obtain ⟨hn1, hn2⟩ := ne_list hne
  have HPR : Hid (Prt (nums x)) := hpr
  have HG : Hid (∀ p ∈ pieces 32 (nums x), Gd p) := hg
  clear hm hpr hg hne
  go_enter Tryd.func6, Tryd.ntmps6
  go_wp2_with fail
  refine henc.mono ?_
  clear henc
  rintro e w1 ⟨rfl, hb1⟩
  have HB0 : Hid (Below w.heap.size w w1) := hb1
  clear hb1
  go_wp2
  go_loopw [5, 6] (fun a i wr => ∃ k f : Nat, i = .int .i64 k ∧ a = .int .i64 f ∧ f ≤ k ∧ k ≤ x.size + 1 ∧ (32 : Int) ∉ ((nums x).drop f).take (k - f) ∧ (f ≤ x.size → ∀ p ∈ pieces 32 ((nums x).drop f), Gd p) ∧ Below w.heap.size w wr) (fun _ i _ => x.size + 1 - (intOf i).toNat)
  case atStart => exact ⟨0, 0, rfl, rfl, by omega, by omega, by simp, fun _ => by rw [List.drop_zero]; exact HG.out, HB0.out⟩
  case round =>
    obtain ⟨k, f, rfl, rfl, hfk, hk, h32, hgd, hbw⟩ := hrel
    have HW : Hid (Below w.heap.size w wr) := hbw
    have H32 : Hid ((32 : Int) ∉ ((nums x).drop f).take (k - f)) := h32
    have HGD : Hid (f ≤ x.size → ∀ p ∈ pieces 32 ((nums x).drop f), Gd p) := hgd
    clear hbw h32 hgd HG HB0
    by_cases hle : k ≤ x.size
    · have hl1 : decide ((k : Int) ≤ (x.size : Int)) = true := decide_eq_true (by omega)
      have sl1 : (f : Int) ≤ (k : Int) := by omega
      have sl2 : (k : Int) ≤ (x.size : Int) := by omega
      have sl3 : (0 : Int) ≤ (f : Int) := by omega
      have hexz : (x.extract f k).size ≤ 1000000 := by rw [← nums_len, nums_extract, List.length_take, List.length_drop, nums_len]; omega
      have hone := one_any (x.extract f k) m wr (by omega) (hmV.out wr HW.out)
      rw [nums_extract] at hone
      by_cases hlt : k < x.size
      · have hl2 : decide ((k : Int) < (x.size : Int)) = true := decide_eq_true (by omega)
        have hl3 : ((k : Int) == (x.size : Int)) = false := by rw [beq_eq_false_iff_ne]; omega
        have HN : Hid ((nums x)[k]? = some (x[k].toNat : Int)) := nums_at x k hlt
        have hcp := HPR.out (x[k].toNat : Int) (List.mem_of_getElem? (nums_at x k hlt))
        obtain ⟨c, hc⟩ : ∃ c : Int, ((x[k]'hlt).toNat : Int) = c := ⟨_, rfl⟩
        rw [hc] at hcp HN
        have hc1 : decide (c < 32) = false := decide_eq_false (by omega)
        have hc2 : decide (c > 126) = false := decide_eq_false (by omega)
        by_cases hb : c = 32
        · subst hb
          have hpc : ∀ p ∈ ((nums x).drop f).take (k - f) :: pieces 32 ((nums x).drop (k + 1)), Gd p := by
            have h1 := HGD.out (by omega)
            rw [drop_sub hfk HN.out, pieces_app _ H32.out] at h1
            exact h1
          have hp := hpc (((nums x).drop f).take (k - f)) (by simp)
          have HPC : Hid (∀ p ∈ pieces 32 ((nums x).drop (k + 1)), Gd p) := fun p hp => hpc p (List.mem_cons_of_mem _ hp)
          have hpl : k - f ≤ 75 := by
            have := hp.1
            rw [List.length_take, List.length_drop, nums_len] at this; omega
          have HP2 : Hid ((oneR (((nums x).drop f).take (k - f))).isSome = true) := hp.2
          have hl5 : decide ((k : Int) - (f : Int) > 75) = false := decide_eq_false (by omega)
          clear hpc hp
          go_wp2_with fail
          refine hone.mono ?_
          clear hone
          rintro e w2 ⟨y, b, rfl, hans, hb2⟩
          have hbt : b = true := by
            cases b with
            | true => rfl
            | false => have := HP2.out; rw [(hans.2 rfl).1] at this; cases this
          subst hbt
          have HB2 : Hid (Below w.heap.size w w2) := HW.out.trans (hb2.mono HW.out.size)
          clear hans hb2
          go_wp2
          go_roundw
          case rel => exact ⟨k + 1, k + 1, by go_num, by go_num, by omega, by omega, by simp, fun _ => HPC.out, HB2.out⟩
          case measure => simp [intOf]; omega
        · have hcb : (c == 32) = false := by rw [beq_eq_false_iff_ne]; exact hb
          have H33 : Hid ((32 : Int) ∉ ((nums x).drop f).take (k + 1 - f)) := by
            unfold Hid; rw [take_sub hfk HN.out]
            simp only [List.mem_append, List.mem_singleton, not_or]
            exact ⟨H32.out, fun e => hb e.symm⟩
          clear hone
          go_wp2
          go_roundw
          case rel => exact ⟨k + 1, f, by go_num, rfl, by omega, by omega, H33.out, HGD.out, HW.out⟩
          case measure => simp [intOf]; omega
      · obtain rfl : k = x.size := by omega
        have hl2 : decide ((x.size : Int) < (x.size : Int)) = false := decide_eq_false (by omega)
        have hl3 : ((x.size : Int) == (x.size : Int)) = true := by simp
        have hall : ((nums x).drop f).take (x.size - f) = (nums x).drop f := List.take_of_length_le (by rw [List.length_drop, nums_len]; omega)
        have hp : Gd (((nums x).drop f).take (x.size - f)) := by
          have h1 := HGD.out (by omega)
          have h2 := H32.out
          rw [hall] at h2 ⊢
          rw [pieces_none h2] at h1
          exact h1 _ (by simp)
        have hpl : x.size - f ≤ 75 := by
          have := hp.1
          rw [List.length_take, List.length_drop, nums_len] at this; omega
        have HP2 : Hid ((oneR (((nums x).drop f).take (x.size - f))).isSome = true) := hp.2
        have hl5 : decide ((x.size : Int) - (f : Int) > 75) = false := decide_eq_false (by omega)
        clear hp hall
        go_wp2_with fail
        refine hone.mono ?_
        clear hone
        rintro e w2 ⟨y, b, rfl, hans, hb2⟩
        have hbt : b = true := by
          cases b with
          | true => rfl
          | false => have := HP2.out; rw [(hans.2 rfl).1] at this; cases this
        subst hbt
        have HB2 : Hid (Below w.heap.size w w2) := HW.out.trans (hb2.mono HW.out.size)
        clear hans hb2
        go_wp2
        go_roundw
        case rel => exact ⟨x.size + 1, x.size + 1, by go_num, by go_num, by omega, by omega, by simp, fun h => by omega, HB2.out⟩
        case measure => simp [intOf] <;> omega
    · have hl1 : decide ((k : Int) ≤ (x.size : Int)) = false := decide_eq_false (by omega)
      have hal := alive_any m wr (hmV.out wr HW.out)
      go_wp2_with fail
      refine hal.mono ?_
      clear hal
      rintro e w2 ⟨rfl, hb2⟩
      have HB2 : Hid (Below w.heap.size w w2) := HW.out.trans (hb2.mono HW.out.size)
      have hp1 := plain_any s m w2 (by omega) (hmV.out w2 HB2.out)
      rw [hpz] at hp1
      clear hb2 hpz
      go_wp2_with (go_at_call 12; refine hp1.mono ?_; rintro e w' ⟨rfl, rfl⟩)
      go_ret
      exact ⟨rfl, HB2.out⟩
set_option maxHeartbeats 4000000 in
set_option maxRecDepth 100000 in
theorem walk (s : ByteArray) (w : World) (hs : s.size ≤ maxLen) (m : Int) (hm : w.cell? ⟨0, 0, none⟩ = some (.int .i64 m)) :
    Calls Tryd.prog 6 #[.string s] w fun e w' => e = .returned (.bool true) ∧ Below w.heap.size w w' := by
  have hal := alive_any m w hm
  by_cases hlong : 3000 < s.size
  · have hd : decide ((s.size : Int) > 3000) = true := decide_eq_true (by omega)
    go_enter Tryd.func6, Tryd.ntmps6
    go_wp2_with (go_at_call 9; refine hal.mono ?_; rintro e w1 ⟨rfl, hb1⟩)
    go_ret
    exact ⟨rfl, hb1⟩
  have hd : decide ((s.size : Int) > 3000) = false := decide_eq_false (by omega)
  have henc := encode_any s m w hm
  cases hv : validZ (nums s) with
  | false =>
    have hA : encA (nums s) = ([], 20) := by unfold encA; rw [if_neg (by rw [nums_len]; omega), if_pos hv]
    rw [hA, show strOfNums [] = (⟨#[]⟩ : ByteArray) from rfl] at henc
    have hmV : Hid (∀ V, Below w.heap.size w V → V.cell? ⟨0, 0, none⟩ = some (.int .i64 m)) := fun V hb => (hb.cell (World.block_lt_of_cell? w _ hm)).trans hm
    clear hA hal hm
    go_enter Tryd.func6, Tryd.ntmps6
    go_wp2_with fail
    refine henc.mono ?_
    clear henc
    rintro e w1 ⟨rfl, hb1⟩
    have HB1 : Hid (Below w.heap.size w w1) := hb1
    have hal := alive_any m w1 (hmV.out w1 hb1)
    clear hb1
    go_wp2_with (go_at_call 9; refine hal.mono ?_; rintro e w2 ⟨rfl, hb2⟩)
    go_ret
    exact ⟨rfl, HB1.out.trans (hb2.mono HB1.out.size)⟩
  | true =>
    have hA : encA (nums s) = (encL (nums s), 0) := by unfold encA; rw [if_neg (by rw [nums_len]; omega), if_neg (by rw [hv]; simp)]
    rw [hA] at henc
    by_cases he : encL (nums s) = nums s
    · simp only [he, str_nums] at henc
      exact walk_same s w m hm (by omega) (by rw [← he]; exact prt_enc _) henc
    · have hx : nums (strOfNums (encL (nums s))) = encL (nums s) := nums_str (enc_byt hv)
      have hl := enc_len (n := 3000) (nums_byt s) hv (by rw [nums_len]; omega)
      refine walk_diff s (strOfNums (encL (nums s))) w m hm (by omega) (by rw [← nums_len, hx]; omega) (by rw [hx]; exact prt_enc _) (by rw [hx]; exact he) ?_ (by rw [hx]; exact enc_pieces (nums_byt s) hv he) henc
      cases hp : plainZ (nums s) with
      | false => rfl
      | true => exact absurd (by unfold encL; rw [if_pos (.inr hp)]) he

set_option maxRecDepth 100000 in
theorem lifted (os : Os) (started : os.Started) (H : Type) (enc : TypeId × Value → H) :
    ReturnsInHanded {} Tryd.checked os 6 .any (fun w args => (Rows.wordShortSpec.pre enc Tryd.prog Tryd.f6 Rows.wordShortRow.domain false w args ∧ laidMetH Tryd.prog Rows.wordShortRow.laid w) ∧ sizedMet enc Tryd.prog Tryd.f6 (OpenSpec.ofChange Rows.wordShortSpec) false w args)
      (Rows.wordShortSpec.post enc Tryd.prog Tryd.f6 false true false false) := by
  refine step_both (C := Tryd.checked) (X := fun w _ => laidMetH Tryd.prog Rows.wordShortRow.laid w) (fun _ _ _ hh h => h.of_heap hh) own started (by kernel_rfl) Tryd.func6
    (ChangeSpec.witness_shaped (enc := enc) (C := Tryd.checked) (os := os) (X := fun w _ => laidMetH Tryd.prog Rows.wordShortRow.laid w) false (World.laidAll Tryd.prog os Rows.wordShortRow.laid) #[.string ⟨#[]⟩] 8 (World.laidAll_os _ _ _)
      (World.shaped_of_ZipB (by kernel_rfl) (by kernel_rfl)) (by kernel_rfl) (by kernel_rfl) (by kernel_rfl)
      (by rw [MakeChecks.laidMetH_plain _ _ _ (by kernel_rfl)]; exact laidMet_laidAll _ (by kernel_rfl) (by kernel_rfl))) ?_
  intro W base args ds gs before hval0 hW hcnd hsh hL
  have hval : ∀ (j : Nat) t v, Tryd.f6.params[j]? = some t → args[j]? = some v → Value.okWide Tryd.prog W .any base t v := hval0
  have hW' := hW
  obtain ⟨p, q, hA0, hV, rfl, hfz, hnd⟩ := hW
  have hA : DataW.TrodAll enc Tryd.prog W 0 (fun _ => true) true Tryd.f6.params.toList args.toList ds p := hA0
  rw [Tryd.params6] at hA hval
  obtain ⟨v0, vs0, d0, ds0, p0, q0, hargs, rfl, rfl, h0, r0⟩ := trodAll_cons hA
  obtain ⟨rfl, rfl, rfl⟩ := trodAll_nil r0
  obtain rfl : args = #[v0] := by cases args; simp_all
  obtain ⟨rfl, rfl⟩ := trodVars_none hV
  have k0 := h0
  have lt0 : ∀ x ∈ p0, x.block < W.heap.size := by obtain ⟨m, hm⟩ := k0; exact DataW.trod_lt m _ _ _ hm
  obtain ⟨s0, rfl, _, _, hs0⟩ := open_string Tryd.underlying9 (hval 0 9 v0 rfl rfl) h0
  clear hA0 hval0
  obtain ⟨m, hm⟩ := shape_cell W hsh
  refine (walk s0 W hs0 m hm).mono fun e W' ⟨he, bel⟩ => ?_
  subst he
  exact ⟨_, rfl, _, _, _, [], _, [], hW', trodAll_mk1 (shut_bool Tryd.underlying4 _), (trodAll_cons_mk (Below.trod laidOut (by kernel_rfl) (of_decide_eq_true (by kernel_rfl)) k0 bel lt0) trodAll_mk0), rfl, bel.frame _, fun h => by cases h⟩

theorem over : Rows.WordShortSaid :=
  OpenClaim.holds_of_wide 6 Tryd.f6 rfl rfl rfl rfl rfl rfl rfl ⟨rfl, rfl, rfl, rfl, rfl⟩ rfl rfl rfl rfl rfl (by kernel_rfl) Tryd.func6 (by kernel_rfl)
    (of_decide_eq_true (by kernel_rfl)) (by unfold Func.isWrapper; first | (rw [if_pos (by decide +kernel)]; kernel_rfl) | (rw [if_neg (by decide +kernel)]; exact ⟨rfl, rfl⟩))
    (fun os started H enc _ => lifted os started H enc)
end Go.Proofs.YtnhbmekhmkkccaaDoor.wordShort
namespace Go.Proofs.YtnhbmekhmkkccaaDoor
theorem wordShort_card : Rows.WordShortCardSaid :=
  Claim7.holds_tied_plain_at .later [] _ _ _ _ wordShort.over (fun _ h => by cases h) (by kernel_rfl) (fun _ h => by cases h) wordShort_row_tie rfl ⟨rfl, rfl⟩ (by kernel_rfl) rfl
    (fun f fn hf hfn => by
      obtain rfl : f = 6 := Option.some.inj ((show Tryd.prog.funcNamed Rows.wordShortRow.func = some 6 by kernel_rfl).symm.trans hf) |>.symm
      obtain rfl : fn = Tryd.f6 := (Option.some.inj (Tryd.func6.symm.trans hfn)).symm
      exact ⟨by kernel_rfl, fun j t ht => by
        rw [Tryd.params6] at ht
        have hm : t ∈ [9] := by simpa using Array.mem_of_getElem? ht
        have hall : ([9].all fun u => !Tryd.prog.wantsStandIn u) = true := by kernel_rfl
        exact (show Tryd.prog.wantsStandIn t = false by simpa using List.all_eq_true.1 hall t hm)⟩)
    (by kernel_rfl)
#print axioms wordShort_card
end Go.Proofs.YtnhbmekhmkkccaaDoor
