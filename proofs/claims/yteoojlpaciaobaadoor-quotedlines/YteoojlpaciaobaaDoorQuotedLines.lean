/-
  QuotedLines: whatever the bytes: no line of what is written has more than 76 bytes, all are printable, and no line ends with a blank or a tab.
  The condition: the listed tables of the library are laid as its text lays them (the card ties them).
-/
import Derived.Test.YteoojlpaciaobaaDoorCards
import Derived.Test.YteoojlpaciaobaaDoorTie
import Derived.Test.YteoojlpaciaobaaDoorPair
import Derived.WalkKit
import Derived.ProofKit
import Derived.OpenShut
import Derived.ShutString
import Derived.ChangeOld
import Derived.Below
import Derived.LaidMore
import Derived.Lay
import Derived.SevenTiedAt
import Derived.Stop.Joined
namespace Go.Proofs.YteoojlpaciaobaaDoor.quotedLines
open Go.ChangeShapes Go.WideShapes Go.ChangeAt Go.RowKit
open Go.ChangeMaps (open_string shut_string)
set_option linter.unusedVariables false

set_option maxHeartbeats 4000000 in
theorem walk (a0 : Option Addr) (len0 cap0 : Nat) (z0 : List Int) (a1 : Bool) (w : World) (w0 : IsRow .u8 w a0 len0 cap0 z0) :
    Calls Tryd.prog 6 #[.slice a0 len0 cap0, .bool a1] w fun e w' => e = .returned (.bool true) ∧ Below w.heap.size w w' := by
  obtain ⟨l, hl, hcap, hm, hb, hrow⟩ := byte_view w0
  clear w0
  have hm' := hm
  unfold maxLen at hm'
  by_cases h4 : 4000 < len0
  · clear hl hrow
    go_enter Tryd.func6, Tryd.ntmps6
    go_wp2_with (go_at_call 9; refine (alive_any _).mono ?_; rintro e w' ⟨rfl, hb1⟩)
    go_ret
    exact ⟨rfl, by assumption⟩
  · have HL := enc_len a1 0 l
    have HQ : Hid (linesQ 0 (encQ a1 0 l) = true) := lines_enc a1 0 l hb (by omega) (by omega)
    have HE : Hid (nums (strOfNums (encQ a1 0 l)) = encQ a1 0 l) := nums_str (enc_byt a1 0 l hb)
    have HR : Hid (Row w a0 l) := hrow
    have HLN : Hid (l.length = len0) := hl
    have HBY : Hid (Byt l) := hb
    have h4' : len0 ≤ 4000 := by omega
    have hss := size_str (encQ a1 0 l)
    obtain ⟨s, hs⟩ : ∃ s, strOfNums (encQ a1 0 l) = s := ⟨_, rfl⟩
    have HS : Hid (strOfNums (encQ a1 0 l) = s) := hs
    rw [hs] at hss
    have HLS : Hid (linesQ 0 (nums s) = true) := by unfold Hid; rw [← hs, HE.out]; exact HQ.out
    have hsz : s.size ≤ 24000 := by omega
    clear hrow hb hs hss HL HE HQ hl
    go_enter Tryd.func6, Tryd.ntmps6
    go_wp2_with fail
    refine (encode_ok a0 len0 cap0 a1 l w HLN.out HBY.out hcap hm (by omega) HR.out).mono ?_
    rintro e w1 ⟨rfl, hb1⟩
    rw [HS.out]
    obtain ⟨cap, w2, hconv, hc1, hm1, hr1, hb2⟩ := conv_bytes s w1 (by unfold maxLen; omega)
    have HR1 : Hid (Row w2 (some ⟨w1.heap.size, 0, none⟩) (nums s)) := hr1
    have HB1 : Hid (Below w.heap.size w w2) := hb1.trans (hb2.mono hb1.size)
    have HSL : Hid ((nums s).length = s.size) := nums_len s
    clear hr1 hb1 hb2
    go_wp2
    go_loopw [7, 9] (fun n i wr => ∃ (k m : Nat), i = .int .i64 k ∧ n = .int .i64 m ∧ k ≤ s.size ∧ m ≤ 76 ∧ linesQ m ((nums s).drop k) = true ∧ w2 = wr) (fun _ i _ => s.size - (intOf i).toNat)
    case atStart => exact ⟨0, 0, rfl, rfl, by omega, by omega, HLS.out, rfl⟩
    case round =>
      obtain ⟨k, m, rfl, rfl, hk, hmm, hpl, rfl⟩ := hrel
      have HPL : Hid (linesQ m ((nums s).drop k) = true) := hpl
      clear hpl
      by_cases hlt : k < s.size
      · obtain ⟨c, r, hd⟩ : ∃ c r, (nums s).drop k = c :: r := ⟨_, _, nums_drop s k hlt⟩
        obtain ⟨b, off, hab, hcell, _⟩ := row_at HR1.out hd
        simp only [Option.some.injEq, Addr.mk.injEq] at hab
        obtain ⟨rfl, rfl, _⟩ := hab
        rw [Nat.zero_add] at hcell
        have hrl : r.length + 1 + k = s.size := by
          have := congrArg List.length hd
          rw [List.length_drop, nums_len] at this
          simp at this; omega
        have HD : Hid ((nums s).drop k = c :: r) := hd
        clear hd
        cases hp : pairQ (c :: r) with
        | true =>
          have hpx : pairQ ((nums s).drop k) = true := by rw [HD.out]; exact hp
          obtain ⟨r', hr⟩ := pairQ_two hp
          have hk2 : k + 2 ≤ s.size := by
            have := congrArg List.length HD.out
            rw [hr, List.length_drop, nums_len] at this
            simp at this; omega
          have h13 : c = 13 := by simp at hr; exact hr.1
          have HN : Hid (linesQ ((0 : Nat) : Int) ((nums s).drop (k + 2)) = true) := by
            have e2 : (nums s).drop (k + 2) = r' := by rw [← List.drop_drop, HD.out, hr]; rfl
            unfold Hid; rw [e2]; show linesQ 0 r' = true; rw [← lines_pair m r', ← hr, ← HD.out]; exact HPL.out
          clear hp hr
          subst h13
          go_wp2_with (go_at_call 16; refine (pair_any _ _ _ k (nums s) _ HSL.out hc1 hm1 (by omega) (by omega) HR1.out).mono ?_; rintro e w' ⟨rfl, rfl⟩; rw [hpx])
          go_roundw
          case rel => exact ⟨k + 2, 0, by go_num, by first | rfl | go_num, by omega, by omega, HN.out, trivial⟩
          case measure => simp [intOf]; omega
        | false =>
          have hpx : pairQ ((nums s).drop k) = false := by rw [HD.out]; exact hp
          have e1 : (nums s).drop (k + 1) = r := by rw [← List.drop_drop, HD.out]; rfl
          have hq := HPL.out
          rw [HD.out, lines_cons hp, Bool.and_eq_true, Bool.and_eq_true, decide_eq_true_eq, Bool.not_eq_true'] at hq
          obtain ⟨⟨⟨h1, h2, h3⟩, h5⟩, h6⟩ := hq
          have HN : Hid (linesQ ((m + 1 : Nat) : Int) ((nums s).drop (k + 1)) = true) := by unfold Hid; rw [e1]; exact h6
          clear hp h6
          rcases (show c = 32 ∨ c = 9 ∨ 33 ≤ c from by omega) with rfl | rfl | h33
          · have hla : lastQ r = false := by simpa using h5
            have hr0 : r ≠ [] := by rintro rfl; simp [lastQ] at hla
            have hrl0 : 0 < r.length := List.length_pos_iff.2 hr0
            have hne : ((k : Int) + 1 == (s.size : Int)) = false := by rw [beq_eq_false_iff_ne]; omega
            have hpx1 : pairQ ((nums s).drop (k + 1)) = false := by
              rw [e1]
              simp only [lastQ, Bool.or_eq_false_iff] at hla
              exact hla.2
            clear h5 hla hr0 e1
            go_wp2_with (first
              | (go_at_call_of 16 (Value.int IntKind.i64 (k : Int)); refine (pair_any _ _ _ k (nums s) _ HSL.out hc1 hm1 (by omega) (by omega) HR1.out).mono ?_; rintro e w' ⟨rfl, rfl⟩; rw [hpx])
              | (go_at_call 16; refine (pair_next _ _ _ k (nums s) _ HSL.out hc1 hm1 (by omega) (by omega) HR1.out).mono ?_; rintro e w' ⟨rfl, rfl⟩; rw [hpx1]))
            go_roundw
            case rel => exact ⟨k + 1, m + 1, by go_num, by go_num, by omega, by omega, HN.out, trivial⟩
            case measure => simp [intOf]; omega
          · have hla : lastQ r = false := by simpa using h5
            have hr0 : r ≠ [] := by rintro rfl; simp [lastQ] at hla
            have hrl0 : 0 < r.length := List.length_pos_iff.2 hr0
            have hne : ((k : Int) + 1 == (s.size : Int)) = false := by rw [beq_eq_false_iff_ne]; omega
            have hpx1 : pairQ ((nums s).drop (k + 1)) = false := by
              rw [e1]
              simp only [lastQ, Bool.or_eq_false_iff] at hla
              exact hla.2
            clear h5 hla hr0 e1
            go_wp2_with (first
              | (go_at_call_of 16 (Value.int IntKind.i64 (k : Int)); refine (pair_any _ _ _ k (nums s) _ HSL.out hc1 hm1 (by omega) (by omega) HR1.out).mono ?_; rintro e w' ⟨rfl, rfl⟩; rw [hpx])
              | (go_at_call 16; refine (pair_next _ _ _ k (nums s) _ HSL.out hc1 hm1 (by omega) (by omega) HR1.out).mono ?_; rintro e w' ⟨rfl, rfl⟩; rw [hpx1]))
            go_roundw
            case rel => exact ⟨k + 1, m + 1, by go_num, by go_num, by omega, by omega, HN.out, trivial⟩
            case measure => simp [intOf]; omega
          · have hb32 : (c == 32) = false := by rw [beq_eq_false_iff_ne]; omega
            have hb9 : (c == 9) = false := by rw [beq_eq_false_iff_ne]; omega
            clear h5 h3 e1
            go_wp2_with (go_at_call 16; refine (pair_any _ _ _ k (nums s) _ HSL.out hc1 hm1 (by omega) (by omega) HR1.out).mono ?_; rintro e w' ⟨rfl, rfl⟩; rw [hpx])
            go_roundw
            case rel => exact ⟨k + 1, m + 1, by go_num, by go_num, by omega, by omega, HN.out, trivial⟩
            case measure => simp [intOf]; omega
      · obtain rfl : k = s.size := by omega
        go_wp2_with (go_at_call 9; refine (alive_any _).mono ?_; rintro e w' ⟨rfl, hb1⟩)
        go_ret
        exact ⟨rfl, HB1.out.trans (hb1.mono HB1.out.size)⟩

set_option maxRecDepth 100000 in
theorem lifted (os : Os) (started : os.Started) (H : Type) (enc : TypeId × Value → H) :
    ReturnsInHanded {} Tryd.checked os 6 .any (fun w args => (Rows.quotedLinesSpec.pre enc Tryd.prog Tryd.f6 Rows.quotedLinesRow.domain false w args ∧ laidMetH Tryd.prog Rows.quotedLinesRow.laid w) ∧ sizedMet enc Tryd.prog Tryd.f6 (OpenSpec.ofChange Rows.quotedLinesSpec) false w args)
      (Rows.quotedLinesSpec.post enc Tryd.prog Tryd.f6 false true false false) := by
  refine returnsInHanded_of_change_and (C := Tryd.checked) (X := fun w _ => laidMetH Tryd.prog Rows.quotedLinesRow.laid w) (fun _ _ _ hh h => h.of_heap hh) own started (by kernel_rfl) Tryd.func6
    (ChangeSpec.witness_shaped (enc := enc) (C := Tryd.checked) (os := os) (X := fun w _ => laidMetH Tryd.prog Rows.quotedLinesRow.laid w) false (World.laidAll Tryd.prog os Rows.quotedLinesRow.laid) #[.slice none 0 0, .bool false] 8 (World.laidAll_os _ _ _)
      (World.shaped_of_ZipB (by kernel_rfl) (by kernel_rfl)) (by kernel_rfl) (by kernel_rfl) (by kernel_rfl)
      (by rw [MakeChecks.laidMetH_plain _ _ _ (by kernel_rfl)]; exact laidMet_laidAll _ (by kernel_rfl) (by kernel_rfl))) ?_
  intro W base args ds gs before hval0 hW hcnd _ hL _
  have hval : ∀ (j : Nat) t v, Tryd.f6.params[j]? = some t → args[j]? = some v → Value.okWide Tryd.prog W .any base t v := hval0
  have hW' := hW
  obtain ⟨p, q, hA0, hV, rfl, hfz, hnd⟩ := hW
  have hA : DataW.TrodAll enc Tryd.prog W 0 (fun _ => true) true Tryd.f6.params.toList args.toList ds p := hA0
  rw [Tryd.params6] at hA hval
  obtain ⟨v0, vs0, d0, ds0, p0, q0, hargs, rfl, rfl, h0, r0⟩ := trodAll_cons hA
  obtain ⟨v1, vs1, d1, ds1, p1, q1, rfl, rfl, rfl, h1, r1⟩ := trodAll_cons r0
  obtain ⟨rfl, rfl, rfl⟩ := trodAll_nil r1
  obtain rfl : args = #[v0, v1] := by cases args; simp_all
  obtain ⟨rfl, rfl⟩ := trodVars_none hV
  obtain ⟨a0, len0, cap0, rfl⟩ := okWide_slice Tryd.underlying22 (hval 0 22 v0 rfl rfl)
  have k0 := h0
  have lt0 : ∀ x ∈ p0, x.block < W.heap.size := by obtain ⟨m, hm⟩ := k0; exact DataW.trod_lt m _ _ _ hm
  obtain ⟨z0, w0⟩ : ∃ zs, IsRow .u8 W a0 len0 cap0 zs := by
    obtain ⟨fuel, hf⟩ := h0
    rcases open_ints Tryd.underlying22 Tryd.underlying5 (by kernel_rfl) hf with ⟨hcs, _⟩ | ⟨x, l, c, zs, hcs, _, hl, hm, hz, _, hcell, hwz⟩
    · simp [Value.cells] at hcs
      obtain ⟨rfl, rfl, rfl⟩ := hcs
      exact ⟨[], .inl ⟨rfl, rfl, rfl, rfl⟩⟩
    · simp [Value.cells] at hcs
      obtain ⟨rfl, rfl, rfl⟩ := hcs
      exact ⟨zs, .inr ⟨_, rfl, hl, hm, by simpa using hz, hcell, hwz⟩⟩
  obtain ⟨a1, rfl, rfl, rfl⟩ := open_bool Tryd.underlying4 (hval 1 4 v1 rfl rfl) h1
  clear hA0 hval0
  refine (walk a0 len0 cap0 z0 a1 W w0).mono fun e W' ⟨he, bel⟩ => ?_
  subst he
  exact ⟨_, rfl, _, _, _, [], _, [], hW', trodAll_mk1 (shut_bool Tryd.underlying4 _), (trodAll_cons_mk (Below.trod laidOut (by kernel_rfl) (of_decide_eq_true (by kernel_rfl)) k0 bel lt0) (trodAll_cons_mk (shut_bool Tryd.underlying4 _) trodAll_mk0)), rfl, bel.frame _, fun h => by cases h⟩


theorem over : Rows.QuotedLinesSaid :=
  OpenClaim.holds_of_wide 6 Tryd.f6 rfl rfl rfl rfl rfl rfl rfl ⟨rfl, rfl, rfl, rfl, rfl⟩ rfl rfl rfl rfl rfl (by kernel_rfl) Tryd.func6 (by kernel_rfl)
    (of_decide_eq_true (by kernel_rfl)) (by unfold Func.isWrapper; first | (rw [if_pos (by decide +kernel)]; kernel_rfl) | (rw [if_neg (by decide +kernel)]; exact ⟨rfl, rfl⟩))
    (fun os started H enc _ => lifted os started H enc)
end Go.Proofs.YteoojlpaciaobaaDoor.quotedLines
namespace Go.Proofs.YteoojlpaciaobaaDoor
theorem quotedLines_card : Rows.QuotedLinesCardSaid :=
  Claim7.holds_tied_plain_at .later [] _ _ _ _ quotedLines.over (fun _ h => by cases h) (by kernel_rfl) (fun _ h => by cases h) quotedLines_row_tie rfl ⟨rfl, rfl⟩ (by kernel_rfl) rfl
    (fun f fn hf hfn => by
      obtain rfl : f = 6 := Option.some.inj ((show Tryd.prog.funcNamed Rows.quotedLinesRow.func = some 6 by kernel_rfl).symm.trans hf) |>.symm
      obtain rfl : fn = Tryd.f6 := (Option.some.inj (Tryd.func6.symm.trans hfn)).symm
      exact ⟨by kernel_rfl, fun j t ht => by
        rw [Tryd.params6] at ht
        have hm : t ∈ [22, 4] := by simpa using Array.mem_of_getElem? ht
        have hall : ([22, 4].all fun u => !Tryd.prog.wantsStandIn u) = true := by kernel_rfl
        exact (show Tryd.prog.wantsStandIn t = false by simpa using List.all_eq_true.1 hall t hm)⟩)
    (by kernel_rfl)
#print axioms quotedLines_card
end Go.Proofs.YteoojlpaciaobaaDoor
