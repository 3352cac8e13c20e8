/-
  QuotedPlain: whatever the text: if it is of printable bytes without =, and its lines are short, it is written as it is.
  The condition: the listed tables of the library are laid as its text lays them (the card ties them).
-/
import Derived.Test.YteoojlpaciaobaaDoorCards
import Derived.Test.YteoojlpaciaobaaDoorTie
import Derived.Test.YteoojlpaciaobaaDoorPair
import Derived.WalkKit
import Derived.ProofKit
import Derived.OpenShut
import Derived.ShutString
import Derived.ChangeOld
import Derived.Below
import Derived.LaidMore
import Derived.Lay
import Derived.SevenTiedAt
import Derived.Stop.Joined
namespace Go.Proofs.YteoojlpaciaobaaDoor.quotedPlain
open Go.ChangeShapes Go.WideShapes Go.ChangeAt Go.RowKit
open Go.ChangeMaps (open_string shut_string)
set_option linter.unusedVariables false

set_option maxHeartbeats 4000000 in
theorem walk (s : ByteArray) (hsz : s.size ≤ maxLen) (w : World) :
    Calls Tryd.prog 8 #[.string s] w fun e w' => e = .returned (.bool true) ∧ Below w.heap.size w w' := by
  by_cases h4 : 2000 < s.size
  · go_enter Tryd.func8, Tryd.ntmps8
    go_wp2_with (go_at_call 9; refine (alive_any _).mono ?_; rintro e w' ⟨rfl, hb1⟩)
    go_ret
    exact ⟨rfl, by assumption⟩
  · have h4' : s.size ≤ 2000 := by omega
    obtain ⟨cap, w1, hconv, hc1, hm1, hr1, hb1⟩ := conv_bytes s w hsz
    have HR1 : Hid (Row w1 (some ⟨w.heap.size, 0, none⟩) (nums s)) := hr1
    have HB1 : Hid (Below w.heap.size w w1) := hb1
    have HLN : Hid ((nums s).length = s.size) := nums_len s
    clear hr1 hb1
    go_enter Tryd.func8, Tryd.ntmps8
    go_wp2
    go_loopw [4, 5] (fun n i wr => ∃ (k m : Nat), i = .int .i64 k ∧ n = .int .i64 m ∧ k ≤ s.size ∧ m ≤ 75 ∧ plainQ 0 (nums s) = plainQ m ((nums s).drop k) ∧ w1 = wr) (fun _ i _ => s.size - (intOf i).toNat)
    case atStart => exact ⟨0, 0, rfl, rfl, by omega, by omega, rfl, rfl⟩
    case round =>
      obtain ⟨k, m, rfl, rfl, hk, hm, hpl, rfl⟩ := hrel
      have HPL : Hid (plainQ 0 (nums s) = plainQ m ((nums s).drop k)) := hpl
      clear hpl
      by_cases hlt : k < s.size
      · obtain ⟨c, r, hd⟩ : ∃ c r, (nums s).drop k = c :: r := ⟨_, _, nums_drop s k hlt⟩
        obtain ⟨b, off, hab, hcell, _⟩ := row_at HR1.out hd
        simp only [Option.some.injEq, Addr.mk.injEq] at hab
        obtain ⟨rfl, rfl, _⟩ := hab
        rw [Nat.zero_add] at hcell
        have hcb : 0 ≤ c ∧ c < 256 := by
          have := nums_byt s c (List.mem_of_mem_drop (by rw [hd]; simp))
          exact this
        have HD : Hid ((nums s).drop k = c :: r) := hd
        clear hd
        cases hp : pairQ (c :: r) with
        | true =>
          have hpx : pairQ ((nums s).drop k) = true := by rw [HD.out]; exact hp
          obtain ⟨r', hr⟩ := pairQ_two hp
          have hk2 : k + 2 ≤ s.size := by
            have := congrArg List.length HD.out
            rw [hr, List.length_drop, nums_len] at this
            simp at this; omega
          have HN : Hid (plainQ 0 (nums s) = plainQ ((0 : Nat) : Int) ((nums s).drop (k + 2))) := by
            have e2 : (nums s).drop (k + 2) = r' := by rw [← List.drop_drop, HD.out, hr]; rfl
            unfold Hid; rw [HPL.out, HD.out, hr, plain_pair, e2]; rfl
          clear hp hr
          go_wp2_with (go_at_call 16; refine (pair_any _ _ _ k (nums s) _ HLN.out hc1 hm1 (by omega) (by omega) HR1.out).mono ?_; rintro e w' ⟨rfl, rfl⟩; rw [hpx])
          go_roundw
          case rel => exact ⟨k + 2, 0, by go_num, by first | rfl | go_num, by omega, by omega, HN.out, trivial⟩
          case measure => simp [intOf]; omega
        | false =>
          have hpx : pairQ ((nums s).drop k) = false := by rw [HD.out]; exact hp
          have HC : Hid (plainQ 0 (nums s) = (decide ((m : Int) < 75 ∧ 33 ≤ c ∧ c ≤ 126 ∧ c ≠ 61) && plainQ ((m : Int) + 1) r)) := by
            unfold Hid; rw [HPL.out, HD.out, plain_cons hp]
          have e1 : (nums s).drop (k + 1) = r := by rw [← List.drop_drop, HD.out]; rfl
          clear hp
          rcases (show m = 75 ∨ (m < 75 ∧ c < 33) ∨ (m < 75 ∧ 126 < c) ∨ (m < 75 ∧ c = 61) ∨ (m < 75 ∧ 33 ≤ c ∧ c ≤ 126 ∧ c ≠ 61) from by omega) with rfl | ⟨h1, h2⟩ | ⟨h1, h2⟩ | ⟨h1, rfl⟩ | ⟨h1, h2, h3, h5⟩
          · clear e1
            go_wp2_with (first
              | (go_at_call 16; refine (pair_any _ _ _ k (nums s) _ HLN.out hc1 hm1 (by omega) (by omega) HR1.out).mono ?_; rintro e w' ⟨rfl, rfl⟩; rw [hpx])
              | (go_at_call 9; refine (alive_any _).mono ?_; rintro e w' ⟨rfl, hb1⟩))
            all_goals go_ret
            all_goals exact ⟨rfl, HB1.out.trans (hb1.mono HB1.out.size)⟩
          · clear e1
            go_wp2_with (first
              | (go_at_call 16; refine (pair_any _ _ _ k (nums s) _ HLN.out hc1 hm1 (by omega) (by omega) HR1.out).mono ?_; rintro e w' ⟨rfl, rfl⟩; rw [hpx])
              | (go_at_call 9; refine (alive_any _).mono ?_; rintro e w' ⟨rfl, hb1⟩))
            all_goals go_ret
            all_goals exact ⟨rfl, HB1.out.trans (hb1.mono HB1.out.size)⟩
          · clear e1
            go_wp2_with (first
              | (go_at_call 16; refine (pair_any _ _ _ k (nums s) _ HLN.out hc1 hm1 (by omega) (by omega) HR1.out).mono ?_; rintro e w' ⟨rfl, rfl⟩; rw [hpx])
              | (go_at_call 9; refine (alive_any _).mono ?_; rintro e w' ⟨rfl, hb1⟩))
            all_goals go_ret
            all_goals exact ⟨rfl, HB1.out.trans (hb1.mono HB1.out.size)⟩
          · clear e1
            go_wp2_with (first
              | (go_at_call 16; refine (pair_any _ _ _ k (nums s) _ HLN.out hc1 hm1 (by omega) (by omega) HR1.out).mono ?_; rintro e w' ⟨rfl, rfl⟩; rw [hpx])
              | (go_at_call 9; refine (alive_any _).mono ?_; rintro e w' ⟨rfl, hb1⟩))
            all_goals go_ret
            all_goals exact ⟨rfl, HB1.out.trans (hb1.mono HB1.out.size)⟩
          · have hb61 : (c == 61) = false := by rw [beq_eq_false_iff_ne]; exact h5
            have HN : Hid (plainQ 0 (nums s) = plainQ ((m + 1 : Nat) : Int) ((nums s).drop (k + 1))) := by
              unfold Hid; rw [HC.out, decide_eq_true ⟨by omega, h2, h3, h5⟩, e1]; simp
            clear h5 e1
            go_wp2_with (go_at_call 16; refine (pair_any _ _ _ k (nums s) _ HLN.out hc1 hm1 (by omega) (by omega) HR1.out).mono ?_; rintro e w' ⟨rfl, rfl⟩; rw [hpx])
            go_roundw
            case rel => exact ⟨k + 1, m + 1, by go_num, by go_num, by omega, by omega, HN.out, trivial⟩
            case measure => simp [intOf]; omega
      · obtain rfl : k = s.size := by omega
        have HEN : Hid (strOfNums (encQ true 0 (nums s)) = s) := by
          unfold Hid
          rw [enc_plain 0 (nums s) (by rw [HPL.out, List.drop_of_length_le (by rw [nums_len]; omega)]; rfl), str_nums]
        have hm9 : cap ≤ maxLen := hm1
        go_wp2_with fail
        refine (encode_ok _ s.size cap true (nums s) w1 HLN.out (nums_byt s) hc1 hm9 (by omega) HR1.out).mono ?_
        rintro e w2 ⟨rfl, hb2⟩
        rw [HEN.out]
        have HB2 : Hid (Below w.heap.size w w2) := HB1.out.trans (hb2.mono HB1.out.size)
        clear hb2
        go_wp2_with (go_at_call 9; refine (alive_any _).mono ?_; rintro e w' ⟨rfl, hb1⟩)
        go_ret
        exact ⟨rfl, HB2.out.trans (hb1.mono HB2.out.size)⟩

set_option maxRecDepth 100000 in
theorem lifted (os : Os) (started : os.Started) (H : Type) (enc : TypeId × Value → H) :
    ReturnsInHanded {} Tryd.checked os 8 .any (fun w args => (Rows.quotedPlainSpec.pre enc Tryd.prog Tryd.f8 Rows.quotedPlainRow.domain false w args ∧ laidMetH Tryd.prog Rows.quotedPlainRow.laid w) ∧ sizedMet enc Tryd.prog Tryd.f8 (OpenSpec.ofChange Rows.quotedPlainSpec) false w args)
      (Rows.quotedPlainSpec.post enc Tryd.prog Tryd.f8 false true false false) := by
  refine returnsInHanded_of_change_and (C := Tryd.checked) (X := fun w _ => laidMetH Tryd.prog Rows.quotedPlainRow.laid w) (fun _ _ _ hh h => h.of_heap hh) own started (by kernel_rfl) Tryd.func8
    (ChangeSpec.witness_shaped (enc := enc) (C := Tryd.checked) (os := os) (X := fun w _ => laidMetH Tryd.prog Rows.quotedPlainRow.laid w) false (World.laidAll Tryd.prog os Rows.quotedPlainRow.laid) #[.string ⟨#[]⟩] 8 (World.laidAll_os _ _ _)
      (World.shaped_of_ZipB (by kernel_rfl) (by kernel_rfl)) (by kernel_rfl) (by kernel_rfl) (by kernel_rfl)
      (by rw [MakeChecks.laidMetH_plain _ _ _ (by kernel_rfl)]; exact laidMet_laidAll _ (by kernel_rfl) (by kernel_rfl))) ?_
  intro W base args ds gs before hval0 hW hcnd _ hL _
  have hval : ∀ (j : Nat) t v, Tryd.f8.params[j]? = some t → args[j]? = some v → Value.okWide Tryd.prog W .any base t v := hval0
  have hW' := hW
  obtain ⟨p, q, hA0, hV, rfl, hfz, hnd⟩ := hW
  have hA : DataW.TrodAll enc Tryd.prog W 0 (fun _ => true) true Tryd.f8.params.toList args.toList ds p := hA0
  rw [Tryd.params8] at hA hval
  obtain ⟨v0, vs0, d0, ds0, p0, q0, hargs, rfl, rfl, h0, r0⟩ := trodAll_cons hA
  obtain ⟨rfl, rfl, rfl⟩ := trodAll_nil r0
  obtain rfl : args = #[v0] := by cases args; simp_all
  obtain ⟨rfl, rfl⟩ := trodVars_none hV
  obtain ⟨a0, rfl, rfl, rfl, w0⟩ := open_string Tryd.underlying9 (hval 0 9 v0 rfl rfl) h0
  clear hA0 hval0
  simp only [List.append_nil] at hW'
  refine (walk a0 w0 W).mono fun e W' ⟨he, bel⟩ => ?_
  subst he
  exact ⟨_, rfl, _, _, _, [], _, [], hW', trodAll_mk1 (shut_bool Tryd.underlying4 _), (trodAll_cons_mk (shut_string Tryd.underlying9 w0) trodAll_mk0), rfl, bel.frame _, fun h => by cases h⟩

theorem over : Rows.QuotedPlainSaid :=
  OpenClaim.holds_of_wide 8 Tryd.f8 rfl rfl rfl rfl rfl rfl rfl ⟨rfl, rfl, rfl, rfl, rfl⟩ rfl rfl rfl rfl rfl (by kernel_rfl) Tryd.func8 (by kernel_rfl)
    (of_decide_eq_true (by kernel_rfl)) (by unfold Func.isWrapper; first | (rw [if_pos (by decide +kernel)]; kernel_rfl) | (rw [if_neg (by decide +kernel)]; exact ⟨rfl, rfl⟩))
    (fun os started H enc _ => lifted os started H enc)
end Go.Proofs.YteoojlpaciaobaaDoor.quotedPlain
namespace Go.Proofs.YteoojlpaciaobaaDoor
theorem quotedPlain_card : Rows.QuotedPlainCardSaid :=
  Claim7.holds_tied_plain_at .later [] _ _ _ _ quotedPlain.over (fun _ h => by cases h) (by kernel_rfl) (fun _ h => by cases h) quotedPlain_row_tie rfl ⟨rfl, rfl⟩ (by kernel_rfl) rfl
    (fun f fn hf hfn => by
      obtain rfl : f = 8 := Option.some.inj ((show Tryd.prog.funcNamed Rows.quotedPlainRow.func = some 8 by kernel_rfl).symm.trans hf) |>.symm
      obtain rfl : fn = Tryd.f8 := (Option.some.inj (Tryd.func8.symm.trans hfn)).symm
      exact ⟨by kernel_rfl, fun j t ht => by
        rw [Tryd.params8] at ht
        have hm : t ∈ [9] := by simpa using Array.mem_of_getElem? ht
        have hall : ([9].all fun u => !Tryd.prog.wantsStandIn u) = true := by kernel_rfl
        exact (show Tryd.prog.wantsStandIn t = false by simpa using List.all_eq_true.1 hall t hm)⟩)
    (by kernel_rfl)
#print axioms quotedPlain_card
end Go.Proofs.YteoojlpaciaobaaDoor
