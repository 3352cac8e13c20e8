/-
  The reference's blank, Trim, Name and Value.
-/
import Derived.Test.YtnpjffpioimcdaaDoorShut
namespace Go.Proofs.YtnpjffpioimcdaaDoor
open Go.RowKit
set_option linter.unusedVariables false

set_option maxHeartbeats 1000000 in
theorem rblank_any (c : Int) (w : World) : Calls Tryd.prog 24 #[.int .u8 c] w fun e w' => e = .returned (.bool (blankC c)) ∧ w = w' := by
  by_cases h1 : c = 32
  · subst h1
    go_enter Tryd.func24, Tryd.ntmps24
    go_wp2
    go_ret
    exact ⟨rfl, rfl⟩
  · have h1' : (c == 32) = false := by rw [beq_eq_false_iff_ne]; exact h1
    go_enter Tryd.func24, Tryd.ntmps24
    go_wp2
    go_ret
    refine ⟨ret_bool ?_, rfl⟩
    by_cases h2 : c = 9 <;> simp [blankC, h1, h2]
theorem trimR_cons (c : Int) (l : List Int) : trimR (c :: l) = if trimR l = [] ∧ blankC c = true then [] else c :: trimR l := by
  unfold trimR
  rw [List.reverse_cons, List.dropWhile_append]
  cases h : (l.reverse.dropWhile blankC).isEmpty with
  | true =>
    rw [List.isEmpty_iff] at h
    cases hb : blankC c <;> simp [h, hb]
  | false =>
    have : l.reverse.dropWhile blankC ≠ [] := by rw [List.isEmpty_eq_false_iff] at h; exact h
    simp [this]
theorem trim_comm : ∀ l : List Int, trimR (l.dropWhile blankC) = (trimR l).dropWhile blankC
  | [] => rfl
  | c :: l => by
    have ih := trim_comm l
    cases hb : blankC c with
    | true =>
      rw [List.dropWhile_cons_of_pos hb, ih, trimR_cons]
      by_cases h : trimR l = []
      · rw [if_pos ⟨h, hb⟩, h]
      · rw [if_neg (fun q => h q.1), List.dropWhile_cons_of_pos hb]
    | false =>
      have e : trimR (c :: l) = c :: trimR l := by rw [trimR_cons, if_neg (by rw [hb]; simp)]
      rw [List.dropWhile_cons_of_neg (by rw [hb]; simp), e, List.dropWhile_cons_of_neg (by rw [hb]; simp)]
theorem trimR_snoc_blank (l : List Int) (c : Int) (h : blankC c = true) : trimR (l ++ [c]) = trimR l := by
  unfold trimR
  rw [List.reverse_append, List.reverse_singleton, List.singleton_append, List.dropWhile_cons_of_pos h]
theorem trimR_snoc (l : List Int) (c : Int) (h : blankC c = false) : trimR (l ++ [c]) = l ++ [c] := by
  unfold trimR
  rw [List.reverse_append, List.reverse_singleton, List.singleton_append, List.dropWhile_cons_of_neg (by rw [h]; simp)]
  simp
set_option maxHeartbeats 4000000 in
theorem rTrim_any (s : ByteArray) (w : World) (hs : s.size ≤ 10000000000) : Calls Tryd.prog 40 #[.string s] w fun e w' => ∃ t : ByteArray, e = .returned (.string t) ∧ nums t = trimZ (nums s) ∧ w = w' := by
  go_enter Tryd.func40, Tryd.ntmps40
  go_wp2
  go_loopw [3] (fun v wr => ∃ k : Nat, v = .int .i64 k ∧ k ≤ s.size ∧ (nums s).dropWhile blankC = ((nums s).drop k).dropWhile blankC ∧ w = wr) (fun v _ => s.size - (intOf v).toNat)
  case atStart => exact ⟨0, rfl, by omega, by simp, rfl⟩
  case round =>
    obtain ⟨k, rfl, hk, hd, rfl⟩ := hrel
    have HD : Hid ((nums s).dropWhile blankC = ((nums s).drop k).dropWhile blankC) := hd
    clear hd
    have second : (nums s).drop k = (nums s).dropWhile blankC → True := fun _ => trivial
    by_cases hlt : k < s.size ∧ blankC (s.data[k]!).toNat = true
    · obtain ⟨hl, hb⟩ := hlt
      have hdk : decide ((k : Int) < (s.size : Int)) = true := by simp; omega
      have e : (nums s).drop k = (s[k].toNat : Int) :: (nums s).drop (k + 1) := nums_drop s k hl
      have hbk : blankC (s[k].toNat : Int) = true := by
        have : s.data[k]! = s[k] := getElem!_pos s.data k hl
        rw [this] at hb; exact hb
      have HE : Hid ((nums s).dropWhile blankC = ((nums s).drop (k + 1)).dropWhile blankC) := by
        unfold Hid; rw [HD.out, e, List.dropWhile_cons_of_pos hbk]
      clear e hb second
      go_wp2_with (go_at_call 24; refine (rblank_any _ _).mono ?_; rintro e w' ⟨rfl, rfl⟩; rw [hbk])
      go_roundw
      case rel => exact ⟨k + 1, by go_num, by omega, HE.out, by first | trivial | rfl⟩
      case measure => simp [intOf]; omega
    · have HL : Hid ((nums s).dropWhile blankC = (nums s).drop k) := by
        unfold Hid
        rw [HD.out]
        by_cases hl : k < s.size
        · have hb : blankC (s[k].toNat : Int) = false := by
            cases hb : blankC (s[k].toNat : Int) with
            | false => rfl
            | true =>
              have : s.data[k]! = s[k] := getElem!_pos s.data k hl
              exact absurd ⟨hl, by rw [this]; exact hb⟩ hlt
          rw [nums_drop s k hl, List.dropWhile_cons_of_neg (by rw [hb]; simp)]
        · rw [List.drop_of_length_le (by rw [nums_len]; omega)]; rfl
      have HW : Hid (∀ m : Nat, k ≤ m → m ≤ s.size → trimR ((nums s).drop k) = trimR (((nums s).drop k).take (m - k)) → trimR (((nums s).drop k).take (m - k)) = ((nums s).drop k).take (m - k) → nums (s.extract k m) = trimZ (nums s)) := by
        intro m h1 h2 h3 h4
        rw [nums_extract, ← h4, ← h3, trimZ, ← trim_comm, HL.out]
      have cont : ∀ (X : Prop), X → X := fun _ h => h
      by_cases hl : k < s.size
      · have hdk : decide ((k : Int) < (s.size : Int)) = true := by simp; omega
        have hbk : blankC (s[k].toNat : Int) = false := by
          cases hb : blankC (s[k].toNat : Int) with
          | false => rfl
          | true =>
            have : s.data[k]! = s[k] := getElem!_pos s.data k hl
            exact absurd ⟨hl, by rw [this]; exact hb⟩ hlt
        clear second cont hlt
        go_wp2_with (go_at_call 24; refine (rblank_any _ _).mono ?_; rintro e w' ⟨rfl, rfl⟩; rw [hbk])
        go_loopw [4] (fun v wr => ∃ m : Nat, v = .int .i64 m ∧ k ≤ m ∧ m ≤ s.size ∧ trimR ((nums s).drop k) = trimR (((nums s).drop k).take (m - k)) ∧ w = wr) (fun v _ => (intOf v).toNat)
        case atStart => exact ⟨s.size, rfl, by omega, by omega, by rw [List.take_of_length_le (by rw [List.length_drop, nums_len]; omega)], rfl⟩
        case round =>
          obtain ⟨m, rfl, hm1, hm2, ht, rfl⟩ := hrel
          have HT : Hid (trimR ((nums s).drop k) = trimR (((nums s).drop k).take (m - k))) := ht
          clear ht
          by_cases hkm : k < m
          · obtain ⟨m', rfl⟩ : ∃ m', m = m' + 1 := ⟨m - 1, by omega⟩
            have hdm : decide (((m' + 1 : Nat) : Int) > (k : Int)) = true := by simp; omega
            have hml : m' < s.size := by omega
            have hsub : ((m' + 1 : Nat) : Int) - 1 = (m' : Int) := by omega
            have e : ((nums s).drop k).take (m' + 1 - k) = ((nums s).drop k).take (m' - k) ++ [(s[m'].toNat : Int)] := by
              rw [show m' + 1 - k = (m' - k) + 1 from by omega, List.take_add_one, List.getElem?_drop, show k + (m' - k) = m' from by omega, nums_at s m' hml]; rfl
            cases hb : blankC (s[m'].toNat : Int) with
            | true =>
              have HT2 : Hid (trimR ((nums s).drop k) = trimR (((nums s).drop k).take (m' - k))) := by unfold Hid; rw [HT.out, e, trimR_snoc_blank _ _ hb]
              clear e
              go_wp2_with (go_at_call 24; refine (rblank_any _ _).mono ?_; rintro e w' ⟨rfl, rfl⟩; rw [hb])
              go_roundw
              case rel => exact ⟨m', by first | rfl | go_num, by omega, by omega, HT2.out, by first | trivial | rfl⟩
              case measure => simp [intOf]
            | false =>
              have HT2 : Hid (trimR (((nums s).drop k).take (m' + 1 - k)) = ((nums s).drop k).take (m' + 1 - k)) := by unfold Hid; rw [e, trimR_snoc _ _ hb]
              clear e
              go_wp2_with (go_at_call 24; refine (rblank_any _ _).mono ?_; rintro e w' ⟨rfl, rfl⟩; rw [hb])
              go_ret
              exact ⟨_, rfl, HW.out (m' + 1) (by omega) (by omega) HT.out HT2.out, rfl⟩
          · obtain rfl : m = k := by omega
            have hdm : decide ((m : Int) > (m : Int)) = false := by simp
            have HT2 : Hid (trimR (((nums s).drop m).take (m - m)) = ((nums s).drop m).take (m - m)) := by unfold Hid; rw [Nat.sub_self]; rfl
            go_wp2
            go_ret
            refine ⟨_, rfl, ?_, rfl⟩
            have h := HW.out m (by omega) (by omega) HT.out HT2.out
            rw [nums_extract, Nat.sub_self, List.take_zero] at h
            exact h
      · have hdk : decide ((k : Int) < (s.size : Int)) = false := by simp; omega
        clear second cont hlt
        go_wp2
        go_loopw [4] (fun v wr => ∃ m : Nat, v = .int .i64 m ∧ k ≤ m ∧ m ≤ s.size ∧ trimR ((nums s).drop k) = trimR (((nums s).drop k).take (m - k)) ∧ w = wr) (fun v _ => (intOf v).toNat)
        case atStart => exact ⟨s.size, rfl, by omega, by omega, by rw [List.take_of_length_le (by rw [List.length_drop, nums_len]; omega)], rfl⟩
        case round =>
          obtain ⟨m, rfl, hm1, hm2, ht, rfl⟩ := hrel
          have HT : Hid (trimR ((nums s).drop k) = trimR (((nums s).drop k).take (m - k))) := ht
          clear ht
          by_cases hkm : k < m
          · omega
          · obtain rfl : m = k := by omega
            have hdm : decide ((m : Int) > (m : Int)) = false := by simp
            have HT2 : Hid (trimR (((nums s).drop m).take (m - m)) = ((nums s).drop m).take (m - m)) := by unfold Hid; rw [Nat.sub_self]; rfl
            go_wp2
            go_ret
            refine ⟨_, rfl, ?_, rfl⟩
            have h := HW.out m (by omega) (by omega) HT.out HT2.out
            rw [nums_extract, Nat.sub_self, List.take_zero] at h
            exact h

set_option maxHeartbeats 2000000 in
theorem rName_any (s : ByteArray) (w : World) (hs : s.size ≤ 100000000) : Calls Tryd.prog 27 #[.string s] w fun e w' => e = .returned (.bool (nameZ (nums s))) ∧ w = w' := by
  go_enter Tryd.func27, Tryd.ntmps27
  go_wp2
  go_loopw [3] (fun i wr => ∃ k : Nat, i = .int .i64 k ∧ k ≤ s.size ∧ ((nums s).take k).all nameC = true ∧ w = wr) (fun i _ => s.size - (intOf i).toNat)
  case atStart => exact ⟨0, rfl, by omega, by simp, rfl⟩
  case round =>
    obtain ⟨k, rfl, hk, hall, rfl⟩ := hrel
    have HA : Hid (((nums s).take k).all nameC = true) := hall
    clear hall
    by_cases hlt : k < s.size
    · have HN : Hid ((nums s)[k]? = some (s[k].toNat : Int)) := nums_at s k hlt
      have hdk : decide ((k : Int) < (s.size : Int)) = true := by simp; omega
      obtain ⟨c, hc⟩ : ∃ c : Int, ((s[k]'hlt).toNat : Int) = c := ⟨_, rfl⟩
      rw [hc] at HN
      cases hn : nameC c with
      | true =>
        have HM : Hid (nameC c = true) := hn
        simp only [nameC, Bool.and_eq_true, Bool.not_eq_true', decide_eq_true_eq, decide_eq_false_iff_not] at hn
        obtain ⟨⟨h1, h2⟩, h3⟩ := hn
        have hb : (c == 58) = false := by rw [beq_eq_false_iff_ne]; exact h3
        have hb1 : decide (c ≤ 32) = false := by simp; omega
        have hb2 : decide (c ≥ 127) = false := by simp; omega
        go_wp2
        go_roundw
        case rel => exact ⟨k + 1, by go_num, by omega, by rw [all_take _ _ _ _ HN.out, HA.out, HM.out]; rfl, by first | trivial | rfl⟩
        case measure => simp [intOf]; omega
      | false =>
        have HM : Hid (nameC c = false) := hn
        have HR : Hid (nameZ (nums s) = false) := by unfold Hid nameZ; rw [all_bad _ _ _ _ HN.out hn]; rfl
        have h3 : c ≤ 32 ∨ (33 ≤ c ∧ 127 ≤ c) ∨ c = 58 := by
          simp only [nameC, Bool.and_eq_false_iff, Bool.not_eq_false', decide_eq_true_eq, decide_eq_false_iff_not] at hn
          omega
        clear hn
        rcases h3 with h3 | ⟨h3, h4⟩ | rfl
        all_goals go_wp2
        all_goals go_ret
        all_goals exact ⟨ret_bool HR.out.symm, by first | trivial | rfl⟩
    · obtain rfl : k = s.size := by omega
      have hdk : decide ((s.size : Int) < (s.size : Int)) = false := by simp
      have HT : Hid ((nums s).all nameC = true) := by
        have := HA.out
        rwa [List.take_of_length_le (by rw [nums_len]; exact Nat.le_refl _)] at this
      have HV : Hid (nameZ (nums s) = (decide (1 ≤ s.size) && decide (s.size ≤ 64))) := by
        unfold Hid nameZ
        rw [HT.out, nums_len, Bool.true_and]
        congr 1
        cases hq : (nums s).isEmpty with
        | true => rw [List.isEmpty_iff] at hq; have := nums_len s; rw [hq] at this; simp at this; simp [← this]
        | false => rw [List.isEmpty_eq_false_iff] at hq; have := nums_len s; have h2 := List.length_pos_iff.2 hq; simp; omega
      by_cases h1 : 1 ≤ s.size
      · have hd1 : decide ((s.size : Int) ≥ 1) = true := by simp; omega
        go_wp2
        go_ret
        refine ⟨ret_bool ?_, by first | trivial | rfl⟩
        rw [HV.out, Bool.eq_iff_iff]
        simp
        omega
      · have hd1 : decide ((s.size : Int) ≥ 1) = false := by simp; omega
        go_wp2
        go_ret
        refine ⟨ret_bool ?_, by first | trivial | rfl⟩
        rw [HV.out]
        simp; omega
set_option maxHeartbeats 2000000 in
theorem rValue_any (s : ByteArray) (w : World) (hs : s.size ≤ 10000000000) : Calls Tryd.prog 31 #[.string s] w fun e w' => e = .returned (.bool (valueZ (nums s))) ∧ w = w' := by
  go_enter Tryd.func31, Tryd.ntmps31
  go_wp2
  go_loopw [3] (fun i wr => ∃ k : Nat, i = .int .i64 k ∧ k ≤ s.size ∧ ((nums s).take k).all valC = true ∧ w = wr) (fun i _ => s.size - (intOf i).toNat)
  case atStart => exact ⟨0, rfl, by omega, by simp, rfl⟩
  case round =>
    obtain ⟨k, rfl, hk, hall, rfl⟩ := hrel
    have HA : Hid (((nums s).take k).all valC = true) := hall
    clear hall
    by_cases hlt : k < s.size
    · have HN : Hid ((nums s)[k]? = some (s[k].toNat : Int)) := nums_at s k hlt
      have hdk : decide ((k : Int) < (s.size : Int)) = true := by simp; omega
      obtain ⟨c, hc⟩ : ∃ c : Int, ((s[k]'hlt).toNat : Int) = c := ⟨_, rfl⟩
      rw [hc] at HN
      cases hn : valC c with
      | true =>
        have HM : Hid (valC c = true) := hn
        have h3 : (32 ≤ c ∧ c ≤ 126) ∨ c = 9 := by
          simp only [valC, Bool.and_eq_true, Bool.or_eq_true, decide_eq_true_eq] at hn
          exact hn
        clear hn
        rcases h3 with ⟨h1, h2⟩ | rfl
        · go_wp2
          go_roundw
          case rel => exact ⟨k + 1, by go_num, by omega, by rw [all_take _ _ _ _ HN.out, HA.out, HM.out]; rfl, by first | trivial | rfl⟩
          case measure => simp [intOf]; omega
        · go_wp2
          go_roundw
          case rel => exact ⟨k + 1, by go_num, by omega, by rw [all_take _ _ _ _ HN.out, HA.out, HM.out]; rfl, by first | trivial | rfl⟩
          case measure => simp [intOf]; omega
      | false =>
        have HR : Hid (valueZ (nums s) = false) := by unfold Hid valueZ; rw [all_bad _ _ _ _ HN.out hn]; rfl
        have h3 : (c < 32 ∨ (32 ≤ c ∧ 126 < c)) ∧ c ≠ 9 := by
          simp only [valC, Bool.or_eq_false_iff, Bool.and_eq_false_iff, decide_eq_false_iff_not] at hn
          omega
        clear hn
        have hb : (c != 9) = true := by simp [h3.2]
        obtain ⟨h3 | ⟨h3, h4⟩, h9⟩ := h3
        all_goals go_wp2
        all_goals go_ret
        all_goals exact ⟨ret_bool HR.out.symm, by first | trivial | rfl⟩
    · obtain rfl : k = s.size := by omega
      have hdk : decide ((s.size : Int) < (s.size : Int)) = false := by simp
      have HT : Hid ((nums s).all valC = true) := by
        have := HA.out
        rwa [List.take_of_length_le (by rw [nums_len]; exact Nat.le_refl _)] at this
      by_cases h4 : s.size ≤ 4096
      · have hd : decide ((s.size : Int) ≤ 4096) = true := by simp; omega
        go_wp2_with (go_at_call 40; refine (rTrim_any _ _ hs).mono ?_; rintro e w' ⟨t, rfl, ht, rfl⟩)
        go_ret
        refine ⟨ret_bool ?_, by first | trivial | rfl⟩
        unfold valueZ
        rw [HT.out, eq_nums, ht, nums_len, decide_eq_true h4]; rfl
      · have hd : decide ((s.size : Int) ≤ 4096) = false := by simp; omega
        go_wp2
        go_ret
        refine ⟨ret_bool ?_, by first | trivial | rfl⟩
        unfold valueZ
        rw [HT.out, nums_len, decide_eq_false h4]; rfl
end Go.Proofs.YtnpjffpioimcdaaDoor
