/-
  Digits are read: the contracts of isDigit and digits.
-/
import Derived.Test.YtkamnphiocoebaaDoorPu
namespace Go.Proofs.YtkamnphiocoebaaDoor
open Go.RowKit
set_option linter.unusedVariables false

theorem isDigit_any (c : Int) (w : World) (h0 : 0 ≤ c) (h1 : c < 256) :
    Calls Tryd.prog 30 #[.int .u8 c] w fun e w' => e = .returned (.bool (isD c)) ∧ w = w' := by
  unfold isD
  by_cases a : 48 ≤ c
  · go_enter Tryd.func30, Tryd.ntmps30
    go_wp2
    go_ret
    exact ⟨ret_bool (by simp [a]), rfl⟩
  · go_enter Tryd.func30, Tryd.ntmps30
    go_wp2
    go_ret
    exact ⟨ret_bool (by simp; omega), rfl⟩
theorem pow_ten (k : Nat) (h : k ≤ 10) : (10 : Int) ^ k ≤ 10000000000 := by
  have : k = 0 ∨ k = 1 ∨ k = 2 ∨ k = 3 ∨ k = 4 ∨ k = 5 ∨ k = 6 ∨ k = 7 ∨ k = 8 ∨ k = 9 ∨ k = 10 := by omega
  rcases this with rfl | rfl | rfl | rfl | rfl | rfl | rfl | rfl | rfl | rfl | rfl <;> decide
theorem digR_step (k : Nat) (n c : Int) (l : List Int) (h : isD c = true) : digR (k + 1) n (c :: l) = ((digR k (n * 10 + (c - 48)) l).1, (digR k (n * 10 + (c - 48)) l).2 + 1) := by simp [digR, h]
theorem digR_halt (k : Nat) (n c : Int) (l : List Int) (h : isD c = false) : digR (k + 1) n (c :: l) = (n, 0) := by simp [digR, h]
theorem digR_nil (k : Nat) (n : Int) : digR k n [] = (n, 0) := by cases k <;> rfl
theorem digR_zero (n : Int) (l : List Int) : digR 0 n l = (n, 0) := rfl
/-- What is read so far. -/
structure DJ (s : ByteArray) (k : Nat) (n : Int) : Prop where
  ge : 0 ≤ n
  lt : n < 10 ^ k
  e1 : (digR 10 0 (nums s)).1 = (digR (10 - k) n ((nums s).drop k)).1
  e2 : (digR 10 0 (nums s)).2 = (digR (10 - k) n ((nums s).drop k)).2 + k
set_option maxHeartbeats 1000000 in
theorem digits_any (s : ByteArray) (w : World) (hs : s.size ≤ 1000000000) :
    Calls Tryd.prog 31 #[.string s] w fun e w' => e = .returned (.tuple #[.int .i64 (digR 10 0 (nums s)).1, .int .i64 (digR 10 0 (nums s)).2]) ∧ w = w' := by
  by_cases hlong : 10 < s.size
  · have hmin : ¬ s.size ≤ 10 := by omega
    go_enter Tryd.func31, Tryd.ntmps31
    go_wp2
    go_loopw [4, 11] (fun v i wr => ∃ (k : Nat) (n : Int), i = .int .i64 k ∧ v = .int .i64 n ∧ k ≤ 10 ∧ DJ s k n ∧ w = wr) (fun _ i _ => 10 - (intOf i).toNat)
    case atStart => exact ⟨0, 0, rfl, rfl, by omega, ⟨by omega, by decide, rfl, rfl⟩, rfl⟩
    case round =>
      obtain ⟨k, n, rfl, rfl, hk, hj, rfl⟩ := hrel
      have hn0 := hj.ge
      have hn1 : n < 10000000000 := by have a := hj.lt; have b := pow_ten k (by omega); omega
      have HJ : Hid (DJ s k n) := hj
      clear hj
      by_cases hlt : k < 10
      · have hks : k < s.size := by omega
        have HD : Hid ((nums s).drop k = (s[k].toNat : Int) :: (nums s).drop (k + 1)) := nums_drop s k hks
        have hc1 : (s[k].toNat : Int) < 256 := by have := s[k].toNat_lt; omega
        have hc0 : (0 : Int) ≤ (s[k].toNat : Int) := by omega
        obtain ⟨c, hc⟩ : ∃ c : Int, ((s[k]'hks).toNat : Int) = c := ⟨_, rfl⟩
        rw [hc] at HD hc1 hc0
        have C1 : Hid (∀ w, Calls Tryd.prog 30 #[.int .u8 c] w fun e w' => e = .returned (.bool (isD c)) ∧ w = w') := fun w => isDigit_any c w hc0 hc1
        cases hd : isD c with
        | true =>
          have hcd := (isD_iff c).1 hd
          have c48 : 48 ≤ c := hcd.1
          have c57 : c ≤ 57 := hcd.2
          have HN : Hid (DJ s (k + 1) (n * 10 + (c - 48))) := by
            refine ⟨by omega, ?_, ?_, ?_⟩
            · rw [Int.pow_succ]; have := HJ.out.lt; omega
            · rw [HJ.out.e1, HD.out, show 10 - k = (10 - (k + 1)) + 1 by omega, digR_step _ _ _ _ hd]
            · rw [HJ.out.e2, HD.out, show 10 - k = (10 - (k + 1)) + 1 by omega, digR_step _ _ _ _ hd]
              show (digR (10 - (k + 1)) (n * 10 + (c - 48)) ((nums s).drop (k + 1))).2 + 1 + k = _
              omega
          rw [hd] at C1
          clear hd hcd HJ HD
          go_wp2_with fail
          refine (C1.out _).mono ?_
          rintro e w' ⟨rfl, rfl⟩
          go_wp2
          go_roundw
          case rel => exact ⟨k + 1, n * 10 + (c - 48), by go_num, rfl, by omega, HN.out, trivial⟩
          case measure => simp [intOf]; omega
        | false =>
          have HE : Hid (digR 10 0 (nums s) = (n, k)) := by
            unfold Hid
            rw [← Prod.eta (digR 10 0 (nums s)), HJ.out.e1, HJ.out.e2, HD.out, show 10 - k = (10 - (k + 1)) + 1 by omega, digR_halt _ _ _ _ hd]
            simp
          rw [hd] at C1
          clear hd HJ HD
          go_wp2_with fail
          refine (C1.out _).mono ?_
          rintro e w' ⟨rfl, rfl⟩
          go_wp2
          go_ret2
          exact ⟨by rw [HE.out]; rfl, rfl⟩
      · obtain rfl : k = 10 := by omega
        have HE : Hid (digR 10 0 (nums s) = (n, 10)) := by
          unfold Hid
          rw [← Prod.eta (digR 10 0 (nums s)), HJ.out.e1, HJ.out.e2]
          rw [show 10 - 10 = 0 from rfl, digR_zero]
        clear HJ
        go_wp2
        go_ret2
        exact ⟨by rw [HE.out]; rfl, rfl⟩
  · have hmin : s.size ≤ 10 := by omega
    go_enter Tryd.func31, Tryd.ntmps31
    go_wp2
    go_loopw [4, 11] (fun v i wr => ∃ (k : Nat) (n : Int), i = .int .i64 k ∧ v = .int .i64 n ∧ k ≤ s.size ∧ DJ s k n ∧ w = wr) (fun _ i _ => s.size - (intOf i).toNat)
    case atStart => exact ⟨0, 0, rfl, rfl, by omega, ⟨by omega, by decide, rfl, rfl⟩, rfl⟩
    case round =>
      obtain ⟨k, n, rfl, rfl, hk, hj, rfl⟩ := hrel
      have hn0 := hj.ge
      have hn1 : n < 10000000000 := by have a := hj.lt; have b := pow_ten k (by omega); omega
      have HJ : Hid (DJ s k n) := hj
      clear hj
      by_cases hlt : k < s.size
      · have hks : k < s.size := by omega
        have HD : Hid ((nums s).drop k = (s[k].toNat : Int) :: (nums s).drop (k + 1)) := nums_drop s k hks
        have hc1 : (s[k].toNat : Int) < 256 := by have := s[k].toNat_lt; omega
        have hc0 : (0 : Int) ≤ (s[k].toNat : Int) := by omega
        obtain ⟨c, hc⟩ : ∃ c : Int, ((s[k]'hks).toNat : Int) = c := ⟨_, rfl⟩
        rw [hc] at HD hc1 hc0
        have C1 : Hid (∀ w, Calls Tryd.prog 30 #[.int .u8 c] w fun e w' => e = .returned (.bool (isD c)) ∧ w = w') := fun w => isDigit_any c w hc0 hc1
        cases hd : isD c with
        | true =>
          have hcd := (isD_iff c).1 hd
          have c48 : 48 ≤ c := hcd.1
          have c57 : c ≤ 57 := hcd.2
          have HN : Hid (DJ s (k + 1) (n * 10 + (c - 48))) := by
            refine ⟨by omega, ?_, ?_, ?_⟩
            · rw [Int.pow_succ]; have := HJ.out.lt; omega
            · rw [HJ.out.e1, HD.out, show 10 - k = (10 - (k + 1)) + 1 by omega, digR_step _ _ _ _ hd]
            · rw [HJ.out.e2, HD.out, show 10 - k = (10 - (k + 1)) + 1 by omega, digR_step _ _ _ _ hd]
              show (digR (10 - (k + 1)) (n * 10 + (c - 48)) ((nums s).drop (k + 1))).2 + 1 + k = _
              omega
          rw [hd] at C1
          clear hd hcd HJ HD
          go_wp2_with fail
          refine (C1.out _).mono ?_
          rintro e w' ⟨rfl, rfl⟩
          go_wp2
          go_roundw
          case rel => exact ⟨k + 1, n * 10 + (c - 48), by go_num, rfl, by omega, HN.out, trivial⟩
          case measure => simp [intOf]; omega
        | false =>
          have HE : Hid (digR 10 0 (nums s) = (n, k)) := by
            unfold Hid
            rw [← Prod.eta (digR 10 0 (nums s)), HJ.out.e1, HJ.out.e2, HD.out, show 10 - k = (10 - (k + 1)) + 1 by omega, digR_halt _ _ _ _ hd]
            simp
          rw [hd] at C1
          clear hd HJ HD
          go_wp2_with fail
          refine (C1.out _).mono ?_
          rintro e w' ⟨rfl, rfl⟩
          go_wp2
          go_ret2
          exact ⟨by rw [HE.out]; rfl, rfl⟩
      · obtain rfl : k = s.size := by omega
        have HE : Hid (digR 10 0 (nums s) = (n, s.size)) := by
          unfold Hid
          rw [← Prod.eta (digR 10 0 (nums s)), HJ.out.e1, HJ.out.e2]
          rw [List.drop_of_length_le (by rw [nums_len]; exact Nat.le_refl _), digR_nil]; simp
        clear HJ
        go_wp2
        go_ret2
        exact ⟨by rw [HE.out]; rfl, rfl⟩
end Go.Proofs.YtkamnphiocoebaaDoor
