/-
  Digits: the contract of number; names: weekdayOf, monthOf.
-/
import Derived.Test.YtomcjkghneingabDoorTc
namespace Go.Proofs.YtomcjkghneingabDoor
open Go.RowKit
set_option linter.unusedVariables false
set_option linter.unusedSimpArgs false

def digC (c : Int) : Bool := decide (48 ≤ c) && decide (c ≤ 57)
def valN (l : List Int) : Int := l.foldl (fun n c => 10 * n + (c - 48)) 0
theorem valN_snoc (l : List Int) (c : Int) : valN (l ++ [c]) = 10 * valN l + (c - 48) := by simp [valN]
theorem valN_bound : ∀ (k : Nat) (l : List Int), l.length = k → l.all digC = true → 0 ≤ valN l ∧ valN l < 10 ^ k := by
  intro k
  induction k with
  | zero => intro l h _; rw [List.eq_nil_of_length_eq_zero h]; simp [valN]
  | succ k ih =>
    intro l h hd
    obtain ⟨a, c, rfl⟩ : ∃ a c, l = a ++ [c] := ⟨l.dropLast, l.getLast (by intro e; rw [e] at h; simp at h), (List.dropLast_concat_getLast _).symm⟩
    rw [List.all_append, Bool.and_eq_true] at hd
    have h1 := ih a (by simp at h; exact h) hd.1
    have h2 : digC c = true := by simpa using hd.2
    unfold digC at h2
    simp only [Bool.and_eq_true, decide_eq_true_eq] at h2
    rw [valN_snoc]
    rw [Int.pow_succ]
    omega
/-- What digits say, from a to b of them. -/
def numD (l : List Int) (a b : Nat) : Int × Bool := if l.length < a ∨ b < l.length then (0, false) else if l.all digC = true then (valN l, true) else (0, false)
set_option maxHeartbeats 8000000 in
set_option maxRecDepth 100000 in
theorem number_any (s : ByteArray) (a b : Nat) (w : World) (hb : b ≤ 9) : Calls Tryd.prog 30 #[.string s, .int .i64 a, .int .i64 b] w fun e w' => e = .returned (.tuple #[.int .i64 (numD (nums s) a b).1, .bool (numD (nums s) a b).2]) ∧ w = w' := by
  by_cases h0 : s.size < a
  · have hd : decide ((s.size : Int) < (a : Int)) = true := by simp; omega
    have HZ : Hid (numD (nums s) a b = (0, false)) := by unfold Hid numD; rw [if_pos (.inl (by rw [nums_len]; exact h0))]
    go_enter Tryd.func30, Tryd.ntmps30
    go_wp2
    go_ret2
    exact ⟨by rw [HZ.out]; rfl, rfl⟩
  have hd0 : decide ((s.size : Int) < (a : Int)) = false := by simp; omega
  by_cases h9 : b < s.size
  · have hd : decide ((s.size : Int) > (b : Int)) = true := by simp; omega
    have HZ : Hid (numD (nums s) a b = (0, false)) := by unfold Hid numD; rw [if_pos (.inr (by rw [nums_len]; exact h9))]
    go_enter Tryd.func30, Tryd.ntmps30
    go_wp2
    go_ret2
    exact ⟨by rw [HZ.out]; rfl, rfl⟩
  have hd : decide ((s.size : Int) > (b : Int)) = false := by simp; omega
  have HQ : Hid (∀ q, (nums s).all digC = q → numD (nums s) a b = if q = true then (valN (nums s), true) else (0, false)) := fun q hq => by
    unfold numD; rw [if_neg (by rw [nums_len]; omega), hq]
  go_enter Tryd.func30, Tryd.ntmps30
  go_wp2
  go_loopw [22, 8, 9] (fun i n _ wr => ∃ k : Nat, i = .int .i64 k ∧ k ≤ s.size ∧ n = .int .i64 (valN ((nums s).take k)) ∧ ((nums s).take k).all digC = true ∧ w = wr) (fun i _ _ _ => s.size - (intOf i).toNat)
  case atStart => exact ⟨0, rfl, by omega, rfl, by simp, rfl⟩
  case round =>
    obtain ⟨k, rfl, hk, rfl, hall, rfl⟩ := hrel
    have HA : Hid (((nums s).take k).all digC = true) := hall
    have hvb := valN_bound k ((nums s).take k) (by rw [List.length_take, nums_len]; omega) hall
    have hk9 : k ≤ 9 := by omega
    have hp : (10 : Int) ^ k ≤ 10 ^ 9 := by
      have : k = 0 ∨ k = 1 ∨ k = 2 ∨ k = 3 ∨ k = 4 ∨ k = 5 ∨ k = 6 ∨ k = 7 ∨ k = 8 ∨ k = 9 := by omega
      rcases this with rfl | rfl | rfl | rfl | rfl | rfl | rfl | rfl | rfl | rfl <;> decide
    obtain ⟨V, hV⟩ : ∃ V, valN ((nums s).take k) = V := ⟨_, rfl⟩
    have HV : Hid (valN ((nums s).take k) = V) := hV
    rw [hV] at hvb ⊢
    have hv0 := hvb.1
    have hv1 : V < 1000000000 := by have := hvb.2; omega
    clear hall hvb hp hV
    by_cases hlt : k < s.size
    · have HN : Hid ((nums s)[k]? = some (s[k].toNat : Int)) := nums_at s k hlt
      have hcb : ((s[k]'hlt).toNat : Int) < 256 := by have := (s[k]'hlt).toNat_lt; omega
      obtain ⟨c, hc⟩ : ∃ c : Int, ((s[k]'hlt).toNat : Int) = c := ⟨_, rfl⟩
      rw [hc] at HN hcb
      by_cases h1 : 48 ≤ c
      · by_cases h2 : c ≤ 57
        · have HM : Hid (digC c = true) := by unfold Hid digC; simp [h1, h2]
          have HT : Hid (valN ((nums s).take (k + 1)) = 10 * V + (c - 48)) := by
            unfold Hid; rw [List.take_add_one, HN.out]; simp only [Option.toList]; rw [valN_snoc, HV.out]
          go_wp2
          go_roundw
          case rel => exact ⟨k + 1, by go_num, by omega, by rw [HT.out]; first | rfl | (congr 1; omega) | (congr 2; omega), by rw [all_take _ _ _ _ HN.out, HA.out, HM.out]; rfl, by first | trivial | rfl⟩
          case measure => simp [intOf]; omega
        · have HR : Hid (numD (nums s) a b = (0, false)) := by unfold Hid; rw [HQ.out false (all_bad _ _ _ _ HN.out (by unfold digC; simp [h2]))]; rfl
          go_wp2
          go_ret2
          exact ⟨by rw [HR.out]; rfl, by first | trivial | rfl⟩
      · have HR : Hid (numD (nums s) a b = (0, false)) := by unfold Hid; rw [HQ.out false (all_bad _ _ _ _ HN.out (by unfold digC; simp [h1]))]; rfl
        go_wp2
        go_ret2
        exact ⟨by rw [HR.out]; rfl, by first | trivial | rfl⟩
    · obtain rfl : k = s.size := by omega
      have HT : Hid (numD (nums s) a b = (V, true)) := by
        have h1 := HA.out
        have h2 := HV.out
        rw [List.take_of_length_le (by rw [nums_len]; exact Nat.le_refl _)] at h1 h2
        unfold Hid; rw [HQ.out true h1, h2]; rfl
      go_wp2
      go_ret2
      exact ⟨by rw [HT.out]; rfl, by first | trivial | rfl⟩
end Go.Proofs.YtomcjkghneingabDoor
