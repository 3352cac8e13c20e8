/-
  Strings as numbers; the contracts of the small functions over strings.
-/
import Derived.Test.YtnhbmekhmkkccaaDoorQMath
import Derived.Test.YtnhbmekhmkkccaaDoorStr
import Derived.Lib.AppendStr
import Derived.Laws.Strings3
namespace Go.Proofs.YtnhbmekhmkkccaaDoor.Qu
open Go.RowKit
set_option linter.unusedVariables false

set_option maxRecDepth 100000 in
/-- HasPrefix. -/
theorem hasPrefix_any (s p : ByteArray) (w : World) : Calls Tryd.prog 25 #[.string s, .string p] w fun e w' => e = .returned (.bool (decide ((nums s).take p.size = nums p))) ∧ w = w' := by
  have q : ∀ t : ByteArray, (t.toList == p.toList) = decide (nums t = nums p) := fun t => eq_nums t p
  by_cases h : p.size ≤ s.size
  · go_enter Tryd.func25, Tryd.ntmps25
    go_wp2
    go_ret
    refine ⟨ret_bool ?_, rfl⟩
    rw [nums_to]
  · go_enter Tryd.func25, Tryd.ntmps25
    go_wp2
    go_ret
    refine ⟨ret_bool ?_, rfl⟩
    symm
    rw [decide_eq_false_iff_not]
    intro e
    have := congrArg List.length e
    rw [List.length_take, nums_len, nums_len] at this
    omega
theorem pair_str : nums ⟨#[13, 10]⟩ = [13, 10] := rfl
theorem soft_str : nums ⟨#[61, 13, 10]⟩ = [61, 13, 10] := rfl
theorem take_pair (l : List Int) : decide (l.take 2 = [13, 10]) = pairQ l := by
  match l with
  | [] => rfl
  | [a] => simp [pairQ]
  | a :: b :: r => rw [Bool.eq_iff_iff]; simp [pairQ]
/-- Does a pair stand at a string's front? -/
theorem hasPair_any (s : ByteArray) (w : World) : Calls Tryd.prog 25 #[.string s, .string ⟨#[13, 10]⟩] w fun e w' => e = .returned (.bool (pairQ (nums s))) ∧ w = w' := by
  refine (hasPrefix_any s ⟨#[13, 10]⟩ w).mono ?_
  rintro e w' ⟨rfl, rfl⟩
  refine ⟨ret_bool ?_, rfl⟩
  rw [pair_str, ← take_pair]; rfl
set_option maxRecDepth 100000 in
theorem isBlank_any (c : Int) (w : World) : Calls Tryd.prog 97 #[.int .u8 c] w fun e w' => e = .returned (.bool (decide (c = 32 ∨ c = 9))) ∧ w = w' := by
  go_enter Tryd.func97, Tryd.ntmps97
  go_wp2
  all_goals go_ret
  all_goals refine ⟨ret_bool ?_, rfl⟩
  · rename_i h; simp [h]
  · rename_i h; rw [Bool.eq_iff_iff]; simp [h]
set_option maxRecDepth 100000 in
/-- The closure: a pair, or the end, stands at a place. -/
theorem ends_any (s : ByteArray) (b k : Nat) (w : World) (hc : w.cell? ⟨b, 0, none⟩ = some (.string s)) (hk : k ≤ s.size) (hs : s.size ≤ 100000000) :
    Calls Tryd.prog 98 #[.int .i64 k, .pointer (some ⟨b, 0, none⟩)] w fun e w' => e = .returned (.bool (lastQ ((nums s).drop k))) ∧ w = w' := by
  by_cases h : k = s.size
  · subst h
    go_enter Tryd.func98, Tryd.ntmps98
    go_wp2
    go_ret
    refine ⟨ret_bool ?_, rfl⟩
    rw [List.drop_of_length_le (by rw [nums_len]; omega)]; rfl
  · have hb : ((k : Int) == (s.size : Int)) = false := by rw [beq_eq_false_iff_ne]; omega
    have HL : Hid (k < s.size) := by unfold Hid; omega
    go_enter Tryd.func98, Tryd.ntmps98
    go_wp2_with (go_at_call 25; refine (hasPair_any _ _).mono ?_; rintro e w' ⟨rfl, rfl⟩)
    all_goals go_ret
    all_goals refine ⟨ret_bool ?_, rfl⟩
    rw [nums_from, lastQ, List.isEmpty_eq_false_iff.2, Bool.false_or]
    intro e
    have := congrArg List.length e
    have := HL.out
    rw [List.length_drop, nums_len] at *
    simp at *
    omega
theorem hexD : ∀ n : Nat, n < 16 → ((([48, 49, 50, 51, 52, 53, 54, 55, 56, 57, 65, 66, 67, 68, 69, 70] : List UInt8).getD n 0).toNat : Int) = hexQ n := by decide
end Go.Proofs.YtnhbmekhmkkccaaDoor.Qu
