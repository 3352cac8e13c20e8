/-
  Strings as numbers; the contracts of the small functions over strings.
-/
import Derived.Test.YteoojlpaciaobaaDoorMath
import Derived.Lib.AppendStr
import Derived.Laws.Strings3
namespace Go.Proofs.YteoojlpaciaobaaDoor
open Go.RowKit
set_option linter.unusedVariables false

/-- A string's bytes, as numbers. -/
def nums (s : ByteArray) : List Int := s.data.toList.map fun b => (b.toNat : Int)
theorem nums_len (s : ByteArray) : (nums s).length = s.size := by rw [nums, List.length_map, Array.length_toList]; rfl
theorem nums_byt (s : ByteArray) : Byt (nums s) := by
  intro x hx
  simp only [nums, List.mem_map] at hx
  obtain ⟨b, _, rfl⟩ := hx
  have := b.toNat_lt
  omega
theorem nums_str {l : List Int} (h : Byt l) : nums (strOfNums l) = l := by
  have e : (strOfNums l).data.toList = l.map fun n => UInt8.ofNat n.toNat := by
    rw [← ByteArray.toList_eq]; exact toList_str l
  rw [nums, e, List.map_map]
  conv => rhs; rw [← List.map_id l]
  apply List.map_congr_left
  intro x hx
  have := h x hx
  simp only [Function.comp, id, UInt8.toNat_ofNat']
  omega
theorem str_nums (s : ByteArray) : strOfNums (nums s) = s := by
  have e : (strOfNums (nums s)).toList = s.toList := by
    rw [toList_str, nums, List.map_map, ByteArray.toList_eq]
    conv => rhs; rw [← List.map_id s.data.toList]
    apply List.map_congr_left
    intro x hx
    simp
  rw [ByteArray.toList_eq, ByteArray.toList_eq] at e
  exact ByteArray.ext (Array.toList_inj.1 e)
theorem nums_inj {s t : ByteArray} (h : nums s = nums t) : s = t := by rw [← str_nums s, ← str_nums t, h]
theorem nums_extract (s : ByteArray) (a b : Nat) : nums (s.extract a b) = ((nums s).drop a).take (b - a) := by
  simp [nums, ByteArray.data_extract, Array.toList_extract, List.map_drop, List.map_take]
theorem nums_from (s : ByteArray) (k : Nat) : nums (s.extract k s.size) = (nums s).drop k := by
  rw [nums_extract, List.take_of_length_le]; simp [nums_len]
theorem nums_to (s : ByteArray) (k : Nat) : nums (s.extract 0 k) = (nums s).take k := by
  rw [nums_extract]; simp
theorem nums_drop (s : ByteArray) (k : Nat) (h : k < s.size) : (nums s).drop k = (s[k].toNat : Int) :: (nums s).drop (k + 1) := by
  have hl : k < (nums s).length := by rw [nums_len]; exact h
  rw [List.drop_eq_getElem_cons hl]
  congr 1
  simp [nums]; rfl
/-- Two strings are one where their numbers are. -/
theorem eq_nums (s t : ByteArray) : (s.toList == t.toList) = decide (nums s = nums t) := by
  rw [Bool.eq_iff_iff]
  simp only [beq_iff_eq, decide_eq_true_eq]
  constructor
  · intro h
    rw [ByteArray.toList_eq, ByteArray.toList_eq] at h
    rw [nums, nums, h]
  · intro h; rw [nums_inj h]

/-- HasPrefix. -/
theorem hasPrefix_any (s p : ByteArray) (w : World) : Calls Tryd.prog 18 #[.string s, .string p] w fun e w' => e = .returned (.bool (decide ((nums s).take p.size = nums p))) ∧ w = w' := by
  have q : ∀ t : ByteArray, (t.toList == p.toList) = decide (nums t = nums p) := fun t => eq_nums t p
  by_cases h : p.size ≤ s.size
  · go_enter Tryd.func18, Tryd.ntmps18
    go_wp2
    go_ret
    refine ⟨ret_bool ?_, rfl⟩
    rw [nums_to]
  · go_enter Tryd.func18, Tryd.ntmps18
    go_wp2
    go_ret
    refine ⟨ret_bool ?_, rfl⟩
    symm
    rw [decide_eq_false_iff_not]
    intro e
    have := congrArg List.length e
    rw [List.length_take, nums_len, nums_len] at this
    omega
theorem pair_str : nums ⟨#[13, 10]⟩ = [13, 10] := rfl
theorem soft_str : nums ⟨#[61, 13, 10]⟩ = [61, 13, 10] := rfl
theorem take_pair (l : List Int) : decide (l.take 2 = [13, 10]) = pairQ l := by
  match l with
  | [] => rfl
  | [a] => simp [pairQ]
  | a :: b :: r => rw [Bool.eq_iff_iff]; simp [pairQ]
/-- Does a pair stand at a string's front? -/
theorem hasPair_any (s : ByteArray) (w : World) : Calls Tryd.prog 18 #[.string s, .string ⟨#[13, 10]⟩] w fun e w' => e = .returned (.bool (pairQ (nums s))) ∧ w = w' := by
  refine (hasPrefix_any s ⟨#[13, 10]⟩ w).mono ?_
  rintro e w' ⟨rfl, rfl⟩
  refine ⟨ret_bool ?_, rfl⟩
  rw [pair_str, ← take_pair]; rfl
theorem isBlank_any (c : Int) (w : World) : Calls Tryd.prog 23 #[.int .u8 c] w fun e w' => e = .returned (.bool (decide (c = 32 ∨ c = 9))) ∧ w = w' := by
  go_enter Tryd.func23, Tryd.ntmps23
  go_wp2
  all_goals go_ret
  all_goals refine ⟨ret_bool ?_, rfl⟩
  · rename_i h; simp [h]
  · rename_i h; rw [Bool.eq_iff_iff]; simp [h]
/-- The closure: a pair, or the end, stands at a place. -/
theorem ends_any (s : ByteArray) (b k : Nat) (w : World) (hc : w.cell? ⟨b, 0, none⟩ = some (.string s)) (hk : k ≤ s.size) (hs : s.size ≤ 100000000) :
    Calls Tryd.prog 26 #[.int .i64 k, .pointer (some ⟨b, 0, none⟩)] w fun e w' => e = .returned (.bool (lastQ ((nums s).drop k))) ∧ w = w' := by
  by_cases h : k = s.size
  · subst h
    go_enter Tryd.func26, Tryd.ntmps26
    go_wp2
    go_ret
    refine ⟨ret_bool ?_, rfl⟩
    rw [List.drop_of_length_le (by rw [nums_len]; omega)]; rfl
  · have hb : ((k : Int) == (s.size : Int)) = false := by rw [beq_eq_false_iff_ne]; omega
    have HL : Hid (k < s.size) := by unfold Hid; omega
    go_enter Tryd.func26, Tryd.ntmps26
    go_wp2_with (go_at_call 18; refine (hasPair_any _ _).mono ?_; rintro e w' ⟨rfl, rfl⟩)
    all_goals go_ret
    all_goals refine ⟨ret_bool ?_, rfl⟩
    rw [nums_from, lastQ, List.isEmpty_eq_false_iff.2, Bool.false_or]
    intro e
    have := congrArg List.length e
    have := HL.out
    rw [List.length_drop, nums_len] at *
    simp at *
    omega
theorem hexD : ∀ n : Nat, n < 16 → ((([48, 49, 50, 51, 52, 53, 54, 55, 56, 57, 65, 66, 67, 68, 69, 70] : List UInt8).getD n 0).toNat : Int) = hexQ n := by decide
end Go.Proofs.YteoojlpaciaobaaDoor
