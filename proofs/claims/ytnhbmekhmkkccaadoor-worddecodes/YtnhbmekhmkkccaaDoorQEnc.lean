/-
  The contract of Encode.
-/
import Derived.Test.YtnhbmekhmkkccaaDoorQSign
import Derived.Deep.RegionWith
namespace Go.Proofs.YtnhbmekhmkkccaaDoor.Qu
open Go.RowKit
set_option linter.unusedVariables false

theorem strCells_str {l : List Int} (h : Byt l) : Lib.strCells (strOfNums l) = l.map (Value.int .u8) := by
  have := nums_str h
  unfold nums at this
  unfold Lib.strCells
  conv => rhs; rw [← this]
  rw [List.map_map]; rfl
theorem own_str {w : World} {B : Nat} {v : Value} {pre x : List Int} (hb : Byt x) (h : w.ownsRow B 5 1 v (pre.length + x.length) (pre.map (Value.int .u8) ++ Lib.strCells (strOfNums x))) : w.ownsRow B 5 1 v (pre ++ x).length ((pre ++ x).map (Value.int .u8)) := by
  rw [List.length_append, List.map_append, ← strCells_str hb]; exact h
theorem size_str (l : List Int) : (strOfNums l).size = l.length := by
  have := congrArg List.length (toList_str l)
  rw [ByteArray.toList_eq, List.length_map, Array.length_toList] at this
  exact this
theorem lineEnds_some (s : ByteArray) (w : World) : Calls Tryd.prog 95 #[.string s] w fun e w' => ∃ b, e = .returned (.func (.func 98) #[] #[.pointer (some ⟨b, 0, none⟩)]) ∧ w'.cell? ⟨b, 0, none⟩ = some (.string s) ∧ Below w.heap.size w w' := by
  refine (lineEnds_any s w).mono ?_
  rintro e w' ⟨rfl, rfl⟩
  exact ⟨_, rfl, by simp, keep w _⟩

theorem wrap_next (k : Nat) (h : k ≤ 100000000) : IntKind.i64.wrap ((k : Int) + 1) = ((k + 1 : Nat) : Int) := by
  simp [IntKind.wrap, IntKind.bits, IntKind.signed]; omega
theorem ends_next (s : ByteArray) (b k : Nat) (w : World) (hc : w.cell? ⟨b, 0, none⟩ = some (.string s)) (hk : k < s.size) (hs : s.size ≤ 100000000) :
    Calls Tryd.prog 98 #[.int .i64 (IntKind.i64.wrap ((k : Int) + 1)), .pointer (some ⟨b, 0, none⟩)] w fun e w' => e = .returned (.bool (lastQ ((nums s).drop (k + 1)))) ∧ w = w' := by
  rw [wrap_next k (by omega)]
  exact ends_any s b (k + 1) w hc hk hs

end Go.Proofs.YtnhbmekhmkkccaaDoor.Qu
