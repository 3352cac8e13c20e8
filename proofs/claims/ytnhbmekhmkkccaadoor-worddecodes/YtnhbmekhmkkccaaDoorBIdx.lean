/-
  The contract of IndexByte in the signs, and of HasPrefix.
-/
import Derived.Test.YtnhbmekhmkkccaaDoorBEnc
import Derived.Lib.Bytealg
namespace Go.Proofs.YtnhbmekhmkkccaaDoor.Bt
open Go.RowKit
set_option linter.unusedVariables false

/-- The number of a sign, or -1. -/
def valZ (c : Int) : Int := Lib.indexByte ((⟨List.toArray (65 :: 66 :: 67 :: 68 :: 69 :: 70 :: 71 :: 72 :: 73 :: 74 :: 75 :: 76 :: 77 :: 78 :: 79 :: 80 :: 81 :: 82 :: 83 :: 84 :: 85 :: 86 :: 87 :: 88 :: 89 :: 90 :: 97 :: 98 :: 99 :: 100 :: 101 :: 102 :: 103 :: 104 :: 105 :: 106 :: 107 :: 108 :: 109 :: 110 :: 111 :: 112 :: 113 :: 114 :: 115 :: 116 :: 117 :: 118 :: 119 :: 120 :: 121 :: 122 :: 48 :: 49 :: 50 :: 51 :: 52 :: 53 :: 54 :: 55 :: 56 :: 57 :: 43 :: 47 :: [])⟩ : ByteArray)).data.toList c.toNat.toUInt8
theorem val_all : ∀ c : Fin 256, (valZ (c.val : Int) = -1 ∧ ∀ v : Fin 64, sgn v.val ≠ (c.val : Int)) ∨ (0 ≤ valZ (c.val : Int) ∧ valZ (c.val : Int) < 64 ∧ sgn (valZ (c.val : Int)).toNat = (c.val : Int)) := by decide +kernel
theorem val_sgn_all : ∀ v : Fin 64, valZ (sgn v.val) = (v.val : Int) ∧ 0 ≤ sgn v.val ∧ sgn v.val < 256 ∧ sgn v.val ≠ 61 ∧ sgn v.val ≠ 13 ∧ sgn v.val ≠ 10 := by decide +kernel
theorem val_61 : valZ 61 = -1 := by decide +kernel

set_option maxRecDepth 100000 in
theorem index_any (c : Int) (w : World) :
    Calls Tryd.prog 88 #[.string ⟨List.toArray (65 :: 66 :: 67 :: 68 :: 69 :: 70 :: 71 :: 72 :: 73 :: 74 :: 75 :: 76 :: 77 :: 78 :: 79 :: 80 :: 81 :: 82 :: 83 :: 84 :: 85 :: 86 :: 87 :: 88 :: 89 :: 90 :: 97 :: 98 :: 99 :: 100 :: 101 :: 102 :: 103 :: 104 :: 105 :: 106 :: 107 :: 108 :: 109 :: 110 :: 111 :: 112 :: 113 :: 114 :: 115 :: 116 :: 117 :: 118 :: 119 :: 120 :: 121 :: 122 :: 48 :: 49 :: 50 :: 51 :: 52 :: 53 :: 54 :: 55 :: 56 :: 57 :: 43 :: 47 :: [])⟩, .int .u8 c] w fun e w' => e = .returned (.int .i64 (valZ c)) ∧ w = w' := by
  go_enter Tryd.func88, Tryd.ntmps88
  go_wp2
  rw [run_callFunc_extern Tryd.func92 (by kernel_rfl) (by kernel_rfl) (by kernel_rfl) (e := Extern.BytealgIndexByte.indexByte) (by kernel_rfl), Lib.run_indexByteString]
  simp only [Result.andThen]
  rw [Oper.upon_value]
  go_wp2
  go_ret
  exact ⟨rfl, rfl⟩
end Go.Proofs.YtnhbmekhmkkccaaDoor.Bt
