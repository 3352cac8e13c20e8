/-
  The contracts of Digits and sign.
-/
import Derived.Test.YtnhbmekhmkkccaaDoorQStr
namespace Go.Proofs.YtnhbmekhmkkccaaDoor.Qu
open Go.RowKit
set_option linter.unusedVariables false

theorem conv_two (W : World) (x y : Int) : (convert 31 9 (.slice (some ⟨W.heap.size, 0, none⟩) 2 2)).run Tryd.prog (W.alloc (.cells #[.int .u8 x, .int .u8 y] 5)) = .ok (.string (strOfNums [x, y])) (W.alloc (.cells #[.int .u8 x, .int .u8 y] 5)) := conv_row 2 2 rfl (row_new W [x, y])
theorem conv_one (W : World) (x : Int) : (convert 31 9 (.slice (some ⟨W.heap.size, 0, none⟩) 1 1)).run Tryd.prog (W.alloc (.cells #[.int .u8 x] 5)) = .ok (.string (strOfNums [x])) (W.alloc (.cells #[.int .u8 x] 5)) := conv_row 1 1 rfl (row_new W [x])
theorem hex_at : ∀ (m : Nat) (h : m < 16), (((⟨#[48, 49, 50, 51, 52, 53, 54, 55, 56, 57, 65, 66, 67, 68, 69, 70]⟩ : ByteArray)[m]'h).toNat : Int) = hexQ m := by decide
set_option maxRecDepth 100000 in
set_option maxHeartbeats 1000000 in
theorem digits_any (c : Int) (w : World) (h0 : 0 ≤ c) (h1 : c < 256) : Calls Tryd.prog 91 #[.int .u8 c] w fun e w' => e = .returned (.string (strOfNums (digQ c))) ∧ Below w.heap.size w w' := by
  obtain ⟨m, hm⟩ : ∃ m : Nat, c / 16 = m := ⟨(c / 16).toNat, by omega⟩
  obtain ⟨n, hn⟩ : ∃ n : Nat, c % 16 = n := ⟨(c % 16).toNat, by omega⟩
  have hm1 : m < 16 := by omega
  have hn1 : n < 16 := by omega
  have em := hex_at m hm1
  have en := hex_at n hn1
  have kc : ∀ (W : World) (x y : Int), (convert 31 9 (.slice (some ⟨W.heap.size, 0, none⟩) 2 2)).run Tryd.prog (W.alloc (.cells #[.int .u8 x, .int .u8 y] 5)).drew = .ok (.string (strOfNums [x, y])) (W.alloc (.cells #[.int .u8 x, .int .u8 y] 5)).drew := fun W x y => conv_row (w := (W.alloc (.cells #[.int .u8 x, .int .u8 y] 5)).drew) 2 2 rfl (row_new W [x, y])
  have HD : Hid (digQ c = [hexQ m, hexQ n]) := by unfold Hid digQ; rw [hm, hn]
  go_enter Tryd.func91, Tryd.ntmps91
  go_wp2
  go_region
  all_goals (try go_wp2)
  all_goals go_ret
  all_goals exact ⟨by rw [HD.out]; rfl, (keep w _).drew⟩
set_option maxRecDepth 100000 in
/-- sign: a byte's sign. -/
theorem lineEnds_any (s : ByteArray) (w : World) : Calls Tryd.prog 95 #[.string s] w fun e w' => e = .returned (.func (.func 98) #[] #[.pointer (some ⟨w.heap.size, 0, none⟩)]) ∧ w' = w.alloc (.cells #[.string s] 9) := by
  have hmf : ∀ (fn : Fn) (first cap : Array Value) (w : World), (Instr.makeFunc fn first cap).run Tryd.prog w = .ok (.func fn first cap) w := fun _ _ _ _ => rfl
  go_enter Tryd.func95, Tryd.ntmps95
  go_wp2
  go_ret
  exact ⟨rfl, rfl⟩
end Go.Proofs.YtnhbmekhmkkccaaDoor.Qu
