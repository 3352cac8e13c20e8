/-
  The document's own times as texts: the contracts of its Digits and Print.
-/
import Derived.Test.YtomcjkghneingaaDoorWRd
import Derived.Test.YtomcjkghneingaaDoorIdx
namespace Go.Proofs.YtomcjkghneingaaDoor.Wn
open Go.RowKit
set_option linter.unusedVariables false

theorem n0 : nums ⟨#[]⟩ = [] := rfl
theorem conv_one (w : World) (c : Int) : (convert 73 9 (.slice (some ⟨w.heap.size, 0, none⟩) 1 1)).run Tryd.prog (w.alloc (.cells #[.int .u8 c] 5)) = .ok (.string (strOfNums [c])) (w.alloc (.cells #[.int .u8 c] 5)) :=
  conv_row 1 1 rfl (row_new w [c])
theorem one_size (c : Int) : (strOfNums [c]).size = 1 := by rfl
def digN : Nat → Int → List Int
  | 0, _ => []
  | k + 1, n => digN k (n / 10) ++ [48 + n % 10]
theorem digN_two (n : Int) : digN 2 n = two n := rfl
set_option maxRecDepth 100000 in
theorem digN_four (n : Int) : digN 4 n = four n := rfl
set_option maxRecDepth 100000 in
set_option maxHeartbeats 2000000 in
theorem rdigits_any (n : Int) (k0 : Nat) (w : World) (h0 : 0 ≤ n) (h1 : n < 1000000000000) (hk0 : k0 ≤ 20) :
    Calls Tryd.prog 27 #[.int .i64 n, .int .i64 k0] w fun e w' => ∃ x, e = .returned (.string x) ∧ (nums x = digN k0 n ∧ x.size ≤ 20) ∧ Below w.heap.size w w' := by
  go_enter Tryd.func27, Tryd.ntmps27
  go_wp2
  go_loopw [0, 5, 6] (fun a b c wr => ∃ (k : Nat) (m : Int) (x : ByteArray), a = .int .i64 m ∧ b = .string x ∧ c = .int .i64 k ∧ k ≤ k0 ∧ (0 ≤ m ∧ m ≤ n) ∧ digN k0 n = digN (k0 - k) m ++ nums x ∧ x.size ≤ k ∧ Below w.heap.size w wr) (fun _ _ c _ => k0 - (intOf c).toNat)
  case atStart => exact ⟨0, n, ⟨#[]⟩, rfl, rfl, rfl, by omega, by omega, by rw [n0]; simp, by decide, Below.refl _ _⟩
  case round =>
    obtain ⟨k, m, x, rfl, rfl, rfl, hk, ⟨hm0, hm1⟩, he, hx, hb⟩ := hrel
    have HE : Hid (digN k0 n = digN (k0 - k) m ++ nums x) := he
    have HB : Hid (Below w.heap.size w wr) := hb
    clear he hb
    by_cases hlt : k < k0
    · have kc := conv_one wr (48 + m % 10)
      have hs1 := one_size (48 + m % 10)
      have HN : Hid (digN k0 n = digN (k0 - (k + 1)) (m / 10) ++ (nums (strOfNums [48 + m % 10]) ++ nums x)) := by
        unfold Hid
        rw [HE.out, show k0 - k = (k0 - (k + 1)) + 1 by omega, nums_str (l := [48 + m % 10]) (by intro y hy; simp at hy; omega)]
        simp [digN]
      have HB2 : Hid (Below w.heap.size w (wr.alloc (.cells #[.int .u8 (48 + m % 10)] 5))) := HB.out.alloc HB.out.size _
      generalize strOfNums [48 + m % 10] = y at kc hs1 HN
      clear HE HB
      go_wp2
      go_roundw
      case rel => exact ⟨k + 1, m / 10, y ++ x, rfl, rfl, by go_num, by omega, by omega, by rw [nums_append]; exact HN.out, by rw [ByteArray.size_append]; omega, HB2.out⟩
      case measure => simp [intOf]; omega
    · obtain rfl : k = k0 := by omega
      have HX : Hid (nums x = digN k n) := by
        have := HE.out
        rw [Nat.sub_self] at this
        exact this.symm
      clear HE
      go_wp2
      go_ret
      exact ⟨x, rfl, ⟨HX.out, by omega⟩, HB.out⟩
end Go.Proofs.YtomcjkghneingaaDoor.Wn
