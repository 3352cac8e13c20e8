/-
  The contracts of the reference's One, two and units.
-/
import Derived.Test.YtlhhbmolkiojfaaDoorCr
namespace Go.Proofs.YtlhhbmolkiojfaaDoor
open Go.RowKit
set_option linter.unusedVariables false

theorem lit_ne15 : ((⟨#[105, 115, 111, 45, 56, 56, 53, 57, 45, 49, 53]⟩ : ByteArray).toList == [105, 115, 111, 45, 56, 56, 53, 57, 45, 49]) = false := by rw [show (⟨#[105, 115, 111, 45, 56, 56, 53, 57, 45, 49, 53]⟩ : ByteArray) = strOfNums [105, 115, 111, 45, 56, 56, 53, 57, 45, 49, 53] from rfl, toList_str]; decide
set_option maxRecDepth 100000 in
set_option maxHeartbeats 4000000 in
theorem one1a (c : Int) (w : World) (h0 : 0 ≤ c) (h1 : c < 128) : Calls Tryd.prog 39 #[.string (nmS 1), .int .i64 c] w fun e w' => e = .returned (.int .i32 (ptOf 1 c)) ∧ Below w.heap.size w w' := by
  rw [nmS1]
  have HS : Hid (ptOf 1 c = c) := by unfold Hid ptOf; rw [if_neg (by omega), if_neg (by omega), if_neg (by omega)]
  have hw : IntKind.i32.wrap c = c := by rw [IntKind.wrap_i32]; omega
  go_enter Tryd.func39, Tryd.ntmps39
  go_wp2
  go_ret
  exact ⟨ret_int HS.out.symm, Below.refl _ _⟩
set_option maxRecDepth 100000 in
set_option maxHeartbeats 4000000 in
theorem one1b (c : Int) (w : World) (h0 : 128 ≤ c) (h1 : c < 256) : Calls Tryd.prog 39 #[.string (nmS 1), .int .i64 c] w fun e w' => e = .returned (.int .i32 (ptOf 1 c)) ∧ Below w.heap.size w w' := by
  rw [nmS1]
  have HS : Hid (ptOf 1 c = -1) := by unfold Hid ptOf; rw [if_pos ⟨rfl, by omega⟩]

  go_enter Tryd.func39, Tryd.ntmps39
  go_wp2
  go_ret
  exact ⟨ret_int HS.out.symm, Below.refl _ _⟩
set_option maxRecDepth 100000 in
set_option maxHeartbeats 4000000 in
theorem one3 (c : Int) (w : World) (h0 : 0 ≤ c) (h1 : c < 256) : Calls Tryd.prog 39 #[.string (nmS 3), .int .i64 c] w fun e w' => e = .returned (.int .i32 (ptOf 3 c)) ∧ Below w.heap.size w w' := by
  rw [nmS3]
  have HS : Hid (ptOf 3 c = c) := by unfold Hid ptOf; rw [if_neg (by omega), if_neg (by omega), if_neg (by omega)]
  have hw : IntKind.i32.wrap c = c := by rw [IntKind.wrap_i32]; omega
  by_cases hc : c < 128
  all_goals (
    go_enter Tryd.func39, Tryd.ntmps39
    go_wp2
    go_ret
    exact ⟨ret_int HS.out.symm, Below.refl _ _⟩)
set_option maxRecDepth 100000 in
set_option maxHeartbeats 4000000 in
theorem one4a (c : Int) (w : World) (h0 : 0 ≤ c) (h1 : c < 128) : Calls Tryd.prog 39 #[.string (nmS 4), .int .i64 c] w fun e w' => e = .returned (.int .i32 (ptOf 4 c)) ∧ Below w.heap.size w w' := by
  rw [nmS4]
  have HS : Hid (ptOf 4 c = c) := by unfold Hid ptOf; rw [if_neg (by omega), if_neg (by omega), if_neg (by omega)]
  have hw : IntKind.i32.wrap c = c := by rw [IntKind.wrap_i32]; omega
  go_enter Tryd.func39, Tryd.ntmps39
  go_wp2
  go_ret
  exact ⟨ret_int HS.out.symm, Below.refl _ _⟩
set_option maxRecDepth 100000 in
set_option maxHeartbeats 4000000 in
theorem one4b (c : Int) (w : World) (h0 : 128 ≤ c) (h1 : c < 256) : Calls Tryd.prog 39 #[.string (nmS 4), .int .i64 c] w fun e w' => e = .returned (.int .i32 (ptOf 4 c)) ∧ Below w.heap.size w w' := by
  rw [nmS4]
  have K := nine_any c w (by omega) h1
  obtain ⟨z, hz⟩ : ∃ z, ptOf 4 c = z := ⟨_, rfl⟩
  rw [hz] at K ⊢
  clear hz
  go_enter Tryd.func39, Tryd.ntmps39
  go_wp2_with (go_at_call 50; refine K.mono ?_; rintro e w' ⟨rfl, hb⟩)
  go_ret
  exact ⟨rfl, hb⟩
set_option maxRecDepth 100000 in
set_option maxHeartbeats 4000000 in
theorem one5a (c : Int) (w : World) (h0 : 0 ≤ c) (h1 : c < 128) : Calls Tryd.prog 39 #[.string (nmS 5), .int .i64 c] w fun e w' => e = .returned (.int .i32 (ptOf 5 c)) ∧ Below w.heap.size w w' := by
  rw [nmS5]
  have HS : Hid (ptOf 5 c = c) := by unfold Hid ptOf; rw [if_neg (by omega), if_neg (by omega), if_neg (by omega)]
  have hw : IntKind.i32.wrap c = c := by rw [IntKind.wrap_i32]; omega
  go_enter Tryd.func39, Tryd.ntmps39
  go_wp2
  go_ret
  exact ⟨ret_int HS.out.symm, Below.refl _ _⟩
set_option maxRecDepth 100000 in
set_option maxHeartbeats 4000000 in
theorem one5c (c : Int) (w : World) (h0 : 160 ≤ c) (h1 : c < 256) : Calls Tryd.prog 39 #[.string (nmS 5), .int .i64 c] w fun e w' => e = .returned (.int .i32 (ptOf 5 c)) ∧ Below w.heap.size w w' := by
  rw [nmS5]
  have HS : Hid (ptOf 5 c = c) := by unfold Hid ptOf; rw [if_neg (by omega), if_neg (by omega), if_neg (by omega)]
  have hw : IntKind.i32.wrap c = c := by rw [IntKind.wrap_i32]; omega
  go_enter Tryd.func39, Tryd.ntmps39
  go_wp2
  go_ret
  exact ⟨ret_int HS.out.symm, Below.refl _ _⟩
set_option maxRecDepth 100000 in
set_option maxHeartbeats 4000000 in
theorem one5b (c : Int) (w : World) (h0 : 128 ≤ c) (h1 : c < 160) : Calls Tryd.prog 39 #[.string (nmS 5), .int .i64 c] w fun e w' => e = .returned (.int .i32 (ptOf 5 c)) ∧ Below w.heap.size w w' := by
  rw [nmS5]
  have K := fun W => win_any c W h0 h1
  have HP := win_pt h0 h1
  obtain ⟨z, hz⟩ : ∃ z, winZ c = z := ⟨_, rfl⟩
  rw [hz] at HP
  simp only [hz] at K
  obtain ⟨y, hy⟩ : ∃ y, ptOf 5 c = y := ⟨_, rfl⟩
  rw [hy] at HP ⊢
  have HY : Hid ((if 0 < z then z else -1) = y) := HP
  clear HP hz hy
  by_cases hz0 : 0 < z
  · have HZ : Hid (z = y) := by have := HY.out; rwa [if_pos hz0] at this
    clear HY
    go_enter Tryd.func39, Tryd.ntmps39
    go_wp2_with fail
    refine (K _).mono ?_
    rintro e w1 ⟨rfl, hb1⟩
    go_wp2_with fail
    refine (K _).mono ?_
    rintro e w2 ⟨rfl, hb2⟩
    go_wp2
    go_ret
    exact ⟨ret_int HZ.out, hb1.trans (hb2.mono hb1.size)⟩
  · have HZ : Hid (y = -1) := by have := HY.out; rw [if_neg hz0] at this; exact this.symm
    clear HY
    have hz1 : ¬ (z > 0) := hz0
    go_enter Tryd.func39, Tryd.ntmps39
    go_wp2_with (go_at_call 51; refine (K _).mono ?_; rintro e w' ⟨rfl, hb⟩)
    go_ret
    exact ⟨ret_int HZ.out.symm, hb⟩
theorem rone_any (s c : Int) (w : World) (hs : s = 1 ∨ s = 3 ∨ s = 4 ∨ s = 5) (h0 : 0 ≤ c) (h1 : c < 256) : Calls Tryd.prog 39 #[.string (nmS s), .int .i64 c] w fun e w' => e = .returned (.int .i32 (ptOf s c)) ∧ Below w.heap.size w w' := by
  rcases hs with rfl | rfl | rfl | rfl
  · by_cases h : c < 128
    · exact one1a c w h0 h
    · exact one1b c w (by omega) h1
  · exact one3 c w h0 h1
  · by_cases h : c < 128
    · exact one4a c w h0 h
    · exact one4b c w (by omega) h1
  · by_cases h : c < 128
    · exact one5a c w h0 h
    · by_cases h2 : c < 160
      · exact one5b c w (by omega) h2
      · exact one5c c w (by omega) h1
set_option maxRecDepth 100000 in
set_option maxHeartbeats 4000000 in
theorem rtwo_le (u : Int) (w : World) (h0 : 0 ≤ u) (h1 : u < 65536) : Calls Tryd.prog 45 #[.int .i32 u, .bool true] w fun e w' => ∃ v, e = .returned v ∧ Own w' w.heap.size v (twoZ 8 u) ∧ Below w.heap.size w w' := by
  have e1 : u.tmod 256 = u % 256 := Int.tmod_eq_emod_of_nonneg h0
  have e2 : u.tdiv 256 = u / 256 := Int.tdiv_eq_ediv_of_nonneg h0
  have w1 : u / 256 % 256 = u / 256 := by omega
  have w2 : u % 256 % 256 = u % 256 := by omega
  go_enter Tryd.func45, Tryd.ntmps45
  go_wp2
  go_ret
  exact ⟨_, rfl, World.ownsRow_lit w #[.int .u8 (u % 256), .int .u8 (u / 256)] 2 (Nat.le_refl _) (by decide) rfl, keep _ _⟩
set_option maxRecDepth 100000 in
set_option maxHeartbeats 4000000 in
theorem rtwo_be (u : Int) (w : World) (h0 : 0 ≤ u) (h1 : u < 65536) : Calls Tryd.prog 45 #[.int .i32 u, .bool false] w fun e w' => ∃ v, e = .returned v ∧ Own w' w.heap.size v (twoZ 7 u) ∧ Below w.heap.size w w' := by
  have e1 : u.tmod 256 = u % 256 := Int.tmod_eq_emod_of_nonneg h0
  have e2 : u.tdiv 256 = u / 256 := Int.tdiv_eq_ediv_of_nonneg h0
  have w1 : u / 256 % 256 = u / 256 := by omega
  have w2 : u % 256 % 256 = u % 256 := by omega
  go_enter Tryd.func45, Tryd.ntmps45
  go_wp2
  go_ret
  exact ⟨_, rfl, World.ownsRow_lit w #[.int .u8 (u / 256), .int .u8 (u % 256)] 2 (Nat.le_refl _) (by decide) rfl, keep _ _⟩
end Go.Proofs.YtlhhbmolkiojfaaDoor
