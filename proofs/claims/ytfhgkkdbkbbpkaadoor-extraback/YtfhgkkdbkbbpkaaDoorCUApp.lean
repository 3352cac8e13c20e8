/-
  The contracts of utf's behind, appendPoint and Put.
-/
import Derived.Test.YtfhgkkdbkbbpkaaDoorCUPut
import Derived.Test.YtfhgkkdbkbbpkaaDoorCBase
namespace Go.Proofs.YtfhgkkdbkbbpkaaDoor.Cs.Ut
open Go.RowKit

set_option maxRecDepth 100000 in
theorem behind_any (p : Int) (w : World) (h0 : 0 ≤ p) (h1 : p ≤ 1114111) :
    Calls Tryd.prog 108 #[.int .i32 p] w fun e w' => e = .returned (.int .u8 (128 + p % 64)) ∧ w = w' := by
  go_enter Tryd.func108, Tryd.ntmps108
  go_wp2
  go_ret
  refine ⟨ret_int ?_, rfl⟩
  rw [i32_and63 p h0 (by omega), show p % 64 % 256 = p % 64 from by omega]
  exact u8_or128 _ (by omega) (by omega)

set_option maxRecDepth 100000 in
set_option maxHeartbeats 400000 in
theorem appendPoint1 (p : Int) (w : World) (B : Nat) (v : Value) (l : List Int) (h0 : 0 ≤ p) (h1 : p < 128) (hown : w.ownsRow B 5 1 v l.length (l.map (Value.int .u8))) (hB : B ≤ w.heap.size) (hl : l.length ≤ 70368744177664) :
    Calls Tryd.prog 96 #[v, .int .i32 p] w fun e w' => ∃ v', e = .returned v' ∧ Own w' B v' (l ++ encZ p) ∧ Below B w w' := by
  obtain ⟨i0, hi, hz0, hz1, hz2⟩ := info_parts Tryd.info5
  have hsz : sizeZ p = 1 := by
    have : ptB p = true := by rw [ptB_iff]; omega
    simp [sizeZ, this, enc1 h1]
  have HS : Hid (sizeZ p = 1) := hsz
  have HE : Hid (encZ p = [p]) := enc1 h1
  clear hsz
  go_enter Tryd.func96, Tryd.ntmps96
  go_wp2_with (first
    | (go_at_call 84; refine (size_any _ _).mono ?_; rintro e w' ⟨rfl, rfl⟩; rw [HS.out])
    | (at_builtin; refine wpList_append_own _ rfl _ _ 31 rfl B 5 i0 (.int .u8 0) 1 1 Tryd.underlying31 hi hz0 hz1 hz2 rfl (by decide) _ _ _ rfl (hown.alloc _) ⟨w.heap.size, 0, none⟩ 1 1 ([p].map (Value.int .u8)) rfl rfl (cells_new _ _ _) (ints_one _) ?c3 ?c4 ?c5 ?_))
  case c3 => unfold maxLen; omega
  case c4 => omega
  case c5 => simp; omega
  intro v' w1 hown' hgrow _
  go_wp2
  go_ret
  exact ⟨v', rfl, by rw [HE.out]; exact own_snoc hown', ((Below.refl B w).alloc hB _).grown hgrow (by simp; omega) (fun k hk => (hown.lt k hk).1)⟩

set_option maxRecDepth 100000 in
set_option maxHeartbeats 1000000 in
theorem appendPoint2 (p : Int) (w : World) (B : Nat) (v : Value) (l : List Int) (h0 : 128 ≤ p) (h1 : p < 2048) (hp : ptB p = true) (hown : w.ownsRow B 5 1 v l.length (l.map (Value.int .u8))) (hB : B ≤ w.heap.size) (hl : l.length ≤ 70368744177664) :
    Calls Tryd.prog 96 #[v, .int .i32 p] w fun e w' => ∃ v', e = .returned v' ∧ Own w' B v' (l ++ encZ p) ∧ Below B w w' := by
  obtain ⟨i0, hi, hz0, hz1, hz2⟩ := info_parts Tryd.info5
  have HE : Hid (encZ p = [192 + p / 64, 128 + p % 64]) := enc2 h0 h1
  have HS : Hid (sizeZ p = 2) := by unfold Hid; rw [sizeZ, if_pos hp, HE.out]; rfl
  clear hp
  go_enter Tryd.func96, Tryd.ntmps96
  go_wp2_with (first
    | (go_at_call 84; refine (size_any _ _).mono ?_; rintro e w' ⟨rfl, rfl⟩; rw [HS.out])
    | (go_at_call 108; refine (behind_any _ _ (by omega) (by omega)).mono ?_; rintro e w' ⟨rfl, rfl⟩)
    | (at_builtin; refine wpList_append_own _ rfl _ _ 31 rfl B 5 i0 (.int .u8 0) 1 1 Tryd.underlying31 hi hz0 hz1 hz2 rfl (by decide) _ _ _ rfl (hown.alloc _) ⟨w.heap.size, 0, none⟩ 2 2 ([192 + p / 64, 128 + p % 64].map (Value.int .u8)) rfl rfl (cells_new _ _ _) (ints_one _) ?c3 ?c4 ?c5 ?_))
  case c3 => unfold maxLen; omega
  case c4 => omega
  case c5 => simp; omega
  intro v' w1 hown' hgrow _
  go_wp2
  go_ret
  exact ⟨v', rfl, by rw [HE.out]; exact own_snoc hown', ((Below.refl B w).alloc hB _).grown hgrow (by simp; omega) (fun k hk => (hown.lt k hk).1)⟩

set_option maxRecDepth 100000 in
set_option maxHeartbeats 1000000 in
theorem appendPoint3 (p : Int) (w : World) (B : Nat) (v : Value) (l : List Int) (h0 : 2048 ≤ p) (h1 : p < 65536) (hp : ptB p = true) (hown : w.ownsRow B 5 1 v l.length (l.map (Value.int .u8))) (hB : B ≤ w.heap.size) (hl : l.length ≤ 70368744177664) :
    Calls Tryd.prog 96 #[v, .int .i32 p] w fun e w' => ∃ v', e = .returned v' ∧ Own w' B v' (l ++ encZ p) ∧ Below B w w' := by
  obtain ⟨i0, hi, hz0, hz1, hz2⟩ := info_parts Tryd.info5
  have HE : Hid (encZ p = [224 + p / 4096, 128 + p / 64 % 64, 128 + p % 64]) := enc3 h0 h1
  have HS : Hid (sizeZ p = 3) := by unfold Hid; rw [sizeZ, if_pos hp, HE.out]; rfl
  clear hp
  go_enter Tryd.func96, Tryd.ntmps96
  go_wp2_with (first
    | (go_at_call 84; refine (size_any _ _).mono ?_; rintro e w' ⟨rfl, rfl⟩; rw [HS.out])
    | (go_at_call 108; refine (behind_any _ _ (by omega) (by omega)).mono ?_; rintro e w' ⟨rfl, rfl⟩)
    | (at_builtin; refine wpList_append_own _ rfl _ _ 31 rfl B 5 i0 (.int .u8 0) 1 1 Tryd.underlying31 hi hz0 hz1 hz2 rfl (by decide) _ _ _ rfl (hown.alloc _) ⟨w.heap.size, 0, none⟩ 3 3 ([224 + p / 4096, 128 + p / 64 % 64, 128 + p % 64].map (Value.int .u8)) rfl rfl (cells_new _ _ _) (ints_one _) ?c3 ?c4 ?c5 ?_))
  case c3 => unfold maxLen; omega
  case c4 => omega
  case c5 => simp; omega
  intro v' w1 hown' hgrow _
  go_wp2
  go_ret
  exact ⟨v', rfl, by rw [HE.out]; exact own_snoc hown', ((Below.refl B w).alloc hB _).grown hgrow (by simp; omega) (fun k hk => (hown.lt k hk).1)⟩

set_option maxRecDepth 100000 in
set_option maxHeartbeats 1000000 in
theorem appendPoint4 (p : Int) (w : World) (B : Nat) (v : Value) (l : List Int) (h0 : 65536 ≤ p) (h1 : p ≤ 1114111) (hp : ptB p = true) (hown : w.ownsRow B 5 1 v l.length (l.map (Value.int .u8))) (hB : B ≤ w.heap.size) (hl : l.length ≤ 70368744177664) :
    Calls Tryd.prog 96 #[v, .int .i32 p] w fun e w' => ∃ v', e = .returned v' ∧ Own w' B v' (l ++ encZ p) ∧ Below B w w' := by
  obtain ⟨i0, hi, hz0, hz1, hz2⟩ := info_parts Tryd.info5
  have HE : Hid (encZ p = [240 + p / 262144, 128 + p / 4096 % 64, 128 + p / 64 % 64, 128 + p % 64]) := enc4 h0
  have HS : Hid (sizeZ p = 4) := by unfold Hid; rw [sizeZ, if_pos hp, HE.out]; rfl
  clear hp
  go_enter Tryd.func96, Tryd.ntmps96
  go_wp2_with (first
    | (go_at_call 84; refine (size_any _ _).mono ?_; rintro e w' ⟨rfl, rfl⟩; rw [HS.out])
    | (go_at_call 108; refine (behind_any _ _ (by omega) (by omega)).mono ?_; rintro e w' ⟨rfl, rfl⟩)
    | (at_builtin; refine wpList_append_own _ rfl _ _ 31 rfl B 5 i0 (.int .u8 0) 1 1 Tryd.underlying31 hi hz0 hz1 hz2 rfl (by decide) _ _ _ rfl (hown.alloc _) ⟨w.heap.size, 0, none⟩ 4 4 ([240 + p / 262144, 128 + p / 4096 % 64, 128 + p / 64 % 64, 128 + p % 64].map (Value.int .u8)) rfl rfl (cells_new _ _ _) (ints_one _) ?c3 ?c4 ?c5 ?_))
  case c3 => unfold maxLen; omega
  case c4 => omega
  case c5 => simp; omega
  intro v' w1 hown' hgrow _
  go_wp2
  go_ret
  exact ⟨v', rfl, by rw [HE.out]; exact own_snoc hown', ((Below.refl B w).alloc hB _).grown hgrow (by simp; omega) (fun k hk => (hown.lt k hk).1)⟩

set_option maxRecDepth 100000 in
theorem appendPoint_any (p : Int) (w : World) (B : Nat) (v : Value) (l : List Int) (hp : ptB p = true) (hown : Own w B v l) (hB : B ≤ w.heap.size) (hl : l.length ≤ 70368744177664) :
    Calls Tryd.prog 96 #[v, .int .i32 p] w fun e w' => ∃ v', e = .returned v' ∧ Own w' B v' (l ++ encZ p) ∧ Below B w w' := by
  rcases pt_cases p hp with h | h | h | h
  · exact appendPoint1 p w B v l h.1 h.2 hown hB hl
  · exact appendPoint2 p w B v l h.1 h.2 hp hown hB hl
  · exact appendPoint3 p w B v l h.1 h.2 hp hown hB hl
  · exact appendPoint4 p w B v l h.1 h.2 hp hown hB hl


end Go.Proofs.YtfhgkkdbkbbpkaaDoor.Cs.Ut
