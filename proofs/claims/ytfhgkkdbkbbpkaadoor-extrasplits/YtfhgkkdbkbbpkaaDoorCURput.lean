/-
  The contracts of the reference's Point and Put.
-/
import Derived.Test.YtfhgkkdbkbbpkaaDoorCUText
import Derived.Test.YtfhgkkdbkbbpkaaDoorCUFlat
namespace Go.Proofs.YtfhgkkdbkbbpkaaDoor.Cs.Ut
open Go.RowKit
set_option linter.unusedVariables false

set_option maxRecDepth 100000 in
theorem ret_bool {a b : Bool} (h : a = b) : Ending.returned (.bool a) = .returned (.bool b) := by rw [h]
set_option maxRecDepth 100000 in
theorem rpoint_any (p : Int) (w : World) :
    Calls Tryd.prog 69 #[.int .i32 p] w fun e w' => e = .returned (.bool (ptB p)) ∧ w = w' := by
  rcases (show p < 0 ∨ (0 ≤ p ∧ p < 55296) ∨ (55296 ≤ p ∧ p ≤ 57343) ∨ (57343 < p ∧ p ≤ 1114111) ∨ 1114111 < p from by omega) with h | ⟨h, h'⟩ | ⟨h, h'⟩ | ⟨h, h'⟩ | h
  · have HP : Hid (ptB p = false) := by unfold Hid ptB; rw [decide_eq_false_iff_not]; omega
    go_enter Tryd.func69, Tryd.ntmps69
    go_wp2
    go_ret
    exact ⟨ret_bool (by first | exact HP.out.symm | (rw [HP.out]; simp; omega)), rfl⟩
  · have HP : Hid (ptB p = true) := by unfold Hid; rw [ptB_iff]; omega
    go_enter Tryd.func69, Tryd.ntmps69
    go_wp2
    go_ret
    exact ⟨ret_bool (by first | exact HP.out.symm | (rw [HP.out]; simp; omega)), rfl⟩
  · have HP : Hid (ptB p = false) := by unfold Hid ptB; rw [decide_eq_false_iff_not]; omega
    go_enter Tryd.func69, Tryd.ntmps69
    go_wp2
    go_ret
    exact ⟨ret_bool (by first | exact HP.out.symm | (rw [HP.out]; simp; omega)), rfl⟩
  · have HP : Hid (ptB p = true) := by unfold Hid; rw [ptB_iff]; omega
    go_enter Tryd.func69, Tryd.ntmps69
    go_wp2
    go_ret
    exact ⟨ret_bool (by first | exact HP.out.symm | (rw [HP.out]; simp; omega)), rfl⟩
  · have HP : Hid (ptB p = false) := by unfold Hid ptB; rw [decide_eq_false_iff_not]; omega
    go_enter Tryd.func69, Tryd.ntmps69
    go_wp2
    go_ret
    exact ⟨ret_bool (by first | exact HP.out.symm | (rw [HP.out]; simp; omega)), rfl⟩

set_option maxRecDepth 100000 in
theorem rput_no (p : Int) (w : World) (hp : ptB p = false) :
    Calls Tryd.prog 49 #[.int .i32 p] w fun e w' => e = .returned (.tuple #[.slice none 0 0, .int .i64 20]) ∧ w = w' := by
  have HP : Hid (ptB p = false) := hp
  clear hp
  go_enter Tryd.func49, Tryd.ntmps49
  go_wp2_with (go_at_call 69; refine (rpoint_any _ _).mono ?_; rintro e w' ⟨rfl, rfl⟩; rw [HP.out])
  go_ret2
  exact ⟨rfl, rfl⟩

set_option maxRecDepth 100000 in
set_option maxHeartbeats 1000000 in
theorem rput1 (p : Int) (w : World) (h0 : 0 ≤ p) (h1 : p < 128) (hp : ptB p = true) :
    Calls Tryd.prog 49 #[.int .i32 p] w fun e w' => ∃ v, e = .returned (.tuple #[v, .int .i64 0]) ∧ Own w' w.heap.size v (encZ p) ∧ Below w.heap.size w w' := by
  obtain ⟨i0, hi, hz0, hz1, hz2⟩ := info_parts Tryd.info5
  have HE : Hid (encZ p = [p]) := enc1 h1
  have HP : Hid (ptB p = true) := hp
  clear hp
  go_enter Tryd.func49, Tryd.ntmps49
  go_wp2_with (first
    | (go_at_call 69; refine (rpoint_any _ _).mono ?_; rintro e w' ⟨rfl, rfl⟩; rw [HP.out])
    | (at_builtin; refine wpList_append_own _ rfl _ _ 31 rfl w.heap.size 5 i0 (.int .u8 0) 1 1 Tryd.underlying31 hi hz0 hz1 hz2 rfl (by decide) _ _ _ rfl ((World.ownsRow_nil w w.heap.size 5 1).alloc _) ⟨w.heap.size, 0, none⟩ 1 1 ([p].map (Value.int .u8)) rfl rfl (cells_new _ _ _) (ints_one _) ?c3 ?c4 ?c5 ?_))
  case c3 => unfold maxLen; omega
  case c4 => omega
  case c5 => simp
  intro v' w1 hown' hgrow _
  go_wp2
  go_ret2
  exact ⟨v', rfl, by rw [HE.out]; exact own_snoc (l := []) hown', ((Below.refl _ w).alloc (Nat.le_refl _) _).grown hgrow (by simp) (by intro k hk; simp [Value.ownBlock] at hk)⟩

set_option maxRecDepth 100000 in
set_option maxHeartbeats 1000000 in
theorem rput2 (p : Int) (w : World) (h0 : 128 ≤ p) (h1 : p < 2048) (hp : ptB p = true) :
    Calls Tryd.prog 49 #[.int .i32 p] w fun e w' => ∃ v, e = .returned (.tuple #[v, .int .i64 0]) ∧ Own w' w.heap.size v (encZ p) ∧ Below w.heap.size w w' := by
  obtain ⟨i0, hi, hz0, hz1, hz2⟩ := info_parts Tryd.info5
  have HE : Hid (encZ p = [192 + p / 64, 128 + p % 64]) := enc2 h0 h1
  have HP : Hid (ptB p = true) := hp
  clear hp
  go_enter Tryd.func49, Tryd.ntmps49
  go_wp2_with (first
    | (go_at_call 69; refine (rpoint_any _ _).mono ?_; rintro e w' ⟨rfl, rfl⟩; rw [HP.out])
    | (at_builtin; refine wpList_append_own _ rfl _ _ 31 rfl w.heap.size 5 i0 (.int .u8 0) 1 1 Tryd.underlying31 hi hz0 hz1 hz2 rfl (by decide) _ _ _ rfl ((World.ownsRow_nil w w.heap.size 5 1).alloc _) ⟨w.heap.size, 0, none⟩ 2 2 ([192 + p / 64, 128 + p % 64].map (Value.int .u8)) rfl rfl (cells_new _ _ _) (ints_one _) ?c3 ?c4 ?c5 ?_))
  case c3 => unfold maxLen; omega
  case c4 => omega
  case c5 => simp
  intro v' w1 hown' hgrow _
  go_wp2
  go_ret2
  exact ⟨v', rfl, by rw [HE.out]; exact own_snoc (l := []) hown', ((Below.refl _ w).alloc (Nat.le_refl _) _).grown hgrow (by simp) (by intro k hk; simp [Value.ownBlock] at hk)⟩

set_option maxRecDepth 100000 in
set_option maxHeartbeats 1000000 in
theorem rput3 (p : Int) (w : World) (h0 : 2048 ≤ p) (h1 : p < 65536) (hp : ptB p = true) :
    Calls Tryd.prog 49 #[.int .i32 p] w fun e w' => ∃ v, e = .returned (.tuple #[v, .int .i64 0]) ∧ Own w' w.heap.size v (encZ p) ∧ Below w.heap.size w w' := by
  obtain ⟨i0, hi, hz0, hz1, hz2⟩ := info_parts Tryd.info5
  have HE : Hid (encZ p = [224 + p / 4096, 128 + p / 64 % 64, 128 + p % 64]) := enc3 h0 h1
  have HP : Hid (ptB p = true) := hp
  clear hp
  go_enter Tryd.func49, Tryd.ntmps49
  go_wp2_with (first
    | (go_at_call 69; refine (rpoint_any _ _).mono ?_; rintro e w' ⟨rfl, rfl⟩; rw [HP.out])
    | (at_builtin; refine wpList_append_own _ rfl _ _ 31 rfl w.heap.size 5 i0 (.int .u8 0) 1 1 Tryd.underlying31 hi hz0 hz1 hz2 rfl (by decide) _ _ _ rfl ((World.ownsRow_nil w w.heap.size 5 1).alloc _) ⟨w.heap.size, 0, none⟩ 3 3 ([224 + p / 4096, 128 + p / 64 % 64, 128 + p % 64].map (Value.int .u8)) rfl rfl (cells_new _ _ _) (ints_one _) ?c3 ?c4 ?c5 ?_))
  case c3 => unfold maxLen; omega
  case c4 => omega
  case c5 => simp
  intro v' w1 hown' hgrow _
  go_wp2
  go_ret2
  exact ⟨v', rfl, by rw [HE.out]; exact own_snoc (l := []) hown', ((Below.refl _ w).alloc (Nat.le_refl _) _).grown hgrow (by simp) (by intro k hk; simp [Value.ownBlock] at hk)⟩

set_option maxRecDepth 100000 in
set_option maxHeartbeats 1000000 in
theorem rput4 (p : Int) (w : World) (h0 : 65536 ≤ p) (h1 : p ≤ 1114111) (hp : ptB p = true) :
    Calls Tryd.prog 49 #[.int .i32 p] w fun e w' => ∃ v, e = .returned (.tuple #[v, .int .i64 0]) ∧ Own w' w.heap.size v (encZ p) ∧ Below w.heap.size w w' := by
  obtain ⟨i0, hi, hz0, hz1, hz2⟩ := info_parts Tryd.info5
  have HE : Hid (encZ p = [240 + p / 262144, 128 + p / 4096 % 64, 128 + p / 64 % 64, 128 + p % 64]) := enc4 h0
  have HP : Hid (ptB p = true) := hp
  clear hp
  go_enter Tryd.func49, Tryd.ntmps49
  go_wp2_with (first
    | (go_at_call 69; refine (rpoint_any _ _).mono ?_; rintro e w' ⟨rfl, rfl⟩; rw [HP.out])
    | (at_builtin; refine wpList_append_own _ rfl _ _ 31 rfl w.heap.size 5 i0 (.int .u8 0) 1 1 Tryd.underlying31 hi hz0 hz1 hz2 rfl (by decide) _ _ _ rfl ((World.ownsRow_nil w w.heap.size 5 1).alloc _) ⟨w.heap.size, 0, none⟩ 4 4 ([240 + p / 262144, 128 + p / 4096 % 64, 128 + p / 64 % 64, 128 + p % 64].map (Value.int .u8)) rfl rfl (cells_new _ _ _) (ints_one _) ?c3 ?c4 ?c5 ?_))
  case c3 => unfold maxLen; omega
  case c4 => omega
  case c5 => simp
  intro v' w1 hown' hgrow _
  go_wp2
  go_ret2
  exact ⟨v', rfl, by rw [HE.out]; exact own_snoc (l := []) hown', ((Below.refl _ w).alloc (Nat.le_refl _) _).grown hgrow (by simp) (by intro k hk; simp [Value.ownBlock] at hk)⟩

set_option maxRecDepth 100000 in
theorem rput_yes (p : Int) (w : World) (hp : ptB p = true) :
    Calls Tryd.prog 49 #[.int .i32 p] w fun e w' => ∃ v, e = .returned (.tuple #[v, .int .i64 0]) ∧ Own w' w.heap.size v (encZ p) ∧ Below w.heap.size w w' := by
  rcases pt_cases p hp with h | h | h | h
  · exact rput1 p w h.1 h.2 hp
  · exact rput2 p w h.1 h.2 hp
  · exact rput3 p w h.1 h.2 hp
  · exact rput4 p w h.1 h.2 hp
end Go.Proofs.YtfhgkkdbkbbpkaaDoor.Cs.Ut
