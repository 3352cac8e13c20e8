/-
  The contracts of first and Next.
-/
import Derived.Test.YtfhgkkdbkbbpkaaDoorCUPut
import Derived.ScopeJumps
namespace Go.Proofs.YtfhgkkdbkbbpkaaDoor.Cs.Ut
open Go.RowKit
set_option linter.unusedVariables false

set_option maxRecDepth 100000 in
theorem first1 (c : Int) (w : World) (h0 : 0 ≤ c) (h1 : c < 128) :
    Calls Tryd.prog 83 #[.int .u8 c] w fun e w' => e = .returned (.tuple #[.int .i32 c, .int .i64 1]) ∧ w = w' := by
  go_enter Tryd.func83, Tryd.ntmps83
  go_wp2
  go_ret2
  exact ⟨rfl, rfl⟩
set_option maxRecDepth 100000 in
theorem first2 (c : Int) (w : World) (h0 : 192 ≤ c) (h1 : c < 224) :
    Calls Tryd.prog 83 #[.int .u8 c] w fun e w' => e = .returned (.tuple #[.int .i32 (c % 32), .int .i64 2]) ∧ w = w' := by
  have hb := u8_and31 c (by omega) (by omega)
  have h2 : (c / 32 == 6) = true := by rw [beq_iff_eq]; omega
  go_enter Tryd.func83, Tryd.ntmps83
  go_wp2
  go_ret2
  exact ⟨rfl, rfl⟩
set_option maxRecDepth 100000 in
theorem first3 (c : Int) (w : World) (h0 : 224 ≤ c) (h1 : c < 240) :
    Calls Tryd.prog 83 #[.int .u8 c] w fun e w' => e = .returned (.tuple #[.int .i32 (c % 16), .int .i64 3]) ∧ w = w' := by
  have hb := u8_and15 c (by omega) (by omega)
  go_enter Tryd.func83, Tryd.ntmps83
  go_wp2
  go_ret2
  exact ⟨rfl, rfl⟩
set_option maxRecDepth 100000 in
theorem first4 (c : Int) (w : World) (h0 : 240 ≤ c) (h1 : c < 248) :
    Calls Tryd.prog 83 #[.int .u8 c] w fun e w' => e = .returned (.tuple #[.int .i32 (c % 8), .int .i64 4]) ∧ w = w' := by
  have hb := u8_and7 c (by omega) (by omega)
  go_enter Tryd.func83, Tryd.ntmps83
  go_wp2
  go_ret2
  exact ⟨rfl, rfl⟩
set_option maxRecDepth 100000 in
theorem first0 (c : Int) (w : World) (h0 : 128 ≤ c ∧ c < 192 ∨ 248 ≤ c ∧ c < 256) :
    Calls Tryd.prog 83 #[.int .u8 c] w fun e w' => e = .returned (.tuple #[.int .i32 0, .int .i64 0]) ∧ w = w' := by
  rcases h0 with ⟨h0, h1⟩ | ⟨h0, h1⟩
  all_goals
    go_enter Tryd.func83, Tryd.ntmps83
    go_wp2
    go_ret2
    exact ⟨rfl, rfl⟩

theorem jump_ret {l : Nat} {J : Act → World → Prop} {Q : Exit → Act → World → Prop} {a : Act} {w : World} : Exit.jump l J Q .ret a w = Q .ret a w := rfl
theorem fault3 (t : Array Value) (h : t.size = 51) (x y z : Value) :
    Ending.returned (.tuple #[(((t.setIfInBounds 2 x).setIfInBounds 3 y).setIfInBounds 4 z).getD 2 undef, (((t.setIfInBounds 2 x).setIfInBounds 3 y).setIfInBounds 4 z).getD 3 undef, (((t.setIfInBounds 2 x).setIfInBounds 3 y).setIfInBounds 4 z).getD 4 undef]) = .returned (.tuple #[x, y, z]) := by
  simp [Array.getD_eq_getD_getElem?, h]

set_option maxRecDepth 100000 in
set_option maxHeartbeats 400000 in
theorem next1 (b off len cap : Nat) (c : Int) (w : World) (hc0 : 0 ≤ c) (hc1 : c < 128) (hs : sizeZ (c) = 1) (hlen : 1 ≤ len) (hcap : len ≤ cap)
    (hm : cap ≤ maxLen) (c0 : w.cell? ⟨b, off, none⟩ = some (.int .u8 c)) :
    Calls Tryd.prog 65 #[.slice (some ⟨b, off, none⟩) len cap] w fun e w' => e = .returned (.tuple #[.int .i32 (c), .int .i64 1, .int .i64 0]) ∧ w = w' := by
  unfold maxLen at hm
  have HS : Hid (sizeZ (c) = 1) := hs
  clear hs
  go_enter Tryd.func65, Tryd.ntmps65
  go_wp2
  go_step3
  go_wp2_with (go_at_call 83; refine (first1 _ _ (by omega) (by omega)).mono ?_; rintro e w' ⟨rfl, rfl⟩)
  all_goals
    refine wp_loop_rounds 1 ?_; rw [rounds_succ]
    go_wp2_with (go_at_call 84; refine (size_any _ _).mono ?_; rintro e w' ⟨rfl, rfl⟩; rw [HS.out])
    (try rw [Exit.noGoto_ret])
    go_ret3
    exact ⟨rfl, rfl⟩

set_option maxRecDepth 100000 in
set_option maxHeartbeats 400000 in
theorem next2 (b off len cap : Nat) (c d : Int) (w : World) (hc0 : 192 ≤ c) (hc1 : c < 224) (hd0 : 128 ≤ d) (hd1 : d < 192) (hs : sizeZ (c % 32 * 64 + d % 64) = 2) (hlen : 2 ≤ len) (hcap : len ≤ cap)
    (hm : cap ≤ maxLen) (c0 : w.cell? ⟨b, off, none⟩ = some (.int .u8 c)) (c1 : w.cell? ⟨b, off + 1, none⟩ = some (.int .u8 d)) :
    Calls Tryd.prog 65 #[.slice (some ⟨b, off, none⟩) len cap] w fun e w' => e = .returned (.tuple #[.int .i32 (c % 32 * 64 + d % 64), .int .i64 2, .int .i64 0]) ∧ w = w' := by
  unfold maxLen at hm
  have HS : Hid (sizeZ (c % 32 * 64 + d % 64) = 2) := hs
  have hd2 : (d / 64 != 2) = false := by simp; omega
  have hbd := u8_and63 d (by omega) (by omega)
  clear hs
  go_enter Tryd.func65, Tryd.ntmps65
  go_wp2
  go_step3
  go_wp2_with (go_at_call 83; refine (first2 _ _ (by omega) (by omega)).mono ?_; rintro e w' ⟨rfl, rfl⟩)
  refine wp_loop_rounds 2 ?_; rw [rounds_succ]
  go_wp2
  rw [rounds_succ]
  go_wp2_with (go_at_call 84; refine (size_any _ _).mono ?_; rintro e w' ⟨rfl, rfl⟩; rw [HS.out])
  try rw [Exit.noGoto_ret]
  go_ret3
  exact ⟨rfl, rfl⟩

set_option maxRecDepth 100000 in
set_option maxHeartbeats 400000 in
theorem next3 (b off len cap : Nat) (c d g : Int) (w : World) (hc0 : 224 ≤ c) (hc1 : c < 240) (hd0 : 128 ≤ d) (hd1 : d < 192) (hg0 : 128 ≤ g) (hg1 : g < 192) (hs : sizeZ ((c % 16 * 64 + d % 64) * 64 + g % 64) = 3) (hlen : 3 ≤ len) (hcap : len ≤ cap)
    (hm : cap ≤ maxLen) (c0 : w.cell? ⟨b, off, none⟩ = some (.int .u8 c)) (c1 : w.cell? ⟨b, off + 1, none⟩ = some (.int .u8 d)) (c2 : w.cell? ⟨b, off + 2, none⟩ = some (.int .u8 g)) :
    Calls Tryd.prog 65 #[.slice (some ⟨b, off, none⟩) len cap] w fun e w' => e = .returned (.tuple #[.int .i32 ((c % 16 * 64 + d % 64) * 64 + g % 64), .int .i64 3, .int .i64 0]) ∧ w = w' := by
  unfold maxLen at hm
  have HS : Hid (sizeZ ((c % 16 * 64 + d % 64) * 64 + g % 64) = 3) := hs
  have hd2 : (d / 64 != 2) = false := by simp; omega
  have hbd := u8_and63 d (by omega) (by omega)
  have hg2 : (g / 64 != 2) = false := by simp; omega
  have hbg := u8_and63 g (by omega) (by omega)
  clear hs
  go_enter Tryd.func65, Tryd.ntmps65
  go_wp2
  go_step3
  go_wp2_with (go_at_call 83; refine (first3 _ _ (by omega) (by omega)).mono ?_; rintro e w' ⟨rfl, rfl⟩)
  refine wp_loop_rounds 3 ?_; rw [rounds_succ]
  go_wp2
  rw [rounds_succ]
  go_wp2
  rw [rounds_succ]
  go_wp2_with (go_at_call 84; refine (size_any _ _).mono ?_; rintro e w' ⟨rfl, rfl⟩; rw [HS.out])
  try rw [Exit.noGoto_ret]
  go_ret3
  exact ⟨rfl, rfl⟩

set_option maxRecDepth 100000 in
set_option maxHeartbeats 400000 in
theorem next4 (b off len cap : Nat) (c d g k : Int) (w : World) (hc0 : 240 ≤ c) (hc1 : c < 248) (hd0 : 128 ≤ d) (hd1 : d < 192) (hg0 : 128 ≤ g) (hg1 : g < 192) (hk0 : 128 ≤ k) (hk1 : k < 192) (hs : sizeZ (((c % 8 * 64 + d % 64) * 64 + g % 64) * 64 + k % 64) = 4) (hlen : 4 ≤ len) (hcap : len ≤ cap)
    (hm : cap ≤ maxLen) (c0 : w.cell? ⟨b, off, none⟩ = some (.int .u8 c)) (c1 : w.cell? ⟨b, off + 1, none⟩ = some (.int .u8 d)) (c2 : w.cell? ⟨b, off + 2, none⟩ = some (.int .u8 g)) (c3 : w.cell? ⟨b, off + 3, none⟩ = some (.int .u8 k)) :
    Calls Tryd.prog 65 #[.slice (some ⟨b, off, none⟩) len cap] w fun e w' => e = .returned (.tuple #[.int .i32 (((c % 8 * 64 + d % 64) * 64 + g % 64) * 64 + k % 64), .int .i64 4, .int .i64 0]) ∧ w = w' := by
  unfold maxLen at hm
  have HS : Hid (sizeZ (((c % 8 * 64 + d % 64) * 64 + g % 64) * 64 + k % 64) = 4) := hs
  have hd2 : (d / 64 != 2) = false := by simp; omega
  have hbd := u8_and63 d (by omega) (by omega)
  have hg2 : (g / 64 != 2) = false := by simp; omega
  have hbg := u8_and63 g (by omega) (by omega)
  have hk2 : (k / 64 != 2) = false := by simp; omega
  have hbk := u8_and63 k (by omega) (by omega)
  clear hs
  go_enter Tryd.func65, Tryd.ntmps65
  go_wp2
  go_step3
  go_wp2_with (go_at_call 83; refine (first4 _ _ (by omega) (by omega)).mono ?_; rintro e w' ⟨rfl, rfl⟩)
  refine wp_loop_rounds 4 ?_; rw [rounds_succ]
  go_wp2
  rw [rounds_succ]
  go_wp2
  rw [rounds_succ]
  go_wp2
  rw [rounds_succ]
  go_wp2_with (go_at_call 84; refine (size_any _ _).mono ?_; rintro e w' ⟨rfl, rfl⟩; rw [HS.out])
  try rw [Exit.noGoto_ret]
  go_ret3
  exact ⟨rfl, rfl⟩

set_option maxRecDepth 100000 in
set_option maxHeartbeats 400000 in
theorem nextf0 (b off len cap : Nat) (c : Int) (w : World) (hc : 128 ≤ c ∧ c < 192 ∨ 248 ≤ c ∧ c < 256) (hlen : 1 ≤ len) (hcap : len ≤ cap)
    (hm : cap ≤ maxLen) (c0 : w.cell? ⟨b, off, none⟩ = some (.int .u8 c)) :
    Calls Tryd.prog 65 #[.slice (some ⟨b, off, none⟩) len cap] w fun e w' => e = .returned (.tuple #[.int .i32 0, .int .i64 0, .int .i64 20]) ∧ w = w' := by
  unfold maxLen at hm
  have HC : Hid (128 ≤ c ∧ c < 192 ∨ 248 ≤ c ∧ c < 256) := hc
  clear hc
  go_enter Tryd.func65, Tryd.ntmps65
  go_wp2
  refine wp_scope_jumps 0 (fun a' w' => w' = w ∧ a'.defers = [] ∧ a'.tmps.size = 51) (fun _ _ => 0) rfl ?_ ?_
  · go_wp2_with (go_at_call 83; refine (first0 _ _ HC.out).mono ?_; rintro e w' ⟨rfl, rfl⟩)
    go_step3
    exact ⟨rfl, rfl, rfl, rfl⟩
  · rintro ⟨t, df⟩ w' ⟨rfl, rfl, hsz⟩
    go_wp2
    rw [jump_ret]
    go_ret3
    exact ⟨fault3 t hsz _ _ _, rfl⟩

set_option maxRecDepth 100000 in
set_option maxHeartbeats 400000 in
theorem nexts2 (b off len cap : Nat) (c : Int) (w : World) (hc0 : 192 ≤ c) (hc1 : c < 224) (hlen : 1 ≤ len) (hle : len < 2) (hcap : len ≤ cap)
    (hm : cap ≤ maxLen) (c0 : w.cell? ⟨b, off, none⟩ = some (.int .u8 c)) :
    Calls Tryd.prog 65 #[.slice (some ⟨b, off, none⟩) len cap] w fun e w' => e = .returned (.tuple #[.int .i32 0, .int .i64 0, .int .i64 20]) ∧ w = w' := by
  unfold maxLen at hm
  go_enter Tryd.func65, Tryd.ntmps65
  go_wp2
  refine wp_scope_jumps 0 (fun a' w' => w' = w ∧ a'.defers = [] ∧ a'.tmps.size = 51) (fun _ _ => 0) rfl ?_ ?_
  · go_wp2_with (go_at_call 83; refine (first2 _ _ (by omega) (by omega)).mono ?_; rintro e w' ⟨rfl, rfl⟩)
    go_step3
    exact ⟨rfl, rfl, rfl, rfl⟩
  · rintro ⟨t, df⟩ w' ⟨rfl, rfl, hsz⟩
    go_wp2
    rw [jump_ret]
    go_ret3
    exact ⟨fault3 t hsz _ _ _, rfl⟩

set_option maxRecDepth 100000 in
set_option maxHeartbeats 400000 in
theorem nextb2d (b off len cap : Nat) (c d : Int) (w : World) (hc0 : 192 ≤ c) (hc1 : c < 224) (hx0 : 0 ≤ d) (hx1 : d < 256) (hx : d < 128 ∨ 192 ≤ d) (hlen : 2 ≤ len) (hcap : len ≤ cap)
    (hm : cap ≤ maxLen) (c0 : w.cell? ⟨b, off, none⟩ = some (.int .u8 c)) (c1 : w.cell? ⟨b, off + 1, none⟩ = some (.int .u8 d)) :
    Calls Tryd.prog 65 #[.slice (some ⟨b, off, none⟩) len cap] w fun e w' => e = .returned (.tuple #[.int .i32 0, .int .i64 0, .int .i64 20]) ∧ w = w' := by
  unfold maxLen at hm
  have hx2 : (d / 64 != 2) = true := by simp; omega
  clear hx
  go_enter Tryd.func65, Tryd.ntmps65
  go_wp2
  refine wp_scope_jumps 0 (fun a' w' => w' = w ∧ a'.defers = [] ∧ a'.tmps.size = 51) (fun _ _ => 0) rfl ?_ ?_
  · go_wp2_with (go_at_call 83; refine (first2 _ _ (by omega) (by omega)).mono ?_; rintro e w' ⟨rfl, rfl⟩)
    refine wp_loop_rounds 1 ?_; rw [rounds_succ]
    go_wp2
    go_step3
    exact ⟨rfl, rfl, rfl, rfl⟩
  · rintro ⟨t, df⟩ w' ⟨rfl, rfl, hsz⟩
    go_wp2
    rw [jump_ret]
    go_ret3
    exact ⟨fault3 t hsz _ _ _, rfl⟩

set_option maxRecDepth 100000 in
set_option maxHeartbeats 400000 in
theorem nextz2 (b off len cap : Nat) (c d : Int) (w : World) (hc0 : 192 ≤ c) (hc1 : c < 224) (hd0 : 128 ≤ d) (hd1 : d < 192) (hs : sizeZ (c % 32 * 64 + d % 64) ≠ 2) (hlen : 2 ≤ len) (hcap : len ≤ cap)
    (hm : cap ≤ maxLen) (c0 : w.cell? ⟨b, off, none⟩ = some (.int .u8 c)) (c1 : w.cell? ⟨b, off + 1, none⟩ = some (.int .u8 d)) :
    Calls Tryd.prog 65 #[.slice (some ⟨b, off, none⟩) len cap] w fun e w' => e = .returned (.tuple #[.int .i32 0, .int .i64 0, .int .i64 20]) ∧ w = w' := by
  unfold maxLen at hm
  have hd2 : (d / 64 != 2) = false := by simp; omega
  have hbd := u8_and63 d (by omega) (by omega)
  have hsz : (sizeZ (c % 32 * 64 + d % 64) != 2) = true := by rw [bne_iff_ne]; exact hs
  clear hs
  go_enter Tryd.func65, Tryd.ntmps65
  go_wp2
  refine wp_scope_jumps 0 (fun a' w' => w' = w ∧ a'.defers = [] ∧ a'.tmps.size = 51) (fun _ _ => 0) rfl ?_ ?_
  · go_wp2_with (go_at_call 83; refine (first2 _ _ (by omega) (by omega)).mono ?_; rintro e w' ⟨rfl, rfl⟩)
    refine wp_loop_rounds 2 ?_; rw [rounds_succ]
    go_wp2
    rw [rounds_succ]
    go_wp2_with (go_at_call 84; refine (size_any _ _).mono ?_; rintro e w' ⟨rfl, rfl⟩)
    go_step3
    exact ⟨rfl, rfl, rfl, rfl⟩
  · rintro ⟨t, df⟩ w' ⟨rfl, rfl, hsz⟩
    go_wp2
    rw [jump_ret]
    go_ret3
    exact ⟨fault3 t hsz _ _ _, rfl⟩

set_option maxRecDepth 100000 in
set_option maxHeartbeats 400000 in
theorem nexts3 (b off len cap : Nat) (c : Int) (w : World) (hc0 : 224 ≤ c) (hc1 : c < 240) (hlen : 1 ≤ len) (hle : len < 3) (hcap : len ≤ cap)
    (hm : cap ≤ maxLen) (c0 : w.cell? ⟨b, off, none⟩ = some (.int .u8 c)) :
    Calls Tryd.prog 65 #[.slice (some ⟨b, off, none⟩) len cap] w fun e w' => e = .returned (.tuple #[.int .i32 0, .int .i64 0, .int .i64 20]) ∧ w = w' := by
  unfold maxLen at hm
  go_enter Tryd.func65, Tryd.ntmps65
  go_wp2
  refine wp_scope_jumps 0 (fun a' w' => w' = w ∧ a'.defers = [] ∧ a'.tmps.size = 51) (fun _ _ => 0) rfl ?_ ?_
  · go_wp2_with (go_at_call 83; refine (first3 _ _ (by omega) (by omega)).mono ?_; rintro e w' ⟨rfl, rfl⟩)
    go_step3
    exact ⟨rfl, rfl, rfl, rfl⟩
  · rintro ⟨t, df⟩ w' ⟨rfl, rfl, hsz⟩
    go_wp2
    rw [jump_ret]
    go_ret3
    exact ⟨fault3 t hsz _ _ _, rfl⟩

set_option maxRecDepth 100000 in
set_option maxHeartbeats 400000 in
theorem nextb3d (b off len cap : Nat) (c d : Int) (w : World) (hc0 : 224 ≤ c) (hc1 : c < 240) (hx0 : 0 ≤ d) (hx1 : d < 256) (hx : d < 128 ∨ 192 ≤ d) (hlen : 3 ≤ len) (hcap : len ≤ cap)
    (hm : cap ≤ maxLen) (c0 : w.cell? ⟨b, off, none⟩ = some (.int .u8 c)) (c1 : w.cell? ⟨b, off + 1, none⟩ = some (.int .u8 d)) :
    Calls Tryd.prog 65 #[.slice (some ⟨b, off, none⟩) len cap] w fun e w' => e = .returned (.tuple #[.int .i32 0, .int .i64 0, .int .i64 20]) ∧ w = w' := by
  unfold maxLen at hm
  have hx2 : (d / 64 != 2) = true := by simp; omega
  clear hx
  go_enter Tryd.func65, Tryd.ntmps65
  go_wp2
  refine wp_scope_jumps 0 (fun a' w' => w' = w ∧ a'.defers = [] ∧ a'.tmps.size = 51) (fun _ _ => 0) rfl ?_ ?_
  · go_wp2_with (go_at_call 83; refine (first3 _ _ (by omega) (by omega)).mono ?_; rintro e w' ⟨rfl, rfl⟩)
    refine wp_loop_rounds 1 ?_; rw [rounds_succ]
    go_wp2
    go_step3
    exact ⟨rfl, rfl, rfl, rfl⟩
  · rintro ⟨t, df⟩ w' ⟨rfl, rfl, hsz⟩
    go_wp2
    rw [jump_ret]
    go_ret3
    exact ⟨fault3 t hsz _ _ _, rfl⟩

set_option maxRecDepth 100000 in
set_option maxHeartbeats 400000 in
theorem nextb3g (b off len cap : Nat) (c d g : Int) (w : World) (hc0 : 224 ≤ c) (hc1 : c < 240) (hd0 : 128 ≤ d) (hd1 : d < 192) (hx0 : 0 ≤ g) (hx1 : g < 256) (hx : g < 128 ∨ 192 ≤ g) (hlen : 3 ≤ len) (hcap : len ≤ cap)
    (hm : cap ≤ maxLen) (c0 : w.cell? ⟨b, off, none⟩ = some (.int .u8 c)) (c1 : w.cell? ⟨b, off + 1, none⟩ = some (.int .u8 d)) (c2 : w.cell? ⟨b, off + 2, none⟩ = some (.int .u8 g)) :
    Calls Tryd.prog 65 #[.slice (some ⟨b, off, none⟩) len cap] w fun e w' => e = .returned (.tuple #[.int .i32 0, .int .i64 0, .int .i64 20]) ∧ w = w' := by
  unfold maxLen at hm
  have hd2 : (d / 64 != 2) = false := by simp; omega
  have hbd := u8_and63 d (by omega) (by omega)
  have hx2 : (g / 64 != 2) = true := by simp; omega
  clear hx
  go_enter Tryd.func65, Tryd.ntmps65
  go_wp2
  refine wp_scope_jumps 0 (fun a' w' => w' = w ∧ a'.defers = [] ∧ a'.tmps.size = 51) (fun _ _ => 0) rfl ?_ ?_
  · go_wp2_with (go_at_call 83; refine (first3 _ _ (by omega) (by omega)).mono ?_; rintro e w' ⟨rfl, rfl⟩)
    refine wp_loop_rounds 2 ?_; rw [rounds_succ]
    go_wp2
    rw [rounds_succ]
    go_wp2
    go_step3
    exact ⟨rfl, rfl, rfl, rfl⟩
  · rintro ⟨t, df⟩ w' ⟨rfl, rfl, hsz⟩
    go_wp2
    rw [jump_ret]
    go_ret3
    exact ⟨fault3 t hsz _ _ _, rfl⟩

set_option maxRecDepth 100000 in
set_option maxHeartbeats 400000 in
theorem nextz3 (b off len cap : Nat) (c d g : Int) (w : World) (hc0 : 224 ≤ c) (hc1 : c < 240) (hd0 : 128 ≤ d) (hd1 : d < 192) (hg0 : 128 ≤ g) (hg1 : g < 192) (hs : sizeZ ((c % 16 * 64 + d % 64) * 64 + g % 64) ≠ 3) (hlen : 3 ≤ len) (hcap : len ≤ cap)
    (hm : cap ≤ maxLen) (c0 : w.cell? ⟨b, off, none⟩ = some (.int .u8 c)) (c1 : w.cell? ⟨b, off + 1, none⟩ = some (.int .u8 d)) (c2 : w.cell? ⟨b, off + 2, none⟩ = some (.int .u8 g)) :
    Calls Tryd.prog 65 #[.slice (some ⟨b, off, none⟩) len cap] w fun e w' => e = .returned (.tuple #[.int .i32 0, .int .i64 0, .int .i64 20]) ∧ w = w' := by
  unfold maxLen at hm
  have hd2 : (d / 64 != 2) = false := by simp; omega
  have hbd := u8_and63 d (by omega) (by omega)
  have hg2 : (g / 64 != 2) = false := by simp; omega
  have hbg := u8_and63 g (by omega) (by omega)
  have hsz : (sizeZ ((c % 16 * 64 + d % 64) * 64 + g % 64) != 3) = true := by rw [bne_iff_ne]; exact hs
  clear hs
  go_enter Tryd.func65, Tryd.ntmps65
  go_wp2
  refine wp_scope_jumps 0 (fun a' w' => w' = w ∧ a'.defers = [] ∧ a'.tmps.size = 51) (fun _ _ => 0) rfl ?_ ?_
  · go_wp2_with (go_at_call 83; refine (first3 _ _ (by omega) (by omega)).mono ?_; rintro e w' ⟨rfl, rfl⟩)
    refine wp_loop_rounds 3 ?_; rw [rounds_succ]
    go_wp2
    rw [rounds_succ]
    go_wp2
    rw [rounds_succ]
    go_wp2_with (go_at_call 84; refine (size_any _ _).mono ?_; rintro e w' ⟨rfl, rfl⟩)
    go_step3
    exact ⟨rfl, rfl, rfl, rfl⟩
  · rintro ⟨t, df⟩ w' ⟨rfl, rfl, hsz⟩
    go_wp2
    rw [jump_ret]
    go_ret3
    exact ⟨fault3 t hsz _ _ _, rfl⟩

set_option maxRecDepth 100000 in
set_option maxHeartbeats 400000 in
theorem nexts4 (b off len cap : Nat) (c : Int) (w : World) (hc0 : 240 ≤ c) (hc1 : c < 248) (hlen : 1 ≤ len) (hle : len < 4) (hcap : len ≤ cap)
    (hm : cap ≤ maxLen) (c0 : w.cell? ⟨b, off, none⟩ = some (.int .u8 c)) :
    Calls Tryd.prog 65 #[.slice (some ⟨b, off, none⟩) len cap] w fun e w' => e = .returned (.tuple #[.int .i32 0, .int .i64 0, .int .i64 20]) ∧ w = w' := by
  unfold maxLen at hm
  go_enter Tryd.func65, Tryd.ntmps65
  go_wp2
  refine wp_scope_jumps 0 (fun a' w' => w' = w ∧ a'.defers = [] ∧ a'.tmps.size = 51) (fun _ _ => 0) rfl ?_ ?_
  · go_wp2_with (go_at_call 83; refine (first4 _ _ (by omega) (by omega)).mono ?_; rintro e w' ⟨rfl, rfl⟩)
    go_step3
    exact ⟨rfl, rfl, rfl, rfl⟩
  · rintro ⟨t, df⟩ w' ⟨rfl, rfl, hsz⟩
    go_wp2
    rw [jump_ret]
    go_ret3
    exact ⟨fault3 t hsz _ _ _, rfl⟩

set_option maxRecDepth 100000 in
set_option maxHeartbeats 400000 in
theorem nextb4d (b off len cap : Nat) (c d : Int) (w : World) (hc0 : 240 ≤ c) (hc1 : c < 248) (hx0 : 0 ≤ d) (hx1 : d < 256) (hx : d < 128 ∨ 192 ≤ d) (hlen : 4 ≤ len) (hcap : len ≤ cap)
    (hm : cap ≤ maxLen) (c0 : w.cell? ⟨b, off, none⟩ = some (.int .u8 c)) (c1 : w.cell? ⟨b, off + 1, none⟩ = some (.int .u8 d)) :
    Calls Tryd.prog 65 #[.slice (some ⟨b, off, none⟩) len cap] w fun e w' => e = .returned (.tuple #[.int .i32 0, .int .i64 0, .int .i64 20]) ∧ w = w' := by
  unfold maxLen at hm
  have hx2 : (d / 64 != 2) = true := by simp; omega
  clear hx
  go_enter Tryd.func65, Tryd.ntmps65
  go_wp2
  refine wp_scope_jumps 0 (fun a' w' => w' = w ∧ a'.defers = [] ∧ a'.tmps.size = 51) (fun _ _ => 0) rfl ?_ ?_
  · go_wp2_with (go_at_call 83; refine (first4 _ _ (by omega) (by omega)).mono ?_; rintro e w' ⟨rfl, rfl⟩)
    refine wp_loop_rounds 1 ?_; rw [rounds_succ]
    go_wp2
    go_step3
    exact ⟨rfl, rfl, rfl, rfl⟩
  · rintro ⟨t, df⟩ w' ⟨rfl, rfl, hsz⟩
    go_wp2
    rw [jump_ret]
    go_ret3
    exact ⟨fault3 t hsz _ _ _, rfl⟩

set_option maxRecDepth 100000 in
set_option maxHeartbeats 400000 in
theorem nextb4g (b off len cap : Nat) (c d g : Int) (w : World) (hc0 : 240 ≤ c) (hc1 : c < 248) (hd0 : 128 ≤ d) (hd1 : d < 192) (hx0 : 0 ≤ g) (hx1 : g < 256) (hx : g < 128 ∨ 192 ≤ g) (hlen : 4 ≤ len) (hcap : len ≤ cap)
    (hm : cap ≤ maxLen) (c0 : w.cell? ⟨b, off, none⟩ = some (.int .u8 c)) (c1 : w.cell? ⟨b, off + 1, none⟩ = some (.int .u8 d)) (c2 : w.cell? ⟨b, off + 2, none⟩ = some (.int .u8 g)) :
    Calls Tryd.prog 65 #[.slice (some ⟨b, off, none⟩) len cap] w fun e w' => e = .returned (.tuple #[.int .i32 0, .int .i64 0, .int .i64 20]) ∧ w = w' := by
  unfold maxLen at hm
  have hd2 : (d / 64 != 2) = false := by simp; omega
  have hbd := u8_and63 d (by omega) (by omega)
  have hx2 : (g / 64 != 2) = true := by simp; omega
  clear hx
  go_enter Tryd.func65, Tryd.ntmps65
  go_wp2
  refine wp_scope_jumps 0 (fun a' w' => w' = w ∧ a'.defers = [] ∧ a'.tmps.size = 51) (fun _ _ => 0) rfl ?_ ?_
  · go_wp2_with (go_at_call 83; refine (first4 _ _ (by omega) (by omega)).mono ?_; rintro e w' ⟨rfl, rfl⟩)
    refine wp_loop_rounds 2 ?_; rw [rounds_succ]
    go_wp2
    rw [rounds_succ]
    go_wp2
    go_step3
    exact ⟨rfl, rfl, rfl, rfl⟩
  · rintro ⟨t, df⟩ w' ⟨rfl, rfl, hsz⟩
    go_wp2
    rw [jump_ret]
    go_ret3
    exact ⟨fault3 t hsz _ _ _, rfl⟩

set_option maxRecDepth 100000 in
set_option maxHeartbeats 400000 in
theorem nextb4k (b off len cap : Nat) (c d g k : Int) (w : World) (hc0 : 240 ≤ c) (hc1 : c < 248) (hd0 : 128 ≤ d) (hd1 : d < 192) (hg0 : 128 ≤ g) (hg1 : g < 192) (hx0 : 0 ≤ k) (hx1 : k < 256) (hx : k < 128 ∨ 192 ≤ k) (hlen : 4 ≤ len) (hcap : len ≤ cap)
    (hm : cap ≤ maxLen) (c0 : w.cell? ⟨b, off, none⟩ = some (.int .u8 c)) (c1 : w.cell? ⟨b, off + 1, none⟩ = some (.int .u8 d)) (c2 : w.cell? ⟨b, off + 2, none⟩ = some (.int .u8 g)) (c3 : w.cell? ⟨b, off + 3, none⟩ = some (.int .u8 k)) :
    Calls Tryd.prog 65 #[.slice (some ⟨b, off, none⟩) len cap] w fun e w' => e = .returned (.tuple #[.int .i32 0, .int .i64 0, .int .i64 20]) ∧ w = w' := by
  unfold maxLen at hm
  have hd2 : (d / 64 != 2) = false := by simp; omega
  have hbd := u8_and63 d (by omega) (by omega)
  have hg2 : (g / 64 != 2) = false := by simp; omega
  have hbg := u8_and63 g (by omega) (by omega)
  have hx2 : (k / 64 != 2) = true := by simp; omega
  clear hx
  go_enter Tryd.func65, Tryd.ntmps65
  go_wp2
  refine wp_scope_jumps 0 (fun a' w' => w' = w ∧ a'.defers = [] ∧ a'.tmps.size = 51) (fun _ _ => 0) rfl ?_ ?_
  · go_wp2_with (go_at_call 83; refine (first4 _ _ (by omega) (by omega)).mono ?_; rintro e w' ⟨rfl, rfl⟩)
    refine wp_loop_rounds 3 ?_; rw [rounds_succ]
    go_wp2
    rw [rounds_succ]
    go_wp2
    rw [rounds_succ]
    go_wp2
    go_step3
    exact ⟨rfl, rfl, rfl, rfl⟩
  · rintro ⟨t, df⟩ w' ⟨rfl, rfl, hsz⟩
    go_wp2
    rw [jump_ret]
    go_ret3
    exact ⟨fault3 t hsz _ _ _, rfl⟩

set_option maxRecDepth 100000 in
set_option maxHeartbeats 400000 in
theorem nextz4 (b off len cap : Nat) (c d g k : Int) (w : World) (hc0 : 240 ≤ c) (hc1 : c < 248) (hd0 : 128 ≤ d) (hd1 : d < 192) (hg0 : 128 ≤ g) (hg1 : g < 192) (hk0 : 128 ≤ k) (hk1 : k < 192) (hs : sizeZ (((c % 8 * 64 + d % 64) * 64 + g % 64) * 64 + k % 64) ≠ 4) (hlen : 4 ≤ len) (hcap : len ≤ cap)
    (hm : cap ≤ maxLen) (c0 : w.cell? ⟨b, off, none⟩ = some (.int .u8 c)) (c1 : w.cell? ⟨b, off + 1, none⟩ = some (.int .u8 d)) (c2 : w.cell? ⟨b, off + 2, none⟩ = some (.int .u8 g)) (c3 : w.cell? ⟨b, off + 3, none⟩ = some (.int .u8 k)) :
    Calls Tryd.prog 65 #[.slice (some ⟨b, off, none⟩) len cap] w fun e w' => e = .returned (.tuple #[.int .i32 0, .int .i64 0, .int .i64 20]) ∧ w = w' := by
  unfold maxLen at hm
  have hd2 : (d / 64 != 2) = false := by simp; omega
  have hbd := u8_and63 d (by omega) (by omega)
  have hg2 : (g / 64 != 2) = false := by simp; omega
  have hbg := u8_and63 g (by omega) (by omega)
  have hk2 : (k / 64 != 2) = false := by simp; omega
  have hbk := u8_and63 k (by omega) (by omega)
  have hsz : (sizeZ (((c % 8 * 64 + d % 64) * 64 + g % 64) * 64 + k % 64) != 4) = true := by rw [bne_iff_ne]; exact hs
  clear hs
  go_enter Tryd.func65, Tryd.ntmps65
  go_wp2
  refine wp_scope_jumps 0 (fun a' w' => w' = w ∧ a'.defers = [] ∧ a'.tmps.size = 51) (fun _ _ => 0) rfl ?_ ?_
  · go_wp2_with (go_at_call 83; refine (first4 _ _ (by omega) (by omega)).mono ?_; rintro e w' ⟨rfl, rfl⟩)
    refine wp_loop_rounds 4 ?_; rw [rounds_succ]
    go_wp2
    rw [rounds_succ]
    go_wp2
    rw [rounds_succ]
    go_wp2
    rw [rounds_succ]
    go_wp2_with (go_at_call 84; refine (size_any _ _).mono ?_; rintro e w' ⟨rfl, rfl⟩)
    go_step3
    exact ⟨rfl, rfl, rfl, rfl⟩
  · rintro ⟨t, df⟩ w' ⟨rfl, rfl, hsz⟩
    go_wp2
    rw [jump_ret]
    go_ret3
    exact ⟨fault3 t hsz _ _ _, rfl⟩

end Go.Proofs.YtfhgkkdbkbbpkaaDoor.Cs.Ut
