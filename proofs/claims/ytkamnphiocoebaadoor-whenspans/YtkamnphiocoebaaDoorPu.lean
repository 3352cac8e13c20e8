/-
  Digits are put: the contract of put.
-/
import Derived.Test.YtkamnphiocoebaaDoorCi
namespace Go.Proofs.YtkamnphiocoebaaDoor
open Go.RowKit
set_option linter.unusedVariables false

def d8 (n : Int) : Value := .int .u8 (48 + n % 10)
theorem dig_wrap (n : Int) (h : 0 ≤ n) : 0 ≤ 48 + n % 10 ∧ 48 + n % 10 < 58 := by omega
set_option maxHeartbeats 1000000 in
theorem put2 (b off cap : Nat) (n x0 x1 : Int) (w : World) (h0 : 0 ≤ n) (h1 : n < 1000000000000) (hc : 2 ≤ cap) (hm : cap ≤ 1000)
    (c0 : w.cell? ⟨b, off, none⟩ = some (.int .u8 x0)) (c1 : w.cell? ⟨b, off + 1, none⟩ = some (.int .u8 x1))
    (f0 : w.frozen? ⟨b, off, none⟩ = false) (f1 : w.frozen? ⟨b, off + 1, none⟩ = false) :
    Calls Tryd.prog 28 #[.slice (some ⟨b, off, none⟩) 2 cap, .int .i64 n] w fun e w' =>
      e = .returned (.tuple #[]) ∧ w' = (w.setCell ⟨b, off + 1, none⟩ (.int .u8 (48 + n % 10))).setCell ⟨b, off, none⟩ (.int .u8 (48 + n / 10 % 10)) := by
  go_enter Tryd.func28, Tryd.ntmps28
  go_wp2
  refine wp_loop_rounds 3 ?_; rw [rounds_succ]
  go_wp2
  rw [rounds_succ]
  go_wp2
  rw [rounds_succ]
  go_wp2
  go_end0
  exact ⟨rfl, rfl⟩
set_option maxHeartbeats 1000000 in
theorem put4 (b off cap : Nat) (n x0 x1 x2 x3 : Int) (w : World) (h0 : 0 ≤ n) (h1 : n < 1000000000000) (hc : 4 ≤ cap) (hm : cap ≤ 1000)
    (c0 : w.cell? ⟨b, off, none⟩ = some (.int .u8 x0)) (c1 : w.cell? ⟨b, off + 1, none⟩ = some (.int .u8 x1)) (c2 : w.cell? ⟨b, off + 2, none⟩ = some (.int .u8 x2)) (c3 : w.cell? ⟨b, off + 3, none⟩ = some (.int .u8 x3))
    (f0 : w.frozen? ⟨b, off, none⟩ = false) (f1 : w.frozen? ⟨b, off + 1, none⟩ = false) (f2 : w.frozen? ⟨b, off + 2, none⟩ = false) (f3 : w.frozen? ⟨b, off + 3, none⟩ = false) :
    Calls Tryd.prog 28 #[.slice (some ⟨b, off, none⟩) 4 cap, .int .i64 n] w fun e w' =>
      e = .returned (.tuple #[]) ∧ w' = (((w.setCell ⟨b, off + 3, none⟩ (.int .u8 (48 + n % 10))).setCell ⟨b, off + 2, none⟩ (.int .u8 (48 + n / 10 % 10))).setCell ⟨b, off + 1, none⟩ (.int .u8 (48 + n / 10 / 10 % 10))).setCell ⟨b, off, none⟩ (.int .u8 (48 + n / 10 / 10 / 10 % 10)) := by
  go_enter Tryd.func28, Tryd.ntmps28
  go_wp2
  refine wp_loop_rounds 5 ?_; rw [rounds_succ]
  go_wp2
  rw [rounds_succ]
  go_wp2
  rw [rounds_succ]
  go_wp2
  rw [rounds_succ]
  go_wp2
  rw [rounds_succ]
  go_wp2
  go_end0
  exact ⟨rfl, rfl⟩
end Go.Proofs.YtkamnphiocoebaaDoor
