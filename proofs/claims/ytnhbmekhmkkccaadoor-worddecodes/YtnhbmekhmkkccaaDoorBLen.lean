/-
  The contracts of Length and Encode.
-/
import Derived.Test.YtnhbmekhmkkccaaDoorBFour
import Derived.Laws.CopyOwn
namespace Go.Proofs.YtnhbmekhmkkccaaDoor.Bt
open Go.RowKit
set_option linter.unusedVariables false

/-- How long. -/
def lenZ (n wd : Int) : Int := if 0 < wd ∧ 0 < n then (n + 2) / 3 * 4 + ((n + 2) / 3 * 4 - 1) / wd * 2 else (n + 2) / 3 * 4

set_option maxRecDepth 100000 in
set_option maxHeartbeats 1000000 in
theorem length_ok (n wd : Int) (w : World) (h0 : 0 ≤ wd) (h1 : wd ≤ 76) (h2 : wd % 4 = 0) (h3 : 0 ≤ n) (h4 : n ≤ 1048576) :
    Calls Tryd.prog 40 #[.int .i64 n, .int .i64 wd] w fun e w' => e = .returned (.tuple #[.int .i64 (lenZ n wd), .int .i64 0]) ∧ w = w' := by
  have h2' : (wd % 4 != 0) = false := by simp; omega
  by_cases hp : 0 < wd ∧ 0 < n
  · have HZ : Hid (lenZ n wd = (n + 2) / 3 * 4 + ((n + 2) / 3 * 4 - 1) / wd * 2) := by unfold Hid lenZ; rw [if_pos hp]
    obtain ⟨hp1, hp2⟩ := hp
    have hq : ((n + 2) / 3 * 4 - 1) / wd ≤ (n + 2) / 3 * 4 - 1 := Int.ediv_le_self _ (by omega)
    have hq' : 0 ≤ ((n + 2) / 3 * 4 - 1) / wd := Int.ediv_nonneg (by omega) (by omega)
    clear h2
    go_enter Tryd.func40, Tryd.ntmps40
    go_wp2
    go_ret2
    exact ⟨by rw [HZ.out]; rfl, rfl⟩
  · have HZ : Hid (lenZ n wd = (n + 2) / 3 * 4) := by unfold Hid lenZ; rw [if_neg hp]
    rcases (show wd ≤ 0 ∨ (0 < wd ∧ n ≤ 0) from by omega) with hw | ⟨hw, hn⟩
    · clear hp h2
      go_enter Tryd.func40, Tryd.ntmps40
      go_wp2
      go_ret2
      exact ⟨by rw [HZ.out]; rfl, rfl⟩
    · clear hp h2
      go_enter Tryd.func40, Tryd.ntmps40
      go_wp2
      go_ret2
      exact ⟨by rw [HZ.out]; rfl, rfl⟩

set_option maxRecDepth 100000 in
set_option maxHeartbeats 1000000 in
theorem length_arg (n wd : Int) (w : World) (h : wd < 0 ∨ 76 < wd ∨ (0 ≤ wd ∧ wd ≤ 76 ∧ wd % 4 ≠ 0) ∨ (0 ≤ wd ∧ wd ≤ 76 ∧ wd % 4 = 0 ∧ n < 0)) :
    Calls Tryd.prog 40 #[.int .i64 n, .int .i64 wd] w fun e w' => e = .returned (.tuple #[.int .i64 0, .int .i64 1]) ∧ w = w' := by
  rcases h with h | h | ⟨h0, h1, h2⟩ | ⟨h0, h1, h2, h3⟩
  · go_enter Tryd.func40, Tryd.ntmps40
    go_wp2
    go_ret2
    exact ⟨rfl, rfl⟩
  · have h0 : ¬ wd < 0 := by omega
    go_enter Tryd.func40, Tryd.ntmps40
    go_wp2
    go_ret2
    exact ⟨rfl, rfl⟩
  · have h2' : (wd % 4 != 0) = true := by simp; omega
    clear h2
    go_enter Tryd.func40, Tryd.ntmps40
    go_wp2
    go_ret2
    exact ⟨rfl, rfl⟩
  · have h2' : (wd % 4 != 0) = false := by simp; omega
    clear h2
    go_enter Tryd.func40, Tryd.ntmps40
    go_wp2
    go_ret2
    exact ⟨rfl, rfl⟩

set_option maxRecDepth 100000 in
set_option maxHeartbeats 1000000 in
theorem length_long (n wd : Int) (w : World) (h0 : 0 ≤ wd) (h1 : wd ≤ 76) (h2 : wd % 4 = 0) (h3 : 1048576 < n) :
    Calls Tryd.prog 40 #[.int .i64 n, .int .i64 wd] w fun e w' => e = .returned (.tuple #[.int .i64 0, .int .i64 2]) ∧ w = w' := by
  have h2' : (wd % 4 != 0) = false := by simp; omega
  clear h2
  go_enter Tryd.func40, Tryd.ntmps40
  go_wp2
  go_ret2
  exact ⟨rfl, rfl⟩

theorem lenZ_bd (n wd : Int) (h0 : 0 ≤ wd) (h3 : 0 ≤ n) (h4 : n ≤ 1048576) : 0 ≤ lenZ n wd ∧ lenZ n wd ≤ 9000000 := by
  unfold lenZ
  split
  · have hq : ((n + 2) / 3 * 4 - 1) / wd ≤ (n + 2) / 3 * 4 - 1 := Int.ediv_le_self _ (by omega)
    have hq' : 0 ≤ ((n + 2) / 3 * 4 - 1) / wd := Int.ediv_nonneg (by omega) (by omega)
    omega
  · omega
end Go.Proofs.YtnhbmekhmkkccaaDoor.Bt
