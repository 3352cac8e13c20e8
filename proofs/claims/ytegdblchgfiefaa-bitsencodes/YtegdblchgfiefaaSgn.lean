/-
  The contracts of Sign, of the reference's Sign and May, and of Encode where the bytes are too many.
-/
import Derived.Test.YtegdblchgfiefaaLen
namespace Go.Proofs.Ytegdblchgfiefaa
open Go.RowKit
set_option linter.unusedVariables false

/-- What may not be: 1 or 2; 0: it may. -/
def mayZ (n wd : Int) : Int := if wd < 0 ∨ 76 < wd ∨ wd % 4 ≠ 0 ∨ n < 0 then 1 else if 1048576 < n then 2 else 0
set_option maxHeartbeats 1000000 in
theorem may_any (n wd : Int) (w : World) : Calls Try.prog 15 #[.int .i64 n, .int .i64 wd] w fun e w' => e = .returned (.int .i64 (mayZ n wd)) ∧ w = w' := by
  rcases (show wd < 0 ∨ 76 < wd ∨ (0 ≤ wd ∧ wd ≤ 76 ∧ wd % 4 ≠ 0) ∨ (0 ≤ wd ∧ wd ≤ 76 ∧ wd % 4 = 0 ∧ n < 0) ∨ (0 ≤ wd ∧ wd ≤ 76 ∧ wd % 4 = 0 ∧ 0 ≤ n ∧ 1048576 < n) ∨ (0 ≤ wd ∧ wd ≤ 76 ∧ wd % 4 = 0 ∧ 0 ≤ n ∧ n ≤ 1048576) from by omega) with h | h | ⟨h0, h1, h2⟩ | ⟨h0, h1, h2, h3⟩ | ⟨h0, h1, h2, h3, h4⟩ | ⟨h0, h1, h2, h3, h4⟩
  · rw [show mayZ n wd = 1 from by unfold mayZ; rw [if_pos (by omega)]]
    go_enter Try.func15, Try.ntmps15
    go_wp2
    go_ret
    exact ⟨rfl, rfl⟩
  · rw [show mayZ n wd = 1 from by unfold mayZ; rw [if_pos (by omega)]]
    have h0 : ¬ wd < 0 := by omega
    go_enter Try.func15, Try.ntmps15
    go_wp2
    go_ret
    exact ⟨rfl, rfl⟩
  · rw [show mayZ n wd = 1 from by unfold mayZ; rw [if_pos (by omega)]]
    have h2' : 0 < wd % 4 := by omega
    clear h2
    go_enter Try.func15, Try.ntmps15
    go_wp2
    go_ret
    exact ⟨rfl, rfl⟩
  · rw [show mayZ n wd = 1 from by unfold mayZ; rw [if_pos (by omega)]]
    have h2' : ¬ 0 < wd % 4 := by omega
    clear h2
    go_enter Try.func15, Try.ntmps15
    go_wp2
    go_ret
    exact ⟨rfl, rfl⟩
  · rw [show mayZ n wd = 2 from by unfold mayZ; rw [if_neg (by omega), if_pos h4]]
    have h2' : ¬ 0 < wd % 4 := by omega
    clear h2
    go_enter Try.func15, Try.ntmps15
    go_wp2
    go_ret
    exact ⟨rfl, rfl⟩
  · rw [show mayZ n wd = 0 from by unfold mayZ; rw [if_neg (by omega), if_neg (by omega)]]
    have h2' : ¬ 0 < wd % 4 := by omega
    clear h2
    go_enter Try.func15, Try.ntmps15
    go_wp2
    go_ret
    exact ⟨rfl, rfl⟩
/-- A number's sign, and whether it has one. -/
def sgnZ (v : Int) : Int := if 0 ≤ v ∧ v < 64 then sgn v.toNat else 0
theorem sgn_parts : ∀ n : Nat, n < 64 → sgn n = if n ≤ 25 then 65 + (n : Int) else if n ≤ 51 then 97 + (n : Int) - 26 else if n ≤ 61 then 48 + (n : Int) - 52 else if n = 62 then 43 else 47 := by decide
set_option maxHeartbeats 1000000 in
theorem rsign_any (v : Int) (w : World) (h0 : -9223372036854775808 ≤ v) (h1 : v ≤ 9223372036854775807) : Calls Try.prog 14 #[.int .i64 v] w fun e w' => e = .returned (.tuple #[.int .u8 (sgnZ v), .bool (decide (0 ≤ v ∧ v < 64))]) ∧ w = w' := by
  by_cases hv : 0 ≤ v ∧ v < 64
  · obtain ⟨n, rfl⟩ := Int.eq_ofNat_of_zero_le hv.1
    have hn : n < 64 := by omega
    rw [decide_eq_true hv, show sgnZ (n : Int) = sgn n from by unfold sgnZ; rw [if_pos hv]; rfl, sgn_parts n hn]
    rcases (show n ≤ 25 ∨ (25 < n ∧ n ≤ 51) ∨ (51 < n ∧ n ≤ 61) ∨ n = 62 ∨ n = 63 from by omega) with h | ⟨h, h'⟩ | ⟨h, h'⟩ | rfl | rfl
    · rw [if_pos h]
      go_enter Try.func14, Try.ntmps14
      go_wp2
      go_ret2
      exact ⟨rfl, rfl⟩
    · rw [if_neg (by omega), if_pos h']
      go_enter Try.func14, Try.ntmps14
      go_wp2
      go_ret2
      exact ⟨rfl, rfl⟩
    · rw [if_neg (by omega), if_neg (by omega), if_pos h']
      go_enter Try.func14, Try.ntmps14
      go_wp2
      go_ret2
      exact ⟨rfl, rfl⟩
    · go_enter Try.func14, Try.ntmps14
      go_wp2
      go_ret2
      exact ⟨rfl, rfl⟩
    · go_enter Try.func14, Try.ntmps14
      go_wp2
      go_ret2
      exact ⟨rfl, rfl⟩
  · rw [decide_eq_false hv, show sgnZ v = 0 from by unfold sgnZ; rw [if_neg hv]]
    rcases (show v < 0 ∨ 64 ≤ v from by omega) with h | h
    · have e1 : (v == 62) = false := by rw [beq_eq_false_iff_ne]; omega
      have e2 : (v == 63) = false := by rw [beq_eq_false_iff_ne]; omega
      clear hv
      go_enter Try.func14, Try.ntmps14
      go_wp2
      go_ret2
      exact ⟨rfl, rfl⟩
    · have e1 : (v == 62) = false := by rw [beq_eq_false_iff_ne]; omega
      have e2 : (v == 63) = false := by rw [beq_eq_false_iff_ne]; omega
      clear hv
      go_enter Try.func14, Try.ntmps14
      go_wp2
      go_ret2
      exact ⟨rfl, rfl⟩
set_option maxHeartbeats 1000000 in
theorem encode_long (a : Option Addr) (len cap : Nat) (wd : Int) (w : World) (h0 : 0 ≤ wd) (h1 : wd ≤ 76) (h2 : wd % 4 = 0) (h3 : 1048576 < len) :
    Calls Try.prog 10 #[.slice a len cap, .int .i64 wd] w fun e w' => e = .returned (.tuple #[.string ⟨#[]⟩, .int .i64 2]) ∧ w = w' := by
  have H2 : Hid (wd % 4 = 0) := h2
  clear h2
  go_enter Try.func10, Try.ntmps10
  go_wp2_with (go_at_call 12; refine (length_long _ _ _ h0 h1 H2.out (by omega)).mono ?_; rintro e w' ⟨rfl, rfl⟩)
  go_ret2
  exact ⟨rfl, rfl⟩
end Go.Proofs.Ytegdblchgfiefaa
