/-
  The contracts of Cut and of the fixed calls.
-/
import Derived.Test.YtenclgnkogmgiaaDoorUValid
import Derived.Laws.BytesArg
namespace Go.Proofs.YtenclgnkogmgiaaDoor.Ut
open Go.RowKit
set_option linter.unusedVariables false

/-- From a place down to one at which a text can be cut. -/
def cutZ (l : List Int) : Nat → Nat
  | 0 => 0
  | m + 1 => if m + 1 < l.length ∧ l.getD (m + 1) 0 / 64 = 2 then cutZ l m else m + 1
theorem cut_step {l : List Int} {m : Nat} (h : 0 < m) (h1 : m < l.length) (h2 : l.getD m 0 / 64 = 2) : cutZ l m = cutZ l (m - 1) := by
  cases m with
  | zero => omega
  | succ m => rw [cutZ, if_pos ⟨h1, h2⟩]; rfl
theorem cut_stop {l : List Int} {m : Nat} (h : ¬ (m < l.length ∧ l.getD m 0 / 64 = 2)) : cutZ l m = m := by
  cases m with
  | zero => rfl
  | succ m => rw [cutZ, if_neg h]
theorem front_byte {ps : List Int} (hps : AllPt ps) (h : 0 < (flat ps).length) : ¬ (flat ps).getD 0 0 / 64 = 2 := by
  cases ps with
  | nil => simp [flat] at h
  | cons p ps =>
    have hp := hps.head
    rw [flat_cons]
    rcases pt_cases p hp with k | k | k | k
    · rw [enc1 k.2]; simp; omega
    · rw [enc2 k.1 k.2]; simp; omega
    · rw [enc3 k.1 k.2]; simp; omega
    · rw [enc4 k.1]; simp; omega
def m0Z (most : Int) (len : Nat) : Nat := (max 0 (min most len)).toNat

set_option maxRecDepth 100000 in
set_option maxHeartbeats 1000000 in
theorem cut_no (a : Option Addr) (len cap : Nat) (most : Int) (ps r : List Int) (w : World) (hlen : (flat ps ++ r).length = len) (hps : AllPt ps) (hr : decZ r = none) (hne : r ≠ []) (hl : Byt r) (hcap : len ≤ cap) (hm : cap ≤ maxLen) (hrow : Row w a (flat ps ++ r)) :
    Calls Tryd.prog 87 #[.slice a len cap, .int .i64 most] w fun e w' => e = .returned (.int .i64 (m0Z most len)) ∧ w = w' := by
  have HR : Hid (decZ r = none) := hr
  have HL : Hid ((flat ps ++ r).length = len) := hlen
  have HE : Hid (r.isEmpty = false) := List.isEmpty_eq_false_iff.2 hne
  have hm' := hm
  unfold maxLen at hm'
  clear hr hlen hne
  rcases (show most ≤ 0 ∨ (0 < most ∧ most ≤ len) ∨ (len < most ∧ 0 < (len : Int)) ∨ (len < most ∧ (len : Int) ≤ 0) from by omega) with h | ⟨h, h'⟩ | ⟨h, h'⟩ | ⟨h, h'⟩
  · have HM : Hid ((m0Z most len : Int) = 0) := by unfold Hid m0Z; omega
    go_enter Tryd.func87, Tryd.ntmps87
    go_wp2_with (go_at_call 85; refine (valid_any a len cap ps r w HL.out hps HR.out hl hcap hm hrow).mono ?_; rintro e w' ⟨rfl, rfl⟩; rw [HE.out])
    go_ret
    exact ⟨ret_int HM.out.symm, rfl⟩
  · have HM : Hid ((m0Z most len : Int) = most) := by unfold Hid m0Z; omega
    go_enter Tryd.func87, Tryd.ntmps87
    go_wp2_with (go_at_call 85; refine (valid_any a len cap ps r w HL.out hps HR.out hl hcap hm hrow).mono ?_; rintro e w' ⟨rfl, rfl⟩; rw [HE.out])
    go_ret
    exact ⟨ret_int HM.out.symm, rfl⟩
  · have HM : Hid ((m0Z most len : Int) = len) := by unfold Hid m0Z; omega
    go_enter Tryd.func87, Tryd.ntmps87
    go_wp2_with (go_at_call 85; refine (valid_any a len cap ps r w HL.out hps HR.out hl hcap hm hrow).mono ?_; rintro e w' ⟨rfl, rfl⟩; rw [HE.out])
    go_ret
    exact ⟨ret_int HM.out.symm, rfl⟩
  · have HM : Hid ((m0Z most len : Int) = 0) := by unfold Hid m0Z; omega
    go_enter Tryd.func87, Tryd.ntmps87
    go_wp2_with (go_at_call 85; refine (valid_any a len cap ps r w HL.out hps HR.out hl hcap hm hrow).mono ?_; rintro e w' ⟨rfl, rfl⟩; rw [HE.out])
    go_ret
    exact ⟨ret_int HM.out.symm, rfl⟩

set_option maxRecDepth 100000 in
set_option maxHeartbeats 1000000 in
theorem cut_yes (a : Option Addr) (len cap : Nat) (most : Int) (ps : List Int) (w : World) (hlen : (flat ps).length = len) (hps : AllPt ps) (hcap : len ≤ cap) (hm : cap ≤ maxLen) (hrow : Row w a (flat ps)) :
    Calls Tryd.prog 87 #[.slice a len cap, .int .i64 most] w fun e w' => e = .returned (.int .i64 (cutZ (flat ps) (m0Z most len))) ∧ w = w' := by
  have HL : Hid ((flat ps).length = len) := hlen
  have HL0 : Hid ((flat ps ++ []).length = len) := by unfold Hid; rw [List.append_nil]; exact hlen
  have HW0 : Hid (Row w a (flat ps ++ [])) := by unfold Hid; rw [List.append_nil]; exact hrow
  have HB : Hid (Byt (flat ps)) := flat_byt hps
  have hm' := hm
  unfold maxLen at hm'
  clear hlen
  have key : ∃ m : Int, (most ≤ 0 ∧ m = 0 ∨ (0 < most ∧ most ≤ len) ∧ m = most ∨ (len < most ∧ 0 < (len : Int)) ∧ m = len ∨ (len < most ∧ (len : Int) ≤ 0) ∧ m = 0) ∧ m = (m0Z most len : Int) ∧ 0 ≤ m ∧ m ≤ len := by
    unfold m0Z
    refine ⟨((max 0 (min most len)).toNat : Int), ?_, rfl, by omega, by omega⟩
    omega
  obtain ⟨m, hk, hk2, hk3, hk4⟩ := key
  have HM : Hid (m0Z most len = m.toNat) := by unfold Hid; omega
  clear hk2
  obtain ⟨mN, rfl⟩ := Int.eq_ofNat_of_zero_le hk3
  rcases hk with ⟨h, hq⟩ | ⟨⟨h, h'⟩, hq⟩ | ⟨⟨h, h'⟩, hq⟩ | ⟨⟨h, h'⟩, hq⟩
  all_goals
    have HQ : Hid (_ = _) := hq
    clear hq
    go_enter Tryd.func87, Tryd.ntmps87
    go_wp2_with (go_at_call 85; refine (valid_any a len cap ps [] w HL0.out hps rfl (by intro x hx; simp at hx) hcap hm HW0.out).mono ?_; rintro e w' ⟨rfl, rfl⟩)
    go_loop [1] (fun v => ∃ k : Nat, v = .int .i64 k ∧ k ≤ len ∧ cutZ (flat ps) k = cutZ (flat ps) mN) (fun v => (intOf v).toNat)
    case atStart => exact ⟨mN, by first | rw [HQ.out] | rfl, by omega, rfl⟩
    case round =>
      obtain ⟨k, rfl, hkl, hcz⟩ := hrel
      have HZ : Hid (cutZ (flat ps) k = cutZ (flat ps) mN) := hcz
      clear hcz
      by_cases hlt : k < len
      · rcases hrow with h0 | ⟨b, off, rfl, hc⟩
        · exfalso; have := HL.out; rw [h0] at this; simp at this; omega
        · have hc' := hc k (by rw [HL.out]; exact hlt)
          have hb := HB.out ((flat ps).getD k 0) (by
            have hk' : k < (flat ps).length := by rw [HL.out]; exact hlt
            rw [List.getD_eq_getElem?_getD, List.getElem?_eq_getElem hk']; exact List.getElem_mem hk')
          obtain ⟨x, hx⟩ : ∃ x, x = (flat ps).getD k 0 := ⟨_, rfl⟩
          have HX : Hid (x = (flat ps).getD k 0) := hx
          rw [← hx] at hc' hb
          clear hx hc
          by_cases h2 : x / 64 = 2
          · have hk0 : 0 < k := by
              rcases Nat.eq_zero_or_pos k with rfl | h
              · exfalso
                have := front_byte hps (by rw [HL.out]; omega)
                rw [← HX.out] at this
                exact this h2
              · exact h
            have hxb : (x / 64 == 2) = true := by rw [beq_iff_eq]; exact h2
            have HS : Hid (cutZ (flat ps) k = cutZ (flat ps) (k - 1)) := cut_step hk0 (by rw [HL.out]; exact hlt) (by rw [← HX.out]; exact h2)
            clear h2
            go_wp2
            go_round
            case rel => exact ⟨k - 1, by rw [Int.ofNat_sub (by omega)]; rfl, by omega, by rw [← HS.out]; exact HZ.out⟩
            case measure => simp [intOf]; omega
          · have hxb : (x / 64 == 2) = false := by rw [beq_eq_false_iff_ne]; exact h2
            have HS : Hid (cutZ (flat ps) k = k) := cut_stop (by rw [← HX.out]; exact fun h => h2 h.2)
            clear h2
            go_wp2
            go_ret
            exact ⟨ret_int (by rw [HM.out, Int.toNat_natCast, ← HZ.out, HS.out]), rfl⟩
      · obtain rfl : k = len := by omega
        have HS : Hid (cutZ (flat ps) k = k) := cut_stop (by rw [HL.out]; omega)
        go_wp2
        go_ret
        exact ⟨ret_int (by rw [HM.out, Int.toNat_natCast, ← HZ.out, HS.out]), rfl⟩
end Go.Proofs.YtenclgnkogmgiaaDoor.Ut
