/-
  Texts that are the same but for the size of letters: small, same.
-/
import Derived.Test.YtomcjkghneingabDoorTb
import Derived.Lib.AppendStr
import Derived.Laws.Strings3
import Derived.Deep.RegionWith
namespace Go.Proofs.YtomcjkghneingabDoor
open Go.RowKit
set_option linter.unusedVariables false
set_option linter.unusedSimpArgs false

set_option maxRecDepth 100000 in
theorem small_any (c : Int) (w : World) (h0 : 0 ≤ c) (h1 : c < 256) : Calls Tryd.prog 51 #[.int .u8 c] w fun e w' => e = .returned (.int .u8 (smallZ c)) ∧ w = w' := by
  by_cases h : 65 ≤ c ∧ c ≤ 90
  · obtain ⟨ha, hb⟩ := h
    have HS : Hid (smallZ c = c + 32) := by unfold Hid smallZ; rw [if_pos ⟨ha, hb⟩]
    go_enter Tryd.func51, Tryd.ntmps51
    go_wp2
    go_ret
    refine ⟨ret_int ?_, rfl⟩
    rw [HS.out]; omega
  · have HS : Hid (smallZ c = c) := by unfold Hid smallZ; rw [if_neg h]
    by_cases ha : 65 ≤ c
    · have hb : ¬ c ≤ 90 := by omega
      clear h
      go_enter Tryd.func51, Tryd.ntmps51
      go_wp2
      go_ret
      exact ⟨ret_int HS.out.symm, rfl⟩
    · clear h
      go_enter Tryd.func51, Tryd.ntmps51
      go_wp2
      go_ret
      exact ⟨ret_int HS.out.symm, rfl⟩
/-- Names that are the same. -/
def sameZ (l m : List Int) : Bool := decide (l.map smallZ = m.map smallZ)
theorem same_len {l m : List Int} (h : l.length ≠ m.length) : sameZ l m = false := by
  unfold sameZ; rw [decide_eq_false_iff_not]; intro e; have := congrArg List.length e; simp at this; exact h this
theorem same_bad {l m : List Int} {k : Nat} {c d : Int} (h1 : l[k]? = some c) (h2 : m[k]? = some d) (h : smallZ c ≠ smallZ d) : sameZ l m = false := by
  unfold sameZ; rw [decide_eq_false_iff_not]; intro e
  have := congrArg (fun x => x[k]?) e
  simp [h1, h2] at this
  exact h this
set_option maxRecDepth 100000 in
theorem same_step {l m : List Int} {k : Nat} {c d : Int} (h1 : l[k]? = some c) (h2 : m[k]? = some d) (h : smallZ c = smallZ d) (hk : (l.take k).map smallZ = (m.take k).map smallZ) : (l.take (k + 1)).map smallZ = (m.take (k + 1)).map smallZ := by
  rw [List.take_add_one, List.take_add_one, h1, h2, List.map_append, List.map_append, hk]; simp [h]
set_option maxRecDepth 100000 in
set_option maxHeartbeats 2000000 in
theorem same_any (s t : ByteArray) (w : World) (hs : s.size ≤ 100000000) : Calls Tryd.prog 34 #[.string s, .string t] w fun e w' => e = .returned (.bool (sameZ (nums s) (nums t))) ∧ Below w.heap.size w w' := by
  by_cases he : s.size = t.size
  · have hb : ((s.size : Int) != (t.size : Int)) = false := by simp [he]
    have HE : Hid (s.size = t.size) := he
    clear he
    go_enter Tryd.func34, Tryd.ntmps34
    go_wp2
    go_loopw [13] (fun i wr => ∃ k : Nat, i = .int .i64 k ∧ k ≤ s.size ∧ ((nums s).take k).map smallZ = ((nums t).take k).map smallZ ∧ Below w.heap.size w wr) (fun i _ => s.size - (intOf i).toNat)
    case atStart => exact ⟨0, rfl, by omega, by simp, Below.refl _ _⟩
    case round =>
      obtain ⟨k, rfl, hk, hall, hbw⟩ := hrel
      have HA : Hid (((nums s).take k).map smallZ = ((nums t).take k).map smallZ) := hall
      have HB : Hid (Below w.heap.size w wr) := hbw
      clear hall hbw
      by_cases hlt : k < s.size
      · have hlt2 : k < t.size := by have := HE.out; omega
        have HN : Hid ((nums s)[k]? = some (s[k].toNat : Int)) := nums_at s k hlt
        have HM : Hid ((nums t)[k]? = some (t[k].toNat : Int)) := nums_at t k hlt2
        have hc1 : (s[k].toNat : Int) < 256 := by have := s[k].toNat_lt; omega
        have hd1 : (t[k].toNat : Int) < 256 := by have := t[k].toNat_lt; omega
        have hc0 : (0 : Int) ≤ (s[k].toNat : Int) := by omega
        have hd0 : (0 : Int) ≤ (t[k].toNat : Int) := by omega
        obtain ⟨c, hc⟩ : ∃ c : Int, ((s[k]'hlt).toNat : Int) = c := ⟨_, rfl⟩
        obtain ⟨d, hd⟩ : ∃ d : Int, ((t[k]'hlt2).toNat : Int) = d := ⟨_, rfl⟩
        rw [hc] at HN hc1 hc0
        rw [hd] at HM hd1 hd0
        have HV := fun W => (small_any c W hc0 hc1).mono fun e w' h => (⟨h.1, h.2.symm⟩ : e = .returned (.int .u8 (smallZ c)) ∧ w' = W)
        have HW := fun W => (small_any d W hd0 hd1).mono fun e w' h => (⟨h.1, h.2.symm⟩ : e = .returned (.int .u8 (smallZ d)) ∧ w' = W)
        by_cases hq : smallZ c = smallZ d
        · have hq2 : (smallZ c != smallZ d) = false := by simp [hq]
          have HQ : Hid (smallZ c = smallZ d) := hq
          clear hq
          go_wp2
          go_quiet (first | (go_at_call_of 51 (Value.int IntKind.u8 c); exact Calls.quiet_of_same (HV _)) | (go_at_call_of 51 (Value.int IntKind.u8 d); exact Calls.quiet_of_same (HW _)))
          have HX : Hid (Below w.heap.size w (wr.drewN nq)) := below_drewN HB.out _
          go_wp2
          go_roundw
          case rel => exact ⟨k + 1, by go_num, by omega, same_step HN.out HM.out HQ.out HA.out, HX.out⟩
          case measure => simp [intOf]; omega
        · have hq2 : (smallZ c != smallZ d) = true := by simp [hq]
          have HR : Hid (sameZ (nums s) (nums t) = false) := same_bad HN.out HM.out hq
          clear hq
          go_wp2
          go_quiet (first | (go_at_call_of 51 (Value.int IntKind.u8 c); exact Calls.quiet_of_same (HV _)) | (go_at_call_of 51 (Value.int IntKind.u8 d); exact Calls.quiet_of_same (HW _)))
          have HX : Hid (Below w.heap.size w (wr.drewN nq)) := below_drewN HB.out _
          go_wp2
          go_ret
          exact ⟨ret_bool HR.out.symm, HX.out⟩
      · obtain rfl : k = s.size := by omega
        have HR : Hid (sameZ (nums s) (nums t) = true) := by
          have := HA.out
          rw [List.take_of_length_le (by rw [nums_len]; exact Nat.le_refl _), List.take_of_length_le (by rw [nums_len, HE.out]; exact Nat.le_refl _)] at this
          unfold Hid sameZ; rw [this]; simp
        go_wp2
        go_ret
        exact ⟨ret_bool HR.out.symm, HB.out⟩
  · have hb : ((s.size : Int) != (t.size : Int)) = true := by simp; omega
    have HR : Hid (sameZ (nums s) (nums t) = false) := same_len (by rw [nums_len, nums_len]; exact he)
    go_enter Tryd.func34, Tryd.ntmps34
    go_wp2
    go_ret
    exact ⟨ret_bool HR.out.symm, Below.refl _ _⟩
end Go.Proofs.YtomcjkghneingabDoor
