/-
  The document's answers: Name, Text, Right, Plain.
-/
import Derived.Test.YtjcjhcpaojhcfaaDoorRe
import Derived.Test.YtjcjhcpaojhcfaaDoorWr
import Derived.Test.YtjcjhcpaojhcfaaDoorURef
namespace Go.Proofs.YtjcjhcpaojhcfaaDoor
open Go.RowKit
set_option linter.unusedVariables false

set_option maxRecDepth 100000 in
theorem rvalid_row (a : Option Addr) (len cap : Nat) (l : List Int) (w : World) (hlen : l.length = len) (hl : Byt l) (hcap : len ≤ cap) (hm : cap ≤ maxLen) (hs : len ≤ 100000000) (hrow : Row w a l) :
    Calls Tryd.prog 62 #[.slice a len cap] w fun e w' => e = .returned (.bool (validZ l)) ∧ Below w.heap.size w w' := by
  obtain ⟨ps, r, hps, rfl, hr⟩ := Ut.split_ex l hl
  have hb : Ut.Byt r := fun x hx => hl x (by simp [hx])
  have he : validZ (Ut.flat ps ++ r) = r.isEmpty := valid_flat ps r _ hps hr (Nat.le_refl _)
  rw [he]
  by_cases h0 : r = []
  · subst h0
    rw [List.append_nil] at hlen hrow
    exact Ut.rvalid_yes a len cap ps w hlen hps hcap hm hs hrow
  · have := Ut.rvalid_no a len cap ps r w hlen hps hr h0 hb hcap hm hs hrow
    rw [show r.isEmpty = false from List.isEmpty_eq_false_iff.2 h0]
    exact this
set_option maxHeartbeats 8000000 in
set_option maxRecDepth 100000 in
theorem rname_any (s : ByteArray) (w : World) (hs : s.size ≤ 1000000000) : Calls Tryd.prog 46 #[.string s] w fun e w' => e = .returned (.bool (nameZ (nums s))) ∧ w = w' := by
  go_enter Tryd.func46, Tryd.ntmps46
  go_wp2
  go_loopw [3] (fun i wr => ∃ k : Nat, i = .int .i64 k ∧ k ≤ s.size ∧ ((nums s).take k).all upC = true ∧ w = wr) (fun i _ => s.size - (intOf i).toNat)
  case atStart => exact ⟨0, rfl, by omega, rfl, rfl⟩
  case round =>
    obtain ⟨k, rfl, hk, hall, rfl⟩ := hrel
    have HA : Hid (((nums s).take k).all upC = true) := hall
    clear hall
    by_cases hlt : k < s.size
    · have hc1 : (s[k].toNat : Int) < 256 := by have := s[k].toNat_lt; omega
      have hc0 : (0 : Int) ≤ (s[k].toNat : Int) := by omega
      have HT : Hid ((nums s)[k]? = some (s[k].toNat : Int)) := nums_at s k hlt
      obtain ⟨c, hc⟩ : ∃ c : Int, ((s[k]'hlt).toNat : Int) = c := ⟨_, rfl⟩
      rw [hc] at HT hc1 hc0
      by_cases q0 : c ≤ 44
      · have g0 : 0 ≤ c := by omega
        have hcc : upC c = false := by unfold upC; simp; omega
        have a1 : decide ((65 : Int) ≤ c) = false := by simp; omega
        have a2 : decide (c ≤ 90) = true := by simp; omega
        have a3 : decide ((48 : Int) ≤ c) = false := by simp; omega
        have a4 : decide (c ≤ 57) = true := by simp; omega
        have a5 : (c == 45) = false := by simp; omega
        have HZ : Hid (nameZ (nums s) = false) := by unfold Hid nameZ; rw [all_bad upC _ k c HT.out hcc]; simp
        go_wp2
        go_ret
        exact ⟨ret_bool HZ.out.symm, rfl⟩
      · skip
        by_cases q1 : c ≤ 45
        · have g0 : 45 ≤ c := by omega
          have hcc : upC c = true := by unfold upC; simp; omega
          have a1 : decide ((65 : Int) ≤ c) = false := by simp; omega
          have a2 : decide (c ≤ 90) = true := by simp; omega
          have a3 : decide ((48 : Int) ≤ c) = false := by simp; omega
          have a4 : decide (c ≤ 57) = true := by simp; omega
          have a5 : (c == 45) = true := by simp; omega
          go_wp2
          go_roundw
          case rel => exact ⟨k + 1, by go_num, by omega, by rw [all_take upC _ k c HT.out, HA.out, hcc]; rfl, by first | rfl | trivial⟩
          case measure => simp [intOf]; omega
        · skip
          by_cases q2 : c ≤ 47
          · have g0 : 46 ≤ c := by omega
            have hcc : upC c = false := by unfold upC; simp; omega
            have a1 : decide ((65 : Int) ≤ c) = false := by simp; omega
            have a2 : decide (c ≤ 90) = true := by simp; omega
            have a3 : decide ((48 : Int) ≤ c) = false := by simp; omega
            have a4 : decide (c ≤ 57) = true := by simp; omega
            have a5 : (c == 45) = false := by simp; omega
            have HZ : Hid (nameZ (nums s) = false) := by unfold Hid nameZ; rw [all_bad upC _ k c HT.out hcc]; simp
            go_wp2
            go_ret
            exact ⟨ret_bool HZ.out.symm, rfl⟩
          · skip
            by_cases q3 : c ≤ 57
            · have g0 : 48 ≤ c := by omega
              have hcc : upC c = true := by unfold upC; simp; omega
              have a1 : decide ((65 : Int) ≤ c) = false := by simp; omega
              have a2 : decide (c ≤ 90) = true := by simp; omega
              have a3 : decide ((48 : Int) ≤ c) = true := by simp; omega
              have a4 : decide (c ≤ 57) = true := by simp; omega
              have a5 : (c == 45) = false := by simp; omega
              go_wp2
              go_roundw
              case rel => exact ⟨k + 1, by go_num, by omega, by rw [all_take upC _ k c HT.out, HA.out, hcc]; rfl, by first | rfl | trivial⟩
              case measure => simp [intOf]; omega
            · skip
              by_cases q4 : c ≤ 64
              · have g0 : 58 ≤ c := by omega
                have hcc : upC c = false := by unfold upC; simp; omega
                have a1 : decide ((65 : Int) ≤ c) = false := by simp; omega
                have a2 : decide (c ≤ 90) = true := by simp; omega
                have a3 : decide ((48 : Int) ≤ c) = true := by simp; omega
                have a4 : decide (c ≤ 57) = false := by simp; omega
                have a5 : (c == 45) = false := by simp; omega
                have HZ : Hid (nameZ (nums s) = false) := by unfold Hid nameZ; rw [all_bad upC _ k c HT.out hcc]; simp
                go_wp2
                go_ret
                exact ⟨ret_bool HZ.out.symm, rfl⟩
              · skip
                by_cases q5 : c ≤ 90
                · have g0 : 65 ≤ c := by omega
                  have hcc : upC c = true := by unfold upC; simp; omega
                  have a1 : decide ((65 : Int) ≤ c) = true := by simp; omega
                  have a2 : decide (c ≤ 90) = true := by simp; omega
                  have a3 : decide ((48 : Int) ≤ c) = true := by simp; omega
                  have a4 : decide (c ≤ 57) = false := by simp; omega
                  have a5 : (c == 45) = false := by simp; omega
                  go_wp2
                  go_roundw
                  case rel => exact ⟨k + 1, by go_num, by omega, by rw [all_take upC _ k c HT.out, HA.out, hcc]; rfl, by first | rfl | trivial⟩
                  case measure => simp [intOf]; omega
                · skip
                  have g0 : 91 ≤ c := by omega
                  have hcc : upC c = false := by unfold upC; simp; omega
                  have a1 : decide ((65 : Int) ≤ c) = true := by simp; omega
                  have a2 : decide (c ≤ 90) = false := by simp; omega
                  have a3 : decide ((48 : Int) ≤ c) = true := by simp; omega
                  have a4 : decide (c ≤ 57) = false := by simp; omega
                  have a5 : (c == 45) = false := by simp; omega
                  have HZ : Hid (nameZ (nums s) = false) := by unfold Hid nameZ; rw [all_bad upC _ k c HT.out hcc]; simp
                  go_wp2
                  go_ret
                  exact ⟨ret_bool HZ.out.symm, rfl⟩
    · obtain rfl : k = s.size := by omega
      have HE : Hid (nameZ (nums s) = (decide (1 ≤ s.size) && decide (s.size ≤ 64))) := by
        have := HA.out
        rw [List.take_of_length_le (by rw [nums_len]; exact Nat.le_refl _)] at this
        unfold Hid nameZ; rw [this, nums_len, Bool.and_true]
      by_cases h1 : 1 ≤ s.size
      · have d1 : decide ((1 : Int) ≤ (s.size : Int)) = true := by simp; omega
        by_cases h2 : s.size ≤ 64
        · have d2 : decide ((s.size : Int) ≤ 64) = true := by simp; omega
          have HZ : Hid (nameZ (nums s) = true) := by unfold Hid; rw [HE.out, decide_eq_true h1, decide_eq_true h2]; rfl
          go_wp2
          go_ret
          exact ⟨ret_bool HZ.out.symm, rfl⟩
        · have d2 : decide ((s.size : Int) ≤ 64) = false := by simp; omega
          have HZ : Hid (nameZ (nums s) = false) := by unfold Hid; rw [HE.out, decide_eq_false h2, Bool.and_false]
          go_wp2
          go_ret
          exact ⟨ret_bool HZ.out.symm, rfl⟩
      · have d1 : decide ((1 : Int) ≤ (s.size : Int)) = false := by simp; omega
        have HZ : Hid (nameZ (nums s) = false) := by unfold Hid; rw [HE.out, decide_eq_false h1]; rfl
        go_wp2
        go_ret
        exact ⟨ret_bool HZ.out.symm, rfl⟩
set_option maxHeartbeats 8000000 in
set_option maxRecDepth 100000 in
theorem rtext_any (s : ByteArray) (w : World) (hs : s.size ≤ 100000000) : Calls Tryd.prog 47 #[.string s] w fun e w' => e = .returned (.bool (textZ (nums s))) ∧ Below w.heap.size w w' := by
  go_enter Tryd.func47, Tryd.ntmps47
  go_wp2
  go_loopw [3] (fun i wr => ∃ k : Nat, i = .int .i64 k ∧ k ≤ s.size ∧ ((nums s).take k).all txC = true ∧ w = wr) (fun i _ => s.size - (intOf i).toNat)
  case atStart => exact ⟨0, rfl, by omega, rfl, rfl⟩
  case round =>
    obtain ⟨k, rfl, hk, hall, rfl⟩ := hrel
    have HA : Hid (((nums s).take k).all txC = true) := hall
    clear hall
    by_cases hlt : k < s.size
    · have hc1 : (s[k].toNat : Int) < 256 := by have := s[k].toNat_lt; omega
      have hc0 : (0 : Int) ≤ (s[k].toNat : Int) := by omega
      have HT : Hid ((nums s)[k]? = some (s[k].toNat : Int)) := nums_at s k hlt
      obtain ⟨c, hc⟩ : ∃ c : Int, ((s[k]'hlt).toNat : Int) = c := ⟨_, rfl⟩
      rw [hc] at HT hc1 hc0
      by_cases q0 : c = 127
      · have a0 : (c == 127) = true := by simp [q0]
        have hcc : txC c = false := by rw [q0]; rfl
        have HZ : Hid (textZ (nums s) = false) := by unfold Hid textZ; rw [all_bad txC _ k c HT.out hcc]; rfl
        clear q0
        go_wp2
        go_ret
        exact ⟨ret_bool HZ.out.symm, Below.refl _ _⟩
      · have a0 : (c == 127) = false := by simp [q0]
        by_cases q1 : c < 32
        · have a1 : decide (c < 32) = true := by simp; omega
          by_cases q2 : c = 9
          · have a2 : (c != 9) = false := by simp [q2]
            have hcc : txC c = true := by rw [q2]; rfl
            clear q2
            go_wp2
            go_roundw
            case rel => exact ⟨k + 1, by go_num, by omega, by rw [all_take txC _ k c HT.out, HA.out, hcc]; rfl, by first | rfl | trivial⟩
            case measure => simp [intOf]; omega
          · have a2 : (c != 9) = true := by simp [q2]
            have hcc : txC c = false := by unfold txC; simp; omega
            have HZ : Hid (textZ (nums s) = false) := by unfold Hid textZ; rw [all_bad txC _ k c HT.out hcc]; rfl
            go_wp2
            go_ret
            exact ⟨ret_bool HZ.out.symm, Below.refl _ _⟩
        · have a1 : decide (c < 32) = false := by simp; omega
          have hcc : txC c = true := by unfold txC; simp; omega
          go_wp2
          go_roundw
          case rel => exact ⟨k + 1, by go_num, by omega, by rw [all_take txC _ k c HT.out, HA.out, hcc]; rfl, by first | rfl | trivial⟩
          case measure => simp [intOf]; omega
    · obtain rfl : k = s.size := by omega
      have HE : Hid (textZ (nums s) = validZ (nums s)) := by
        have := HA.out
        rw [List.take_of_length_le (by rw [nums_len]; exact Nat.le_refl _)] at this
        unfold Hid textZ; rw [this]; rfl
      obtain ⟨cap, w1, kc, hcap, hmx, hrow, hb, hfz⟩ := conv_bytes s w (by unfold maxLen; omega)
      have HB : Hid (Below w.heap.size w w1) := hb
      have hv := rvalid_row _ s.size cap (nums s) w1 (nums_len s) (nums_byt s) hcap (by unfold maxLen; omega) (by omega) hrow
      clear hrow hb hfz
      go_wp2_with (go_at_call 62; refine hv.mono ?_; rintro e w2 ⟨rfl, hb2⟩)
      go_ret
      exact ⟨ret_bool HE.out.symm, HB.out.trans (hb2.mono HB.out.size)⟩
end Go.Proofs.YtjcjhcpaojhcfaaDoor
