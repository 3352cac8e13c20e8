/-
  The reference: plain, number, Valid.
-/
import Derived.Test.YtfhgkkdbkbbpkaaDoorFb
import Derived.Test.YtfhgkkdbkbbpkaaDoorFd
import Derived.Test.YtfhgkkdbkbbpkaaDoorCURpts
namespace Go.Proofs.YtfhgkkdbkbbpkaaDoor
open Go.RowKit
set_option linter.unusedVariables false
set_option linter.unusedSimpArgs false

set_option maxRecDepth 100000 in
theorem rplain_any (s : ByteArray) (w : World) (hs : s.size ≤ 1000000000) : Calls Tryd.prog 25 #[.string s] w fun e w' => e = .returned (.bool (staysZ (nums s))) ∧ w = w' := by
  obtain ⟨n, hn⟩ : ∃ n, s.size = n := ⟨_, rfl⟩
  go_enter Tryd.func25, Tryd.ntmps25
  go_wp2
  go_loopw [3] (fun i wr => ∃ k : Nat, i = .int .i64 k ∧ k ≤ n ∧ wr = w ∧ Hid (((nums s).take k).all inB = true)) (fun i _ => n - (intOf i).toNat)
  case atStart => exact ⟨0, rfl, by omega, rfl, by unfold Hid; simp⟩
  case round =>
    obtain ⟨k, rfl, hk, rfl, HA⟩ := hrel
    by_cases hlt : k < n
    · have hks : k < s.size := by omega
      have k1 : (k : Int) < (s.size : Int) := by omega
      obtain ⟨c, hc⟩ : ∃ c : Int, (s[k].toNat : Int) = c := ⟨_, rfl⟩
      have hcb : 0 ≤ c ∧ c < 256 := by have := s[k].toNat_lt; omega
      have hget := nums_at s k hks
      rw [hc] at hget
      have hat := all_take inB (nums s) k c hget
      by_cases hg : 32 ≤ c ∧ c ≤ 126
      · obtain ⟨g1, g2⟩ := hg
        have d1 : decide (c < 32) = false := decide_eq_false (by omega)
        have d2 : decide (c > 126) = false := decide_eq_false (by omega)
        have HA2 : Hid (((nums s).take (k + 1)).all inB = true) := by unfold Hid; rw [hat, HA.out]; simp [inB, g1, g2]
        clear hat hget HA
        go_wp2
        go_roundw
        case rel => exact ⟨k + 1, by go_num, by omega, trivial, HA2⟩
        case measure => simp [intOf]; omega
      · have HF : Hid (staysZ (nums s) = false) := by
          unfold Hid staysZ
          rw [all_bad inB (nums s) k c hget (by unfold inB; simpa using hg)]; rfl
        clear hat hget HA
        by_cases h1 : c < 32
        · have d1 : decide (c < 32) = true := decide_eq_true h1
          go_wp2
          go_ret
          exact ⟨ret_bool HF.out.symm, rfl⟩
        · have d1 : decide (c < 32) = false := decide_eq_false h1
          have d2 : decide (c > 126) = true := decide_eq_true (by omega)
          go_wp2
          go_ret
          exact ⟨ret_bool HF.out.symm, rfl⟩
    · obtain rfl : k = n := by omega
      have HF : Hid (staysZ (nums s) = decide (k ≤ 60)) := by
        have := HA.out
        rw [List.take_of_length_le (by rw [nums_len]; omega)] at this
        unfold Hid staysZ
        rw [this, nums_len, hn]; rfl
      go_wp2
      go_ret
      exact ⟨ret_bool (by rw [HF.out]; simp; try omega), rfl⟩
theorem rvalid_yes (a : Option Addr) (len cap : Nat) (ps : List Int) (w : World) (hps : Cs.Ut.AllPt ps) (hlen : (Cs.Ut.flat ps).length = len) (hcap : len ≤ cap) (hm : cap ≤ maxLen) (hsmall : len ≤ 4000) (hrow : Row w a (Cs.Ut.flat ps)) :
    Calls Tryd.prog 23 #[.slice a len cap] w fun e w' => e = .returned (.bool true) ∧ Below w.heap.size w w' := by
  have K := Cs.Ut.rpoints_yes a len cap ps w hlen hps hcap hm hsmall hrow
  clear hlen hrow hps
  go_enter Tryd.func23, Tryd.ntmps23
  go_wp2_with fail
  refine K.mono ?_
  rintro e w1 ⟨v, rfl, hown, hb⟩
  obtain ⟨xa, xc, rfl, _, _, _, _⟩ := own_row' (e := 21) (k := .i32) (l := ps) hown
  clear hown K
  go_wp2
  go_ret
  exact ⟨rfl, hb.alloc hb.size _⟩
theorem rvalid_no (a : Option Addr) (len cap : Nat) (ps r : List Int) (w : World) (hps : Cs.Ut.AllPt ps) (hr : Cs.Ut.decZ r = none) (hne : r ≠ []) (hb : Byt r) (hlen : (Cs.Ut.flat ps ++ r).length = len) (hcap : len ≤ cap) (hm : cap ≤ maxLen) (hsmall : len ≤ 4000) (hrow : Row w a (Cs.Ut.flat ps ++ r)) :
    Calls Tryd.prog 23 #[.slice a len cap] w fun e w' => e = .returned (.bool false) ∧ Below w.heap.size w w' := by
  have K := Cs.Ut.rpoints_no a len cap ps r w hlen hps hr hne hb hcap hm hsmall hrow
  obtain ⟨q, hq⟩ : ∃ q, (Cs.Ut.flat ps).length = q := ⟨_, rfl⟩
  rw [hq] at K
  clear hlen hrow hps hr hne hb hq
  go_enter Tryd.func23, Tryd.ntmps23
  go_wp2_with fail
  refine K.mono ?_
  rintro e w1 ⟨rfl, hb⟩
  clear K
  go_wp2
  go_ret
  exact ⟨rfl, hb.alloc hb.size _⟩
set_option maxRecDepth 100000 in
theorem num1 (n : Nat) (w : World) (h : n < 10) : Calls Tryd.prog 50 #[.int .i64 n, .int .i64 1] w fun e w' => e = .returned (.string (strOfNums (itoaZ n))) ∧ Below w.heap.size w w' := by
  have kc := conv_row (w := w.alloc (.cells #[.int .u8 (48 + (n : Int))] 5)) (a := some ⟨w.heap.size, 0, none⟩) (l := [48 + (n : Int)]) 1 1 rfl (row_new w [48 + (n : Int)])
  have hz : strOfNums (itoaZ n) = strOfNums [48 + (n : Int)] := by unfold itoaZ; rw [if_pos h]
  have hs2 : (strOfNums [48 + (n : Int)]).size = 1 := size_strN _
  have r1 : (n : Int).tmod 10 = n := by rw [Int.tmod_eq_emod_of_nonneg (by omega)]; omega
  have r2 : (n : Int).tdiv 10 = 0 := by rw [Int.tdiv_eq_ediv_of_nonneg (by omega)]; omega
  have r3 : IntKind.u8.wrap (48 + (n : Int)) = 48 + (n : Int) := by simp [IntKind.wrap, IntKind.bits, IntKind.signed]; omega
  have hz0 : strOfNums [48 + (n : Int)] ++ ⟨#[]⟩ = strOfNums [48 + (n : Int)] := by rw [show (⟨#[]⟩ : ByteArray) = strOfNums [] from rfl, str_append, List.append_nil]
  rw [hz]
  go_enter Tryd.func50, Tryd.ntmps50
  go_wp2
  refine wp_loop_rounds 2 ?_
  rw [rounds_succ]
  go_wp2
  rw [rounds_succ]
  go_wp2
  go_ret
  exact ⟨by show Ending.returned (.string (strOfNums [48 + (n : Int)] ++ ⟨#[]⟩)) = _; rw [hz0], keep w _⟩
set_option maxRecDepth 100000 in
theorem num2 (n : Nat) (w : World) (h1 : 10 ≤ n) (h : n < 100) : Calls Tryd.prog 50 #[.int .i64 n, .int .i64 2] w fun e w' => e = .returned (.string (strOfNums (itoaZ n))) ∧ Below w.heap.size w w' := by
  obtain ⟨a, ha⟩ : ∃ a, n / 10 = a := ⟨_, rfl⟩
  obtain ⟨b, hb⟩ : ∃ b, n % 10 = b := ⟨_, rfl⟩
  have kc : ∀ V : World, (convert 31 9 (.slice (some ⟨V.heap.size, 0, none⟩) 1 1)).run Tryd.prog (V.alloc (.cells #[.int .u8 (48 + (b : Int))] 5)) = .ok (.string (strOfNums [48 + (b : Int)])) (V.alloc (.cells #[.int .u8 (48 + (b : Int))] 5)) := fun V => conv_row (w := V.alloc (.cells #[.int .u8 (48 + (b : Int))] 5)) (a := some ⟨V.heap.size, 0, none⟩) (l := [48 + (b : Int)]) 1 1 rfl (row_new V [48 + (b : Int)])
  have kd : ∀ V : World, (convert 31 9 (.slice (some ⟨V.heap.size, 0, none⟩) 1 1)).run Tryd.prog (V.alloc (.cells #[.int .u8 (48 + (a : Int))] 5)) = .ok (.string (strOfNums [48 + (a : Int)])) (V.alloc (.cells #[.int .u8 (48 + (a : Int))] 5)) := fun V => conv_row (w := V.alloc (.cells #[.int .u8 (48 + (a : Int))] 5)) (a := some ⟨V.heap.size, 0, none⟩) (l := [48 + (a : Int)]) 1 1 rfl (row_new V [48 + (a : Int)])
  have kc1 := kc w
  have kd1 := kd (w.alloc (.cells #[.int .u8 (48 + (b : Int))] 5))
  have hgz : (w.alloc (.cells #[.int .u8 (48 + (b : Int))] 5)).heap.size = w.heap.size + 1 := by simp
  rw [hgz] at kd1
  have hz : strOfNums (itoaZ n) = strOfNums [48 + (a : Int)] ++ (strOfNums [48 + (b : Int)] ++ ⟨#[]⟩) := by
    unfold itoaZ
    rw [if_neg (by omega), ha, hb, show (⟨#[]⟩ : ByteArray) = strOfNums [] from rfl, str_append, str_append]; rfl
  have hs2 : (strOfNums [48 + (b : Int)]).size = 1 := size_strN _
  have hs3 : (strOfNums [48 + (a : Int)]).size = 1 := size_strN _
  have r1 : (n : Int).tmod 10 = b := by rw [Int.tmod_eq_emod_of_nonneg (by omega)]; omega
  have r2 : (n : Int).tdiv 10 = a := by rw [Int.tdiv_eq_ediv_of_nonneg (by omega)]; omega
  have ha9 : a < 10 := by omega
  have hb9 : b < 10 := by omega
  have r4 : (a : Int).tmod 10 = a := by rw [Int.tmod_eq_emod_of_nonneg (by omega)]; omega
  have r5 : (a : Int).tdiv 10 = 0 := by rw [Int.tdiv_eq_ediv_of_nonneg (by omega)]; omega
  have r3 : IntKind.u8.wrap (48 + (b : Int)) = 48 + (b : Int) := by simp [IntKind.wrap, IntKind.bits, IntKind.signed]; omega
  have r6 : IntKind.u8.wrap (48 + (a : Int)) = 48 + (a : Int) := by simp [IntKind.wrap, IntKind.bits, IntKind.signed]; omega
  have kb : Below w.heap.size w ((w.alloc (.cells #[.int .u8 (48 + (b : Int))] 5)).alloc (.cells #[.int .u8 (48 + (a : Int))] 5)) := (keep w _).alloc (by simp) _
  rw [hz]
  clear ha hb kc kd hz hgz
  go_enter Tryd.func50, Tryd.ntmps50
  go_wp2
  refine wp_loop_rounds 3 ?_
  rw [rounds_succ]
  go_wp2
  rw [rounds_succ]
  go_wp2
  rw [rounds_succ]
  go_wp2
  go_ret
  exact ⟨rfl, kb⟩
theorem number_any (n : Nat) (w : World) (h : n < 100) : Calls Tryd.prog 27 #[.int .i64 n] w fun e w' => e = .returned (.string (strOfNums (itoaZ n))) ∧ Below w.heap.size w w' := by
  by_cases h1 : n < 10
  · have K := num1 n w h1
    obtain ⟨t, ht⟩ : ∃ t, strOfNums (itoaZ n) = t := ⟨_, rfl⟩
    rw [ht] at K ⊢
    have d1 : decide ((n : Int) < 10) = true := decide_eq_true (by omega)
    go_enter Tryd.func27, Tryd.ntmps27
    go_wp2_with (go_at_call 50; refine K.mono ?_; rintro e w' ⟨rfl, hb⟩)
    go_ret
    exact ⟨rfl, hb⟩
  · have K := num2 n w (by omega) h
    obtain ⟨t, ht⟩ : ∃ t, strOfNums (itoaZ n) = t := ⟨_, rfl⟩
    rw [ht] at K ⊢
    have d1 : decide ((n : Int) < 10) = false := decide_eq_false (by omega)
    go_enter Tryd.func27, Tryd.ntmps27
    go_wp2_with (go_at_call 50; refine K.mono ?_; rintro e w' ⟨rfl, hb⟩)
    go_ret
    exact ⟨rfl, hb⟩
end Go.Proofs.YtfhgkkdbkbbpkaaDoor
