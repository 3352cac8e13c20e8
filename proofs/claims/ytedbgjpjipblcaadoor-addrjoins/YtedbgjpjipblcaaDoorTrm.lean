/-
  Blanks off a text; the contracts of strings.Trim, TrimLeft, TrimRight, CutPrefix and CutSuffix.
-/
import Derived.Test.YtedbgjpjipblcaaDoorPlain
namespace Go.Proofs.YtedbgjpjipblcaaDoor
open Go.RowKit
set_option linter.unusedVariables false

def ltrim (l : List Int) : List Int := l.dropWhile fun c => decide (c = 32)
def rtrim (l : List Int) : List Int := (l.reverse.dropWhile fun c => decide (c = 32)).reverse
theorem ltrim_nil : ltrim [] = [] := rfl
theorem ltrim_32 (l : List Int) : ltrim (32 :: l) = ltrim l := by simp [ltrim]
theorem ltrim_cons {c : Int} (h : c ≠ 32) (l : List Int) : ltrim (c :: l) = c :: l := by simp [ltrim, h]
theorem rtrim_nil : rtrim [] = [] := rfl
theorem rtrim_32 (l : List Int) : rtrim (l ++ [32]) = rtrim l := by simp [rtrim]
theorem rtrim_snoc {c : Int} (h : c ≠ 32) (l : List Int) : rtrim (l ++ [c]) = l ++ [c] := by simp [rtrim, h]
theorem ltrim_byt {l : List Int} (h : Byt l) : Byt (ltrim l) := fun x hx => h x ((List.dropWhile_sublist _).mem hx)
theorem rtrim_byt {l : List Int} (h : Byt l) : Byt (rtrim l) := fun x hx => h x (by
  have := (List.dropWhile_sublist (l := l.reverse) (fun c : Int => decide (c = 32))).mem (List.mem_reverse.1 hx)
  simpa using this)
theorem ltrim_len (l : List Int) : (ltrim l).length ≤ l.length := (List.dropWhile_sublist _).length_le
theorem rtrim_len (l : List Int) : (rtrim l).length ≤ l.length := by
  unfold rtrim; rw [List.length_reverse]
  have := (List.dropWhile_sublist (l := l.reverse) (fun c : Int => decide (c = 32))).length_le
  rwa [List.length_reverse] at this
def ltS (s : ByteArray) : ByteArray := strOfNums (ltrim (nums s))
def rtS (s : ByteArray) : ByteArray := strOfNums (rtrim (nums s))
theorem nums_lt (s : ByteArray) : nums (ltS s) = ltrim (nums s) := nums_str (ltrim_byt (nums_byt s))
theorem nums_rt (s : ByteArray) : nums (rtS s) = rtrim (nums s) := nums_str (rtrim_byt (nums_byt s))
theorem lt_size (s : ByteArray) : (ltS s).size ≤ s.size := by rw [← nums_len, nums_lt, ← nums_len]; exact ltrim_len _
theorem rt_size (s : ByteArray) : (rtS s).size ≤ s.size := by rw [← nums_len, nums_rt, ← nums_len]; exact rtrim_len _
theorem nums_last (s : ByteArray) (h : 0 < s.size) : nums s = nums (s.extract 0 (s.size - 1)) ++ [(s[s.size - 1].toNat : Int)] := by
  have h1 := nums_at s (s.size - 1) (by omega)
  rw [nums_to]
  conv => lhs; rw [← List.take_append_drop (s.size - 1) (nums s)]
  congr 1
  rw [nums_drop s (s.size - 1) (by omega), show s.size - 1 + 1 = s.size by omega, List.drop_of_length_le (by rw [nums_len]; exact Nat.le_refl _)]
def strSize : Value → Nat
  | .string t => t.size
  | _ => 0
set_option maxHeartbeats 1000000 in
theorem tl36_any (s : ByteArray) (w : World) : Calls Tryd.prog 36 #[.string s, .int .u8 32] w fun e w' => e = .returned (.string (ltS s)) ∧ w = w' := by
  go_enter Tryd.func36, Tryd.ntmps36
  go_wp2
  go_loopw [0] (fun v wr => ∃ t : ByteArray, v = .string t ∧ ltrim (nums t) = ltrim (nums s) ∧ w = wr) (fun v _ => strSize v)
  case atStart => exact ⟨s, rfl, rfl, rfl⟩
  case round =>
    obtain ⟨t, rfl, hq, rfl⟩ := hrel
    have HQ : Hid (ltrim (nums t) = ltrim (nums s)) := hq
    clear hq
    by_cases h0 : 0 < t.size
    · have hd : decide ((t.size : Int) > 0) = true := decide_eq_true (by omega)
      have HD : Hid (nums t = (t[0].toNat : Int) :: (nums t).drop 1) := nums_drop t 0 h0
      obtain ⟨c, hc⟩ : ∃ c : Int, ((t[0]'h0).toNat : Int) = c := ⟨_, rfl⟩
      rw [hc] at HD
      have k1 : (1 : Int) ≤ (t.size : Int) := by omega
      by_cases h32 : c = 32
      · subst h32
        have HR : Hid (ltrim (nums (t.extract 1 t.size)) = ltrim (nums s)) := by
          unfold Hid; rw [nums_from, ← HQ.out]
          conv => rhs; rw [HD.out]
          rw [ltrim_32]
        have hz : (t.extract 1 t.size).size + 1 = t.size := by rw [← nums_len, nums_from, List.length_drop, nums_len]; omega
        go_wp2
        go_roundw
        case rel => exact ⟨_, rfl, HR.out, by first | trivial | rfl⟩
        case measure => simp only [strSize]; omega
      · have hb : (c == 32) = false := by rw [beq_eq_false_iff_ne]; exact h32
        have HR : Hid (t = ltS s) := by
          apply nums_inj; rw [nums_lt, ← HQ.out, HD.out, ltrim_cons h32]
        clear h32
        go_wp2
        go_ret
        exact ⟨by rw [← HR.out]; rfl, by first | trivial | rfl⟩
    · have hd : decide ((t.size : Int) > 0) = false := decide_eq_false (by omega)
      have HR : Hid (t = ltS s) := by
        apply nums_inj
        have : nums t = [] := List.eq_nil_of_length_eq_zero (by rw [nums_len]; omega)
        rw [nums_lt, ← HQ.out, this]; rfl
      go_wp2
      go_ret
      exact ⟨by rw [← HR.out]; rfl, by first | trivial | rfl⟩
set_option maxHeartbeats 1000000 in
theorem tr37_any (s : ByteArray) (w : World) (hs : s.size ≤ 1000000000) : Calls Tryd.prog 37 #[.string s, .int .u8 32] w fun e w' => e = .returned (.string (rtS s)) ∧ w = w' := by
  go_enter Tryd.func37, Tryd.ntmps37
  go_wp2
  go_loopw [0] (fun v wr => ∃ t : ByteArray, v = .string t ∧ t.size ≤ 1000000000 ∧ rtrim (nums t) = rtrim (nums s) ∧ w = wr) (fun v _ => strSize v)
  case atStart => exact ⟨s, rfl, hs, rfl, rfl⟩
  case round =>
    obtain ⟨t, rfl, hts, hq, rfl⟩ := hrel
    have HQ : Hid (rtrim (nums t) = rtrim (nums s)) := hq
    clear hq
    by_cases h0 : 0 < t.size
    · have hd : decide ((t.size : Int) > 0) = true := decide_eq_true (by omega)
      have HD : Hid (nums t = nums (t.extract 0 (t.size - 1)) ++ [(t[t.size - 1].toNat : Int)]) := nums_last t h0
      obtain ⟨c, hc⟩ : ∃ c : Int, ((t[t.size - 1]'(by omega)).toNat : Int) = c := ⟨_, rfl⟩
      rw [hc] at HD
      have k1 : (0 : Int) ≤ (t.size : Int) - 1 := by omega
      have k2 : (t.size : Int) - 1 < (t.size : Int) := by omega
      have k3 : (t.size : Int) - 1 ≤ (t.size : Int) := by omega
      have k4 : ((t.size : Int) - 1).toNat = t.size - 1 := by omega
      by_cases h32 : c = 32
      · subst h32
        have HR : Hid (rtrim (nums (t.extract 0 (t.size - 1))) = rtrim (nums s)) := by
          unfold Hid; rw [← HQ.out]
          conv => rhs; rw [HD.out]
          rw [rtrim_32]
        have hz : (t.extract 0 (t.size - 1)).size + 1 = t.size := by rw [← nums_len, nums_to, List.length_take, nums_len]; omega
        go_wp2
        go_roundw
        case rel => exact ⟨_, rfl, by omega, HR.out, by first | trivial | rfl⟩
        case measure => simp only [strSize]; omega
      · have hb : (c == 32) = false := by rw [beq_eq_false_iff_ne]; exact h32
        have HR : Hid (t = rtS s) := by
          apply nums_inj; rw [nums_rt, ← HQ.out, HD.out, rtrim_snoc h32]
        clear h32
        go_wp2
        go_ret
        exact ⟨by rw [← HR.out]; rfl, by first | trivial | rfl⟩
    · have hd : decide ((t.size : Int) > 0) = false := decide_eq_false (by omega)
      have HR : Hid (t = rtS s) := by
        apply nums_inj
        have : nums t = [] := List.eq_nil_of_length_eq_zero (by rw [nums_len]; omega)
        rw [nums_rt, ← HQ.out, this]; rfl
      go_wp2
      go_ret
      exact ⟨by rw [← HR.out]; rfl, by first | trivial | rfl⟩
theorem nums_e {s : ByteArray} (h : s.size = 0) : nums s = [] := List.eq_nil_of_length_eq_zero (by rw [nums_len]; exact h)
set_option maxRecDepth 100000 in
set_option maxHeartbeats 2000000 in
theorem trimLeft_any (s : ByteArray) (w : World) : Calls Tryd.prog 23 #[.string s, .string ⟨#[32]⟩] w fun e w' => e = .returned (.string (ltS s)) ∧ w = w' := by
  have he := empty_list s
  by_cases h0 : s.size = 0
  · rw [decide_eq_true h0] at he
    obtain rfl : s = ⟨#[]⟩ := nums_inj (nums_e h0)
    have HR : Hid (ltS ⟨#[]⟩ = ⟨#[]⟩) := by apply nums_inj; rw [nums_lt]; rfl
    clear h0 he
    go_enter Tryd.func23, Tryd.ntmps23
    go_wp2
    go_ret
    exact ⟨by rw [HR.out]; rfl, rfl⟩
  · rw [decide_eq_false h0] at he
    have he2 : ¬ s.toList = [] := by simpa using he
    go_enter Tryd.func23, Tryd.ntmps23
    go_wp2_with (go_at_call 36; refine (tl36_any s _).mono ?_; rintro e w' ⟨rfl, rfl⟩)
    go_ret
    exact ⟨rfl, rfl⟩
set_option maxRecDepth 100000 in
set_option maxHeartbeats 2000000 in
theorem trimRight_any (s : ByteArray) (w : World) (hs : s.size ≤ 1000000000) : Calls Tryd.prog 47 #[.string s, .string ⟨#[32]⟩] w fun e w' => e = .returned (.string (rtS s)) ∧ w = w' := by
  have he := empty_list s
  by_cases h0 : s.size = 0
  · rw [decide_eq_true h0] at he
    obtain rfl : s = ⟨#[]⟩ := nums_inj (nums_e h0)
    have HR : Hid (rtS ⟨#[]⟩ = ⟨#[]⟩) := by apply nums_inj; rw [nums_rt]; rfl
    clear h0 he
    go_enter Tryd.func47, Tryd.ntmps47
    go_wp2
    go_ret
    exact ⟨by rw [HR.out]; rfl, rfl⟩
  · rw [decide_eq_false h0] at he
    have he2 : ¬ s.toList = [] := by simpa using he
    go_enter Tryd.func47, Tryd.ntmps47
    go_wp2_with (go_at_call 37; refine (tr37_any s _ hs).mono ?_; rintro e w' ⟨rfl, rfl⟩)
    go_ret
    exact ⟨rfl, rfl⟩
set_option maxRecDepth 100000 in
set_option maxHeartbeats 2000000 in
theorem trim_any (s : ByteArray) (w : World) (hs : s.size ≤ 1000000000) : Calls Tryd.prog 19 #[.string s, .string ⟨#[32]⟩] w fun e w' => e = .returned (.string (ltS (rtS s))) ∧ Below w.heap.size w w' := by
  have he := empty_list s
  by_cases h0 : s.size = 0
  · rw [decide_eq_true h0] at he
    obtain rfl : s = ⟨#[]⟩ := nums_inj (nums_e h0)
    have HR : Hid (ltS (rtS ⟨#[]⟩) = ⟨#[]⟩) := by apply nums_inj; rw [nums_lt, nums_rt]; rfl
    clear h0 he
    go_enter Tryd.func19, Tryd.ntmps19
    go_wp2
    go_ret
    exact ⟨by rw [HR.out]; rfl, Below.refl _ _⟩
  · rw [decide_eq_false h0] at he
    have he2 : ¬ s.toList = [] := by simpa using he
    go_enter Tryd.func19, Tryd.ntmps19
    go_wp2_with fail
    go_quiet (first | (go_at_call 37; refine Calls.quiet_of_same ((tr37_any s _ hs).mono fun e w' h => ⟨h.1, h.2.symm⟩)) | (go_at_call 36; refine Calls.quiet_of_same ((tl36_any (rtS s) _).mono fun e w' h => ⟨h.1, h.2.symm⟩)))
    go_wp2
    go_ret
    exact ⟨rfl, below_drewN (Below.refl _ _) _⟩
end Go.Proofs.YtedbgjpjipblcaaDoor
