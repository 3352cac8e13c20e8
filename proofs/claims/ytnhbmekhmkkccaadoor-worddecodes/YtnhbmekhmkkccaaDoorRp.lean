/-
  The contracts of the reference's Has and Plain.
-/
import Derived.Test.YtnhbmekhmkkccaaDoorSh
namespace Go.Proofs.YtnhbmekhmkkccaaDoor
open Go.RowKit
set_option linter.unusedVariables false

/-- Does a text stand in another one? -/
def hasZ (t : List Int) : List Int → Bool
  | [] => decide (t = [])
  | c :: r => decide ((c :: r).take t.length = t) || hasZ t r
theorem has_short {t : List Int} : ∀ {l : List Int}, l.length < t.length → hasZ t l = false
  | [], h => by
    rw [hasZ, decide_eq_false]
    rintro rfl; simp at h
  | c :: r, h => by
    rw [hasZ, has_short (l := r) (by simp at h; omega), Bool.or_false, decide_eq_false]
    intro e
    have := congrArg List.length e
    rw [List.length_take] at this
    omega
theorem has_two (a b : Int) : ∀ l : List Int, hasZ [a, b] l = has2 a b l
  | [] => rfl
  | [c] => by simp [hasZ, has2]
  | c :: d :: r => by
    have ih := has_two a b (d :: r)
    rw [hasZ, ih, has2]
    congr 1
    simp
theorem has_one (a : Int) : ∀ l : List Int, hasZ [a] l = decide (a ∈ l)
  | [] => by simp [hasZ]
  | c :: r => by
    rw [hasZ, has_one a r]
    simp only [List.length_cons, List.length_nil, Nat.zero_add, List.take_succ_cons, List.take_zero, List.cons.injEq, and_true, List.mem_cons]
    rw [Bool.eq_iff_iff]
    simp only [Bool.or_eq_true, decide_eq_true_eq]
    constructor
    · rintro (h | h)
      · exact .inl h.symm
      · exact .inr h
    · rintro (h | h)
      · exact .inl h.symm
      · exact .inr h
set_option maxHeartbeats 2000000 in
set_option maxRecDepth 100000 in
theorem has_any (s t : ByteArray) (w : World) (hs : s.size ≤ 1000000000) (h1 : 1 ≤ t.size) (h2 : t.size ≤ 10) :
    Calls Tryd.prog 28 #[.string s, .string t] w fun e w' => e = .returned (.bool (hasZ (nums t) (nums s))) ∧ w = w' := by
  go_enter Tryd.func28, Tryd.ntmps28
  go_wp2
  go_loopw [5] (fun i wr => ∃ k : Nat, i = .int .i64 k ∧ k ≤ s.size ∧ hasZ (nums t) ((nums s).drop k) = hasZ (nums t) (nums s) ∧ w = wr) (fun i _ => s.size - (intOf i).toNat)
  case atStart => exact ⟨0, rfl, by omega, by rw [List.drop_zero], rfl⟩
  case round =>
    obtain ⟨k, rfl, hk, hh, rfl⟩ := hrel
    have HH : Hid (hasZ (nums t) ((nums s).drop k) = hasZ (nums t) (nums s)) := hh
    clear hh
    by_cases hlt : k + t.size ≤ s.size
    · have hl1 : decide ((k : Int) + (t.size : Int) ≤ (s.size : Int)) = true := decide_eq_true (by omega)
      have k0 : (0 : Int) ≤ (k : Int) := by omega
      have k1 : (k : Int) ≤ (k : Int) + (t.size : Int) := by omega
      have k2 : (k : Int) + (t.size : Int) ≤ (s.size : Int) := by omega
      have k3 : ((k : Int) + (t.size : Int)).toNat = k + t.size := by omega
      have hen := eq_nums (s.extract k (k + t.size)) t
      rw [nums_extract, show k + t.size - k = t.size by omega] at hen
      have hd := nums_drop s k (by omega)
      have hlen := nums_len t
      by_cases hq : ((nums s).drop k).take t.size = nums t
      · have HT : Hid (hasZ (nums t) (nums s) = true) := by
          unfold Hid; rw [← HH.out, hd, hasZ, ← hd, hlen, decide_eq_true hq, Bool.true_or]
        rw [decide_eq_true hq] at hen
        have hen2 : (s.extract k (k + t.size)).toList = t.toList := by simpa using hen
        clear hd hq hlen
        go_wp2
        go_ret
        exact ⟨ret_bool HT.out.symm, by first | trivial | rfl⟩
      · have HT : Hid (hasZ (nums t) ((nums s).drop (k + 1)) = hasZ (nums t) (nums s)) := by
          unfold Hid; rw [← HH.out]
          conv => rhs; rw [hd, hasZ, ← hd, hlen, decide_eq_false hq, Bool.false_or]
        rw [decide_eq_false hq] at hen
        have hen2 : ¬ (s.extract k (k + t.size)).toList = t.toList := by simpa using hen
        clear hd hq hlen
        go_wp2
        go_roundw
        case rel => exact ⟨k + 1, by go_num, by omega, HT.out, by first | trivial | rfl⟩
        case measure => simp [intOf]; omega
    · have hl1 : decide ((k : Int) + (t.size : Int) ≤ (s.size : Int)) = false := decide_eq_false (by omega)
      have HT : Hid (hasZ (nums t) (nums s) = false) := by
        unfold Hid; rw [← HH.out, has_short (by rw [List.length_drop, nums_len, nums_len]; omega)]
      go_wp2
      go_ret
      exact ⟨ret_bool HT.out.symm, by first | trivial | rfl⟩
theorem has2_any (s : ByteArray) (x y : UInt8) (w : World) (hs : s.size ≤ 1000000000) :
    Calls Tryd.prog 28 #[.string s, .string ⟨#[x, y]⟩] w fun e w' => e = .returned (.bool (has2 (x.toNat : Int) (y.toNat : Int) (nums s))) ∧ w = w' := by
  have := has_any s ⟨#[x, y]⟩ w hs (by show 1 ≤ 2; omega) (by show 2 ≤ 10; omega)
  rw [show nums (⟨#[x, y]⟩ : ByteArray) = [(x.toNat : Int), (y.toNat : Int)] from rfl, has_two] at this
  exact this
set_option maxHeartbeats 2000000 in
set_option maxRecDepth 100000 in
theorem rplain_any (s : ByteArray) (w : World) (hs : s.size ≤ 1000000000) :
    Calls Tryd.prog 13 #[.string s] w fun e w' => e = .returned (.bool (plainZ (nums s))) ∧ w = w' := by
  have HC1 := has2_any s 32 32 w hs
  have HC2 := has2_any s 61 63 w hs
  have ha : ((32 : UInt8).toNat : Int) = 32 := rfl
  have hb : ((61 : UInt8).toNat : Int) = 61 := rfl
  have hc : ((63 : UInt8).toNat : Int) = 63 := rfl
  rw [ha] at HC1
  rw [hb, hc] at HC2
  clear ha hb hc
  generalize hq3 : has2 32 32 (nums s) = b3 at HC1
  generalize hq4 : has2 61 63 (nums s) = b4 at HC2
  have HZ : Hid (plainZ (nums s) = ((nums s).all valC && !endsB (nums s) && !b3 && !b4)) := by unfold Hid plainZ; rw [hq3, hq4]
  clear hq3 hq4
  go_enter Tryd.func13, Tryd.ntmps13
  go_wp2
  go_loopw [3] (fun i wr => ∃ k : Nat, i = .int .i64 k ∧ k ≤ s.size ∧ ((nums s).take k).all valC = true ∧ w = wr) (fun i _ => s.size - (intOf i).toNat)
  case atStart => exact ⟨0, rfl, by omega, by simp, rfl⟩
  case round =>
    obtain ⟨k, rfl, hk, hal, rfl⟩ := hrel
    have HA : Hid (((nums s).take k).all valC = true) := hal
    clear hal
    by_cases hlt : k < s.size
    · have HN : Hid ((nums s)[k]? = some (s[k].toNat : Int)) := nums_at s k hlt
      obtain ⟨c, hc⟩ : ∃ c : Int, (s[k].toNat : Int) = c := ⟨_, rfl⟩
      rw [hc] at HN
      by_cases h32 : c < 32
      · have HV : Hid (plainZ (nums s) = false) := by
          unfold Hid; rw [HZ.out, all_bad _ _ _ _ HN.out (by simp [valC]; omega)]; simp
        go_wp2
        go_ret
        exact ⟨ret_bool HV.out.symm, by first | trivial | rfl⟩
      · by_cases h126 : 126 < c
        · have HV : Hid (plainZ (nums s) = false) := by
            unfold Hid; rw [HZ.out, all_bad _ _ _ _ HN.out (by simp [valC]; omega)]; simp
          have hd1 : decide (c < 32) = false := decide_eq_false h32
          go_wp2
          go_ret
          exact ⟨ret_bool HV.out.symm, by first | trivial | rfl⟩
        · have HV : Hid (((nums s).take (k + 1)).all valC = true) := by
            unfold Hid; rw [all_take _ _ _ _ HN.out, HA.out]; simp [valC]; omega
          have hd1 : decide (c < 32) = false := decide_eq_false h32
          go_wp2
          go_roundw
          case rel => exact ⟨k + 1, by go_num, by omega, HV.out, by first | trivial | rfl⟩
          case measure => simp [intOf]; omega
    · obtain rfl : k = s.size := by omega
      have HV : Hid (plainZ (nums s) = (!endsB (nums s) && !b3 && !b4)) := by
        unfold Hid; rw [HZ.out]
        have := HA.out
        rw [List.take_of_length_le (by rw [nums_len]; exact Nat.le_refl _)] at this
        rw [this, Bool.true_and]
      clear HZ HA
      have hl1 : decide ((s.size : Int) < (s.size : Int)) = false := by simp
      have tail : ∀ be : Bool, endsB (nums s) = be → (be = true ∨ be = false) := fun be _ => by cases be <;> simp
      by_cases h0 : 0 < s.size
      · have hg0 : decide ((s.size : Int) > 0) = true := decide_eq_true (by omega)
        have e1 : (nums s).take 1 = [(s[0].toNat : Int)] := by
          have := nums_drop s 0 h0
          rw [List.drop_zero] at this
          rw [this]; rfl
        have e2 : (nums s).drop ((nums s).length - 1) = [((s[s.size - 1]'(by omega)).toNat : Int)] := by
          rw [nums_len, nums_drop s (s.size - 1) (by omega), show s.size - 1 + 1 = s.size by omega, List.drop_of_length_le (by rw [nums_len]; exact Nat.le_refl _)]
        have HE : Hid (endsB (nums s) = (decide ((s[0].toNat : Int) = 32) || decide (((s[s.size - 1]'(by omega)).toNat : Int) = 32))) := by
          unfold Hid endsB; rw [e1, e2]; simp
        have k1 : (0 : Int) ≤ (s.size : Int) - 1 := by omega
        have k2 : (s.size : Int) - 1 < (s.size : Int) := by omega
        have k3 : ((s.size : Int) - 1).toNat = s.size - 1 := by omega
        have k4 : s.size - 1 < s.size := by omega
        obtain ⟨c, hc⟩ : ∃ c : Int, ((s[0]'h0).toNat : Int) = c := ⟨_, rfl⟩
        obtain ⟨d, hdd⟩ : ∃ d : Int, ((s[s.size - 1]'k4).toNat : Int) = d := ⟨_, rfl⟩
        rw [hc, hdd] at HE
        clear e1 e2 tail
        by_cases hc3 : c = 32
        · have HV2 : Hid (plainZ (nums s) = false) := by unfold Hid; rw [HV.out, HE.out, decide_eq_true hc3]; simp
          have hcb : (c == 32) = true := by rw [hc3]; rfl
          go_wp2
          go_ret
          exact ⟨ret_bool HV2.out.symm, by first | trivial | rfl⟩
        · have hcb : (c == 32) = false := by rw [beq_eq_false_iff_ne]; exact hc3
          by_cases hd3 : d = 32
          · have HV2 : Hid (plainZ (nums s) = false) := by unfold Hid; rw [HV.out, HE.out, decide_eq_true hd3]; simp
            have hdb : (d == 32) = true := by rw [hd3]; rfl
            go_wp2
            go_ret
            exact ⟨ret_bool HV2.out.symm, by first | trivial | rfl⟩
          · have HV2 : Hid (plainZ (nums s) = (!b3 && !b4)) := by unfold Hid; rw [HV.out, HE.out, decide_eq_false hc3, decide_eq_false hd3]; simp
            have hdb : (d == 32) = false := by rw [beq_eq_false_iff_ne]; exact hd3
            cases b3 with
            | true =>
              go_wp2_with (go_at_call 28; refine HC1.mono ?_; rintro e w' ⟨rfl, rfl⟩)
              go_ret
              exact ⟨ret_bool HV2.out.symm, by first | trivial | rfl⟩
            | false =>
              go_wp2_with (first
                | (go_at_call_of 28 (Value.string ⟨#[32, 32]⟩); refine HC1.mono ?_; rintro e w' ⟨rfl, rfl⟩)
                | (go_at_call 28; refine HC2.mono ?_; rintro e w' ⟨rfl, rfl⟩))
              go_ret
              exact ⟨ret_bool HV2.out.symm, by first | trivial | rfl⟩
      · have hg0 : decide ((s.size : Int) > 0) = false := decide_eq_false (by omega)
        have HE : Hid (endsB (nums s) = false) := by
          have : nums s = [] := List.eq_nil_of_length_eq_zero (by rw [nums_len]; omega)
          unfold Hid; rw [this]; rfl
        have HV2 : Hid (plainZ (nums s) = (!b3 && !b4)) := by unfold Hid; rw [HV.out, HE.out]; simp
        clear tail
        cases b3 with
        | true =>
          go_wp2_with (go_at_call 28; refine HC1.mono ?_; rintro e w' ⟨rfl, rfl⟩)
          go_ret
          exact ⟨ret_bool HV2.out.symm, by first | trivial | rfl⟩
        | false =>
          go_wp2_with (first
            | (go_at_call_of 28 (Value.string ⟨#[32, 32]⟩); refine HC1.mono ?_; rintro e w' ⟨rfl, rfl⟩)
            | (go_at_call 28; refine HC2.mono ?_; rintro e w' ⟨rfl, rfl⟩))
          go_ret
          exact ⟨ret_bool HV2.out.symm, by first | trivial | rfl⟩
end Go.Proofs.YtnhbmekhmkkccaaDoor
