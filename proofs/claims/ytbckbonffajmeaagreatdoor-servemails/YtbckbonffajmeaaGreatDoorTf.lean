/-
  How many last lines of replies are in a text: the contract of lines.
-/
import Derived.Test.YtbckbonffajmeaaGreatDoorTb
namespace Go.Proofs.YtbckbonffajmeaaGreatDoor
open Go.RowKit Go.Shelf Go.Maps
set_option linter.unusedVariables false
set_option linter.unusedSimpArgs false

def lstep (l : List Int) (i : Nat) (p : Nat × Nat) : Option (Nat × Nat) :=
  if l.getD (i - 1) 0 = 13 ∧ l.getD i 0 = 10 then
    if i < p.2 + 4 ∨ l.getD p.2 0 < 50 ∨ 53 < l.getD p.2 0 ∨ (l.getD (p.2 + 3) 0 ≠ 32 ∧ l.getD (p.2 + 3) 0 ≠ 45) then none
    else some (if l.getD (p.2 + 3) 0 = 32 then p.1 + 1 else p.1, i + 1)
  else some p
def lrun (l : List Int) : Nat → Option (Nat × Nat)
  | 0 => some (0, 0)
  | k + 1 => (lrun l k).bind (lstep l (k + 1))
def linesZ (l : List Int) : Int := match lrun l (l.length - 1) with
  | none => -1
  | some p => if p.2 = l.length then p.1 else -1
theorem lrun_none {l : List Int} {k : Nat} (h : lrun l k = none) : ∀ j, lrun l (k + j) = none
  | 0 => h
  | j + 1 => by
    show (lrun l (k + j)).bind _ = none
    rw [lrun_none h j]; rfl
theorem lines_no {l : List Int} {k : Nat} (hk : k ≤ l.length - 1) (h : lrun l k = none) : linesZ l = -1 := by
  have := lrun_none h (l.length - 1 - k)
  rw [show k + (l.length - 1 - k) = l.length - 1 from by omega] at this
  unfold linesZ; rw [this]
theorem lstep_none {l : List Int} {k : Nat} {p : Nat × Nat} (hk : k + 1 ≤ l.length - 1) (h : lrun l k = some p) (hn : lstep l (k + 1) p = none) : linesZ l = -1 :=
  lines_no hk (by show (lrun l k).bind _ = none; rw [h]; exact hn)
theorem getD_at {s : ByteArray} {k : Nat} (h : k < s.size) : (nums s).getD k 0 = ((s[k]'h).toNat : Int) := by
  rw [List.getD_eq_getElem?_getD, nums_at s k h]; rfl
set_option maxHeartbeats 16000000 in
set_option maxRecDepth 100000 in
theorem lines_any (s : ByteArray) (w : World) (hs : s.size ≤ 1000000000) : Calls Tryz.prog 22 #[.string s] w fun e w' => e = .returned (.int .i64 (linesZ (nums s))) ∧ w = w' := by
  obtain ⟨n, hn⟩ : ∃ n, s.size = n := ⟨_, rfl⟩
  go_enter Tryz.func22, Tryz.ntmps22
  go_wp2
  go_loopw [3, 4, 5] (fun x y i wr => ∃ (k c t : Nat), i = .int .i64 ((k : Int) + 1) ∧ x = .int .i64 (c : Nat) ∧ y = .int .i64 (t : Nat) ∧ k + 1 ≤ n + 1 ∧ (k = 0 ∨ k + 1 ≤ n) ∧ t ≤ k + 1 ∧ c ≤ k ∧ Hid (lrun (nums s) k = some (c, t)) ∧ w = wr) (fun x y i _ => n - (intOf i).toNat)
  case atStart => exact ⟨0, 0, 0, rfl, rfl, rfl, by omega, .inl rfl, by omega, by omega, rfl, rfl⟩
  case round =>
    obtain ⟨k, c, t, rfl, rfl, rfl, hk0, hk1, ht, hc, HR, rfl⟩ := hrel
    have hlen : Hid ((nums s).length = n) := by unfold Hid; rw [nums_len]; exact hn
    by_cases hlt : k + 1 < n
    · have ha : k < s.size := by omega
      have hb : k + 1 < s.size := by omega
      have i0 : (0 : Int) ≤ (k : Int) := by omega
      have i1 : (k : Int) < (s.size : Int) := by omega
      have i2 : (k : Int) + 1 < (s.size : Int) := by omega
      have hl1 : (k : Int) + 1 < (n : Int) := by omega
      have HA : Hid ((nums s).getD k 0 = ((s[k]'ha).toNat : Int)) := getD_at ha
      have HB : Hid ((nums s).getD (k + 1) 0 = ((s[k + 1]'hb).toNat : Int)) := getD_at hb
      obtain ⟨x1, hx1⟩ : ∃ c : Int, ((s[k]'ha).toNat : Int) = c := ⟨_, rfl⟩
      obtain ⟨x2, hx2⟩ : ∃ c : Int, ((s[k + 1]'hb).toNat : Int) = c := ⟨_, rfl⟩
      rw [hx1] at HA
      rw [hx2] at HB
      have same : Hid (¬ (x1 = 13 ∧ x2 = 10) → lrun (nums s) (k + 1) = some (c, t)) := fun hne => by
        show (lrun (nums s) k).bind _ = _
        rw [HR.out]
        show lstep _ _ _ = _
        unfold lstep
        rw [show k + 1 - 1 = k from by omega, HA.out, HB.out, if_neg hne]
      by_cases q1 : x1 = 13
      rotate_left
      · have H2 := same.out (fun h => q1 h.1)
        have HN : Hid (lrun (nums s) (k + 1) = some (c, t)) := H2
        have d1 : (x1 != 13) = true := by simpa using q1
        clear H2 hx2
        go_wp2
        go_roundw
        case rel => exact ⟨k + 1, c, t, by go_num, rfl, rfl, by omega, .inr (by omega), by omega, by omega, HN, trivial⟩
        case measure => simp [intOf]; omega
      by_cases q2 : x2 = 10
      rotate_left
      · have H2 := same.out (fun h => q2 h.2)
        have HN : Hid (lrun (nums s) (k + 1) = some (c, t)) := H2
        have d1 : (x1 != 13) = false := by simpa using q1
        have d2 : (x2 != 10) = true := by simpa using q2
        clear H2
        go_wp2
        go_roundw
        case rel => exact ⟨k + 1, c, t, by go_num, rfl, rfl, by omega, .inr (by omega), by omega, by omega, HN, trivial⟩
        case measure => simp [intOf]; omega
      clear same
      have d1 : (x1 != 13) = false := by simpa using q1
      have d2 : (x2 != 10) = false := by simpa using q2
      have step : Hid (lstep (nums s) (k + 1) (c, t) = if k + 1 < t + 4 ∨ (nums s).getD t 0 < 50 ∨ 53 < (nums s).getD t 0 ∨ ((nums s).getD (t + 3) 0 ≠ 32 ∧ (nums s).getD (t + 3) 0 ≠ 45) then none
          else some (if (nums s).getD (t + 3) 0 = 32 then c + 1 else c, k + 1 + 1)) := by
        unfold Hid lstep
        rw [show k + 1 - 1 = k from by omega, HA.out, HB.out, if_pos ⟨q1, q2⟩]
      have no : Hid ((k + 1 < t + 4 ∨ (nums s).getD t 0 < 50 ∨ 53 < (nums s).getD t 0 ∨ ((nums s).getD (t + 3) 0 ≠ 32 ∧ (nums s).getD (t + 3) 0 ≠ 45)) → linesZ (nums s) = -1) := fun h =>
        lstep_none (by rw [hlen.out]; omega) HR.out (by rw [step.out, if_pos h])
      by_cases q3 : k + 1 < t + 4
      · have HZ : Hid (linesZ (nums s) = -1) := no.out (.inl q3)
        have d3 : decide ((k : Int) + 1 - (t : Int) < 4) = true := by simp; omega
        go_wp2
        go_ret
        exact ⟨by rw [HZ.out] <;> rfl, rfl⟩
      have d3 : decide ((k : Int) + 1 - (t : Int) < 4) = false := by simp; omega
      have hta : t < s.size := by omega
      have htb : t + 3 < s.size := by omega
      have j0 : (0 : Int) ≤ (t : Int) := by omega
      have j1 : (t : Int) < (s.size : Int) := by omega
      have j2 : (t : Int) + 3 < (s.size : Int) := by omega
      have HTA : Hid ((nums s).getD t 0 = ((s[t]'hta).toNat : Int)) := getD_at hta
      have HTB : Hid ((nums s).getD (t + 3) 0 = ((s[t + 3]'htb).toNat : Int)) := getD_at htb
      obtain ⟨x3, hx3⟩ : ∃ c : Int, ((s[t]'hta).toNat : Int) = c := ⟨_, rfl⟩
      obtain ⟨x4, hx4⟩ : ∃ c : Int, ((s[t + 3]'htb).toNat : Int) = c := ⟨_, rfl⟩
      rw [hx3] at HTA
      rw [hx4] at HTB
      by_cases q4 : x3 < 50
      · have HZ : Hid (linesZ (nums s) = -1) := no.out (.inr (.inl (by rw [HTA.out]; exact q4)))
        have d4 : decide (x3 < 50) = true := by simpa using q4
        go_wp2
        go_ret
        exact ⟨by rw [HZ.out] <;> rfl, rfl⟩
      have d4 : decide (x3 < 50) = false := by simpa using q4
      by_cases q5 : 53 < x3
      · have HZ : Hid (linesZ (nums s) = -1) := no.out (.inr (.inr (.inl (by rw [HTA.out]; exact q5))))
        have d5 : decide (x3 > 53) = true := by simpa using q5
        go_wp2
        go_ret
        exact ⟨by rw [HZ.out] <;> rfl, rfl⟩
      have d5 : decide (x3 > 53) = false := by simpa using q5
      by_cases q6 : x4 = 32
      · have d6 : (x4 != 32) = false := by simpa using q6
        have d7 : (x4 == 32) = true := by simpa using q6
        have HN : Hid (lrun (nums s) (k + 1) = some (c + 1, k + 1 + 1)) := by
          show (lrun (nums s) k).bind _ = _
          rw [HR.out]
          show lstep _ _ _ = _
          rw [step.out, if_neg (by rw [HTA.out, HTB.out]; omega), HTB.out, if_pos q6]
        clear no step
        go_wp2
        go_roundw
        case rel => exact ⟨k + 1, c + 1, k + 1 + 1, by go_num, by go_num, by go_num, by omega, .inr (by omega), by omega, by omega, HN, trivial⟩
        case measure => simp [intOf]; omega
      have d6 : (x4 != 32) = true := by simpa using q6
      have d7 : (x4 == 32) = false := by simpa using q6
      by_cases q7 : x4 = 45
      · have d8 : (x4 != 45) = false := by simpa using q7
        have HN : Hid (lrun (nums s) (k + 1) = some (c, k + 1 + 1)) := by
          show (lrun (nums s) k).bind _ = _
          rw [HR.out]
          show lstep _ _ _ = _
          rw [step.out, if_neg (by rw [HTA.out, HTB.out]; omega), HTB.out, if_neg q6]
        clear no step
        go_wp2
        go_roundw
        case rel => exact ⟨k + 1, c, k + 1 + 1, by go_num, by go_num, by go_num, by omega, .inr (by omega), by omega, by omega, HN, trivial⟩
        case measure => simp [intOf]; omega
      have d8 : (x4 != 45) = true := by simpa using q7
      have HZ : Hid (linesZ (nums s) = -1) := no.out (.inr (.inr (.inr (by rw [HTB.out]; exact ⟨q6, q7⟩))))
      go_wp2
      go_ret
      exact ⟨by rw [HZ.out] <;> rfl, rfl⟩
    · have hl1 : ¬ (k : Int) + 1 < (n : Int) := by omega
      have HZ : Hid (linesZ (nums s) = if t = n then (c : Int) else -1) := by
        unfold Hid linesZ
        have : k = (nums s).length - 1 := by rw [hlen.out]; omega
        rw [← this, HR.out, hlen.out]
      by_cases q : t = n
      · have e1 : ((t : Int) != (n : Int)) = false := by simp; omega
        rw [if_pos q] at HZ
        go_wp2
        go_ret
        exact ⟨by rw [HZ.out] <;> rfl, rfl⟩
      · have e1 : ((t : Int) != (n : Int)) = true := by simp; omega
        rw [if_neg q] at HZ
        go_wp2
        go_ret
        exact ⟨by rw [HZ.out] <;> rfl, rfl⟩
end Go.Proofs.YtbckbonffajmeaaGreatDoor
