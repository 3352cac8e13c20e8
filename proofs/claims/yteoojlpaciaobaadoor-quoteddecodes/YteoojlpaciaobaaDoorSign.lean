/-
  The contracts of Digits and sign.
-/
import Derived.Test.YteoojlpaciaobaaDoorStr
namespace Go.Proofs.YteoojlpaciaobaaDoor
open Go.RowKit
set_option linter.unusedVariables false

theorem str_append (l m : List Int) : strOfNums l ++ strOfNums m = strOfNums (l ++ m) := by
  have e : (strOfNums l ++ strOfNums m).toList = (strOfNums (l ++ m)).toList := by
    rw [toList_str, ByteArray.toList_eq, ByteArray.data_append, Array.toList_append, ← ByteArray.toList_eq, ← ByteArray.toList_eq, toList_str, toList_str, List.map_append]
  rw [ByteArray.toList_eq, ByteArray.toList_eq] at e
  exact ByteArray.ext (Array.toList_inj.1 e)
theorem conv_two (W : World) (x y : Int) : (convert 22 9 (.slice (some ⟨W.heap.size, 0, none⟩) 2 2)).run Tryd.prog (W.alloc (.cells #[.int .u8 x, .int .u8 y] 5)) = .ok (.string (strOfNums [x, y])) (W.alloc (.cells #[.int .u8 x, .int .u8 y] 5)) := conv_row 2 2 rfl (row_new W [x, y])
theorem conv_one (W : World) (x : Int) : (convert 22 9 (.slice (some ⟨W.heap.size, 0, none⟩) 1 1)).run Tryd.prog (W.alloc (.cells #[.int .u8 x] 5)) = .ok (.string (strOfNums [x])) (W.alloc (.cells #[.int .u8 x] 5)) := conv_row 1 1 rfl (row_new W [x])
theorem hex_at : ∀ (m : Nat) (h : m < 16), (((⟨#[48, 49, 50, 51, 52, 53, 54, 55, 56, 57, 65, 66, 67, 68, 69, 70]⟩ : ByteArray)[m]'h).toNat : Int) = hexQ m := by decide
set_option maxHeartbeats 1000000 in
theorem digits_any (c : Int) (w : World) (h0 : 0 ≤ c) (h1 : c < 256) : Calls Tryd.prog 12 #[.int .u8 c] w fun e w' => e = .returned (.string (strOfNums (digQ c))) ∧ Below w.heap.size w w' := by
  obtain ⟨m, hm⟩ : ∃ m : Nat, c / 16 = m := ⟨(c / 16).toNat, by omega⟩
  obtain ⟨n, hn⟩ : ∃ n : Nat, c % 16 = n := ⟨(c % 16).toNat, by omega⟩
  have hm1 : m < 16 := by omega
  have hn1 : n < 16 := by omega
  have em := hex_at m hm1
  have en := hex_at n hn1
  have kc : ∀ (W : World) (x y : Int), (convert 22 9 (.slice (some ⟨W.heap.size, 0, none⟩) 2 2)).run Tryd.prog (W.alloc (.cells #[.int .u8 x, .int .u8 y] 5)).drew = .ok (.string (strOfNums [x, y])) (W.alloc (.cells #[.int .u8 x, .int .u8 y] 5)).drew := fun W x y => conv_row (w := (W.alloc (.cells #[.int .u8 x, .int .u8 y] 5)).drew) 2 2 rfl (row_new W [x, y])
  have HD : Hid (digQ c = [hexQ m, hexQ n]) := by unfold Hid digQ; rw [hm, hn]
  go_enter Tryd.func12, Tryd.ntmps12
  go_wp2
  go_region
  all_goals (try go_wp2)
  all_goals go_ret
  all_goals exact ⟨by rw [HD.out]; rfl, (keep w _).drew⟩
/-- sign: a byte's sign. -/
theorem sign_any (c : Int) (b : Bool) (w : World) (h0 : 0 ≤ c) (h1 : c < 256) : Calls Tryd.prog 19 #[.int .u8 c, .bool b] w fun e w' => e = .returned (.string (strOfNums (signQ c b))) ∧ Below w.heap.size w w' := by
  have kc := conv_one
  have kd := isBlank_any c
  cases hs : selfQ c b with
  | true =>
    have HS : Hid (signQ c b = [c]) := by unfold Hid signQ; rw [if_pos hs]
    simp only [selfQ, Bool.or_eq_true, Bool.and_eq_true, Bool.not_eq_true', decide_eq_true_eq, decide_eq_false_iff_not] at hs
    rcases hs with hs | ⟨hs, rfl⟩
    · have hb : (c == 61) = false := by rw [beq_eq_false_iff_ne]; exact hs.2
      obtain ⟨⟨ha1, ha2⟩, _⟩ := hs
      go_enter Tryd.func19, Tryd.ntmps19
      go_wp2
      go_ret
      exact ⟨by rw [HS.out]; rfl, keep w _⟩
    · have hd : decide (c = 32 ∨ c = 9) = true := by simpa using hs
      have hh : ¬ (32 < c) := by omega
      clear hs
      go_enter Tryd.func19, Tryd.ntmps19
      go_wp2_with (go_at_call 23; refine (isBlank_any _ _).mono ?_; rintro e w' ⟨rfl, rfl⟩; rw [hd])
      go_ret
      exact ⟨by rw [HS.out]; rfl, keep w _⟩
  | false =>
    have HS : Hid (signQ c b = 61 :: digQ c) := by unfold Hid signQ; rw [if_neg (by rw [hs]; simp)]
    have hcase : (c = 61) ∨ (c ≠ 61 ∧ (c ≤ 31 ∨ 127 ≤ c) ∧ decide (c = 32 ∨ c = 9) = false) ∨ (c < 33 ∧ decide (c = 32 ∨ c = 9) = true ∧ b = true) := by
      simp only [selfQ, Bool.or_eq_false_iff, Bool.and_eq_false_iff, Bool.not_eq_false', decide_eq_true_eq, decide_eq_false_iff_not] at hs
      by_cases h61 : c = 61
      · exact .inl h61
      · by_cases hbl : c = 32 ∨ c = 9
        · refine .inr (.inr ⟨by omega, by simpa using hbl, ?_⟩)
          rcases hs.2 with h | h
          · omega
          · exact h
        · refine .inr (.inl ⟨h61, by omega, by simpa using hbl⟩)
    have HC : Hid ((⟨#[61]⟩ : ByteArray) ++ strOfNums (digQ c) = strOfNums (61 :: digQ c)) := str_append [61] (digQ c)
    have hsz : (strOfNums (digQ c)).size = 2 := rfl
    clear hs
    rcases hcase with rfl | ⟨h61, hr, hd⟩ | ⟨hr, hd, rfl⟩
    · go_enter Tryd.func19, Tryd.ntmps19
      go_wp2_with (first
        | (go_at_call 23; refine (isBlank_any _ _).mono ?_; rintro e w' ⟨rfl, rfl⟩)
        | (go_at_call 12; refine (digits_any _ _ h0 h1).mono ?_; rintro e w' ⟨rfl, hb⟩))
      all_goals go_ret
      all_goals exact ⟨by rw [HS.out, ← HC.out]; rfl, by assumption⟩
    · have hb : (c == 61) = false := by rw [beq_eq_false_iff_ne]; exact h61
      clear h61
      go_enter Tryd.func19, Tryd.ntmps19
      go_wp2_with (first
        | (go_at_call 23; refine (isBlank_any _ _).mono ?_; rintro e w' ⟨rfl, rfl⟩; rw [hd])
        | (go_at_call 12; refine (digits_any _ _ h0 h1).mono ?_; rintro e w' ⟨rfl, hb⟩))
      all_goals go_ret
      all_goals exact ⟨by rw [HS.out, ← HC.out]; rfl, by assumption⟩
    · go_enter Tryd.func19, Tryd.ntmps19
      go_wp2_with (first
        | (go_at_call 23; refine (isBlank_any _ _).mono ?_; rintro e w' ⟨rfl, rfl⟩; rw [hd])
        | (go_at_call 12; refine (digits_any _ _ h0 h1).mono ?_; rintro e w' ⟨rfl, hb⟩))
      all_goals go_ret
      all_goals exact ⟨by rw [HS.out, ← HC.out]; rfl, by assumption⟩
/-- lineEnds: the closure, over a new variable that holds the text. -/
theorem lineEnds_any (s : ByteArray) (w : World) : Calls Tryd.prog 17 #[.string s] w fun e w' => e = .returned (.func (.func 26) #[] #[.pointer (some ⟨w.heap.size, 0, none⟩)]) ∧ w' = w.alloc (.cells #[.string s] 9) := by
  have hmf : ∀ (fn : Fn) (first cap : Array Value) (w : World), (Instr.makeFunc fn first cap).run Tryd.prog w = .ok (.func fn first cap) w := fun _ _ _ _ => rfl
  go_enter Tryd.func17, Tryd.ntmps17
  go_wp2
  go_ret
  exact ⟨rfl, rfl⟩
end Go.Proofs.YteoojlpaciaobaaDoor
