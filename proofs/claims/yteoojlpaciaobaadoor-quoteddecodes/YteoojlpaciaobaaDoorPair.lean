/-
  The contract of the reference's Pair.
-/
import Derived.Test.YteoojlpaciaobaaDoorAlive
namespace Go.Proofs.YteoojlpaciaobaaDoor
open Go.RowKit
set_option linter.unusedVariables false

/-- The cell at a place of a row. -/
theorem row_at {w : World} {a : Option Addr} {l : List Int} {k : Nat} {c : Int} {r : List Int} (h : Row w a l) (hd : l.drop k = c :: r) : ∃ b off, a = some ⟨b, off, none⟩ ∧ w.cell? ⟨b, off + k, none⟩ = some (.int .u8 c) ∧ ∀ d t, r = d :: t → w.cell? ⟨b, off + (k + 1), none⟩ = some (.int .u8 d) := by
  have hk : k < l.length := by
    rcases Nat.lt_or_ge k l.length with h | h
    · exact h
    · rw [List.drop_of_length_le h] at hd; cases hd
  rcases h with rfl | ⟨b, off, rfl, hc⟩
  · simp at hk
  · refine ⟨b, off, rfl, ?_, ?_⟩
    · rw [hc k hk]
      have : l.getD k 0 = c := by
        rw [List.getD_eq_getElem?_getD, show l[k]? = (l.drop k)[0]? from by simp, hd]; rfl
      rw [this]
    · intro d t hr
      subst hr
      have hk1 : k + 1 < l.length := by
        have := congrArg List.length hd
        rw [List.length_drop] at this
        simp at this; omega
      rw [hc (k + 1) hk1]
      have : l.getD (k + 1) 0 = d := by
        rw [List.getD_eq_getElem?_getD, show l[k + 1]? = (l.drop k)[1]? from by simp, hd]; rfl
      rw [this]
set_option maxHeartbeats 1000000 in
theorem pair_any (a : Option Addr) (len cap k : Nat) (l : List Int) (w : World) (hl : l.length = len) (hcap : len ≤ cap) (hm : cap ≤ 9223372036854775807) (hk : k ≤ len) (hs : len ≤ 100000000) (hrow : Row w a l) :
    Calls Tryd.prog 16 #[.slice a len cap, .int .i64 k] w fun e w' => e = .returned (.bool (pairQ (l.drop k))) ∧ w = w' := by
  by_cases h1 : k + 1 < len
  · obtain ⟨c, d, t, hd⟩ : ∃ c d t, l.drop k = c :: d :: t := by
      match hx : l.drop k with
      | [] => have := congrArg List.length hx; rw [List.length_drop] at this; simp at this; omega
      | [c] => have := congrArg List.length hx; rw [List.length_drop] at this; simp at this; omega
      | c :: d :: t => exact ⟨c, d, t, rfl⟩
    obtain ⟨b, off, rfl, h0, h0'⟩ := row_at hrow hd
    have h1' := h0' d t rfl
    have HD : Hid (l.drop k = c :: d :: t) := hd
    clear hd h0' hrow hl
    by_cases hc : c = 13
    · subst hc
      go_enter Tryd.func16, Tryd.ntmps16
      go_wp2
      all_goals go_ret
      all_goals refine ⟨ret_bool ?_, rfl⟩
      all_goals rw [HD.out]
      all_goals (rw [Bool.eq_iff_iff]; simp [pairQ])
    · have hcb : (c == 13) = false := by rw [beq_eq_false_iff_ne]; exact hc
      have HC : Hid (c ≠ 13) := hc
      clear hc
      go_enter Tryd.func16, Tryd.ntmps16
      go_wp2
      all_goals go_ret
      all_goals refine ⟨ret_bool ?_, rfl⟩
      all_goals rw [HD.out]
      all_goals (simp [pairQ, HC.out])
  · have HP : Hid (pairQ (l.drop k) = false) := by
      unfold Hid
      match hx : l.drop k with
      | [] => rfl
      | [c] => rfl
      | c :: d :: t => have := congrArg List.length hx; rw [List.length_drop] at this; simp at this; omega
    clear hrow hl
    go_enter Tryd.func16, Tryd.ntmps16
    go_wp2
    go_ret
    exact ⟨by rw [HP.out]; rfl, rfl⟩
theorem pair_next (a : Option Addr) (len cap k : Nat) (l : List Int) (w : World) (hl : l.length = len) (hcap : len ≤ cap) (hm : cap ≤ 9223372036854775807) (hk : k < len) (hs : len ≤ 100000000) (hrow : Row w a l) :
    Calls Tryd.prog 16 #[.slice a len cap, .int .i64 ((k : Int) + 1)] w fun e w' => e = .returned (.bool (pairQ (l.drop (k + 1)))) ∧ w = w' := pair_any a len cap (k + 1) l w hl hcap hm hk hs hrow
/-- '[]byte(s)': a new row. -/
theorem conv_bytes (s : ByteArray) (w : World) (hs : s.size ≤ maxLen) :
    ∃ cap w', (convert 9 22 (.string s)).run Tryd.prog w = .ok (.slice (some ⟨w.heap.size, 0, none⟩) s.size cap) w' ∧ s.size ≤ cap ∧ cap ≤ 9223372036854775807 ∧ Row w' (some ⟨w.heap.size, 0, none⟩) (nums s) ∧ Below w.heap.size w w' := by
  refine ⟨_, _, Lib.run_convert_string_bytes (P := Tryd.prog) w 9 22 5 s Tryd.underlying9 Tryd.underlying22 Tryd.underlying5, grownCap_ge _ _ _ _, ?_, .inr ⟨w.heap.size, 0, rfl, fun i hi => ?_⟩, ⟨rfl, rfl, rfl, by rw [Lib.bytesWorld_size]; omega, fun k hk => Lib.bytesWorld_at_old w 5 s k hk⟩⟩
  · have := grownCap_le_maxLen w s.size 0 5 hs
    unfold maxLen at this
    exact this
  · rw [nums_len] at hi
    rw [Nat.zero_add, Lib.bytesWorld_cell w 5 s i hi]
    congr 2
    have h1 : i < s.data.toList.length := by rw [Array.length_toList]; exact hi
    rw [nums, List.getD_eq_getElem?_getD, List.getD_eq_getElem?_getD, List.getElem?_map, List.getElem?_eq_getElem h1]
    rfl
end Go.Proofs.YteoojlpaciaobaaDoor
