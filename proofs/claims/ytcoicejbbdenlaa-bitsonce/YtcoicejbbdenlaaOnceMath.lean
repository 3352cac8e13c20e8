/-
  The plain mathematics of writing again what was read.
-/
import Derived.Test.YtcoicejbbdenlaaBare
namespace Go.Proofs.Ytcoicejbbdenlaa
open Go.RowKit
set_option linter.unusedVariables false

theorem encW_ln : ∀ (n : Nat) (a b : Int) (l : List Int), l.length ≤ n → encW 0 a l = encW 0 b l
  | 0, a, b, l, h => by
    have : l = [] := List.eq_nil_of_length_eq_zero (by omega)
    subst this; rfl
  | n + 1, a, b, [], h => rfl
  | n + 1, a, b, [x], h => by simp [encW, brk]
  | n + 1, a, b, [x, y], h => by simp [encW, brk]
  | n + 1, a, b, x :: y :: z :: r, h => by
    simp only [encW, brk, Int.lt_irrefl, false_and, if_false, List.nil_append]
    rw [encW_ln n (nxt 0 a) (nxt 0 b) r (by simp at h; omega)]
theorem encW_join : ∀ (n : Nat) (a : Int) (l m : List Int), l.length = 3 * n → encW 0 a (l ++ m) = encW 0 a l ++ encW 0 a m
  | 0, a, l, m, h => by
    have : l = [] := List.eq_nil_of_length_eq_zero (by omega)
    subst this; simp [encW]
  | n + 1, a, l, m, h => by
    match l, h with
    | x :: y :: z :: r, h =>
      have hr : r.length = 3 * n := by simp at h; omega
      simp only [List.cons_append, encW, List.append_assoc]
      rw [encW_join n (nxt 0 a) r m hr, encW_ln m.length (nxt 0 a) a m (Nat.le_refl _)]
    | [], h => simp at h
    | [x], h => simp at h; omega
    | [x, y], h => simp at h; omega

/-- The signs of the four under way. -/
def pend (s : Rs) : List Int :=
  if s.cnt = 0 then [] else if s.cnt = 1 then [sgn s.dg.toNat] else if s.cnt = 2 then [sgn (s.dg / 64).toNat, sgn (s.dg % 64).toNat]
  else if s.pads = 0 then [sgn (s.dg / 4096).toNat, sgn (s.dg / 64 % 64).toNat, sgn (s.dg % 64).toNat] else [sgn (s.dg / 4096).toNat, sgn (s.dg / 64 % 64).toNat, 61]
def Ok2 (s : Rs) : Prop := Ok s ∧ (s.cl = true ∨ ∃ n, s.out.length = 3 * n) ∧ (s.cl = true → s.cnt = 0) ∧ (s.pads = 1 → s.dg % 64 = 0)
theorem val_sign (c : Int) (h0 : 0 ≤ c) (h1 : c < 256) (hv : 0 ≤ valZ c) : sgn (valZ c).toNat = c := by
  have h := val_all ⟨c.toNat, by omega⟩
  have e : ((c.toNat : Nat) : Int) = c := by omega
  simp only [e] at h
  rcases h with h | h
  · omega
  · exact h.2.2
theorem sg {a b : Int} (h : a = b) : sgn a.toNat = sgn b.toNat := by rw [h]
theorem take_once (s s' : Rs) (c i : Int) (hk : Ok2 s) (h0 : 0 ≤ c) (h1 : c < 256) (h : takeZ s c i = .inr s') : Ok2 s' ∧ encW 0 0 s'.out ++ pend s' = encW 0 0 s.out ++ pend s ++ [c] := by
  have hok := take_ok s s' c i hk.1 h0 h1 h
  have hv := val_bd c h0 h1
  obtain ⟨hk1, hk2, hk3, hk4⟩ := hk
  unfold takeZ at h
  unfold Ok at hk1
  by_cases a1 : valZ c < 0 ∧ c ≠ 61
  · rw [if_pos a1] at h; cases h
  rw [if_neg a1] at h
  by_cases a2 : s.cl = true
  · rw [if_pos a2] at h; cases h
  rw [if_neg a2] at h
  have hn : ∃ n, s.out.length = 3 * n := by rcases hk2 with h | h; · exact absurd h a2
                                            · exact h
  obtain ⟨n, hn⟩ := hn
  by_cases a3 : c = 61
  · rw [if_pos a3] at h
    by_cases a4 : s.cnt < 2
    · rw [if_pos a4] at h; cases h
    rw [if_neg a4] at h
    by_cases a5 : s.cnt = 2
    · rw [if_pos a5] at h; cases h
      refine ⟨⟨hok, .inr ⟨n, hn⟩, by simp, by simp⟩, ?_⟩
      subst a3
      simp only [pend, a5]
      simp
      exact sg (by omega)
    rw [if_neg a5] at h
    have a6 : s.cnt = 3 := by omega
    by_cases a7 : s.pads = 0
    · rw [if_pos a7] at h
      split at h
      · rename_i hz
        cases h
        refine ⟨⟨hok, .inl rfl, fun _ => rfl, by simp [fresh]⟩, ?_⟩
        subst a3
        simp only [fresh, pend, a6, a7]
        rw [encW_join n 0 _ _ hn]
        simp [bytesD, encW, brk, fourL]
        exact ⟨sg (by omega), sg (by omega), sg (by omega)⟩
      · cases h
    · rw [if_neg a7] at h
      split at h
      · rename_i hz
        cases h
        refine ⟨⟨hok, .inl rfl, fun _ => rfl, by simp [fresh]⟩, ?_⟩
        subst a3
        simp only [fresh, pend, a6, a7]
        rw [encW_join n 0 _ _ hn]
        simp [bytesD, encW, brk, fourL]
        exact ⟨sg (by omega), sg (by omega)⟩
      · cases h
  · rw [if_neg a3] at h
    have hvs := val_sign c h0 h1 (by omega)
    by_cases a4 : 0 < s.pads
    · rw [if_pos a4] at h; cases h
    rw [if_neg a4] at h
    by_cases a5 : s.cnt = 0
    · rw [if_pos a5] at h; cases h
      refine ⟨⟨hok, .inr ⟨n, hn⟩, by simp, by simp⟩, ?_⟩
      simp only [pend, a5]
      simp
      rw [← hvs]; exact sg (by rw [hvs]; omega)
    rw [if_neg a5] at h
    by_cases a6 : s.cnt = 1
    · rw [if_pos a6] at h; cases h
      refine ⟨⟨hok, .inr ⟨n, hn⟩, by simp, by simp⟩, ?_⟩
      simp only [pend, a6]
      simp
      exact ⟨sg (by omega), (sg (by omega)).trans hvs⟩
    rw [if_neg a6] at h
    by_cases a7 : s.cnt = 2
    · rw [if_pos a7] at h; cases h
      refine ⟨⟨hok, .inr ⟨n, hn⟩, by simp, by simp⟩, ?_⟩
      simp only [pend, a7]
      simp
      exact ⟨sg (by omega), sg (by omega), (sg (by omega)).trans hvs⟩
    rw [if_neg a7] at h
    have a8 : s.cnt = 3 := by omega
    have a9 : s.pads = 0 := by omega
    cases h
    refine ⟨⟨hok, .inr ⟨n + 1, by simp [fresh, bytesD, hn]; omega⟩, fun _ => rfl, by simp [fresh]⟩, ?_⟩
    simp only [fresh, pend, a8, a9]
    rw [encW_join n 0 _ _ hn]
    simp [bytesD, encW, brk, fourL]
    exact ⟨sg (by omega), sg (by omega), sg (by omega), (sg (by omega)).trans hvs⟩
theorem scan_once : ∀ (n : Nat) (i : Int) (l : List UInt8) (s st : Rs), l.length ≤ n → Ok2 s → scanU i l s = .inr st → Ok2 st ∧ encW 0 0 st.out ++ pend st = encW 0 0 s.out ++ pend s ++ bareU l
  | n, i, [], s, st, _, hk, h => by
    have : s = st := by rw [scanU.eq_def] at h; simpa using h
    subst this; exact ⟨hk, by simp [bareU]⟩
  | 0, i, c :: r, s, st, h, _, _ => by simp at h
  | n + 1, i, c :: r, s, st, hl, hk, h => by
    cases hc : crlf (c :: r) with
    | true =>
      obtain ⟨r', hr⟩ := crlf_two hc
      have hr2 : r = 10 :: r' := by simp at hr; exact hr.2
      rw [hr, scan_yes] at h
      rw [hr, bare_yes]
      exact scan_once n (i + 2) r' s st (by rw [hr2] at hl; simp at hl; omega) hk h
    | false =>
      rw [scan_no hc] at h
      rw [bare_no hc]
      cases ht : takeZ s (c.toNat : Int) i with
      | inl f => rw [ht] at h; cases h
      | inr s' =>
        rw [ht] at h
        have h1 := take_once s s' _ i hk (by omega) (by have := c.toNat_lt; omega) ht
        have h2 := scan_once n (i + 1) r s' st (by simp at hl; omega) h1.1 h
        exact ⟨h2.1, by rw [h2.2, h1.2]; simp⟩
end Go.Proofs.Ytcoicejbbdenlaa
