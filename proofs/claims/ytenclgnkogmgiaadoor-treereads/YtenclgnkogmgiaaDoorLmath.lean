/-
  Lines: where a pair stands, and what the lines of bytes are.
-/
import Derived.Test.YtenclgnkogmgiaaDoorBase
import Derived.Lib.Index
import Derived.Lib.Bytes
namespace Go.Proofs.YtenclgnkogmgiaaDoor
open Go.RowKit
set_option linter.unusedVariables false

/-- The place of the first pair, or -1. -/
def pairI : List Int → Int
  | [] => -1
  | c :: l => if c = 13 ∧ l.head? = some 10 then 0 else if pairI l = -1 then -1 else pairI l + 1

theorem pairI_ge : ∀ l : List Int, -1 ≤ pairI l
  | [] => by simp [pairI]
  | c :: l => by
    have := pairI_ge l
    unfold pairI
    split
    · omega
    · split <;> omega
theorem pairI_room : ∀ l : List Int, 0 ≤ pairI l → pairI l + 2 ≤ l.length
  | [], h => by simp [pairI] at h
  | c :: l, h => by
    have ih := pairI_room l
    have hg := pairI_ge l
    unfold pairI at h ⊢
    by_cases h1 : c = 13 ∧ l.head? = some 10
    · rw [if_pos h1]
      cases l with
      | nil => simp at h1
      | cons d l => simp; omega
    · rw [if_neg h1] at h ⊢
      by_cases h2 : pairI l = -1
      · rw [if_pos h2] at h; omega
      · rw [if_neg h2] at h ⊢
        have := ih (by omega)
        simp only [List.length_cons]
        omega
theorem index_pair : ∀ l : List Int, Byt l → Lib.index (Lib.bytesOf l) (Lib.bytesOf [13, 10]) = pairI l
  | [], _ => rfl
  | c :: l, h => by
    have ih := index_pair l h.tail
    have hc := h.head
    have e1 : ((13 : UInt8) == UInt8.ofNat c.toNat) = decide (c = 13) := by
      have := eq_byte (a := 13) (b := c) (by decide) (by decide) hc.1 hc.2
      rw [show UInt8.ofNat (13 : Int).toNat = 13 from rfl] at this
      rw [this]; exact decide_eq_decide.2 ⟨fun h => h.symm, fun h => h.symm⟩
    have e2 : List.isPrefixOf [10] (Lib.bytesOf l) = decide (l.head? = some 10) := by
      cases l with
      | nil => rfl
      | cons d m =>
        have hd := h.tail.head
        have := eq_byte (a := 10) (b := d) (by decide) (by decide) hd.1 hd.2
        rw [show UInt8.ofNat (10 : Int).toNat = 10 from rfl] at this
        simp only [Lib.bytesOf, List.map_cons, List.isPrefixOf, Bool.and_true, List.head?_cons, Option.some.injEq]
        rw [this]; exact decide_eq_decide.2 ⟨fun h => h.symm, fun h => h.symm⟩
    rw [show Lib.bytesOf (c :: l) = UInt8.ofNat c.toNat :: Lib.bytesOf l from rfl]
    unfold Lib.index pairI
    rw [ih]
    rw [show Lib.bytesOf [13, 10] = [13, 10] from rfl]
    have e3 : List.isPrefixOf [13, 10] (UInt8.ofNat c.toNat :: Lib.bytesOf l) = decide (c = 13 ∧ l.head? = some 10) := by
      simp only [List.isPrefixOf]
      rw [e1]
      have : List.isPrefixOf [(10 : UInt8)] (Lib.bytesOf l) = decide (l.head? = some 10) := e2
      rw [this, Bool.decide_and]
    rw [e3]
    by_cases q : c = 13 ∧ l.head? = some 10
    · simp [q]
    · rw [if_neg (by simpa using q), if_neg q]
      by_cases q2 : pairI l = -1
      · rw [if_pos q2, if_pos (by simpa using q2)]
      · rw [if_neg q2, if_neg (by simpa using q2)]

/-- The lines: where each begins, how many bytes it has, and whether it is ended. -/
def linesN : Nat → Nat → List Int → List (Nat × Nat × Bool)
  | 0, _, _ => []
  | n + 1, p, l => if l = [] then [] else
    if 0 ≤ pairI l then (p, (pairI l).toNat, true) :: linesN n (p + (pairI l).toNat + 2) (l.drop ((pairI l).toNat + 2)) else [(p, l.length, false)]
def linesZ (p : Nat) (l : List Int) : List (Nat × Nat × Bool) := linesN l.length p l
theorem linesN_enough : ∀ (n m p : Nat) (l : List Int), l.length ≤ n → l.length ≤ m → linesN n p l = linesN m p l
  | 0, m, p, l, h, _ => by
    obtain rfl : l = [] := List.eq_nil_of_length_eq_zero (by omega)
    cases m with
    | zero => rfl
    | succ m => rw [linesN, linesN, if_pos rfl]
  | n + 1, 0, p, l, _, h => by
    obtain rfl : l = [] := List.eq_nil_of_length_eq_zero (by omega)
    rw [linesN, linesN, if_pos rfl]
  | n + 1, m + 1, p, l, h1, h2 => by
    rw [linesN, linesN]
    by_cases hne : l = []
    · rw [if_pos hne, if_pos hne]
    · rw [if_neg hne, if_neg hne]
      by_cases hp : 0 ≤ pairI l
      · have : 0 < l.length := List.length_pos_iff.2 hne
        rw [if_pos hp, if_pos hp, linesN_enough n m _ _ (by simp only [List.length_drop]; omega) (by simp only [List.length_drop]; omega)]
      · rw [if_neg hp, if_neg hp]

theorem linesZ_nil (p : Nat) : linesZ p [] = [] := rfl
theorem linesZ_pair (p : Nat) (l : List Int) (h : 0 ≤ pairI l) : linesZ p l = (p, (pairI l).toNat, true) :: linesZ (p + (pairI l).toNat + 2) (l.drop ((pairI l).toNat + 2)) := by
  have hne : l ≠ [] := by rintro rfl; simp [pairI] at h
  have hl : 0 < l.length := List.length_pos_iff.2 hne
  obtain ⟨n, hn⟩ : ∃ n, l.length = n + 1 := ⟨l.length - 1, by omega⟩
  unfold linesZ
  rw [hn, linesN, if_neg hne, if_pos h, linesN_enough n _ _ _ (by simp only [List.length_drop]; omega) (Nat.le_refl _)]
theorem linesZ_last (p : Nat) (l : List Int) (hne : l ≠ []) (h : ¬ 0 ≤ pairI l) : linesZ p l = [(p, l.length, false)] := by
  have hl : 0 < l.length := List.length_pos_iff.2 hne
  obtain ⟨n, hn⟩ : ∃ n, l.length = n + 1 := ⟨l.length - 1, by omega⟩
  unfold linesZ
  rw [hn, linesN, if_neg hne, if_neg h, hn]
end Go.Proofs.YtenclgnkogmgiaaDoor
