/-
  The plain mathematics of what is written: its bytes, its length, its words.
-/
import Derived.Test.YtnhbmekhmkkccaaDoorArgs
namespace Go.Proofs.YtnhbmekhmkkccaaDoor
open Go.RowKit
set_option linter.unusedVariables false

/-- A printable byte. -/
def Prt (l : List Int) : Prop := ∀ x ∈ l, 32 ≤ x ∧ x ≤ 126
theorem prt_word (b : List Int) : Prt (wordL setU [66] b) := by
  obtain ⟨h1, _⟩ := enc0_sgb _ 0 b (Nat.le_refl _)
  intro x hx
  by_cases hm : x ∈ Bt.encW 0 0 b
  · have := h1 x hm
    unfold SgB at this
    omega
  · simp only [wordL, setU, List.mem_append, List.mem_cons, List.not_mem_nil, or_false, hm] at hx
    omega
theorem prt_join : ∀ ps : List (List Int), (∀ p ∈ ps, Prt p) → Prt (joinS ps)
  | [], _ => by intro x hx; cases hx
  | [p], h => h p (by simp)
  | p :: q :: r, h => by
    have ih := prt_join (q :: r) (fun x hx => h x (List.mem_cons_of_mem _ hx))
    intro x hx
    rw [joinS, List.mem_append, List.mem_cons] at hx
    rcases hx with hx | rfl | hx
    · exact h p (by simp) x hx
    · omega
    · exact ih x hx
theorem prt_plain {l : List Int} (h : plainZ l = true) : Prt l := by
  unfold plainZ at h
  simp only [Bool.and_eq_true] at h
  intro x hx
  have := List.all_eq_true.1 h.1.1.1 x hx
  simpa [valC] using this
theorem prt_enc (l : List Int) : Prt (encL l) := by
  unfold encL
  split
  · rename_i h
    rcases h with rfl | h
    · intro x hx; cases hx
    · exact prt_plain h
  · refine prt_join _ ?_
    intro p hp
    obtain ⟨b, _, rfl⟩ := List.mem_map.1 hp
    exact prt_word b
theorem enc_byt {l : List Int} (hv : validZ l = true) : Byt (encL l) := fun x hx => by have := prt_enc l x hx; omega
theorem words_good {l : List Int} (hb : Byt l) (hv : validZ l = true) : ∀ p ∈ wordsL l, p.length ≤ 75 ∧ (oneR p).isSome = true ∧ (32 : Int) ∉ p := by
  intro p hp
  obtain ⟨b, hm, rfl⟩ := List.mem_map.1 hp
  have ho := words_one hb hv b hm
  obtain ⟨ps, hps, hl⟩ := valid_split hb hv
  unfold chunks at hm
  rw [hl] at hm
  obtain ⟨_, h2, _⟩ := (chunk_good _ ps (Nat.le_refl _) hps).2 b hm
  exact ⟨word_len h2, by rw [ho]; rfl, word_blank (by decide) (by decide)⟩
theorem enc_len {l : List Int} (hb : Byt l) (hv : validZ l = true) {n : Nat} (h : l.length ≤ n) : (encL l).length ≤ 76 * (n + 1) := by
  unfold encL
  split
  · omega
  · have h1 := joinS_len (wordsL l) 75 (fun p hp => (words_good hb hv p hp).1)
    have h2 : (wordsL l).length ≤ n := by
      have := chunk_count l.length l
      simp only [wordsL, List.length_map]
      unfold chunks; omega
    have h3 : (wordsL l).length * 76 ≤ n * 76 := Nat.mul_le_mul_right _ h2
    omega
/-- The words that stand in what is written. -/
theorem enc_pieces {l : List Int} (hb : Byt l) (hv : validZ l = true) (hne : encL l ≠ l) : ∀ p ∈ pieces 32 (encL l), p.length ≤ 75 ∧ (oneR p).isSome = true := by
  unfold encL at hne ⊢
  split
  · rename_i h; rw [if_pos h] at hne; exact absurd rfl hne
  · rename_i h
    have h0 : l ≠ [] := fun e => h (.inl e)
    rw [pieces_join _ (by simp only [wordsL, ne_eq, List.map_eq_nil_iff]; exact chunk_ne h0) (fun p hp => (words_good hb hv p hp).2.2)]
    intro p hp
    exact ⟨(words_good hb hv p hp).1, (words_good hb hv p hp).2.1⟩
end Go.Proofs.YtnhbmekhmkkccaaDoor
