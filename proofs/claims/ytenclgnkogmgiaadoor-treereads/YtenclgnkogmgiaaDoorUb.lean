/-
  Lines that are folded are unfolded as they were.
-/
import Derived.Test.YtenclgnkogmgiaaDoorOb
namespace Go.Proofs.YtenclgnkogmgiaaDoor
open Go.RowKit
set_option linter.unusedVariables false

/-- Nothing blank at the front. -/
def NoB (l : List Int) : Prop := ∀ c, l.head? = some c → c ≠ 32 ∧ c ≠ 9
theorem unf_run : ∀ (t x : List Int), (∀ c ∈ t, c ≠ 13) → unfoldZ (t ++ x) = t ++ unfoldZ x
  | [], x, _ => rfl
  | c :: t, x, h => by
    have hc := h c (by simp)
    rw [List.cons_append, unf_plain (by unfold foldsZ; simp [hc]), unf_run t x (fun d hd => h d (by simp [hd]))]
    rfl
theorem unf_cut (x : List Int) : unfoldZ (13 :: 10 :: 32 :: x) = unfoldZ x := by
  rw [unf_fold (by simp [foldsZ])]; rfl
theorem unf_pair (x : List Int) (h : NoB x) : unfoldZ (13 :: 10 :: x) = 13 :: 10 :: unfoldZ x := by
  have h1 : foldsZ (13 :: 10 :: x) = false := by
    cases x with
    | nil => simp [foldsZ]
    | cons c x =>
      have := h c rfl
      simp [foldsZ, this.1, this.2]
  rw [unf_plain h1, unf_plain (by unfold foldsZ; simp)]
theorem fold_back : ∀ (n : Nat) (f l rest : List Int), (∀ c ∈ l, c ≠ 13) → NoB rest → ∃ g, endW (foldZ n f l) = f ++ g ∧ unfoldZ (g ++ rest) = l ++ 13 :: 10 :: unfoldZ rest ∧ ∀ c, g.head? = some c → c = 13 ∨ l.head? = some c
  | 0, f, l, rest, hl, hr => by
    refine ⟨l ++ [13, 10], by simp [foldZ, endW], ?_, ?_⟩
    · rw [List.append_assoc, unf_run l _ hl]
      exact congrArg (l ++ ·) (unf_pair rest hr)
    · intro c hc
      cases l with
      | nil => simp at hc; exact .inl hc.symm
      | cons d l => right; simpa using hc
  | n + 1, f, l, rest, hl, hr => by
    rw [foldZ]
    split
    · obtain ⟨d, hd⟩ : ∃ d, Ut.cutZ l (75 - f.length) = d := ⟨_, rfl⟩
      rw [hd]
      obtain ⟨g, h1, h2, _⟩ := fold_back n [32] (l.drop d) rest (fun c hc => hl c (List.mem_of_mem_drop hc)) hr
      refine ⟨l.take d ++ (13 :: 10 :: 32 :: g), ?_, ?_, ?_⟩
      · have : endW ((f ++ l.take d) :: foldZ n [32] (l.drop d)) = (f ++ l.take d) ++ [13, 10] ++ endW (foldZ n [32] (l.drop d)) := by simp [endW]
        rw [this, h1]; simp
      · rw [List.append_assoc, unf_run _ _ (fun c hc => hl c (List.mem_of_mem_take hc))]
        show l.take d ++ unfoldZ (13 :: 10 :: 32 :: (g ++ rest)) = _
        rw [unf_cut, h2, ← List.append_assoc, List.take_append_drop]
      · intro c hc
        cases d with
        | zero => simp at hc; exact .inl hc.symm
        | succ d =>
          cases l with
          | nil => simp at hc; exact .inl hc.symm
          | cons e l => right; simpa using hc
    · refine ⟨l ++ [13, 10], by simp [endW], ?_, ?_⟩
      · rw [List.append_assoc, unf_run l _ hl]
        exact congrArg (l ++ ·) (unf_pair rest hr)
      · intro c hc
        cases l with
        | nil => simp at hc; exact .inl hc.symm
        | cons d l => right; simpa using hc
theorem written_head (ln : Ln) (h : rightZ ln = true) : ∀ c, (writtenZ ln).head? = some c → c ≠ 32 ∧ c ≠ 9 := by
  intro c hc
  unfold rightZ nameZ at h
  simp only [Bool.and_eq_true, decide_eq_true_eq] at h
  obtain ⟨⟨⟨⟨⟨h1, _⟩, hn⟩, _⟩, _⟩, _⟩ := h
  unfold writtenZ at hc
  cases hnm : ln.name with
  | nil => rw [hnm] at h1; simp at h1
  | cons d r =>
    rw [hnm] at hc hn
    simp only [List.cons_append, List.head?_cons, Option.some.injEq] at hc
    subst hc
    simp only [List.all_cons, Bool.and_eq_true] at hn
    have := hn.1
    unfold upC at this
    simp only [Bool.or_eq_true, decide_eq_true_eq] at this
    omega
end Go.Proofs.YtenclgnkogmgiaaDoor
