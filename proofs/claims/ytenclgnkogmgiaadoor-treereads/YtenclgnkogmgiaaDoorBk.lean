/-
  What is written, unfolded and split into lines, says the lines as they were.
-/
import Derived.Test.YtenclgnkogmgiaaDoorUb
namespace Go.Proofs.YtenclgnkogmgiaaDoor
open Go.RowKit
set_option linter.unusedVariables false

theorem up13 {l : List Int} (h : l.all upC = true) : ∀ c ∈ l, c ≠ 13 := by
  intro c hc e
  subst e
  have := List.all_eq_true.1 h 13 hc
  revert this; decide
theorem tx13 {l : List Int} (h : textZ l = true) : ∀ c ∈ l, c ≠ 13 := by
  intro c hc e
  subst e
  unfold textZ at h
  rw [Bool.and_eq_true] at h
  have := List.all_eq_true.1 h.1 13 hc
  revert this; decide
theorem par13 {p : List Int × List Int} (h : parZ p = true) : ∀ c ∈ parW p, c ≠ 13 := by
  unfold parZ nameZ at h
  simp only [Bool.and_eq_true] at h
  obtain ⟨⟨⟨_, hn⟩, _, ht⟩, _⟩ := h
  have h1 := up13 hn
  have h2 := tx13 ht
  intro c hc
  unfold parW at hc
  simp only [List.mem_cons, List.mem_append] at hc
  rcases hc with rfl | hc | rfl | hc
  · decide
  · exact h1 c hc
  · decide
  · split at hc
    · simp only [List.mem_cons, List.mem_append, List.not_mem_nil, or_false] at hc
      rcases hc with rfl | hc | rfl
      · decide
      · exact h2 c hc
      · decide
    · exact h2 c hc
theorem written13 (ln : Ln) (h : rightZ ln = true) : ∀ c ∈ writtenZ ln, c ≠ 13 := by
  unfold rightZ nameZ at h
  simp only [Bool.and_eq_true, decide_eq_true_eq] at h
  obtain ⟨⟨⟨⟨_, hn⟩, _, ht⟩, _⟩, hr⟩ := h
  have hp := right_pars [] ln.pars hr
  intro c hc
  unfold writtenZ at hc
  simp only [List.mem_append, List.mem_cons, List.mem_flatMap] at hc
  rcases hc with hc | ⟨p, hp1, hc⟩ | rfl | hc
  · exact up13 hn c hc
  · exact par13 (hp p hp1) c hc
  · decide
  · exact tx13 ht c hc
/-- The lines as they are written, with their pairs. -/
def flatW (ls : List Lm) : List Int := ls.flatMap fun m => writtenZ m.ln ++ [13, 10]
theorem out_back : ∀ ls : List Lm, ls.all okM = true → unfoldZ (outM ls) = flatW ls ∧ NoB (outM ls)
  | [], _ => ⟨rfl, fun c hc => by simp [outM, endW] at hc⟩
  | m :: ls, h => by
    simp only [List.all_cons, Bool.and_eq_true] at h
    obtain ⟨h1, h2⟩ := out_back ls h.2
    have hok : rightZ m.ln = true := h.1
    have e : outM (m :: ls) = endW (linesM m) ++ outM ls := by simp [outM, endW]
    obtain ⟨g, g1, g2, g3⟩ := fold_back (writtenZ m.ln).length [] (writtenZ m.ln) (outM ls) (written13 m.ln h.1) h2
    have e2 : endW (linesM m) = g := by unfold linesM foldL; rw [g1]; rfl
    rw [e, e2]
    refine ⟨by rw [g2, h1]; simp [flatW], fun c hc => ?_⟩
    cases g with
    | nil =>
      exfalso
      have := congrArg List.length g1
      rw [List.append_nil] at this
      rw [List.nil_append] at g2
      have := congrArg List.length g2
      rw [h1] at this
      have hh := h2
      cases ho : outM ls with
      | nil => rw [ho] at g2; have := congrArg List.length g2; simp [unfoldZ, unfK] at this
      | cons d r => rw [h1] at g2; have := congrArg List.length g2; simp at this; omega
    | cons d g =>
      simp only [List.cons_append, List.head?_cons, Option.some.injEq] at hc
      subst hc
      rcases g3 d rfl with rfl | h
      · decide
      · exact written_head m.ln hok d h
theorem pairI_run : ∀ (t x : List Int), (∀ c ∈ t, c ≠ 13) → pairI (t ++ 13 :: 10 :: x) = t.length
  | [], x, _ => by simp [pairI]
  | c :: t, x, h => by
    have ih := pairI_run t x (fun d hd => h d (by simp [hd]))
    have hc := h c (by simp)
    rw [List.cons_append, pairI, if_neg (fun q => hc q.1), ih, if_neg (by omega)]
    simp
theorem split_back : ∀ (ts : List (List Int)) (n : Nat), (∀ t ∈ ts, ∀ c ∈ t, c ≠ 13) → (ts.flatMap (· ++ [13, 10])).length ≤ n → splitP n (ts.flatMap (· ++ [13, 10])) = ts.map (· ++ [13, 10]) ++ [[]]
  | [], n, _, _ => by
    cases n with
    | zero => rfl
    | succ n => simp [splitP, pairI]
  | t :: ts, n, h, hn => by
    have e : (t :: ts).flatMap (· ++ [13, 10]) = t ++ 13 :: 10 :: ts.flatMap (· ++ [13, 10]) := by simp
    rw [e] at hn ⊢
    obtain ⟨m, rfl⟩ : ∃ m, n = m + 1 := ⟨n - 1, by simp at hn; omega⟩
    have hp := pairI_run t (ts.flatMap (· ++ [13, 10])) (h t (by simp))
    have ih := split_back ts m (fun u hu => h u (by simp [hu])) (by simp only [List.length_append, List.length_cons] at hn; omega)
    rw [splitP, hp, if_pos (by omega)]
    have e1 : (t ++ 13 :: 10 :: ts.flatMap (· ++ [13, 10])).take ((t.length : Int).toNat + 2) = t ++ [13, 10] := by
      rw [Int.toNat_natCast, List.take_append, List.take_of_length_le (by omega)]; simp
    have e2 : (t ++ 13 :: 10 :: ts.flatMap (· ++ [13, 10])).drop ((t.length : Int).toNat + 2) = ts.flatMap (· ++ [13, 10]) := by
      rw [Int.toNat_natCast, List.drop_append]; simp
    rw [e1, e2, ih]
    simp
theorem good_back (ln : Ln) (h : rightZ ln = true) : goodP (writtenZ ln ++ [13, 10]) = some ln := by
  have hl : (writtenZ ln ++ [13, 10]).length - 2 = (writtenZ ln).length := by simp
  have he : endsZ (writtenZ ln ++ [13, 10]) = true := by
    unfold endsZ; rw [decide_eq_true_eq, hl]; exact ⟨by simp, by simp⟩
  unfold goodP
  rw [if_pos he, hl, List.take_left']
  · exact one_back ln h
  · rfl
end Go.Proofs.YtenclgnkogmgiaaDoor
