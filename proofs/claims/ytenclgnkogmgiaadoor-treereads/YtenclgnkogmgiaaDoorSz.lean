/-
  How long what is written is.
-/
import Derived.Test.YtenclgnkogmgiaaDoorSb
namespace Go.Proofs.YtenclgnkogmgiaaDoor
open Go.RowKit
set_option linter.unusedVariables false

theorem fold_len : ∀ (n : Nat) (f l qs : List Int), Ut.AllPt qs → l = Ut.flat qs → f.length ≤ 1 → (endW (foldZ n f l)).length ≤ f.length + l.length + 2 + 3 * (l.length / 71)
  | 0, f, l, qs, _, _, _ => by simp [foldZ, endW]; omega
  | n + 1, f, l, qs, hqs, hl, hf => by
    rw [foldZ]
    split
    · rename_i hlong
      obtain ⟨q1, q2, h1, h2, h3, h4⟩ := Ut.cut_split qs hqs (75 - f.length) (by rw [← hl]; omega)
      rw [← hl] at h2
      have e : l = Ut.flat q1 ++ Ut.flat q2 := by rw [hl, h1, Ut.flat_append]
      have ih := fold_len n [32] (Ut.flat q2) q2 (fun x hx => hqs x (by rw [h1]; simp [hx])) rfl (by simp)
      rw [h2]
      have e1 : l.drop (Ut.flat q1).length = Ut.flat q2 := by rw [e]; simp
      have e2 : l.length = (Ut.flat q1).length + (Ut.flat q2).length := by rw [e]; simp
      rw [e1]
      have e3 : endW ((f ++ l.take (Ut.flat q1).length) :: foldZ n [32] (Ut.flat q2)) = (f ++ l.take (Ut.flat q1).length) ++ [13, 10] ++ endW (foldZ n [32] (Ut.flat q2)) := by simp [endW]
      rw [e3]
      simp only [List.length_append, List.length_cons, List.length_nil, List.length_take] at ih ⊢
      omega
    · simp [endW]; omega
theorem out_len : ∀ ls : List Lm, ls.all okM = true → (outM ls).length ≤ 10500 * ls.length
  | [], _ => by simp [outM, endW]
  | m :: ls, h => by
    simp only [List.all_cons, Bool.and_eq_true] at h
    have ih := out_len ls h.2
    have e : outM (m :: ls) = endW (linesM m) ++ outM ls := by simp [outM, endW]
    obtain ⟨ps, h1, h2⟩ := written_split m h.1
    have hw := written_len m h.1
    have := fold_len (writtenZ m.ln).length [] (writtenZ m.ln) ps h1 h2 (by simp)
    rw [e, List.length_append, List.length_cons, Nat.mul_succ]
    unfold linesM foldL
    simp only [List.length_nil] at this
    omega
end Go.Proofs.YtenclgnkogmgiaaDoor
