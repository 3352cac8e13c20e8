/-
  What Write has written Read reads as it was.
-/
import Derived.Test.YtenclgnkogmgiaaDoorBk
import Derived.Test.YtenclgnkogmgiaaDoorSa
namespace Go.Proofs.YtenclgnkogmgiaaDoor
open Go.RowKit
set_option linter.unusedVariables false

theorem flatW_valid : ∀ ls : List Lm, ls.all okM = true → ∃ ps, Ut.AllPt ps ∧ flatW ls = Ut.flat ps
  | [], _ => ⟨[], (fun x hx => (by cases hx)), rfl⟩
  | m :: ls, h => by
    simp only [List.all_cons, Bool.and_eq_true] at h
    have h2 : ∃ ps, Ut.AllPt ps ∧ ([13, 10] : List Int) = Ut.flat ps := asc_split (by intro x hx; simp at hx; omega)
    have := split_app (split_app (written_split m h.1) h2) (flatW_valid ls h.2)
    simpa [flatW] using this
theorem flatW_split (ls : List Lm) (h : ls.all okM = true) : splitP (flatW ls).length (flatW ls) = (ls.map fun m => writtenZ m.ln ++ [13, 10]) ++ [[]] := by
  have e : flatW ls = (ls.map fun m => writtenZ m.ln).flatMap (· ++ [13, 10]) := by simp [flatW, List.flatMap_map]
  rw [e, split_back _ _ ?_ (Nat.le_refl _)]
  · simp
  · intro t ht
    obtain ⟨m, hm, rfl⟩ := List.mem_map.1 ht
    exact written13 m.ln (List.all_eq_true.1 h m hm)
theorem back_at (ls : List Lm) (h : ls.all okM = true) (i : Nat) (q : List Int) (hq : ((ls.map fun m => writtenZ m.ln ++ [13, 10]) ++ [[]])[i]? = some q) (hne : q ≠ []) : ∃ m, ls[i]? = some m ∧ goodP q = some m.ln := by
  by_cases hi : i < ls.length
  · rw [List.getElem?_append_left (by simpa using hi), List.getElem?_map, List.getElem?_eq_getElem hi] at hq
    simp only [Option.map_some, Option.some.injEq] at hq
    exact ⟨ls[i], List.getElem?_eq_getElem hi, by rw [← hq]; exact good_back _ (List.all_eq_true.1 h _ (List.getElem_mem hi))⟩
  · rw [List.getElem?_append_right (by simpa using hi)] at hq
    have hlt := (List.getElem?_eq_some_iff.1 hq).1
    simp at hlt
    rw [List.length_map, show i - ls.length = 0 by omega] at hq
    simp at hq
    first | exact absurd hq hne | exact absurd hq.symm hne
theorem numsP_inj {fs gs : List (ByteArray × ByteArray)} (h : numsP fs = numsP gs) : fs = gs := by
  unfold numsP at h
  induction fs generalizing gs with
  | nil => cases gs with
    | nil => rfl
    | cons g gs => simp at h
  | cons f fs ih => cases gs with
    | nil => simp at h
    | cons g gs =>
      simp only [List.map_cons, List.cons.injEq, Prod.mk.injEq] at h
      obtain ⟨⟨h1, h2⟩, h3⟩ := h
      rw [ih h3, Prod.ext (nums_inj h1) (nums_inj h2)]
theorem read_back (ls : List Lm) (h : ls.all okM = true) (hl : (outM ls).length ≤ 1048576) (hn : ls.length < 4096) :
    (∀ p code, ¬ RF (outM ls) p code) ∧ ∀ ks, ROk (outM ls) ks → SameL ls ks := by
  have hu := (out_back ls h).1
  have hS := flatW_split ls h
  have hlv : (linesV 0 ((ls.map fun m => writtenZ m.ln ++ [13, 10]) ++ [[]])).length = ls.length := by
    refine linesV_end _ 0 ls.length ?_ ?_
    · rw [List.getElem?_append_right (by simp)]; simp
    · intro i q hi hq e
      subst e
      rw [List.getElem?_append_left (by simpa using hi), List.getElem?_map, List.getElem?_eq_getElem hi] at hq
      simp at hq
  constructor
  · intro p code hf
    unfold RF at hf
    rw [hu, hS] at hf
    rcases hf with ⟨h1, _⟩ | ⟨_, ps, r, h1, h2, h3, h4, h5, _⟩ | ⟨_, _, k, q, h1, h2, _, _, _, h3⟩
    · omega
    · obtain ⟨qs, g1, g2⟩ := flatW_valid ls h
      have := Ut.split_one h1 g1 h4 (show Ut.decZ [] = none from rfl) (by rw [← h3, g2, List.append_nil])
      exact h5 this.2
    · obtain ⟨m, hm, hg⟩ := back_at ls h k q h1 h2
      rcases h3 with ⟨h3, _⟩ | ⟨_, h3, _⟩
      · rw [hg] at h3; cases h3
      · have := (List.getElem?_eq_some_iff.1 hm).1
        omega
  · intro ks hk
    unfold ROk at hk
    rw [hu, hS, hlv] at hk
    obtain ⟨_, _, h1, _, h2⟩ := hk
    refine ⟨h1.symm, fun i m m' hm hm' => ?_⟩
    obtain ⟨q, hq, hg⟩ := h2 i m' hm'
    have hi : i < ls.length := (List.getElem?_eq_some_iff.1 hm).1
    have hne : q ≠ [] := by
      intro e
      subst e
      rw [List.getElem?_append_left (by simpa using hi), List.getElem?_map, List.getElem?_eq_getElem hi] at hq
      simp at hq
    obtain ⟨m2, hm2, hg2⟩ := back_at ls h i q hq hne
    rw [hm] at hm2
    cases hm2
    rw [hg] at hg2
    have e : m'.ln = m.ln := Option.some.inj hg2
    unfold Lm.ln at e
    injection e with e1 e2 e3
    exact ⟨nums_inj e1, nums_inj e3, numsP_inj e2⟩
end Go.Proofs.YtenclgnkogmgiaaDoor
