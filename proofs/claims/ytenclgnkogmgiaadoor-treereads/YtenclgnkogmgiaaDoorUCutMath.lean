/-
  The plain mathematics of cutting.
-/
import Derived.Test.YtenclgnkogmgiaaDoorUCut
namespace Go.Proofs.YtenclgnkogmgiaaDoor.Ut
open Go.RowKit

theorem cut_eq {l : List Int} {c : Nat} : ∀ {m : Nat}, c ≤ m → (∀ j, c < j → j ≤ m → j < l.length ∧ l.getD j 0 / 64 = 2) → ¬ (c < l.length ∧ l.getD c 0 / 64 = 2) → cutZ l m = c
  | 0, h, _, _ => by simp [cutZ]; omega
  | m + 1, h, hj, hs => by
    by_cases e : c = m + 1
    · subst e; exact cut_stop hs
    · rw [cut_step (by omega) (hj (m + 1) (by omega) (Nat.le_refl _)).1 (hj (m + 1) (by omega) (Nat.le_refl _)).2, Nat.add_sub_cancel]
      exact cut_eq (by omega) (fun j h1 h2 => hj j h1 (by omega)) hs

/-- Bytes behind a point's first. -/
theorem enc_con {p : Int} (h : ptB p = true) : ∀ j, 0 < j → j < (encZ p).length → (encZ p).getD j 0 / 64 = 2 := by
  intro j h0 h1
  rcases pt_cases p h with k | k | k | k
  · rw [enc1 k.2] at h1; simp at h1; omega
  · rw [enc2 k.1 k.2] at h1 ⊢
    simp at h1
    obtain rfl : j = 1 := by omega
    simp; omega
  · rw [enc3 k.1 k.2] at h1 ⊢
    simp at h1
    rcases (show j = 1 ∨ j = 2 from by omega) with rfl | rfl <;> (simp; omega)
  · rw [enc4 k.1] at h1 ⊢
    simp at h1
    rcases (show j = 1 ∨ j = 2 ∨ j = 3 from by omega) with rfl | rfl | rfl <;> (simp; omega)

/-- The points up to a place. -/
theorem upto : ∀ (ps : List Int) (m : Nat), m ≤ (flat ps).length → ∃ qs rs, ps = qs ++ rs ∧ (flat qs).length ≤ m ∧ (rs = [] ∨ ∃ r rs', rs = r :: rs' ∧ m < (flat qs).length + (encZ r).length)
  | [], m, h => ⟨[], [], rfl, by simp [flat], .inl rfl⟩
  | p :: ps, m, h => by
    by_cases e : m < (encZ p).length
    · exact ⟨[], p :: ps, rfl, by simp [flat], .inr ⟨p, ps, rfl, by simpa [flat] using e⟩⟩
    · rw [flat_cons, List.length_append] at h
      obtain ⟨qs, rs, h1, h2, h3⟩ := upto ps (m - (encZ p).length) (by omega)
      refine ⟨p :: qs, rs, by rw [h1]; rfl, by rw [flat_cons, List.length_append]; omega, ?_⟩
      rcases h3 with h3 | ⟨r, rs', h3, h4⟩
      · exact .inl h3
      · exact .inr ⟨r, rs', h3, by rw [flat_cons, List.length_append]; omega⟩

theorem getD_right (l m : List Int) (j : Nat) (h : l.length ≤ j) : (l ++ m).getD j 0 = m.getD (j - l.length) 0 := by
  simp [List.getD_eq_getElem?_getD, List.getElem?_append_right h]
theorem getD_left (l m : List Int) (j : Nat) (h : j < l.length) : (l ++ m).getD j 0 = l.getD j 0 := by
  simp [List.getD_eq_getElem?_getD, List.getElem?_append_left h]

theorem cut_split (ps : List Int) (hps : AllPt ps) (m : Nat) (hm : m ≤ (flat ps).length) :
    ∃ qs rs, ps = qs ++ rs ∧ cutZ (flat ps) m = (flat qs).length ∧ (flat qs).length ≤ m ∧ m ≤ (flat qs).length + 3 := by
  obtain ⟨qs, rs, h1, h2, h3⟩ := upto ps m hm
  refine ⟨qs, rs, h1, ?_, h2, ?_⟩
  · refine cut_eq h2 ?_ ?_
    · intro j hj1 hj2
      rcases h3 with rfl | ⟨r, rs', rfl, h4⟩
      · rw [h1, List.append_nil] at hm; omega
      · have hr : ptB r = true := hps r (by rw [h1]; simp)
        have hq : flat ps = flat qs ++ (encZ r ++ flat rs') := by rw [h1, flat_append, flat_cons]
        refine ⟨by rw [hq, List.length_append, List.length_append]; omega, ?_⟩
        rw [hq, getD_right _ _ _ (by omega), getD_left _ _ _ (by omega)]
        exact enc_con hr _ (by omega) (by omega)
    · rintro ⟨h5, h6⟩
      have hq : flat ps = flat qs ++ flat rs := by rw [h1, flat_append]
      have hrs : AllPt rs := by rw [h1] at hps; exact hps.right
      rw [hq, getD_right _ _ _ (Nat.le_refl _), Nat.sub_self] at h6
      exact front_byte hrs (by rw [hq, List.length_append] at h5; omega) h6
  · rcases h3 with rfl | ⟨r, rs', rfl, h4⟩
    · rw [h1, List.append_nil] at hm; omega
    · have := enc_len r; omega
end Go.Proofs.YtenclgnkogmgiaaDoor.Ut
