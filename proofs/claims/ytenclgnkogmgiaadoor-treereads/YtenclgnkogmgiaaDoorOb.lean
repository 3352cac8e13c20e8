/-
  A line that is written is read as it was.
-/
import Derived.Test.YtenclgnkogmgiaaDoorRj
namespace Go.Proofs.YtenclgnkogmgiaaDoor
open Go.RowKit
set_option linter.unusedVariables false

theorem take_to {p : Int → Bool} : ∀ (l : List Int) (c : Int) (r : List Int), l.all p = true → p c = false → (l ++ c :: r).takeWhile p = l ∧ (l ++ c :: r).dropWhile p = c :: r
  | [], c, r, _, h => by simp [h]
  | d :: l, c, r, h, hc => by
    simp only [List.all_cons, Bool.and_eq_true] at h
    obtain ⟨h1, h2⟩ := take_to l c r h.2 hc
    simp [h.1, h1, h2]
theorem up_nm {l : List Int} (h : l.all upC = true) : l.all nmC = true ∧ l.map largeZ = l := by
  induction l with
  | nil => simp
  | cons c l ih =>
    simp only [List.all_cons, Bool.and_eq_true] at h
    obtain ⟨h1, h2⟩ := ih h.2
    have hc := h.1
    unfold upC at hc
    simp only [Bool.or_eq_true, decide_eq_true_eq] at hc
    refine ⟨?_, ?_⟩
    · simp only [List.all_cons, h1, Bool.and_true]
      unfold nmC
      simp only [Bool.or_eq_true, decide_eq_true_eq]
      omega
    · rw [List.map_cons, h2]
      congr 1
      unfold largeZ
      rw [if_neg]
      omega
theorem value_back (v r : List Int) (c : Int) (hc : c = 59 ∨ c = 58) (hv : v.contains 34 = false) : valueR ((if v.any mk3 = true then 34 :: (v ++ [34]) else v) ++ c :: r) = some (v, c :: r) := by
  have hv' : ∀ x ∈ v, x ≠ 34 := fun x hx h => by subst h; simp at hv; exact hv hx
  by_cases hm : v.any mk3 = true
  · rw [if_pos hm]
    have hall : v.all (fun c => !decide (c = 34)) = true := by
      rw [List.all_eq_true]; intro x hx; simp [hv' x hx]
    obtain ⟨h1, h2⟩ := take_to v 34 (c :: r) hall (by simp)
    have e : (34 :: (v ++ [34]) ++ c :: r) = 34 :: (v ++ 34 :: c :: r) := by simp
    rw [e]
    unfold valueR
    rw [if_pos (by simp [signB]), if_pos (show (34 :: (v ++ 34 :: c :: r)).tail.contains 34 = true by simp)]
    show some ((v ++ 34 :: c :: r).takeWhile (fun c => !decide (c = 34)), ((v ++ 34 :: c :: r).dropWhile (fun c => !decide (c = 34))).tail) = _
    rw [h1, h2]
    rfl
  · rw [if_neg hm]
    have hall : v.all (fun c => !mkQ c) = true := by
      rw [List.all_eq_true]; intro x hx
      have h3 : mk3 x = false := by
        cases h : mk3 x with
        | false => rfl
        | true => exact absurd (List.any_eq_true.2 ⟨x, hx, h⟩) hm
      have h4 := hv' x hx
      unfold mk3 at h3
      unfold mkQ
      simp at h3 ⊢
      omega
    have hcq : mkQ c = true := by rcases hc with rfl | rfl <;> rfl
    obtain ⟨h1, h2⟩ := take_to v c r hall (by simp [hcq])
    have hs : signB 34 (v ++ c :: r) = false := by
      cases v with
      | nil => rcases hc with rfl | rfl <;> rfl
      | cons d v => simp [signB, hv' d (by simp)]
    unfold valueR
    rw [if_neg (by rw [hs]; simp), if_pos (by simp [hcq]), h1, h2]
theorem param_back (p : List Int × List Int) (r : List Int) (c : Int) (hc : c = 59 ∨ c = 58) (hp : parZ p = true) : ∃ l, parW p ++ c :: r = 59 :: l ∧ paramR l = some (p, c :: r) := by
  unfold parZ nameZ at hp
  simp only [Bool.and_eq_true, Bool.not_eq_true'] at hp
  obtain ⟨⟨⟨_, hn⟩, _⟩, hv⟩ := hp
  obtain ⟨h1, h2⟩ := up_nm hn
  refine ⟨p.1 ++ 61 :: ((if p.2.any mk3 = true then 34 :: (p.2 ++ [34]) else p.2) ++ c :: r), by unfold parW; simp, ?_⟩
  obtain ⟨t1, t2⟩ := take_to p.1 61 ((if p.2.any mk3 = true then 34 :: (p.2 ++ [34]) else p.2) ++ c :: r) h1 (by decide)
  unfold paramR
  rw [t2, t1, h2, if_pos (by simp [signB])]
  have e : signR 61 (61 :: ((if p.2.any mk3 = true then 34 :: (p.2 ++ [34]) else p.2) ++ c :: r)) = (if p.2.any mk3 = true then 34 :: (p.2 ++ [34]) else p.2) ++ c :: r := by
    unfold signR; rw [if_pos (by simp [signB])]; rfl
  rw [e, value_back p.2 r c hc hv]
  rfl
theorem pars_back : ∀ (ps acc : List (List Int × List Int)) (n : Nat) (vl : List Int), (∀ p ∈ ps, parZ p = true) → acc.length + ps.length ≤ 16 → ps.length < n → parsR n acc (ps.flatMap parW ++ 58 :: vl) = some (acc ++ ps, 58 :: vl)
  | [], acc, n, vl, _, _, hn => by
    obtain ⟨m, rfl⟩ : ∃ m, n = m + 1 := ⟨n - 1, by simp at hn; omega⟩
    simp [parsR, signB]
  | p :: ps, acc, n, vl, h, hl, hn => by
    obtain ⟨m, rfl⟩ : ∃ m, n = m + 1 := ⟨n - 1, by simp at hn; omega⟩
    obtain ⟨c, r, hcr, hc⟩ : ∃ c r, ps.flatMap parW ++ 58 :: vl = c :: r ∧ (c = 59 ∨ c = 58) := by
      cases ps with
      | nil => exact ⟨58, vl, by simp, .inr rfl⟩
      | cons q qs => exact ⟨59, _, by simp [parW]; rfl, .inl rfl⟩
    simp only [List.length_cons] at hl hn
    have ih := pars_back ps (acc ++ [p]) m vl (fun q hq => h q (by simp [hq])) (by simp; omega) (by omega)
    rw [hcr] at ih
    obtain ⟨l, hl1, hl2⟩ := param_back p r c hc (h p (by simp))
    rw [List.flatMap_cons, List.append_assoc, hcr, hl1, parsR, if_pos (by simp [signB])]
    simp only [List.tail_cons, hl2]
    rw [if_neg (by omega), ih]
    simp
theorem one_back (ln : Ln) (h : rightZ ln = true) : oneR (writtenZ ln) = some ln := by
  have h0 := h
  unfold rightZ nameZ at h
  simp only [Bool.and_eq_true, decide_eq_true_eq] at h
  obtain ⟨⟨⟨⟨_, hn⟩, _⟩, h16⟩, hr⟩ := h
  obtain ⟨h1, h2⟩ := up_nm hn
  obtain ⟨c, r, hcr, hc⟩ : ∃ c r, ln.pars.flatMap parW ++ 58 :: ln.value = c :: r ∧ (c = 59 ∨ c = 58) := by
    cases ln.pars with
    | nil => exact ⟨58, ln.value, by simp, .inr rfl⟩
    | cons q qs => exact ⟨59, _, by simp [parW]; rfl, .inl rfl⟩
  obtain ⟨t1, t2⟩ := take_to ln.name c r h1 (by rcases hc with rfl | rfl <;> decide)
  have hps := pars_back ln.pars [] 17 ln.value (right_pars [] ln.pars hr) (by simpa using h16) (by omega)
  unfold oneR writtenZ
  rw [hcr, t2, t1, h2, ← hcr, hps]
  exact (if_pos (by simp [signB])).trans (if_pos h0)
end Go.Proofs.YtenclgnkogmgiaaDoor
