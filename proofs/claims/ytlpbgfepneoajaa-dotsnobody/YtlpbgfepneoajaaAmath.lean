/-
  Lines of a text and of its frame.
-/
import Derived.Test.YtlpbgfepneoajaaStuff
namespace Go.Proofs.Ytlpbgfepneoajaa
open Go.RowKit
set_option linter.unusedVariables false

def noB (l : List Int) : Prop := ∀ c ∈ l, c ≠ 13 ∧ c ≠ 10
theorem bareAt_none : ∀ (l : List Int) (k : Nat), bareAt k l = -1 → noB l
  | [], _, _ => by intro c hc; simp at hc
  | c :: l, k, h => by
    unfold bareAt at h
    by_cases q : c = 13 ∨ c = 10
    · rw [if_pos q] at h; omega
    · rw [if_neg q] at h
      have ih := bareAt_none l (k + 1) h
      intro d hd
      rcases List.mem_cons.1 hd with rfl | hd
      · exact ⟨fun e => q (.inl e), fun e => q (.inr e)⟩
      · exact ih d hd
theorem pairI_line : ∀ (l r : List Int), noB l → pairI (l ++ 13 :: 10 :: r) = l.length
  | [], r, _ => by simp [pairI]
  | c :: l, r, h => by
    have ih := pairI_line l r (fun d hd => h d (by simp [hd]))
    have hc := h c (by simp)
    rw [List.cons_append]
    unfold pairI
    rw [if_neg (fun q => hc.1 q.1), ih, if_neg (by omega)]
    simp
theorem linesZ_line (p : Nat) (l r : List Int) (h : noB l) : linesZ p (l ++ 13 :: 10 :: r) = (p, l.length, true) :: linesZ (p + l.length + 2) r := by
  have hp := pairI_line l r h
  rw [linesZ_pair p _ (by omega), hp]
  simp only [Int.toNat_natCast]
  congr 2
  rw [List.drop_append]
  simp
theorem pairI_split : ∀ (l : List Int) (i : Nat), pairI l = i → l = l.take i ++ 13 :: 10 :: l.drop (i + 2)
  | [], i, h => by simp [pairI] at h
  | c :: l, i, h => by
    unfold pairI at h
    by_cases q : c = 13 ∧ l.head? = some 10
    · rw [if_pos q] at h
      obtain rfl : i = 0 := by omega
      obtain ⟨rfl, q2⟩ := q
      cases l with
      | nil => simp at q2
      | cons d l => simp at q2; subst q2; rfl
    · rw [if_neg q] at h
      have hg := pairI_ge l
      by_cases q2 : pairI l = -1
      · rw [if_pos q2] at h; omega
      · rw [if_neg q2] at h
        obtain ⟨j, rfl⟩ : ∃ j, i = j + 1 := ⟨i - 1, by omega⟩
        have ih := pairI_split l j (by omega)
        simp only [List.take_succ_cons, List.cons_append]
        rw [show j + 1 + 2 = (j + 2) + 1 from by omega, List.drop_succ_cons, ← ih]

/-- A text is its lines, each with its pair. -/
theorem text_flat : ∀ (m : Nat) (l pre : List Int), l.length ≤ m → (∀ x ∈ linesZ pre.length l, x.2.2 = true) → (linesZ pre.length l).flatMap (fun x => pieceZ (pre ++ l) x ++ [13, 10]) = l
  | 0, l, pre, h, _ => by
    obtain rfl : l = [] := List.eq_nil_of_length_eq_zero (by omega)
    simp [linesZ_nil]
  | m + 1, l, pre, h, he => by
    by_cases hl : l = []
    · subst hl; simp [linesZ_nil]
    · by_cases hi : 0 ≤ pairI l
      · have hroom := pairI_room l hi
        obtain ⟨i, hii⟩ : ∃ i : Nat, pairI l = i := ⟨(pairI l).toNat, by omega⟩
        have hsp := pairI_split l i hii
        have hlz := linesZ_pair pre.length l hi
        rw [hii] at hlz hroom
        simp only [Int.toNat_natCast] at hlz
        have hlen : (pre ++ (l.take i ++ [13, 10])).length = pre.length + i + 2 := by simp; omega
        rw [hlz] at he
        have ih := text_flat m (l.drop (i + 2)) (pre ++ (l.take i ++ [13, 10])) (by simp; omega) (by rw [hlen]; intro x hx; exact he x (by simp [hx]))
        rw [hlen] at ih
        have hall : pre ++ (l.take i ++ [13, 10]) ++ l.drop (i + 2) = pre ++ l := by
          conv => rhs; rw [hsp]
          simp
        rw [hall] at ih
        rw [hlz, List.flatMap_cons, ih]
        have hpc : pieceZ (pre ++ l) (pre.length, i, true) = l.take i := by simp [pieceZ]
        rw [hpc]
        conv => rhs; rw [hsp]
        simp
      · rw [linesZ_last _ l hl hi] at he
        have := he _ (List.mem_singleton.2 rfl)
        simp at this

theorem fault_codes {zs : List Int} {x : Nat × Nat × Bool} {r : Int × Int} (h : faultL zs x = some r) : r.2 ≠ 0 := by
  unfold faultL at h
  split at h
  · cases h; simp
  · split at h
    · cases h; simp
    · split at h
      · cases h; simp
      · cases h
theorem right_zero {zs : List Int} (h : (rightZ zs).2 = 0) : ∀ x ∈ linesZ 0 zs, faultL zs x = none := by
  unfold rightZ at h
  cases hq : (linesZ 0 zs).findSome? (faultL zs) with
  | none => rw [List.findSome?_eq_none_iff] at hq; exact hq
  | some r =>
    rw [hq] at h
    obtain ⟨x, _, hx⟩ := List.exists_of_findSome?_eq_some hq
    exact absurd h (fault_codes hx)
theorem fault_none {zs : List Int} {x : Nat × Nat × Bool} (h : faultL zs x = none) : noB (pieceZ zs x) ∧ x.2.1 ≤ 998 ∧ x.2.2 = true := by
  unfold faultL at h
  split at h
  · cases h
  · rename_i h1
    split at h
    · cases h
    · rename_i h2
      split at h
      · cases h
      · rename_i h3
        refine ⟨bareAt_none _ 0 ?_, by omega, by simpa using h3⟩
        rcases bareAt_range ((zs.drop x.1).take x.2.1) 0 with h | h
        · exact h
        · omega

/-- A line of a frame, without its pair. -/
def px (l : List Int) : List Int := (if l.head? = some 46 then [46] else []) ++ l
theorem lineF_px (l : List Int) : lineF l = px l ++ [13, 10] := by unfold lineF px; simp
theorem px_noB {l : List Int} (h : noB l) : noB (px l) := by
  unfold px
  split
  · intro c hc
    rcases List.mem_append.1 hc with q | q
    · obtain rfl : c = 46 := by simpa using q
      decide
    · exact h c q
  · simpa using h
/-- The lines of a frame. -/
theorem lines_flat (zs : List Int) : ∀ (ls : List (Nat × Nat × Bool)) (pre : List Int), (∀ x ∈ ls, noB (pieceZ zs x)) →
    (linesZ pre.length (flatZ zs ls ++ [46, 13, 10])).map (pieceZ (pre ++ (flatZ zs ls ++ [46, 13, 10]))) = ls.map (fun x => px (pieceZ zs x)) ++ [[46]]
  | [], pre, _ => by
    have h := linesZ_line pre.length [46] [] (by intro c hc; obtain rfl : c = 46 := by simpa using hc
                                                 decide)
    simp only [flatZ, List.flatMap_nil, List.nil_append, List.map_nil]
    rw [show ([46, 13, 10] : List Int) = [46] ++ 13 :: 10 :: [] from rfl, h]
    simp [linesZ_nil, pieceZ]
  | x :: ls, pre, hx => by
    have hb := px_noB (hx x (by simp))
    have hf : flatZ zs (x :: ls) ++ [46, 13, 10] = px (pieceZ zs x) ++ 13 :: 10 :: (flatZ zs ls ++ [46, 13, 10]) := by
      simp [flatZ, lineF_px]
    have hlen : (pre ++ (px (pieceZ zs x) ++ [13, 10])).length = pre.length + (px (pieceZ zs x)).length + 2 := by simp; omega
    have ih := lines_flat zs ls (pre ++ (px (pieceZ zs x) ++ [13, 10])) (fun y hy => hx y (by simp [hy]))
    rw [hlen] at ih
    rw [hf, linesZ_line _ _ _ hb, List.map_cons, List.map_cons, List.cons_append]
    congr 1
    · simp [pieceZ]
    · rw [← ih]
      congr 2
      simp
theorem flat_short (zs : List Int) : ∀ ls : List (Nat × Nat × Bool), (flatZ zs ls).length ≤ (ls.flatMap (fun x => pieceZ zs x ++ [13, 10])).length + ls.length
  | [] => by simp [flatZ]
  | x :: ls => by
    have ih := flat_short zs ls
    have h : (lineF (pieceZ zs x)).length ≤ (pieceZ zs x).length + 3 := by unfold lineF; split <;> simp
    have h3 : flatZ zs (x :: ls) = lineF (pieceZ zs x) ++ flatZ zs ls := by simp [flatZ]
    rw [h3, List.flatMap_cons, List.length_append, List.length_append, List.length_append, List.length_cons]
    simp only [List.length_cons, List.length_nil]
    omega
theorem frame_len {zs : List Int} (h : (rightZ zs).2 = 0) : (frameZ zs).length ≤ 2 * zs.length + 3 := by
  have h1 := flat_short zs (linesZ 0 zs)
  have h2 := text_flat zs.length zs [] (Nat.le_refl _) (fun x hx => (fault_none (right_zero h x hx)).2.2)
  have h3 := linesZ_len zs.length 0 zs (Nat.le_refl _)
  simp only [List.length_nil, List.nil_append] at h2
  rw [h2] at h1
  unfold frameZ
  simp only [List.length_append, List.length_cons, List.length_nil]
  omega
theorem frame_byt {zs : List Int} (h : Byt zs) : Byt (frameZ zs) := by
  have hp : ∀ x, Byt (pieceZ zs x) := fun x => (h.drop x.1).take x.2.1
  have hl : ∀ ls : List (Nat × Nat × Bool), Byt (flatZ zs ls) := by
    intro ls c hc
    simp only [flatZ, List.mem_flatMap] at hc
    obtain ⟨x, _, hc⟩ := hc
    unfold lineF at hc
    rcases List.mem_append.1 hc with q | q
    · split at q
      · obtain rfl : c = 46 := by simpa using q
        decide
      · simp at q
    · rcases List.mem_append.1 q with q | q
      · exact hp x c q
      · simp at q; omega
  exact (hl _).append (by intro c hc; simp at hc; omega)
end Go.Proofs.Ytlpbgfepneoajaa
