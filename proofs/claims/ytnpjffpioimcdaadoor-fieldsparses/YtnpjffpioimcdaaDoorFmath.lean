/-
  The lines of what is written.
-/
import Derived.Test.YtnpjffpioimcdaaDoorRlines
namespace Go.Proofs.YtnpjffpioimcdaaDoor
open Go.RowKit
set_option linter.unusedVariables false

theorem flatL_at (b off cap : Nat) : ∀ (ls : List (Nat × Nat × Bool)) (k : Nat) (hk : k < ls.length) (j : Nat), j < 3 → (ls.flatMap (cellL b off cap))[k * 3 + j]? = (cellL b off cap ls[k])[j]?
  | [], k, hk, j, hj => by simp at hk
  | x :: ls, 0, hk, j, hj => by
    rw [List.flatMap_cons, List.getElem?_append_left (by simp [cellL]; omega)]; simp
  | x :: ls, k + 1, hk, j, hj => by
    have ih := flatL_at b off cap ls k (by simpa using hk) j hj
    rw [List.flatMap_cons, List.getElem?_append_right (by simp [cellL]; omega)]
    simp only [List.getElem_cons_succ]
    rw [← ih]
    congr 1
    simp [cellL]
    omega

/-- What a row of lines holds at a place. -/
theorem lineAt {w : World} {B : Nat} {v : Value} {b off cap : Nat} {ls : List (Nat × Nat × Bool)} (h : OwnL w B v b off cap ls) (hne : ls ≠ []) : ∃ g cp, v = .slice (some ⟨g, 0, none⟩) ls.length cp ∧ B ≤ g ∧
    ∀ (k : Nat) (hk : k < ls.length), w.cell? ⟨g, k * 3, none⟩ = some (.int .i64 ((ls[k]).1 : Nat)) ∧ w.cell? ⟨g, k * 3 + 1, none⟩ = some (.slice (some ⟨b, off + (ls[k]).1, none⟩) (ls[k]).2.1 (cap - (ls[k]).1)) ∧ w.cell? ⟨g, k * 3 + 2, none⟩ = some (.bool (ls[k]).2.2) := by
  rcases h.2 with ⟨rfl, hn⟩ | ⟨g, cp, cur, rfl, hb, hg, hn, hm, hs, ht⟩
  · exact absurd (List.eq_nil_of_length_eq_zero hn) hne
  · refine ⟨g, cp, rfl, hb, fun k hk => ?_⟩
    have key : ∀ j, j < 3 → ∀ u, (cellL b off cap ls[k])[j]? = some u → w.cell? ⟨g, k * 3 + j, none⟩ = some u := by
      intro j hj u hu
      have hc := h.cells (g := g) rfl (k * 3 + j) u (by rw [flatL_at b off cap ls k hk j hj]; exact hu)
      rw [add_plain] at hc
      simpa using hc
    exact ⟨key 0 (by omega) _ rfl, key 1 (by omega) _ rfl, key 2 (by omega) _ rfl⟩

theorem ownL_shape {w : World} {B : Nat} {v : Value} {b off cap : Nat} {ls : List (Nat × Nat × Bool)} (h : OwnL w B v b off cap ls) : ∃ a c, v = .slice a ls.length c := by
  rcases h.2 with ⟨rfl, hn⟩ | ⟨g, cp, cur, rfl, _⟩
  · exact ⟨none, 0, by rw [hn]⟩
  · exact ⟨_, _, rfl⟩
/-- Each line lies in the text. -/
theorem linesZ_in : ∀ (m p : Nat) (l : List Int), l.length ≤ m → ∀ x ∈ linesZ p l, p ≤ x.1 ∧ x.1 < p + l.length ∧ x.1 + x.2.1 ≤ p + l.length
  | 0, p, l, h, x, hx => by
    obtain rfl : l = [] := List.eq_nil_of_length_eq_zero (by omega)
    simp [linesZ_nil] at hx
  | m + 1, p, l, h, x, hx => by
    by_cases hl : l = []
    · subst hl; simp [linesZ_nil] at hx
    · have hp : 0 < l.length := List.length_pos_iff.2 hl
      by_cases hi : 0 ≤ pairI l
      · rw [linesZ_pair p l hi] at hx
        have hr := pairI_room l hi
        rcases List.mem_cons.1 hx with rfl | hx
        · simp only; omega
        · have := linesZ_in m (p + (pairI l).toNat + 2) (l.drop ((pairI l).toNat + 2)) (by simp; omega) x hx
          simp only [List.length_drop] at this
          omega
      · rw [linesZ_last p l hl hi] at hx
        obtain rfl : x = _ := by simpa using hx
        simp only; omega


/-- A line that is folded as it should be. -/
def okLine (l : List Int) : Prop := l.length ≤ 76 ∨ (l.head? = some 32 ∧ ∀ j, 1 ≤ j → j ≤ 76 → l[j]? ≠ some 32) ∨ (l.head? ≠ some 32 ∧ ∃ c : Nat, colonI l = c ∧ ∀ j, c + 3 ≤ j → j ≤ 76 → l[j]? ≠ some 32)
def foldOk (first : Nat) (l : List Int) : Prop := l.length ≤ 76 ∨ ∀ j, first < j → j ≤ 76 → l[j]? ≠ some 32
theorem last_none {l : List Int} {first : Nat} (h : ¬ (first : Int) < lastI l 77) : ∀ j, first < j → j ≤ 76 → l[j]? ≠ some 32 := by
  intro j h1 h2
  rcases lastI_spec l 77 with ⟨_, hn⟩ | ⟨i, hi, e, _, hn⟩
  · exact hn j (by omega)
  · rw [e] at h
    exact hn j (by omega) (by omega)
theorem fold_first_none {first : Nat} {l : List Int} (h : foldZ first l = none) : foldOk first l := by
  unfold foldZ at h
  by_cases h1 : l.length ≤ 76
  · exact .inl h1
  rw [if_neg h1] at h
  by_cases h2 : (first : Int) < lastI l 77
  · rw [if_pos h2] at h; simp at h
  · exact .inr (last_none h2)
theorem fold_first_some {first k : Nat} {l : List Int} (hf : first ≤ 76) (h : foldZ first l = some k) : foldOk first (l.take k) := by
  have hk := foldZ_some hf h
  by_cases h7 : k ≤ 76
  · exact .inl (by simp; omega)
  unfold foldZ at h
  by_cases h1 : l.length ≤ 76
  · rw [if_pos h1] at h; simp at h
  rw [if_neg h1] at h
  by_cases h2 : (first : Int) < lastI l 77
  · rw [if_pos h2] at h
    rcases lastI_spec l 77 with ⟨e, _⟩ | ⟨i, hi, e, _, _⟩
    · omega
    · rw [e] at h; simp at h; omega
  · refine .inr (fun j q1 q2 => ?_)
    rw [List.getElem?_take_of_lt (by omega)]
    exact last_none h2 j q1 q2
theorem fold_more : ∀ (n : Nat) (l : List Int), l.length ≤ n → l.head? = some 32 → ∀ m ∈ foldL 0 l, m.head? = some 32 ∧ foldOk 0 m
  | n, l, hn, hh, m, hm => by
    cases h : foldZ 0 l with
    | none =>
      rw [foldL_none h] at hm
      obtain rfl : m = l := by simpa using hm
      exact ⟨hh, fold_first_none h⟩
    | some k =>
      obtain ⟨k0, k1, k2⟩ := foldZ_some (by omega) h
      rw [foldL_some (by omega) h] at hm
      rcases List.mem_cons.1 hm with rfl | hm
      · refine ⟨?_, fold_first_some (by omega) h⟩
        cases l with
        | nil => simp at hh
        | cons a d =>
          cases k with
          | zero => omega
          | succ k => simpa using hh
      · cases n with
        | zero => omega
        | succ n => exact fold_more n (l.drop k) (by simp; omega) (by rw [List.head?_drop]; exact k2) m hm
theorem okLine_more {m : List Int} (h : m.head? = some 32 ∧ foldOk 0 m) : okLine m := by
  rcases h.2 with q | q
  · exact .inl q
  · exact .inr (.inl ⟨h.1, fun j h1 h2 => q j (by omega) h2⟩)
theorem okLine_first {nm v m : List Int} (hn : nameZ nm = true) (hm : foldOk (nm.length + 2) m) (he : ∃ t, m = nm ++ 58 :: t) : okLine m := by
  obtain ⟨t, rfl⟩ := he
  obtain ⟨n1, n2, n3⟩ := nameZ_spec hn
  rcases hm with q | q
  · exact .inl q
  · refine .inr (.inr ⟨?_, nm.length, colonI_at nm t (fun c hc => (n1 c hc).2.2), fun j h1 h2 => q j (by omega) h2⟩)
    cases nm with
    | nil => exact absurd rfl n2
    | cons a d =>
      have := n1 a (by simp)
      simp
      omega
theorem okLines {f : ByteArray × ByteArray} (hf : okF f = true) : ∀ m ∈ linesW f, okLine m := by
  intro m hm
  have hb := okF_bounds hf
  simp only [okF, Bool.and_eq_true] at hf
  obtain ⟨tl, htl⟩ : ∃ tl, (if nums f.2 = [] then ([] : List Int) else 32 :: nums f.2) = tl := ⟨_, rfl⟩
  have hfl : fieldL (nums f.1) (nums f.2) = nums f.1 ++ 58 :: tl := by rw [fieldL, htl]; simp
  unfold linesW at hm
  rw [hfl] at hm
  have hsz : f.1.size + 2 = (nums f.1).length + 2 := by rw [nums_len]
  cases h : foldZ (f.1.size + 2) (nums f.1 ++ 58 :: tl) with
  | none =>
    rw [foldL_none h] at hm
    obtain rfl : m = _ := by simpa using hm
    exact okLine_first (v := []) hf.1 (by rw [← hsz]; exact fold_first_none h) ⟨tl, rfl⟩
  | some k =>
    obtain ⟨k0, k1, k2⟩ := foldZ_some (by omega) h
    rw [foldL_some (by omega) h] at hm
    rcases List.mem_cons.1 hm with rfl | hm
    · refine okLine_first (v := []) hf.1 (by rw [← hsz]; exact fold_first_some (by omega) h) ?_
      obtain ⟨j, hj⟩ : ∃ j, k = (nums f.1).length + (j + 1) := ⟨k - f.1.size - 1, by rw [nums_len]; omega⟩
      exact ⟨tl.take j, by rw [hj, List.take_length_add_append]; rfl⟩
    · exact okLine_more (fold_more _ _ (Nat.le_refl _) (by rw [List.head?_drop]; exact k2) m hm)
theorem clean_lines {f : ByteArray × ByteArray} (hf : okF f = true) : ∀ m ∈ linesW f, ∀ c ∈ m, c ≠ 13 := by
  intro m hm c hc
  have hb := okF_bounds hf
  have := foldL_mem _ (f.1.size + 2) (fieldL (nums f.1) (nums f.2)) (Nat.le_refl _) (by omega) m hm c hc
  simp only [okF, Bool.and_eq_true] at hf
  obtain ⟨n1, n2, n3⟩ := nameZ_spec hf.1
  obtain ⟨v1, v2, v3⟩ := valueZ_spec hf.2
  unfold fieldL at this
  rcases List.mem_append.1 this with h | h
  · rcases List.mem_append.1 h with h | h
    · have := n1 c h; omega
    · simp at h; omega
  · by_cases q : nums f.2 = []
    · rw [if_pos q] at h; simp at h
    · rw [if_neg q] at h
      rcases List.mem_cons.1 h with rfl | h
      · decide
      · have := v1 c h; omega
/-- The lines of lines that are ended. -/
theorem lines_end {zs : List Int} : ∀ (ls : List (List Int)) (p : Nat), (∀ l ∈ ls, ∀ c ∈ l, c ≠ 13) → zs.drop p = endW ls → ∀ x ∈ linesZ p (zs.drop p), pieceZ zs x ∈ ls
  | [], p, _, hz, x, hx => by
    rw [hz] at hx
    simp [endW, linesZ_nil] at hx
  | l :: ls, p, hc, hz, x, hx => by
    have hz' : zs.drop p = l ++ 13 :: 10 :: endW ls := by rw [hz]; simp [endW]
    obtain ⟨_, h2, h3⟩ := line_at hz' (hc l (by simp))
    have e := pairI_clean l (endW ls) (hc l (by simp))
    rw [hz', linesZ_pair p _ (by rw [e]; omega), e] at hx
    simp only [Int.toNat_natCast] at hx
    rw [show List.drop (l.length + 2) (l ++ 13 :: 10 :: endW ls) = endW ls from by rw [List.drop_length_add_append]; rfl] at hx
    rcases List.mem_cons.1 hx with rfl | hx
    · rw [h2]; simp
    · have := lines_end ls (p + l.length + 2) (fun m hm => hc m (by simp [hm])) h3 x (by rw [h3]; exact hx)
      exact List.mem_cons_of_mem _ this
theorem write_lines {fs : List (ByteArray × ByteArray)} (h : writeC fs = 0) : ∀ x ∈ linesZ 0 (writeB fs), okLine (pieceZ (writeB fs) x) := by
  have h0 := h
  unfold writeC at h
  have a1 : ¬ 128 < fs.length := fun q => by rw [if_pos q] at h; omega
  rw [if_neg a1] at h
  have a2 : ¬ fs.all okF = false := fun q => by rw [if_pos q] at h; omega
  have hall : ∀ f ∈ fs, okF f = true := by have : fs.all okF = true := by simpa using a2
                                           exact List.all_eq_true.1 this
  have hb : writeB fs = endW (fs.flatMap linesW ++ [[]]) := by unfold writeB outW; rw [if_pos h0, endW_snoc]; simp
  intro x hx
  have hmem := lines_end (zs := writeB fs) (fs.flatMap linesW ++ [[]]) 0 (fun l hl c hc => by
    rcases List.mem_append.1 hl with hl | hl
    · obtain ⟨f, hf, hl⟩ := List.mem_flatMap.1 hl
      exact clean_lines (hall f hf) l hl c hc
    · obtain rfl : l = [] := by simpa using hl
      simp at hc) (by rw [List.drop_zero]; exact hb) x (by rw [List.drop_zero]; exact hx)
  rcases List.mem_append.1 hmem with hm | hm
  · obtain ⟨f, hf, hl⟩ := List.mem_flatMap.1 hm
    exact okLines (hall f hf) _ hl
  · have e : pieceZ (writeB fs) x = [] := by simpa using hm
    rw [e]; exact .inl (by simp)
end Go.Proofs.YtnpjffpioimcdaaDoor
