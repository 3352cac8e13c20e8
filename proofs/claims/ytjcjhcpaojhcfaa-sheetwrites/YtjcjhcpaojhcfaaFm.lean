/-
  What folded lines are: how long, what they hold, and how they are parted again.
-/
import Derived.Test.YtjcjhcpaojhcfaaRlines
namespace Go.Proofs.Ytjcjhcpaojhcfaa
open Go.RowKit
set_option linter.unusedVariables false

theorem Blk1 {c : Int} (h0 : 0 ≤ c) (h1 : c < 128) : ∃ us, Ut.AllPt us ∧ [c] = Ut.flat us := asc_split (by intro x hx; simp at hx; subst hx; exact ⟨h0, h1⟩)
/-- What is said of the lines that a text is folded into. -/
structure FP (f l : List Int) (L : List (List Int)) : Prop where
  each : ∀ x ∈ L, 1 ≤ x.length ∧ x.length ≤ 75 ∧ (∃ us, Ut.AllPt us ∧ x = Ut.flat us) ∧ ∀ c ∈ x, c ∈ l ∨ c = 32
  init : ∃ i z, L = i ++ [z] ∧ ∀ x ∈ i, 72 ≤ x.length
  len : (endW L).length ≤ f.length + l.length + 2 + 3 * (l.length / 71)
  head : ∃ x r, L = x :: r ∧ (f = [] → x.head? = l.head?)
theorem fold_props : ∀ (n : Nat) (f l ps : List Int), Ut.AllPt ps → l = Ut.flat ps → l.length ≤ n → (f = [] ∨ f = [32]) → (f = [] → l ≠ []) → FP f l (foldZ n f l) := by
  have short : ∀ (f l ps : List Int), Ut.AllPt ps → l = Ut.flat ps → (f = [] ∨ f = [32]) → (f = [] → l ≠ []) → f.length + l.length ≤ 75 → FP f l [f ++ l] := by
    intro f l ps hps hl hf hne h75
    refine ⟨?_, ⟨[], f ++ l, rfl, by simp⟩, by simp [endW]; omega, ⟨f ++ l, [], rfl, fun h => by rw [h]; rfl⟩⟩
    intro x hx
    simp at hx
    subst hx
    refine ⟨?_, by simp; omega, ?_, ?_⟩
    · rcases hf with rfl | rfl
      · have := hne rfl
        cases l with
        | nil => exact absurd rfl this
        | cons c l => simp
      · simp
    · rcases hf with rfl | rfl
      · exact ⟨ps, hps, by rw [hl]; rfl⟩
      · exact split_app (Blk1 (by omega) (by omega)) ⟨ps, hps, hl⟩
    · intro c hc
      rcases List.mem_append.1 hc with h | h
      · rcases hf with rfl | rfl
        · cases h
        · simp at h; exact .inr h
      · exact .inl h
  intro n
  induction n with
  | zero =>
    intro f l ps hps hl hn hf hne
    have h0 : l = [] := List.eq_nil_of_length_eq_zero (by omega)
    rw [foldZ]
    refine short f l ps hps hl hf hne ?_
    rcases hf with rfl | rfl <;> simp [h0]
  | succ n ih =>
    intro f l ps hps hl hn hf hne
    rw [foldZ]
    split
    · rename_i h75
      have hf1 : f.length ≤ 1 := by rcases hf with rfl | rfl <;> simp
      obtain ⟨qs, rs, e1, e2, e3, e4⟩ := Ut.cut_split ps hps (75 - f.length) (by rw [← hl]; omega)
      rw [← hl] at e2
      obtain ⟨k, hk⟩ : ∃ k, Ut.cutZ l (75 - f.length) = k := ⟨_, rfl⟩
      rw [hk] at e2 ⊢
      have hkl : k ≤ l.length := by omega
      have hdl := List.length_drop (l := l) (i := k)
      have htl := List.length_take (l := l) (i := k)
      have hrs : Ut.AllPt rs := fun x hx => hps x (by rw [e1]; simp [hx])
      have hqs : Ut.AllPt qs := fun x hx => hps x (by rw [e1]; simp [hx])
      have hd : l.drop k = Ut.flat rs := by rw [hl, e1, Ut.flat_append, e2, List.drop_left]
      have ht : l.take k = Ut.flat qs := by rw [hl, e1, Ut.flat_append, e2, List.take_left]
      have r := ih [32] (l.drop k) rs hrs hd (by omega) (.inr rfl) (fun h => by cases h)
      refine ⟨?_, ?_, ?_, ⟨f ++ l.take k, _, rfl, ?_⟩⟩
      · intro x hx
        rcases List.mem_cons.1 hx with rfl | hx
        · refine ⟨by rw [List.length_append, htl]; omega, by rw [List.length_append, htl]; omega, ?_, ?_⟩
          · rw [ht]
            rcases hf with rfl | rfl
            · exact ⟨qs, hqs, rfl⟩
            · exact split_app (Blk1 (by omega) (by omega)) ⟨qs, hqs, rfl⟩
          · intro c hc
            rcases List.mem_append.1 hc with h | h
            · rcases hf with rfl | rfl
              · cases h
              · simp at h; exact .inr h
            · exact .inl (List.mem_of_mem_take h)
        · obtain ⟨a1, a2, a3, a4⟩ := r.each x hx
          exact ⟨a1, a2, a3, fun c hc => (a4 c hc).imp (fun h => List.mem_of_mem_drop h) id⟩
      · obtain ⟨i, z, hi, hz⟩ := r.init
        refine ⟨(f ++ l.take k) :: i, z, by rw [hi]; rfl, ?_⟩
        intro x hx
        rcases List.mem_cons.1 hx with rfl | hx
        · rw [List.length_append, htl]; omega
        · exact hz x hx
      · have h1 := r.len
        have e : endW ((f ++ l.take k) :: foldZ n [32] (l.drop k)) = (f ++ l.take k) ++ [13, 10] ++ endW (foldZ n [32] (l.drop k)) := by simp [endW]
        rw [e]
        simp only [List.length_append, htl, List.length_cons, List.length_nil] at h1 ⊢
        rw [hdl] at h1
        omega
      · intro h
        rw [h, List.nil_append]
        cases l with
        | nil => simp at h75; omega
        | cons c l => cases k with
          | zero => omega
          | succ k => rfl
    · exact short f l ps hps hl hf hne (by omega)
/-- Where each line lies. -/
def placed : Nat → List (List Int) → List (Nat × Nat × Bool)
  | _, [] => []
  | p, l :: L => (p, l.length, true) :: placed (p + l.length + 2) L
theorem pairI_app : ∀ (l r : List Int), (13 : Int) ∉ l → pairI (l ++ 13 :: 10 :: r) = l.length
  | [], r, _ => by simp [pairI]
  | c :: l, r, h => by
    simp only [List.mem_cons, not_or] at h
    have ih := pairI_app l r h.2
    rw [List.cons_append, pairI_cons, if_neg (fun q => h.1 q.1.symm), ih, if_neg (by omega)]
    simp
theorem lines_end : ∀ (L : List (List Int)) (p : Nat), (∀ l ∈ L, (13 : Int) ∉ l) → linesZ p (endW L) = placed p L
  | [], p, _ => by simp [endW, linesZ_nil, placed]
  | l :: L, p, h => by
    have e : endW (l :: L) = l ++ 13 :: 10 :: endW L := by simp [endW]
    have hp := pairI_app l (endW L) (h l (by simp))
    have ih := lines_end L (p + l.length + 2) (fun x hx => h x (by simp [hx]))
    rw [e, linesZ_pair p _ (by rw [hp]; omega), hp, placed]
    have hd : (l ++ 13 :: 10 :: endW L).drop (((l.length : Int)).toNat + 2) = endW L := by
      rw [Int.toNat_natCast, ← List.drop_drop, List.drop_left]; rfl
    rw [hd, Int.toNat_natCast, ih]
theorem placed_len : ∀ (L : List (List Int)) (p : Nat), (placed p L).length = L.length
  | [], _ => rfl
  | l :: L, p => by simp [placed, placed_len L]
/-- The line at a place. -/
theorem placed_at : ∀ (L : List (List Int)) (p i : Nat) (l : List Int), L[i]? = some l → ∃ q, (placed p L)[i]? = some (q, l.length, true) ∧ p ≤ q ∧ ((endW L).drop (q - p)).take l.length = l ∧ q - p + l.length + 2 ≤ (endW L).length
  | [], p, i, l, h => by simp at h
  | m :: L, p, 0, l, h => by
    simp at h
    subst h
    have e : endW (m :: L) = m ++ 13 :: 10 :: endW L := by simp [endW]
    exact ⟨p, rfl, Nat.le_refl _, by rw [e, Nat.sub_self]; simp, by rw [e]; simp⟩
  | m :: L, p, i + 1, l, h => by
    obtain ⟨q, h1, h2, h3, h4⟩ := placed_at L (p + m.length + 2) i l (by simpa using h)
    have e : endW (m :: L) = m ++ [13, 10] ++ endW L := by simp [endW]
    refine ⟨q, by simpa [placed] using h1, by omega, ?_, ?_⟩
    · have e2 : q - p = (m ++ [13, 10] : List Int).length + (q - (p + m.length + 2)) := by simp; omega
      rw [e, e2, ← List.drop_drop, List.drop_left]; exact h3
    · rw [e, List.length_append]; simp; omega
/-- A line that is followed by one with a blank at its front is long. -/
def Good (L : List (List Int)) : Prop := ∀ i x y, L[i]? = some x → L[i + 1]? = some y → y.head? = some 32 → 72 ≤ x.length
theorem good_init {i : List (List Int)} {z : List Int} (h : ∀ x ∈ i, 72 ≤ x.length) : Good (i ++ [z]) := by
  intro k x y hx hy _
  have hk : k < i.length := by
    have := (List.getElem?_eq_some_iff.1 hy).1
    simp at this
    omega
  rw [List.getElem?_append_left hk] at hx
  exact h x (List.mem_of_getElem? hx)
theorem good_app {A B : List (List Int)} (ha : Good A) (hb : Good B) (h : ∀ y, B.head? = some y → y.head? ≠ some 32) : Good (A ++ B) := by
  intro k x y hx hy hh
  rcases Nat.lt_or_ge (k + 1) A.length with q | q
  · rw [List.getElem?_append_left (by omega)] at hx
    rw [List.getElem?_append_left q] at hy
    exact ha k x y hx hy hh
  · rcases Nat.lt_or_ge k A.length with r | r
    · rw [List.getElem?_append_right q] at hy
      have e : k + 1 - A.length = 0 := by omega
      rw [e] at hy
      exact absurd hh (h y (by rw [List.head?_eq_getElem?]; exact hy))
    · rw [List.getElem?_append_right r] at hx
      rw [List.getElem?_append_right q, show k + 1 - A.length = k - A.length + 1 by omega] at hy
      exact hb _ x y hx hy hh
theorem text_no {l : List Int} (h : textZ l = true) : ∀ c ∈ l, 32 ≤ c ∨ c = 9 := by
  intro c hc
  unfold textZ at h
  simp only [Bool.and_eq_true, List.all_eq_true] at h
  have := h.1 c hc
  unfold txC at this
  simp at this
  omega
theorem name_no {l : List Int} (h : nameZ l = true) : ∀ c ∈ l, 33 ≤ c := by
  intro c hc
  unfold nameZ at h
  simp only [Bool.and_eq_true, List.all_eq_true] at h
  have := h.2 c hc
  unfold upC at this
  simp at this
  omega
theorem written_no (m : Lm) (h : okM m = true) : (∀ c ∈ writtenZ m.ln, 32 ≤ c ∨ c = 9) ∧ ∃ c r, writtenZ m.ln = c :: r ∧ 33 ≤ c := by
  unfold okM rightZ at h
  simp only [Bool.and_eq_true] at h
  obtain ⟨⟨⟨h1, h2⟩, _⟩, h4⟩ := h
  have hp := right_pars [] _ h4
  refine ⟨?_, ?_⟩
  · intro c hc
    unfold writtenZ at hc
    rcases List.mem_append.1 hc with hc | hc
    · have := name_no h1 c hc; omega
    · rcases List.mem_append.1 hc with hc | hc
      · obtain ⟨p, hq, hc⟩ := List.mem_flatMap.1 hc
        have hpz := hp p hq
        unfold parZ at hpz
        simp only [Bool.and_eq_true] at hpz
        have n1 := name_no hpz.1.1
        have n2 := text_no hpz.1.2.2
        unfold parW at hc
        split at hc
        · simp at hc
          rcases hc with rfl | hc | rfl | rfl | hc | rfl
          all_goals first | omega | (have := n1 c hc; omega) | exact n2 c hc
        · simp at hc
          rcases hc with rfl | hc | rfl | hc
          all_goals first | omega | (have := n1 c hc; omega) | exact n2 c hc
      · rcases List.mem_cons.1 hc with rfl | hc
        · omega
        · exact text_no h2.2 c hc
  · have hl : 1 ≤ m.ln.name.length := by unfold nameZ at h1; simp at h1; omega
    cases hn : m.ln.name with
    | nil => rw [hn] at hl; simp at hl
    | cons c r => exact ⟨c, r ++ (m.ln.pars.flatMap parW ++ 58 :: m.ln.value), by unfold writtenZ; rw [hn]; rfl, name_no h1 c (by rw [hn]; simp)⟩
theorem linesM_fp (m : Lm) (h : okM m = true) : FP [] (writtenZ m.ln) (linesM m) := by
  obtain ⟨ps, hps, hl⟩ := written_split m h
  obtain ⟨_, c, r, hc, _⟩ := written_no m h
  exact fold_props _ [] _ ps hps hl (Nat.le_refl _) (.inl rfl) (fun _ => by rw [hc]; simp)
/-- All that is said of what Write writes. -/
theorem all_good : ∀ ls : List Lm, ls.all okM = true → Good (ls.flatMap linesM) ∧ (∀ x ∈ ls.flatMap linesM, 1 ≤ x.length ∧ x.length ≤ 75 ∧ (∃ us, Ut.AllPt us ∧ x = Ut.flat us) ∧ ∀ c ∈ x, 32 ≤ c ∨ c = 9) ∧ (outM ls).length ≤ 10500 * ls.length ∧ ∀ y, (ls.flatMap linesM).head? = some y → y.head? ≠ some 32
  | [], _ => ⟨(by intro i x y h; simp at h), (by simp), (by simp [outM, endW]), (by simp)⟩
  | m :: ls, h => by
    simp only [List.all_cons, Bool.and_eq_true] at h
    obtain ⟨g1, g2, g3, g4⟩ := all_good ls h.2
    have fp := linesM_fp m h.1
    have hw := written_len m h.1
    obtain ⟨n1, c, r, hc, hc33⟩ := written_no m h.1
    obtain ⟨i, z, hi, hz⟩ := fp.init
    rw [List.flatMap_cons]
    refine ⟨good_app (by rw [hi]; exact good_init hz) g1 g4, ?_, ?_, ?_⟩
    · intro x hx
      rcases List.mem_append.1 hx with hx | hx
      · obtain ⟨a1, a2, a3, a4⟩ := fp.each x hx
        refine ⟨a1, a2, a3, fun c hc => ?_⟩
        rcases a4 c hc with q | q
        · exact n1 c q
        · omega
      · exact g2 x hx
    · have e : outM (m :: ls) = endW (linesM m) ++ outM ls := by simp [outM, endW]
      have hl := fp.len
      rw [e, List.length_append, List.length_cons, Nat.mul_succ]
      simp at hl
      omega
    · intro y hy
      obtain ⟨x, rr, hx, hh⟩ := fp.head
      rw [hx] at hy
      simp at hy
      subst hy
      rw [hh rfl, hc]
      simp
      omega
end Go.Proofs.Ytjcjhcpaojhcfaa
