/-
  The document's One, as mathematics: it says what oneR says.
-/
import Derived.Test.YtjcjhcpaojhcfaaDoorRm
namespace Go.Proofs.YtjcjhcpaojhcfaaDoor
open Go.RowKit
set_option linter.unusedVariables false

def dl2 (c : Int) : Bool := decide (c = 59) || decide (c = 58)
def dl3 (c : Int) : Bool := decide (c = 61) || (decide (c = 59) || decide (c = 58))
def valueQ (l : List Int) : Option (List Int × List Int) :=
  if signB 34 l = true then (if l.tail.contains 34 = true then some (l.tail.takeWhile fun c => !decide (c = 34), (l.tail.dropWhile fun c => !decide (c = 34)).tail) else none)
  else some (l.takeWhile fun c => !mkQ c, l.dropWhile fun c => !mkQ c)
def paramQ (l : List Int) : Option ((List Int × List Int) × List Int) :=
  if signB 61 (l.dropWhile fun c => !dl3 c) = true then (valueQ (l.dropWhile fun c => !dl3 c).tail).map fun x => (((l.takeWhile fun c => !dl3 c).map largeZ, x.1), x.2) else none
def parsQ : Nat → List (List Int × List Int) → List Int → Option (List (List Int × List Int) × List Int)
  | 0, _, _ => none
  | m + 1, acc, l =>
    if signB 59 l = true then
      match paramQ l.tail with
      | none => none
      | some (p, r) => parsQ m (acc ++ [p]) r
    else some (acc, l)
def oneQ (l : List Int) : Option Ln := oneF ((l.takeWhile fun c => !dl2 c).map largeZ) (parsQ (l.length + 1) [] (l.dropWhile fun c => !dl2 c))
theorem tw_nm {d : Int → Bool} (hd : ∀ c, nmC c = true → d c = false) : ∀ l : List Int, (l.takeWhile fun c => !d c).all nmC = true → (∀ c, d c = true → nmC c = false) → l.takeWhile nmC = (l.takeWhile fun c => !d c) ∧ l.dropWhile nmC = l.dropWhile fun c => !d c
  | [], _, _ => by simp
  | c :: l, h, h2 => by
    by_cases hc : d c = true
    · have := h2 c hc
      simp [hc, this]
    · have hc' : d c = false := by simpa using hc
      simp only [List.takeWhile_cons, hc', Bool.not_false, if_true, List.all_cons, Bool.and_eq_true] at h
      obtain ⟨i1, i2⟩ := tw_nm hd l h.2 h2
      simp [hc', h.1, i1, i2]
theorem dw_bad {d : Int → Bool} : ∀ l : List Int, (l.takeWhile fun c => !d c).all nmC = false → ∃ c r, l.dropWhile nmC = c :: r ∧ nmC c = false ∧ d c = false
  | [], h => by simp at h
  | c :: l, h => by
    by_cases hc : d c = true
    · simp [hc] at h
    · have hc' : d c = false := by simpa using hc
      simp only [List.takeWhile_cons, hc', Bool.not_false, if_true, List.all_cons] at h
      by_cases hn : nmC c = true
      · rw [hn, Bool.true_and] at h
        obtain ⟨x, r, h1, h2⟩ := dw_bad l h
        exact ⟨x, r, by simp [hn, h1], h2⟩
      · exact ⟨c, l, by simp [hn], by simpa using hn, hc'⟩
theorem bad_up {l : List Int} (h : l.all nmC = false) : (l.map largeZ).all upC = false := by
  induction l with
  | nil => simp at h
  | cons c l ih =>
    simp only [List.all_cons, List.map_cons] at h ⊢
    cases hn : nmC c with
    | true => rw [hn, Bool.true_and] at h; rw [ih h, Bool.and_false]
    | false =>
      have : upC (largeZ c) = false := by
        unfold nmC at hn
        simp at hn
        unfold upC largeZ
        split <;> simp <;> omega
      rw [this, Bool.false_and]
theorem nm_dl2 (c : Int) (h : nmC c = true) : dl2 c = false := by
  unfold nmC at h; unfold dl2; simp at h ⊢; omega
theorem nm_dl3 (c : Int) (h : nmC c = true) : dl3 c = false := by
  unfold nmC at h; unfold dl3; simp at h ⊢; omega
theorem dl2_nm (c : Int) (h : dl2 c = true) : nmC c = false := by
  cases hn : nmC c with
  | false => rfl
  | true => rw [nm_dl2 c hn] at h; cases h
theorem dl3_nm (c : Int) (h : dl3 c = true) : nmC c = false := by
  cases hn : nmC c with
  | false => rfl
  | true => rw [nm_dl3 c hn] at h; cases h
theorem dw_nil {p : Int → Bool} : ∀ l : List Int, (∀ x ∈ l, p x = true) → l.dropWhile p = []
  | [], _ => rfl
  | c :: l, h => by
    rw [List.dropWhile_cons, if_pos (h c (by simp))]
    exact dw_nil l (fun x hx => h x (by simp [hx]))
theorem value_rq {l : List Int} {y : List Int × List Int} (h : valueR l = some y) : valueQ l = some y := by
  unfold valueR at h
  unfold valueQ
  split
  · rename_i hs; rw [if_pos hs] at h; exact h
  · rename_i hs; rw [if_neg hs] at h
    split at h
    · exact h
    · cases h
theorem value_qr {l : List Int} {y : List Int × List Int} (h : valueQ l = some y) (hn : valueR l = none) : y.2 = [] := by
  unfold valueR at hn
  unfold valueQ at h
  split at h
  · rename_i hs; rw [if_pos hs] at hn; rw [hn] at h; cases h
  · rename_i hs; rw [if_neg hs] at hn
    split at hn
    · cases hn
    · rename_i ha
      cases h
      show l.dropWhile (fun c => !mkQ c) = []
      have : ∀ x ∈ l, (fun c => !mkQ c) x = true := by
        intro x hx
        cases hm : mkQ x with
        | false => simp [hm]
        | true => exact absurd (List.any_eq_true.2 ⟨x, hx, hm⟩) ha
      exact dw_nil l this
theorem param_name {l : List Int} : signB 61 (l.dropWhile nmC) = true → (l.takeWhile fun c => !dl3 c).all nmC = true := by
  intro h
  cases ha : (l.takeWhile fun c => !dl3 c).all nmC with
  | true => rfl
  | false =>
    obtain ⟨c, r, h1, h2, h3⟩ := dw_bad l ha
    rw [h1] at h
    simp [signB] at h
    subst h
    simp [dl3] at h3
theorem param_rq {l : List Int} {y} (h : paramR l = some y) : paramQ l = some y := by
  unfold paramR at h
  split at h
  · rename_i hs
    obtain ⟨e1, e2⟩ := tw_nm nm_dl3 l (param_name hs) dl3_nm
    rw [Option.map_eq_some_iff] at h
    obtain ⟨x, hx, rfl⟩ := h
    have e3 : signR 61 (l.dropWhile nmC) = (l.dropWhile nmC).tail := by unfold signR; rw [if_pos hs]
    unfold paramQ
    rw [← e2, ← e1, if_pos hs, ← e3, value_rq hx]
    rfl
  · cases h
theorem param_qr {l : List Int} {p : List Int × List Int} {r : List Int} (h : paramQ l = some (p, r)) (hn : paramR l = none) : p.1.all upC = false ∨ r = [] := by
  unfold paramQ at h
  split at h
  · rename_i hs
    rw [Option.map_eq_some_iff] at h
    obtain ⟨x, hx, h⟩ := h
    simp only [Prod.mk.injEq] at h
    obtain ⟨rfl, rfl⟩ := h
    cases ha : (l.takeWhile fun c => !dl3 c).all nmC with
    | false => exact .inl (bad_up ha)
    | true =>
      right
      obtain ⟨e1, e2⟩ := tw_nm nm_dl3 l ha dl3_nm
      unfold paramR at hn
      have e3 : signR 61 (l.dropWhile nmC) = (l.dropWhile nmC).tail := by unfold signR; rw [if_pos (by rw [e2]; exact hs)]
      rw [if_pos (by rw [e2]; exact hs), e3, e2, Option.map_eq_none_iff] at hn
      exact value_qr hx hn
  · cases h
theorem valueQ_len {l v t : List Int} (h : valueQ l = some (v, t)) : v.length + t.length ≤ l.length := by
  cases hv : valueR l with
  | some y => have := value_rq hv; rw [h] at this; cases this; exact value_len hv
  | none =>
    have e := value_qr h hv
    simp only at e
    subst e
    unfold valueQ at h
    split at h
    · rename_i hs
      unfold valueR at hv
      rw [if_pos hs] at hv; rw [hv] at h; cases h
    · simp only [Option.some.injEq, Prod.mk.injEq] at h
      obtain ⟨rfl, _⟩ := h
      have := tw_le (fun c => !mkQ c) l
      simpa using this
theorem paramQ_len {l : List Int} {p : List Int × List Int} {t : List Int} (h : paramQ l = some (p, t)) : p.1.length + p.2.length + t.length ≤ l.length := by
  unfold paramQ at h
  split at h
  · rw [Option.map_eq_some_iff] at h
    obtain ⟨⟨a, b⟩, h1, h2⟩ := h
    simp only [Prod.mk.injEq] at h2
    obtain ⟨rfl, rfl⟩ := h2
    have q1 := valueQ_len h1
    have q3 := congrArg List.length (List.takeWhile_append_dropWhile (p := fun c => !dl3 c) (l := l))
    simp only [List.length_append, List.length_map, List.length_tail] at q1 q3 ⊢
    omega
  · cases h
theorem parsQ_pre : ∀ (m : Nat) (acc : List (List Int × List Int)) (l : List Int) (ps : List (List Int × List Int)) (r : List Int), parsQ m acc l = some (ps, r) → ∃ t, ps = acc ++ t
  | 0, acc, l, ps, r, h => by simp [parsQ] at h
  | m + 1, acc, l, ps, r, h => by
    rw [parsQ] at h
    split at h
    · split at h
      · cases h
      · rename_i p x _
        obtain ⟨t, rfl⟩ := parsQ_pre m _ _ _ _ h
        exact ⟨p :: t, by simp⟩
    · simp only [Option.some.injEq, Prod.mk.injEq] at h
      obtain ⟨rfl, rfl⟩ := h
      exact ⟨[], by simp⟩
theorem right_false {nm v : List Int} {ps acc : List (List Int × List Int)} (h : (∃ p ∈ acc, p.1.all upC = false) ∨ 16 < acc.length) (t : List (List Int × List Int)) (e : ps = acc ++ t) : rightZ ⟨nm, ps, v⟩ = false := by
  subst e
  cases hr : rightZ ⟨nm, acc ++ t, v⟩ with
  | false => rfl
  | true =>
    exfalso
    unfold rightZ at hr
    simp only [Bool.and_eq_true, decide_eq_true_eq] at hr
    obtain ⟨⟨_, h16⟩, h4⟩ := hr
    rcases h with ⟨p, hp, h⟩ | h
    · have := right_pars _ _ h4 p (by simp [hp])
      unfold parZ nameZ at this
      simp only [Bool.and_eq_true] at this
      rw [this.1.1.2] at h
      cases h
    · rw [List.length_append] at h16; omega
theorem oneF_false {nm l : List Int} {m : Nat} {acc : List (List Int × List Int)} (h : (∃ p ∈ acc, p.1.all upC = false) ∨ 16 < acc.length) : oneF nm (parsQ m acc l) = none := by
  cases hq : parsQ m acc l with
  | none => rfl
  | some y =>
    obtain ⟨ps, r⟩ := y
    obtain ⟨t, e⟩ := parsQ_pre _ _ _ _ _ hq
    unfold oneF
    simp only [right_false h t e, Bool.false_eq_true, if_false, ite_self]
theorem pars_eq : ∀ (m : Nat) (acc : List (List Int × List Int)) (l nm : List Int) (k : Nat), l.length < m → acc.length + k = 17 → 0 < k → oneF nm (parsQ m acc l) = oneF nm (parsR k acc l)
  | 0, acc, l, nm, k, h, _, _ => by omega
  | m + 1, acc, l, nm, k, h, hk, h0 => by
    obtain ⟨k, rfl⟩ : ∃ j, k = j + 1 := ⟨k - 1, by omega⟩
    rw [parsQ, parsR]
    by_cases hs : signB 59 l = true
    · rw [if_pos hs, if_pos hs]
      have hl := congrArg List.length (sign_cons hs)
      rw [List.length_cons] at hl
      cases hR : paramR l.tail with
      | some y =>
        obtain ⟨p, r⟩ := y
        rw [param_rq hR]
        have hlen := paramQ_len (param_rq hR)
        simp only
        by_cases h16 : acc.length = 16
        · rw [if_pos h16, oneF_false (.inr (by simp; omega))]
          rfl
        · rw [if_neg h16]
          exact pars_eq m (acc ++ [p]) r nm k (by omega) (by simp; omega) (by omega)
      | none =>
        cases hQ : paramQ l.tail with
        | none => rfl
        | some y =>
          obtain ⟨p, r⟩ := y
          show oneF nm (parsQ m (acc ++ [p]) r) = none
          rcases param_qr hQ hR with hb | rfl
          · exact oneF_false (.inl ⟨p, by simp, hb⟩)
          · cases m with
            | zero => rfl
            | succ m => simp [parsQ, signB, oneF]
    · rw [if_neg hs, if_neg hs]
theorem one_eq (l : List Int) : oneQ l = oneR l := by
  rw [one_f]
  unfold oneQ
  have hlen : (l.dropWhile fun c => !dl2 c).length < l.length + 1 := by
    have q3 := congrArg List.length (List.takeWhile_append_dropWhile (p := fun c => !dl2 c) (l := l))
    rw [List.length_append] at q3
    omega
  cases ha : (l.takeWhile fun c => !dl2 c).all nmC with
  | true =>
    obtain ⟨e1, e2⟩ := tw_nm nm_dl2 l ha dl2_nm
    rw [e1, e2]
    exact pars_eq _ _ _ _ 17 hlen (by simp) (by omega)
  | false =>
    obtain ⟨c, r, h1, h2, h3⟩ := dw_bad l ha
    have e : oneF ((l.takeWhile nmC).map largeZ) (parsR 17 [] (l.dropWhile nmC)) = none := by
      rw [h1]
      have hc : c ≠ 59 ∧ c ≠ 58 := by unfold dl2 at h3; simp at h3; exact h3
      simp [parsR, signB, oneF, hc.1, hc.2]
    rw [e]
    cases hq : parsQ (l.length + 1) [] (l.dropWhile fun c => !dl2 c) with
    | none => rfl
    | some y =>
      obtain ⟨ps, x⟩ := y
      unfold oneF
      have : rightZ ⟨(l.takeWhile fun c => !dl2 c).map largeZ, ps, x.tail⟩ = false := by
        unfold rightZ nameZ
        rw [bad_up ha]
        simp
      simp only [this, Bool.false_eq_true, if_false, ite_self]
end Go.Proofs.YtjcjhcpaojhcfaaDoor
