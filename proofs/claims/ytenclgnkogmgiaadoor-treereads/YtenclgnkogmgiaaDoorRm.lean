/-
  What is read is right, and is written in no more bytes than it had.
-/
import Derived.Test.YtenclgnkogmgiaaDoorSz
namespace Go.Proofs.YtenclgnkogmgiaaDoor
open Go.RowKit
set_option linter.unusedVariables false

theorem one_right {l : List Int} {ln : Ln} (h : oneR l = some ln) : rightZ ln = true := by
  unfold oneR at h
  split at h
  · cases h
  · split at h
    · split at h
      · rename_i hr
        cases h
        exact hr
      · cases h
    · cases h
theorem sign_cons {c : Int} {l : List Int} (h : signB c l = true) : l = c :: l.tail := by
  cases l with
  | nil => simp [signB] at h
  | cons d r => simp [signB] at h; subst h; rfl
theorem tw_none {p : Int → Bool} : ∀ l : List Int, (l.takeWhile p).all p = true
  | [] => rfl
  | c :: l => by
    rw [List.takeWhile_cons]
    split
    · rename_i h; simp only [List.all_cons, h, tw_none l, Bool.and_self]
    · rfl
def valW (v : List Int) : List Int := if v.any mk3 = true then 34 :: (v ++ [34]) else v
theorem value_wlen {l v t : List Int} (h : valueR l = some (v, t)) : (valW v).length + t.length ≤ l.length := by
  unfold valueR at h
  split at h
  · rename_i hs
    split at h
    · rename_i hc
      simp only [Option.some.injEq, Prod.mk.injEq] at h
      obtain ⟨rfl, rfl⟩ := h
      have h1 := congrArg List.length (List.takeWhile_append_dropWhile (p := fun c => !decide (c = 34)) (l := l.tail))
      have h2 : 1 ≤ (l.tail.dropWhile (fun c => !decide (c = 34))).length := by
        rw [List.contains_iff_mem] at hc
        obtain ⟨a, b, hab⟩ := List.append_of_mem hc
        cases hd : l.tail.dropWhile (fun c => !decide (c = 34)) with
        | nil =>
          exfalso
          have h3 := List.takeWhile_append_dropWhile (p := fun c => !decide (c = 34)) (l := l.tail)
          rw [hd, List.append_nil] at h3
          have h4 := tw_none (p := fun c => !decide (c = 34)) l.tail
          rw [h3] at h4
          have := List.all_eq_true.1 h4 34 hc
          simp at this
        | cons d r => simp
      have h5 := congrArg List.length (sign_cons hs)
      simp only [List.length_append, List.length_tail, List.length_cons] at h1 h2 h5 ⊢
      unfold valW
      split <;> first | omega | (simp only [List.length_cons, List.length_append, List.length_nil]; omega)
    · cases h
  · split at h
    · simp only [Option.some.injEq, Prod.mk.injEq] at h
      obtain ⟨rfl, rfl⟩ := h
      have h1 := congrArg List.length (List.takeWhile_append_dropWhile (p := fun c => !mkQ c) (l := l))
      have hn : ¬ ((l.takeWhile fun c => !mkQ c).any mk3 = true) := by
        intro ha
        obtain ⟨x, hx, hm⟩ := List.any_eq_true.1 ha
        have := List.all_eq_true.1 (tw_none (p := fun c => !mkQ c) l) x hx
        unfold mk3 at hm
        unfold mkQ at this
        simp at hm this
        omega
      unfold valW
      rw [if_neg hn]
      simp only [List.length_append] at h1
      omega
    · cases h
theorem param_wlen {l t : List Int} {p : List Int × List Int} (h : paramR l = some (p, t)) : (parW p).length + t.length ≤ l.length + 1 := by
  unfold paramR at h
  split at h
  · rename_i hs
    rw [Option.map_eq_some_iff] at h
    obtain ⟨⟨a, b⟩, h1, h2⟩ := h
    simp only [Prod.mk.injEq] at h2
    obtain ⟨rfl, rfl⟩ := h2
    have q1 := value_wlen h1
    have q2 := congrArg List.length (sign_cons hs)
    have q4 : signR 61 (l.dropWhile nmC) = (l.dropWhile nmC).tail := by unfold signR; rw [if_pos hs]
    rw [q4] at q1
    have q3 := congrArg List.length (List.takeWhile_append_dropWhile (p := nmC) (l := l))
    have q5 : (parW ((l.takeWhile nmC).map largeZ, a)).length = 2 + (l.takeWhile nmC).length + (valW a).length := by
      unfold parW valW
      simp only [List.length_cons, List.length_append, List.length_map]
      omega
    rw [q5]
    simp only [List.length_append, List.length_cons, List.length_tail] at q1 q2 q3 ⊢
    omega
  · cases h
theorem pars_wlen : ∀ (n : Nat) (acc : List (List Int × List Int)) (l : List Int) (ps : List (List Int × List Int)) (r : List Int), parsR n acc l = some (ps, r) → (ps.flatMap parW).length + r.length ≤ (acc.flatMap parW).length + l.length
  | 0, acc, l, ps, r, h => by simp [parsR] at h
  | n + 1, acc, l, ps, r, h => by
    rw [parsR] at h
    split at h
    · rename_i hs
      have q2 := congrArg List.length (sign_cons hs)
      split at h
      · cases h
      · rename_i p t hp
        split at h
        · cases h
        · have ih := pars_wlen n _ _ _ _ h
          have q1 := param_wlen hp
          rw [List.flatMap_append, List.length_append] at ih
          simp only [List.flatMap_cons, List.flatMap_nil, List.append_nil, List.length_cons] at ih q1 q2
          omega
    · simp only [Option.some.injEq, Prod.mk.injEq] at h
      obtain ⟨rfl, rfl⟩ := h
      omega
theorem one_wlen {l : List Int} {ln : Ln} (h : oneR l = some ln) : (writtenZ ln).length ≤ l.length := by
  unfold oneR at h
  split at h
  · cases h
  · rename_i ps r hp
    split at h
    · rename_i hs
      split at h
      · cases h
        have q1 := pars_wlen _ _ _ _ _ hp
        have q2 := congrArg List.length (sign_cons hs)
        have q3 := congrArg List.length (List.takeWhile_append_dropWhile (p := nmC) (l := l))
        unfold writtenZ
        simp only [List.length_append, List.length_cons, List.length_map, List.flatMap_nil, List.length_nil] at q1 q2 q3 ⊢
        omega
      · cases h
    · cases h
theorem good_wlen {q : List Int} {ln : Ln} (h : goodP q = some ln) : rightZ ln = true ∧ (writtenZ ln).length + 2 ≤ q.length := by
  unfold goodP at h
  split at h
  · rename_i he
    have h1 := one_wlen h
    have h2 : 2 ≤ q.length := by unfold endsZ at he; rw [decide_eq_true_eq] at he; omega
    rw [List.length_take] at h1
    exact ⟨one_right h, by omega⟩
  · cases h
theorem read_sum : ∀ (ls : List Lm) (S : List (List Int)), (∀ (i : Nat) (m : Lm), ls[i]? = some m → ∃ q, S[i]? = some q ∧ goodP q = some m.ln) → ls.all okM = true ∧ (outM ls).length ≤ 4 * S.flatten.length ∧ 2 * ls.length ≤ S.flatten.length
  | [], S, _ => ⟨rfl, by simp [outM, endW], by simp⟩
  | m :: ls, S, h => by
    obtain ⟨q, hq, hg⟩ := h 0 m rfl
    cases S with
    | nil => simp at hq
    | cons s S =>
      simp only [List.getElem?_cons_zero, Option.some.injEq] at hq
      subst hq
      obtain ⟨i1, i2, i3⟩ := read_sum ls S (fun i m' hm => h (i + 1) m' hm)
      obtain ⟨g1, g2⟩ := good_wlen hg
      have e : outM (m :: ls) = endW (linesM m) ++ outM ls := by simp [outM, endW]
      have h3 := fold_sum (writtenZ m.ln).length [] (writtenZ m.ln)
      refine ⟨by simp only [List.all_cons, i1, Bool.and_true]; exact g1, ?_, ?_⟩
      · rw [e, List.length_append, List.flatten_cons, List.length_append]
        unfold linesM foldL
        simp only [List.length_nil] at h3
        omega
      · rw [List.length_cons, List.flatten_cons, List.length_append]
        omega
theorem unf_len (l : List Int) : (unfoldZ l).length ≤ l.length := unfK_len 0 l
theorem read_right {l : List Int} {ls : List Lm} (h : ROk l ls) : ls.all okM = true ∧ (outM ls).length ≤ 4 * l.length ∧ 2 * ls.length ≤ l.length := by
  obtain ⟨_, _, _, _, h⟩ := h
  obtain ⟨h1, h2, h3⟩ := read_sum ls _ h
  rw [split_flat] at h2 h3
  have := unf_len l
  exact ⟨h1, by omega, by omega⟩
theorem flat_take {α : Type} : ∀ (S : List (List α)) (k : Nat), (S.take k).flatten.length ≤ S.flatten.length
  | [], k => by simp
  | s :: S, 0 => by simp
  | s :: S, k + 1 => by
    have := flat_take S k
    simp only [List.take_succ_cons, List.flatten_cons, List.length_append]
    omega
theorem read_wrong {l : List Int} {p : Nat} {code : Int} (h : RF l p code) : p ≤ l.length ∧ code ≠ 0 := by
  have hu := unf_len l
  rcases h with ⟨_, rfl, rfl⟩ | ⟨_, ps, r, _, _, e, _, _, rfl, rfl⟩ | ⟨_, _, k, q, _, _, _, _, rfl, h⟩
  · exact ⟨by omega, by decide⟩
  · have := congrArg List.length e
    rw [List.length_append] at this
    exact ⟨by omega, by decide⟩
  · have := flat_take (splitP (unfoldZ l).length (unfoldZ l)) k
    rw [split_flat] at this
    refine ⟨by omega, ?_⟩
    rcases h with ⟨_, rfl⟩ | ⟨_, _, rfl⟩ <;> decide
theorem ok_fit {m : Lm} (h : okM m = true) : Fitm m := by
  unfold okM rightZ nameZ at h
  simp only [Bool.and_eq_true, decide_eq_true_eq] at h
  obtain ⟨⟨⟨⟨⟨_, h1⟩, _⟩, h2, _⟩, h3⟩, h4⟩ := h
  have hp := right_pars _ _ h4
  refine ⟨?_, ?_, ?_, fun f hf => ?_⟩
  · have : (nums m.nm).length = m.nm.size := nums_len _
    have e : m.ln.name = nums m.nm := rfl
    rw [e] at h1; omega
  · have : (nums m.vl).length = m.vl.size := nums_len _
    have e : m.ln.value = nums m.vl := rfl
    rw [e] at h2; omega
  · have e : m.ln.pars.length = m.fs.length := by show (numsP m.fs).length = _; simp [numsP]
    omega
  · have hm : (nums f.1, nums f.2) ∈ m.ln.pars := by show _ ∈ numsP m.fs; unfold numsP; exact List.mem_map_of_mem (f := fun p : ByteArray × ByteArray => (nums p.1, nums p.2)) hf
    have := hp _ hm
    unfold parZ nameZ at this
    simp only [Bool.and_eq_true, decide_eq_true_eq] at this
    obtain ⟨⟨⟨⟨_, g1⟩, _⟩, g2, _⟩, _⟩ := this
    rw [nums_len] at g1 g2
    omega
end Go.Proofs.YtenclgnkogmgiaaDoor
