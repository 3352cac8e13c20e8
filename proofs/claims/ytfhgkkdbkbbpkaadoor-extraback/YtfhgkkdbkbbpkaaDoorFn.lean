/-
  What Split made, Join joins as it was: the maths, the rows of a base and the way through them.
-/
import Derived.Test.YtfhgkkdbkbbpkaaDoorFm
namespace Go.Proofs.YtfhgkkdbkbbpkaaDoor
open Go.RowKit
set_option linter.unusedVariables false
set_option linter.unusedSimpArgs false

theorem look_skip {b : List Int} {n : Int} : ∀ {A : List Pc} (E : List Pc), (∀ p ∈ A, p.1 ≠ b) → lookZ (A ++ E) b n = lookZ E b n
  | [], _, _ => rfl
  | p :: r, E, h => by
    simp only [List.cons_append, lookZ]
    rw [if_neg (fun q => h p (by simp) q.1)]
    exact look_skip E (fun q hq => h q (by simp [hq]))
theorem look_tail {b : List Int} {n : Int} {B : List Pc} (hB : ∀ p ∈ B, p.1 ≠ b) : ∀ (E : List Pc), lookZ (E ++ B) b n = lookZ E b n
  | [] => look_none (fun p hp q => absurd q (hB p hp))
  | p :: r => by
    simp only [List.cons_append, lookZ]
    rw [look_tail hB r]
theorem cnt_none {b : List Int} {A : List Pc} (h : ∀ p ∈ A, p.1 ≠ b) : cntZ A b = 0 := by
  unfold cntZ
  rw [List.length_eq_zero_iff, List.filter_eq_nil_iff]
  intro p hp
  simpa using h p hp
theorem cnt_app (A B : List Pc) (b : List Int) : cntZ (A ++ B) b = cntZ A b + cntZ B b := by unfold cntZ; rw [List.filter_append, List.length_append]
theorem cnt_all {b : List Int} {A : List Pc} (h : ∀ p ∈ A, p.1 = b) : cntZ A b = A.length := by
  unfold cntZ
  rw [List.filter_eq_self.2 (fun p hp => by simpa using h p hp)]
theorem ents_base {T : List Tr} (hs : ∀ t ∈ T, Sh t) : ∀ p ∈ T.flatMap (fun t => entZ t.2.2), ∃ t ∈ T, p.1 = t.1 := by
  intro p hp
  obtain ⟨t, ht, h⟩ := List.mem_flatMap.1 hp
  exact ⟨t, ht, ent_base (hs t ht) p h⟩
theorem look_T : ∀ {T : List Tr}, (∀ t ∈ T, Sh t) → (T.map (·.1)).Nodup → ∀ t ∈ T, (∀ n, lookZ (T.flatMap fun t => entZ t.2.2) t.1 n = lookZ (entZ t.2.2) t.1 n) ∧ cntZ (T.flatMap fun t => entZ t.2.2) t.1 = (entZ t.2.2).length
  | [], _, _, t, h => by cases h
  | s :: r, hs, hn, t, ht => by
    simp only [List.map_cons, List.nodup_cons] at hn
    have hrest : ∀ x ∈ r.flatMap (fun t => entZ t.2.2), ∃ q ∈ r, x.1 = q.1 := ents_base (fun q hq => hs q (by simp [hq]))
    rw [List.flatMap_cons]
    rcases List.mem_cons.1 ht with rfl | ht
    · have hB : ∀ p ∈ r.flatMap (fun t => entZ t.2.2), p.1 ≠ t.1 := fun p hp e => by
        obtain ⟨q, hq, h⟩ := hrest p hp
        exact hn.1 (List.mem_map.2 ⟨q, hq, by rw [← h, e]⟩)
      refine ⟨fun n => look_tail hB _, ?_⟩
      rw [cnt_app, cnt_none hB, cnt_all (ent_base (hs t (by simp)))]; omega
    · have hA : ∀ p ∈ entZ s.2.2, p.1 ≠ t.1 := fun p hp e => hn.1 (List.mem_map.2 ⟨t, ht, by rw [← e]; exact ent_base (hs s (by simp)) p hp⟩)
      obtain ⟨h1, h2⟩ := look_T (fun q hq => hs q (by simp [hq])) hn.2 t ht
      refine ⟨fun n => by rw [look_skip _ hA]; exact h1 n, ?_⟩
      rw [cnt_app, cnt_none hA, h2]; omega
theorem rowF_congr {L E : List Pc} {b : List Int} (h : ∀ n, lookZ L b n = lookZ E b n) : ∀ (f n : Nat), rowF L b f n = rowF E b f n
  | 0, _ => rfl
  | f + 1, n => by simp only [rowF]; rw [h]; cases lookZ E b (n : Int) with
    | none => rfl
    | some p => simp only; rw [rowF_congr h f (n + 1)]
theorem row_congr {L E : List Pc} {b : List Int} (h : ∀ n, lookZ L b n = lookZ E b n) : rowZ L b = rowZ E b := by
  unfold rowZ
  rw [h]
  cases lookZ E b (-1) with
  | none => exact rowF_congr h 100 0
  | some p => rfl
theorem look_pcM (nm : List Int) (suf : List (List Int)) : ∀ (pre : List (List Int)) (i : Nat), lookZ (pcM nm i (pre ++ suf)) nm ((i + pre.length : Nat) : Int) = match suf with
    | [] => none
    | c :: _ => some (hdZ (i + pre.length) ++ codeL (Cs.Ut.flat c), true)
  | [], i => by
    cases suf with
    | nil => rfl
    | cons c r => simp [pcM, lookZ]
  | d :: pre, i => by
    simp only [List.cons_append, pcM, lookZ, List.length_cons]
    rw [if_neg (fun q => by have := q.2; omega)]
    have := look_pcM nm suf pre (i + 1)
    rw [show i + 1 + pre.length = i + (pre.length + 1) by omega] at this
    exact this
theorem rowF_pcM (nm : List Int) : ∀ (suf pre : List (List Int)) (f : Nat), suf.length ≤ f → rowF (pcM nm 0 (pre ++ suf)) nm f pre.length = rowM pre.length suf
  | [], pre, f, _ => by
    cases f with
    | zero => rfl
    | succ f =>
      have := look_pcM nm [] pre 0
      rw [Nat.zero_add] at this
      simp only [rowF]
      rw [this]; rfl
  | c :: r, pre, f, h => by
    cases f with
    | zero => simp at h
    | succ f =>
      have := look_pcM nm (c :: r) pre 0
      rw [Nat.zero_add] at this
      simp only [rowF]
      rw [this]
      simp only [rowM]
      have e : pre ++ c :: r = (pre ++ [c]) ++ r := by simp
      have ih := rowF_pcM nm r (pre ++ [c]) f (by simp at h; omega)
      rw [← e, List.length_append, List.length_singleton] at ih
      rw [ih]
theorem row_pieces (nm : List Int) {cs : List (List Int)} (h : cs.length ≤ 100) : rowZ (pcM nm 0 cs) nm = rowM 0 cs := by
  unfold rowZ
  rw [look_none (fun p hp _ => by have := (pcM_base nm cs 0 p hp).2; omega)]
  exact rowF_pcM nm cs [] 100 h
theorem rest_rows : ∀ (cs : List (List Int)) (i : Nat), i ≠ 0 → (∀ c ∈ cs, Cs.Ut.AllPt c) → restZ true (rowM i cs) = some (Cs.Ut.flat cs.flatten)
  | [], _, _, _ => rfl
  | c :: r, i, hi, h => by
    have hc := code_back (Cs.Ut.flat_byt (h c (by simp)))
    have ih := rest_rows r (i + 1) (by omega) (fun d hd => h d (by simp [hd]))
    simp only [rowM, restZ, oneZ, hdZ, if_neg hi, List.nil_append, if_true, Bool.false_eq_true, if_false]
    rw [hc, ih]
    simp [Cs.Ut.flat_append]
theorem strip_utf (v : List Int) : stripZ (utfP ++ v) = some v := by
  unfold stripZ
  rw [if_pos (by simp [utfP])]
  simp [utfP]
theorem all_rows {cs : List (List Int)} (hne : cs ≠ []) (h : ∀ c ∈ cs, Cs.Ut.AllPt c) : allZ (rowM 0 cs) = some (Cs.Ut.flat cs.flatten) := by
  cases cs with
  | nil => exact absurd rfl hne
  | cons c r =>
    have hc := code_back (Cs.Ut.flat_byt (h c (by simp)))
    have ih := rest_rows r 1 (by omega) (fun d hd => h d (by simp [hd]))
    simp only [rowM, allZ, oneZ, hdZ, if_true]
    rw [strip_utf]
    simp only [Option.bind_some]
    rw [hc, ih]
    simp [Cs.Ut.flat_append]
theorem all_one {ps : List Int} (h : Cs.Ut.AllPt ps) : allZ [(utfP ++ codeL (Cs.Ut.flat ps), true)] = some (Cs.Ut.flat ps) := by
  have hc := code_back (Cs.Ut.flat_byt h)
  simp only [allZ, oneZ, if_true, restZ]
  rw [strip_utf]
  simp only [Option.bind_some]
  rw [hc]
  simp
theorem chunksF_join : ∀ (n : Nat) (ps : List Int), ps.length ≤ n → (chunksF n ps).flatten = ps
  | 0, [], _ => rfl
  | _ + 1, [], _ => rfl
  | 0, p :: ps, h => by simp at h
  | n + 1, p :: ps, h => by
    have hp := fit_pos p ps
    simp only [chunksF, List.flatten_cons]
    rw [chunksF_join n _ (by rw [List.length_drop]; simp only [List.length_cons] at h ⊢; omega), List.take_append_drop]
theorem chunks_join (ps : List Int) : (chunksZ ps).flatten = ps := chunksF_join _ _ (Nat.le_refl _)
theorem chunks_pts {ps : List Int} (h : Cs.Ut.AllPt ps) : ∀ c ∈ chunksZ ps, Cs.Ut.AllPt c := fun c hc x hx => h x (by
  rw [← chunks_join ps]
  exact List.mem_flatten.2 ⟨c, hc, hx⟩)
end Go.Proofs.YtfhgkkdbkbbpkaaDoor
