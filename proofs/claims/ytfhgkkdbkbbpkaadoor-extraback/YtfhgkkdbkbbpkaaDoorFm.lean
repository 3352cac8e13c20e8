/-
  What Split made, Join joins as it was: the maths.
-/
import Derived.Test.YtfhgkkdbkbbpkaaDoorFh
namespace Go.Proofs.YtfhgkkdbkbbpkaaDoor
open Go.RowKit
set_option linter.unusedVariables false
set_option linter.unusedSimpArgs false

theorem last_one {r : List Int} (h : 42 ∉ r) : ∀ l : List Int, lastZ 42 (l ++ 42 :: r) = l.length
  | [] => by simp only [List.nil_append, lastZ]; rw [last_none h]; simp
  | x :: l => by
    simp only [List.cons_append, lastZ]
    rw [last_one h l, if_pos (by omega)]
    simp
theorem itoa_no {i : Nat} (h : i < 100) : 42 ∉ itoaZ i := by
  intro q
  unfold itoaZ at q
  split at q <;> simp at q <;> omega
theorem itoa_num {i : Nat} (h : i < 100) : numZ (itoaZ i) = i := by
  unfold itoaZ
  split
  · simp only [numZ]
    rw [if_pos (by unfold digB; simp; omega)]; omega
  · simp only [numZ]
    rw [if_pos ⟨by omega, by unfold digB; simp; omega, by unfold digB; simp; omega⟩]; omega
theorem piece_one {nm : List Int} (h : 42 ∉ nm) : pieceZ (nm ++ [42]) = (nm, -1, true, true) := by
  unfold pieceZ
  simp only [List.getLast?_append, List.getLast?_singleton, Option.some_or, if_true, decide_true, List.dropLast_concat]
  rw [last_none h, if_neg (by omega)]
theorem piece_at {nm : List Int} (h : 42 ∉ nm) {i : Nat} (hi : i < 100) : pieceZ (nm ++ 42 :: (itoaZ i ++ [42])) = (nm, (i : Int), true, true) := by
  have e : nm ++ 42 :: (itoaZ i ++ [42]) = (nm ++ 42 :: itoaZ i) ++ [42] := by simp
  rw [e]
  unfold pieceZ
  simp only [List.getLast?_append, List.getLast?_singleton, Option.some_or, if_true, decide_true, List.dropLast_concat]
  have hd : (nm ++ 42 :: itoaZ i).drop (nm.length + 1) = itoaZ i := by
    rw [List.drop_append]; simp
  have ht : (nm ++ 42 :: itoaZ i).take nm.length = nm := by simp
  rw [last_one (itoa_no hi) nm]
  simp only [Int.toNat_natCast, hd, ht, itoa_num hi]
  rw [if_pos ⟨by omega, by omega⟩]
def pcM (nm : List Int) : Nat → List (List Int) → List Pc
  | _, [] => []
  | i, c :: r => (nm, (i : Int), hdZ i ++ codeL (Cs.Ut.flat c), true) :: pcM nm (i + 1) r
def rowM : Nat → List (List Int) → List (List Int × Bool)
  | _, [] => []
  | i, c :: r => (hdZ i ++ codeL (Cs.Ut.flat c), true) :: rowM (i + 1) r
theorem pcM_len (nm : List Int) : ∀ (cs : List (List Int)) (i : Nat), (pcM nm i cs).length = cs.length
  | [], _ => rfl
  | c :: r, i => by simp [pcM, pcM_len nm r (i + 1)]
theorem rowM_len : ∀ (cs : List (List Int)) (i : Nat), (rowM i cs).length = cs.length
  | [], _ => rfl
  | c :: r, i => by simp [rowM, rowM_len r (i + 1)]
theorem pcM_base (nm : List Int) : ∀ (cs : List (List Int)) (i : Nat), ∀ p ∈ pcM nm i cs, p.1 = nm ∧ (i : Int) ≤ p.2.1
  | [], _, p, h => by cases h
  | c :: r, i, p, h => by
    simp only [pcM, List.mem_cons] at h
    rcases h with rfl | h
    · exact ⟨rfl, Int.le_refl _⟩
    · have := pcM_base nm r (i + 1) p h
      exact ⟨this.1, by have := this.2; omega⟩
theorem look_none {b : List Int} {n : Int} : ∀ {M : List Pc}, (∀ p ∈ M, p.1 = b → p.2.1 ≠ n) → lookZ M b n = none
  | [], _ => rfl
  | p :: r, h => by
    simp only [lookZ]
    rw [if_neg (fun q => h p (by simp) q.1 q.2)]
    exact look_none (fun q hq => h q (by simp [hq]))
theorem gather_pieces {nm : List Int} (h42 : 42 ∉ nm) (hne : nm ≠ []) (rest : List (List Int × List Int)) : ∀ (cs : List (List Int)) (i : Nat) (M : List Pc), (∀ p ∈ M, p.1 = nm → p.2.1 < (i : Int)) → i + cs.length ≤ 100 →
    gatherZ (piecesL nm i cs ++ rest) M = gatherZ rest (M ++ pcM nm i cs)
  | [], i, M, _, _ => by simp [piecesL, pcM]
  | c :: r, i, M, hM, hl => by
    simp only [List.length_cons] at hl
    simp only [piecesL, List.cons_append, gatherZ, pieceL]
    rw [piece_at h42 (by omega : i < 100)]
    simp only [Bool.true_eq_false, if_false]
    rw [look_none (fun p hp hb => by have := hM p hp hb; omega)]
    simp only [Option.isSome_none, Bool.false_eq_true, false_or, if_neg hne]
    rw [gather_pieces h42 hne rest r (i + 1) _ (fun p hp hb => by
      rcases List.mem_append.1 hp with q | q
      · have := hM p q hb; omega
      · simp at q; subst q; show (i : Int) < _; omega) (by omega)]
    simp [pcM]
abbrev Tr := List Int × List Int × List (List Int × List Int)
def Sh (t : Tr) : Prop := 42 ∉ t.1 ∧ t.1 ≠ [] ∧ Cs.Ut.AllPt t.2.1 ∧ (Cs.Ut.flat t.2.1).length ≤ 2048 ∧
  (t.2.2 = [(t.1, Cs.Ut.flat t.2.1)] ∨ t.2.2 = [(t.1 ++ [42], utfP ++ codeL (Cs.Ut.flat t.2.1))] ∨ (t.2.1 ≠ [] ∧ (chunksZ t.2.1).length ≤ 100 ∧ t.2.2 = piecesL t.1 0 (chunksZ t.2.1)))
/-- The pieces of a parameter. -/
def entZ (g : List (List Int × List Int)) : List Pc := (g.filter fun p => (pieceZ p.1).2.2.2).map fun p => ((pieceZ p.1).1, (pieceZ p.1).2.1, p.2, (pieceZ p.1).2.2.1)
theorem ent_pieces {nm : List Int} (h42 : 42 ∉ nm) : ∀ (cs : List (List Int)) (i : Nat), i + cs.length ≤ 100 → entZ (piecesL nm i cs) = pcM nm i cs
  | [], _, _ => rfl
  | c :: r, i, h => by
    simp only [List.length_cons] at h
    have ih := ent_pieces h42 r (i + 1) (by omega)
    unfold entZ at ih ⊢
    simp only [piecesL, pieceL, pcM]
    rw [List.filter_cons_of_pos (by rw [piece_at h42 (by omega : i < 100)])]
    rw [List.map_cons, ih, piece_at h42 (by omega : i < 100)]
theorem ent_kept {nm v : List Int} (h42 : 42 ∉ nm) : entZ [(nm, v)] = [] := by
  unfold entZ
  rw [List.filter_cons_of_neg (by rw [piece_none h42]; simp)]; rfl
theorem ent_one {nm v : List Int} (h42 : 42 ∉ nm) : entZ [(nm ++ [42], v)] = [(nm, -1, v, true)] := by
  unfold entZ
  rw [List.filter_cons_of_pos (by rw [piece_one h42])]
  rw [List.filter_nil, List.map_cons, piece_one h42]; rfl
theorem ent_base {t : Tr} (h : Sh t) : ∀ p ∈ entZ t.2.2, p.1 = t.1 := by
  obtain ⟨h42, hne, _, _, h | h | ⟨_, hl, h⟩⟩ := h
  · rw [h, ent_kept h42]; intro p hp; cases hp
  · rw [h, ent_one h42]; intro p hp; simp at hp; rw [hp]
  · rw [h, ent_pieces h42 _ _ (by omega)]; intro p hp; exact (pcM_base _ _ _ p hp).1
theorem gather_T : ∀ (T : List Tr) (M : List Pc), (∀ t ∈ T, Sh t) → (T.map (·.1)).Nodup → (∀ t ∈ T, ∀ p ∈ M, p.1 ≠ t.1) →
    gatherZ (T.flatMap fun t => t.2.2) M = some (M ++ T.flatMap fun t => entZ t.2.2)
  | [], M, _, _, _ => by simp [gatherZ]
  | t :: r, M, hs, hn, hm => by
    simp only [List.map_cons, List.nodup_cons] at hn
    have ht := hs t (by simp)
    have key : gatherZ (t.2.2 ++ r.flatMap fun t => t.2.2) M = gatherZ (r.flatMap fun t => t.2.2) (M ++ entZ t.2.2) := by
      obtain ⟨h42, hne, _, _, h | h | ⟨_, hl, h⟩⟩ := ht
      · rw [h, ent_kept h42, List.append_nil]
        simp only [List.cons_append, List.nil_append, gatherZ]
        rw [piece_none h42, if_pos rfl]
      · rw [h, ent_one h42]
        simp only [List.cons_append, List.nil_append, gatherZ]
        rw [piece_one h42]
        simp only [Bool.true_eq_false, if_false]
        rw [look_none (fun p hp hb => absurd hb (hm t (by simp) p hp))]
        simp only [Option.isSome_none, Bool.false_eq_true, false_or, if_neg hne]
      · rw [h, ent_pieces h42 _ _ (by omega)]
        exact gather_pieces h42 hne _ _ 0 M (fun p hp hb => absurd hb (hm t (by simp) p hp)) (by omega)
    rw [List.flatMap_cons, key, gather_T r _ (fun q hq => hs q (by simp [hq])) hn.2 (fun q hq p hp => by
      rcases List.mem_append.1 hp with h | h
      · exact hm q (by simp [hq]) p h
      · rw [ent_base ht p h]
        rintro e
        exact hn.1 (e ▸ List.mem_map.2 ⟨q, hq, rfl⟩))]
    rw [List.flatMap_cons, List.append_assoc]
end Go.Proofs.YtfhgkkdbkbbpkaaDoor
