/-
  Addresses that are written, as the pieces of a list.
-/
import Derived.Test.YtedbgjpjipblcaaDoorJmath
namespace Go.Proofs.YtedbgjpjipblcaaDoor
set_option linter.unusedVariables false

theorem lab_plain {x : Int} (h : labC x = true) : plainC x = true := by
  unfold labC at h; simp only [Bool.or_eq_true, decide_eq_true_eq] at h
  rcases h with h | rfl
  · have := edge_ne h; simp [plainC]; omega
  · rfl
theorem atom_plain {x : Int} (h : atomC x = true) : plainC x = true := by
  have := atom_ne h; simp [plainC]; exact ⟨this.2.2.2.2.2.1, this.2.1⟩
theorem bare_all {n l d : List Int} (h : rightZ n l d = true) : (bareL l d).all plainC = true := by
  obtain ⟨⟨_, hl⟩, ⟨_, hd⟩, _⟩ := right_parts h
  rw [List.all_eq_true]
  intro x hx
  unfold bareL at hx
  rcases List.mem_append.1 hx with q | q
  · rcases atoms_mem hl q with rfl | e
    · rfl
    · exact atom_plain e
  · rcases List.mem_cons.1 q with rfl | q
    · rfl
    · rcases pieces_mem (c := 46) q with rfl | ⟨y, hy, hxy⟩
      · rfl
      · have := List.all_eq_true.1 hd y hy
        unfold labelZ at this
        simp only [Bool.and_eq_true] at this
        exact lab_plain (List.all_eq_true.1 this.1.1.2 x hxy)
theorem piece_write {f n l d : List Int} (hf : f = [] ∨ f = [32]) (h : rightZ n l d = true) : Piece (f ++ writeL n l d) := by
  have hfa : f.all plainC = true := by rcases hf with rfl | rfl <;> rfl
  have hf92 : (92 : Int) ∉ f := by rcases hf with rfl | rfl <;> simp
  have hb := bare_all h
  unfold writeL
  by_cases h0 : n = []
  · rw [if_pos h0]
    exact .inl (by rw [List.all_append, hfa, hb]; rfl)
  · rw [if_neg h0]
    unfold headL
    by_cases hat : atomsZ 32 n = true
    · rw [if_pos hat]
      have hn : n.all plainC = true := by
        rw [List.all_eq_true]
        intro x hx
        rcases atoms_mem hat hx with rfl | e
        · rfl
        · exact atom_plain e
      exact .inl (by simp only [List.all_append, hfa, hb, hn]; rfl)
    · rw [if_neg hat]
      refine .inr ⟨f, n, [32, 60] ++ bareL l d ++ [62], by simp, hfa, hf92, ?_⟩
      simp only [List.all_append, hb]; rfl
theorem read_write2 {f n l d : List Int} (hf : f = [] ∨ f = [32]) (h : rightZ n l d = true) : readR (f ++ writeL n l d) = some (n, l, d) := by
  have hfb : Blk f := by rcases hf with rfl | rfl <;> (intro x hx; simp at hx <;> exact hx)
  obtain ⟨⟨a, m, e1, ha⟩, k, b, e2, hb⟩ := write_ends h
  unfold readR
  have e : f ++ writeL n l d = (f ++ k) ++ [b] := by rw [e2]; simp
  rw [e, rtrim_snoc hb, ← e, ltrim_pad hfb, e1, ltrim_cons ha, ← e1, read_write h]
/-- An address that is written. -/
def wrA (f : Ad) : List Int := writeL (nums f.1) (nums f.2.1) (nums f.2.2)
def okA (f : Ad) : Prop := rightZ (nums f.1) (nums f.2.1) (nums f.2.2) = true
def pcsF : List Ad → List (List Int)
  | [] => []
  | f :: fs => wrA f :: fs.map fun g => 32 :: wrA g
theorem pcs_len : ∀ fs : List Ad, (pcsF fs).length = fs.length
  | [] => rfl
  | f :: fs => by simp [pcsF]
theorem pcs_piece {fs : List Ad} (h : ∀ f ∈ fs, okA f) : ∀ p ∈ pcsF fs, Piece p := by
  cases fs with
  | nil => intro p hp; cases hp
  | cons f fs =>
    intro p hp
    rcases List.mem_cons.1 hp with rfl | hp
    · exact piece_write (f := []) (.inl rfl) (h f (by simp))
    · obtain ⟨g, hg, rfl⟩ := List.mem_map.1 hp
      exact piece_write (f := [32]) (.inr rfl) (h g (by simp [hg]))
theorem pcs_reads {fs : List Ad} (h : ∀ f ∈ fs, okA f) : Reads (pcsF fs) fs := by
  refine ⟨(pcs_len fs).symm, ?_⟩
  cases fs with
  | nil => intro i p f hp hf; simp at hf
  | cons g fs =>
    intro i p f hp hf
    have hok := h f (List.mem_of_getElem? hf)
    cases i with
    | zero =>
      simp [pcsF] at hp hf
      subst hf; subst hp
      exact read_write2 (f := []) (.inl rfl) hok
    | succ i =>
      simp only [pcsF, List.getElem?_cons_succ, List.getElem?_map] at hp hf
      rw [hf] at hp
      simp at hp
      subst hp
      exact read_write2 (f := [32]) (.inr rfl) hok
theorem join_snoc (p : List Int) : ∀ {ps : List (List Int)}, ps ≠ [] → joinC (ps ++ [p]) = joinC ps ++ 44 :: p
  | [q], _ => rfl
  | q :: r :: l, _ => by
    have ih := join_snoc p (ps := r :: l) (by simp)
    rw [List.cons_append, List.cons_append, joinC, ← List.cons_append, ih, joinC]
    simp
theorem pcs_snoc {fs : List Ad} (h : fs ≠ []) (f : Ad) : joinC (pcsF (fs ++ [f])) = joinC (pcsF fs) ++ [44, 32] ++ wrA f := by
  cases fs with
  | nil => exact absurd rfl h
  | cons g fs =>
    have : pcsF (g :: fs ++ [f]) = pcsF (g :: fs) ++ [32 :: wrA f] := by simp [pcsF]
    rw [this, join_snoc _ (by simp [pcsF])]
    simp
theorem pcs_one (f : Ad) : joinC (pcsF [f]) = wrA f := rfl
theorem take_snoc {fs : List Ad} {k : Nat} {f : Ad} (h : fs[k]? = some f) : fs.take (k + 1) = fs.take k ++ [f] := by
  rw [List.take_add_one, h]; rfl
theorem take_okA {fs : List Ad} {k : Nat} {f : Ad} (h : fs[k]? = some f) (hok : ∀ g ∈ fs.take k, okA g) (hf : okA f) : ∀ g ∈ fs.take (k + 1), okA g := by
  rw [take_snoc h]
  intro g hg
  rcases List.mem_append.1 hg with q | q
  · exact hok g q
  · simp at q; subst q; exact hf
end Go.Proofs.YtedbgjpjipblcaaDoor
