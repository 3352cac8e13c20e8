/-
  The contract of Plain.
-/
import Derived.Test.YtomcjkghneingabDoorRt
namespace Go.Proofs.YtomcjkghneingabDoor
open Go.RowKit
set_option linter.unusedVariables false

theorem pieces_mem {c x : Int} : ∀ {l : List Int}, x ∈ l → x = c ∨ ∃ q ∈ pieces c l, x ∈ q
  | d :: r, h => by
    rw [pieces]
    by_cases hd : d = c
    · rw [if_pos hd]
      rcases List.mem_cons.1 h with rfl | h
      · exact .inl hd
      · rcases pieces_mem (c := c) h with q | ⟨q, hq, hx⟩
        · exact .inl q
        · exact .inr ⟨q, List.mem_cons_of_mem _ hq, hx⟩
    · rw [if_neg hd]
      rcases List.mem_cons.1 h with rfl | h
      · exact .inr ⟨_, List.mem_cons_self, List.mem_cons_self⟩
      · rcases pieces_mem (c := c) h with q | ⟨q, hq, hx⟩
        · exact .inl q
        · cases hp : pieces c r with
          | nil => rw [hp] at hq; cases hq
          | cons p ps =>
            rw [hp] at hq
            rcases List.mem_cons.1 hq with rfl | hq
            · exact .inr ⟨_, List.mem_cons_self, List.mem_cons_of_mem _ hx⟩
            · exact .inr ⟨q, List.mem_cons_of_mem _ hq, hx⟩
theorem atoms_mem {c x : Int} {l : List Int} (h : atomsZ c l = true) (hx : x ∈ l) : x = c ∨ atomC x = true := by
  rcases pieces_mem (c := c) hx with q | ⟨q, hq, hxq⟩
  · exact .inl q
  · have := List.all_eq_true.1 h q hq
    simp only [atomZ, Bool.and_eq_true] at this
    exact .inr (List.all_eq_true.1 this.2 x hxq)
theorem right_parts {n l d : List Int} (h : rightZ n l d = true) : (l.length ≤ 64 ∧ atomsZ 46 l = true) ∧ (d.length ≤ 253 ∧ (pieces 46 d).all labelZ = true) ∧ n.all valC = true ∧ n.length ≤ 128 := by
  simp only [rightZ, localZ, domainZ, nameZ, Bool.and_eq_true, decide_eq_true_eq] at h
  exact ⟨h.1.1, h.1.2, h.2⟩
theorem at_not {n l d : List Int} (h : rightZ n l d = true) : (64 : Int) ∉ l := by
  intro hx
  rcases atoms_mem (right_parts h).1.2 hx with q | q
  · omega
  · revert q; decide
theorem domain_nil : domainZ [] = false := by decide
/-- What Plain answers. -/
def PAns (s n l d : ByteArray) (c : Int) : Prop :=
  (c = 0 ∧ n = ⟨#[]⟩ ∧ rightZ [] (nums l) (nums d) = true ∧ nums s = nums l ++ 64 :: nums d ∧ l.size ≤ s.size ∧ d.size ≤ s.size) ∨
  (c = 60 ∧ n = ⟨#[]⟩ ∧ l = ⟨#[]⟩ ∧ d = ⟨#[]⟩ ∧ ∀ l' d', nums s = l' ++ 64 :: d' → rightZ [] l' d' = false)
theorem first_one {a b : List Int} {c : Int} : ∀ {x y : List Int}, c ∉ a → c ∉ x → a ++ c :: b = x ++ c :: y → a = x ∧ b = y := by
  induction a with
  | nil =>
    intro x y _ hx h
    cases x with
    | nil => simp at h; exact ⟨rfl, h⟩
    | cons e x => simp only [List.nil_append, List.cons_append, List.cons.injEq] at h; exact absurd (by rw [h.1]; simp) hx
  | cons e a ih =>
    intro x y ha hx h
    cases x with
    | nil => simp only [List.nil_append, List.cons_append, List.cons.injEq] at h; exact absurd (by rw [h.1]; simp) ha
    | cons f x =>
      simp only [List.cons_append, List.cons.injEq] at h
      simp only [List.mem_cons, not_or] at ha hx
      obtain ⟨e1, e2⟩ := ih ha.2 hx.2 h.2
      exact ⟨by rw [h.1, e1], e2⟩
def finA (W : World) (R : Nat) (n l d : ByteArray) : World := ((W.setCell ⟨R, 0, none⟩ (.string n)).setCell ⟨R, 1, none⟩ (.string l)).setCell ⟨R, 2, none⟩ (.string d)
theorem finA_cells {W : World} {R : Nat} {a b c : Value} (h : W.heap[R]? = some (.cells #[a, b, c] 48 (0, 0))) (n l d : ByteArray) :
    (finA W R n l d).cell? ⟨R, 0, none⟩ = some (.string n) ∧ (finA W R n l d).cell? ⟨R, 1, none⟩ = some (.string l) ∧ (finA W R n l d).cell? ⟨R, 2, none⟩ = some (.string d) := by
  have e1 := heap_setCell_same _ _ 0 _ 48 (.string n) h
  have e2 := heap_setCell_same _ _ 1 _ 48 (.string l) e1
  have e3 := heap_setCell_same _ _ 2 _ 48 (.string d) e2
  exact ⟨(cell_of_row _ _ 0 _ _ _ e3).trans rfl, (cell_of_row _ _ 1 _ _ _ e3).trans rfl, (cell_of_row _ _ 2 _ _ _ e3).trans rfl⟩
theorem finA_below {w W : World} {R m : Nat} (h : Below m w W) (hR : m ≤ R) (n l d : ByteArray) : Below m w (finA W R n l d) :=
  ((h.setCell (p := ⟨R, 0, none⟩) hR _).setCell (p := ⟨R, 1, none⟩) hR _).setCell (p := ⟨R, 2, none⟩) hR _
set_option maxHeartbeats 2000000 in
set_option maxRecDepth 100000 in
theorem plain_any (s : ByteArray) (w : World) (hs : s.size ≤ 1000000000) :
    Calls Tryd.prog 43 #[.string s] w fun e w' => ∃ n l d c, e = .returned (.tuple #[addrV n l d, .int .i64 c]) ∧ Below w.heap.size w w' ∧ PAns s n l d c := by
  go_enter Tryd.func43, Tryd.ntmps43
  go_wp2_with fail
  refine (cut_any s 64 _ hs).mono ?_
  rintro e w1 ⟨l, d, b, rfl, hca, hb1, hz1, hz2⟩
  have HR1 : Hid (w1.heap[w.heap.size]? = some (.cells #[.string ⟨#[]⟩, .string ⟨#[]⟩, .string ⟨#[]⟩] 48 (0, 0))) := (hb1.block _ (by simp)).trans (heap_alloc_last w _)
  have HB1 : Hid (Below w.heap.size w w1) := (keep w _).trans (hb1.mono (by simp))
  have HCA : Hid (CutA 64 s l d b) := hca
  have hlt1 : w.heap.size < w1.heap.size := (Array.getElem?_eq_some_iff.1 HR1.out).1
  have hcall := right_any ⟨#[]⟩ l d (w1.alloc (.cells #[.string ⟨#[]⟩, .string l, .string d] 48)) (by decide) (by omega) (by omega)
  unfold addrV at hcall
  clear hb1 hca
  go_wp2_with fail
  refine hcall.mono ?_
  clear hcall
  rintro e w2 ⟨rfl, hb2⟩
  have HR2 : Hid (w2.heap[w.heap.size]? = some (.cells #[.string ⟨#[]⟩, .string ⟨#[]⟩, .string ⟨#[]⟩] 48 (0, 0))) := by
    unfold Hid; rw [hb2.block _ (by simp; omega), Below.heap_alloc _ _ _ hlt1]; exact HR1.out
  have HA2 : Hid (AAt w2 w1.heap.size ⟨#[]⟩ l d) := (aat_new w1 ⟨#[]⟩ l d).below hb2
  have HB2 : Hid (Below w.heap.size w w2) := (HB1.out.alloc (by omega) _).trans (hb2.mono (by simp; omega))
  have r0 : w2.cell? ⟨w.heap.size, 0, none⟩ = some (.string ⟨#[]⟩) := by rw [cell_of_row _ _ _ _ _ _ HR2.out]; rfl
  have r1 : w2.cell? ⟨w.heap.size, 1, none⟩ = some (.string ⟨#[]⟩) := by rw [cell_of_row _ _ _ _ _ _ HR2.out]; rfl
  have r2 : w2.cell? ⟨w.heap.size, 2, none⟩ = some (.string ⟨#[]⟩) := by rw [cell_of_row _ _ _ _ _ _ HR2.out]; rfl
  have f0 : w2.frozen? ⟨w.heap.size, 0, none⟩ = false := frozen_of_row _ _ _ _ _ HR2.out
  have f1 : w2.frozen? ⟨w.heap.size, 1, none⟩ = false := frozen_of_row _ _ _ _ _ HR2.out
  have f2 : w2.frozen? ⟨w.heap.size, 2, none⟩ = false := frozen_of_row _ _ _ _ _ HR2.out
  obtain ⟨_, x0, x1, x2⟩ := HA2.out
  clear hb2
  cases hrz : rightZ (nums (⟨#[]⟩ : ByteArray)) (nums l) (nums d) with
  | false =>
    have HP : Hid (PAns s ⟨#[]⟩ ⟨#[]⟩ ⟨#[]⟩ 60) := by
      refine .inr ⟨rfl, rfl, rfl, rfl, fun l' d' he => ?_⟩
      cases hq : rightZ [] l' d' with
      | false => rfl
      | true =>
        have h64 := at_not hq
        cases b with
        | true =>
          obtain ⟨e1, e2⟩ := HCA.out.1 rfl
          obtain ⟨q1, q2⟩ := first_one e2 h64 (e1.symm.trans he)
          rw [← q1, ← q2] at hq
          exact absurd (hq.symm.trans hrz) (by simp)
        | false =>
          have := (HCA.out.2 rfl).1
          rw [he] at this
          simp at this
    go_wp2
    (try simp only [Exit.inBlock, Exit.then])
    obtain ⟨c0, c1, c2⟩ := finA_cells HR2.out ⟨#[]⟩ ⟨#[]⟩ ⟨#[]⟩
    have hfb := finA_below HB2.out (Nat.le_refl _) ⟨#[]⟩ ⟨#[]⟩ ⟨#[]⟩
    unfold finA at c0 c1 c2
    refine bodyPost_ret (v := .tuple #[addrV ⟨#[]⟩ ⟨#[]⟩ ⟨#[]⟩, .int .i64 60]) (by simp [results, Tryd.results43, go_sem, c0, c1, c2, addrV]) rfl ⟨_, _, _, _, rfl, hfb, HP.out⟩
  | true =>
    have HP : Hid (PAns s ⟨#[]⟩ l d 0) := by
      refine .inl ⟨rfl, rfl, hrz, ?_, hz1, hz2⟩
      cases b with
      | true => exact (HCA.out.1 rfl).1
      | false =>
        obtain ⟨_, _, rfl⟩ := HCA.out.2 rfl
        have := hrz
        unfold rightZ at this
        rw [show domainZ (nums (⟨#[]⟩ : ByteArray)) = false from domain_nil] at this
        simp at this
    go_wp2
    (try simp only [Exit.inBlock, Exit.then])
    obtain ⟨c0, c1, c2⟩ := finA_cells HR2.out ⟨#[]⟩ l d
    have hfb := finA_below HB2.out (Nat.le_refl _) ⟨#[]⟩ l d
    unfold finA at c0 c1 c2
    refine bodyPost_ret (v := .tuple #[addrV ⟨#[]⟩ l d, .int .i64 0]) (by simp [results, Tryd.results43, go_sem, c0, c1, c2, addrV]) rfl ⟨_, _, _, _, rfl, hfb, HP.out⟩
end Go.Proofs.YtomcjkghneingabDoor
