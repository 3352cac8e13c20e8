/-
  Lengths are read, piece by piece: the contracts of sign, number, clock and length.
-/
import Derived.Test.YtkamnphiocoebaaDoorDg
import Derived.Test.YtkamnphiocoebaaDoorSn
namespace Go.Proofs.YtkamnphiocoebaaDoor
open Go.RowKit
set_option linter.unusedVariables false

theorem empty_list (s : ByteArray) : (s.toList == ([] : List UInt8)) = decide (s.size = 0) := by
  rw [Bool.eq_iff_iff]
  simp only [beq_iff_eq, decide_eq_true_eq, ByteArray.toList_eq, ← List.length_eq_zero_iff, Array.length_toList]
  exact Iff.rfl
/-- The text that is left lies in block g. -/
def Rs (w : World) (g : Nat) (t : ByteArray) : Prop := w.heap[g]? = some (.cells #[.string t] 53 (0, 0))
/-- All but block g lies as it lay. -/
def Kx (g : Nat) (w w' : World) : Prop := Below g w w' ∧ ∀ k, g < k → k < w.heap.size → w'.heap[k]? = w.heap[k]?
theorem Kx.refl (g : Nat) (w : World) : Kx g w w := ⟨Below.refl _ _, fun _ _ _ => rfl⟩
theorem Kx.trans {g : Nat} {a b c : World} (h : Kx g a b) (k : Kx g b c) : Kx g a c := ⟨h.1.trans k.1, fun j h1 h2 => (k.2 j h1 (Nat.lt_of_lt_of_le h2 h.1.size)).trans (h.2 j h1 h2)⟩
theorem Kx.of {g : Nat} {w w' : World} (h : Below w.heap.size w w') (hg : g < w.heap.size) : Kx g w w' := ⟨h.mono (by omega), fun k _ h2 => h.block k h2⟩
theorem Kx.set {g : Nat} (w : World) (i : Nat) (u : Value) : Kx g w (w.setCell ⟨g, i, none⟩ u) :=
  ⟨(Below.refl g w).setCell (p := ⟨g, i, none⟩) (Nat.le_refl _) u, fun k h1 h2 => heap_setCell_other _ _ _ _ (by simp; omega)⟩
theorem Rs.lt {w : World} {g : Nat} {t : ByteArray} (h : Rs w g t) : g < w.heap.size := (Array.getElem?_eq_some_iff.1 h).1
theorem Rs.cell {w : World} {g : Nat} {t : ByteArray} (h : Rs w g t) : w.cell? ⟨g, 0, none⟩ = some (.string t) := by rw [cell_of_row w _ _ _ _ _ h]; rfl
theorem Rs.frozen {w : World} {g : Nat} {t : ByteArray} (h : Rs w g t) : w.frozen? ⟨g, 0, none⟩ = false := frozen_of_row w _ _ _ _ h
theorem Rs.set {w : World} {g : Nat} {t : ByteArray} (h : Rs w g t) (t' : ByteArray) : Rs (w.setCell ⟨g, 0, none⟩ (.string t')) g t' := heap_setCell_same _ _ 0 _ 53 _ h
theorem Rs.below {w w' : World} {g : Nat} {t : ByteArray} (h : Rs w g t) (hb : Below w.heap.size w w') : Rs w' g t := (hb.block g h.lt).trans h
/-- Does a sign stand at the front? -/
def signB (c : Int) : List Int → Bool
  | [] => false
  | d :: _ => decide (d = c)
def signR (c : Int) (l : List Int) : List Int := if signB c l = true then l.tail else l
theorem sign_any (g : Nat) (c : Int) (t : ByteArray) (w : World) (h : Rs w g t) :
    Calls Tryd.prog 36 #[.pointer (some ⟨g, 0, none⟩), .int .u8 c] w fun e w' => e = .returned (.bool (signB c (nums t))) ∧ ∃ t', Rs w' g t' ∧ nums t' = signR c (nums t) ∧ Kx g w w' := by
  have HR : Hid (Rs w g t) := h
  have hc := h.cell
  have hf := h.frozen
  clear h
  have he := empty_list t
  by_cases h0 : t.size = 0
  · rw [decide_eq_true h0] at he
    have he2 : t.toList = [] := by simpa using he
    have HN : Hid (nums t = []) := List.eq_nil_of_length_eq_zero (by rw [nums_len]; exact h0)
    go_enter Tryd.func36, Tryd.ntmps36
    go_wp2
    go_ret
    rw [HN.out]
    exact ⟨rfl, t, HR.out, by rw [HN.out]; rfl, Kx.refl _ _⟩
  · rw [decide_eq_false h0] at he
    have he2 : ¬ t.toList = [] := by simpa using he
    have hlt : 0 < t.size := by omega
    have HD : Hid (nums t = (t[0].toNat : Int) :: (nums t).drop 1) := nums_drop t 0 hlt
    obtain ⟨d, hd⟩ : ∃ d : Int, ((t[0]'hlt).toNat : Int) = d := ⟨_, rfl⟩
    rw [hd] at HD
    by_cases hq : d = c
    · have hb : (d != c) = false := by simp [hq]
      have HS : Hid (signB c (nums t) = true ∧ signR c (nums t) = (nums t).drop 1) := by
        have e : signB c (nums t) = true := by rw [HD.out]; simp [signB, hq]
        refine ⟨e, ?_⟩
        rw [signR, if_pos e]; simp
      clear hq
      go_enter Tryd.func36, Tryd.ntmps36
      go_wp2
      go_ret
      rw [HS.out.1]
      exact ⟨rfl, _, HR.out.set _, by rw [HS.out.2, nums_from], Kx.set _ _ _⟩
    · have hb : (d != c) = true := by simp [hq]
      have HS : Hid (signB c (nums t) = false ∧ signR c (nums t) = nums t) := by
        have e : signB c (nums t) = false := by rw [HD.out]; simp [signB, hq]
        refine ⟨e, ?_⟩
        rw [signR, if_neg (by rw [e]; simp)]
      clear hq
      go_enter Tryd.func36, Tryd.ntmps36
      go_wp2
      go_ret
      rw [HS.out.1]
      exact ⟨rfl, t, HR.out, HS.out.2.symm, Kx.refl _ _⟩

theorem number_any (g : Nat) (t : ByteArray) (w : World) (h : Rs w g t) (hs : t.size ≤ 1000000000) :
    Calls Tryd.prog 44 #[.pointer (some ⟨g, 0, none⟩)] w fun e w' => e = .returned (.tuple #[.int .i64 (digR 10 0 (nums t)).1, .bool (decide (0 < (digR 10 0 (nums t)).2))]) ∧ ∃ t', Rs w' g t' ∧ nums t' = (nums t).drop (digR 10 0 (nums t)).2 ∧ Kx g w w' := by
  have HR : Hid (Rs w g t) := h
  have hc := h.cell
  have hf := h.frozen
  have hn : (digR 10 0 (nums t)).2 ≤ t.size := by rw [← nums_len]; exact (digR_len 10 0 (nums t)).1
  have hcall := digits_any t w hs
  clear h
  generalize (digR 10 0 (nums t)).2 = n at hn hcall
  generalize (digR 10 0 (nums t)).1 = v at hcall
  go_enter Tryd.func44, Tryd.ntmps44
  go_wp2_with (go_at_call 31; refine hcall.mono ?_; rintro e w' ⟨rfl, rfl⟩)
  go_ret2
  exact ⟨rfl, _, HR.out.set _, by rw [nums_from], Kx.set _ _ _⟩
/-- The table of the clock's sizes. -/
def Cs (w : World) : Prop := ∀ i, i < 3 → w.cell? ⟨2, i, none⟩ = some (.int .i64 (([3600, 60, 1] : List Int).getD i 0))
theorem Cs.kx {g : Nat} {w w' : World} (h : Cs w) (b : Kx g w w') (hg : 2 < g) : Cs w' := by
  intro i hi
  rw [b.1.cell (p := ⟨2, i, none⟩) hg]; exact h i hi
theorem Cs.below {w w' : World} (h : Cs w) (b : Below w.heap.size w w') : Cs w' := by
  intro i hi
  rw [b.cell (World.block_lt_of_cell? w _ (h i hi))]; exact h i hi
theorem unit_index (u : Int) (h0 : 0 ≤ u) (h1 : u < 256) : Lib.indexByte [72, 77, 83] u.toNat.toUInt8 = unitZ u := by
  have key : ∀ n : Fin 256, Lib.indexByte [72, 77, 83] n.val.toUInt8 = unitZ n.val := by decide +kernel
  have := key ⟨u.toNat, by omega⟩
  rw [this]
  show unitZ ((u.toNat : Nat) : Int) = _
  rw [show ((u.toNat : Nat) : Int) = u by omega]
theorem index_any (u : Int) (w : World) (h0 : 0 ≤ u) (h1 : u < 256) :
    Calls Tryd.prog 48 #[.string ⟨#[72, 77, 83]⟩, .int .u8 u] w fun e w' => e = .returned (.int .i64 (unitZ u)) ∧ w = w' := by
  refine (strings_IndexByte ⟨#[72, 77, 83]⟩ u w).mono ?_
  rintro e w' ⟨rfl, rfl⟩
  exact ⟨by rw [← unit_index u h0 h1], rfl⟩
theorem unit_in (u : Int) : -1 ≤ unitZ u ∧ unitZ u ≤ 2 := by
  unfold unitZ; split
  · omega
  · split
    · omega
    · split <;> omega
/-- What is left to read. -/
structure CJ (l : List Int) (t : ByteArray) (sum last : Int) : Prop where
  eq : ∃ f, (nums t).length < f ∧ clockZ l = clockR f sum last (nums t)
  s0 : 0 ≤ sum
  s1 : sum ≤ (last + 1) * 36000000000000
  l0 : -1 ≤ last
  l1 : last ≤ 2
  sz : t.size ≤ l.length
theorem cj_end {l : List Int} {t : ByteArray} {sum last : Int} (h : CJ l t sum last) (he : nums t = []) : clockZ l = if 0 ≤ last then some sum else none := by
  obtain ⟨f, hf, e⟩ := h.eq
  rw [e, he]
  cases f with
  | zero => omega
  | succ f => rfl
theorem clockR_cons (f : Nat) (sum last : Int) (l : List Int) (h : l ≠ []) : clockR (f + 1) sum last l =
    if (digR 10 0 l).2 = 0 then none else
    match l.drop (digR 10 0 l).2 with
    | [] => none
    | u :: r => if unitZ u < 0 ∨ 0 ≤ last ∧ unitZ u ≠ last + 1 then none else clockR f (sum + (digR 10 0 l).1 * sizeU (unitZ u)) (unitZ u) r := by
  cases l with
  | nil => exact absurd rfl h
  | cons c l => rfl
theorem cj_stop {l : List Int} {t : ByteArray} {sum last : Int} (h : CJ l t sum last) (hn : nums t ≠ []) (he : (digR 10 0 (nums t)).2 = 0 ∨ (nums t).drop (digR 10 0 (nums t)).2 = []) : clockZ l = none := by
  obtain ⟨f, hf, e⟩ := h.eq
  rw [e]
  cases f with
  | zero => omega
  | succ f =>
    rw [clockR_cons f sum last _ hn]
    rcases he with he | he
    · rw [if_pos he]
    · rw [he]; split <;> rfl
theorem cj_bad {l : List Int} {t : ByteArray} {sum last u : Int} {r : List Int} (h : CJ l t sum last) (hn : nums t ≠ []) (hd : (nums t).drop (digR 10 0 (nums t)).2 = u :: r) (hb : unitZ u < 0 ∨ 0 ≤ last ∧ unitZ u ≠ last + 1) : clockZ l = none := by
  obtain ⟨f, hf, e⟩ := h.eq
  rw [e]
  cases f with
  | zero => omega
  | succ f =>
    rw [clockR_cons f sum last _ hn, hd]
    split
    · rfl
    · exact if_pos hb
theorem cj_next {l : List Int} {t t' : ByteArray} {sum last u : Int} {r : List Int} (h : CJ l t sum last) (hn : nums t ≠ []) (hk : (digR 10 0 (nums t)).2 ≠ 0) (hd : (nums t).drop (digR 10 0 (nums t)).2 = u :: r) (hb : ¬ (unitZ u < 0 ∨ 0 ≤ last ∧ unitZ u ≠ last + 1)) (ht : nums t' = r) :
    CJ l t' (sum + (digR 10 0 (nums t)).1 * sizeU (unitZ u)) (unitZ u) := by
  obtain ⟨f, hf, e⟩ := h.eq
  have hlen := congrArg List.length hd
  rw [List.length_drop, List.length_cons] at hlen
  have hr : (nums t').length = t'.size := nums_len t'
  have htl : (nums t).length = t.size := nums_len t
  have hz := h.sz
  have hv := num_lt (nums t)
  have hu := unit_in u
  have hs : 0 ≤ sizeU (unitZ u) ∧ sizeU (unitZ u) ≤ 3600 := by unfold sizeU; split <;> (try split) <;> omega
  have h0 := Int.mul_nonneg hv.1 hs.1
  have h1 : (digR 10 0 (nums t)).1 * sizeU (unitZ u) ≤ 36000000000000 := by
    have a := Int.mul_le_mul_of_nonneg_left hs.2 hv.1
    omega
  have hs1 := h.s1
  have hl0 := h.l0
  have hs0 := h.s0
  subst ht
  refine ⟨?_, by omega, by omega, by omega, by omega, by omega⟩
  cases f with
  | zero => omega
  | succ f =>
    refine ⟨f, by omega, ?_⟩
    rw [e, clockR_cons f sum last _ hn, hd, if_neg hk]
    exact if_neg hb
end Go.Proofs.YtkamnphiocoebaaDoor
