/-
  Read: what lies between two lines.
-/
import Derived.Test.YtenclgnkogmgiaaDoorLi
import Derived.Test.YtenclgnkogmgiaaDoorUPoints
namespace Go.Proofs.YtenclgnkogmgiaaDoor
open Go.RowKit Go.Shelf
set_option linter.unusedVariables false

def cellM (m : Lm) : List Value := [.string m.nm, .slice m.a m.fs.length m.c, .string m.vl]
/-- What a piece says. -/
def goodP (p : List Int) : Option Ln := if endsZ p = true then oneR (p.take (p.length - 2)) else none
theorem nums_stem (s : ByteArray) (h : endsZ (nums s) = true) : nums (stemB s) = (nums s).take ((nums s).length - 2) := by
  unfold stemB; rw [if_pos h, nums_to, nums_len]
theorem FRow.tk {O : Nat → Prop} {V V' : World} {a : Option Addr} {fs : List (ByteArray × ByteArray)} {nW : Nat} (h : FRow V a fs) (hx : ∀ x, a = some x → nW ≤ x.block) (ht : Tk O V V') (hO : ∀ b, O b → b < nW) : FRow V' a fs := by
  rcases h with h | ⟨b, off, rfl, h⟩
  · exact .inl h
  · refine .inr ⟨b, off, rfl, fun i f hf => ?_⟩
    obtain ⟨h1, h2⟩ := h i f hf
    have hb := World.block_lt_of_cell? V _ h1
    have hxb := hx _ rfl
    have e : V'.heap[b]? = V.heap[b]? := ht.2.2.2.2 b hb (fun q => by have := hO b q; simp at hxb; omega)
    exact ⟨(World.cell?_of_block (w := V) e).trans h1, (World.cell?_of_block (w := V) e).trans h2⟩
theorem own_tk {O : Nat → Prop} {V V' : World} {B e sz n : Nat} {v : Value} {xs : List Value} (h : V.ownsRow B e sz v n xs) (ht : Tk O V V') (hO : ∀ b, O b → b < B) : V'.ownsRow B e sz v n xs := by
  refine ⟨h.1, ?_⟩
  rcases h.2 with h | ⟨g, cap, cur, h1, h2, h3, h4⟩
  · exact .inl h
  · exact .inr ⟨g, cap, cur, h1, h2, ht.kept h3 (fun q => by have := hO g q; omega), h4⟩
/-- Between two lines: k lines have been read. -/
def RJ (w : World) (R Bo F nW : Nat) (S : List (List Int)) (k : Nat) (V : World) : Prop :=
  ∃ (v : Value) (ls : List Lm), Blk V R #[.int .i64 0, .int .i64 0] 56 ∧ Blk V F #[.int .i64 0, .int .i64 0] 56 ∧ Blk V Bo #[v] 22 ∧ V.ownsRow nW 39 3 v ls.length (ls.flatMap cellM) ∧ (∀ m ∈ ls, FRow V m.a m.fs ∧ ∀ x, m.a = some x → nW ≤ x.block ∧ ∃ cs, V.heap[x.block]? = some (.cells cs 65 (0, 0))) ∧
    ls.length = k ∧ k ≤ 4096 ∧ (∀ (i : Nat) (m : Lm), ls[i]? = some m → ∃ q, S[i]? = some q ∧ goodP q = some m.ln) ∧ Below w.heap.size w V
theorem RJ.tk {O : Nat → Prop} {w : World} {R Bo F nW : Nat} {S : List (List Int)} {k : Nat} {V V' : World} (h : RJ w R Bo F nW S k V) (ht : Tk O V V') (hO : ∀ b, O b → b < nW ∧ w.heap.size ≤ b ∧ b ≠ R ∧ b ≠ Bo ∧ b ≠ F) : RJ w R Bo F nW S k V' := by
  obtain ⟨v, ls, h1, h2, h3, h4, h5, h6, h7, h8, h9⟩ := h
  refine ⟨v, ls, ht.kept h1 (fun q => (hO _ q).2.2.1 rfl), ht.kept h2 (fun q => (hO _ q).2.2.2.2 rfl), ht.kept h3 (fun q => (hO _ q).2.2.2.1 rfl), own_tk h4 ht (fun b q => (hO b q).1), fun m hm => ⟨(h5 m hm).1.tk (fun x hx => ((h5 m hm).2 x hx).1) ht (fun b q => (hO b q).1), fun x hx => ⟨((h5 m hm).2 x hx).1, ((h5 m hm).2 x hx).2.elim fun cs hcs => ⟨cs, ht.kept hcs (fun q => by have := (hO _ q).1; have := ((h5 m hm).2 x hx).1; omega)⟩⟩⟩, h6, h7, h8, ?_⟩
  exact ⟨ht.1.trans h9.os, ht.2.1.trans h9.tape, ht.2.2.1.trans h9.output, Nat.le_trans h9.size ht.size, fun b hb => (ht.2.2.2.2 b (by have := h9.size; omega) (fun q => by have := (hO b q).2.1; omega)).trans (h9.block b hb)⟩
/-- What is wrong with a text, and where. -/
def RF (l : List Int) (p : Nat) (code : Int) : Prop :=
  (1048576 < l.length ∧ p = 0 ∧ code = 2) ∨
  (l.length ≤ 1048576 ∧ ∃ (ps r : List Int), Ut.AllPt ps ∧ Byt r ∧ unfoldZ l = Ut.flat ps ++ r ∧ Ut.decZ r = none ∧ r ≠ [] ∧ p = (Ut.flat ps).length ∧ code = 20) ∨
  (l.length ≤ 1048576 ∧ (∃ ps, Ut.AllPt ps ∧ unfoldZ l = Ut.flat ps) ∧ ∃ (k : Nat) (q : List Int), (splitP (unfoldZ l).length (unfoldZ l))[k]? = some q ∧ q ≠ [] ∧ (∀ i r, i < k → (splitP (unfoldZ l).length (unfoldZ l))[i]? = some r → (goodP r).isSome = true) ∧ k ≤ 4096 ∧ p = ((splitP (unfoldZ l).length (unfoldZ l)).take k).flatten.length ∧
    ((goodP q = none ∧ code = 90) ∨ ((goodP q).isSome = true ∧ k = 4096 ∧ code = 2)))
def ROk (l : List Int) (ls : List Lm) : Prop :=
  l.length ≤ 1048576 ∧ (∃ ps, Ut.AllPt ps ∧ unfoldZ l = Ut.flat ps) ∧ ls.length = (linesV 0 (splitP (unfoldZ l).length (unfoldZ l))).length ∧ ls.length ≤ 4096 ∧ ∀ (i : Nat) (m : Lm), ls[i]? = some m → ∃ q, (splitP (unfoldZ l).length (unfoldZ l))[i]? = some q ∧ goodP q = some m.ln
def RPost (w : World) (l : List Int) (e : Ending) (w' : World) : Prop :=
  ∃ (v : Value) (p : Nat) (code : Int), e = .returned (.tuple #[v, .agg #[.int .i64 (p : Nat), .int .i64 code]]) ∧ Below w.heap.size w w' ∧
    ((RF l p code ∧ v = .slice none 0 0) ∨ (p = 0 ∧ code = 0 ∧ ∃ (a : Option Addr) (cap : Nat) (ls : List Lm), v = .slice a ls.length cap ∧ LRow w' a ls ∧ ROk l ls))
theorem cellM_at : ∀ (ls : List Lm) (i : Nat) (m : Lm) (j : Nat), ls[i]? = some m → j < 3 → (ls.flatMap cellM)[i * 3 + j]? = (cellM m)[j]?
  | [], i, m, j, h, _ => by simp at h
  | x :: ls, 0, m, j, h, hj => by
    simp only [List.getElem?_cons_zero, Option.some.injEq] at h
    subst h
    rw [List.flatMap_cons, List.getElem?_append_left (by simp [cellM]; omega)]
    simp
  | x :: ls, i + 1, m, j, h, hj => by
    simp only [List.getElem?_cons_succ] at h
    rw [List.flatMap_cons, List.getElem?_append_right (by simp [cellM]; omega), ← cellM_at ls i m j h hj]
    congr 1
    simp [cellM]; omega
theorem ownM_view {w : World} {B : Nat} {v : Value} {ls : List Lm} (h : w.ownsRow B 39 3 v ls.length (ls.flatMap cellM)) (hf : ∀ m ∈ ls, FRow w m.a m.fs) : ∃ a cap, v = .slice a ls.length cap ∧ LRow w a ls := by
  have h0 := h
  rcases h.2 with ⟨rfl, hn⟩ | ⟨g, cap, cur, rfl, hb, hg, hn, hm, hs, ht⟩
  · exact ⟨none, 0, by rw [hn], .inl (List.eq_nil_of_length_eq_zero hn)⟩
  · refine ⟨some ⟨g, 0, none⟩, cap, rfl, .inr ⟨g, 0, rfl, fun i m hi => ⟨?_, hf m (List.mem_of_getElem? hi)⟩⟩⟩
    have c0 := h0.cells (g := g) rfl (i * 3 + 0) _ (by rw [cellM_at ls i m 0 hi (by omega)]; rfl)
    have c1 := h0.cells (g := g) rfl (i * 3 + 1) _ (by rw [cellM_at ls i m 1 hi (by omega)]; rfl)
    have c2 := h0.cells (g := g) rfl (i * 3 + 2) _ (by rw [cellM_at ls i m 2 hi (by omega)]; rfl)
    rw [add_plain] at c0 c1 c2
    refine ⟨by simpa using c0, by simpa using c1, by simpa using c2⟩
end Go.Proofs.YtenclgnkogmgiaaDoor
