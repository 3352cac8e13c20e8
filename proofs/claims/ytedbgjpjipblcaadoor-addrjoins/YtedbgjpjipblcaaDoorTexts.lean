/-
  The texts of a list: what List gathers first.
-/
import Derived.Test.YtedbgjpjipblcaaDoorRparted
import Derived.Maps.AppendAt
namespace Go.Proofs.YtedbgjpjipblcaaDoor
open Go.RowKit Go.Shelf
set_option linter.unusedVariables false
attribute [local go_sem] Oper.semAt_some

theorem own_set {w : World} {B e size : Nat} {v : Value} {n : Nat} {xs : List Value} {f o : Nat} {u : Value} (hf : f < B) (h : w.ownsRow B e size v n xs) : (w.setCell ⟨f, o, none⟩ u).ownsRow B e size v n xs := by
  refine ⟨h.1, ?_⟩
  rcases h.2 with h | ⟨g, cap, cur, h1, h2, h3, h4⟩
  · exact .inl h
  · refine .inr ⟨g, cap, cur, h1, h2, ?_, h4⟩
    rw [heap_setCell_other _ _ _ _ (by simp; omega)]
    exact h3
theorem ne_type {w : World} {B e size : Nat} {v : Value} {n : Nat} {xs : List Value} {g : Nat} {cs : Array Value} {e' : TypeId} {k : Nat × Nat} (h : w.ownsRow B e size v n xs) (hg : w.heap[g]? = some (.cells cs e' k)) (he : e' ≠ e) : some g ≠ v.ownBlock := by
  intro hk
  rcases h.2 with ⟨rfl, _⟩ | ⟨b, cap, cur, rfl, h2, h3, _⟩
  · simp [Value.ownBlock] at hk
  · simp [Value.ownBlock] at hk
    subst hk
    rw [hg] at h3
    simp at h3
    exact he h3.2.1
theorem Tryd.info9 : (Tryd.prog.info? 9).map (fun i => (i.zero, i.size, i.bytes)) = some (some (.string ⟨#[]⟩), 1, 16) := by kernel_rfl
/-- Between two rounds: what is answered, the texts so far. -/
def LI (w : World) (pre : List ByteArray) (W : World) : Prop :=
  Below w.heap.size w W ∧ W.heap[w.heap.size]? = some (.cells #[.slice none 0 0] 36 (0, 0)) ∧ W.heap[w.heap.size + 1]? = some (.cells #[.int .i64 0] 25 (0, 0)) ∧ pre.length ≤ 64 ∧ w.heap.size + 4 ≤ W.heap.size ∧
  ∃ v, W.heap[w.heap.size + 2]? = some (.cells #[v] 50 (0, 0)) ∧ W.ownsRow (w.heap.size + 4) 9 1 v pre.length (pre.map Value.string)
/-- Too many. -/
def LX (w : World) (pre : List ByteArray) (W : World) : Prop :=
  Below w.heap.size w W ∧ W.heap[w.heap.size]? = some (.cells #[.slice none 0 0] 36 (0, 0)) ∧ W.heap[w.heap.size + 1]? = some (.cells #[.int .i64 2] 25 (0, 0)) ∧ 64 < pre.length
theorem below_put {n l : Nat} {w W : World} (h : Below n w W) (hn : n ≤ W.heap.size) (hl : n ≤ l) (o' : Obj) : Below n w (W.putObj l o') :=
  h.trans ((Below.refl n W).grown (grownBy_putObj' W l o') hn (fun k e => by cases e; exact hl))
theorem LI.set {w : World} {pre : List ByteArray} {W : World} (h : LI w pre W) (v : ByteArray) : LI w pre (W.setCell ⟨w.heap.size + 3, 0, none⟩ (.string v)) := by
  obtain ⟨h1, h2, h3, h4, h5, v0, h6, h7⟩ := h
  refine ⟨h1.setCell (p := ⟨w.heap.size + 3, 0, none⟩) (by simp) _, (heap_setCell_other _ _ _ _ (by simp)).trans h2, (heap_setCell_other _ _ _ _ (by simp)).trans h3, h4, ?_, v0, (heap_setCell_other _ _ _ _ (by simp)).trans h6, own_set (by omega) h7⟩
  have := ((Below.refl 0 W).setCell (p := ⟨w.heap.size + 3, 0, none⟩) (Nat.zero_le _) (.string v)).size
  omega
theorem LI.put {w : World} {pre : List ByteArray} {W : World} {l : Nat} {o : Obj} (h : LI w pre W) (o' : Obj) (hl : w.heap.size + 4 ≤ l) (ho : W.heap[l]? = some o) (hc : o.isCells = false) : LI w pre (W.putObj l o') := by
  obtain ⟨h1, h2, h3, h4, h5, v0, h6, h7⟩ := h
  exact ⟨below_put h1 (by omega) (by omega) _, (World.putObj_heap_other (by omega)).trans h2, (World.putObj_heap_other (by omega)).trans h3, h4, by simp; omega, v0, (World.putObj_heap_other (by omega)).trans h6, ownsRow_putObj h7 _ ho hc⟩
theorem LI.alloc {w : World} {pre : List ByteArray} {W : World} (h : LI w pre W) (o : Obj) : LI w pre (W.alloc o) := by
  obtain ⟨h1, h2, h3, h4, h5, v0, h6, h7⟩ := h
  exact ⟨h1.alloc (by omega) _, (Below.heap_alloc _ _ _ (by omega)).trans h2, (Below.heap_alloc _ _ _ (by omega)).trans h3, h4, by simp; omega, v0, (Below.heap_alloc _ _ _ (by omega)).trans h6, h7.alloc _⟩
theorem LX.put {w : World} {pre : List ByteArray} {W : World} {l : Nat} (h : LX w pre W) (o' : Obj) (hl : w.heap.size + 4 ≤ l) (hs : w.heap.size ≤ W.heap.size) : LX w pre (W.putObj l o') := by
  obtain ⟨h1, h2, h3, h4⟩ := h
  exact ⟨below_put h1 hs (by omega) _, (World.putObj_heap_other (by omega)).trans h2, (World.putObj_heap_other (by omega)).trans h3, h4⟩
/-- The world in which the texts are gathered. -/
def tW (w : World) (s : ByteArray) : World := (((w.alloc (.cells #[.slice none 0 0] 36)).alloc (.cells #[.int .i64 0] 25)).alloc (.cells #[.slice none 0 0] 50)).alloc (.cells #[.string s] 9)
theorem t_facts (w : World) (s : ByteArray) : LI w [] (tW w s) ∧ Sx (tW w s) (w.heap.size + 3) s ∧ (tW w s).heap.size = w.heap.size + 4 := by
  have e1 : (w.alloc (.cells #[.slice none 0 0] 36)).heap.size = w.heap.size + 1 := by simp
  have e2 : ((w.alloc (.cells #[.slice none 0 0] 36)).alloc (.cells #[.int .i64 0] 25)).heap.size = w.heap.size + 2 := by simp
  have e3 : (((w.alloc (.cells #[.slice none 0 0] 36)).alloc (.cells #[.int .i64 0] 25)).alloc (.cells #[.slice none 0 0] 50)).heap.size = w.heap.size + 3 := by simp
  have a1 := World.alloc_heap_new (w.alloc (.cells #[.slice none 0 0] 36)) (.cells #[.int .i64 0] 25)
  have a2 := World.alloc_heap_new ((w.alloc (.cells #[.slice none 0 0] 36)).alloc (.cells #[.int .i64 0] 25)) (.cells #[.slice none 0 0] 50)
  have a3 := World.alloc_heap_new (((w.alloc (.cells #[.slice none 0 0] 36)).alloc (.cells #[.int .i64 0] 25)).alloc (.cells #[.slice none 0 0] 50)) (.cells #[.string s] 9)
  rw [e1] at a1
  rw [e2] at a2
  rw [e3] at a3
  refine ⟨⟨(((keep w _).alloc (by simp) _).alloc (by simp; omega) _).alloc (by simp; omega) _, ?_, ?_, by simp, by unfold tW; simp, .slice none 0 0, ?_, World.ownsRow_nil _ _ _ _⟩, a3, by unfold tW; simp⟩
  · unfold tW
    rw [Below.heap_alloc _ _ _ (by simp; omega), Below.heap_alloc _ _ _ (by simp; omega), Below.heap_alloc _ _ _ (by simp)]
    exact World.alloc_heap_new w _
  · unfold tW
    rw [Below.heap_alloc _ _ _ (by first | (simp; done) | (simp; omega)), Below.heap_alloc _ _ _ (by simp)]
    exact a1
  · unfold tW
    rw [Below.heap_alloc _ _ _ (by simp)]
    exact a2
end Go.Proofs.YtedbgjpjipblcaaDoor
