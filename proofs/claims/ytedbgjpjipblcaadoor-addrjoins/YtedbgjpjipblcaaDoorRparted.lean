/-
  The statement 'for text := range parted(s)'; the contract of parted.
-/
import Derived.Test.YtedbgjpjipblcaaDoorParted
namespace Go.Proofs.YtedbgjpjipblcaaDoor
open Go.RowKit Go.Shelf
set_option linter.unusedVariables false
attribute [local go_sem] Oper.semAt_some

/-- Whatever is no cells lies as it lay. -/
def KeepN (W W' : World) : Prop := ∀ (k : Nat) (o : Obj), W.heap[k]? = some o → o.isCells = false → W'.heap[k]? = some o
/-- How a round is left. -/
def leaveP (I Ix : List ByteArray → World → Prop) (Bs : Nat) (pre : List ByteArray) (W : World) : Exit → Act → World → Prop
  | .normal, _, W' => I pre W' ∧ KeepN W W' ∧ W'.heap[Bs]? = W.heap[Bs]?
  | .ret, _, W' => Ix pre W' ∧ KeepN W W'
  | _, _, _ => False
theorem parted_any (s : ByteArray) (w : World) : Calls Tryd.prog 35 #[.string s] w fun e w' => e = .returned (.func (.func 55) #[] #[.pointer (some ⟨w.heap.size, 0, none⟩)]) ∧ w' = w.alloc (.cells #[.string s] 9) := by
  go_enter Tryd.func35, Tryd.ntmps35
  go_wp2
  go_ret
  exact ⟨rfl, rfl⟩
set_option maxHeartbeats 1000000 in
theorem range_parted {g : Operand} {p : Tmp} {assign body : Code} {Q : Exit → Act → World → Prop} {a : Act} {w : World} (n : Nat) (hn : 2 ≤ n) (Bs : Nat) (s : ByteArray) (pcs : List (List Int)) (hs : s.size ≤ 1000000000) (hp : ∀ p ∈ pcs, Piece p) (hj : nums s = joinC pcs) (hne : ¬ s.size = 0)
    (hg : a.eval g = .func (.func 55) #[] #[.pointer (some ⟨Bs, 0, none⟩)]) (hS : Sx w Bs s)
    (I Ix : List ByteArray → World → Prop)
    (hI1 : ∀ pre W v, I pre W → I pre (W.setCell ⟨Bs, 0, none⟩ (.string v)))
    (hI2 : ∀ pre W l o o', I pre W → w.heap.size ≤ l → W.heap[l]? = some o → o.isCells = false → I pre (W.putObj l o'))
    (hI3 : ∀ pre W o, I pre W → I pre (W.alloc o))
    (hIx : ∀ pre W l o o', Ix pre W → w.heap.size ≤ l → W.heap[l]? = some o → o.isCells = false → Ix pre (W.putObj l o'))
    (h0 : I [] w) (a₁ : ByteArray → Act)
    (hassign : ∀ (l : Nat) (x : ByteArray) (W : World) (K : Act → World → Prop), K (a₁ x) W → assign.wpIn (Fence.wide.inRound l) (n - 1 - 1) Tryd.prog (Exit.then K (fun _ _ _ => False)) { tmps := ((#[p] : Array Tmp).zip #[Value.string x]).foldl (fun t (q, v) => t.setIfInBounds q v) a.tmps, defers := [] } W)
    (hbody : ∀ (l : Nat) (pre : List ByteArray) (x : ByteArray) (W : World), x.size ≤ 1000000000 → I pre W → body.wpIn (Fence.wide.inRound l) (n - 1 - 1) Tryd.prog (leaveP I Ix Bs (pre ++ [x]) W) (a₁ x) W)
    (hdone : ∀ (D : Nat) (ys : List ByteArray) (W : World), w.heap.size ≤ D → ys.map nums = pcs → I ys W → W.heap[D]? = some (.deferred (some [])) → Q .normal { a with defers := { target := .collected D, args := #[] } :: a.defers } W)
    (hstop : ∀ (D : Nat) (pre : List ByteArray) (W : World), w.heap.size ≤ D → pre.map nums <+: pcs → Ix pre W → W.heap[D]? = some (.deferred (some [])) → Code.ret.wpIn Fence.wide n Tryd.prog Q { a with defers := { target := .collected D, args := #[] } :: a.defers } W) :
    (Code.rangeFunc g #[p] assign body).wpIn Fence.wide n Tryd.prog Q a w := by
  have hBs := hS.lt
  refine wpIn_rangeFunc ?_
  intro fn hfn
  obtain ⟨rec, hrec⟩ : ∃ rec : LoopState → Option Code → Loop, rec = fun st pe => { state := st, pending := pe, fn, tmps := a.tmps, params := #[p], assign, body, defers := w.heap.size } := ⟨_, rfl⟩
  obtain ⟨W1, hW1⟩ : ∃ W1, (w.alloc (.deferred (some []))).alloc (.loop (rec .ready none)) = W1 := ⟨_, rfl⟩
  have hL1 : W1.heap[w.heap.size + 1]? = some (.loop (rec .ready none)) := by
    have h := World.alloc_heap_new (w.alloc (.deferred (some []))) (.loop (rec .ready none))
    rw [World.size_alloc] at h
    rw [← hW1]; exact h
  have hD1 : W1.heap[w.heap.size]? = some (.deferred (some [])) := by
    rw [← hW1, Below.heap_alloc _ _ _ (by simp)]; exact World.alloc_heap_new w _
  have hB1 : Below w.heap.size w W1 := by rw [← hW1]; exact (keep w _).alloc (by simp) _
  have hi1 : I [] W1 := by rw [← hW1]; exact hI3 _ _ _ (hI3 _ _ _ h0)
  refine ⟨w.heap.size + 1, [{ target := .collected w.heap.size, args := #[] }], W1, { target := .fn (.func 55) #[.pointer (some ⟨Bs, 0, none⟩)], args := #[.func (.yield (w.heap.size + 1)) #[] #[]] }, W1, 55, #[.func (.yield (w.heap.size + 1)) #[] #[], .pointer (some ⟨Bs, 0, none⟩)], W1, ?_, ?_, fun _ _ => trivial, ?_, fun _ => by omega, ?_⟩
  · rw [← hW1, hrec]; exact run_enterLoop_outer _ _ _ _ _
  · simp only [resolve, hg]
    simp [go_sem]
  · simp [invoke, go_sem]
  · refine (parted1_in (n - 1) (by omega) (w.heap.size + 1) Bs s pcs hs hp hj hne
      (fun pre W => I pre W ∧ W.heap[w.heap.size + 1]? = some (.loop (rec .ready none)) ∧ W.heap[w.heap.size]? = some (.deferred (some [])))
      (fun pre W => Ix pre W ∧ W.heap[w.heap.size + 1]? = some (.loop (rec .done (some .ret))) ∧ W.heap[w.heap.size]? = some (.deferred (some [])))
      ?_ ?_ W1 ((hB1.block Bs hBs).trans hS) ⟨hi1, hL1, hD1⟩).mono ?_
    · rintro pre W v ⟨h1, h2, h3⟩
      exact ⟨hI1 _ _ _ h1, (heap_setCell_other _ _ _ _ (by simp; omega)).trans h2, (heap_setCell_other _ _ _ _ (by simp; omega)).trans h3⟩
    · rintro pre x W hxs ⟨h1, h2, h3⟩
      have hlt : w.heap.size + 1 < W.heap.size := (Array.getElem?_eq_some_iff.1 h2).1
      have hy := run_yield (P := Tryd.prog) (args := #[.string x]) h2 (by rw [hrec]; rfl)
      rw [hrec] at hy
      refine ⟨fn, _, assign, body, hy, roundIn_of_wpIn hfn (hassign _ x W _ ?_)⟩
      refine ⟨_, run_beginRound h2 (by rw [hrec]), ?_⟩
      have hl2 : (W.putObj (w.heap.size + 1) (.loop { rec .ready none with state := .busy })).heap[w.heap.size + 1]? = some (.loop { rec .ready none with state := .busy }) := World.putObj_heap_same hlt
      have hd2 : (W.putObj (w.heap.size + 1) (.loop { rec .ready none with state := .busy })).heap[w.heap.size]? = some (.deferred (some [])) := (World.putObj_heap_other (by omega)).trans h3
      have hi2 : I pre (W.putObj (w.heap.size + 1) (.loop { rec .ready none with state := .busy })) := hI2 _ _ _ _ _ h1 (by omega) h2 rfl
      have hbs2 : (W.putObj (w.heap.size + 1) (.loop { rec .ready none with state := .busy })).heap[Bs]? = W.heap[Bs]? := World.putObj_heap_other (by omega)
      generalize W.putObj (w.heap.size + 1) (.loop { rec .ready none with state := .busy }) = V at hl2 hd2 hi2 hbs2
      refine wpIn_mono (hbody _ pre x V hxs hi2) ?_
      rintro e a3 W3 hq
      cases e with
      | normal =>
        obtain ⟨hi3, hkn, hb3⟩ := hq
        have hl3 := hkn _ _ hl2 rfl
        have hd3 := hkn _ _ hd2 rfl
        have hr := run_endRound (P := Tryd.prog) none hl3
        refine ⟨_, _, hr, .inl ⟨rfl, ⟨hI2 _ _ _ _ _ hi3 (by omega) hl3 rfl, ?_, (World.putObj_heap_other (by omega)).trans hd3⟩, (World.putObj_heap_other (by omega)).trans (hb3.trans hbs2)⟩⟩
        rw [World.putObj_heap_same (Array.getElem?_eq_some_iff.1 hl3).1, hrec]; rfl
      | ret =>
        obtain ⟨hi3, hkn⟩ := hq
        have hl3 := hkn _ _ hl2 rfl
        have hd3 := hkn _ _ hd2 rfl
        have hr := run_endRound (P := Tryd.prog) (some .ret) hl3
        refine ⟨_, _, hr, .inr ⟨rfl, hIx _ _ _ _ _ hi3 (by omega) hl3 rfl, ?_, (World.putObj_heap_other (by omega)).trans hd3⟩⟩
        rw [World.putObj_heap_same (Array.getElem?_eq_some_iff.1 hl3).1, hrec]; rfl
      | exit id => exact hq.elim
      | goto t => exact hq.elim
      | panic ch => exact hq.elim
      | outgrown => exact hq.elim
    · rintro e W2 ⟨⟨v, rfl⟩, (⟨ys, hys, h1, h2, h3⟩ | ⟨pre, hpre, h1, h2, h3⟩)⟩
      · exact ⟨none, _, by have := run_endLoop (P := Tryd.prog) h2 (by rw [hrec]; simp); rw [hrec] at this; exact this, hdone _ ys _ (Nat.le_refl _) hys (hI2 _ _ _ _ _ h1 (by omega) h2 rfl) ((World.putObj_heap_other (by omega)).trans h3)⟩
      · exact ⟨some .ret, _, by have := run_endLoop (P := Tryd.prog) h2 (by rw [hrec]; simp); rw [hrec] at this; exact this, hstop _ pre _ (Nat.le_refl _) hpre (hIx _ _ _ _ _ h1 (by omega) h2 rfl) ((World.putObj_heap_other (by omega)).trans h3)⟩
end Go.Proofs.YtedbgjpjipblcaaDoor
