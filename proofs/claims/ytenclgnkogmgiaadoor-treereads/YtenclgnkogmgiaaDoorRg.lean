/-
  A range over a function: the law of the statement, for an iterator that hands on given values.
-/
import Derived.RangeFuncNested
import Derived.RangeFuncBound
import Derived.RangeFuncCalls
import Derived.RangeFuncLeaves
import Derived.Shelf.Abstract
import Derived.Shelf.RegionOpen
import Derived.WalkKit
import Derived.OwnWalkIn
import Derived.TacticsInMore
import Derived.LoopNIn
import Derived.LoopIn
import Derived.Test.YtenclgnkogmgiaaDoorOn
namespace Go.Proofs.YtenclgnkogmgiaaDoor
open Go.RowKit Go.Shelf
set_option linter.unusedVariables false
attribute [local go_sem] Oper.semAt_some

/-- The text that is left lies in block g. -/
def Sx (w : World) (g : Nat) (t : ByteArray) : Prop := w.heap[g]? = some (.cells #[.string t] 9 (0, 0))
theorem Sx.lt {w : World} {g : Nat} {t : ByteArray} (h : Sx w g t) : g < w.heap.size := (Array.getElem?_eq_some_iff.1 h).1
theorem Sx.cell {w : World} {g : Nat} {t : ByteArray} (h : Sx w g t) : w.cell? ⟨g, 0, none⟩ = some (.string t) := by rw [cell_of_row w _ _ _ _ _ h]; rfl
theorem Sx.frozen {w : World} {g : Nat} {t : ByteArray} (h : Sx w g t) : w.frozen? ⟨g, 0, none⟩ = false := frozen_of_row w _ _ _ _ h
theorem Sx.set {w : World} {g : Nat} {t : ByteArray} (h : Sx w g t) (t' : ByteArray) : Sx (w.setCell ⟨g, 0, none⟩ (.string t')) g t' := heap_setCell_same _ _ 0 _ 9 _ h
/-- Whatever is no cells lies as it lay. -/
def KeepN (W W' : World) : Prop := ∀ (k : Nat) (o : Obj), W.heap[k]? = some o → o.isCells = false → W'.heap[k]? = some o
theorem keepN_of {W W' : World} (h : KeepsOthers W W') : KeepN W W' := fun k o hk ho => h.same k o hk ho
/-- How a round is left. -/
def leaveN (I : Nat → World → Prop) (k : Nat) (W : World) : Exit → Act → World → Prop
  | .normal, _, W' => I k W' ∧ KeepN W W'
  | _, _, _ => False
/-- An iterator: whatever holds from value to value holds at its end. -/
def IterP (n K : Nat) (Bs : Nat) (xs : List Value) (G : World → Prop) : Prop :=
  ∀ (lp : Nat) (J : Nat → World → Prop), (∀ k V, J k V → G V) → (∀ k V q, J k V → J k (V.drewN q)) →
    (∀ k x V, xs[k]? = some x → J k V → YieldAt Fence.wide (n - 1) Tryd.prog lp #[x] V fun e V' => e = .returned (.bool true) ∧ J (k + 1) V') →
    ∀ W, J 0 W → CallsIn Fence.wide n Tryd.prog K #[.func (.yield lp) #[] #[], .pointer (some ⟨Bs, 0, none⟩)] W fun e W' => (∃ v, e = .returned v) ∧ J xs.length W'
set_option maxHeartbeats 1000000 in
theorem range_vals {g : Operand} {p : Tmp} {assign body : Code} {Q : Exit → Act → World → Prop} {a : Act} {w : World} (n : Nat) (hn : 2 ≤ n) (K Bs : Nat) (xs : List Value) (G : World → Prop)
    (hit : IterP (n - 1) K Bs xs G)
    (hg : a.eval g = .func (.func K) #[] #[.pointer (some ⟨Bs, 0, none⟩)])
    (I : Nat → World → Prop)
    (hen : ∀ args w, (callFunc K args).run Tryd.prog w = .ok (.enter K args) w)
    (hIG : ∀ k W, I k W → G W)
    (hID : ∀ k W q, I k W → I k (W.drewN q))
    (hI2 : ∀ k W l o o', I k W → w.heap.size ≤ l → W.heap[l]? = some o → o.isCells = false → I k (W.putObj l o'))
    (hI3 : ∀ k W o, I k W → I k (W.alloc o))
    (h0 : I 0 w) (a₁ : Value → Act)
    (hassign : ∀ (l : Nat) (x : Value) (W : World) (K : Act → World → Prop), K (a₁ x) W → assign.wpIn (Fence.wide.inRound l) (n - 1 - 1) Tryd.prog (Exit.then K (fun _ _ _ => False)) { tmps := ((#[p] : Array Tmp).zip #[x]).foldl (fun t (q, v) => t.setIfInBounds q v) a.tmps, defers := [] } W)
    (hbody : ∀ (l : Nat) (k : Nat) (x : Value) (W : World), xs[k]? = some x → I k W → body.wpIn (Fence.wide.inRound l) (n - 1 - 1) Tryd.prog (leaveN I (k + 1) W) (a₁ x) W)
    (hdone : ∀ (D : Nat) (W : World), w.heap.size ≤ D → I xs.length W → W.heap[D]? = some (.deferred (some [])) → Q .normal { a with defers := { target := .collected D, args := #[] } :: a.defers } W) :
    (Code.rangeFunc g #[p] assign body).wpIn Fence.wide n Tryd.prog Q a w := by
  refine wpIn_rangeFunc ?_
  intro fn hfn
  obtain ⟨rec, hrec⟩ : ∃ rec : LoopState → Option Code → Loop, rec = fun st pe => { state := st, pending := pe, fn, tmps := a.tmps, params := #[p], assign, body, defers := w.heap.size } := ⟨_, rfl⟩
  obtain ⟨W1, hW1⟩ : ∃ W1, (w.alloc (.deferred (some []))).alloc (.loop (rec .ready none)) = W1 := ⟨_, rfl⟩
  have hL1 : W1.heap[w.heap.size + 1]? = some (.loop (rec .ready none)) := by
    have h := World.alloc_heap_new (w.alloc (.deferred (some []))) (.loop (rec .ready none))
    rw [World.size_alloc] at h
    rw [← hW1]; exact h
  have hD1 : W1.heap[w.heap.size]? = some (.deferred (some [])) := by
    rw [← hW1, Below.heap_alloc _ _ _ (by simp)]; exact World.alloc_heap_new w _
  have hi1 : I 0 W1 := by rw [← hW1]; exact hI3 _ _ _ (hI3 _ _ _ h0)
  refine ⟨w.heap.size + 1, [{ target := .collected w.heap.size, args := #[] }], W1, { target := .fn (.func K) #[.pointer (some ⟨Bs, 0, none⟩)], args := #[.func (.yield (w.heap.size + 1)) #[] #[]] }, W1, K, #[.func (.yield (w.heap.size + 1)) #[] #[], .pointer (some ⟨Bs, 0, none⟩)], W1, ?_, ?_, fun _ _ => trivial, ?_, fun _ => by omega, ?_⟩
  · rw [← hW1, hrec]; exact run_enterLoop_outer _ _ _ _ _
  · simp only [resolve, hg]
    simp [go_sem]
  · simp [invoke, go_sem, hen]
  · refine (hit (w.heap.size + 1)
      (fun k W => I k W ∧ W.heap[w.heap.size + 1]? = some (.loop (rec .ready none)) ∧ W.heap[w.heap.size]? = some (.deferred (some [])))
      (fun k W h => hIG k W h.1) (fun k W q h => ⟨hID k W q h.1, h.2⟩) ?_ W1 ⟨hi1, hL1, hD1⟩).mono ?_
    · rintro k x W hx ⟨h1, h2, h3⟩
      have hlt : w.heap.size + 1 < W.heap.size := (Array.getElem?_eq_some_iff.1 h2).1
      have hy := run_yield (P := Tryd.prog) (args := #[x]) h2 (by rw [hrec]; rfl)
      rw [hrec] at hy
      refine ⟨fn, _, assign, body, hy, roundIn_of_wpIn hfn (hassign _ x W _ ?_)⟩
      refine ⟨_, run_beginRound h2 (by rw [hrec]), ?_⟩
      have hl2 : (W.putObj (w.heap.size + 1) (.loop { rec .ready none with state := .busy })).heap[w.heap.size + 1]? = some (.loop { rec .ready none with state := .busy }) := World.putObj_heap_same hlt
      have hd2 : (W.putObj (w.heap.size + 1) (.loop { rec .ready none with state := .busy })).heap[w.heap.size]? = some (.deferred (some [])) := (World.putObj_heap_other (by omega)).trans h3
      have hi2 : I k (W.putObj (w.heap.size + 1) (.loop { rec .ready none with state := .busy })) := hI2 _ _ _ _ _ h1 (by omega) h2 rfl
      generalize W.putObj (w.heap.size + 1) (.loop { rec .ready none with state := .busy }) = V at hl2 hd2 hi2
      refine wpIn_mono (hbody _ k x V hx hi2) ?_
      rintro e a3 W3 hq
      cases e with
      | normal =>
        obtain ⟨hi3, hkn⟩ := hq
        have hl3 := hkn _ _ hl2 rfl
        have hd3 := hkn _ _ hd2 rfl
        have hr := run_endRound (P := Tryd.prog) none hl3
        refine ⟨_, _, hr, rfl, hI2 _ _ _ _ _ hi3 (by omega) hl3 rfl, ?_, (World.putObj_heap_other (by omega)).trans hd3⟩
        rw [World.putObj_heap_same (Array.getElem?_eq_some_iff.1 hl3).1, hrec]; rfl
      | ret => exact hq.elim
      | exit id => exact hq.elim
      | goto t => exact hq.elim
      | panic ch => exact hq.elim
      | outgrown => exact hq.elim
    · rintro e W2 ⟨⟨v, rfl⟩, h1, h2, h3⟩
      exact ⟨none, _, by have := run_endLoop (P := Tryd.prog) h2 (by rw [hrec]; simp); rw [hrec] at this; exact this, hdone _ _ (Nat.le_refl _) (hI2 _ _ _ _ _ h1 (by omega) h2 rfl) ((World.putObj_heap_other (by omega)).trans h3)⟩
end Go.Proofs.YtenclgnkogmgiaaDoor
