/-
  A range over a function, in general: the iterator changes blocks of its own alone, and may be stopped.
-/
import Derived.Test.YtbckbonffajmeaaGreatDoorSplit
namespace Go.Proofs.YtbckbonffajmeaaGreatDoor
open Go.RowKit Go.Shelf
set_option linter.unusedVariables false
attribute [local go_sem] Oper.semAt_some

/-- All but the blocks of O lies as it lay. -/
def Tk (O : Nat → Prop) (V V' : World) : Prop := V'.os = V.os ∧ V'.tape = V.tape ∧ V'.output = V.output ∧ V.heap.size ≤ V'.heap.size ∧ ∀ b, b < V.heap.size → ¬ O b → V'.heap[b]? = V.heap[b]?
theorem Tk.refl (O : Nat → Prop) (V : World) : Tk O V V := ⟨rfl, rfl, rfl, Nat.le_refl _, fun _ _ _ => rfl⟩
theorem Tk.trans {O : Nat → Prop} {U V W : World} (h : Tk O U V) (k : Tk O V W) : Tk O U W :=
  ⟨k.1.trans h.1, k.2.1.trans h.2.1, k.2.2.1.trans h.2.2.1, Nat.le_trans h.2.2.2.1 k.2.2.2.1, fun b hb hO => (k.2.2.2.2 b (by have := h.2.2.2.1; omega) hO).trans (h.2.2.2.2 b hb hO)⟩
theorem Tk.mono {O O' : Nat → Prop} {V W : World} (h : Tk O V W) (hO : ∀ b, O b → O' b) : Tk O' V W :=
  ⟨h.1, h.2.1, h.2.2.1, h.2.2.2.1, fun b hb q => h.2.2.2.2 b hb (fun r => q (hO b r))⟩
theorem Tk.of_below {O : Nat → Prop} {V W : World} (h : Below V.heap.size V W) : Tk O V W := ⟨h.os, h.tape, h.output, h.size, fun b hb _ => h.block b hb⟩
theorem Tk.alloc (O : Nat → Prop) (V : World) (o : Obj) : Tk O V (V.alloc o) := .of_below (keep V o)
theorem Tk.set {O : Nat → Prop} (V : World) (b i : Nat) (v : Value) (hO : O b) : Tk O V (V.setCell ⟨b, i, none⟩ v) := by
  have h := (Below.refl 0 V).setCell (p := ⟨b, i, none⟩) (Nat.zero_le _) v
  exact ⟨h.os, h.tape, h.output, h.size, fun k _ hk => heap_setCell_other _ _ _ _ (by rintro rfl; exact hk hO)⟩
theorem Tk.put {O : Nat → Prop} (V : World) (b : Nat) (o : Obj) (hO : O b) : Tk O V (V.putObj b o) := by
  have h := (Below.refl 0 V).grown (grownBy_putObj' V b o) (Nat.zero_le _) (fun k e => Nat.zero_le _)
  exact ⟨h.os, h.tape, h.output, h.size, fun k _ hk => World.putObj_heap_other (by rintro rfl; exact hk hO)⟩
theorem Tk.size {O : Nat → Prop} {V W : World} (h : Tk O V W) : V.heap.size ≤ W.heap.size := h.2.2.2.1
theorem Tk.kept {O : Nat → Prop} {V W : World} (h : Tk O V W) {b : Nat} {o : Obj} (hb : V.heap[b]? = some o) (hO : ¬ O b) : W.heap[b]? = some o := (h.2.2.2.2 b (Array.getElem?_eq_some_iff.1 hb).1 hO).trans hb
/-- An iterator: it hands on xs in their order, till it is stopped. -/
def ItG (n K : Nat) (caps : List Value) (O : Nat → Prop) (xs : List (Array Value)) (G : World → Prop) (W : World) : Prop :=
  ∀ (lp : Nat) (J : Nat → World → Prop) (Jx : World → Prop), (∀ k V V', J k V → Tk O V V' → J k V') → (∀ V V', Jx V → Tk O V V' → Jx V') → (∀ k V, J k V → G V) →
    (∀ k x V, xs[k]? = some x → J k V → (∀ b, O b → b < V.heap.size) → YieldAt Fence.wide (n - 1) Tryz.prog lp x V fun e V' => (e = .returned (.bool true) ∧ J (k + 1) V' ∧ ∀ b, O b → V'.heap[b]? = V.heap[b]?) ∨ (e = .returned (.bool false) ∧ Jx V' ∧ ∀ b, O b → V'.heap[b]? = V.heap[b]?)) →
    J 0 W → CallsIn Fence.wide n Tryz.prog K (.func (.yield lp) #[] #[] :: caps).toArray W fun e W' => (∃ v, e = .returned v) ∧ (J xs.length W' ∨ Jx W')
/-- How a round is left. -/
def leaveG (I : Nat → World → Prop) (Ix : Code → World → Prop) (k : Nat) (O : Nat → Prop) (W : World) : Exit → Act → World → Prop
  | .normal, _, W' => I k W' ∧ ∀ b, O b → W'.heap[b]? = W.heap[b]?
  | .ret, _, W' => Ix .ret W' ∧ ∀ b, O b → W'.heap[b]? = W.heap[b]?
  | .goto t, _, W' => Ix (.goto t) W' ∧ ∀ b, O b → W'.heap[b]? = W.heap[b]?
  | _, _, _ => False
set_option maxHeartbeats 2000000 in
theorem range_g {g : Operand} {ps : Array Tmp} {assign body : Code} {Q : Exit → Act → World → Prop} {a : Act} {w : World} (n : Nat) (K : Nat) (caps : List Value) (O : Nat → Prop) (xs : List (Array Value)) (G : World → Prop)
    (hit : ∀ W, Below w.heap.size w W → W.heap.size = w.heap.size + 2 → ItG (n - 1) K caps O xs G W)
    (hO : ∀ b, O b → b ≠ w.heap.size ∧ b ≠ w.heap.size + 1)
    (hps : ∀ (k : Nat) x, xs[k]? = some x → x.size = ps.size)
    (hg : a.eval g = .func (.func K) #[] caps.toArray)
    (hen : ∀ args w, (callFunc K args).run Tryz.prog w = .ok (.enter K args) w)
    (I : Nat → World → Prop) (Ix : Code → World → Prop)
    (hI : ∀ k W W', I k W → Tk (fun b => O b ∨ b = w.heap.size + 1) W W' → I k W')
    (hIx : ∀ c W W', Ix c W → Tk (fun b => O b ∨ b = w.heap.size + 1) W W' → Ix c W')
    (hG : ∀ k W, I k W → G W)
    (h0 : I 0 w) (a₁ : Array Value → Act)
    (hassign : ∀ (l k : Nat) (x : Array Value) (W : World) (K : Act → World → Prop), xs[k]? = some x → K (a₁ x) W → assign.wpIn (Fence.wide.inRound l) (n - 1 - 1) Tryz.prog (Exit.then K (fun _ _ _ => False)) { tmps := (ps.zip x).foldl (fun t (q, v) => t.setIfInBounds q v) a.tmps, defers := [] } W)
    (hbody : ∀ (l : Nat) (k : Nat) (x : Array Value) (W : World), xs[k]? = some x → I k W → w.heap.size + 2 ≤ W.heap.size → (∀ b, O b → b < W.heap.size) → body.wpIn (Fence.wide.inRound l) (n - 1 - 1) Tryz.prog (leaveG I Ix (k + 1) (fun b => O b ∨ b = w.heap.size ∨ b = w.heap.size + 1) W) (a₁ x) W)
    (hdone : ∀ (W : World), I xs.length W → W.heap[w.heap.size]? = some (.deferred (some [])) → Q .normal { a with defers := { target := .collected w.heap.size, args := #[] } :: a.defers } W)
    (hstop : ∀ (c : Code) (W : World), Ix c W → W.heap[w.heap.size]? = some (.deferred (some [])) → c.wpIn Fence.wide n Tryz.prog Q { a with defers := { target := .collected w.heap.size, args := #[] } :: a.defers } W) :
    (Code.rangeFunc g ps assign body).wpIn Fence.wide n Tryz.prog Q a w := by
  refine wpIn_rangeFunc ?_
  intro fn hfn
  obtain ⟨rec, hrec⟩ : ∃ rec : LoopState → Option Code → Loop, rec = fun st pe => { state := st, pending := pe, fn, tmps := a.tmps, params := ps, assign, body, defers := w.heap.size } := ⟨_, rfl⟩
  obtain ⟨W1, hW1⟩ : ∃ W1, (w.alloc (.deferred (some []))).alloc (.loop (rec .ready none)) = W1 := ⟨_, rfl⟩
  have hL1 : W1.heap[w.heap.size + 1]? = some (.loop (rec .ready none)) := by
    have h := World.alloc_heap_new (w.alloc (.deferred (some []))) (.loop (rec .ready none))
    rw [World.size_alloc] at h
    rw [← hW1]; exact h
  have hD1 : W1.heap[w.heap.size]? = some (.deferred (some [])) := by
    rw [← hW1, Below.heap_alloc _ _ _ (by simp)]; exact World.alloc_heap_new w _
  have hB1 : Below w.heap.size w W1 := by rw [← hW1]; exact (keep w _).alloc (by simp) _
  have hz1 : W1.heap.size = w.heap.size + 2 := by rw [← hW1]; simp
  have hi1 : I 0 W1 := hI _ _ _ h0 (.of_below hB1)
  refine ⟨w.heap.size + 1, [{ target := .collected w.heap.size, args := #[] }], W1, { target := .fn (.func K) caps.toArray, args := #[.func (.yield (w.heap.size + 1)) #[] #[]] }, W1, K, (.func (.yield (w.heap.size + 1)) #[] #[] :: caps).toArray, W1, ?_, ?_, fun _ _ => trivial, ?_, fun h => (by cases h), ?_⟩
  · rw [← hW1, hrec]; exact run_enterLoop_outer _ _ _ _ _
  · simp only [resolve, hg]
    simp [go_sem]
  · simp [invoke, go_sem, hen]
  · refine (hit W1 hB1 hz1 (w.heap.size + 1)
      (fun k W => I k W ∧ W.heap[w.heap.size + 1]? = some (.loop (rec .ready none)) ∧ W.heap[w.heap.size]? = some (.deferred (some [])))
      (fun W => ∃ c, Ix c W ∧ W.heap[w.heap.size + 1]? = some (.loop (rec .done (some c))) ∧ W.heap[w.heap.size]? = some (.deferred (some [])))
      ?_ ?_ (fun k W h => hG k W h.1) ?_ ⟨hi1, hL1, hD1⟩).mono ?_
    · rintro k W W' ⟨h1, h2, h3⟩ ht
      exact ⟨hI _ _ _ h1 (ht.mono fun b hb => .inl hb), ht.kept h2 (fun q => (hO _ q).2 rfl), ht.kept h3 (fun q => (hO _ q).1 rfl)⟩
    · rintro W W' ⟨c, h1, h2, h3⟩ ht
      exact ⟨c, hIx _ _ _ h1 (ht.mono fun b hb => .inl hb), ht.kept h2 (fun q => (hO _ q).2 rfl), ht.kept h3 (fun q => (hO _ q).1 rfl)⟩
    · rintro k x W hx ⟨h1, h2, h3⟩ hob
      have hlt : w.heap.size + 1 < W.heap.size := (Array.getElem?_eq_some_iff.1 h2).1
      have hy := run_yield (P := Tryz.prog) (args := x) h2 (by rw [hrec]; exact hps k x hx)
      rw [hrec] at hy
      refine ⟨fn, _, assign, body, hy, roundIn_of_wpIn hfn (hassign _ k x W _ hx ?_)⟩
      refine ⟨_, run_beginRound h2 (by rw [hrec]), ?_⟩
      have hl2 : (W.putObj (w.heap.size + 1) (.loop { rec .ready none with state := .busy })).heap[w.heap.size + 1]? = some (.loop { rec .ready none with state := .busy }) := World.putObj_heap_same hlt
      have hd2 : (W.putObj (w.heap.size + 1) (.loop { rec .ready none with state := .busy })).heap[w.heap.size]? = some (.deferred (some [])) := (World.putObj_heap_other (by omega)).trans h3
      have ht2 : Tk (fun b => O b ∨ b = w.heap.size + 1) W (W.putObj (w.heap.size + 1) (.loop { rec .ready none with state := .busy })) := Tk.put _ _ _ (.inr rfl)
      have hi2 := hI _ _ _ h1 ht2
      have ho2 : ∀ b, O b → (W.putObj (w.heap.size + 1) (.loop { rec .ready none with state := .busy })).heap[b]? = W.heap[b]? := fun b hb => World.putObj_heap_other (hO b hb).2
      have hz2 := ht2.size
      generalize W.putObj (w.heap.size + 1) (.loop { rec .ready none with state := .busy }) = V at hl2 hd2 hi2 ho2 hz2 ht2
      refine wpIn_mono (hbody _ k x V hx hi2 (by omega) (fun b hb => Nat.lt_of_lt_of_le (hob b hb) hz2)) ?_
      have fin : ∀ (jump : Option Code) (W3 : World), (∀ b, O b ∨ b = w.heap.size ∨ b = w.heap.size + 1 → W3.heap[b]? = V.heap[b]?) →
          (Instr.endRound (w.heap.size + 1) jump).run Tryz.prog W3 = .ok (.bool jump.isNone) (W3.putObj (w.heap.size + 1) (.loop (rec (if jump.isNone then .ready else .done) jump))) ∧
          (W3.putObj (w.heap.size + 1) (.loop (rec (if jump.isNone then .ready else .done) jump))).heap[w.heap.size + 1]? = some (.loop (rec (if jump.isNone then .ready else .done) jump)) ∧
          (W3.putObj (w.heap.size + 1) (.loop (rec (if jump.isNone then .ready else .done) jump))).heap[w.heap.size]? = some (.deferred (some [])) := fun jump W3 hk3 => by
        have hl3 := (hk3 _ (.inr (.inr rfl))).trans hl2
        have hd3 := (hk3 _ (.inr (.inl rfl))).trans hd2
        have := run_endRound (P := Tryz.prog) jump hl3
        rw [hrec] at this ⊢
        exact ⟨this, World.putObj_heap_same (Array.getElem?_eq_some_iff.1 hl3).1, (World.putObj_heap_other (by omega)).trans hd3⟩
      rintro e a3 W3 hq
      cases e with
      | normal =>
        obtain ⟨hi3, hk3⟩ := hq
        obtain ⟨hr, hl4, hd4⟩ := fin none W3 hk3
        exact ⟨_, _, hr, .inl ⟨rfl, ⟨hI _ _ _ hi3 (Tk.put _ _ _ (.inr rfl)), hl4, hd4⟩, fun b hb => (World.putObj_heap_other (hO b hb).2).trans ((hk3 b (.inl hb)).trans (ho2 b hb))⟩⟩
      | ret =>
        obtain ⟨hi3, hk3⟩ := hq
        obtain ⟨hr, hl4, hd4⟩ := fin (some .ret) W3 hk3
        exact ⟨_, _, hr, .inr ⟨rfl, ⟨.ret, hIx _ _ _ hi3 (Tk.put _ _ _ (.inr rfl)), hl4, hd4⟩, fun b hb => (World.putObj_heap_other (hO b hb).2).trans ((hk3 b (.inl hb)).trans (ho2 b hb))⟩⟩
      | goto t =>
        obtain ⟨hi3, hk3⟩ := hq
        obtain ⟨hr, hl4, hd4⟩ := fin (some (.goto t)) W3 hk3
        exact ⟨_, _, hr, .inr ⟨rfl, ⟨.goto t, hIx _ _ _ hi3 (Tk.put _ _ _ (.inr rfl)), hl4, hd4⟩, fun b hb => (World.putObj_heap_other (hO b hb).2).trans ((hk3 b (.inl hb)).trans (ho2 b hb))⟩⟩
      | exit id => exact hq.elim
      | panic ch => exact hq.elim
      | outgrown => exact hq.elim
    · rintro e W2 ⟨⟨v, rfl⟩, (⟨h1, h2, h3⟩ | ⟨c, h1, h2, h3⟩)⟩
      · exact ⟨none, _, by have := run_endLoop (P := Tryz.prog) h2 (by rw [hrec]; simp); rw [hrec] at this; exact this, hdone _ (hI _ _ _ h1 (Tk.put _ _ _ (.inr rfl))) ((World.putObj_heap_other (by omega)).trans h3)⟩
      · exact ⟨some c, _, by have := run_endLoop (P := Tryz.prog) h2 (by rw [hrec]; simp); rw [hrec] at this; exact this, hstop _ _ (hIx _ _ _ h1 (Tk.put _ _ _ (.inr rfl))) ((World.putObj_heap_other (by omega)).trans h3)⟩
theorem round_wide {n m l l' : Nat} {P : Program} {fn : FuncId} {tmps : Array Value} {assign body : Code} {W : World} {R : Ending → World → Prop} (h : RoundIn Fence.wide n P l fn tmps assign body W R) : RoundIn (Fence.wide.inRound l') m P l fn tmps assign body W R :=
  ⟨trivial, fun c cs _ => h.2 c cs (room_wide _)⟩
end Go.Proofs.YtbckbonffajmeaaGreatDoor
