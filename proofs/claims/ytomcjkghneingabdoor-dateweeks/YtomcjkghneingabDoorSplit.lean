/-
  A range over strings.SplitSeq at a sign of one byte: each piece is looked at, and one that may not be ends it.
-/
import Derived.RangeFuncNested
import Derived.RangeFuncBound
import Derived.RangeFuncCalls
import Derived.RangeFuncLeaves
import Derived.Shelf.Abstract
import Derived.Shelf.RegionOpen
import Derived.WalkKit
import Derived.OwnWalkIn
import Derived.TacticsInMore
import Derived.LoopNIn
import Derived.LoopIn
import Derived.Test.YtomcjkghneingabDoorPl
namespace Go.Proofs.YtomcjkghneingabDoor
open Go.RowKit Go.Shelf
set_option linter.unusedVariables false
attribute [local go_sem] Oper.semAt_some

/-- The pieces between the signs c. -/
def pieces (c : Int) : List Int → List (List Int)
  | [] => [[]]
  | d :: r => if d = c then [] :: pieces c r else ((d :: (pieces c r).headD []) :: (pieces c r).tail)
theorem pieces_ne (c : Int) : ∀ l, pieces c l ≠ []
  | [] => by simp [pieces]
  | d :: r => by unfold pieces; split <;> simp
theorem pieces_none {c : Int} : ∀ {l : List Int}, c ∉ l → pieces c l = [l]
  | [], _ => rfl
  | d :: r, h => by
    simp only [List.mem_cons, not_or] at h
    rw [pieces, if_neg (fun q => h.1 q.symm), pieces_none h.2]; rfl
theorem pieces_app {c : Int} : ∀ {a : List Int} (r : List Int), c ∉ a → pieces c (a ++ c :: r) = a :: pieces c r
  | [], r, _ => by simp [pieces]
  | d :: a, r, h => by
    simp only [List.mem_cons, not_or] at h
    rw [List.cons_append, pieces, if_neg (fun q => h.1 q.symm), pieces_app r h.2]; rfl
/-- All but block g lies as it lay. -/
def Kx (g : Nat) (w w' : World) : Prop := Below g w w' ∧ ∀ k, g < k → k < w.heap.size → w'.heap[k]? = w.heap[k]?
theorem Kx.refl (g : Nat) (w : World) : Kx g w w := ⟨Below.refl _ _, fun _ _ _ => rfl⟩
theorem Kx.block {g : Nat} {w w' : World} (h : Kx g w w') {k : Nat} (hk : k ≠ g) (hlt : k < w.heap.size) : w'.heap[k]? = w.heap[k]? := by
  rcases Nat.lt_or_ge k g with q | q
  · exact h.1.block k q
  · exact h.2 k (by omega) hlt
/-- The text that is left lies in block g. -/
def Sx (w : World) (g : Nat) (t : ByteArray) : Prop := w.heap[g]? = some (.cells #[.string t] 9 (0, 0))
theorem Sx.lt {w : World} {g : Nat} {t : ByteArray} (h : Sx w g t) : g < w.heap.size := (Array.getElem?_eq_some_iff.1 h).1
theorem Sx.cell {w : World} {g : Nat} {t : ByteArray} (h : Sx w g t) : w.cell? ⟨g, 0, none⟩ = some (.string t) := by rw [cell_of_row w _ _ _ _ _ h]; rfl
theorem Sx.frozen {w : World} {g : Nat} {t : ByteArray} (h : Sx w g t) : w.frozen? ⟨g, 0, none⟩ = false := frozen_of_row w _ _ _ _ h
theorem Sx.set {w : World} {g : Nat} {t : ByteArray} (h : Sx w g t) (t' : ByteArray) : Sx (w.setCell ⟨g, 0, none⟩ (.string t')) g t' := heap_setCell_same _ _ 0 _ 9 _ h
def restLen (w : World) (g : Nat) : Nat :=
  match w.cell? ⟨g, 0, none⟩ with
  | some (.string t) => t.size
  | _ => 0
theorem restLen_of {w : World} {g : Nat} {t : ByteArray} (h : Sx w g t) : restLen w g = t.size := by unfold restLen; rw [h.cell]
set_option maxRecDepth 100000 in
set_option maxHeartbeats 4000000 in
theorem split1_in (n : Nat) (hn : 1 ≤ n) (lp Bp Bs Bz : Nat) (u : UInt8) (s : ByteArray) (ok : List Int → Bool) (hs : s.size ≤ 1000000000) (J Jx : World → Prop)
    (hJ1 : ∀ W v, J W → J (W.setCell ⟨Bs, 0, none⟩ (.string v)))
    (hJ2 : ∀ W, J W → W.cell? ⟨Bp, 0, none⟩ = some (.string ⟨#[u]⟩) ∧ W.cell? ⟨Bz, 0, none⟩ = some (.int .i64 0))
    (hY : ∀ (x : ByteArray) W, x.size ≤ 1000000000 → J W → YieldAt Fence.wide (n - 1) Tryd.prog lp #[.string x] W fun e W' =>
      (ok (nums x) = true ∧ e = .returned (.bool true) ∧ J W' ∧ W'.heap[Bs]? = W.heap[Bs]?) ∨ (ok (nums x) = false ∧ e = .returned (.bool false) ∧ Jx W'))
    (W : World) (hS : Sx W Bs s) (h0 : J W) :
    CallsIn Fence.wide n Tryd.prog 71 #[.func (.yield lp) #[] #[], .pointer (some ⟨Bp, 0, none⟩), .pointer (some ⟨Bs, 0, none⟩), .pointer (some ⟨Bz, 0, none⟩)] W fun e W' => (∃ v, e = .returned v) ∧
      (((pieces (u.toNat : Int) (nums s)).all ok = true ∧ J W') ∨ ((pieces (u.toNat : Int) (nums s)).all ok = false ∧ Jx W')) := by
  obtain ⟨c0, c1⟩ := hJ2 W h0
  have h1 : (⟨#[u]⟩ : ByteArray).size = 1 := rfl
  refine callsIn_of_wp Tryd.func71 rfl trivial ?_ rfl
  simp only [Tryd.ntmps71, List.size_toArray, List.length_cons, List.length_nil, Nat.reduceAdd, Nat.reduceSub, Array.replicate_succ, Array.replicate_zero, List.push_toArray, List.append_toArray, List.nil_append, List.cons_append]
  gi_wp2
  clear c0 c1
  gi_loopw [29] (fun _ wr => ∃ t : ByteArray, t.size ≤ 1000000000 ∧ Sx wr Bs t ∧ J wr ∧ (pieces (u.toNat : Int) (nums t)).all ok = (pieces (u.toNat : Int) (nums s)).all ok) (fun _ wr => restLen wr Bs)
  case atStart => exact ⟨s, hs, hS, h0, rfl⟩
  case round =>
    obtain ⟨t, hts, hst, hj, hq⟩ := hrel
    have HQ : Hid ((pieces (u.toNat : Int) (nums t)).all ok = (pieces (u.toNat : Int) (nums s)).all ok) := hq
    have HST : Hid (Sx wr Bs t) := hst
    have HJ : Hid (J wr) := hj
    have HL : Hid (restLen wr Bs = t.size) := restLen_of hst
    obtain ⟨c0, c1⟩ := hJ2 wr hj
    have c2 := hst.cell
    have f2 := hst.frozen
    have HY : Hid _ := hY
    clear hq hst hj hS h0 hY
    rcases idx_ge (u.toNat : Int) (nums t) with h | ⟨h, hl⟩
    · have HP : Hid (pieces (u.toNat : Int) (nums t) = [nums t]) := pieces_none (idx_none h)
      obtain ⟨fn, tmps, assign, body, hy, hRd⟩ := HY.out t wr hts HJ.out
      gi_wp2_with (refine ⟨trivial, ?_⟩; gi_at_call 72; refine (callsIn_wide.2 (index77_any t u _)).mono ?_; rintro e w' ⟨rfl, rfl⟩; rw [h])
      refine hRd.mono ?_
      rintro e W3 (⟨hok, rfl, hJ3, hk3⟩ | ⟨hok, rfl, hJx3⟩)
      · have HA : Hid ((pieces (u.toNat : Int) (nums s)).all ok = true) := by unfold Hid; rw [← HQ.out, HP.out]; simp [hok]
        clear hy hRd
        gi_wp2
        go_end0
        exact ⟨⟨_, rfl⟩, .inl ⟨HA.out, hJ3⟩⟩
      · have HA : Hid ((pieces (u.toNat : Int) (nums s)).all ok = false) := by unfold Hid; rw [← HQ.out, HP.out]; simp [hok]
        clear hy hRd
        gi_wp2
        go_end0
        exact ⟨⟨_, rfl⟩, .inr ⟨HA.out, hJx3⟩⟩
    · obtain ⟨k, hk⟩ : ∃ k : Nat, idxZ (u.toNat : Int) (nums t) = k := ⟨(idxZ (u.toNat : Int) (nums t)).toNat, by omega⟩
      obtain ⟨e1, e2, e3⟩ := idx_some hk
      rw [nums_len] at e3
      have HP : Hid (pieces (u.toNat : Int) (nums t) = nums (t.extract 0 k) :: pieces (u.toNat : Int) (nums (t.extract (k + 1) t.size))) := by
        unfold Hid
        rw [nums_to, nums_from]
        conv => lhs; rw [e1]
        exact pieces_app _ e2
      have z1 : (t.extract 0 k).size ≤ 1000000000 := by rw [← nums_len, nums_to, List.length_take, nums_len]; omega
      have z2 : (t.extract (k + 1) t.size).size + (k + 1) = t.size := by rw [← nums_len, nums_from, List.length_drop, nums_len]; omega
      have d0 : decide ((k : Int) < 0) = false := by simp
      have k0 : (0 : Int) ≤ (k : Int) := by omega
      have k1 : (k : Int) ≤ (t.size : Int) := by omega
      have k2 : (k : Int) + 1 ≤ (t.size : Int) := by omega
      have k3 : (0 : Int) ≤ (k : Int) + 1 := by omega
      have k4 : ((k : Int) + 1).toNat = k + 1 := by omega
      clear e1 e2 h hl
      obtain ⟨fn, tmps, assign, body, hy, hRd⟩ := HY.out (t.extract 0 k) wr z1 HJ.out
      gi_wp2_with (refine ⟨trivial, ?_⟩; gi_at_call 72; refine (callsIn_wide.2 (index77_any t u _)).mono ?_; rintro e w' ⟨rfl, rfl⟩; rw [hk])
      refine hRd.mono ?_
      rintro e W3 (⟨hok, rfl, hJ3, hk3⟩ | ⟨hok, rfl, hJx3⟩)
      · have HA : Hid ((pieces (u.toNat : Int) (nums (t.extract (k + 1) t.size))).all ok = (pieces (u.toNat : Int) (nums s)).all ok) := by unfold Hid; rw [← HQ.out, HP.out]; simp [hok]
        have hst3 : Sx W3 Bs t := hk3.trans HST.out
        have HJ3 : Hid (J W3) := hJ3
        have HST4 : Hid (Sx (W3.setCell ⟨Bs, 0, none⟩ (.string (t.extract (k + 1) t.size))) Bs (t.extract (k + 1) t.size)) := hst3.set _
        obtain ⟨g0, g1⟩ := hJ2 W3 hJ3
        have g2 := hst3.cell
        have g3 := hst3.frozen
        clear hy hRd c0 c1 c2 f2 hk3 hst3 hJ3
        gi_wp2
        go_roundw
        case rel => exact ⟨_, by omega, HST4.out, hJ1 _ _ HJ3.out, HA.out⟩
        case measure => rw [restLen_of HST4.out, HL.out]; omega
      · have HA : Hid ((pieces (u.toNat : Int) (nums s)).all ok = false) := by unfold Hid; rw [← HQ.out, HP.out]; simp [hok]
        clear hy hRd
        gi_wp2
        refine bodyPost_ret (results_none rfl _ _ _) rfl ?_
        exact ⟨⟨_, rfl⟩, .inr ⟨HA.out, hJx3⟩⟩
/-- The cell of the answer, written with what it holds, is as it was. -/
theorem Kx.same {g R : Nat} {w W : World} (h : Kx g w W) (hR : w.heap[R]? = some (.cells #[.bool false] 4 (0, 0))) (hg : R ≠ g) : Kx g w (W.setCell ⟨R, 0, none⟩ (.bool false)) := by
  have hlt : R < w.heap.size := (Array.getElem?_eq_some_iff.1 hR).1
  have hWR : W.heap[R]? = some (.cells #[.bool false] 4 (0, 0)) := (h.block hg hlt).trans hR
  have hsame : (W.setCell ⟨R, 0, none⟩ (.bool false)).heap[R]? = some (.cells #[.bool false] 4 (0, 0)) := heap_setCell_same _ _ 0 _ 4 _ hWR
  have key : ∀ k : Nat, (W.setCell ⟨R, 0, none⟩ (.bool false)).heap[k]? = W.heap[k]? := by
    intro k
    by_cases hk : k = R
    · rw [hk, hsame, hWR]
    · exact heap_setCell_other _ _ _ _ (by simpa using hk)
  have h2 := (Below.refl 0 W).setCell (p := ⟨R, 0, none⟩) (Nat.zero_le _) (.bool false)
  exact ⟨⟨h2.os.trans h.1.os, h2.tape.trans h.1.tape, h2.output.trans h.1.output, Nat.le_trans h.1.size h2.size, fun k hk => (key k).trans (h.1.block k hk)⟩, fun k h3 h4 => (key k).trans (h.2 k h3 h4)⟩
theorem Kx.put {g l : Nat} {w W : World} (h : Kx g w W) (o : Obj) (hl : w.heap.size ≤ l) (hg : g < w.heap.size) : Kx g w (W.putObj l o) := by
  have h2 := (Below.refl w.heap.size W).grown (grownBy_putObj' W l o) h.1.size (fun k e => by cases e; exact hl)
  exact ⟨h.1.trans (h2.mono (by omega)), fun k h3 h4 => (World.putObj_heap_other (by omega)).trans (h.2 k h3 h4)⟩
/-- How a round is left. -/
def leaveS (ok : List Int → Bool) (x : ByteArray) (R : Nat) (W : World) : Exit → Act → World → Prop
  | .normal, _, W' => ok (nums x) = true ∧ W' = W
  | .ret, _, W' => ok (nums x) = false ∧ W' = W.setCell ⟨R, 0, none⟩ (.bool false)
  | _, _, _ => False
set_option maxHeartbeats 1000000 in
/-- The statement 'for piece := range strings.SplitSeq(s, sign)': its body goes on, or ends the function with a no. -/
theorem range_split {g : Operand} {p : Tmp} {assign body : Code} {Q : Exit → Act → World → Prop} {a : Act} {w : World} (n : Nat) (hn : 2 ≤ n) (Bp Bs Bz R : Nat) (u : UInt8) (s : ByteArray) (ok : List Int → Bool) (hs : s.size ≤ 1000000000)
    (hg : a.eval g = .func (.func 71) #[] #[.pointer (some ⟨Bp, 0, none⟩), .pointer (some ⟨Bs, 0, none⟩), .pointer (some ⟨Bz, 0, none⟩)])
    (hS : Sx w Bs s) (hp : w.cell? ⟨Bp, 0, none⟩ = some (.string ⟨#[u]⟩)) (hz : w.cell? ⟨Bz, 0, none⟩ = some (.int .i64 0)) (hpb : Bp ≠ Bs) (hzb : Bz ≠ Bs) (hR : w.heap[R]? = some (.cells #[.bool false] 4 (0, 0))) (hRs : R ≠ Bs)
    (a₁ : ByteArray → Act)
    (hassign : ∀ (l : Nat) (x : ByteArray) (W : World) (K : Act → World → Prop), K (a₁ x) W → assign.wpIn (Fence.wide.inRound l) (n - 1 - 1) Tryd.prog (Exit.then K (fun _ _ _ => False)) { tmps := ((#[p] : Array Tmp).zip #[Value.string x]).foldl (fun t (q, v) => t.setIfInBounds q v) a.tmps, defers := [] } W)
    (hbody : ∀ (l : Nat) (x : ByteArray) (W : World), x.size ≤ 1000000000 → Kx Bs w W → body.wpIn (Fence.wide.inRound l) (n - 1 - 1) Tryd.prog (leaveS ok x R W) (a₁ x) W)
    (hdone : ∀ (D : Nat) (W : World), w.heap.size ≤ D → Kx Bs w W → (pieces (u.toNat : Int) (nums s)).all ok = true → W.heap[D]? = some (.deferred (some [])) → Q .normal { a with defers := { target := .collected D, args := #[] } :: a.defers } W)
    (hstop : ∀ (D : Nat) (W : World), w.heap.size ≤ D → Kx Bs w W → (pieces (u.toNat : Int) (nums s)).all ok = false → W.heap[D]? = some (.deferred (some [])) → Code.ret.wpIn Fence.wide n Tryd.prog Q { a with defers := { target := .collected D, args := #[] } :: a.defers } W) :
    (Code.rangeFunc g #[p] assign body).wpIn Fence.wide n Tryd.prog Q a w := by
  have hBs := hS.lt
  have hRl : R < w.heap.size := (Array.getElem?_eq_some_iff.1 hR).1
  have hBp : Bp < w.heap.size := World.block_lt_of_cell? w _ hp
  have hBz : Bz < w.heap.size := World.block_lt_of_cell? w _ hz
  refine wpIn_rangeFunc ?_
  intro fn hfn
  obtain ⟨rec, hrec⟩ : ∃ rec : LoopState → Option Code → Loop, rec = fun st pe => { state := st, pending := pe, fn, tmps := a.tmps, params := #[p], assign, body, defers := w.heap.size } := ⟨_, rfl⟩
  obtain ⟨W1, hW1⟩ : ∃ W1, (w.alloc (.deferred (some []))).alloc (.loop (rec .ready none)) = W1 := ⟨_, rfl⟩
  have hL1 : W1.heap[w.heap.size + 1]? = some (.loop (rec .ready none)) := by
    have h := World.alloc_heap_new (w.alloc (.deferred (some []))) (.loop (rec .ready none))
    rw [World.size_alloc] at h
    rw [← hW1]; exact h
  have hD1 : W1.heap[w.heap.size]? = some (.deferred (some [])) := by
    rw [← hW1, Below.heap_alloc _ _ _ (by simp)]; exact World.alloc_heap_new w _
  have hB1 : Below w.heap.size w W1 := by rw [← hW1]; exact (keep w _).alloc (by simp) _
  have hK1 : Kx Bs w W1 := ⟨hB1.mono (by omega), fun k _ h => hB1.block k h⟩
  refine ⟨w.heap.size + 1, [{ target := .collected w.heap.size, args := #[] }], W1, { target := .fn (.func 71) #[.pointer (some ⟨Bp, 0, none⟩), .pointer (some ⟨Bs, 0, none⟩), .pointer (some ⟨Bz, 0, none⟩)], args := #[.func (.yield (w.heap.size + 1)) #[] #[]] }, W1, 71, #[.func (.yield (w.heap.size + 1)) #[] #[], .pointer (some ⟨Bp, 0, none⟩), .pointer (some ⟨Bs, 0, none⟩), .pointer (some ⟨Bz, 0, none⟩)], W1, ?_, ?_, fun _ _ => trivial, ?_, fun _ => by omega, ?_⟩
  · rw [← hW1, hrec]; exact run_enterLoop_outer _ _ _ _ _
  · simp only [resolve, hg]
    simp [go_sem]
  · simp [invoke, go_sem]
  · refine (split1_in (n - 1) (by omega) (w.heap.size + 1) Bp Bs Bz u s ok hs
      (fun W => Kx Bs w W ∧ W.heap[w.heap.size + 1]? = some (.loop (rec .ready none)) ∧ W.heap[w.heap.size]? = some (.deferred (some [])))
      (fun W => Kx Bs w W ∧ W.heap[w.heap.size + 1]? = some (.loop (rec .done (some .ret))) ∧ W.heap[w.heap.size]? = some (.deferred (some [])))
      ?_ ?_ ?_ W1 ((hB1.block Bs hBs).trans hS) ⟨hK1, hL1, hD1⟩).mono ?_
    · rintro W v ⟨h1, h2, h3⟩
      refine ⟨⟨h1.1.setCell (p := ⟨Bs, 0, none⟩) (Nat.le_refl _) _, fun k h4 h5 => (heap_setCell_other _ _ _ _ (by simp; omega)).trans (h1.2 k h4 h5)⟩, (heap_setCell_other _ _ _ _ (by simp; omega)).trans h2, (heap_setCell_other _ _ _ _ (by simp; omega)).trans h3⟩
    · rintro W ⟨h1, _⟩
      exact ⟨(World.cell?_of_block (w := w) (h1.block hpb hBp)).trans hp, (World.cell?_of_block (w := w) (h1.block hzb hBz)).trans hz⟩
    · rintro x W hxs ⟨h1, h2, h3⟩
      have hlt : w.heap.size + 1 < W.heap.size := (Array.getElem?_eq_some_iff.1 h2).1
      have hy := run_yield (P := Tryd.prog) (args := #[.string x]) h2 (by rw [hrec]; rfl)
      rw [hrec] at hy
      refine ⟨fn, _, assign, body, hy, roundIn_of_wpIn hfn (hassign _ x W _ ?_)⟩
      refine ⟨_, run_beginRound h2 (by rw [hrec]), ?_⟩
      have hl2 : (W.putObj (w.heap.size + 1) (.loop { rec .ready none with state := .busy })).heap[w.heap.size + 1]? = some (.loop { rec .ready none with state := .busy }) := World.putObj_heap_same hlt
      have hd2 : (W.putObj (w.heap.size + 1) (.loop { rec .ready none with state := .busy })).heap[w.heap.size]? = some (.deferred (some [])) := (World.putObj_heap_other (by omega)).trans h3
      have hk2 : Kx Bs w (W.putObj (w.heap.size + 1) (.loop { rec .ready none with state := .busy })) := h1.put _ (by omega) hBs
      have hbs2 : (W.putObj (w.heap.size + 1) (.loop { rec .ready none with state := .busy })).heap[Bs]? = W.heap[Bs]? := World.putObj_heap_other (by omega)
      generalize W.putObj (w.heap.size + 1) (.loop { rec .ready none with state := .busy }) = V at hl2 hd2 hk2 hbs2
      refine wpIn_mono (hbody _ x V hxs hk2) ?_
      rintro e a3 W3 hq
      cases e with
      | normal =>
        obtain ⟨hok, rfl⟩ := hq
        have hr := run_endRound (P := Tryd.prog) none hl2
        refine ⟨_, _, hr, .inl ⟨hok, rfl, ⟨hk2.put _ (by omega) hBs, ?_, (World.putObj_heap_other (by omega)).trans hd2⟩, (World.putObj_heap_other (by omega)).trans hbs2⟩⟩
        rw [World.putObj_heap_same (Array.getElem?_eq_some_iff.1 hl2).1, hrec]; rfl
      | ret =>
        obtain ⟨hok, rfl⟩ := hq
        have hl3 : (V.setCell ⟨R, 0, none⟩ (.bool false)).heap[w.heap.size + 1]? = some (.loop { rec .ready none with state := .busy }) := (heap_setCell_other _ _ _ _ (by simp; omega)).trans hl2
        have hr := run_endRound (P := Tryd.prog) (some .ret) hl3
        refine ⟨_, _, hr, .inr ⟨hok, rfl, (hk2.same hR hRs).put _ (by omega) hBs, ?_, (World.putObj_heap_other (by omega)).trans ((heap_setCell_other _ _ _ _ (by simp; omega)).trans hd2)⟩⟩
        rw [World.putObj_heap_same (Array.getElem?_eq_some_iff.1 hl3).1, hrec]; rfl
      | exit id => exact hq.elim
      | goto t => exact hq.elim
      | panic ch => exact hq.elim
      | outgrown => exact hq.elim
    · rintro e W2 ⟨⟨v, rfl⟩, (⟨hall, h1, h2, h3⟩ | ⟨hall, h1, h2, h3⟩)⟩
      · exact ⟨none, _, by have := run_endLoop (P := Tryd.prog) h2 (by rw [hrec]; simp); rw [hrec] at this; exact this, hdone _ _ (Nat.le_refl _) (h1.put _ (by omega) hBs) hall ((World.putObj_heap_other (by omega)).trans h3)⟩
      · exact ⟨some .ret, _, by have := run_endLoop (P := Tryd.prog) h2 (by rw [hrec]; simp); rw [hrec] at this; exact this, hstop _ _ (Nat.le_refl _) (h1.put _ (by omega) hBs) hall ((World.putObj_heap_other (by omega)).trans h3)⟩
end Go.Proofs.YtomcjkghneingabDoor
