/-
  What Parse has read of a header so far: where it lies; the contract of goOn.
-/
import Derived.Test.YtmdkmedlncfcbaaGreatDoorGet
import Derived.RegionTactic
import Derived.BigRegion
import Derived.Handy
import Derived.Deep.WholeRow
namespace Go.Proofs.YtmdkmedlncfcbaaGreatDoor
open Go.RowKit
set_option linter.unusedVariables false

/-- What was read of a header so far. -/
structure HS where
  fs : List (ByteArray × ByteArray)
  nm : ByteArray
  val : List Int
  beg : Int
def cellF (f : ByteArray × ByteArray) : List Value := [.string f.1, .string f.2]
def OwnF (w : World) (B : Nat) (v : Value) (fs : List (ByteArray × ByteArray)) : Prop := w.ownsRow B 50 2 v fs.length (fs.flatMap cellF)
def cellsH (vf vv : Value) (s : HS) : Array Value := #[vf, .string s.nm, vv, .int .i64 s.beg]
def Hd (w : World) (B g : Nat) (s : HS) : Prop := g < B ∧ B ≤ w.heap.size ∧ ∃ vf vv, w.heap[g]? = some (.cells (cellsH vf vv s) 95 (0, 0)) ∧ OwnF w B vf s.fs ∧ Own w B vv s.val
/-- All but the reader's own lies as it lay. -/
def Bx (B g : Nat) (w w' : World) : Prop := Below g w w' ∧ ∀ k, g < k → k < B → w'.heap[k]? = w.heap[k]?
theorem Bx.refl (B g : Nat) (w : World) : Bx B g w w := ⟨Below.refl _ _, fun _ _ _ => rfl⟩
theorem Bx.trans {B g : Nat} {a b c : World} (h : Bx B g a b) (k : Bx B g b c) : Bx B g a c := ⟨h.1.trans k.1, fun j h1 h2 => (k.2 j h1 h2).trans (h.2 j h1 h2)⟩
theorem Bx.drewN {B g : Nat} {a b : World} (h : Bx B g a b) (q : Nat) : Bx B g a (b.drewN q) := ⟨⟨h.1.os, h.1.tape, h.1.output, h.1.size, h.1.block⟩, h.2⟩
theorem Bx.set {B g : Nat} (w : World) (i : Nat) (u : Value) : Bx B g w (w.setCell ⟨g, i, none⟩ u) :=
  ⟨(Below.refl g w).setCell (p := ⟨g, i, none⟩) (Nat.le_refl _) u, fun k h1 h2 => heap_setCell_other _ _ _ _ (by simp; omega)⟩
theorem Bx.alloc {B g : Nat} (w : World) (o : Obj) (hg : g < B) (hB : B ≤ w.heap.size) : Bx B g w (w.alloc o) :=
  ⟨(Below.refl g w).alloc (by omega) o, fun k h1 h2 => Below.heap_alloc w o k (by omega)⟩
theorem own_other {w : World} {B : Nat} {v : Value} {l : List Int} {f o : Nat} {u : Value} (hf : f < B) (h : Own w B v l) : Own (w.setCell ⟨f, o, none⟩ u) B v l := by
  refine ⟨h.1, ?_⟩
  rcases h.2 with h | ⟨g, cap, cur, h1, h2, h3, h4⟩
  · exact .inl h
  · refine .inr ⟨g, cap, cur, h1, h2, ?_, h4⟩
    rw [heap_setCell_other _ _ _ _ (by simp; omega)]
    exact h3
theorem size_setCell (w : World) (a : Addr) (u : Value) : w.heap.size ≤ (w.setCell a u).heap.size := ((Below.refl 0 w).setCell (p := a) (Nat.zero_le _) u).size
theorem grow_below {w w' : World} {B : Nat} {v : Value} {l : List Int} (hBw : B ≤ w.heap.size) (hg : w.grownBy w' v.ownBlock) (ho : Own w B v l) : Below B w w' := by
  refine (Below.refl B w).grown hg hBw ?_
  intro k hk
  rcases ho.2 with ⟨rfl, _⟩ | ⟨b, cap, cur, rfl, h2, _⟩
  · simp [Value.ownBlock] at hk
  · simp [Value.ownBlock] at hk; omega

theorem ownsRow_other {w : World} {B e size : Nat} {v : Value} {n : Nat} {xs : List Value} {f o : Nat} {u : Value} (hf : f < B) (h : w.ownsRow B e size v n xs) : (w.setCell ⟨f, o, none⟩ u).ownsRow B e size v n xs := by
  refine ⟨h.1, ?_⟩
  rcases h.2 with h | ⟨g, cap, cur, h1, h2, h3, h4⟩
  · exact .inl h
  · refine .inr ⟨g, cap, cur, h1, h2, ?_, h4⟩
    rw [heap_setCell_other _ _ _ _ (by simp; omega)]
    exact h3
/-- A row of fields is kept where a row of bytes grows. -/
theorem ownF_grown {w w' : World} {B : Nat} {vf v : Value} {fs : List (ByteArray × ByteArray)} {l : List Int} (h : OwnF w B vf fs) (ho : Own w B v l) (hg : w.grownBy w' v.ownBlock) : OwnF w' B vf fs := by
  refine ⟨h.1, ?_⟩
  rcases h.2 with h | ⟨b, cap, cur, h1, h2, h3, h4⟩
  · exact .inl h
  · refine .inr ⟨b, cap, cur, h1, h2, ?_, h4⟩
    have hlt : b < w.heap.size := (Array.getElem?_eq_some_iff.1 h3).1
    rw [hg.block b hlt ?_]
    · exact h3
    · intro hk
      rcases ho.2 with ⟨rfl, _⟩ | ⟨b2, cap2, cur2, rfl, q2, q3, _⟩
      · simp [Value.ownBlock] at hk
      · simp [Value.ownBlock] at hk
        subst hk
        rw [q3] at h3
        simp at h3
theorem ne_type {w : World} {B e size : Nat} {v : Value} {n : Nat} {xs : List Value} {g : Nat} {cs : Array Value} {e' : TypeId} {k : Nat × Nat} (h : w.ownsRow B e size v n xs) (hg : w.heap[g]? = some (.cells cs e' k)) (he : e' ≠ e) : some g ≠ v.ownBlock := by
  intro hk
  rcases h.2 with ⟨rfl, _⟩ | ⟨b, cap, cur, rfl, h2, h3, _⟩
  · simp [Value.ownBlock] at hk
  · simp [Value.ownBlock] at hk
    subst hk
    rw [hg] at h3
    simp at h3
    exact he h3.2.1
theorem own_grown {w w' : World} {B e size : Nat} {v : Value} {n : Nat} {xs : List Value} {B' e' size' : Nat} {v' : Value} {n' : Nat} {xs' : List Value} (h : w.ownsRow B e size v n xs) (ho : w.ownsRow B' e' size' v' n' xs') (he : e ≠ e') (hg : w.grownBy w' v'.ownBlock) : w'.ownsRow B e size v n xs := by
  refine ⟨h.1, ?_⟩
  rcases h.2 with h | ⟨b, cap, cur, h1, h2, h3, h4⟩
  · exact .inl h
  · refine .inr ⟨b, cap, cur, h1, h2, ?_, h4⟩
    rw [hg.block b (Array.getElem?_eq_some_iff.1 h3).1 (ne_type ho h3 he)]
    exact h3
/-- What is neither bytes, nor fields, nor a header. -/
def Oth (o : Obj) : Prop := ∀ cs k, o ≠ .cells cs 5 k ∧ o ≠ .cells cs 50 k ∧ o ≠ .cells cs 95 k
theorem Oth.of {cs : Array Value} {t : TypeId} {k : Nat × Nat} (h5 : t ≠ 5) (h44 : t ≠ 50) (h48 : t ≠ 95) : Oth (.cells cs t k) := fun _ _ =>
  ⟨fun e => by cases e; exact h5 rfl, fun e => by cases e; exact h44 rfl, fun e => by cases e; exact h48 rfl⟩
/-- All else lies as it lay. -/
def Tk (w w' : World) : Prop := ∀ (r : Nat) (o : Obj), w.heap[r]? = some o → Oth o → w'.heap[r]? = some o
theorem Tk.f {w w' : World} (h : Tk w w') {r : Nat} {cs : Array Value} {k : Nat × Nat} (q : w.heap[r]? = some (.cells cs 55 k)) : w'.heap[r]? = some (.cells cs 55 k) := h r _ q (Oth.of (by decide) (by decide) (by decide))
theorem Tk.refl (w : World) : Tk w w := fun _ _ h _ => h
theorem Tk.trans {a b c : World} (h : Tk a b) (k : Tk b c) : Tk a c := fun r o q ho => k r o (h r o q ho) ho
theorem Tk.below {w w' : World} (h : Below w.heap.size w w') : Tk w w' := fun r o q _ => (h.block r (Array.getElem?_eq_some_iff.1 q).1).trans q
theorem ne_oth {w : World} {B e size : Nat} {v : Value} {n : Nat} {xs : List Value} {g : Nat} {o : Obj} (h : w.ownsRow B e size v n xs) (hg : w.heap[g]? = some o) (he : ∀ cs k, o ≠ .cells cs e k) : some g ≠ v.ownBlock := by
  intro hk
  rcases h.2 with ⟨rfl, _⟩ | ⟨b, cap, cur, rfl, h2, h3, _⟩
  · simp [Value.ownBlock] at hk
  · simp [Value.ownBlock] at hk
    subst hk
    rw [hg] at h3
    simp at h3
    exact he _ _ h3
theorem Tk.grown {w w' : World} {B e size : Nat} {v : Value} {n : Nat} {xs : List Value} (h : w.ownsRow B e size v n xs) (he : e = 5 ∨ e = 50) (hg : w.grownBy w' v.ownBlock) : Tk w w' := fun r o q ho =>
  (hg.block r (Array.getElem?_eq_some_iff.1 q).1 (ne_oth h q (fun cs k => by rcases he with rfl | rfl <;> first | exact (ho cs k).1 | exact (ho cs k).2.1))).trans q
theorem Tk.set {w : World} {g o : Nat} {u : Value} {cs : Array Value} {k : Nat × Nat} (hg : w.heap[g]? = some (.cells cs 95 k)) : Tk w (w.setCell ⟨g, o, none⟩ u) := by
  intro r ob q ho
  rw [heap_setCell_other _ _ _ _ ?_]
  · exact q
  · intro e
    simp only at e
    subst e
    rw [hg] at q
    simp at q
    exact (ho cs k).2.2 q.symm
theorem Tk.res {w W : World} {R o : Nat} {u : Value} (h : Tk w W) (hR : w.heap.size ≤ R) : Tk w (W.setCell ⟨R, o, none⟩ u) := by
  intro r ob q ho
  have hr := (Array.getElem?_eq_some_iff.1 q).1
  rw [heap_setCell_other _ _ _ _ (by simp; omega)]
  exact h r ob q ho
theorem hd_val {w w' : World} {B g : Nat} {s : HS} {vf v v' : Value} {l : List Int} (hB : g < B) (hBw : B ≤ w.heap.size) (h : w.heap[g]? = some (.cells (cellsH vf v s) 95 (0, 0))) (hf : OwnF w B vf s.fs) (hg : w.grownBy w' v.ownBlock) (ho : Own w B v s.val) (hv : Own w' B v' l) :
    Hd (w'.setCell ⟨g, 2, none⟩ v') B g { s with val := l } ∧ Bx B g w (w'.setCell ⟨g, 2, none⟩ v') ∧ Tk w (w'.setCell ⟨g, 2, none⟩ v') := by
  have hbl : Below B w w' := grow_below hBw hg ho
  refine ⟨⟨hB, Nat.le_trans (Nat.le_trans hBw hbl.size) (size_setCell _ _ _), vf, v', heap_setCell_same w' g 2 _ 95 _ ((hbl.block g hB).trans h), ownsRow_other hB (ownF_grown hf ho hg), own_other hB hv⟩, ?_⟩
  exact ⟨Bx.trans ⟨hbl.mono (by omega), fun k _ h2 => hbl.block k h2⟩ (Bx.set _ _ _), (Tk.grown ho (.inl rfl) hg).trans (Tk.set ((hbl.block g hB).trans h))⟩
theorem Hd.alloc {w : World} {B g : Nat} {s : HS} (h : Hd w B g s) (o : Obj) : Hd (w.alloc o) B g s := by
  obtain ⟨h1, h2, vf, v, h3, h4, h5⟩ := h
  exact ⟨h1, by simp; omega, vf, v, (Below.heap_alloc w o g (by omega)).trans h3, own_keep h4 (keep w o), own_keep h5 (keep w o)⟩
theorem Hd.below {w w' : World} {B g : Nat} {s : HS} (h : Hd w B g s) (hb : Below w.heap.size w w') : Hd w' B g s := by
  obtain ⟨h1, h2, vf, v, h3, h4, h5⟩ := h
  exact ⟨h1, Nat.le_trans h2 hb.size, vf, v, (hb.block g (by omega)).trans h3, own_keep h4 hb, own_keep h5 hb⟩
/-- What is written to a variable of another type turns no row. -/
theorem ownsRow_type {w : World} {B e size : Nat} {v : Value} {n : Nat} {xs : List Value} {f o : Nat} {u : Value} {cs : Array Value} {e' : TypeId} {k : Nat × Nat} (hf : w.heap[f]? = some (.cells cs e' k)) (he : e' ≠ e) (h : w.ownsRow B e size v n xs) : (w.setCell ⟨f, o, none⟩ u).ownsRow B e size v n xs := by
  refine ⟨h.1, ?_⟩
  rcases h.2 with h | ⟨b, cap, cur, h1, h2, h3, h4⟩
  · exact .inl h
  · refine .inr ⟨b, cap, cur, h1, h2, ?_, h4⟩
    rw [heap_setCell_other _ _ _ _ ?_]
    · exact h3
    · intro q
      simp only at q
      subst q
      rw [hf] at h3
      simp at h3
      exact he h3.2.1
theorem Hd.res {w : World} {B g : Nat} {s : HS} {f o : Nat} {u : Value} {cs : Array Value} {k : Nat × Nat} (h : Hd w B g s) (hf : w.heap[f]? = some (.cells cs 55 k)) : Hd (w.setCell ⟨f, o, none⟩ u) B g s := by
  obtain ⟨h1, h2, vf, v, h3, h4, h5⟩ := h
  refine ⟨h1, Nat.le_trans h2 (size_setCell _ _ _), vf, v, ?_, ownsRow_type hf (by decide) h4, ownsRow_type hf (by decide) h5⟩
  rw [heap_setCell_other _ _ _ _ ?_]
  · exact h3
  · intro q
    simp only at q
    subst q
    rw [hf] at h3
    simp at h3
theorem Bx.res {B g : Nat} (w : World) (f o : Nat) (u : Value) (hg : g < B) (hf : B ≤ f) : Bx B g w (w.setCell ⟨f, o, none⟩ u) :=
  ⟨(Below.refl g w).setCell (p := ⟨f, o, none⟩) (by simp; omega) u, fun k h1 h2 => heap_setCell_other _ _ _ _ (by simp; omega)⟩
theorem own_block_lt {w : World} {B e size : Nat} {v : Value} {n : Nat} {xs : List Value} (h : w.ownsRow B e size v n xs) : ∀ k, v.ownBlock = some k → k < w.heap.size := by
  intro k hk
  rcases h.2 with ⟨rfl, _⟩ | ⟨b, cap, cur, rfl, h2, h3, _⟩
  · simp [Value.ownBlock] at hk
  · simp [Value.ownBlock] at hk
    subst hk
    exact (Array.getElem?_eq_some_iff.1 h3).1
def faultV (p c : Int) : Value := .agg #[.int .i64 p, .int .i64 c]
/-- goOn. -/
def goOnZ (s : HS) (l : List Int) : HS := if s.nm.toList = [] then s else { s with val := s.val ++ l }
set_option maxHeartbeats 1000000 in
set_option maxRecDepth 100000 in
theorem goOn_any (B g : Nat) (s : HS) (w : World) (hr : Hd w B g s) (p : Int) (a : Option Addr) (m c : Nat) (l : List Int) (hl : l.length = m) (hnil : a = none → c = 0) (hrow : RowK .u8 w a l) (hb : s.val.length + m ≤ 2000000000) :
    Calls Tryz.prog 64 #[.pointer (some ⟨g, 0, none⟩), .int .i64 p, .slice a m c] w fun e w' => e = .returned (if s.nm.toList = [] then faultV p 50 else faultV 0 0) ∧ Hd w' B g (goOnZ s l) ∧ Bx B g w w' ∧ Tk w w' := by
  obtain ⟨j0, hi, hz0, hz1, hz2⟩ := info_parts Tryz.info5
  have HR : Hid (Hd w B g s) := hr
  have HW : Hid (RowK .u8 w a l) := hrow
  obtain ⟨h1, h2, vf, v, hg, hf, ho⟩ := hr
  have a0 : w.cell? ⟨g, 0, none⟩ = some vf := by rw [cell_of_row w _ _ _ _ _ hg]; rfl
  have a1 : w.cell? ⟨g, 1, none⟩ = some (.string s.nm) := by rw [cell_of_row w _ _ _ _ _ hg]; rfl
  have a2 : w.cell? ⟨g, 2, none⟩ = some v := by rw [cell_of_row w _ _ _ _ _ hg]; rfl
  have af2 : w.frozen? ⟨g, 2, none⟩ = false := frozen_of_row w _ _ _ _ hg
  have HG : Hid (w.heap[g]? = some (.cells (cellsH vf v s) 95 (0, 0))) := hg
  have HO : Hid (Own w B v s.val) := ho
  have HF : Hid (OwnF w B vf s.fs) := hf
  have hgw : g < w.heap.size := by omega
  clear hg ho hrow hf
  obtain ⟨nm, hnm⟩ : ∃ nm, s.nm = nm := ⟨_, rfl⟩
  have HNM : Hid (s.nm = nm) := hnm
  rw [hnm] at a1
  rw [hnm]
  clear hnm
  by_cases hn : nm.toList = []
  · have HN : Hid (nm.toList = []) := hn
    go_enter Tryz.func64, Tryz.ntmps64
    go_wp2
    go_returns
    refine ⟨rfl, ?_, Bx.alloc _ _ h1 h2, Tk.below (keep w _)⟩
    rw [goOnZ, if_pos (by rw [HNM.out]; exact HN.out)]
    exact HR.out.alloc _
  · have hq : (nm.toList == ([] : List UInt8)) = false := by simp [hn]
    have HN : Hid (¬ nm.toList = []) := hn
    have k1 : ∀ o, (w.alloc o).heap.size = w.heap.size + 1 := fun o => by simp
    go_enter Tryz.func64, Tryz.ntmps64
    go_wp2_with (at_builtin; refine wpList_append_rowk rfl _ _ 22 rfl B 5 j0 (.int .u8 0) 1 Tryz.underlying22 hi hz0 hz1 hz2 rfl .u8 _ _ _ rfl (own_keep HO.out (keep w _)) a m c l rfl hl hnil (rowK_below HW.out (keep w _)) (by unfold maxLen; omega) (by omega) (by simp; omega) ?_)
    intro v' w2 hown hgrow
    have hown' : Own w2 B v' (s.val ++ l) := own_snoc (by rw [hl]; exact hown)
    have hgw1 : g < (w.alloc (.cells #[.int .i64 0, .int .i64 0] 55)).heap.size := by simp; omega
    have hBw1 : B ≤ (w.alloc (.cells #[.int .i64 0, .int .i64 0] 55)).heap.size := by simp; omega
    have hG1 : (w.alloc (.cells #[.int .i64 0, .int .i64 0] 55)).heap[g]? = some (.cells (cellsH vf v s) 95 (0, 0)) := (Below.heap_alloc w _ g hgw).trans HG.out
    have hO1 : Own (w.alloc (.cells #[.int .i64 0, .int .i64 0] 55)) B v s.val := own_keep HO.out (keep w _)
    have hk := hd_val h1 hBw1 hG1 (own_keep HF.out (keep w _)) hgrow hO1 hown'
    have hbl := grow_below hBw1 hgrow hO1
    obtain ⟨a', cap', rfl, _⟩ := own_row' hown'
    rw [List.length_append, hl] at hk
    have hne : v.ownBlock ≠ some w.heap.size := fun q => by have := own_block_lt HO.out _ q; omega
    have hres : w2.heap[w.heap.size]? = some (.cells #[.int .i64 0, .int .i64 0] 55 (0, 0)) := by
      rw [hgrow.block w.heap.size (by simp) (Ne.symm hne)]
      exact heap_alloc_last w _
    have HK : Hid (_ ∧ _) := hk
    have HS : Hid (w2.heap[w.heap.size]? = some (.cells #[.int .i64 0, .int .i64 0] 55 (0, 0))) := hres
    have c2 : w2.cell? ⟨g, 2, none⟩ = some v := (hbl.cell (p := ⟨g, 2, none⟩) h1).trans (by rw [cell_of_row _ _ _ _ _ _ hG1]; rfl)
    have f2 : w2.frozen? ⟨g, 2, none⟩ = false := (hbl.frozen (p := ⟨g, 2, none⟩) h1).trans (frozen_of_row _ _ _ _ _ hG1)
    have d0 : w2.cell? ⟨w.heap.size, 0, none⟩ = some (.int .i64 0) := by rw [cell_of_row _ _ _ _ _ _ hres]; rfl
    have d1 : w2.cell? ⟨w.heap.size, 1, none⟩ = some (.int .i64 0) := by rw [cell_of_row _ _ _ _ _ _ hres]; rfl
    have e0 : w2.frozen? ⟨w.heap.size, 0, none⟩ = false := frozen_of_row _ _ _ _ _ hres
    have e1 : w2.frozen? ⟨w.heap.size, 1, none⟩ = false := frozen_of_row _ _ _ _ _ hres
    have hgs : g ≠ w.heap.size := by omega
    clear hk hown hgrow hown' hbl hres hG1 hO1 hne
    go_wp2
    have hq0 : (w2.setCell ⟨g, 2, none⟩ (.slice a' (s.val.length + m) cap')).heap[w.heap.size]? = some (.cells #[.int .i64 0, .int .i64 0] 55 (0, 0)) := by
      rw [heap_setCell_other _ _ _ _ (by simp; omega)]; exact HS.out
    have hq1 := heap_setCell_same _ _ 0 _ 55 (.int .i64 0) hq0
    have hq2 := heap_setCell_same _ _ 1 _ 55 (.int .i64 0) hq1
    have hx0 := cell_of_row _ _ 0 _ _ _ hq1
    have hx1 := cell_of_row _ _ 1 _ _ _ hq2
    (try simp only [Exit.inBlock, Exit.then])
    refine bodyPost_ret (v := faultV 0 0) (by simp [results, Tryz.results64, go_sem, hx0, hx1]; rfl) rfl ⟨rfl, ?_, ?_⟩
    · rw [goOnZ, if_neg (by rw [HNM.out]; exact HN.out)]
      exact (HK.out.1.res hq0).res (heap_setCell_same _ _ 0 _ 55 _ hq0)
    · exact ⟨(((Bx.alloc w _ h1 h2).trans HK.out.2.1).trans (Bx.res _ _ _ _ h1 h2)).trans (Bx.res _ _ _ _ h1 h2), (((Tk.below (keep w _)).trans HK.out.2.2).res (Nat.le_refl _)).res (Nat.le_refl _)⟩
end Go.Proofs.YtmdkmedlncfcbaaGreatDoor
