/-
  The reader of frames: what it holds, and the contracts of fault and keep.
-/
import Derived.Test.YtbckbonffajmeaaGreatDoorBase
import Derived.RegionTactic
import Derived.BigRegion
import Derived.Maps.AppendAt
namespace Go.Proofs.YtbckbonffajmeaaGreatDoor.Dt
open Go.RowKit
set_option linter.unusedVariables false

/-- What a reader holds. -/
structure RS where
  most : Int
  kept : List Int
  size : Int
  came : Int
  pointed : Bool
  half : Bool
  bare : Bool
  wide : Bool
  over : Bool

def faultZ (s : RS) : Int := if s.bare = true then 41 else if s.wide = true then 40 else if s.most < s.size then 2 else 0
def keepZ (s : RS) (l : List Int) : RS := if faultZ s = 0 then { s with kept := s.kept ++ l } else { s with kept := [] }
def addZ (s : RS) (c : Int) : RS :=
  let s1 := if s.came = 0 ∧ c = 46 then { s with pointed := true } else keepZ s [c]
  if 999 < s1.came + 1 then { s1 with came := s1.came + 1, wide := true } else { s1 with came := s1.came + 1 }
def ownZ (s : RS) : Int := if s.pointed = true then s.came - 1 else s.came
def endZ (s : RS) : RS :=
  if s.pointed = true ∧ ownZ s = 0 then { s with over := true } else
    { keepZ { s with wide := s.wide || decide (998 < ownZ s), size := s.size + (ownZ s + 2) } [13, 10] with came := 0, pointed := false }
def takeZ (s : RS) (c : Int) : RS :=
  if s.half = true ∧ c = 10 then endZ { s with half := false }
  else
    let s1 := if s.half = true then addZ { s with half := decide (c = 13), bare := true } 13 else { s with half := decide (c = 13) }
    if c = 13 then s1 else addZ { s1 with bare := s1.bare || decide (c = 10) } c

def cellsR (v : Value) (s : RS) : Array Value := #[.int .i64 s.most, v, .int .i64 s.size, .int .i64 s.came, .bool s.pointed, .bool s.half, .bool s.bare, .bool s.wide, .bool s.over]
def Rd (w : World) (B g : Nat) (s : RS) : Prop := g < B ∧ B ≤ w.heap.size ∧ ∃ v, w.heap[g]? = some (.cells (cellsR v s) 111 (0, 0)) ∧ Own w B v s.kept
/-- The block of the row that a reader holds. -/
def okK (w : World) (g k : Nat) : Prop := ∃ v, w.cell? ⟨g, 1, none⟩ = some v ∧ v.ownBlock = some k
/-- All but the reader's own lies as it lay: its block, and the row that it holds; the row that it holds then is that one, or new. -/
structure Bx (B g : Nat) (w w' : World) : Prop where
  os : w'.os = w.os
  tape : w'.tape = w.tape
  output : w'.output = w.output
  size : w.heap.size ≤ w'.heap.size
  block : ∀ k, k < w.heap.size → k ≠ g → ¬ okK w g k → w'.heap[k]? = w.heap[k]?
  fresh : ∀ k, okK w' g k → okK w g k ∨ w.heap.size ≤ k
theorem Bx.refl (B g : Nat) (w : World) : Bx B g w w := ⟨rfl, rfl, rfl, Nat.le_refl _, fun _ _ _ _ => rfl, fun _ h => .inl h⟩
theorem Bx.trans {B g : Nat} {a b c : World} (h : Bx B g a b) (k : Bx B g b c) : Bx B g a c :=
  ⟨k.os.trans h.os, k.tape.trans h.tape, k.output.trans h.output, Nat.le_trans h.size k.size, fun j h1 h2 h3 => by
    have e := h.block j h1 h2 h3
    refine (k.block j (by have := h.size; omega) h2 (fun q => ?_)).trans e
    rcases h.fresh j q with q | q
    · exact h3 q
    · omega, fun j q => by
    rcases k.fresh j q with q | q
    · exact h.fresh j q
    · exact .inr (by have := h.size; omega)⟩
theorem Bx.drewN {B g : Nat} {a b : World} (h : Bx B g a b) (q : Nat) : Bx B g a (b.drewN q) := ⟨h.os, h.tape, h.output, h.size, h.block, h.fresh⟩
theorem Bx.set {B g : Nat} (w : World) (i : Nat) (u : Value) (hi : i ≠ 1 := by decide) : Bx B g w (w.setCell ⟨g, i, none⟩ u) := by
  have h := (Below.refl 0 w).setCell (p := ⟨g, i, none⟩) (Nat.zero_le _) u
  refine ⟨h.os, h.tape, h.output, h.size, fun k _ h2 _ => heap_setCell_other _ _ _ _ (by simp; omega), fun k q => .inl ?_⟩
  obtain ⟨v, q1, q2⟩ := q
  rw [World.cell?_setCell_other w (a := ⟨g, i, none⟩) (b := ⟨g, 1, none⟩) u (by intro e; injection e with _ e _; exact hi e)] at q1
  exact ⟨v, q1, q2⟩
theorem Bx.drop {B g : Nat} (w : World) {v0 : Value} (h0 : w.cell? ⟨g, 1, none⟩ = some v0) : Bx B g w (w.setCell ⟨g, 1, none⟩ (.slice none 0 0)) := by
  have h := (Below.refl 0 w).setCell (p := ⟨g, 1, none⟩) (Nat.zero_le _) (.slice none 0 0)
  refine ⟨h.os, h.tape, h.output, h.size, fun k _ h2 _ => heap_setCell_other _ _ _ _ (by simp; omega), fun k q => ?_⟩
  obtain ⟨v, q1, q2⟩ := q
  rw [World.cell?_setCell_same w _ _ h0] at q1
  cases q1
  simp [Value.ownBlock] at q2
theorem Bx.alloc {B g : Nat} (w : World) (o : Obj) (hg : g < B) (hB : B ≤ w.heap.size) : Bx B g w (w.alloc o) := by
  have h := keep w o
  refine ⟨h.os, h.tape, h.output, h.size, fun k h1 _ _ => h.block k h1, fun k q => .inl ?_⟩
  obtain ⟨v, q1, q2⟩ := q
  rw [World.cell?_of_block (h.block g (by omega))] at q1
  exact ⟨v, q1, q2⟩
/-- Rows put behind one of one's own; where the new one lies. -/
theorem wpList_append_rowf {P : Program} {w : World} {ops : Array Oper} {rest : List Oper} {o : Oper} {a : Act} {Q : Exit → Act → World → Prop} (hgd : o.guard = none) (s x : Operand) (t : TypeId)
    (ho : o.op = .call { callee := .builtin .append, args := #[s, x], argTypes := #[t, t] })
    (base : Nat) (e : TypeId) (i : TypeInfo) (z : Value) (bytes : Nat) (ht : P.underlying t = some (.slice e)) (hi : P.info? e = some i) (hz : i.zero = some z)
    (hsize : i.size = 1) (hby : i.bytes = bytes) (hzs : z.cells.size = 1) (k : IntKind)
    (v : Value) (n : Nat) (xs : List Value) (hs : a.eval s = v) (hown : w.ownsRow base e 1 v n xs)
    (ad : Option Addr) (m c : Nat) (l : List Int) (hx : a.eval x = .slice ad m c) (hl : l.length = m) (hnil : ad = none → c = 0) (hrow : RowK k w ad l)
    (h63 : n + m ≤ maxLen) (hbytes : (n + m) * bytes ≤ 140737488355328) (hbase : base ≤ w.heap.size)
    (h : ∀ v' w', w'.ownsRow base e 1 v' (n + m) (xs ++ l.map (Value.int k)) → w.grownBy w' v.ownBlock → (v'.ownBlock = v.ownBlock ∨ v'.ownBlock = some w.heap.size) → wpList P ops Q rest (a.put o.dst v') w') : wpList P ops Q (o :: rest) a w := by
  have one : ∀ u ∈ l.map (Value.int k), u.oneCell' = true := by
    intro u hu; simp at hu; obtain ⟨_, _, rfl⟩ := hu; rfl
  cases ad with
  | none =>
    have hl0 : l = [] := by
      rcases hrow with h | ⟨b, off, h, _⟩
      · exact h
      · cases h
    subst hl0
    obtain rfl : m = 0 := by simpa using hl.symm
    obtain rfl : c = 0 := hnil rfl
    refine wpList_append_own_none hgd s x t ho base e i 1 ht hi v n xs hs hown hx ?_
    refine h v w (by simpa using hown) ⟨rfl, rfl, rfl, Nat.le_refl _, fun _ _ _ => rfl⟩ (.inl rfl)
  | some y =>
    refine wpList_append_own_at w hgd s x t ho base e i z 1 bytes ht hi hz hsize hby hzs (by decide) v n xs hs hown y m c (l.map (Value.int k)) hx (by simp [hl]) ?_ one h63 hbytes hbase (fun v' w' h1 h2 _ h4 => h v' w' h1 h2 h4)
    intro j u hu
    rcases hrow with rfl | ⟨b, off, hy, hc⟩
    · simp at hu
    · obtain rfl : y = ⟨b, off, none⟩ := by simpa using hy
      rw [add_plain]
      rw [List.getElem?_map] at hu
      have hj : j < l.length := by
        rcases Nat.lt_or_ge j l.length with h | h
        · exact h
        · rw [List.getElem?_eq_none h] at hu; simp at hu
      rw [hc j hj]
      rw [List.getElem?_eq_getElem hj] at hu
      simp at hu
      simp [List.getD_eq_getElem?_getD, List.getElem?_eq_getElem hj, hu]

theorem own_other {w : World} {B : Nat} {v : Value} {l : List Int} {f o : Nat} {u : Value} (hf : f < B) (h : Own w B v l) : Own (w.setCell ⟨f, o, none⟩ u) B v l := by
  refine ⟨h.1, ?_⟩
  rcases h.2 with h | ⟨g, cap, cur, h1, h2, h3, h4⟩
  · exact .inl h
  · refine .inr ⟨g, cap, cur, h1, h2, ?_, h4⟩
    rw [heap_setCell_other _ _ _ _ (by simp; omega)]
    exact h3
theorem size_setCell (w : World) (a : Addr) (u : Value) : w.heap.size ≤ (w.setCell a u).heap.size := ((Below.refl 0 w).setCell (p := a) (Nat.zero_le _) u).size
theorem Rd.alloc {w : World} {B g : Nat} {s : RS} (h : Rd w B g s) (o : Obj) : Rd (w.alloc o) B g s := by
  obtain ⟨h1, h2, v, h3, h4⟩ := h
  exact ⟨h1, by simp; omega, v, (Below.heap_alloc w o g (by omega)).trans h3, own_keep h4 (keep w o)⟩
theorem Rd.drewN {w : World} {B g : Nat} {s : RS} (h : Rd w B g s) (q : Nat) : Rd (w.drewN q) B g s := h
theorem Rd.size {w : World} {B g : Nat} {s : RS} (h : Rd w B g s) (x : Int) : Rd (w.setCell ⟨g, 2, none⟩ (.int .i64 x)) B g { s with size := x } := by
  obtain ⟨h1, h2, v, h3, h4⟩ := h
  exact ⟨h1, Nat.le_trans h2 (size_setCell _ _ _), v, heap_setCell_same w g 2 _ 111 _ h3, own_other h1 h4⟩
theorem Rd.came {w : World} {B g : Nat} {s : RS} (h : Rd w B g s) (x : Int) : Rd (w.setCell ⟨g, 3, none⟩ (.int .i64 x)) B g { s with came := x } := by
  obtain ⟨h1, h2, v, h3, h4⟩ := h
  exact ⟨h1, Nat.le_trans h2 (size_setCell _ _ _), v, heap_setCell_same w g 3 _ 111 _ h3, own_other h1 h4⟩
theorem Rd.pointed {w : World} {B g : Nat} {s : RS} (h : Rd w B g s) (x : Bool) : Rd (w.setCell ⟨g, 4, none⟩ (.bool x)) B g { s with pointed := x } := by
  obtain ⟨h1, h2, v, h3, h4⟩ := h
  exact ⟨h1, Nat.le_trans h2 (size_setCell _ _ _), v, heap_setCell_same w g 4 _ 111 _ h3, own_other h1 h4⟩
theorem Rd.half {w : World} {B g : Nat} {s : RS} (h : Rd w B g s) (x : Bool) : Rd (w.setCell ⟨g, 5, none⟩ (.bool x)) B g { s with half := x } := by
  obtain ⟨h1, h2, v, h3, h4⟩ := h
  exact ⟨h1, Nat.le_trans h2 (size_setCell _ _ _), v, heap_setCell_same w g 5 _ 111 _ h3, own_other h1 h4⟩
theorem Rd.bare {w : World} {B g : Nat} {s : RS} (h : Rd w B g s) (x : Bool) : Rd (w.setCell ⟨g, 6, none⟩ (.bool x)) B g { s with bare := x } := by
  obtain ⟨h1, h2, v, h3, h4⟩ := h
  exact ⟨h1, Nat.le_trans h2 (size_setCell _ _ _), v, heap_setCell_same w g 6 _ 111 _ h3, own_other h1 h4⟩
theorem Rd.wide {w : World} {B g : Nat} {s : RS} (h : Rd w B g s) (x : Bool) : Rd (w.setCell ⟨g, 7, none⟩ (.bool x)) B g { s with wide := x } := by
  obtain ⟨h1, h2, v, h3, h4⟩ := h
  exact ⟨h1, Nat.le_trans h2 (size_setCell _ _ _), v, heap_setCell_same w g 7 _ 111 _ h3, own_other h1 h4⟩
theorem Rd.over {w : World} {B g : Nat} {s : RS} (h : Rd w B g s) (x : Bool) : Rd (w.setCell ⟨g, 8, none⟩ (.bool x)) B g { s with over := x } := by
  obtain ⟨h1, h2, v, h3, h4⟩ := h
  exact ⟨h1, Nat.le_trans h2 (size_setCell _ _ _), v, heap_setCell_same w g 8 _ 111 _ h3, own_other h1 h4⟩

set_option maxRecDepth 100000 in
set_option maxHeartbeats 1000000 in
theorem fault_any (B g : Nat) (s : RS) (w : World) (hr : Rd w B g s) :
    Calls Tryz.prog 68 #[.pointer (some ⟨g, 0, none⟩)] w fun e w' => e = .returned (.int .i64 (faultZ s)) ∧ ∃ q, w' = w.drewN q := by
  obtain ⟨_, _, v, hg, _⟩ := hr
  have a0 : w.cell? ⟨g, 0, none⟩ = some (.int .i64 s.most) := by rw [cell_of_row w _ _ _ _ _ hg]; rfl
  have a1 : w.cell? ⟨g, 1, none⟩ = some (v) := by rw [cell_of_row w _ _ _ _ _ hg]; rfl
  have a2 : w.cell? ⟨g, 2, none⟩ = some (.int .i64 s.size) := by rw [cell_of_row w _ _ _ _ _ hg]; rfl
  have a3 : w.cell? ⟨g, 3, none⟩ = some (.int .i64 s.came) := by rw [cell_of_row w _ _ _ _ _ hg]; rfl
  have a4 : w.cell? ⟨g, 4, none⟩ = some (.bool s.pointed) := by rw [cell_of_row w _ _ _ _ _ hg]; rfl
  have a5 : w.cell? ⟨g, 5, none⟩ = some (.bool s.half) := by rw [cell_of_row w _ _ _ _ _ hg]; rfl
  have a6 : w.cell? ⟨g, 6, none⟩ = some (.bool s.bare) := by rw [cell_of_row w _ _ _ _ _ hg]; rfl
  have a7 : w.cell? ⟨g, 7, none⟩ = some (.bool s.wide) := by rw [cell_of_row w _ _ _ _ _ hg]; rfl
  have a8 : w.cell? ⟨g, 8, none⟩ = some (.bool s.over) := by rw [cell_of_row w _ _ _ _ _ hg]; rfl
  clear hg
  obtain ⟨most, kept, size, came, pointed, half, bare, wide, over⟩ := s
  simp only at a0 a1 a2 a3 a4 a5 a6 a7 a8
  unfold faultZ
  cases bare with
  | true =>
    go_enter Tryz.func68, Tryz.ntmps68
    go_wp2
    go_ret
    exact ⟨rfl, 0, rfl⟩
  | false =>
    cases wide with
    | true =>
      go_enter Tryz.func68, Tryz.ntmps68
      go_wp2
      go_ret
      exact ⟨rfl, 0, rfl⟩
    | false =>
      by_cases h : most < size
      · have hd : decide (most < size) = true := by simpa using h
        go_enter Tryz.func68, Tryz.ntmps68
        go_wp2
        go_quiet (fail)
        go_wp2
        go_ret
        exact ⟨by simp, _, rfl⟩
      · have hd : decide (most < size) = false := by simpa using h
        go_enter Tryz.func68, Tryz.ntmps68
        go_wp2
        go_quiet (fail)
        go_wp2
        go_ret
        exact ⟨by simp, _, rfl⟩

/-- Nothing but draws. -/
def Qt (w w' : World) : Prop := ∃ q, w' = w.drewN q
theorem Qt.rd {w w' : World} (h : Qt w w') {B g : Nat} {s : RS} (k : Rd w B g s) : Rd w' B g s := by obtain ⟨q, rfl⟩ := h; exact k
theorem Qt.rowK {w w' : World} (h : Qt w w') {k : IntKind} {a : Option Addr} {l : List Int} (r : RowK k w a l) : RowK k w' a l := by obtain ⟨q, rfl⟩ := h; exact r
theorem Qt.row {w w' : World} (h : Qt w w') {a : Option Addr} {l : List Int} (r : Row w a l) : Row w' a l := by obtain ⟨q, rfl⟩ := h; exact r
theorem Qt.bx {w w' : World} (h : Qt w w') (B g : Nat) : Bx B g w w' := by obtain ⟨q, rfl⟩ := h; exact (Bx.refl B g w).drewN q
theorem Qt.below {w w' : World} (h : Qt w w') (B : Nat) : Below B w w' := by obtain ⟨q, rfl⟩ := h; exact ⟨rfl, rfl, rfl, Nat.le_refl _, fun _ _ => rfl⟩
theorem Qt.size {w w' : World} (h : Qt w w') : w'.heap.size = w.heap.size := by obtain ⟨q, rfl⟩ := h; rfl
theorem Qt.trans {a b c : World} (h : Qt a b) (k : Qt b c) : Qt a c := by obtain ⟨q, rfl⟩ := h; obtain ⟨r, rfl⟩ := k; exact ⟨q + r, by simp [World.drewN, Nat.add_assoc]⟩

theorem grow_below {w w' : World} {B : Nat} {v : Value} {l : List Int} (hBw : B ≤ w.heap.size) (hg : w.grownBy w' v.ownBlock) (ho : Own w B v l) : Below B w w' := by
  refine (Below.refl B w).grown hg hBw ?_
  intro k hk
  rcases ho.2 with ⟨rfl, _⟩ | ⟨b, cap, cur, rfl, h2, _⟩
  · simp [Value.ownBlock] at hk
  · simp [Value.ownBlock] at hk; omega
theorem rd_kept {w w' : World} {B g : Nat} {s : RS} {v v' : Value} {l : List Int} (hB : g < B) (hBw : B ≤ w.heap.size) (h : w.heap[g]? = some (.cells (cellsR v s) 111 (0, 0))) (hg : w.grownBy w' v.ownBlock) (ho : Own w B v s.kept) (hv : Own w' B v' l) (hat : v'.ownBlock = v.ownBlock ∨ v'.ownBlock = some w.heap.size) :
    Rd (w'.setCell ⟨g, 1, none⟩ v') B g { s with kept := l } ∧ Bx B g w (w'.setCell ⟨g, 1, none⟩ v') := by
  have hbl : Below B w w' := grow_below hBw hg ho
  have h' := (hbl.block g hB).trans h
  have c1 : w.cell? ⟨g, 1, none⟩ = some v := by rw [cell_of_row w _ _ _ _ _ h]; rfl
  have c2 : w'.cell? ⟨g, 1, none⟩ = some v := by rw [cell_of_row w' _ _ _ _ _ h']; rfl
  have hz := (Below.refl 0 w').setCell (p := ⟨g, 1, none⟩) (Nat.zero_le _) v'
  refine ⟨⟨hB, Nat.le_trans (Nat.le_trans hBw hbl.size) (size_setCell _ _ _), v', heap_setCell_same w' g 1 _ 111 _ h', own_other hB hv⟩, ?_⟩
  refine ⟨hz.os.trans hbl.os, hz.tape.trans hbl.tape, hz.output.trans hbl.output, Nat.le_trans hbl.size hz.size, fun k h1 h2 h3 => ?_, fun k q => ?_⟩
  · rw [heap_setCell_other _ _ _ _ (by simp; omega)]
    exact hg.block k h1 (fun e => h3 ⟨v, c1, e.symm⟩)
  · obtain ⟨u, q1, q2⟩ := q
    rw [World.cell?_setCell_same w' _ _ c2] at q1
    cases q1
    rcases hat with e | e
    · rw [e] at q2; exact .inl ⟨v, c1, q2⟩
    · rw [e] at q2; simp at q2; exact .inr (by omega)

set_option maxRecDepth 100000 in
set_option maxHeartbeats 1000000 in
theorem keep_any (B g : Nat) (s : RS) (w : World) (hr : Rd w B g s) (a : Option Addr) (m c : Nat) (l : List Int) (hl : l.length = m) (hnil : a = none → c = 0) (hrow : RowK .u8 w a l) (hb : s.kept.length + m ≤ 1000000000) :
    Calls Tryz.prog 135 #[.pointer (some ⟨g, 0, none⟩), .slice a m c] w fun e w' => (∃ v, e = .returned v) ∧ Rd w' B g (keepZ s l) ∧ Bx B g w w' := by
  obtain ⟨j0, hi, hz0, hz1, hz2⟩ := info_parts Tryz.info5
  obtain ⟨f, hf⟩ : ∃ f, faultZ s = f := ⟨_, rfl⟩
  have HF : Hid (faultZ s = f) := hf
  have HR : Hid (Rd w B g s) := hr
  have HW : Hid (RowK .u8 w a l) := hrow
  clear hr hrow hf
  by_cases h0 : f = 0
  · subst h0
    go_enter Tryz.func135, Tryz.ntmps135
    go_wp2_with fail
    refine (fault_any B g s w HR.out).mono ?_
    rw [HF.out]
    rintro e w1 ⟨rfl, hq⟩
    have HQ : Hid (Qt w w1) := hq
    clear hq
    obtain ⟨h1, h2, v, hg, ho⟩ := HQ.out.rd HR.out
    have a0 : w1.cell? ⟨g, 0, none⟩ = some (.int .i64 s.most) := by rw [cell_of_row w1 _ _ _ _ _ hg]; rfl
    have af0 : w1.frozen? ⟨g, 0, none⟩ = false := frozen_of_row w1 _ _ _ _ hg
    have a1 : w1.cell? ⟨g, 1, none⟩ = some (v) := by rw [cell_of_row w1 _ _ _ _ _ hg]; rfl
    have af1 : w1.frozen? ⟨g, 1, none⟩ = false := frozen_of_row w1 _ _ _ _ hg
    have a2 : w1.cell? ⟨g, 2, none⟩ = some (.int .i64 s.size) := by rw [cell_of_row w1 _ _ _ _ _ hg]; rfl
    have af2 : w1.frozen? ⟨g, 2, none⟩ = false := frozen_of_row w1 _ _ _ _ hg
    have a3 : w1.cell? ⟨g, 3, none⟩ = some (.int .i64 s.came) := by rw [cell_of_row w1 _ _ _ _ _ hg]; rfl
    have af3 : w1.frozen? ⟨g, 3, none⟩ = false := frozen_of_row w1 _ _ _ _ hg
    have a4 : w1.cell? ⟨g, 4, none⟩ = some (.bool s.pointed) := by rw [cell_of_row w1 _ _ _ _ _ hg]; rfl
    have af4 : w1.frozen? ⟨g, 4, none⟩ = false := frozen_of_row w1 _ _ _ _ hg
    have a5 : w1.cell? ⟨g, 5, none⟩ = some (.bool s.half) := by rw [cell_of_row w1 _ _ _ _ _ hg]; rfl
    have af5 : w1.frozen? ⟨g, 5, none⟩ = false := frozen_of_row w1 _ _ _ _ hg
    have a6 : w1.cell? ⟨g, 6, none⟩ = some (.bool s.bare) := by rw [cell_of_row w1 _ _ _ _ _ hg]; rfl
    have af6 : w1.frozen? ⟨g, 6, none⟩ = false := frozen_of_row w1 _ _ _ _ hg
    have a7 : w1.cell? ⟨g, 7, none⟩ = some (.bool s.wide) := by rw [cell_of_row w1 _ _ _ _ _ hg]; rfl
    have af7 : w1.frozen? ⟨g, 7, none⟩ = false := frozen_of_row w1 _ _ _ _ hg
    have a8 : w1.cell? ⟨g, 8, none⟩ = some (.bool s.over) := by rw [cell_of_row w1 _ _ _ _ _ hg]; rfl
    have af8 : w1.frozen? ⟨g, 8, none⟩ = false := frozen_of_row w1 _ _ _ _ hg
    have HG : Hid (w1.heap[g]? = some (.cells (cellsR v s) 111 (0, 0))) := hg
    have HO : Hid (Own w1 B v s.kept) := ho
    clear hg ho
    go_wp2_with (at_builtin; refine wpList_append_rowf rfl _ _ 33 rfl B 5 j0 (.int .u8 0) 1 Tryz.underlying33 hi hz0 hz1 hz2 rfl .u8 _ _ _ rfl HO.out a m c l rfl hl hnil (HQ.out.rowK HW.out) (by unfold maxLen; omega) (by omega) h2 ?_)
    intro v' w2 hown hgrow hat
    have hown' : Own w2 B v' (s.kept ++ l) := own_snoc (by rw [hl]; exact hown)
    have hk := rd_kept h1 h2 HG.out hgrow HO.out hown' hat
    have hbl := grow_below h2 hgrow HO.out
    obtain ⟨a', cap', rfl, _⟩ := own_row' hown'
    rw [List.length_append, hl] at hk
    have HK : Hid (_ ∧ _) := hk
    have c2 : w2.cell? ⟨g, 1, none⟩ = some v := (hbl.cell (p := ⟨g, 1, none⟩) h1).trans a1
    have f2 : w2.frozen? ⟨g, 1, none⟩ = false := (hbl.frozen (p := ⟨g, 1, none⟩) h1).trans af1
    clear hk hown hgrow hown' hbl hat
    go_wp2
    go_end0
    exact ⟨⟨_, rfl⟩, by simpa [keepZ, HF.out] using HK.out.1, (HQ.out.bx B g).trans HK.out.2⟩
  · have h0' : (f != 0) = true := by simpa using h0
    go_enter Tryz.func135, Tryz.ntmps135
    go_wp2_with fail
    refine (fault_any B g s w HR.out).mono ?_
    rw [HF.out]
    rintro e w1 ⟨rfl, hq⟩
    have HQ : Hid (Qt w w1) := hq
    clear hq
    obtain ⟨h1, h2, v, hg, ho⟩ := HQ.out.rd HR.out
    have a0 : w1.cell? ⟨g, 0, none⟩ = some (.int .i64 s.most) := by rw [cell_of_row w1 _ _ _ _ _ hg]; rfl
    have af0 : w1.frozen? ⟨g, 0, none⟩ = false := frozen_of_row w1 _ _ _ _ hg
    have a1 : w1.cell? ⟨g, 1, none⟩ = some (v) := by rw [cell_of_row w1 _ _ _ _ _ hg]; rfl
    have af1 : w1.frozen? ⟨g, 1, none⟩ = false := frozen_of_row w1 _ _ _ _ hg
    have a2 : w1.cell? ⟨g, 2, none⟩ = some (.int .i64 s.size) := by rw [cell_of_row w1 _ _ _ _ _ hg]; rfl
    have af2 : w1.frozen? ⟨g, 2, none⟩ = false := frozen_of_row w1 _ _ _ _ hg
    have a3 : w1.cell? ⟨g, 3, none⟩ = some (.int .i64 s.came) := by rw [cell_of_row w1 _ _ _ _ _ hg]; rfl
    have af3 : w1.frozen? ⟨g, 3, none⟩ = false := frozen_of_row w1 _ _ _ _ hg
    have a4 : w1.cell? ⟨g, 4, none⟩ = some (.bool s.pointed) := by rw [cell_of_row w1 _ _ _ _ _ hg]; rfl
    have af4 : w1.frozen? ⟨g, 4, none⟩ = false := frozen_of_row w1 _ _ _ _ hg
    have a5 : w1.cell? ⟨g, 5, none⟩ = some (.bool s.half) := by rw [cell_of_row w1 _ _ _ _ _ hg]; rfl
    have af5 : w1.frozen? ⟨g, 5, none⟩ = false := frozen_of_row w1 _ _ _ _ hg
    have a6 : w1.cell? ⟨g, 6, none⟩ = some (.bool s.bare) := by rw [cell_of_row w1 _ _ _ _ _ hg]; rfl
    have af6 : w1.frozen? ⟨g, 6, none⟩ = false := frozen_of_row w1 _ _ _ _ hg
    have a7 : w1.cell? ⟨g, 7, none⟩ = some (.bool s.wide) := by rw [cell_of_row w1 _ _ _ _ _ hg]; rfl
    have af7 : w1.frozen? ⟨g, 7, none⟩ = false := frozen_of_row w1 _ _ _ _ hg
    have a8 : w1.cell? ⟨g, 8, none⟩ = some (.bool s.over) := by rw [cell_of_row w1 _ _ _ _ _ hg]; rfl
    have af8 : w1.frozen? ⟨g, 8, none⟩ = false := frozen_of_row w1 _ _ _ _ hg
    have HG : Hid (w1.heap[g]? = some (.cells (cellsR v s) 111 (0, 0))) := hg
    have HO : Hid (Own w1 B v s.kept) := ho
    clear hg ho
    go_wp2
    refine bodyPost_ret (results_none rfl _ _ _) rfl ?_
    refine ⟨⟨_, rfl⟩, ?_, (HQ.out.bx B g).trans (Bx.drop _ a1)⟩
    have hk : keepZ s l = { s with kept := [] } := by simp [keepZ, HF.out, h0]
    rw [hk]
    exact ⟨h1, Nat.le_trans h2 (size_setCell _ _ _), .slice none 0 0, heap_setCell_same w1 g 1 _ 111 _ HG.out, World.ownsRow_nil _ _ _ _⟩
end Go.Proofs.YtbckbonffajmeaaGreatDoor.Dt
