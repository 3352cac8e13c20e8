/-
  The contract of Write.
-/
import Derived.Test.YtmdkmedlncfcbaaGreatDoorFit
import Derived.Test.YtmdkmedlncfcbaaGreatDoorPmath
import Derived.Lib.AppendStr
import Derived.Scope
import Derived.BigRegionIn
namespace Go.Proofs.YtmdkmedlncfcbaaGreatDoor
open Go.RowKit
set_option linter.unusedVariables false
attribute [local go_sem] Oper.semAt_some

theorem in_append_string {F : Fence} {n' : Nat} {P : Program} {ops : Array Oper} {rest : List Oper} {o : Oper} {a : Act} {Q : Exit → Act → World → Prop} (w : World) (hgd : o.guard = none) (sl x : Operand) (t u : TypeId)
    (ho : o.op = .call { callee := .builtin .append, args := #[sl, x], argTypes := #[t, u] })
    (base : Nat) (e : TypeId) (i : TypeInfo) (ht : P.underlying t = some (.slice e)) (hu : P.underlying u = some .string) (hi : P.info? e = some i) (hz : i.zero = some (.int .u8 0))
    (hsize : i.size = 1) (hby : i.bytes = 1)
    (v : Value) (n : Nat) (xs : List Value) (hs : a.eval sl = v) (hown : w.ownsRow base e 1 v n xs) (s : ByteArray) (hx : a.eval x = .string s)
    (h63 : n + s.size ≤ maxLen) (hbytes : n + s.size ≤ 140737488355328) (hbase : base ≤ w.heap.size)
    (h : ∀ v' w', w'.ownsRow base e 1 v' (n + s.size) (xs ++ Lib.strCells s) → w.grownBy w' v.ownBlock → wpListIn F n' P ops Q rest (a.put o.dst v') w') : wpListIn F n' P ops Q (o :: rest) a w := by
  refine wpListIn_plain hgd fun K hK => ?_
  obtain ⟨v', w', hr, h2, h3, h4⟩ := Lib.run_append_own_string (P := P) w base t u o.type e i ht hu hi hz hsize hby v n xs hown s h63 hbytes hbase
  unfold Oper.wpIn
  refine ⟨?_, ?_⟩
  · simp [Oper.about, ho, resolve, Target.leads, Sem.run_pure]
  · rw [Oper.semAt_plain F _ _ (by rw [ho]; intro c hc'; cases hc')]
    simp [execOp, ho, resolve, invoke, builtin, hs, hx, hr, Result.andThen]
    exact hK _ _ (h v' w' h2 h3)

theorem own_of {w : World} {B n : Nat} {v : Value} {l : List Int} {xs : List Value} (h : w.ownsRow B 5 1 v n xs) (hn : n = l.length) (hx : xs = l.map (Value.int .u8)) : Own w B v l := by subst hn; subst hx; exact h
theorem sc1310 : Lib.strCells ⟨#[13, 10]⟩ = [.int .u8 13, .int .u8 10] := rfl
/-- All but the box Bo and rows of bytes from B on lies as it lay. -/
structure Gr (B Bo : Nat) (W W' : World) : Prop where
  os : W'.os = W.os
  tape : W'.tape = W.tape
  output : W'.output = W.output
  size : W.heap.size ≤ W'.heap.size
  same : ∀ k o, k ≠ Bo → W.heap[k]? = some o → (k < B ∨ ∀ cs fr, o ≠ .cells cs 5 fr) → W'.heap[k]? = some o
theorem Gr.refl (B Bo : Nat) (W : World) : Gr B Bo W W := ⟨rfl, rfl, rfl, Nat.le_refl _, fun _ _ _ h _ => h⟩
theorem Gr.trans {B Bo : Nat} {X Y Z : World} (h : Gr B Bo X Y) (k : Gr B Bo Y Z) : Gr B Bo X Z :=
  ⟨k.os.trans h.os, k.tape.trans h.tape, k.output.trans h.output, Nat.le_trans h.size k.size, fun i o h1 h2 h3 => k.same i o h1 (h.same i o h1 h2 h3) h3⟩
theorem Gr.alloc {B Bo : Nat} {W W' : World} (h : Gr B Bo W W') (o : Obj) : Gr B Bo W (W'.alloc o) :=
  h.trans ⟨rfl, rfl, rfl, by simp, fun k o' _ h2 _ => (Below.heap_alloc W' o k (Array.getElem?_eq_some_iff.1 h2).1).trans h2⟩
theorem Gr.below {B Bo n : Nat} {W W' : World} (h : Gr B Bo W W') (h1 : n ≤ B) (h2 : n ≤ Bo) (h3 : n ≤ W.heap.size) : Below n W W' :=
  ⟨h.os, h.tape, h.output, h.size, fun k hk => by
    obtain ⟨o, ho⟩ : ∃ o, W.heap[k]? = some o := ⟨W.heap[k]'(by omega), Array.getElem?_eq_getElem (by omega)⟩
    rw [ho]; exact h.same k o (by omega) ho (.inl (by omega))⟩
theorem Gr.blk {B Bo k : Nat} {W W' : World} {cs : Array Value} {t : TypeId} (h : Gr B Bo W W') (hb : Blk W k cs t) (hk : k ≠ Bo) (ht : k < B ∨ t ≠ 5) : Blk W' k cs t :=
  h.same k _ hk hb (ht.imp id (fun ht cs' fr e => by cases e; exact ht rfl))
theorem Gr.keeps {B Bo : Nat} {W W' : World} {cs : Array Value} {t : TypeId} (h : Gr B Bo W W') (hb : Blk W Bo cs t) : KeepsOthers W W' :=
  ⟨h.size, fun k o hk ho => h.same k o (fun e => by subst e; rw [show W.heap[k]? = _ from hb] at hk; cases hk; cases ho) hk (.inr (fun cs fr e => by subst e; cases ho))⟩

theorem app_step {B Bo : Nat} {W w1 : World} {v v' : Value} {l l' : List Int} (hb : Blk W Bo #[v] 22) (hBo : Bo < B) (hB : B ≤ W.heap.size) (ho : Own W B v l) (hg : W.grownBy w1 v.ownBlock) (ho' : Own w1 B v' l') :
    Blk w1 Bo #[v] 22 ∧ Blk (w1.setCell ⟨Bo, 0, none⟩ v') Bo #[v'] 22 ∧ Own (w1.setCell ⟨Bo, 0, none⟩ v') B v' l' ∧ Gr B Bo W (w1.setCell ⟨Bo, 0, none⟩ v') ∧ Gr B Bo W w1 := by
  have hbl := grow_below hB hg ho
  have h1 : Blk w1 Bo #[v] 22 := hb.below hbl hBo
  have hs : ∀ k o, W.heap[k]? = some o → (k < B ∨ ∀ cs fr, o ≠ .cells cs 5 fr) → w1.heap[k]? = some o := by
    intro k o h2 h3
    refine (hg.block k (Array.getElem?_eq_some_iff.1 h2).1 (fun e => ?_)).trans h2
    rcases ho.2 with ⟨rfl, _⟩ | ⟨g, cap, cur, rfl, hg1, hg2, _⟩
    · simp [Value.ownBlock] at e
    · obtain rfl : k = g := by simpa [Value.ownBlock] using e
      rcases h3 with h3 | h3
      · omega
      · rw [hg2] at h2; cases h2; exact h3 _ _ rfl
  refine ⟨h1, heap_setCell_same w1 Bo 0 #[v] 22 v' h1, own_other hBo ho', ⟨hbl.os, hbl.tape, hbl.output, Nat.le_trans hbl.size (size_setCell _ _ _), ?_⟩, ⟨hbl.os, hbl.tape, hbl.output, hbl.size, fun k o _ h2 h3 => hs k o h2 h3⟩⟩
  intro k o hk h2 h3
  rw [heap_setCell_other _ _ _ _ (by simpa using hk)]
  exact hs k o h2 h3


/-- May a field be written? -/
def okF (f : ByteArray × ByteArray) : Bool := nameZ (nums f.1) && valueZ (nums f.2)
def linesW (f : ByteArray × ByteArray) : List (List Int) := foldL (f.1.size + 2) (fieldL (nums f.1) (nums f.2))
def endW (ls : List (List Int)) : List Int := ls.flatMap (fun l => l ++ [13, 10])
def outW (fs : List (ByteArray × ByteArray)) : List Int := endW (fs.flatMap linesW)
def longW (fs : List (ByteArray × ByteArray)) : Bool := (fs.flatMap linesW).any (fun l => decide (998 < l.length))
/-- What Write tells. -/
def writeC (fs : List (ByteArray × ByteArray)) : Int := if 128 < fs.length then 2 else if fs.all okF = false then 50 else if longW fs = true then 40 else 0
def writeB (fs : List (ByteArray × ByteArray)) : List Int := if writeC fs = 0 then outW fs ++ [13, 10] else []

def mark (r : Nat) : Deferred := { target := .collected r, args := #[] }
def Mks (rs : List Nat) (W : World) : Prop := rs.Nodup ∧ ∀ r ∈ rs, W.heap[r]? = some (.deferred (some []))
theorem leaves_marks {F : Fence} {n : Nat} {P : Program} {fn : Func} {tmps : Array Value} {R : Ending → World → Prop} : ∀ (rs : List Nat) (W : World), Mks rs W →
    (∀ W', (∀ m, (∀ r ∈ rs, m ≤ r) → Below m W W') → (∀ k, k ∉ rs → W'.heap[k]? = W.heap[k]?) → LeavesInM F n P fn tmps R [] .returning W') → LeavesInM F n P fn tmps R (rs.map mark) .returning W
  | [], W, _, h => h W (fun _ _ => Below.refl _ _) (fun _ _ => rfl)
  | r :: rs, W, hm, h => by
    obtain ⟨hnd, hr⟩ := hm
    have h1 := hr r (by simp)
    have hlt : r < W.heap.size := (Array.getElem?_eq_some_iff.1 h1).1
    refine ⟨by simp, .inl ⟨r, _, rfl, run_takeDeferred h1, ?_⟩⟩
    refine leaves_marks rs (W.putObj r (.deferred none)) ⟨(List.nodup_cons.1 hnd).2, fun q hq => ?_⟩ (fun W' hb hs => h W' (fun m hm => ?_) (fun k hk => ?_))
    · rw [World.putObj_heap_other (by rintro rfl; exact (List.nodup_cons.1 hnd).1 hq)]
      exact hr q (by simp [hq])
    · refine Below.trans ?_ (hb m (fun q hq => hm q (by simp [hq])))
      exact (Below.refl _ W).grown (grownBy_putObj' W r (.deferred none)) (by have := hm r (by simp); omega) (fun k e => by cases e; exact hm r (by simp))
    · rw [hs k (by simp at hk; exact hk.2), World.putObj_heap_other (by rintro rfl; simp at hk)]

theorem okF_bounds {f : ByteArray × ByteArray} (h : okF f = true) : f.1.size ≤ 64 ∧ f.2.size ≤ 4096 := by
  simp only [okF, nameZ, valueZ, Bool.and_eq_true, decide_eq_true_eq, nums_len] at h
  exact ⟨h.1.2, h.2.1.2⟩
theorem early {w W : World} {fs : List (ByteArray × ByteArray)} {c : Int} (hc : writeC fs = c) (hb : writeB fs = []) (b0 : Blk W w.heap.size #[.slice none 0 0] 22) (b1 : Blk W (w.heap.size + 1) #[.int .i64 c] 29) (hB : Below w.heap.size w W) (a : Act)
    (h2 : a.tmps[2]? = some (.pointer (some ⟨w.heap.size, 0, none⟩))) (h3 : a.tmps[3]? = some (.pointer (some ⟨w.heap.size + 1, 0, none⟩))) (hd : a.defers = [] := by rfl) :
    bodyPostM Fence.wide 20 Tryz.prog Tryz.f39 (fun e w' => ∃ v, e = .returned (.tuple #[v, .int .i64 (writeC fs)]) ∧ Own w' w.heap.size v (writeB fs) ∧ Below w.heap.size w w') Exit.ret a W := by
  obtain ⟨tmps, defers⟩ := a
  simp only at hd h2 h3
  subst hd
  have c0 := b0.cell 0
  have c1 := b1.cell 0
  simp only [List.getElem?_toArray, List.getElem?_cons_zero] at c0 c1
  refine ⟨.tuple #[.slice none 0 0, .int .i64 c], ?_, .slice none 0 0, by rw [hc], ?_, hB⟩
  · simp [results, Tryz.results39, go_sem, h2, h3, c0, c1]
  · rw [hb]; exact World.ownsRow_nil _ _ _ _

theorem Blk.same0 {W : World} {B : Nat} {x : Value} {t : TypeId} (h : Blk W B #[x] t) (v : Value) : Blk (W.setCell ⟨B, 0, none⟩ v) B #[v] t := heap_setCell_same W B 0 #[x] t v h
theorem late {w X : World} {fs : List (ByteArray × ByteArray)} {c : Int} {v : Value} {rs : List Nat} (hc : writeC fs = c) (b0 : Blk X w.heap.size #[v] 22) (b1 : Blk X (w.heap.size + 1) #[.int .i64 c] 29) (ho : Own X w.heap.size v (writeB fs)) (hm : Mks rs X) (hr : ∀ r ∈ rs, w.heap.size + 1 < r) (hB : Below w.heap.size w X) (a : Act)
    (h2 : a.tmps[2]? = some (.pointer (some ⟨w.heap.size, 0, none⟩))) (h3 : a.tmps[3]? = some (.pointer (some ⟨w.heap.size + 1, 0, none⟩))) (hd : a.defers = rs.map mark) :
    bodyPostM Fence.wide 20 Tryz.prog Tryz.f39 (fun e w' => ∃ v, e = .returned (.tuple #[v, .int .i64 (writeC fs)]) ∧ Own w' w.heap.size v (writeB fs) ∧ Below w.heap.size w w') Exit.ret a X := by
  obtain ⟨tmps, defers⟩ := a
  simp only at hd h2 h3
  subst hd
  obtain ⟨av, cv, rfl, _⟩ := own_row' ho
  refine leaves_marks rs X hm (fun W' hb hs => ?_)
  have k0 : Blk W' w.heap.size #[.slice av (writeB fs).length cv] 22 := (hs _ (fun h => by have := hr _ h; omega)).trans b0
  have k1 : Blk W' (w.heap.size + 1) #[.int .i64 c] 29 := (hs _ (fun h => by have := hr _ h; omega)).trans b1
  have c0 := k0.cell 0
  have c1 := k1.cell 0
  simp only [List.getElem?_toArray, List.getElem?_cons_zero] at c0 c1
  refine ⟨.tuple #[.slice av (writeB fs).length cv, .int .i64 c], ?_, _, by rw [hc], ?_, hB.trans (hb _ (fun r h => by have := hr r h; omega))⟩
  · simp [results, Tryz.results39, go_sem, h2, h3, c0, c1]
  · refine ⟨ho.1, ?_⟩
    rcases ho.2 with h | ⟨g, cap, cur, h1, h2, h3, h4⟩
    · exact .inl h
    · refine .inr ⟨g, cap, cur, h1, h2, ?_, h4⟩
      rw [hs g (fun h => by have := hm.2 g h; rw [h3] at this; cases this)]
      exact h3
/-- What Write has so far. -/
def WJ (w : World) (Bo : Nat) (rs : List Nat) (c : Int) (acc : List Int) (X : World) : Prop :=
  (Blk X w.heap.size #[.slice none 0 0] 22 ∧ Blk X (w.heap.size + 1) #[.int .i64 c] 29) ∧ (∃ v, Blk X Bo #[v] 22 ∧ Own X (Bo + 1) v acc) ∧ (Mks rs X ∧ ∀ r ∈ rs, Bo < r) ∧ Below w.heap.size w X ∧ w.heap.size + 1 < Bo
theorem WJ.lt {w X : World} {Bo : Nat} {rs : List Nat} {c : Int} {acc : List Int} (h : WJ w Bo rs c acc X) : Bo < X.heap.size := by
  obtain ⟨_, ⟨v, h, _⟩, _⟩ := h; exact h.lt
theorem WJ.grown {w X Y : World} {Bo n0 : Nat} {rs : List Nat} {c : Int} {acc : List Int} {row : Option Nat} (h : WJ w Bo rs c acc X) (hg : X.grownBy Y row) (hrow : ∀ r, row = some r → n0 ≤ r ∧ ∃ o : Obj, X.heap[r]? = some o ∧ o.isCells = false) (hn0 : Bo < n0) (hrs : ∀ r ∈ rs, r < n0) : WJ w Bo rs c acc Y := by
  obtain ⟨⟨b0, b1⟩, ⟨v, bv, ho⟩, ⟨⟨hnd, hm⟩, hr⟩, hB, hlt⟩ := h
  have ne : ∀ j, j < n0 → some j ≠ row := fun j hj e => by have := (hrow j e.symm).1; omega
  refine ⟨⟨b0.kept hg (ne _ (by omega)), b1.kept hg (ne _ (by omega))⟩, ⟨v, bv.kept hg (ne _ hn0), ownsRow_kept ho hg (fun r e => (hrow r e).2)⟩, ⟨⟨hnd, fun r hr' => ?_⟩, hr⟩, hB.grown hg hB.size (fun k e => by have := (hrow k e).1; omega), hlt⟩
  exact (hg.block r (Array.getElem?_eq_some_iff.1 (hm r hr')).1 (ne r (hrs r hr'))).trans (hm r hr')
theorem WJ.keep {w X Y : World} {Bo : Nat} {rs : List Nat} {c : Int} {acc : List Int} (h : WJ w Bo rs c acc X) (hb : Below X.heap.size X Y) : WJ w Bo rs c acc Y := by
  obtain ⟨⟨b0, b1⟩, ⟨v, bv, ho⟩, ⟨⟨hnd, hm⟩, hr⟩, hB, hlt⟩ := h
  exact ⟨⟨b0.below hb b0.lt, b1.below hb b1.lt⟩, ⟨v, bv.below hb bv.lt, own_keep ho hb⟩, ⟨⟨hnd, fun r hr' => (hb.block r (Array.getElem?_eq_some_iff.1 (hm r hr')).1).trans (hm r hr')⟩, hr⟩, hB.trans (hb.mono hB.size), hlt⟩
theorem WJ.gr {w X Y : World} {Bo : Nat} {rs : List Nat} {c : Int} {acc acc' : List Int} {v' : Value} (h : WJ w Bo rs c acc X) (hg : Gr (Bo + 1) Bo X Y) (hv : Blk Y Bo #[v'] 22) (ho : Own Y (Bo + 1) v' acc') : WJ w Bo rs c acc' Y := by
  have hlt0 := h.lt
  obtain ⟨⟨b0, b1⟩, _, ⟨⟨hnd, hm⟩, hr⟩, hB, hlt⟩ := h
  refine ⟨⟨hg.blk b0 (by omega) (.inl (by omega)), hg.blk b1 (by omega) (.inl (by omega))⟩, ⟨v', hv, ho⟩, ⟨⟨hnd, fun r hr' => ?_⟩, hr⟩, hB.trans (hg.below (by omega) (by omega) hB.size), hlt⟩
  exact hg.same r _ (by have := hr r hr'; omega) (hm r hr') (.inr (fun cs fr e => by cases e))
theorem WJ.err {w X : World} {Bo : Nat} {rs : List Nat} {c d : Int} {acc : List Int} (h : WJ w Bo rs c acc X) : WJ w Bo rs d acc ((X.setCell ⟨w.heap.size, 0, none⟩ (.slice none 0 0)).setCell ⟨w.heap.size + 1, 0, none⟩ (.int .i64 d)) := by
  have hlt0 := h.lt
  obtain ⟨⟨b0, b1⟩, ⟨v, bv, ho⟩, ⟨⟨hnd, hm⟩, hr⟩, hB, hlt⟩ := h
  have q0 : Blk (X.setCell ⟨w.heap.size, 0, none⟩ (.slice none 0 0)) w.heap.size #[.slice none 0 0] 22 := heap_setCell_same X _ 0 #[.slice none 0 0] 22 _ b0
  have q1 : Blk ((X.setCell ⟨w.heap.size, 0, none⟩ (.slice none 0 0)).setCell ⟨w.heap.size + 1, 0, none⟩ (.int .i64 d)) (w.heap.size + 1) #[.int .i64 d] 29 := heap_setCell_same _ _ 0 #[.int .i64 c] 29 _ (b1.other (by omega) _)
  refine ⟨⟨q0.other (by omega) _, q1⟩, ⟨v, (bv.other (by omega) _).other (by omega) _, ownsRow_other (by omega) (ownsRow_other (by omega) ho)⟩, ⟨⟨hnd, fun r hr' => ?_⟩, hr⟩, (hB.setCell (p := ⟨w.heap.size, 0, none⟩) (by simp) _).setCell (p := ⟨w.heap.size + 1, 0, none⟩) (by simp) _, hlt⟩
  have := hr r hr'
  rw [heap_setCell_other _ _ _ _ (by simp; omega), heap_setCell_other _ _ _ _ (by simp; omega)]
  exact hm r hr'
theorem endW_len (ls : List (List Int)) (h : ∀ l ∈ ls, l.length ≤ 998) : (endW ls).length ≤ 1000 * ls.length := by
  induction ls with
  | nil => simp [endW]
  | cons l ls ih =>
    have h1 := h l (by simp)
    have h2 := ih (fun m hm => h m (by simp [hm]))
    unfold endW at h2 ⊢
    rw [List.flatMap_cons, List.length_append, List.length_append, List.length_cons]
    simp only [List.length_cons, List.length_nil]
    omega
theorem linesW_len {f : ByteArray × ByteArray} (h : okF f = true) : (linesW f).length ≤ 4163 := by
  have hb := okF_bounds h
  have := foldL_len _ (f.1.size + 2) (fieldL (nums f.1) (nums f.2)) (Nat.le_refl _) (by omega)
  have h2 : (fieldL (nums f.1) (nums f.2)).length ≤ 4162 := by
    unfold fieldL
    split <;> simp [nums_len] <;> omega
  unfold linesW
  omega
theorem lines_len (fs : List (ByteArray × ByteArray)) (h : fs.all okF = true) : (fs.flatMap linesW).length ≤ 4163 * fs.length := by
  induction fs with
  | nil => simp
  | cons f fs ih =>
    simp only [List.all_cons, Bool.and_eq_true] at h
    have h1 := linesW_len h.1
    have h2 := ih h.2
    rw [List.flatMap_cons, List.length_append, List.length_cons]
    omega
theorem outW_len {fs : List (ByteArray × ByteArray)} (h : fs.all okF = true) (hl : longW fs = false) : (outW fs).length ≤ 4163000 * fs.length := by
  have h1 := lines_len fs h
  have h2 := endW_len (fs.flatMap linesW) (fun l hm => by
    simp only [longW, List.any_eq_false, decide_eq_true_eq] at hl
    have := hl l hm; omega)
  unfold outW
  omega
theorem outW_snoc (fs : List (ByteArray × ByteArray)) (f : ByteArray × ByteArray) : outW (fs ++ [f]) = outW fs ++ endW (linesW f) := by simp [outW, endW]
theorem longW_snoc (fs : List (ByteArray × ByteArray)) (f : ByteArray × ByteArray) : longW (fs ++ [f]) = (longW fs || (linesW f).any (fun l => decide (998 < l.length))) := by simp [longW]
theorem endW_snoc (ls : List (List Int)) (l : List Int) : endW (ls ++ [l]) = endW ls ++ l ++ [13, 10] := by simp [endW]
theorem str_cells (s : ByteArray) : Lib.strCells s = (nums s).map (Value.int .u8) := by
  unfold Lib.strCells nums; rw [List.map_map]; rfl

set_option maxRecDepth 100000 in
set_option maxHeartbeats 8000000 in
theorem write_any (a : Option Addr) (len cap : Nat) (fs : List (ByteArray × ByteArray)) (w : World) (hn : fs.length = len) (hbig : len ≤ 9223372036854775807) (hr : FRow w a fs) (hsz : ∀ f ∈ fs, f.1.size ≤ 100000000 ∧ f.2.size ≤ 100000000) :
    Calls Tryz.prog 39 #[.slice a len cap] w fun e w' => ∃ v, e = .returned (.tuple #[v, .int .i64 (writeC fs)]) ∧ Own w' w.heap.size v (writeB fs) ∧ Below w.heap.size w w' := by
  obtain ⟨j0, hi, hz0, hz1, hz2⟩ := info_parts Tryz.info5
  have HR : Hid (FRow w a fs) := hr
  have HSZ : Hid (∀ f ∈ fs, f.1.size ≤ 100000000 ∧ f.2.size ≤ 100000000) := hsz
  clear hr hsz
  refine (callsIn_wide (n := 20)).1 ?_
  refine callsIn_of_wp_marks Tryz.func39 rfl trivial ?_ rfl
  simp only [Tryz.ntmps39, List.size_toArray, List.length_cons, List.length_nil, Nat.reduceAdd, Nat.reduceSub, Array.replicate_succ, Array.replicate_zero, List.push_toArray, List.append_toArray, List.nil_append, List.cons_append]
  by_cases h128 : 128 < len
  · have hd : decide ((len : Int) > 128) = true := by simp; omega
    have HC : Hid (writeC fs = 2 ∧ writeB fs = []) := by
      have h : writeC fs = 2 := by unfold writeC; rw [hn, if_pos h128]
      exact ⟨h, by unfold writeB; rw [h]; rfl⟩
    gi_wp2
    have k0 := (Blk.new w #[.slice none 0 0] 22).alloc (.cells #[.int .i64 2] 29)
    have k1 := Blk.new (w.alloc (.cells #[.slice none 0 0] 22)) #[.int .i64 2] 29
    simp only [World.size_alloc] at k1
    exact early HC.out.1 HC.out.2 k0 k1 (((Below.refl _ w).alloc (Nat.le_refl _) _).alloc (by simp) _) _ rfl rfl
  have hd : decide ((len : Int) > 128) = false := by simp; omega
  gi_wp2
  gi_loopw [15] (fun i wr => ∃ k : Nat, i = .int .i64 k ∧ k ≤ len ∧ (fs.take k).all okF = true ∧ (Blk wr w.heap.size #[.slice none 0 0] 22 ∧ Blk wr (w.heap.size + 1) #[.int .i64 0] 29) ∧ Below w.heap.size w wr) (fun i _ => len - (intOf i).toNat)
  case atStart =>
    have k0 := (Blk.new w #[.slice none 0 0] 22).alloc (.cells #[.int .i64 0] 29)
    have k1 := Blk.new (w.alloc (.cells #[.slice none 0 0] 22)) #[.int .i64 0] 29
    simp only [World.size_alloc] at k1
    exact ⟨0, rfl, by omega, by simp, ⟨k0, k1⟩, ((Below.refl _ w).alloc (Nat.le_refl _) _).alloc (by simp) _⟩
  case round =>
    obtain ⟨k, rfl, hk, hall, ⟨b0, b1⟩, hb⟩ := hrel
    have HA : Hid ((fs.take k).all okF = true) := hall
    have B0 : Hid (Blk wr w.heap.size #[.slice none 0 0] 22) := b0
    have B1 : Hid (Blk wr (w.heap.size + 1) #[.int .i64 0] 29) := b1
    have HB : Hid (Below w.heap.size w wr) := hb
    have hwz : w.heap.size + 2 ≤ wr.heap.size := b1.lt
    have hrw := HR.out.below hb
    clear hall b0 b1 hb
    by_cases hlt : k < len
    · have hd1 : decide ((k : Int) < (len : Int)) = true := by simp; omega
      obtain ⟨f, hfk⟩ : ∃ f, fs[k]? = some f := ⟨_, List.getElem?_eq_getElem (by omega)⟩
      have hfs := HSZ.out f (List.mem_of_getElem? hfk)
      have HT : Hid ((fs.take (k + 1)).all okF = okF f) := by
        unfold Hid; rw [List.take_add_one, hfk]; simp [HA.out]
      have HNO : Hid (okF f = false → writeC fs = 50 ∧ writeB fs = []) := fun h => by
        have h1 : fs.all okF = false := by
          rw [List.all_eq_false]
          exact ⟨f, List.mem_of_getElem? hfk, by rw [h]; simp⟩
        have h2 : writeC fs = 50 := by unfold writeC; rw [hn, if_neg h128, if_pos h1]
        exact ⟨h2, by unfold writeB; rw [h2]; rfl⟩
      obtain ⟨nm, vl⟩ := f
      rcases hrw with h | ⟨b, off, rfl, h⟩
      · rw [h] at hn; simp at hn; omega
      obtain ⟨hc1, hc2⟩ := h k _ hfk
      clear h hfk
      simp only at hc1 hc2 hfs
      gi_wp2_with fail
      refine ⟨trivial, (callsIn_wide.2 (isName_any nm _ (by omega))).mono ?_⟩
      rintro e w1 ⟨rfl, rfl⟩
      cases hnm : nameZ (nums nm) with
      | false =>
        have HF : Hid (writeC fs = 50 ∧ writeB fs = []) := HNO.out (by simp [okF, hnm])
        have b0 := B0.out.alloc (.cells #[.string nm, .string vl] 50)
        have b1 := B1.out.alloc (.cells #[.string nm, .string vl] 50)
        have e0 := b0.cell 0
        have e1 := b1.cell 0
        have f0 := b0.frozen 0
        have f1 := b1.frozen 0
        simp only [List.getElem?_toArray, List.getElem?_cons_zero] at e0 e1
        gi_wp2
        refine ⟨trivial, ?_⟩
        gi_wp2
        exact early HF.out.1 HF.out.2 ((b0.same0 _).other (by omega) _) ((b1.other (by omega) _).same0 _) (((HB.out.alloc HB.out.size _).setCell (p := ⟨w.heap.size, 0, none⟩) (by simp) _).setCell (p := ⟨w.heap.size + 1, 0, none⟩) (by simp) _) _ rfl rfl
      | true =>
        have q0 : (wr.alloc (.cells #[.string nm, .string vl] 50)).cell? ⟨wr.heap.size, 1, none⟩ = some (.string vl) := World.cell?_alloc_mark _ _ _ _ _
        gi_wp2_with fail
        refine ⟨trivial, (callsIn_wide.2 (isValue_any vl _ (by omega))).mono ?_⟩
        rintro e w2 ⟨rfl, hb2⟩
        cases hvl : valueZ (nums vl) with
        | false =>
          have HF : Hid (writeC fs = 50 ∧ writeB fs = []) := HNO.out (by simp [okF, hvl])
          have b0 := (B0.out.alloc (.cells #[.string nm, .string vl] 50)).below hb2 (by simp; omega)
          have b1 := (B1.out.alloc (.cells #[.string nm, .string vl] 50)).below hb2 (by simp; omega)
          have e0 := b0.cell 0
          have e1 := b1.cell 0
          have f0 := b0.frozen 0
          have f1 := b1.frozen 0
          simp only [List.getElem?_toArray, List.getElem?_cons_zero] at e0 e1
          have HB3 : Hid (Below w.heap.size w w2) := (HB.out.alloc HB.out.size _).trans (hb2.mono (by have := HB.out.size; simp; omega))
          clear hb2 q0
          gi_wp2
          exact early HF.out.1 HF.out.2 ((b0.same0 _).other (by omega) _) ((b1.other (by omega) _).same0 _) ((HB3.out.setCell (p := ⟨w.heap.size, 0, none⟩) (by simp) _).setCell (p := ⟨w.heap.size + 1, 0, none⟩) (by simp) _) _ rfl rfl
        | true =>
          gi_wp2
          go_roundw
          case rel => exact ⟨k + 1, by go_num, by omega, by rw [HT.out]; simp [okF, hnm, hvl], ⟨(B0.out.alloc _).below hb2 (by simp; omega), (B1.out.alloc _).below hb2 (by simp; omega)⟩, (HB.out.alloc HB.out.size _).trans (hb2.mono (by have := HB.out.size; simp; omega))⟩
          case measure => simp [intOf]; omega
    · have hkl : len = k := by omega
      subst hkl
      have HALL : Hid (fs.all okF = true) := by have := HA.out; rwa [List.take_of_length_le (by omega)] at this
      have hd1 : decide ((len : Int) < (len : Int)) = false := by simp
      gi_wp2
      have hBo : w.heap.size + 1 < wr.heap.size := by omega
      have hWJ0 : WJ w wr.heap.size [] 0 [] (wr.alloc (.cells #[.slice none 0 0] 22)) := ⟨⟨B0.out.alloc _, B1.out.alloc _⟩, ⟨.slice none 0 0, Blk.new wr _ 22, World.ownsRow_nil _ _ _ _⟩, ⟨⟨List.nodup_nil, by simp⟩, by simp⟩, HB.out.alloc HB.out.size _, hBo⟩
      obtain ⟨Bo, hBoe⟩ : ∃ Bo, wr.heap.size = Bo := ⟨_, rfl⟩
      rw [hBoe] at hWJ0 hBo ⊢
      clear hBoe hwz hrw B0 B1 HB HA
      refine wpIn_loop (fun A W => ∃ (k : Nat) (kz : Int) (rs : List Nat) (v8 v9 v33 v34 v35 v36 v37 v38 v39 v40 v41 v42 v43 v44 v45 v46 v47 : Value), A = { tmps := #[.slice a len cap, undef, .pointer (some ⟨w.heap.size, 0, none⟩), .pointer (some ⟨w.heap.size + 1, 0, none⟩), undef, u5, .pointer (some ⟨Bo, 0, none⟩), undef, v8, v9, .slice a len cap, .int .i64 (len : Nat), .bool false, .slice a len cap, .int .i64 (len : Nat), .int .i64 (len : Nat), .bool false, u17, u18, u19, u20, u21, u22, u23, u24, u25, u26, u27, u28, u29, .slice a len cap, .int .i64 (len : Nat), .int .i64 kz, v33, v34, v35, v36, v37, v38, v39, v40, v41, v42, v43, v44, v45, v46, v47, undef, undef], defers := rs.map mark } ∧ kz = k ∧ k ≤ len ∧ longW (fs.take k) = false ∧ WJ w Bo rs 0 (outW (fs.take k)) W) (fun A _ => len - (intOf (A.tmps.getD 32 undef)).toNat) ?_ ?_
      · exact ⟨0, 0, [], undef, undef, undef, undef, undef, undef, undef, undef, undef, undef, undef, undef, undef, undef, undef, undef, undef, rfl, rfl, by omega, rfl, hWJ0⟩
      · rintro A W ⟨k, kz, rs, v8, v9, v33, v34, v35, v36, v37, v38, v39, v40, v41, v42, v43, v44, v45, v46, v47, rfl, rfl, hk, hlong, hWJ⟩
        have HL : Hid (longW (fs.take k) = false) := hlong
        have HW : Hid (WJ w Bo rs 0 (outW (fs.take k)) W) := hWJ
        have hBW := hWJ.lt
        have hrw := HR.out.below hWJ.2.2.2.1
        clear hlong hWJ
        by_cases hlt : k < len
        · have hd1 : decide ((k : Int) < (len : Int)) = true := by simp; omega
          obtain ⟨f, hfk⟩ : ∃ f, fs[k]? = some f := ⟨_, List.getElem?_eq_getElem (by omega)⟩
          have hfo : okF f = true := List.all_eq_true.1 HALL.out f (List.mem_of_getElem? hfk)
          have HTK : Hid (fs.take (k + 1) = fs.take k ++ [f]) := by unfold Hid; rw [List.take_add_one, hfk]; rfl
          have hfb := okF_bounds hfo
          have hfl := linesW_len hfo
          have hacc : (outW (fs.take k)).length ≤ 532864000 := by
            have h1 := outW_len (fs := fs.take k) (by rw [List.all_eq_true]; intro g hg; exact List.all_eq_true.1 HALL.out g (List.mem_of_mem_take hg)) HL.out
            have h2 : (fs.take k).length ≤ 128 := by simp; omega
            omega
          obtain ⟨nm, vl⟩ := f
          have HLW : Hid (linesW (nm, vl) = foldL (nm.size + 2) (fieldL (nums nm) (nums vl))) := rfl
          rcases hrw with h | ⟨b, off, rfl, h⟩
          · rw [h] at hn; simp at hn; omega
          obtain ⟨hc1, hc2⟩ := h k _ hfk
          clear h hfk hfo
          simp only at hc1 hc2 hfb
          gi_wp2_with (refine ⟨trivial, ?_⟩; gi_at_call 74; refine (folded_in _ _ _ _).mono ?_; rintro e w' ⟨rfl, rfl⟩)
          have hc0 : ((W.alloc (.cells #[.string nm, .string vl] 50)).alloc (.cells #[.string nm, .string vl] 50)).cell? ⟨W.heap.size + 1, 0, none⟩ = some (.string nm) := by
            have h := World.cell?_alloc_mark (W.alloc (.cells #[.string nm, .string vl] 50)) #[.string nm, .string vl] 50 (0, 0) 0
            rw [World.size_alloc] at h; exact h
          have hc1' : ((W.alloc (.cells #[.string nm, .string vl] 50)).alloc (.cells #[.string nm, .string vl] 50)).cell? ⟨W.heap.size + 1, 1, none⟩ = some (.string vl) := by
            have h := World.cell?_alloc_mark (W.alloc (.cells #[.string nm, .string vl] 50)) #[.string nm, .string vl] 50 (0, 0) 1
            rw [World.size_alloc] at h; exact h
          have hWJ1 : WJ w Bo rs 0 (outW (fs.take k)) ((W.alloc (.cells #[.string nm, .string vl] 50)).alloc (.cells #[.string nm, .string vl] 50)) := (HW.out.keep (keep W _)).keep (keep _ _)
          have hs0 : ((W.alloc (.cells #[.string nm, .string vl] 50)).alloc (.cells #[.string nm, .string vl] 50)).heap.size = W.heap.size + 2 := by simp
          have HRS : Hid (∀ r ∈ rs, r < W.heap.size) := fun r hr => (Array.getElem?_eq_some_iff.1 (HW.out.2.2.1.1.2 r hr)).1
          obtain ⟨W0, hW0⟩ : ∃ W0, (W.alloc (.cells #[.string nm, .string vl] 50)).alloc (.cells #[.string nm, .string vl] 50) = W0 := ⟨_, rfl⟩
          rw [hW0] at hc0 hc1' hWJ1 hs0 ⊢
          clear hW0 hc1 hc2
          obtain ⟨acc, hae⟩ : ∃ acc, outW (fs.take k) = acc := ⟨_, rfl⟩
          have HAE : Hid (outW (fs.take k) = acc) := hae
          rw [hae] at hWJ1 hacc
          clear hae
          refine wpIn_rangeFunc_ownH rfl (by omega) (gf := 121) (lb := #[.pointer (some ⟨W.heap.size + 1, 0, none⟩)]) rfl trivial (enters_of Tryz.func121 (by kernel_rfl) rfl)
            (folded_stops 19 (by omega) (W.heap.size + 1) nm vl hfb.1 hfb.2 W0 hc0 hc1') (fun _ _ => trivial) (fun _ _ _ _ _ _ _ _ => trivial) (Below.refl _ _) (fun _ => rfl)
            (fun (pre : List Pt) X => WJ w Bo rs 0 (acc ++ endW (pre.map (fun x : Pt => nums x.1))) X ∧ ∀ x ∈ pre, x.1.size ≤ 998)
            (fun c (pre : List Pt) X => c = .ret ∧ (∃ ac, WJ w Bo rs 40 ac X) ∧ ∃ x ∈ pre, 998 < x.1.size)
            (fun (pre : List Pt) X Y row hs hg hrow => ⟨hs.1.grown hg hrow (by omega) (fun r hr => by have := HRS.out r hr; omega), hs.2⟩)
            (fun c (pre : List Pt) X Y row hs hg hrow => ⟨hs.1, by obtain ⟨ac, h⟩ := hs.2.1; exact ⟨ac, h.grown hg hrow (by omega) (fun r hr => by have := HRS.out r hr; omega)⟩, hs.2.2⟩)
            ⟨by simpa [endW] using hWJ1, by simp⟩
            (fun x a' _ => a' = { tmps := #[.slice (some ⟨b, off, none⟩) len cap, undef, .pointer (some ⟨w.heap.size, 0, none⟩), .pointer (some ⟨w.heap.size + 1, 0, none⟩), undef, u5, .pointer (some ⟨Bo, 0, none⟩), undef, .pointer (some ⟨W.heap.size, 0, none⟩), .string x.1, .slice (some ⟨b, off, none⟩) len cap, .int .i64 (len : Nat), .bool false, .slice (some ⟨b, off, none⟩) len cap, .int .i64 (len : Nat), .int .i64 (len : Nat), .bool false, u17, u18, u19, u20, u21, u22, u23, u24, u25, u26, u27, u28, u29, .slice (some ⟨b, off, none⟩) len cap, .int .i64 (len : Nat), .int .i64 (k : Nat), .bool true, .pointer (some ⟨b, off + k * 2, none⟩), .agg #[.string nm, .string vl], .agg #[.string nm, .string vl], .func (.func 121) #[] #[.pointer (some ⟨W.heap.size + 1, 0, none⟩)], .string x.1, v39, v40, v41, v42, v43, v44, v45, v46, v47, undef, undef], defers := [] })
            (fun x a' _ X Y row hs hg hrow => hs)
            ?assign ?body ?done ?stop
          case assign =>
            rintro l pre x X K hI hK
            gi_wp2
            exact hK _ _ (KeepsFrom.refl _ _) trivial hI rfl
          case body =>
            rintro l pre ⟨x, hxs⟩ a' X hl ⟨rr, hrr⟩ ⟨hJ, hle⟩ rfl hlt'
            simp only
            have HJ : Hid (WJ w Bo rs 0 (acc ++ endW (pre.map (fun x : Pt => nums x.1))) X) := hJ
            have HLE : Hid (∀ x ∈ pre, x.1.size ≤ 998) := hle
            have hXlt := hJ.lt
            obtain ⟨⟨b0, b1⟩, ⟨v, bv, ho⟩, _, _, hwB⟩ := hJ
            have hpn : pre.length < 4163 := by rw [← HLW.out] at hlt'; omega
            obtain ⟨fl, hfl'⟩ : ∃ fl, acc ++ endW (pre.map (fun x : Pt => nums x.1)) = fl := ⟨_, rfl⟩
            have hflb : fl.length ≤ 600000000 := by
              have h1 := endW_len (pre.map (fun x : Pt => nums x.1)) (fun l hl => by
                obtain ⟨y, hy, rfl⟩ := List.mem_map.1 hl
                rw [nums_len]; exact HLE.out y hy)
              rw [List.length_map] at h1
              rw [← hfl', List.length_append]; omega
            have HFLE : Hid (acc ++ endW (pre.map (fun x : Pt => nums x.1)) = fl) := hfl'
            rw [hfl'] at ho
            have e0 := b0.cell 0
            have e1 := b1.cell 0
            have f0 := b0.frozen 0
            have f1 := b1.frozen 0
            have d0 := bv.cell 0
            have g0 := bv.frozen 0
            simp only [List.getElem?_toArray, List.getElem?_cons_zero] at e0 e1 d0
            have BV : Hid (Blk X Bo #[v] 22) := bv
            have OW0 : Hid (Own X (Bo + 1) v fl) := ho
            clear b0 b1 bv ho hle hfl' hlt' hrr
            by_cases h9 : 998 < x.size
            · have hd9 : decide ((x.size : Int) > 998) = true := by simp; omega
              gi_wp2
              exact ⟨((KeepsOthers.setCell _ _ _).trans (KeepsOthers.setCell _ _ _)).from _, rfl, ⟨_, HJ.out.err⟩, ⟨x, hxs⟩, by simp, h9⟩
            · have hd9 : decide ((x.size : Int) > 998) = false := by simp; omega
              gi_wp2_with (gi_at_builtin; refine in_append_string _ rfl (.tmp 42) (.tmp 43) 22 9 rfl (Bo + 1) 5 j0 Tryz.underlying22 Tryz.underlying9 hi hz0 hz1 hz2 _ fl.length _ rfl OW0.out x rfl (by unfold maxLen; omega) (by omega) (by omega) ?_)
              intro v1 x1 hown1 hgrow1
              have o1 : Own x1 (Bo + 1) v1 (fl ++ nums x) := own_of hown1 (by simp [nums_len]) (by rw [str_cells]; simp)
              have st1 := app_step BV.out (by omega) (by omega) OW0.out hgrow1 o1
              obtain ⟨a1, cp1, ev1, _⟩ := own_row' o1
              clear hown1 hgrow1 o1
              subst ev1
              have GR1 : Hid (Gr (Bo + 1) Bo X (x1.setCell ⟨Bo, 0, none⟩ (.slice a1 (fl ++ nums x).length cp1))) := st1.2.2.2.1
              have GR1S : Bo + 1 ≤ (x1.setCell ⟨Bo, 0, none⟩ (.slice a1 (fl ++ nums x).length cp1)).heap.size := Nat.le_trans (by omega) GR1.out.size
              have OW1 : Hid (Own (x1.setCell ⟨Bo, 0, none⟩ (.slice a1 (fl ++ nums x).length cp1)) (Bo + 1) (.slice a1 (fl ++ nums x).length cp1) (fl ++ nums x)) := st1.2.2.1
              have BX1 : Hid (Blk (x1.setCell ⟨Bo, 0, none⟩ (.slice a1 (fl ++ nums x).length cp1)) Bo #[(.slice a1 (fl ++ nums x).length cp1)] 22) := st1.2.1
              have m11 := st1.1.cell 0
              have m12 := st1.1.frozen 0
              simp only [List.getElem?_toArray, List.getElem?_cons_zero] at m11
              obtain ⟨n1, hn1⟩ : ∃ n1, (fl ++ nums x).length = n1 := ⟨_, rfl⟩
              have hnb1 : n1 ≤ 700000000 := by rw [← hn1, List.length_append, nums_len]; omega
              have HN1 : Hid ((fl ++ nums x).length = n1) := hn1
              rw [hn1] at GR1 GR1S OW1 BX1 ⊢
              have ol1 : Hid ((x1.setCell ⟨Bo, 0, none⟩ (.slice a1 n1 cp1)).ownsRow (Bo + 1) 5 1 (.slice a1 n1 cp1) n1 ((fl ++ nums x).map (Value.int .u8))) := by have := OW1.out; unfold Own at this; rw [HN1.out] at this; exact this
              clear st1 hn1 e0 e1 f0 f1 d0 g0
              gi_wp2_with (gi_at_builtin; refine in_append_string _ rfl (.tmp 45) (.const (.string ⟨#[13, 10]⟩)) 22 9 rfl (Bo + 1) 5 j0 Tryz.underlying22 Tryz.underlying9 hi hz0 hz1 hz2 _ n1 _ rfl ol1.out ⟨#[13, 10]⟩ rfl (by unfold maxLen; simp [ByteArray.size]; omega) (by simp [ByteArray.size]; omega) GR1S ?_)
              intro v2 x2 hown2 hgrow2
              have o2 : Own x2 (Bo + 1) v2 (fl ++ nums x ++ [13, 10]) := own_of hown2 (by have h2 := HN1.out; simp at h2 ⊢; omega) (by simp [sc1310])
              have st2 := app_step BX1.out (by omega) GR1S OW1.out hgrow2 o2
              obtain ⟨a2, cp2, ev2, _⟩ := own_row' o2
              clear hown2 hgrow2 o2
              subst ev2
              have m21 := st2.1.cell 0
              have m22 := st2.1.frozen 0
              simp only [List.getElem?_toArray, List.getElem?_cons_zero] at m21
              have GR2 : Hid (Gr (Bo + 1) Bo X (x2.setCell ⟨Bo, 0, none⟩ (.slice a2 (fl ++ nums x ++ [13, 10]).length cp2))) := Gr.trans GR1.out st2.2.2.2.1
              have OW2 : Hid (Own (x2.setCell ⟨Bo, 0, none⟩ (.slice a2 (fl ++ nums x ++ [13, 10]).length cp2)) (Bo + 1) (.slice a2 (fl ++ nums x ++ [13, 10]).length cp2) (fl ++ nums x ++ [13, 10])) := st2.2.2.1
              have BX2 : Hid (Blk (x2.setCell ⟨Bo, 0, none⟩ (.slice a2 (fl ++ nums x ++ [13, 10]).length cp2)) Bo #[(.slice a2 (fl ++ nums x ++ [13, 10]).length cp2)] 22) := st2.2.1
              obtain ⟨n2, hn2⟩ : ∃ n2, (fl ++ nums x ++ [13, 10]).length = n2 := ⟨_, rfl⟩
              rw [hn2] at GR2 OW2 BX2 ⊢
              clear st2 hn2 m11 m12
              gi_wp2
              have hfin : WJ w Bo rs 0 (acc ++ endW ((pre ++ [(⟨x, hxs⟩ : Pt)]).map (fun x : Pt => nums x.1))) (x2.setCell ⟨Bo, 0, none⟩ (.slice a2 n2 cp2)) := by
                have h := HJ.out.gr GR2.out BX2.out OW2.out
                rw [List.map_append, List.map_singleton, endW_snoc, ← List.append_assoc, ← List.append_assoc, HFLE.out]
                exact h
              refine ⟨(GR2.out.keeps BV.out).from _, trivial, hfin, ?_⟩
              intro y hy
              rcases List.mem_append.1 hy with h | h
              · exact HLE.out y h
              · obtain rfl : y = ⟨x, hxs⟩ := by simpa using h
                simp only; omega
          case done =>
            rintro D ys X hD hS ⟨hJ, hle⟩ hK
            have hDr : D ∉ rs := fun h => by have := HRS.out D h; omega
            have hln : longW (fs.take (k + 1)) = false := by
              rw [HTK.out, longW_snoc, HL.out, HLW.out, ← hS, Bool.false_or, List.any_eq_false]
              intro l hl
              obtain ⟨y, hy, rfl⟩ := List.mem_map.1 hl
              rw [nums_len]
              have := hle y hy
              simpa using this
            have hJ' : WJ w Bo (D :: rs) 0 (outW (fs.take (k + 1))) X := by
              rw [HTK.out, outW_snoc, HAE.out, HLW.out, ← hS]
              obtain ⟨h1, h2, ⟨⟨h3, h4⟩, h5⟩, h6, h7⟩ := hJ
              refine ⟨h1, h2, ⟨⟨List.nodup_cons.2 ⟨hDr, h3⟩, fun r hr => ?_⟩, fun r hr => ?_⟩, h6, h7⟩
              · rcases List.mem_cons.1 hr with rfl | hr
                · exact hK
                · exact h4 r hr
              · rcases List.mem_cons.1 hr with rfl | hr
                · omega
                · exact h5 r hr
            have HJ' : Hid (WJ w Bo (D :: rs) 0 (outW (fs.take (k + 1))) X) := hJ'
            have HLN : Hid (longW (fs.take (k + 1)) = false) := hln
            clear hJ hJ' hln hle hS hK hWJ1
            gi_wp2
            refine ⟨⟨k + 1, _, D :: rs, _, _, _, _, _, _, _, _, _, _, _, _, _, _, _, _, _, rfl, by omega, by omega, HLN.out, HJ'.out⟩, ?_⟩
            show len - ((k : Int) + 1).toNat < len - (k : Int).toNat
            omega
          case stop =>
            rintro D c pre X hD hS ⟨rfl, ⟨ac, hJ⟩, y, hy, h9⟩ hK
            have hDr : D ∉ rs := fun h => by have := HRS.out D h; omega
            have HC : Hid (writeC fs = 40 ∧ writeB fs = []) := by
              have h1 : longW fs = true := by
                unfold longW
                rw [List.any_eq_true]
                refine ⟨nums y.1, ?_, by rw [nums_len]; simpa using h9⟩
                rw [List.mem_flatMap]
                refine ⟨(nm, vl), ?_, ?_⟩
                · have : (nm, vl) ∈ fs.take (k + 1) := by rw [HTK.out]; simp
                  exact List.mem_of_mem_take this
                · rw [HLW.out]
                  exact hS.subset (List.mem_map.2 ⟨y, hy, rfl⟩)
              have h2 : writeC fs = 40 := by unfold writeC; rw [hn, if_neg h128, if_neg (by rw [HALL.out]; simp), if_pos h1]
              exact ⟨h2, by unfold writeB; rw [h2]; rfl⟩
            gi_wp2
            obtain ⟨⟨b0, b1⟩, _, ⟨⟨h3, h4⟩, h5⟩, h6, h7⟩ := hJ
            refine late (rs := D :: rs) HC.out.1 b0 b1 (by rw [HC.out.2]; exact World.ownsRow_nil _ _ _ _) ⟨List.nodup_cons.2 ⟨hDr, h3⟩, fun r hr => ?_⟩ (fun r hr => ?_) h6 _ rfl rfl rfl
            · rcases List.mem_cons.1 hr with rfl | hr
              · exact hK
              · exact h4 r hr
            · rcases List.mem_cons.1 hr with rfl | hr
              · omega
              · have := h5 r hr; omega
        · have hkl : len = k := by omega
          subst hkl
          have HC : Hid (writeC fs = 0 ∧ writeB fs = outW fs ++ [13, 10]) := by
            have hl : longW fs = false := by have := HL.out; rwa [List.take_of_length_le (by omega)] at this
            have h2 : writeC fs = 0 := by unfold writeC; rw [hn, if_neg h128, if_neg (by rw [HALL.out]; simp), if_neg (by rw [hl]; simp)]
            exact ⟨h2, by unfold writeB; rw [h2]; rfl⟩
          have hacc : (outW fs).length ≤ 532864000 := by
            have hl : longW fs = false := by have := HL.out; rwa [List.take_of_length_le (by omega)] at this
            have h1 := outW_len HALL.out hl
            omega
          have HW' : Hid (WJ w Bo rs 0 (outW fs) W) := by have := HW.out; rwa [List.take_of_length_le (by omega)] at this
          obtain ⟨fl, hfl⟩ : ∃ fl, outW fs = fl := ⟨_, rfl⟩
          rw [hfl] at HW' hacc
          have HFL : Hid (outW fs = fl) := hfl
          obtain ⟨⟨b0, b1⟩, ⟨v, bv, ho⟩, _, hB, hwB⟩ := HW'.out
          have e0 := b0.cell 0
          have e1 := b1.cell 0
          have f0 := b0.frozen 0
          have f1 := b1.frozen 0
          have d0 := bv.cell 0
          simp only [List.getElem?_toArray, List.getElem?_cons_zero] at e0 e1 d0
          have OW0 : Hid (Own W (Bo + 1) v fl) := ho
          have BV : Hid (Blk W Bo #[v] 22) := bv
          clear b0 b1 bv ho hB hfl hrw
          gi_wp2_with (gi_at_builtin; refine in_append_string _ rfl (.tmp 48) (.const (.string ⟨#[13, 10]⟩)) 22 9 rfl (Bo + 1) 5 j0 Tryz.underlying22 Tryz.underlying9 hi hz0 hz1 hz2 _ fl.length _ rfl OW0.out ⟨#[13, 10]⟩ rfl (by unfold maxLen; simp [ByteArray.size]; omega) (by simp [ByteArray.size]; omega) (by omega) ?_)
          intro v2 x2 hown2 hgrow2
          have o2 : Own x2 (Bo + 1) v2 (fl ++ [13, 10]) := own_of hown2 (by simp) (by simp [sc1310])
          have st2 := app_step BV.out (by omega) (by omega) OW0.out hgrow2 o2
          have hJ2 : WJ w Bo rs 0 fl x2 ∨ True := .inr trivial
          have GR : Hid (Gr (Bo + 1) Bo W x2) := st2.2.2.2.2
          obtain ⟨⟨b0, b1⟩, _, ⟨⟨h3, h4⟩, h5⟩, hB, _⟩ := HW'.out
          have B0 : Hid (Blk x2 w.heap.size #[.slice none 0 0] 22) := GR.out.blk b0 (by omega) (.inl (by omega))
          have B1 : Hid (Blk x2 (w.heap.size + 1) #[.int .i64 0] 29) := GR.out.blk b1 (by omega) (.inl (by omega))
          have HBx : Hid (Below w.heap.size w x2) := hB.trans (GR.out.below (by omega) (by omega) hB.size)
          have MK : Hid (Mks rs x2 ∧ ∀ r ∈ rs, Bo < r) := ⟨⟨h3, fun r hr => GR.out.same r _ (by have := h5 r hr; omega) (h4 r hr) (.inr (fun cs fr e => by cases e))⟩, h5⟩
          obtain ⟨a2, cp2, ev2, _⟩ := own_row' o2
          have O2 : Hid (Own x2 (Bo + 1) v2 (fl ++ [13, 10])) := o2
          subst ev2
          obtain ⟨n2, hn2⟩ : ∃ n2, (fl ++ [13, 10]).length = n2 := ⟨_, rfl⟩
          rw [hn2] at O2 ⊢
          have m0 := B0.out.cell 0
          have m1 := B1.out.cell 0
          have m2 := B0.out.frozen 0
          have m3 := B1.out.frozen 0
          simp only [List.getElem?_toArray, List.getElem?_cons_zero] at m0 m1
          clear hown2 hgrow2 o2 st2 hJ2 b0 b1 h3 h4 h5 hB e0 e1 f0 f1 d0 hn2
          gi_wp2
          refine late (rs := rs) HC.out.1 ((B0.out.same0 _).other (by omega) _) ((B1.out.other (by omega) _).same0 _) ?_ ?_ (fun r hr => by have := MK.out.2 r hr; omega) ((HBx.out.setCell (p := ⟨w.heap.size, 0, none⟩) (by simp) _).setCell (p := ⟨w.heap.size + 1, 0, none⟩) (by simp) _) _ rfl rfl rfl
          · rw [HC.out.2, HFL.out]
            exact own_base (by omega) (ownsRow_other (by omega) (ownsRow_other (by omega) O2.out))
          · refine ⟨MK.out.1.1, fun r hr => ?_⟩
            have := MK.out.2 r hr
            rw [heap_setCell_other _ _ _ _ (by simp; omega), heap_setCell_other _ _ _ _ (by simp; omega)]
            exact MK.out.1.2 r hr
end Go.Proofs.YtmdkmedlncfcbaaGreatDoor
