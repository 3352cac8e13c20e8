/-
  Lines as they lie; the contract of Write.
-/
import Derived.Test.YtenclgnkogmgiaaDoorBw
import Derived.Test.YtenclgnkogmgiaaDoorIt
import Derived.RangeFuncLeaves
import Derived.ControlIn
namespace Go.Proofs.YtenclgnkogmgiaaDoor
open Go.RowKit Go.Shelf
set_option linter.unusedVariables false
attribute [local go_sem] Oper.semAt_some

theorem in_append_string {F : Fence} {n' : Nat} {P : Program} {ops : Array Oper} {rest : List Oper} {o : Oper} {a : Act} {Q : Exit → Act → World → Prop} (w : World) (hgd : o.guard = none) (sl x : Operand) (t u : TypeId)
    (ho : o.op = .call { callee := .builtin .append, args := #[sl, x], argTypes := #[t, u] })
    (base : Nat) (e : TypeId) (i : TypeInfo) (ht : P.underlying t = some (.slice e)) (hu : P.underlying u = some .string) (hi : P.info? e = some i) (hz : i.zero = some (.int .u8 0))
    (hsize : i.size = 1) (hby : i.bytes = 1)
    (v : Value) (n : Nat) (xs : List Value) (hs : a.eval sl = v) (hown : w.ownsRow base e 1 v n xs) (s : ByteArray) (hx : a.eval x = .string s)
    (h63 : n + s.size ≤ maxLen) (hbytes : n + s.size ≤ 140737488355328) (hbase : base ≤ w.heap.size)
    (h : ∀ v' w', w'.ownsRow base e 1 v' (n + s.size) (xs ++ Lib.strCells s) → w.grownBy w' v.ownBlock → wpListIn F n' P ops Q rest (a.put o.dst v') w') : wpListIn F n' P ops Q (o :: rest) a w := by
  refine wpListIn_plain hgd fun K hK => ?_
  obtain ⟨v', w', hr, h2, h3, h4⟩ := Lib.run_append_own_string (P := P) w base t u o.type e i ht hu hi hz hsize hby v n xs hown s h63 hbytes hbase
  unfold Oper.wpIn
  refine ⟨?_, ?_⟩
  · simp [Oper.about, ho, resolve, Target.leads, Sem.run_pure]
  · rw [Oper.semAt_plain F _ _ (by rw [ho]; intro c hc'; cases hc')]
    simp [execOp, ho, resolve, invoke, builtin, hs, hx, hr, Result.andThen]
    exact hK _ _ (h v' w' h2 h3)

theorem own_of {w : World} {B n : Nat} {v : Value} {l : List Int} {xs : List Value} (h : w.ownsRow B 5 1 v n xs) (hn : n = l.length) (hx : xs = l.map (Value.int .u8)) : Own w B v l := by subst hn; subst hx; exact h
theorem sc1310 : Lib.strCells ⟨#[13, 10]⟩ = [.int .u8 13, .int .u8 10] := rfl
theorem own_other {w : World} {B : Nat} {v : Value} {l : List Int} {f o : Nat} {u : Value} (hf : f < B) (h : Own w B v l) : Own (w.setCell ⟨f, o, none⟩ u) B v l := by
  refine ⟨h.1, ?_⟩
  rcases h.2 with h | ⟨g, cap, cur, h1, h2, h3, h4⟩
  · exact .inl h
  · refine .inr ⟨g, cap, cur, h1, h2, ?_, h4⟩
    rw [heap_setCell_other _ _ _ _ (by simp; omega)]
    exact h3
theorem size_setCell (w : World) (a : Addr) (u : Value) : w.heap.size ≤ (w.setCell a u).heap.size := ((Below.refl 0 w).setCell (p := a) (Nat.zero_le _) u).size
theorem grow_below {w w' : World} {B : Nat} {v : Value} {l : List Int} (hBw : B ≤ w.heap.size) (hg : w.grownBy w' v.ownBlock) (ho : Own w B v l) : Below B w w' := by
  refine (Below.refl B w).grown hg hBw ?_
  intro k hk
  rcases ho.2 with ⟨rfl, _⟩ | ⟨b, cap, cur, rfl, h2, _⟩
  · simp [Value.ownBlock] at hk
  · simp [Value.ownBlock] at hk; omega

def Blk (W : World) (B : Nat) (cs : Array Value) (t : TypeId) : Prop := W.heap[B]? = some (.cells cs t (0, 0))
theorem Blk.lt {W : World} {B : Nat} {cs : Array Value} {t : TypeId} (h : Blk W B cs t) : B < W.heap.size := (Array.getElem?_eq_some_iff.1 h).1
theorem Blk.kept {W W' : World} {row : Option Nat} {B : Nat} {cs : Array Value} {t : TypeId} (h : Blk W B cs t) (hg : W.grownBy W' row) (hne : some B ≠ row) : Blk W' B cs t := (hg.block B h.lt hne).trans h
theorem Blk.alloc {W : World} {B : Nat} {cs : Array Value} {t : TypeId} (h : Blk W B cs t) (o : Obj) : Blk (W.alloc o) B cs t := (Below.heap_alloc W o B h.lt).trans h
theorem Blk.new (W : World) (cs : Array Value) (t : TypeId) : Blk (W.alloc (.cells cs t)) W.heap.size cs t := World.alloc_heap_new W _
theorem Blk.other {W : World} {B : Nat} {cs : Array Value} {t : TypeId} (h : Blk W B cs t) {g i : Nat} (hne : B ≠ g) (u : Value) : Blk (W.setCell ⟨g, i, none⟩ u) B cs t := (heap_setCell_other W ⟨g, i, none⟩ B u hne).trans h
theorem Blk.below {W W' : World} {B : Nat} {cs : Array Value} {t : TypeId} (h : Blk W B cs t) {n : Nat} (hb : Below n W W') (hn : B < n) : Blk W' B cs t := (hb.block B hn).trans h
theorem Blk.cell {W : World} {B : Nat} {cs : Array Value} {t : TypeId} (h : Blk W B cs t) (i : Nat) : W.cell? ⟨B, i, none⟩ = cs[i]? := cell_of_row W _ _ _ _ _ h
theorem Blk.frozen {W : World} {B : Nat} {cs : Array Value} {t : TypeId} (h : Blk W B cs t) (i : Nat) : W.frozen? ⟨B, i, none⟩ = false := frozen_of_row W _ _ _ _ h
theorem ownsRow_kept {X Y : World} {B e size : Nat} {v : Value} {n : Nat} {xs : List Value} {row : Option Nat} (h : X.ownsRow B e size v n xs) (hg : X.grownBy Y row) (hrow : ∀ r, row = some r → ∃ o : Obj, X.heap[r]? = some o ∧ o.isCells = false) : Y.ownsRow B e size v n xs := by
  refine ⟨h.1, ?_⟩
  rcases h.2 with h | ⟨b, cap, cur, h1, h2, h3, h4⟩
  · exact .inl h
  · refine .inr ⟨b, cap, cur, h1, h2, ?_, h4⟩
    rw [hg.block b (Array.getElem?_eq_some_iff.1 h3).1 (fun e => by obtain ⟨o, ho, hc⟩ := hrow b e.symm; rw [h3] at ho; cases ho; cases hc)]
    exact h3
structure Gr (B Bo : Nat) (W W' : World) : Prop where
  os : W'.os = W.os
  tape : W'.tape = W.tape
  output : W'.output = W.output
  size : W.heap.size ≤ W'.heap.size
  same : ∀ k o, k ≠ Bo → W.heap[k]? = some o → (k < B ∨ ∀ cs fr, o ≠ .cells cs 5 fr) → W'.heap[k]? = some o
theorem Gr.refl (B Bo : Nat) (W : World) : Gr B Bo W W := ⟨rfl, rfl, rfl, Nat.le_refl _, fun _ _ _ h _ => h⟩
theorem Gr.trans {B Bo : Nat} {X Y Z : World} (h : Gr B Bo X Y) (k : Gr B Bo Y Z) : Gr B Bo X Z :=
  ⟨k.os.trans h.os, k.tape.trans h.tape, k.output.trans h.output, Nat.le_trans h.size k.size, fun i o h1 h2 h3 => k.same i o h1 (h.same i o h1 h2 h3) h3⟩
theorem Gr.alloc {B Bo : Nat} {W W' : World} (h : Gr B Bo W W') (o : Obj) : Gr B Bo W (W'.alloc o) :=
  h.trans ⟨rfl, rfl, rfl, by simp, fun k o' _ h2 _ => (Below.heap_alloc W' o k (Array.getElem?_eq_some_iff.1 h2).1).trans h2⟩
theorem Gr.below {B Bo n : Nat} {W W' : World} (h : Gr B Bo W W') (h1 : n ≤ B) (h2 : n ≤ Bo) (h3 : n ≤ W.heap.size) : Below n W W' :=
  ⟨h.os, h.tape, h.output, h.size, fun k hk => by
    obtain ⟨o, ho⟩ : ∃ o, W.heap[k]? = some o := ⟨W.heap[k]'(by omega), Array.getElem?_eq_getElem (by omega)⟩
    rw [ho]; exact h.same k o (by omega) ho (.inl (by omega))⟩
theorem Gr.blk {B Bo k : Nat} {W W' : World} {cs : Array Value} {t : TypeId} (h : Gr B Bo W W') (hb : Blk W k cs t) (hk : k ≠ Bo) (ht : k < B ∨ t ≠ 5) : Blk W' k cs t :=
  h.same k _ hk hb (ht.imp id (fun ht cs' fr e => by cases e; exact ht rfl))
theorem Gr.keeps {B Bo : Nat} {W W' : World} {cs : Array Value} {t : TypeId} (h : Gr B Bo W W') (hb : Blk W Bo cs t) : KeepsOthers W W' :=
  ⟨h.size, fun k o hk ho => h.same k o (fun e => by subst e; rw [show W.heap[k]? = _ from hb] at hk; cases hk; cases ho) hk (.inr (fun cs fr e => by subst e; cases ho))⟩

theorem app_step {B Bo : Nat} {W w1 : World} {v v' : Value} {l l' : List Int} (hb : Blk W Bo #[v] 29) (hBo : Bo < B) (hB : B ≤ W.heap.size) (ho : Own W B v l) (hg : W.grownBy w1 v.ownBlock) (ho' : Own w1 B v' l') :
    Blk w1 Bo #[v] 29 ∧ Blk (w1.setCell ⟨Bo, 0, none⟩ v') Bo #[v'] 29 ∧ Own (w1.setCell ⟨Bo, 0, none⟩ v') B v' l' ∧ Gr B Bo W (w1.setCell ⟨Bo, 0, none⟩ v') ∧ Gr B Bo W w1 := by
  have hbl := grow_below hB hg ho
  have h1 : Blk w1 Bo #[v] 29 := hb.below hbl hBo
  have hs : ∀ k o, W.heap[k]? = some o → (k < B ∨ ∀ cs fr, o ≠ .cells cs 5 fr) → w1.heap[k]? = some o := by
    intro k o h2 h3
    refine (hg.block k (Array.getElem?_eq_some_iff.1 h2).1 (fun e => ?_)).trans h2
    rcases ho.2 with ⟨rfl, _⟩ | ⟨g, cap, cur, rfl, hg1, hg2, _⟩
    · simp [Value.ownBlock] at e
    · obtain rfl : k = g := by simpa [Value.ownBlock] using e
      rcases h3 with h3 | h3
      · omega
      · rw [hg2] at h2; cases h2; exact h3 _ _ rfl
  refine ⟨h1, heap_setCell_same w1 Bo 0 #[v] 29 v' h1, own_other hBo ho', ⟨hbl.os, hbl.tape, hbl.output, Nat.le_trans hbl.size (size_setCell _ _ _), ?_⟩, ⟨hbl.os, hbl.tape, hbl.output, hbl.size, fun k o _ h2 h3 => hs k o h2 h3⟩⟩
  intro k o hk h2 h3
  rw [heap_setCell_other _ _ _ _ (by simpa using hk)]
  exact hs k o h2 h3


def mark (r : Nat) : Deferred := { target := .collected r, args := #[] }
def Mks (rs : List Nat) (W : World) : Prop := rs.Nodup ∧ ∀ r ∈ rs, W.heap[r]? = some (.deferred (some []))
theorem leaves_marks {F : Fence} {n : Nat} {P : Program} {fn : Func} {tmps : Array Value} {R : Ending → World → Prop} : ∀ (rs : List Nat) (W : World), Mks rs W →
    (∀ W', (∀ m, (∀ r ∈ rs, m ≤ r) → Below m W W') → (∀ k, k ∉ rs → W'.heap[k]? = W.heap[k]?) → LeavesInM F n P fn tmps R [] .returning W') → LeavesInM F n P fn tmps R (rs.map mark) .returning W
  | [], W, _, h => h W (fun _ _ => Below.refl _ _) (fun _ _ => rfl)
  | r :: rs, W, hm, h => by
    obtain ⟨hnd, hr⟩ := hm
    have h1 := hr r (by simp)
    have hlt : r < W.heap.size := (Array.getElem?_eq_some_iff.1 h1).1
    refine ⟨by simp, .inl ⟨r, _, rfl, run_takeDeferred h1, ?_⟩⟩
    refine leaves_marks rs (W.putObj r (.deferred none)) ⟨(List.nodup_cons.1 hnd).2, fun q hq => ?_⟩ (fun W' hb hs => h W' (fun m hm => ?_) (fun k hk => ?_))
    · rw [World.putObj_heap_other (by rintro rfl; exact (List.nodup_cons.1 hnd).1 hq)]
      exact hr q (by simp [hq])
    · refine Below.trans ?_ (hb m (fun q hq => hm q (by simp [hq])))
      exact (Below.refl _ W).grown (grownBy_putObj' W r (.deferred none)) (by have := hm r (by simp); omega) (fun k e => by cases e; exact hm r (by simp))
    · rw [hs k (by simp at hk; exact hk.2), World.putObj_heap_other (by rintro rfl; simp at hk)]

theorem Blk.same0 {W : World} {B : Nat} {x : Value} {t : TypeId} (h : Blk W B #[x] t) (v : Value) : Blk (W.setCell ⟨B, 0, none⟩ v) B #[v] t := heap_setCell_same W B 0 #[x] t v h
def endW (ls : List (List Int)) : List Int := ls.flatMap (fun l => l ++ [13, 10])
theorem endW_snoc (ls : List (List Int)) (l : List Int) : endW (ls ++ [l]) = endW ls ++ l ++ [13, 10] := by simp [endW]
/-- A line as it lies. -/
structure Lm where
  nm : ByteArray
  vl : ByteArray
  a : Option Addr
  c : Nat
  fs : List (ByteArray × ByteArray)
def Lm.ln (m : Lm) : Ln := ⟨nums m.nm, numsP m.fs, nums m.vl⟩
def LRow (w : World) (a : Option Addr) (ls : List Lm) : Prop :=
  ls = [] ∨ ∃ b off, a = some ⟨b, off, none⟩ ∧ ∀ i m, ls[i]? = some m → (w.cell? ⟨b, off + i * 3, none⟩ = some (.string m.nm) ∧ w.cell? ⟨b, off + i * 3 + 1, none⟩ = some (.slice m.a m.fs.length m.c) ∧ w.cell? ⟨b, off + i * 3 + 2, none⟩ = some (.string m.vl)) ∧ FRow w m.a m.fs
theorem LRow.below {w w' : World} {a : Option Addr} {ls : List Lm} (h : LRow w a ls) (hb : Below w.heap.size w w') : LRow w' a ls := by
  rcases h with h | ⟨b, off, ha, h⟩
  · exact .inl h
  · refine .inr ⟨b, off, ha, fun i m hm => ?_⟩
    obtain ⟨⟨h1, h2, h3⟩, h4⟩ := h i m hm
    have hl := World.block_lt_of_cell? w _ h1
    exact ⟨⟨(hb.cell hl).trans h1, (hb.cell (p := ⟨b, off + i * 3 + 1, none⟩) hl).trans h2, (hb.cell (p := ⟨b, off + i * 3 + 2, none⟩) hl).trans h3⟩, h4.below hb⟩
/-- A line that is not too long. -/
def Fitm (m : Lm) : Prop := m.nm.size ≤ 100000 ∧ m.vl.size ≤ 100000 ∧ m.fs.length ≤ 1000 ∧ ∀ f ∈ m.fs, f.1.size + f.2.size ≤ 100000
def okM (m : Lm) : Bool := rightZ m.ln
def linesM (m : Lm) : List (List Int) := foldL (writtenZ m.ln)
def outM (ls : List Lm) : List Int := endW (ls.flatMap linesM)
/-- What Write answers. -/
def writeC (ls : List Lm) : Int := if 4096 < ls.length then 2 else if ls.all okM = false then 90 else 0
def writeB (ls : List Lm) : List Int := if writeC ls = 0 then outM ls else []
theorem outM_snoc (ls : List Lm) (m : Lm) : outM (ls ++ [m]) = outM ls ++ endW (linesM m) := by simp [outM, endW]
theorem text_valid {l : List Int} (h : textZ l = true) : validZ l = true := by
  unfold textZ at h
  simp only [Bool.and_eq_true] at h
  exact h.2
theorem valid_split {l : List Int} (hb : Byt l) (h : validZ l = true) : ∃ ps, Ut.AllPt ps ∧ l = Ut.flat ps := by
  obtain ⟨ps, r, hps, rfl, hr⟩ := Ut.split_ex l hb
  have he : validZ (Ut.flat ps ++ r) = r.isEmpty := valid_flat ps r _ hps hr (Nat.le_refl _)
  rw [he] at h
  have : r = [] := by simpa using h
  subst this
  exact ⟨ps, hps, by simp⟩
theorem asc_split {l : List Int} (h : ∀ x ∈ l, 0 ≤ x ∧ x < 128) : ∃ ps, Ut.AllPt ps ∧ l = Ut.flat ps := by
  refine ⟨l, fun x hx => by rw [Ut.ptB_iff]; have := h x hx; omega, ?_⟩
  induction l with
  | nil => rfl
  | cons c l ih =>
    rw [Ut.flat_cons, Ut.enc1 (h c (by simp)).2, ← ih (fun x hx => h x (by simp [hx]))]
    rfl
theorem name_asc {l : List Int} (h : nameZ l = true) : ∀ x ∈ l, 0 ≤ x ∧ x < 128 := by
  intro x hx
  unfold nameZ at h
  simp only [Bool.and_eq_true, List.all_eq_true] at h
  have := h.2 x hx
  unfold upC at this
  simp at this
  omega
theorem split_app {l m : List Int} (hl : ∃ ps, Ut.AllPt ps ∧ l = Ut.flat ps) (hm : ∃ ps, Ut.AllPt ps ∧ m = Ut.flat ps) : ∃ ps, Ut.AllPt ps ∧ l ++ m = Ut.flat ps := by
  obtain ⟨p, h1, rfl⟩ := hl
  obtain ⟨q, h2, rfl⟩ := hm
  exact ⟨p ++ q, h1.append h2, by rw [Ut.flat_append]⟩
theorem right_pars : ∀ (seen : List (List Int)) (ps : List (List Int × List Int)), rightL seen ps = true → ∀ p ∈ ps, parZ p = true
  | _, [], _, p, hp => by cases hp
  | seen, q :: r, h, p, hp => by
    unfold rightL at h
    simp only [Bool.and_eq_true] at h
    rcases List.mem_cons.1 hp with rfl | hp
    · exact h.1.2
    · exact right_pars _ r h.2 p hp
theorem parW_split {p : List Int × List Int} (hb : Byt p.2) (h : parZ p = true) : ∃ ps, Ut.AllPt ps ∧ parW p = Ut.flat ps := by
  unfold parZ at h
  simp only [Bool.and_eq_true] at h
  have h1 := asc_split (name_asc h.1.1)
  have h2 := valid_split hb (text_valid h.1.2.2)
  have one : ∀ c : Int, 0 ≤ c → c < 128 → ∃ ps, Ut.AllPt ps ∧ [c] = Ut.flat ps := fun c q1 q2 => asc_split (by intro x hx; simp at hx; subst hx; exact ⟨q1, q2⟩)
  have q34 : ∃ ps, Ut.AllPt ps ∧ (if p.2.any mk3 = true then 34 :: (p.2 ++ [34]) else p.2) = Ut.flat ps := by
    split
    · exact split_app (one 34 (by omega) (by omega)) (split_app h2 (one 34 (by omega) (by omega)))
    · exact h2
  unfold parW
  exact split_app (one 59 (by omega) (by omega)) (split_app h1 (split_app (one 61 (by omega) (by omega)) q34))
theorem written_split (m : Lm) (h : okM m = true) : ∃ ps, Ut.AllPt ps ∧ writtenZ m.ln = Ut.flat ps := by
  unfold okM rightZ at h
  simp only [Bool.and_eq_true] at h
  obtain ⟨⟨⟨h1, h2⟩, _⟩, h4⟩ := h
  unfold writtenZ
  refine split_app (asc_split (name_asc h1)) (split_app ?_ (split_app (l := [58]) (asc_split (by intro x hx; simp at hx; subst hx; omega)) (valid_split (nums_byt m.vl) (text_valid h2.2))))
  have hp := right_pars [] _ h4
  have : ∀ ps : List (List Int × List Int), (∀ p ∈ ps, parZ p = true ∧ Byt p.2) → ∃ us, Ut.AllPt us ∧ ps.flatMap parW = Ut.flat us := by
    intro ps
    induction ps with
    | nil => intro _; exact ⟨[], (fun x hx => by cases hx), rfl⟩
    | cons p ps ih =>
      intro hq
      rw [List.flatMap_cons]
      exact split_app (parW_split (hq p (by simp)).2 (hq p (by simp)).1) (ih (fun r hr => hq r (by simp [hr])))
  refine this _ (fun p hq => ⟨hp p hq, ?_⟩)
  obtain ⟨f, hf, rfl⟩ := List.mem_map.1 hq
  exact nums_byt f.2
theorem fold_count : ∀ (n : Nat) (f l : List Int), (foldZ n f l).length ≤ n + 1
  | 0, f, l => by simp [foldZ]
  | n + 1, f, l => by
    rw [foldZ]; split
    · have := fold_count n [32] (l.drop (Ut.cutZ l (75 - f.length))); simp; omega
    · simp
theorem fold_sum : ∀ (n : Nat) (f l : List Int), (endW (foldZ n f l)).length ≤ f.length + l.length + 3 * n + 2
  | 0, f, l => by simp [foldZ, endW]; omega
  | n + 1, f, l => by
    rw [foldZ]; split
    · have := fold_sum n [32] (l.drop (Ut.cutZ l (75 - f.length)))
      unfold endW at this ⊢
      rw [List.flatMap_cons, List.length_append]
      simp only [List.length_append, List.length_take, List.length_drop, List.length_cons, List.length_nil] at this ⊢
      omega
    · simp [endW]; omega
theorem written_len (m : Lm) (h : okM m = true) : (writtenZ m.ln).length ≤ 10000 := by
  unfold okM rightZ at h
  simp only [Bool.and_eq_true, decide_eq_true_eq] at h
  obtain ⟨⟨⟨h1, h2⟩, h3⟩, h4⟩ := h
  have hp := right_pars [] _ h4
  have hn : m.ln.name.length ≤ 64 := by unfold nameZ at h1; simp at h1; omega
  have key : ∀ ps : List (List Int × List Int), (∀ p ∈ ps, parZ p = true) → (ps.flatMap parW).length ≤ 324 * ps.length := by
    intro ps
    induction ps with
    | nil => simp
    | cons p ps ih =>
      intro hq
      have i1 := ih (fun r hr => hq r (by simp [hr]))
      have i2 := parW_len p
      have i3 := hq p (by simp)
      unfold parZ at i3
      simp only [Bool.and_eq_true, decide_eq_true_eq] at i3
      have i4 : p.1.length ≤ 64 := by have := i3.1.1; unfold nameZ at this; simp at this; omega
      have i5 := i3.1.2.1
      rw [List.flatMap_cons, List.length_append, List.length_cons, Nat.mul_succ]
      omega
  have k := key _ hp
  have h2l := h2.1
  unfold writtenZ
  simp only [List.length_append, List.length_cons]
  omega
theorem outM_len : ∀ ls : List Lm, ls.all okM = true → (outM ls).length ≤ 50000 * ls.length
  | [], _ => by simp [outM, endW]
  | m :: ls, h => by
    simp only [List.all_cons, Bool.and_eq_true] at h
    have h1 := outM_len ls h.2
    have h2 := written_len m h.1
    have h3 := fold_sum (writtenZ m.ln).length [] (writtenZ m.ln)
    have e : outM (m :: ls) = endW (linesM m) ++ outM ls := by simp [outM, endW]
    rw [e, List.length_append, List.length_cons, Nat.mul_succ]
    unfold linesM foldL
    simp at h3
    omega
theorem fold_byt : ∀ (n : Nat) (f l : List Int), Byt f → Byt l → ∀ x ∈ foldZ n f l, Byt x
  | 0, f, l, hf, hl, x, hx => by simp [foldZ] at hx; subst hx; exact hf.append hl
  | n + 1, f, l, hf, hl, x, hx => by
    rw [foldZ] at hx
    split at hx
    · rcases List.mem_cons.1 hx with rfl | hx
      · exact hf.append (hl.take _)
      · exact fold_byt n [32] _ (by intro y hy; simp at hy; subst hy; omega) (hl.drop _) x hx
    · simp at hx; subst hx; exact hf.append hl
theorem endW_app (l m : List (List Int)) : endW (l ++ m) = endW l ++ endW m := by simp [endW]
theorem endW_take (l : List (List Int)) (j : Nat) : (endW (l.take j)).length ≤ (endW l).length := by
  conv => rhs; rw [← List.take_append_drop j l, endW_app, List.length_append]
  omega
theorem endW_mem {l : List (List Int)} {p : List Int} (h : p ∈ l) : p.length ≤ (endW l).length := by
  induction l with
  | nil => cases h
  | cons q l ih =>
    have e : endW (q :: l) = q ++ [13, 10] ++ endW l := by simp [endW]
    rw [e, List.length_append, List.length_append]
    rcases List.mem_cons.1 h with rfl | h
    · omega
    · have := ih h; omega
/-- What Write has so far. -/
def WJ (w : World) (Bo : Nat) (rs : List Nat) (acc : List Int) (X : World) : Prop :=
  (∃ v, Blk X Bo #[v] 29 ∧ Own X (Bo + 1) v acc) ∧ (Mks rs X ∧ ∀ r ∈ rs, Bo < r) ∧ Below w.heap.size w X ∧ w.heap.size ≤ Bo
theorem WJ.lt {w X : World} {Bo : Nat} {rs : List Nat} {acc : List Int} (h : WJ w Bo rs acc X) : Bo < X.heap.size := by
  obtain ⟨⟨v, h, _⟩, _⟩ := h; exact h.lt
theorem WJ.grown {w X Y : World} {Bo n0 : Nat} {rs : List Nat} {acc : List Int} {row : Option Nat} (h : WJ w Bo rs acc X) (hg : X.grownBy Y row) (hrow : ∀ r, row = some r → n0 ≤ r ∧ ∃ o : Obj, X.heap[r]? = some o ∧ o.isCells = false) (hn0 : Bo < n0) (hrs : ∀ r ∈ rs, r < n0) : WJ w Bo rs acc Y := by
  obtain ⟨⟨v, bv, ho⟩, ⟨⟨hnd, hm⟩, hr⟩, hB, hlt⟩ := h
  have ne : ∀ j, j < n0 → some j ≠ row := fun j hj e => by have := (hrow j e.symm).1; omega
  refine ⟨⟨v, bv.kept hg (ne _ hn0), ownsRow_kept ho hg (fun r e => (hrow r e).2)⟩, ⟨⟨hnd, fun r hr' => ?_⟩, hr⟩, hB.grown hg hB.size (fun k e => by have := (hrow k e).1; omega), hlt⟩
  exact (hg.block r (Array.getElem?_eq_some_iff.1 (hm r hr')).1 (ne r (hrs r hr'))).trans (hm r hr')
theorem WJ.keep {w X Y : World} {Bo : Nat} {rs : List Nat} {acc : List Int} (h : WJ w Bo rs acc X) (hb : Below X.heap.size X Y) : WJ w Bo rs acc Y := by
  obtain ⟨⟨v, bv, ho⟩, ⟨⟨hnd, hm⟩, hr⟩, hB, hlt⟩ := h
  exact ⟨⟨v, bv.below hb bv.lt, own_keep ho hb⟩, ⟨⟨hnd, fun r hr' => (hb.block r (Array.getElem?_eq_some_iff.1 (hm r hr')).1).trans (hm r hr')⟩, hr⟩, hB.trans (hb.mono hB.size), hlt⟩
theorem WJ.gr {w X Y : World} {Bo : Nat} {rs : List Nat} {acc acc' : List Int} {v' : Value} (h : WJ w Bo rs acc X) (hg : Gr (Bo + 1) Bo X Y) (hv : Blk Y Bo #[v'] 29) (ho : Own Y (Bo + 1) v' acc') : WJ w Bo rs acc' Y := by
  have hlt0 := h.lt
  obtain ⟨_, ⟨⟨hnd, hm⟩, hr⟩, hB, hlt⟩ := h
  refine ⟨⟨v', hv, ho⟩, ⟨⟨hnd, fun r hr' => ?_⟩, hr⟩, hB.trans (hg.below (by omega) (by omega) hB.size), hlt⟩
  exact hg.same r _ (by have := hr r hr'; omega) (hm r hr') (.inr (fun cs fr e => by cases e))
theorem WJ.set {w X : World} {Bo Bs : Nat} {rs : List Nat} {acc : List Int} {t t' : ByteArray} (h : WJ w Bo rs acc X) (hs : Sx X Bs t) (hB : Bo < Bs) (hrs : Bs ∉ rs) : WJ w Bo rs acc (X.setCell ⟨Bs, 0, none⟩ (.string t')) := by
  obtain ⟨⟨v, bv, ho⟩, ⟨⟨hnd, hm⟩, hr⟩, hbl, hlt⟩ := h
  refine ⟨⟨v, bv.other (by omega) _, ?_⟩, ⟨⟨hnd, fun r hr' => ?_⟩, hr⟩, hbl.setCell (p := ⟨Bs, 0, none⟩) (by simp; omega) _, hlt⟩
  · refine ⟨ho.1, ?_⟩
    rcases ho.2 with h | ⟨g, cap, cur, h1, h2, h3, h4⟩
    · exact .inl h
    · refine .inr ⟨g, cap, cur, h1, h2, ?_, h4⟩
      rw [heap_setCell_other _ _ _ _ (by simp; rintro rfl; rw [show X.heap[g]? = _ from hs] at h3; cases h3)]
      exact h3
  · rw [heap_setCell_other _ _ _ _ (by simp; rintro rfl; exact hrs hr')]
    exact hm r hr'
def WPost (w : World) (ls : List Lm) (e : Ending) (w' : World) : Prop := ∃ v, e = .returned (.tuple #[v, .int .i64 (writeC ls)]) ∧ Own w' w.heap.size v (writeB ls) ∧ Below w.heap.size w w'
theorem early {w W : World} {ls : List Lm} {c : Int} (hc : writeC ls = c) (hb : writeB ls = []) (hB : Below w.heap.size w W) (a : Act)
    (h2 : a.tmps[2]? = some (.slice none 0 0)) (h3 : a.tmps[3]? = some (.int .i64 c)) (hd : a.defers = [] := by rfl) :
    bodyPostM Fence.wide 20 Tryd.prog Tryd.f28 (WPost w ls) Exit.ret a W := by
  obtain ⟨tmps, defers⟩ := a
  simp only at hd h2 h3
  subst hd
  refine ⟨.tuple #[.slice none 0 0, .int .i64 c], ?_, .slice none 0 0, by rw [hc], ?_, hB⟩
  · simp [results, Tryd.results28, go_sem, h2, h3]
  · rw [hb]; exact World.ownsRow_nil _ _ _ _
theorem late {w X : World} {ls : List Lm} {c : Int} {v : Value} {rs : List Nat} (hc : writeC ls = c) (ho : Own X w.heap.size v (writeB ls)) (hm : Mks rs X) (hr : ∀ r ∈ rs, w.heap.size < r) (hB : Below w.heap.size w X) (a : Act)
    (h2 : a.tmps[2]? = some v) (h3 : a.tmps[3]? = some (.int .i64 c)) (hd : a.defers = rs.map mark) :
    bodyPostM Fence.wide 20 Tryd.prog Tryd.f28 (WPost w ls) Exit.ret a X := by
  obtain ⟨tmps, defers⟩ := a
  simp only at hd h2 h3
  subst hd
  refine leaves_marks rs X hm (fun W' hb hs => ?_)
  refine ⟨.tuple #[v, .int .i64 c], ?_, _, by rw [hc], ?_, hB.trans (hb _ (fun r h => by have := hr r h; omega))⟩
  · simp [results, Tryd.results28, go_sem, h2, h3]
  · refine ⟨ho.1, ?_⟩
    rcases ho.2 with h | ⟨g, cap, cur, h1, h2, h3, h4⟩
    · exact .inl h
    · refine .inr ⟨g, cap, cur, h1, h2, ?_, h4⟩
      rw [hs g (fun h => by have := hm.2 g h; rw [h3] at this; cases this)]
      exact h3
set_option maxRecDepth 100000 in
set_option maxHeartbeats 4000000 in
theorem write_any (a : Option Addr) (len cap : Nat) (ls : List Lm) (w : World) (hn : ls.length = len) (hbig : len ≤ 9223372036854775807) (hr : LRow w a ls) (hsz : ∀ m ∈ ls, Fitm m) : Calls Tryd.prog 28 #[.slice a len cap] w (WPost w ls) := by
  obtain ⟨j0, hi, hz0, hz1, hz2⟩ := info_parts Tryd.info5
  have HR : Hid (LRow w a ls) := hr
  have HSZ : Hid (∀ m ∈ ls, Fitm m) := hsz
  clear hr hsz
  refine (callsIn_wide (n := 20)).1 ?_
  refine callsIn_of_wp_marks Tryd.func28 rfl trivial ?_ rfl
  simp only [Tryd.ntmps28, List.size_toArray, List.length_cons, List.length_nil, Nat.reduceAdd, Nat.reduceSub, Array.replicate_succ, Array.replicate_zero, List.push_toArray, List.append_toArray, List.nil_append, List.cons_append]
  by_cases h128 : 4096 < len
  · have hd : decide ((len : Int) > 4096) = true := by simp; omega
    have HC : Hid (writeC ls = 2 ∧ writeB ls = []) := by
      have h : writeC ls = 2 := by unfold writeC; rw [hn, if_pos h128]
      exact ⟨h, by unfold writeB; rw [h]; rfl⟩
    gi_wp2
    exact early HC.out.1 HC.out.2 (Below.refl _ w) _ rfl rfl
  have hd : decide ((len : Int) > 4096) = false := by simp; omega
  gi_wp2
  gi_loopw [15, 5] (fun i _ wr => ∃ k : Nat, i = .int .i64 k ∧ k ≤ len ∧ (ls.take k).all okM = true ∧ Below w.heap.size w wr) (fun i _ _ => len - (intOf i).toNat)
  case atStart => exact ⟨0, rfl, by omega, by simp, Below.refl _ w⟩
  case round =>
    obtain ⟨k, rfl, hk, hall, hb⟩ := hrel
    have HA : Hid ((ls.take k).all okM = true) := hall
    have HB : Hid (Below w.heap.size w wr) := hb
    have hrw := HR.out.below hb
    clear hall hb
    by_cases hlt : k < len
    · have hd1 : decide ((k : Int) < (len : Int)) = true := by simp; omega
      obtain ⟨m, hmk⟩ : ∃ m, ls[k]? = some m := ⟨_, List.getElem?_eq_getElem (by omega)⟩
      have hfs := HSZ.out m (List.mem_of_getElem? hmk)
      have HT : Hid ((ls.take (k + 1)).all okM = okM m) := by
        unfold Hid; rw [List.take_add_one, hmk]; simp [HA.out]
      have HNO : Hid (okM m = false → writeC ls = 90 ∧ writeB ls = []) := fun h => by
        have h1 : ls.all okM = false := by
          rw [List.all_eq_false]
          exact ⟨m, List.mem_of_getElem? hmk, by rw [h]; simp⟩
        have h2 : writeC ls = 90 := by unfold writeC; rw [hn, if_neg h128, if_pos h1]
        exact ⟨h2, by unfold writeB; rw [h2]; rfl⟩
      obtain ⟨nm, vl, ma, mc, fs⟩ := m
      obtain ⟨z1, z2, z3, z4⟩ := hfs
      rcases hrw with h | ⟨b, off, rfl, h⟩
      · rw [h] at hn; simp at hn; omega
      obtain ⟨⟨hc1, hc2, hc3⟩, hfr⟩ := h k _ hmk
      clear h hmk
      simp only at hc1 hc2 hc3 hfr z1 z2 z3 z4
      have hright := fun V (hV : FRow V ma fs) => right_any nm vl ma fs.length mc fs V rfl hV (by omega) (by omega) (fun f hf => by have := z4 f hf; omega)
      have HFR : Hid (FRow (wr.alloc (.cells #[.string nm, .slice ma fs.length mc, .string vl] 39)) ma fs) := hfr.below (keep wr _)
      unfold lineV at hright
      clear hfr
      gi_wp2_with fail
      refine ⟨trivial, (callsIn_wide.2 (hright _ HFR.out)).mono ?_⟩
      rintro e w1 ⟨rfl, hb1⟩
      have HB1 : Hid (Below w.heap.size w w1) := (HB.out.alloc HB.out.size _).trans (hb1.mono (by have := HB.out.size; simp; omega))
      clear hb1 hright hc1 hc2 hc3
      cases hok : rightZ ⟨nums nm, numsP fs, nums vl⟩ with
      | false =>
        have HF : Hid (writeC ls = 90 ∧ writeB ls = []) := HNO.out hok
        gi_wp2
        exact early HF.out.1 HF.out.2 HB1.out _ rfl rfl
      | true =>
        gi_wp2
        go_roundw
        case rel => exact ⟨k + 1, by go_num, by omega, by rw [HT.out]; exact hok, HB1.out⟩
        case measure => simp [intOf]; omega
    · have hkl : len = k := by omega
      subst hkl
      have HALL : Hid (ls.all okM = true) := by have := HA.out; rwa [List.take_of_length_le (by omega)] at this
      have hd1 : decide ((len : Int) < (len : Int)) = false := by simp
      gi_wp2
      have hWJ0 : WJ w wr.heap.size [] [] (wr.alloc (.cells #[.slice none 0 0] 29)) := ⟨⟨.slice none 0 0, (Blk.new wr _ 29), World.ownsRow_nil _ _ _ _⟩, ⟨⟨List.nodup_nil, by simp⟩, by simp⟩, HB.out.alloc HB.out.size _, HB.out.size⟩
      obtain ⟨Bo, hBoe⟩ : ∃ Bo, wr.heap.size = Bo := ⟨_, rfl⟩
      rw [hBoe] at hWJ0 ⊢
      clear hBoe hrw HB HA
      refine wpIn_loop (fun A W => ∃ (k : Nat) (kz : Int) (rs : List Nat) (v8 v9 v26 v27 v28 v29 v30 v31 v32 v33 v34 v35 v36 v37 v38 v39 : Value), A = { tmps := #[.slice a len cap, undef, u2, u3, undef, u5, .pointer (some ⟨Bo, 0, none⟩), undef, v8, v9, .slice a len cap, .int .i64 (len : Nat), .bool false, .slice a len cap, .int .i64 (len : Nat), .int .i64 (len : Nat), .bool false, u17, u18, u19, u20, u21, u22, .slice a len cap, .int .i64 (len : Nat), .int .i64 kz, v26, v27, v28, v29, v30, v31, v32, v33, v34, v35, v36, v37, v38, v39], defers := rs.map mark } ∧ kz = k ∧ k ≤ len ∧ WJ w Bo rs (outM (ls.take k)) W) (fun A _ => len - (intOf (A.tmps.getD 25 undef)).toNat) ?_ ?_
      · exact ⟨0, 0, [], undef, undef, undef, undef, undef, undef, undef, undef, undef, undef, undef, undef, undef, undef, undef, undef, rfl, rfl, by omega, by simpa [outM, endW] using hWJ0⟩
      · rintro A W ⟨k, kz, rs, v8, v9, v26, v27, v28, v29, v30, v31, v32, v33, v34, v35, v36, v37, v38, v39, rfl, rfl, hk, hWJ⟩
        have HW : Hid (WJ w Bo rs (outM (ls.take k)) W) := hWJ
        have hBW := hWJ.lt
        have hrw := HR.out.below hWJ.2.2.1
        clear hWJ hWJ0
        by_cases hlt : k < len
        · have hd1 : decide ((k : Int) < (len : Int)) = true := by simp; omega
          obtain ⟨m, hmk⟩ : ∃ m, ls[k]? = some m := ⟨_, List.getElem?_eq_getElem (by omega)⟩
          have hfs := HSZ.out m (List.mem_of_getElem? hmk)
          have hok : okM m = true := List.all_eq_true.1 HALL.out m (List.mem_of_getElem? hmk)
          have HTK : Hid (outM (ls.take (k + 1)) = outM (ls.take k) ++ endW (linesM m)) := by unfold Hid; rw [List.take_add_one, hmk]; exact outM_snoc _ _
          have hacc : (outM (ls.take k)).length ≤ 204800000 := by
            have h1 := outM_len (ls.take k) (by rw [List.all_eq_true]; intro g hg; exact List.all_eq_true.1 HALL.out g (List.mem_of_mem_take hg))
            have h2 : (ls.take k).length ≤ 4096 := by simp; omega
            omega
          obtain ⟨ps, hps, hpf⟩ := written_split m hok
          have hwl := written_len m hok
          have HLM : Hid (linesM m = foldL (writtenZ m.ln)) := rfl
          have hwb := written_byt m.nm m.vl m.fs
          obtain ⟨nm, vl, ma, mc, fs⟩ := m
          obtain ⟨z1, z2, z3, z4⟩ := hfs
          rcases hrw with h | ⟨b, off, rfl, h⟩
          · rw [h] at hn; simp at hn; omega
          obtain ⟨⟨hc1, hc2, hc3⟩, hfr⟩ := h k _ hmk
          clear h hmk
          simp only [Lm.ln] at hc1 hc2 hc3 hfr z1 z2 z3 z4 hpf hwl hwb HLM
          obtain ⟨wl, hwle⟩ : ∃ wl, writtenZ ⟨nums nm, numsP fs, nums vl⟩ = wl := ⟨_, rfl⟩
          rw [hwle] at hpf hwl hwb HLM
          have hsn : nums (strOfNums wl) = wl := nums_str hwb
          have hwrit := fun V (hV : FRow V ma fs) => written_any nm vl ma fs.length mc fs V rfl hV z3 z1 z2 z4
          simp only [hwle] at hwrit
          unfold lineV at hwrit
          have HFR : Hid (FRow (W.alloc (.cells #[.string nm, .slice ma fs.length mc, .string vl] 39)) ma fs) := hfr.below (keep W _)
          clear hwle hfr
          obtain ⟨ws, hws⟩ : ∃ ws, strOfNums wl = ws := ⟨_, rfl⟩
          rw [hws] at hsn
          simp only [hws] at hwrit
          clear hws
          gi_wp2_with fail
          refine ⟨trivial, (callsIn_wide.2 (hwrit _ HFR.out)).mono ?_⟩
          rintro e w1 ⟨rfl, hb1⟩
          have HW1 : Hid (WJ w Bo rs (outM (ls.take k)) w1) := (HW.out.keep (keep W _)).keep hb1
          have hlt1 : W.heap.size < w1.heap.size := Nat.lt_of_lt_of_le (by simp) hb1.size
          have HRS : Hid (∀ r ∈ rs, r < W.heap.size) := fun r hr => (Array.getElem?_eq_some_iff.1 (HW.out.2.1.1.2 r hr)).1
          clear hb1 hwrit hc1 hc2 hc3
          gi_wp2_with (refine ⟨trivial, ?_⟩; gi_at_call 44; refine (callsIn_wide.2 (folded_any _ _)).mono ?_; rintro e w' ⟨rfl, rfl⟩)
          have hwsz : ws.size ≤ 10000 := by rw [← nums_len, hsn]; exact hwl
          have hSx : Sx (w1.alloc (.cells #[.string ws] 9)) w1.heap.size ws := heap_alloc_last w1 _
          have hit := fold_iter 19 (by omega) w1.heap.size ws ps hps (hsn.trans hpf) (by omega)
          rw [hsn] at hit
          have hes : (endW (foldL wl)).length ≤ 40002 := by have := fold_sum wl.length [] wl; unfold foldL; simp at this; omega
          have hfb : ∀ p ∈ foldL wl, Byt p := fold_byt _ _ _ (by intro y hy; cases hy) hwb
          have HFB : Hid (∀ p ∈ foldL wl, Byt p) := hfb
          obtain ⟨acc, hae⟩ : ∃ acc, outM (ls.take k) = acc := ⟨_, rfl⟩
          have HAE : Hid (outM (ls.take k) = acc) := hae
          have hWJ2 : WJ w Bo rs acc (w1.alloc (.cells #[.string ws] 9)) := by rw [← hae]; exact HW1.out.keep (keep w1 _)
          rw [hae] at hacc
          have hB1 : Bo < w1.heap.size := by omega
          have hBr : w1.heap.size ∉ rs := fun h => by have := HRS.out _ h; omega
          clear hae hfb hps hpf hwl hwb HW HW1 hsn z1 z2 z3 z4 HFR hwsz hok
          refine range_st 20 (by omega) 64 w1.heap.size ws (foldV (foldL wl)) hit hSx rfl (fun j X => WJ w Bo rs (acc ++ endW ((foldL wl).take j)) X ∧ ∃ t, Sx X w1.heap.size t) (fun args W => by simp [go_sem]) ?c1 ?c4 ?c2 ?c0
            (fun x => { tmps := #[.slice (some ⟨b, off, none⟩) len cap, undef, u2, u3, undef, u5, .pointer (some ⟨Bo, 0, none⟩), undef, .pointer (some ⟨W.heap.size, 0, none⟩), x, .slice (some ⟨b, off, none⟩) len cap, .int .i64 (len : Nat), .bool false, .slice (some ⟨b, off, none⟩) len cap, .int .i64 (len : Nat), .int .i64 (len : Nat), .bool false, u17, u18, u19, u20, u21, u22, .slice (some ⟨b, off, none⟩) len cap, .int .i64 (len : Nat), .int .i64 (k : Nat), .bool true, .pointer (some ⟨b, off + k * 3, none⟩), .agg #[.string nm, .slice ma fs.length mc, .string vl], .agg #[.string nm, .slice ma fs.length mc, .string vl], .string ws, .func (.func 64) #[] #[.pointer (some ⟨w1.heap.size, 0, none⟩)], x, v33, v34, v35, v36, v37, v38, v39], defers := [] }) ?assign ?body ?done
          case c1 =>
            rintro j X v ⟨hJ, t, ht⟩
            exact ⟨hJ.set ht hB1 hBr, v, ht.set v⟩
          case c4 =>
            rintro j X X' ⟨hJ, t, ht⟩ hb
            exact ⟨hJ.keep hb, t, ht.below hb⟩
          case c2 =>
            rintro j X l o o' ⟨hJ, t, ht⟩ hl ho hc
            rw [World.size_alloc] at hl
            exact ⟨hJ.grown (grownBy_putObj' X l o') (fun r e => by cases e; exact ⟨hl, o, ho, hc⟩) (by omega) (fun r hr => by have := HRS.out r hr; omega), t, (World.putObj_heap_other (by omega)).trans ht⟩
          case c0 => exact ⟨by simpa [endW] using hWJ2, ws, hSx⟩
          case assign =>
            intro l x X K hK
            gi_wp2
            exact hK
          case body =>
            intro l j x0 X hx0 hI
            obtain ⟨hJ, t, hst⟩ := hI
            obtain ⟨pl, hpl, rfl⟩ : ∃ pl, (foldL wl)[j]? = some pl ∧ x0 = .string (strOfNums pl) := by
              unfold foldV at hx0
              rw [List.getElem?_map, Option.map_eq_some_iff] at hx0
              obtain ⟨pl, h1, h2⟩ := hx0
              exact ⟨pl, h1, h2.symm⟩
            have hpb : Byt pl := HFB.out pl (List.mem_of_getElem? hpl)
            have hpz : pl.length ≤ 40002 := Nat.le_trans (endW_mem (List.mem_of_getElem? hpl)) hes
            have HTJ : Hid (endW ((foldL wl).take (j + 1)) = endW ((foldL wl).take j) ++ pl ++ [13, 10]) := by
              unfold Hid; rw [List.take_add_one, hpl]; exact endW_snoc _ _
            have HJ : Hid (WJ w Bo rs (acc ++ endW ((foldL wl).take j)) X) := hJ
            have HST : Hid (Sx X w1.heap.size t) := hst
            have hXlt := hJ.lt
            obtain ⟨⟨v, bv, ho⟩, _, _, hwB⟩ := hJ
            obtain ⟨fl, hfl'⟩ : ∃ fl, acc ++ endW ((foldL wl).take j) = fl := ⟨_, rfl⟩
            have hflb : fl.length ≤ 300000000 := by
              have h1 := endW_take (foldL wl) j
              rw [← hfl', List.length_append]; omega
            have HFLE : Hid (acc ++ endW ((foldL wl).take j) = fl) := hfl'
            rw [hfl'] at ho
            have d0 := bv.cell 0
            have g0 := bv.frozen 0
            simp only [List.getElem?_toArray, List.getElem?_cons_zero] at d0
            have BV : Hid (Blk X Bo #[v] 29) := bv
            have OW0 : Hid (Own X (Bo + 1) v fl) := ho
            obtain ⟨x, hxe⟩ : ∃ x, strOfNums pl = x := ⟨_, rfl⟩
            have hxn : nums x = pl := by rw [← hxe]; exact nums_str hpb
            have hxz : x.size ≤ 40002 := by rw [← nums_len, hxn]; exact hpz
            have HXN : Hid (nums x = pl) := hxn
            rw [hxe]
            clear bv ho hfl' hx0 hpl hst hxe hxn hpb
            gi_wp2_with (gi_at_builtin; refine in_append_string _ rfl (.tmp 33) (.tmp 34) 29 9 rfl (Bo + 1) 5 j0 Tryd.underlying29 Tryd.underlying9 hi hz0 hz1 hz2 _ fl.length _ rfl OW0.out x rfl (by unfold maxLen; omega) (by omega) (by omega) ?_)
            intro v1 x1 hown1 hgrow1
            have o1 : Own x1 (Bo + 1) v1 (fl ++ nums x) := own_of hown1 (by simp [nums_len]) (by rw [str_cells]; simp)
            have st1 := app_step BV.out (by omega) (by omega) OW0.out hgrow1 o1
            obtain ⟨a1, cp1, ev1, _⟩ := own_row' o1
            clear hown1 hgrow1 o1
            subst ev1
            have GR1 : Hid (Gr (Bo + 1) Bo X (x1.setCell ⟨Bo, 0, none⟩ (.slice a1 (fl ++ nums x).length cp1))) := st1.2.2.2.1
            have GR1S : Bo + 1 ≤ (x1.setCell ⟨Bo, 0, none⟩ (.slice a1 (fl ++ nums x).length cp1)).heap.size := Nat.le_trans (by omega) GR1.out.size
            have OW1 : Hid (Own (x1.setCell ⟨Bo, 0, none⟩ (.slice a1 (fl ++ nums x).length cp1)) (Bo + 1) (.slice a1 (fl ++ nums x).length cp1) (fl ++ nums x)) := st1.2.2.1
            have BX1 : Hid (Blk (x1.setCell ⟨Bo, 0, none⟩ (.slice a1 (fl ++ nums x).length cp1)) Bo #[(.slice a1 (fl ++ nums x).length cp1)] 29) := st1.2.1
            have m11 := st1.1.cell 0
            have m12 := st1.1.frozen 0
            simp only [List.getElem?_toArray, List.getElem?_cons_zero] at m11
            obtain ⟨n1, hn1⟩ : ∃ n1, (fl ++ nums x).length = n1 := ⟨_, rfl⟩
            have hnb1 : n1 ≤ 400000000 := by rw [← hn1, List.length_append, nums_len]; omega
            have HN1 : Hid ((fl ++ nums x).length = n1) := hn1
            rw [hn1] at GR1 GR1S OW1 BX1 ⊢
            have ol1 : Hid ((x1.setCell ⟨Bo, 0, none⟩ (.slice a1 n1 cp1)).ownsRow (Bo + 1) 5 1 (.slice a1 n1 cp1) n1 ((fl ++ nums x).map (Value.int .u8))) := by have := OW1.out; unfold Own at this; rw [HN1.out] at this; exact this
            clear st1 hn1 d0 g0
            gi_wp2_with (gi_at_builtin; refine in_append_string _ rfl (.tmp 36) (.const (.string ⟨#[13, 10]⟩)) 29 9 rfl (Bo + 1) 5 j0 Tryd.underlying29 Tryd.underlying9 hi hz0 hz1 hz2 _ n1 _ rfl ol1.out ⟨#[13, 10]⟩ rfl (by unfold maxLen; simp [ByteArray.size]; omega) (by simp [ByteArray.size]; omega) GR1S ?_)
            intro v2 x2 hown2 hgrow2
            have o2 : Own x2 (Bo + 1) v2 (fl ++ nums x ++ [13, 10]) := own_of hown2 (by have h2 := HN1.out; simp at h2 ⊢; omega) (by simp [sc1310])
            have st2 := app_step BX1.out (by omega) GR1S OW1.out hgrow2 o2
            obtain ⟨a2, cp2, ev2, _⟩ := own_row' o2
            clear hown2 hgrow2 o2
            subst ev2
            have m21 := st2.1.cell 0
            have m22 := st2.1.frozen 0
            simp only [List.getElem?_toArray, List.getElem?_cons_zero] at m21
            have GR2 : Hid (Gr (Bo + 1) Bo X (x2.setCell ⟨Bo, 0, none⟩ (.slice a2 (fl ++ nums x ++ [13, 10]).length cp2))) := Gr.trans GR1.out st2.2.2.2.1
            have OW2 : Hid (Own (x2.setCell ⟨Bo, 0, none⟩ (.slice a2 (fl ++ nums x ++ [13, 10]).length cp2)) (Bo + 1) (.slice a2 (fl ++ nums x ++ [13, 10]).length cp2) (fl ++ nums x ++ [13, 10])) := st2.2.2.1
            have BX2 : Hid (Blk (x2.setCell ⟨Bo, 0, none⟩ (.slice a2 (fl ++ nums x ++ [13, 10]).length cp2)) Bo #[(.slice a2 (fl ++ nums x ++ [13, 10]).length cp2)] 29) := st2.2.1
            obtain ⟨n2, hn2⟩ : ∃ n2, (fl ++ nums x ++ [13, 10]).length = n2 := ⟨_, rfl⟩
            rw [hn2] at GR2 OW2 BX2 ⊢
            clear st2 hn2 m11 m12
            gi_wp2
            have hfin : WJ w Bo rs (acc ++ endW ((foldL wl).take (j + 1))) (x2.setCell ⟨Bo, 0, none⟩ (.slice a2 n2 cp2)) := by
              have h := HJ.out.gr GR2.out BX2.out OW2.out
              rw [HTJ.out, ← List.append_assoc, ← List.append_assoc, HFLE.out, ← HXN.out]
              exact h
            have hsame : (x2.setCell ⟨Bo, 0, none⟩ (.slice a2 n2 cp2)).heap[w1.heap.size]? = X.heap[w1.heap.size]? := by
              rw [show X.heap[w1.heap.size]? = _ from HST.out]
              exact GR2.out.same _ _ (by omega) HST.out (.inr (fun cs fr e => by cases e))
            exact ⟨⟨hfin, t, hsame.trans HST.out⟩, keepN_of (GR2.out.keeps BV.out), hsame⟩
          case done =>
            rintro D X hD ⟨hJ, _⟩ hK
            rw [World.size_alloc] at hD
            have hDr : D ∉ rs := fun h => by have := HRS.out D h; omega
            have hJ' : WJ w Bo (D :: rs) (outM (ls.take (k + 1))) X := by
              rw [HTK.out, HAE.out, HLM.out]
              have e : (foldL wl).take (foldV (foldL wl)).length = foldL wl := List.take_of_length_le (by unfold foldV; rw [List.length_map]; exact Nat.le_refl _)
              rw [e] at hJ
              obtain ⟨h2, ⟨⟨h3, h4⟩, h5⟩, h6, h7⟩ := hJ
              refine ⟨h2, ⟨⟨List.nodup_cons.2 ⟨hDr, h3⟩, fun r hr => ?_⟩, fun r hr => ?_⟩, h6, h7⟩
              · rcases List.mem_cons.1 hr with rfl | hr
                · exact hK
                · exact h4 r hr
              · rcases List.mem_cons.1 hr with rfl | hr
                · omega
                · exact h5 r hr
            have HJ' : Hid (WJ w Bo (D :: rs) (outM (ls.take (k + 1))) X) := hJ'
            clear hJ hJ' hK hWJ2 hit hSx
            gi_wp2
            refine ⟨⟨k + 1, _, D :: rs, _, _, _, _, _, _, _, _, _, _, _, _, _, _, _, _, rfl, by omega, by omega, HJ'.out⟩, ?_⟩
            show len - ((k : Int) + 1).toNat < len - (k : Int).toNat
            omega
        · have hkl : len = k := by omega
          subst hkl
          have HC : Hid (writeC ls = 0 ∧ writeB ls = outM ls) := by
            have h2 : writeC ls = 0 := by unfold writeC; rw [hn, if_neg h128, if_neg (by rw [HALL.out]; simp)]
            exact ⟨h2, by unfold writeB; rw [h2]; rfl⟩
          have hW' : WJ w Bo rs (outM ls) W := by have := HW.out; rwa [List.take_of_length_le (by omega)] at this
          obtain ⟨⟨v, bv, ho⟩, ⟨hm, hr⟩, hB, hlt0⟩ := hW'
          have HO : Hid (Own W (Bo + 1) v (outM ls)) := ho
          have HM : Hid (Mks rs W ∧ ∀ r ∈ rs, Bo < r) := ⟨hm, hr⟩
          have HB : Hid (Below w.heap.size w W) := hB
          have d0 := bv.cell 0
          simp only [List.getElem?_toArray, List.getElem?_cons_zero] at d0
          have hd1 : decide ((len : Int) < (len : Int)) = false := by simp
          clear bv ho hm hr hB HW hrw
          gi_wp2
          refine late (rs := rs) HC.out.1 (by rw [HC.out.2]; exact own_base (by omega) HO.out) HM.out.1 (fun r hr => by have := HM.out.2 r hr; omega) HB.out _ rfl rfl rfl
end Go.Proofs.YtenclgnkogmgiaaDoor
