/-
  The contract of Stuff.
-/
import Derived.Test.YtlpbgfepneoajaaRight
import Derived.Lib.AppendStr
namespace Go.Proofs.Ytlpbgfepneoajaa
open Go.RowKit Go.Shelf
set_option linter.unusedVariables false
attribute [local go_sem] Oper.semAt_some

/-- A line as it stands in a frame. -/
def lineF (l : List Int) : List Int := (if l.head? = some 46 then [46] else []) ++ (l ++ [13, 10])
def pieceZ (zs : List Int) (x : Nat × Nat × Bool) : List Int := (zs.drop x.1).take x.2.1
def flatZ (zs : List Int) (ls : List (Nat × Nat × Bool)) : List Int := ls.flatMap (fun x => lineF (pieceZ zs x))
/-- A text's frame. -/
def frameZ (zs : List Int) : List Int := flatZ zs (linesZ 0 zs) ++ [46, 13, 10]

theorem in_append_string {F : Fence} {n' : Nat} {P : Program} {ops : Array Oper} {rest : List Oper} {o : Oper} {a : Act} {Q : Exit → Act → World → Prop} (w : World) (hgd : o.guard = none) (sl x : Operand) (t u : TypeId)
    (ho : o.op = .call { callee := .builtin .append, args := #[sl, x], argTypes := #[t, u] })
    (base : Nat) (e : TypeId) (i : TypeInfo) (ht : P.underlying t = some (.slice e)) (hu : P.underlying u = some .string) (hi : P.info? e = some i) (hz : i.zero = some (.int .u8 0))
    (hsize : i.size = 1) (hby : i.bytes = 1)
    (v : Value) (n : Nat) (xs : List Value) (hs : a.eval sl = v) (hown : w.ownsRow base e 1 v n xs) (s : ByteArray) (hx : a.eval x = .string s)
    (h63 : n + s.size ≤ maxLen) (hbytes : n + s.size ≤ 140737488355328) (hbase : base ≤ w.heap.size)
    (h : ∀ v' w', w'.ownsRow base e 1 v' (n + s.size) (xs ++ Lib.strCells s) → w.grownBy w' v.ownBlock → wpListIn F n' P ops Q rest (a.put o.dst v') w') : wpListIn F n' P ops Q (o :: rest) a w := by
  refine wpListIn_plain hgd fun K hK => ?_
  obtain ⟨v', w', hr, h2, h3, h4⟩ := Lib.run_append_own_string (P := P) w base t u o.type e i ht hu hi hz hsize hby v n xs hown s h63 hbytes hbase
  unfold Oper.wpIn
  refine ⟨?_, ?_⟩
  · simp [Oper.about, ho, resolve, Target.leads, Sem.run_pure]
  · rw [Oper.semAt_plain F _ _ (by rw [ho]; intro c hc'; cases hc')]
    simp [execOp, ho, resolve, invoke, builtin, hs, hx, hr, Result.andThen]
    exact hK _ _ (h v' w' h2 h3)

theorem own_of {w : World} {B n : Nat} {v : Value} {l : List Int} {xs : List Value} (h : w.ownsRow B 5 1 v n xs) (hn : n = l.length) (hx : xs = l.map (Value.int .u8)) : Own w B v l := by subst hn; subst hx; exact h
theorem sc1310 : Lib.strCells ⟨#[13, 10]⟩ = [.int .u8 13, .int .u8 10] := rfl

theorem linesZ_len : ∀ (k p : Nat) (l : List Int), l.length ≤ k → (linesZ p l).length ≤ l.length
  | 0, p, l, h => by
    obtain rfl : l = [] := List.eq_nil_of_length_eq_zero (by omega)
    simp [linesZ_nil]
  | k + 1, p, l, h => by
    by_cases hl : l = []
    · subst hl; simp [linesZ_nil]
    · have hp : 0 < l.length := List.length_pos_iff.2 hl
      by_cases hi : 0 ≤ pairI l
      · rw [linesZ_pair p l hi]
        have hr := pairI_room l hi
        have := linesZ_len k (p + (pairI l).toNat + 2) (l.drop ((pairI l).toNat + 2)) (by simp; omega)
        simp only [List.length_cons, List.length_drop] at this ⊢
        omega
      · rw [linesZ_last p l hl hi]; simp; omega
theorem flatZ_len {len : Nat} (zs : List Int) : ∀ pre : List (Ln len), (flatZ zs (pre.map (fun x => x.1))).length ≤ pre.length * (len + 3)
  | [] => by simp [flatZ]
  | x :: pre => by
    have ih := flatZ_len zs pre
    have h1 : (pieceZ zs x.1).length ≤ len := by
      have := x.2
      simp only [pieceZ, List.length_take]
      omega
    have h2 : (lineF (pieceZ zs x.1)).length ≤ len + 3 := by
      unfold lineF
      split <;> simp <;> omega
    have h3 : flatZ zs ((x :: pre).map (fun x => x.1)) = lineF (pieceZ zs x.1) ++ flatZ zs (pre.map (fun x => x.1)) := by simp [flatZ]
    rw [h3, List.length_append, List.length_cons, Nat.succ_mul]
    omega

/-- All but the box Bo and rows of bytes from B on lies as it lay. -/
structure Gr (B Bo : Nat) (W W' : World) : Prop where
  os : W'.os = W.os
  tape : W'.tape = W.tape
  output : W'.output = W.output
  size : W.heap.size ≤ W'.heap.size
  same : ∀ k o, k ≠ Bo → W.heap[k]? = some o → (k < B ∨ ∀ cs fr, o ≠ .cells cs 5 fr) → W'.heap[k]? = some o
theorem Gr.refl (B Bo : Nat) (W : World) : Gr B Bo W W := ⟨rfl, rfl, rfl, Nat.le_refl _, fun _ _ _ h _ => h⟩
theorem Gr.trans {B Bo : Nat} {X Y Z : World} (h : Gr B Bo X Y) (k : Gr B Bo Y Z) : Gr B Bo X Z :=
  ⟨k.os.trans h.os, k.tape.trans h.tape, k.output.trans h.output, Nat.le_trans h.size k.size, fun i o h1 h2 h3 => k.same i o h1 (h.same i o h1 h2 h3) h3⟩
theorem Gr.alloc {B Bo : Nat} {W W' : World} (h : Gr B Bo W W') (o : Obj) : Gr B Bo W (W'.alloc o) :=
  h.trans ⟨rfl, rfl, rfl, by simp, fun k o' _ h2 _ => (Below.heap_alloc W' o k (Array.getElem?_eq_some_iff.1 h2).1).trans h2⟩
theorem Gr.below {B Bo n : Nat} {W W' : World} (h : Gr B Bo W W') (h1 : n ≤ B) (h2 : n ≤ Bo) (h3 : n ≤ W.heap.size) : Below n W W' :=
  ⟨h.os, h.tape, h.output, h.size, fun k hk => by
    obtain ⟨o, ho⟩ : ∃ o, W.heap[k]? = some o := ⟨W.heap[k]'(by omega), Array.getElem?_eq_getElem (by omega)⟩
    rw [ho]; exact h.same k o (by omega) ho (.inl (by omega))⟩
theorem Gr.blk {B Bo k : Nat} {W W' : World} {cs : Array Value} {t : TypeId} (h : Gr B Bo W W') (hb : Blk W k cs t) (hk : k ≠ Bo) (ht : k < B ∨ t ≠ 5) : Blk W' k cs t :=
  h.same k _ hk hb (ht.imp id (fun ht cs' fr e => by cases e; exact ht rfl))
theorem Gr.keeps {B Bo : Nat} {W W' : World} {cs : Array Value} {t : TypeId} (h : Gr B Bo W W') (hb : Blk W Bo cs t) : KeepsOthers W W' :=
  ⟨h.size, fun k o hk ho => h.same k o (fun e => by subst e; rw [show W.heap[k]? = _ from hb] at hk; cases hk; cases ho) hk (.inr (fun cs fr e => by subst e; cases ho))⟩

theorem app_step {B Bo : Nat} {W w1 : World} {v v' : Value} {l l' : List Int} (hb : Blk W Bo #[v] 22) (hBo : Bo < B) (hB : B ≤ W.heap.size) (ho : Own W B v l) (hg : W.grownBy w1 v.ownBlock) (ho' : Own w1 B v' l') :
    Blk w1 Bo #[v] 22 ∧ Blk (w1.setCell ⟨Bo, 0, none⟩ v') Bo #[v'] 22 ∧ Own (w1.setCell ⟨Bo, 0, none⟩ v') B v' l' ∧ Gr B Bo W (w1.setCell ⟨Bo, 0, none⟩ v') ∧ Gr B Bo W w1 := by
  have hbl := grow_below hB hg ho
  have h1 : Blk w1 Bo #[v] 22 := hb.below hbl hBo
  have hs : ∀ k o, W.heap[k]? = some o → (k < B ∨ ∀ cs fr, o ≠ .cells cs 5 fr) → w1.heap[k]? = some o := by
    intro k o h2 h3
    refine (hg.block k (Array.getElem?_eq_some_iff.1 h2).1 (fun e => ?_)).trans h2
    rcases ho.2 with ⟨rfl, _⟩ | ⟨g, cap, cur, rfl, hg1, hg2, _⟩
    · simp [Value.ownBlock] at e
    · obtain rfl : k = g := by simpa [Value.ownBlock] using e
      rcases h3 with h3 | h3
      · omega
      · rw [hg2] at h2; cases h2; exact h3 _ _ rfl
  refine ⟨h1, heap_setCell_same w1 Bo 0 #[v] 22 v' h1, own_other hBo ho', ⟨hbl.os, hbl.tape, hbl.output, Nat.le_trans hbl.size (size_setCell _ _ _), ?_⟩, ⟨hbl.os, hbl.tape, hbl.output, hbl.size, fun k o _ h2 h3 => hs k o h2 h3⟩⟩
  intro k o hk h2 h3
  rw [heap_setCell_other _ _ _ _ (by simpa using hk)]
  exact hs k o h2 h3

set_option maxRecDepth 100000 in
set_option maxHeartbeats 4000000 in
theorem stuff_bad (a : Option Addr) (len cap : Nat) (zs : List Int) (w : World) (hlen : zs.length = len) (hcap : len ≤ cap) (hnil : a = none → cap = 0) (hbig : len ≤ 1000000) (hz : Byt zs) (hr : Row w a zs) (hm : Mx w) (hbad : (rightZ zs).2 ≠ 0) :
    Calls Try.prog 9 #[.slice a len cap] w fun e w' => e = .returned (.tuple #[.slice none 0 0, .int .i64 (rightZ zs).2]) ∧ Below w.heap.size w w' := by
  have hR := right_any a len cap zs w hlen hcap hnil hbig hz hr hm
  obtain ⟨x, hx⟩ : ∃ x, (rightZ zs).1 = x := ⟨_, rfl⟩
  obtain ⟨y, hy⟩ : ∃ y, (rightZ zs).2 = y := ⟨_, rfl⟩
  rw [hx, hy] at hR
  rw [hy] at hbad ⊢
  have hb' : (y != 0) = true := by simpa using hbad
  clear hx hy hm hr hz
  go_enter Try.func9, Try.ntmps9
  go_wp2_with fail
  refine hR.mono ?_
  clear hR
  rintro e w1 ⟨rfl, hB1⟩
  go_wp2
  go_quiet (fail)
  go_wp2
  go_ret2
  refine ⟨rfl, ?_⟩
  exact (hB1.alloc hB1.size _).trans (Qt.below ⟨_, rfl⟩ _)

set_option maxRecDepth 100000 in
set_option maxHeartbeats 4000000 in
theorem stuff_good (a : Option Addr) (len cap : Nat) (zs : List Int) (w : World) (hlen : zs.length = len) (hcap : len ≤ cap) (hnil : a = none → cap = 0) (hbig : len ≤ 1000000) (hz : Byt zs) (hr : Row w a zs) (hm : Mx w) (hgood : (rightZ zs).2 = 0) :
    Calls Try.prog 9 #[.slice a len cap] w fun e w' => ∃ v, e = .returned (.tuple #[v, .int .i64 0]) ∧ Own w' w.heap.size v (frameZ zs) ∧ Below w.heap.size w w' := by
  have hR := right_any a len cap zs w hlen hcap hnil hbig hz hr hm
  obtain ⟨x, hx⟩ : ∃ x, (rightZ zs).1 = x := ⟨_, rfl⟩
  rw [hx, hgood] at hR
  clear hx
  obtain ⟨j0, hi, hz0, hz1, hz2⟩ := info_parts Try.info5
  refine (callsIn_wide (n := 20)).1 ?_
  refine callsIn_of_wp_marks Try.func9 rfl trivial ?_ rfl
  simp only [Try.ntmps9, List.size_toArray, List.length_cons, List.length_nil, Nat.reduceAdd, Nat.reduceSub, Array.replicate_succ, Array.replicate_zero, List.push_toArray, List.append_toArray, List.nil_append, List.cons_append]
  gi_wp2_with fail
  refine ⟨trivial, (callsIn_wide.2 hR).mono ?_⟩
  clear hR
  rintro e w1 ⟨rfl, hB1⟩
  gi_wp2_with (refine ⟨trivial, ?_⟩; gi_at_call 19; refine (lines_in _ _ _ _ _).mono ?_; rintro e w' ⟨rfl, rfl⟩)
  obtain ⟨b, off, ha⟩ : ∃ b off, (zs ≠ [] → a = some ⟨b, off, none⟩) := by
    rcases hr with rfl | ⟨b, off, rfl, _⟩
    · exact ⟨0, 0, fun h => absurd rfl h⟩
    · exact ⟨b, off, fun _ => rfl⟩
  have hsw := hB1.size
  have hB0 : Below w.heap.size w (((w1.alloc (.cells #[.int .i64 x, .int .i64 0] 28)).alloc (.cells #[.slice none 0 0] 22)).alloc (.cells #[.slice a len cap] 22)) := ((hB1.alloc hsw _).alloc (by simp; omega) _).alloc (by simp; omega) _
  have k1 := (Blk.new (w1.alloc (.cells #[.int .i64 x, .int .i64 0] 28)) #[.slice none 0 0] 22).alloc (.cells #[.slice a len cap] 22)
  have k2 := Blk.new ((w1.alloc (.cells #[.int .i64 x, .int .i64 0] 28)).alloc (.cells #[.slice none 0 0] 22)) #[.slice a len cap] 22
  simp only [World.size_alloc] at k1 k2
  have hsz : (((w1.alloc (.cells #[.int .i64 x, .int .i64 0] 28)).alloc (.cells #[.slice none 0 0] 22)).alloc (.cells #[.slice a len cap] 22)).heap.size = w1.heap.size + 3 := by simp
  obtain ⟨W0, hW0⟩ : ∃ W0, ((w1.alloc (.cells #[.int .i64 x, .int .i64 0] 28)).alloc (.cells #[.slice none 0 0] 22)).alloc (.cells #[.slice a len cap] 22) = W0 := ⟨_, rfl⟩
  rw [hW0] at k1 k2 hB0 hsz ⊢
  clear hW0
  have hpos := hm.pos
  refine wpIn_rangeFunc_ownH rfl (by omega) (gf := 28) (lb := #[.pointer (some ⟨w1.heap.size + 1 + 1, 0, none⟩)]) rfl trivial (enters_of Try.func28 (by kernel_rfl) rfl)
    (lines_stops 19 (by omega) (w1.heap.size + 1 + 1) w.heap.size b off len cap a zs hlen hcap hnil hbig hz ha hpos W0 (by omega) (k2.cell 0) (fun W' h => row_below hr (hB0.trans h)) (hm.keep hB0)) Kl.t
    (fun W l o o' hl ho _ _ => ⟨(Below.refl _ W).grown (grownBy_putObj' W l o') (by have := (Array.getElem?_eq_some_iff.1 ho).1; omega) (fun k e => by cases e; omega), World.putObj_heap_other (by omega)⟩)
    (Below.refl _ _) (fun _ => rfl)
    (fun pre W => ((∃ v, Boxed W (w1.heap.size + 1) 22 v ∧ W.ownsRow (w1.heap.size + 3) 5 1 v (flatZ zs (pre.map (fun x => x.1))).length ((flatZ zs (pre.map (fun x => x.1))).map (Value.int .u8)) ∧ True) ∧ Blk W (w1.heap.size + 1 + 1) #[.slice a len cap] 22) ∧ Below w.heap.size w W)
    (fun _ _ _ => False)
    (OwnFrom.and (OwnFrom.and (Go.Own.from (holdsRow_own (w1.heap.size + 3) (w1.heap.size + 1) 22 5 1 (fun pre : List (Ln len) => (flatZ zs (pre.map (fun x => x.1))).length) (fun pre => (flatZ zs (pre.map (fun x => x.1))).map (Value.int .u8)) (fun _ _ => True)) _) (Go.Own.from (blk_own _ _ _) _)) (ownFrom_below (Nat.le_refl _) (by omega)))
    (fun _ _ _ _ _ hs _ _ => hs)
    ⟨⟨⟨.slice none 0 0, k1, World.ownsRow_nil _ _ _ _, trivial⟩, k2⟩, hB0⟩
    (fun x' a' W => ∃ Bx, w1.heap.size + 1 + 1 < Bx ∧ Blk W Bx #[.slice (some ⟨b, off + x'.1.1, none⟩) x'.1.2.1 (cap - x'.1.1), .bool x'.1.2.2] 51 ∧ a' = { tmps := #[.slice a len cap, undef, .slice none 0 0, .int .i64 0, .pointer (some ⟨w1.heap.size, 0, none⟩), .pointer (some ⟨w1.heap.size + 1, 0, none⟩), undef, .pointer (some ⟨Bx, 0, none⟩), .slice a len cap, .agg #[.int .i64 x, .int .i64 0], .pointer (some ⟨w1.heap.size, 1, none⟩), .int .i64 0, .bool false, undef, undef, .slice a len cap, .func (.func 28) #[] #[.pointer (some ⟨w1.heap.size + 1 + 1, 0, none⟩)], .int .i64 (x'.1.1 : Nat), .agg #[.slice (some ⟨b, off + x'.1.1, none⟩) x'.1.2.1 (cap - x'.1.1), .bool x'.1.2.2], undef, undef, undef, undef, undef, undef, undef, undef, undef, undef, undef, undef, undef, undef, undef, undef, undef, undef, undef, undef, undef, undef, undef, undef, undef], defers := [] })
    (fun x a' _ X Y row hs hg hrow => by
      obtain ⟨Bx, h1, h2, h3⟩ := hs
      exact ⟨Bx, h1, blk_own Bx 51 (fun (_ : Unit) => #[Value.slice (some ⟨b, off + x.1.1, none⟩) x.1.2.1 (cap - x.1.1), Value.bool x.1.2.2]) () X Y row h2 hg (fun q e => (hrow q e).2), h3⟩)
    ?assign ?body ?done ?stop
  case assign =>
    rintro l pre ⟨⟨p, n, ended⟩, hx1, hx2⟩ W K ⟨⟨⟨v, jv, jo, _⟩, j2⟩, hB2⟩ hK
    simp only at hx1 hx2
    have hs1 := j2.lt
    have hs2 := hB2.size
    simp only [encL]
    gi_wp2
    exact hK _ _ ((KeepsOthers.alloc _ _).from _) ⟨(Below.refl _ W).alloc (by omega) _, Below.heap_alloc W _ _ hs1⟩ ⟨⟨⟨v, Blk.alloc jv _, own_keep jo (keep W _), trivial⟩, j2.alloc _⟩, hB2.alloc hs2 _⟩ ⟨W.heap.size, hs1, Blk.new W _ 51, rfl⟩
  case body =>
    rintro l pre ⟨⟨p, n, ended⟩, hx1, hx2⟩ a' W hl ⟨rr, hrr⟩ ⟨⟨⟨v, jv, jo, _⟩, j2⟩, hB2⟩ ⟨Bx, hBx, bX, rfl⟩ hlt
    simp only at hx1 hx2 bX ⊢
    have hne : zs ≠ [] := by rintro rfl; simp at hlen; omega
    obtain rfl := ha hne
    have hrow : Row W (some ⟨b, off + p, none⟩) ((zs.drop p).take n) := by
      have h := row_take n (row_drop (n := p) (cap := cap) (row_below hr hB2) (by omega))
      rw [if_neg (by omega)] at h
      simp only [Option.map_some, add_plain] at h
      exact h
    have hpl : ((zs.drop p).take n).length = n := by simp; omega
    obtain ⟨pc, hpc⟩ : ∃ pc, (zs.drop p).take n = pc := ⟨_, rfl⟩
    rw [hpc] at hrow hpl
    obtain ⟨fl, hfl⟩ : ∃ fl, flatZ zs (pre.map (fun x => x.1)) = fl := ⟨_, rfl⟩
    have hfb : fl.length ≤ 1000010000000 := by
      have h1 := flatZ_len zs pre
      have h2 := linesZ_len zs.length 0 zs (Nat.le_refl _)
      rw [hfl] at h1
      have h3 : pre.length * (len + 3) ≤ 1000000 * 1000003 := Nat.mul_le_mul (by omega) (by omega)
      omega
    rw [hfl] at jo
    have HFL : Hid (flatZ zs ((pre ++ [(⟨(p, n, ended), hx1, hx2⟩ : Ln len)]).map (fun x => x.1)) = fl ++ lineF pc) := by
      unfold Hid; simp [flatZ] at hfl ⊢; rw [hfl]; simp [pieceZ, hpc]
    have hBW : (w1.heap.size + 3) ≤ W.heap.size := j2.lt
    have OW0 : Hid (Own W (w1.heap.size + 3) v fl) := jo
    have BX0 : Hid (Blk W (w1.heap.size + 1) #[v] 22) := jv
    have GR0 : Hid (Gr (w1.heap.size + 3) (w1.heap.size + 1) W W) := Gr.refl _ _ _
    have GR0S := hBW
    have bXH : Hid (Blk W Bx #[.slice (some ⟨b, off + p, none⟩) n (cap - p), .bool ended] 51) := bX
    have HB2 : Hid (Below w.heap.size w W) := hB2
    have H2 : Hid (Blk W (w1.heap.size + 1 + 1) #[.slice (some ⟨b, off, none⟩) len cap] 22) := j2
    have hplH : Hid (pc.length = n) := hpl
    have HROW : Hid (∀ X, Gr (w1.heap.size + 3) (w1.heap.size + 1) W X → ∀ j u, (pc.map (Value.int .u8))[j]? = some u → X.cell? ((⟨b, off + p, none⟩ : Addr).add j) = some u) := by
      intro X hX j u hu
      have hbX : Below w.heap.size w X := hB2.trans (hX.below (by omega) (by omega) (by omega))
      have hrX : Row X (some ⟨b, off + p, none⟩) pc := by
        have h := row_take n (row_drop (n := p) (cap := cap) (row_below hr hbX) (by omega))
        rw [if_neg (by omega), hpc] at h
        simp only [Option.map_some, add_plain] at h
        exact h
      rcases hrX with rfl | ⟨b', off', hb', hc⟩
      · simp at hu
      · cases hb'
        rw [add_plain]
        rw [List.getElem?_map] at hu
        have hj : j < pc.length := by
          rcases Nat.lt_or_ge j pc.length with h | h
          · exact h
          · rw [List.getElem?_eq_none h] at hu; simp at hu
        rw [hc j hj]
        rw [List.getElem?_eq_getElem hj] at hu
        simp at hu
        simp [List.getD_eq_getElem?_getD, List.getElem?_eq_getElem hj, hu]
    have c0 := bX.cell 0
    have c1 := bX.cell 1
    have d0 := Blk.cell (cs := #[v]) jv 0
    have f0 := Blk.frozen (cs := #[v]) jv 0
    simp only [List.getElem?_toArray, List.getElem?_cons_zero, List.getElem?_cons_succ] at c0 c1 d0
    have HEAD : Hid (pc = [] ∨ ∃ q, pc.head? = some q ∧ W.cell? ⟨b, off + p, none⟩ = some (.int .u8 q)) := by
      cases pc with
      | nil => exact .inl rfl
      | cons q pc' => exact .inr ⟨q, rfl, by have := HROW.out W GR0.out 0 (.int .u8 q) rfl; rw [add_plain] at this; exact this⟩
    clear jv jo bX hB2 j2 hrow hpl hpc hfl k1 k2 hB0 hrr hr hm
    have fin : ∀ X v', Blk X (w1.heap.size + 1) #[v'] 22 → Own X (w1.heap.size + 3) v' (fl ++ lineF pc) → Gr (w1.heap.size + 3) (w1.heap.size + 1) W X → KeepsFrom W0.heap.size W X ∧ Kl w.heap.size (w1.heap.size + 1 + 1) W X ∧ ((∃ v, Boxed X (w1.heap.size + 1) 22 v ∧ X.ownsRow (w1.heap.size + 3) 5 1 v (flatZ zs ((pre ++ [(⟨(p, n, ended), hx1, hx2⟩ : Ln len)]).map (fun x => x.1))).length ((flatZ zs ((pre ++ [(⟨(p, n, ended), hx1, hx2⟩ : Ln len)]).map (fun x => x.1))).map (Value.int .u8)) ∧ True) ∧ Blk X (w1.heap.size + 1 + 1) #[.slice (some ⟨b, off, none⟩) len cap] 22) ∧ Below w.heap.size w X := by
      intro X v' h1 h2 h3
      have hb := h3.below (n := w.heap.size) (by omega) (by omega) (by omega)
      have h4 := h3.blk H2.out (by omega) (.inl (by omega))
      rw [HFL.out]
      exact ⟨(h3.keeps BX0.out).from _, ⟨hb, h4.trans H2.out.symm⟩, ⟨⟨v', h1, h2, trivial⟩, h4⟩, HB2.out.trans hb⟩
    have FIN : Hid _ := fin
    clear fin
    by_cases hn0 : n = 0
    · obtain rfl := hn0
      have hn0 : (0 : Nat) = 0 := rfl
      have hpc0 : pc = [] := List.eq_nil_of_length_eq_zero (by exact hplH.out)
      have HLINE : Hid (lineF pc = pc ++ [13, 10]) := by unfold Hid; rw [hpc0]; rfl
      gi_wp2_with (gi_at_builtin; refine wpListIn_append_own _ rfl (.tmp 33) (.tmp 35) 22 rfl (w1.heap.size + 3) 5 j0 (.int .u8 0) 1 1 Try.underlying22 hi hz0 hz1 hz2 rfl (by decide) _ fl.length _ rfl OW0.out ⟨b, off + p, none⟩ 0 (cap - p) (pc.map (Value.int .u8)) rfl (by simp [hplH.out]) (HROW.out _ GR0.out) (ints_one pc) (by unfold maxLen; omega) (by omega) hBW ?_)
      intro v1 x1 hown1 hgrow1 _
      have o1 : Own x1 (w1.heap.size + 3) v1 (fl ++ pc) := own_of hown1 (by have := hplH.out; simp; omega) (by simp [hpc0])
      have st1 := app_step BX0.out (by omega) hBW OW0.out hgrow1 o1
      obtain ⟨a1, cp1, e1, _⟩ := own_row' o1
      clear hown1 hgrow1 o1
      subst e1
      have GR1 : Hid (Gr (w1.heap.size + 3) (w1.heap.size + 1) W (x1.setCell ⟨(w1.heap.size + 1), 0, none⟩ (.slice a1 (fl ++ pc).length cp1))) := Gr.trans GR0.out st1.2.2.2.1
      have GP1 : Gr (w1.heap.size + 3) (w1.heap.size + 1) W x1 := Gr.trans GR0.out st1.2.2.2.2
      have GR1S : (w1.heap.size + 3) ≤ (x1.setCell ⟨(w1.heap.size + 1), 0, none⟩ (.slice a1 (fl ++ pc).length cp1)).heap.size := Nat.le_trans hBW GR1.out.size
      have OW1 : Hid (Own (x1.setCell ⟨(w1.heap.size + 1), 0, none⟩ (.slice a1 (fl ++ pc).length cp1)) (w1.heap.size + 3) (.slice a1 (fl ++ pc).length cp1) (fl ++ pc)) := st1.2.2.1
      have BX1 : Hid (Blk (x1.setCell ⟨(w1.heap.size + 1), 0, none⟩ (.slice a1 (fl ++ pc).length cp1)) (w1.heap.size + 1) #[(.slice a1 (fl ++ pc).length cp1)] 22) := st1.2.1
      have m11 := st1.1.cell 0
      have m12 := st1.1.frozen 0
      have m13 := (GP1.blk bXH.out (by omega) (.inr (by decide))).cell 0
      simp only [List.getElem?_toArray, List.getElem?_cons_zero] at m11 m13
      obtain ⟨n1, hn1⟩ : ∃ n1, (fl ++ pc).length = n1 := ⟨_, rfl⟩
      have hnb1 : n1 ≤ 1000020000000 := by have := hplH.out; rw [← hn1]; simp; omega
      have HN1 : Hid ((fl ++ pc).length = n1) := hn1
      rw [hn1] at GR1 GR1S OW1 BX1 ⊢
      have ol1 : Hid ((x1.setCell ⟨(w1.heap.size + 1), 0, none⟩ (.slice a1 n1 cp1)).ownsRow (w1.heap.size + 3) 5 1 (.slice a1 n1 cp1) n1 ((fl ++ pc).map (Value.int .u8))) := by have := OW1.out; unfold Own at this; rw [HN1.out] at this; exact this
      clear st1 GP1 hn1
      gi_wp2_with (gi_at_builtin; refine in_append_string _ rfl (.tmp 37) (.const (.string ⟨#[13, 10]⟩)) 22 9 rfl (w1.heap.size + 3) 5 j0 Try.underlying22 Try.underlying9 hi hz0 hz1 hz2 _ n1 _ rfl ol1.out ⟨#[13, 10]⟩ rfl (by unfold maxLen; simp [ByteArray.size]; omega) (by simp [ByteArray.size]; omega) GR1S ?_)
      intro v2 x2 hown2 hgrow2
      have o2 : Own x2 (w1.heap.size + 3) v2 (fl ++ pc ++ [13, 10]) := own_of hown2 (by have := hplH.out; have h2 := HN1.out; simp at h2 ⊢; omega) (by simp [sc1310, hpc0])
      have st2 := app_step BX1.out (by omega) GR1S OW1.out hgrow2 o2
      obtain ⟨a2, cp2, e2, _⟩ := own_row' o2
      clear hown2 hgrow2 o2
      subst e2
      have GR2 : Hid (Gr (w1.heap.size + 3) (w1.heap.size + 1) W (x2.setCell ⟨(w1.heap.size + 1), 0, none⟩ (.slice a2 (fl ++ pc ++ [13, 10]).length cp2))) := Gr.trans GR1.out st2.2.2.2.1
      have GP2 : Gr (w1.heap.size + 3) (w1.heap.size + 1) W x2 := Gr.trans GR1.out st2.2.2.2.2
      have GR2S : (w1.heap.size + 3) ≤ (x2.setCell ⟨(w1.heap.size + 1), 0, none⟩ (.slice a2 (fl ++ pc ++ [13, 10]).length cp2)).heap.size := Nat.le_trans hBW GR2.out.size
      have OW2 : Hid (Own (x2.setCell ⟨(w1.heap.size + 1), 0, none⟩ (.slice a2 (fl ++ pc ++ [13, 10]).length cp2)) (w1.heap.size + 3) (.slice a2 (fl ++ pc ++ [13, 10]).length cp2) (fl ++ pc ++ [13, 10])) := st2.2.2.1
      have BX2 : Hid (Blk (x2.setCell ⟨(w1.heap.size + 1), 0, none⟩ (.slice a2 (fl ++ pc ++ [13, 10]).length cp2)) (w1.heap.size + 1) #[(.slice a2 (fl ++ pc ++ [13, 10]).length cp2)] 22) := st2.2.1
      have m21 := st2.1.cell 0
      have m22 := st2.1.frozen 0
      have m23 := (GP2.blk bXH.out (by omega) (.inr (by decide))).cell 0
      simp only [List.getElem?_toArray, List.getElem?_cons_zero] at m21 m23
      obtain ⟨n2, hn2⟩ : ∃ n2, (fl ++ pc ++ [13, 10]).length = n2 := ⟨_, rfl⟩
      have hnb2 : n2 ≤ 1000020000000 := by have := hplH.out; rw [← hn2]; simp; omega
      have HN2 : Hid ((fl ++ pc ++ [13, 10]).length = n2) := hn2
      rw [hn2] at GR2 GR2S OW2 BX2 ⊢
      have ol2 : Hid ((x2.setCell ⟨(w1.heap.size + 1), 0, none⟩ (.slice a2 n2 cp2)).ownsRow (w1.heap.size + 3) 5 1 (.slice a2 n2 cp2) n2 ((fl ++ pc ++ [13, 10]).map (Value.int .u8))) := by have := OW2.out; unfold Own at this; rw [HN2.out] at this; exact this
      clear st2 GP2 hn2
      gi_wp2
      exact FIN.out _ _ BX2.out (by have := OW2.out; rw [HLINE.out, ← List.append_assoc]; exact this) GR2.out
    · have hd : decide ((n : Int) > 0) = true := by simp; omega
      rcases HEAD.out with h | ⟨q, hq, hcq⟩
      · rw [h] at hplH; have := hplH.out; simp at this; omega
      have hadd : (⟨b, off + p, none⟩ : Addr).add 0 = ⟨b, off + p, none⟩ := by rw [add_plain]; rfl
      by_cases hq46 : q = 46
      · subst hq46
        have HLINE : Hid (lineF pc = [46] ++ (pc ++ [13, 10])) := by unfold Hid lineF; rw [if_pos hq]
        gi_wp2_with (gi_at_builtin; refine wpListIn_append_own _ rfl (.tmp 30) (.tmp 31) 22 rfl (w1.heap.size + 3) 5 j0 (.int .u8 0) 1 1 Try.underlying22 hi hz0 hz1 hz2 rfl (by decide) _ fl.length _ rfl (own_keep OW0.out (keep W _)) ⟨W.heap.size, 0, none⟩ 1 1 [.int .u8 46] rfl rfl (cells_new W _ 5) (ints_one [46]) (by unfold maxLen; omega) (by omega) (by simp; omega) ?_)
        intro v1 x1 hown1 hgrow1 _
        have o1 : Own x1 (w1.heap.size + 3) v1 (fl ++ [46]) := own_snoc (m := [46]) hown1
        have st1 := app_step (BX0.out.alloc (.cells #[.int .u8 46] 5)) (by omega) (by simp; omega) (own_keep OW0.out (keep W (.cells #[.int .u8 46] 5))) hgrow1 o1
        obtain ⟨a1, cp1, e1, _⟩ := own_row' o1
        clear hown1 hgrow1 o1
        subst e1
        have GR1 : Hid (Gr (w1.heap.size + 3) (w1.heap.size + 1) W (x1.setCell ⟨(w1.heap.size + 1), 0, none⟩ (.slice a1 (fl ++ [46]).length cp1))) := Gr.trans (GR0.out.alloc (.cells #[.int .u8 46] 5)) st1.2.2.2.1
        have GP1 : Gr (w1.heap.size + 3) (w1.heap.size + 1) W x1 := Gr.trans (GR0.out.alloc (.cells #[.int .u8 46] 5)) st1.2.2.2.2
        have GR1S : (w1.heap.size + 3) ≤ (x1.setCell ⟨(w1.heap.size + 1), 0, none⟩ (.slice a1 (fl ++ [46]).length cp1)).heap.size := Nat.le_trans hBW GR1.out.size
        have OW1 : Hid (Own (x1.setCell ⟨(w1.heap.size + 1), 0, none⟩ (.slice a1 (fl ++ [46]).length cp1)) (w1.heap.size + 3) (.slice a1 (fl ++ [46]).length cp1) (fl ++ [46])) := st1.2.2.1
        have BX1 : Hid (Blk (x1.setCell ⟨(w1.heap.size + 1), 0, none⟩ (.slice a1 (fl ++ [46]).length cp1)) (w1.heap.size + 1) #[(.slice a1 (fl ++ [46]).length cp1)] 22) := st1.2.1
        have m11 := st1.1.cell 0
        have m12 := st1.1.frozen 0
        have m13 := (GP1.blk bXH.out (by omega) (.inr (by decide))).cell 0
        simp only [List.getElem?_toArray, List.getElem?_cons_zero] at m11 m13
        obtain ⟨n1, hn1⟩ : ∃ n1, (fl ++ [46]).length = n1 := ⟨_, rfl⟩
        have hnb1 : n1 ≤ 1000020000000 := by have := hplH.out; rw [← hn1]; simp; omega
        have HN1 : Hid ((fl ++ [46]).length = n1) := hn1
        rw [hn1] at GR1 GR1S OW1 BX1 ⊢
        have ol1 : Hid ((x1.setCell ⟨(w1.heap.size + 1), 0, none⟩ (.slice a1 n1 cp1)).ownsRow (w1.heap.size + 3) 5 1 (.slice a1 n1 cp1) n1 ((fl ++ [46]).map (Value.int .u8))) := by have := OW1.out; unfold Own at this; rw [HN1.out] at this; exact this
        clear st1 GP1 hn1
        gi_wp2_with (gi_at_builtin; refine wpListIn_append_own _ rfl (.tmp 33) (.tmp 35) 22 rfl (w1.heap.size + 3) 5 j0 (.int .u8 0) 1 1 Try.underlying22 hi hz0 hz1 hz2 rfl (by decide) _ n1 _ rfl ol1.out ⟨b, off + p, none⟩ n (cap - p) (pc.map (Value.int .u8)) rfl (by simp [hplH.out]) (HROW.out _ GR1.out) (ints_one pc) (by unfold maxLen; omega) (by omega) GR1S ?_)
        intro v2 x2 hown2 hgrow2 _
        have o2 : Own x2 (w1.heap.size + 3) v2 (fl ++ [46] ++ pc) := own_of hown2 (by have := hplH.out; have h2 := HN1.out; simp at h2 ⊢; omega) (by simp)
        have st2 := app_step BX1.out (by omega) GR1S OW1.out hgrow2 o2
        obtain ⟨a2, cp2, e2, _⟩ := own_row' o2
        clear hown2 hgrow2 o2
        subst e2
        have GR2 : Hid (Gr (w1.heap.size + 3) (w1.heap.size + 1) W (x2.setCell ⟨(w1.heap.size + 1), 0, none⟩ (.slice a2 (fl ++ [46] ++ pc).length cp2))) := Gr.trans GR1.out st2.2.2.2.1
        have GP2 : Gr (w1.heap.size + 3) (w1.heap.size + 1) W x2 := Gr.trans GR1.out st2.2.2.2.2
        have GR2S : (w1.heap.size + 3) ≤ (x2.setCell ⟨(w1.heap.size + 1), 0, none⟩ (.slice a2 (fl ++ [46] ++ pc).length cp2)).heap.size := Nat.le_trans hBW GR2.out.size
        have OW2 : Hid (Own (x2.setCell ⟨(w1.heap.size + 1), 0, none⟩ (.slice a2 (fl ++ [46] ++ pc).length cp2)) (w1.heap.size + 3) (.slice a2 (fl ++ [46] ++ pc).length cp2) (fl ++ [46] ++ pc)) := st2.2.2.1
        have BX2 : Hid (Blk (x2.setCell ⟨(w1.heap.size + 1), 0, none⟩ (.slice a2 (fl ++ [46] ++ pc).length cp2)) (w1.heap.size + 1) #[(.slice a2 (fl ++ [46] ++ pc).length cp2)] 22) := st2.2.1
        have m21 := st2.1.cell 0
        have m22 := st2.1.frozen 0
        have m23 := (GP2.blk bXH.out (by omega) (.inr (by decide))).cell 0
        simp only [List.getElem?_toArray, List.getElem?_cons_zero] at m21 m23
        obtain ⟨n2, hn2⟩ : ∃ n2, (fl ++ [46] ++ pc).length = n2 := ⟨_, rfl⟩
        have hnb2 : n2 ≤ 1000020000000 := by have := hplH.out; rw [← hn2]; simp; omega
        have HN2 : Hid ((fl ++ [46] ++ pc).length = n2) := hn2
        rw [hn2] at GR2 GR2S OW2 BX2 ⊢
        have ol2 : Hid ((x2.setCell ⟨(w1.heap.size + 1), 0, none⟩ (.slice a2 n2 cp2)).ownsRow (w1.heap.size + 3) 5 1 (.slice a2 n2 cp2) n2 ((fl ++ [46] ++ pc).map (Value.int .u8))) := by have := OW2.out; unfold Own at this; rw [HN2.out] at this; exact this
        clear st2 GP2 hn2
        gi_wp2_with (gi_at_builtin; refine in_append_string _ rfl (.tmp 37) (.const (.string ⟨#[13, 10]⟩)) 22 9 rfl (w1.heap.size + 3) 5 j0 Try.underlying22 Try.underlying9 hi hz0 hz1 hz2 _ n2 _ rfl ol2.out ⟨#[13, 10]⟩ rfl (by unfold maxLen; simp [ByteArray.size]; omega) (by simp [ByteArray.size]; omega) GR2S ?_)
        intro v3 x3 hown3 hgrow3
        have o3 : Own x3 (w1.heap.size + 3) v3 (fl ++ [46] ++ pc ++ [13, 10]) := own_of hown3 (by have := hplH.out; have h2 := HN2.out; simp at h2 ⊢; omega) (by simp [sc1310])
        have st3 := app_step BX2.out (by omega) GR2S OW2.out hgrow3 o3
        obtain ⟨a3, cp3, e3, _⟩ := own_row' o3
        clear hown3 hgrow3 o3
        subst e3
        have GR3 : Hid (Gr (w1.heap.size + 3) (w1.heap.size + 1) W (x3.setCell ⟨(w1.heap.size + 1), 0, none⟩ (.slice a3 (fl ++ [46] ++ pc ++ [13, 10]).length cp3))) := Gr.trans GR2.out st3.2.2.2.1
        have GP3 : Gr (w1.heap.size + 3) (w1.heap.size + 1) W x3 := Gr.trans GR2.out st3.2.2.2.2
        have GR3S : (w1.heap.size + 3) ≤ (x3.setCell ⟨(w1.heap.size + 1), 0, none⟩ (.slice a3 (fl ++ [46] ++ pc ++ [13, 10]).length cp3)).heap.size := Nat.le_trans hBW GR3.out.size
        have OW3 : Hid (Own (x3.setCell ⟨(w1.heap.size + 1), 0, none⟩ (.slice a3 (fl ++ [46] ++ pc ++ [13, 10]).length cp3)) (w1.heap.size + 3) (.slice a3 (fl ++ [46] ++ pc ++ [13, 10]).length cp3) (fl ++ [46] ++ pc ++ [13, 10])) := st3.2.2.1
        have BX3 : Hid (Blk (x3.setCell ⟨(w1.heap.size + 1), 0, none⟩ (.slice a3 (fl ++ [46] ++ pc ++ [13, 10]).length cp3)) (w1.heap.size + 1) #[(.slice a3 (fl ++ [46] ++ pc ++ [13, 10]).length cp3)] 22) := st3.2.1
        have m31 := st3.1.cell 0
        have m32 := st3.1.frozen 0
        have m33 := (GP3.blk bXH.out (by omega) (.inr (by decide))).cell 0
        simp only [List.getElem?_toArray, List.getElem?_cons_zero] at m31 m33
        obtain ⟨n3, hn3⟩ : ∃ n3, (fl ++ [46] ++ pc ++ [13, 10]).length = n3 := ⟨_, rfl⟩
        have hnb3 : n3 ≤ 1000020000000 := by have := hplH.out; rw [← hn3]; simp; omega
        have HN3 : Hid ((fl ++ [46] ++ pc ++ [13, 10]).length = n3) := hn3
        rw [hn3] at GR3 GR3S OW3 BX3 ⊢
        have ol3 : Hid ((x3.setCell ⟨(w1.heap.size + 1), 0, none⟩ (.slice a3 n3 cp3)).ownsRow (w1.heap.size + 3) 5 1 (.slice a3 n3 cp3) n3 ((fl ++ [46] ++ pc ++ [13, 10]).map (Value.int .u8))) := by have := OW3.out; unfold Own at this; rw [HN3.out] at this; exact this
        clear st3 GP3 hn3
        gi_wp2
        exact FIN.out _ _ BX3.out (by have := OW3.out; rw [HLINE.out]; simpa [List.append_assoc] using this) GR3.out
      · have hq' : (q == 46) = false := by rw [beq_eq_false_iff_ne]; exact hq46
        have HLINE : Hid (lineF pc = pc ++ [13, 10]) := by unfold Hid lineF; rw [hq, if_neg (by simpa using hq46)]; rfl
        gi_wp2_with (gi_at_builtin; refine wpListIn_append_own _ rfl (.tmp 33) (.tmp 35) 22 rfl (w1.heap.size + 3) 5 j0 (.int .u8 0) 1 1 Try.underlying22 hi hz0 hz1 hz2 rfl (by decide) _ fl.length _ rfl OW0.out ⟨b, off + p, none⟩ n (cap - p) (pc.map (Value.int .u8)) rfl (by simp [hplH.out]) (HROW.out _ GR0.out) (ints_one pc) (by unfold maxLen; omega) (by omega) hBW ?_)
        intro v1 x1 hown1 hgrow1 _
        have o1 : Own x1 (w1.heap.size + 3) v1 (fl ++ pc) := own_of hown1 (by have := hplH.out; simp; omega) (by simp)
        have st1 := app_step BX0.out (by omega) hBW OW0.out hgrow1 o1
        obtain ⟨a1, cp1, e1, _⟩ := own_row' o1
        clear hown1 hgrow1 o1
        subst e1
        have GR1 : Hid (Gr (w1.heap.size + 3) (w1.heap.size + 1) W (x1.setCell ⟨(w1.heap.size + 1), 0, none⟩ (.slice a1 (fl ++ pc).length cp1))) := Gr.trans GR0.out st1.2.2.2.1
        have GP1 : Gr (w1.heap.size + 3) (w1.heap.size + 1) W x1 := Gr.trans GR0.out st1.2.2.2.2
        have GR1S : (w1.heap.size + 3) ≤ (x1.setCell ⟨(w1.heap.size + 1), 0, none⟩ (.slice a1 (fl ++ pc).length cp1)).heap.size := Nat.le_trans hBW GR1.out.size
        have OW1 : Hid (Own (x1.setCell ⟨(w1.heap.size + 1), 0, none⟩ (.slice a1 (fl ++ pc).length cp1)) (w1.heap.size + 3) (.slice a1 (fl ++ pc).length cp1) (fl ++ pc)) := st1.2.2.1
        have BX1 : Hid (Blk (x1.setCell ⟨(w1.heap.size + 1), 0, none⟩ (.slice a1 (fl ++ pc).length cp1)) (w1.heap.size + 1) #[(.slice a1 (fl ++ pc).length cp1)] 22) := st1.2.1
        have m11 := st1.1.cell 0
        have m12 := st1.1.frozen 0
        have m13 := (GP1.blk bXH.out (by omega) (.inr (by decide))).cell 0
        simp only [List.getElem?_toArray, List.getElem?_cons_zero] at m11 m13
        obtain ⟨n1, hn1⟩ : ∃ n1, (fl ++ pc).length = n1 := ⟨_, rfl⟩
        have hnb1 : n1 ≤ 1000020000000 := by have := hplH.out; rw [← hn1]; simp; omega
        have HN1 : Hid ((fl ++ pc).length = n1) := hn1
        rw [hn1] at GR1 GR1S OW1 BX1 ⊢
        have ol1 : Hid ((x1.setCell ⟨(w1.heap.size + 1), 0, none⟩ (.slice a1 n1 cp1)).ownsRow (w1.heap.size + 3) 5 1 (.slice a1 n1 cp1) n1 ((fl ++ pc).map (Value.int .u8))) := by have := OW1.out; unfold Own at this; rw [HN1.out] at this; exact this
        clear st1 GP1 hn1
        gi_wp2_with (gi_at_builtin; refine in_append_string _ rfl (.tmp 37) (.const (.string ⟨#[13, 10]⟩)) 22 9 rfl (w1.heap.size + 3) 5 j0 Try.underlying22 Try.underlying9 hi hz0 hz1 hz2 _ n1 _ rfl ol1.out ⟨#[13, 10]⟩ rfl (by unfold maxLen; simp [ByteArray.size]; omega) (by simp [ByteArray.size]; omega) GR1S ?_)
        intro v2 x2 hown2 hgrow2
        have o2 : Own x2 (w1.heap.size + 3) v2 (fl ++ pc ++ [13, 10]) := own_of hown2 (by have := hplH.out; have h2 := HN1.out; simp at h2 ⊢; omega) (by simp [sc1310])
        have st2 := app_step BX1.out (by omega) GR1S OW1.out hgrow2 o2
        obtain ⟨a2, cp2, e2, _⟩ := own_row' o2
        clear hown2 hgrow2 o2
        subst e2
        have GR2 : Hid (Gr (w1.heap.size + 3) (w1.heap.size + 1) W (x2.setCell ⟨(w1.heap.size + 1), 0, none⟩ (.slice a2 (fl ++ pc ++ [13, 10]).length cp2))) := Gr.trans GR1.out st2.2.2.2.1
        have GP2 : Gr (w1.heap.size + 3) (w1.heap.size + 1) W x2 := Gr.trans GR1.out st2.2.2.2.2
        have GR2S : (w1.heap.size + 3) ≤ (x2.setCell ⟨(w1.heap.size + 1), 0, none⟩ (.slice a2 (fl ++ pc ++ [13, 10]).length cp2)).heap.size := Nat.le_trans hBW GR2.out.size
        have OW2 : Hid (Own (x2.setCell ⟨(w1.heap.size + 1), 0, none⟩ (.slice a2 (fl ++ pc ++ [13, 10]).length cp2)) (w1.heap.size + 3) (.slice a2 (fl ++ pc ++ [13, 10]).length cp2) (fl ++ pc ++ [13, 10])) := st2.2.2.1
        have BX2 : Hid (Blk (x2.setCell ⟨(w1.heap.size + 1), 0, none⟩ (.slice a2 (fl ++ pc ++ [13, 10]).length cp2)) (w1.heap.size + 1) #[(.slice a2 (fl ++ pc ++ [13, 10]).length cp2)] 22) := st2.2.1
        have m21 := st2.1.cell 0
        have m22 := st2.1.frozen 0
        have m23 := (GP2.blk bXH.out (by omega) (.inr (by decide))).cell 0
        simp only [List.getElem?_toArray, List.getElem?_cons_zero] at m21 m23
        obtain ⟨n2, hn2⟩ : ∃ n2, (fl ++ pc ++ [13, 10]).length = n2 := ⟨_, rfl⟩
        have hnb2 : n2 ≤ 1000020000000 := by have := hplH.out; rw [← hn2]; simp; omega
        have HN2 : Hid ((fl ++ pc ++ [13, 10]).length = n2) := hn2
        rw [hn2] at GR2 GR2S OW2 BX2 ⊢
        have ol2 : Hid ((x2.setCell ⟨(w1.heap.size + 1), 0, none⟩ (.slice a2 n2 cp2)).ownsRow (w1.heap.size + 3) 5 1 (.slice a2 n2 cp2) n2 ((fl ++ pc ++ [13, 10]).map (Value.int .u8))) := by have := OW2.out; unfold Own at this; rw [HN2.out] at this; exact this
        clear st2 GP2 hn2
        gi_wp2
        exact FIN.out _ _ BX2.out (by have := OW2.out; rw [HLINE.out, ← List.append_assoc]; exact this) GR2.out
  case done =>
    rintro D ys W hD hS ⟨⟨⟨v, jv, jo, _⟩, j2⟩, hB2⟩ hK
    obtain ⟨fl, hfl⟩ : ∃ fl, flatZ zs (linesZ 0 zs) = fl := ⟨_, rfl⟩
    have hfb : fl.length ≤ 1000010000000 := by
      have h1 := flatZ_len zs ys
      have h2 := linesZ_len zs.length 0 zs (Nat.le_refl _)
      have h4 : ys.length = (linesZ 0 zs).length := by rw [← hS]; simp
      rw [hS, hfl] at h1
      have h3 : ys.length * (len + 3) ≤ 1000000 * 1000003 := Nat.mul_le_mul (by omega) (by omega)
      omega
    rw [hS, hfl] at jo
    have HFR : Hid (frameZ zs = fl ++ [46] ++ [13, 10]) := by unfold Hid frameZ; rw [hfl, List.append_assoc]; rfl
    have hBW : (w1.heap.size + 3) ≤ W.heap.size := j2.lt
    have OW0 : Hid (Own W (w1.heap.size + 3) v fl) := jo
    have BX0 : Hid (Blk W (w1.heap.size + 1) #[v] 22) := jv
    have GR0 : Hid (Gr (w1.heap.size + 3) (w1.heap.size + 1) W W) := Gr.refl _ _ _
    have HB2 : Hid (Below w.heap.size w W) := hB2
    have HK : Hid (W.heap[D]? = some (.deferred (some []))) := hK
    have d0 := Blk.cell (cs := #[v]) jv 0
    have f0 := Blk.frozen (cs := #[v]) jv 0
    simp only [List.getElem?_toArray, List.getElem?_cons_zero] at d0
    clear jv jo hB2 j2 hfl hK hr hm hS
    gi_wp2_with (gi_at_builtin; refine wpListIn_append_own _ rfl (.tmp 39) (.tmp 40) 22 rfl (w1.heap.size + 3) 5 j0 (.int .u8 0) 1 1 Try.underlying22 hi hz0 hz1 hz2 rfl (by decide) _ fl.length _ rfl (own_keep OW0.out (keep W _)) ⟨W.heap.size, 0, none⟩ 1 1 [.int .u8 46] rfl rfl (cells_new W _ 5) (ints_one [46]) (by unfold maxLen; omega) (by omega) (by simp; omega) ?_)
    intro v1 x1 hown1 hgrow1 _
    have o1 : Own x1 (w1.heap.size + 3) v1 (fl ++ [46]) := own_of hown1 (by simp) (by simp)
    have st1 := app_step (BX0.out.alloc (.cells #[.int .u8 46] 5)) (by omega) (by simp; omega) (own_keep OW0.out (keep W (.cells #[.int .u8 46] 5))) hgrow1 o1
    obtain ⟨a1, cp1, e1, _⟩ := own_row' o1
    clear hown1 hgrow1 o1
    subst e1
    have GR1 : Hid (Gr (w1.heap.size + 3) (w1.heap.size + 1) W (x1.setCell ⟨(w1.heap.size + 1), 0, none⟩ (.slice a1 (fl ++ [46]).length cp1))) := Gr.trans (GR0.out.alloc (.cells #[.int .u8 46] 5)) st1.2.2.2.1
    have GP1 : Gr (w1.heap.size + 3) (w1.heap.size + 1) W x1 := Gr.trans (GR0.out.alloc (.cells #[.int .u8 46] 5)) st1.2.2.2.2
    have GR1S : (w1.heap.size + 3) ≤ (x1.setCell ⟨(w1.heap.size + 1), 0, none⟩ (.slice a1 (fl ++ [46]).length cp1)).heap.size := Nat.le_trans hBW GR1.out.size
    have OW1 : Hid (Own (x1.setCell ⟨(w1.heap.size + 1), 0, none⟩ (.slice a1 (fl ++ [46]).length cp1)) (w1.heap.size + 3) (.slice a1 (fl ++ [46]).length cp1) (fl ++ [46])) := st1.2.2.1
    have BX1 : Hid (Blk (x1.setCell ⟨(w1.heap.size + 1), 0, none⟩ (.slice a1 (fl ++ [46]).length cp1)) (w1.heap.size + 1) #[(.slice a1 (fl ++ [46]).length cp1)] 22) := st1.2.1
    have m11 := st1.1.cell 0
    have m12 := st1.1.frozen 0
    simp only [List.getElem?_toArray, List.getElem?_cons_zero] at m11
    obtain ⟨n1, hn1⟩ : ∃ n1, (fl ++ [46]).length = n1 := ⟨_, rfl⟩
    have hnb1 : n1 ≤ 1000020000000 := by rw [← hn1]; simp; omega
    have HN1 : Hid ((fl ++ [46]).length = n1) := hn1
    rw [hn1] at GR1 GR1S OW1 BX1 ⊢
    have ol1 : Hid ((x1.setCell ⟨(w1.heap.size + 1), 0, none⟩ (.slice a1 n1 cp1)).ownsRow (w1.heap.size + 3) 5 1 (.slice a1 n1 cp1) n1 ((fl ++ [46]).map (Value.int .u8))) := by have := OW1.out; unfold Own at this; rw [HN1.out] at this; exact this
    clear st1 GP1 hn1
    gi_wp2_with (gi_at_builtin; refine in_append_string _ rfl (.tmp 42) (.const (.string ⟨#[13, 10]⟩)) 22 9 rfl (w1.heap.size + 3) 5 j0 Try.underlying22 Try.underlying9 hi hz0 hz1 hz2 _ n1 _ rfl ol1.out ⟨#[13, 10]⟩ rfl (by unfold maxLen; simp [ByteArray.size]; omega) (by simp [ByteArray.size]; omega) GR1S ?_)
    intro v2 x2 hown2 hgrow2
    have o2 : Own x2 (w1.heap.size + 3) v2 (fl ++ [46] ++ [13, 10]) := own_of hown2 (by have h2 := HN1.out; simp at h2 ⊢; omega) (by simp [sc1310])
    have st2 := app_step BX1.out (by omega) GR1S OW1.out hgrow2 o2
    have GP2 : Hid (Gr (w1.heap.size + 3) (w1.heap.size + 1) W x2) := GR1.out.trans st2.2.2.2.2
    have O2 : Hid (Own x2 (w1.heap.size + 3) v2 (fl ++ [46] ++ [13, 10])) := o2
    clear hown2 hgrow2 o2 st2
    gi_wp2
    have hK2 : x2.heap[D]? = some (.deferred (some [])) := GP2.out.same D _ (by omega) HK.out (.inr (by intro cs fr e; cases e))
    refine ⟨by simp, .inl ⟨_, _, rfl, run_takeDeferred hK2, ?_⟩⟩
    refine ⟨.tuple #[v2, .int .i64 0], by simp [results, Try.results9, go_sem], v2, rfl, ?_, ?_⟩
    · rw [HFR.out]
      exact ownsRow_putObj (own_base (by omega) O2.out) _ hK2 rfl
    · exact (HB2.out.trans (GP2.out.below (by omega) (by omega) HB2.out.size)).trans (belowK_b (w := w) (Nat.le_refl _) _ D _ _ (by omega) hK2 rfl rfl)
  case stop =>
    rintro D c pre W _ _ h _
    exact h.elim
end Go.Proofs.Ytlpbgfepneoajaa
