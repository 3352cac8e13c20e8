/-
  The contract of Right.
-/
import Derived.Test.YtlpbgfepneoajaaIter
import Derived.Scope
namespace Go.Proofs.Ytlpbgfepneoajaa
open Go.RowKit Go.Shelf
set_option linter.unusedVariables false
attribute [local go_sem] Oper.semAt_some

/-- A block of cells. -/
def Blk (W : World) (B : Nat) (cs : Array Value) (t : TypeId) : Prop := W.heap[B]? = some (.cells cs t (0, 0))
theorem Blk.lt {W : World} {B : Nat} {cs : Array Value} {t : TypeId} (h : Blk W B cs t) : B < W.heap.size := (Array.getElem?_eq_some_iff.1 h).1
theorem Blk.kept {W W' : World} {row : Option Nat} {B : Nat} {cs : Array Value} {t : TypeId} (h : Blk W B cs t) (hg : W.grownBy W' row) (hne : some B ≠ row) : Blk W' B cs t := (hg.block B h.lt hne).trans h
theorem Blk.alloc {W : World} {B : Nat} {cs : Array Value} {t : TypeId} (h : Blk W B cs t) (o : Obj) : Blk (W.alloc o) B cs t := (Below.heap_alloc W o B h.lt).trans h
theorem Blk.new (W : World) (cs : Array Value) (t : TypeId) : Blk (W.alloc (.cells cs t)) W.heap.size cs t := World.alloc_heap_new W _
theorem Blk.other {W : World} {B : Nat} {cs : Array Value} {t : TypeId} (h : Blk W B cs t) {g i : Nat} (hne : B ≠ g) (u : Value) : Blk (W.setCell ⟨g, i, none⟩ u) B cs t := (heap_setCell_other W ⟨g, i, none⟩ B u hne).trans h
theorem Blk.below {W W' : World} {B : Nat} {cs : Array Value} {t : TypeId} (h : Blk W B cs t) {n : Nat} (hb : Below n W W') (hn : B < n) : Blk W' B cs t := (hb.block B hn).trans h
theorem Blk.cell {W : World} {B : Nat} {cs : Array Value} {t : TypeId} (h : Blk W B cs t) (i : Nat) : W.cell? ⟨B, i, none⟩ = cs[i]? := cell_of_row W _ _ _ _ _ h
theorem Blk.frozen {W : World} {B : Nat} {cs : Array Value} {t : TypeId} (h : Blk W B cs t) (i : Nat) : W.frozen? ⟨B, i, none⟩ = false := frozen_of_row W _ _ _ _ h
theorem blk_own {β : Type} (B : Nat) (t : TypeId) (f : β → Array Value) : Go.Own (fun s W => Blk W B (f s) t) := fun s X Y row hs hg hrow =>
  hs.kept hg (fun e' => by obtain ⟨o, ho, hc⟩ := hrow B e'.symm; rw [show X.heap[B]? = _ from hs] at ho; cases ho; cases hc)
theorem Qt.blk {W W' : World} (h : Qt W W') {B : Nat} {cs : Array Value} {t : TypeId} (k : Blk W B cs t) : Blk W' B cs t := by obtain ⟨q, rfl⟩ := h; exact k

theorem scope_wide {n : Nat} {P : Program} {Q : Exit → Act → World → Prop} {a : Act} {w : World} {c : Code} (h : c.wpIn Fence.wide n P (Exit.noGoto Q) a w) : (Code.scope c).wpIn Fence.wide n P Q a w :=
  wpIn_wide.2 (wp_scope_straight (wpIn_wide.1 h))

theorem bareAt_range : ∀ (l : List Int) (k : Nat), bareAt k l = -1 ∨ ((k : Int) ≤ bareAt k l ∧ bareAt k l < k + l.length)
  | [], k => .inl rfl
  | c :: l, k => by
    unfold bareAt
    by_cases h : c = 13 ∨ c = 10
    · rw [if_pos h]; right; simp; omega
    · rw [if_neg h]
      rcases bareAt_range l (k + 1) with h1 | h1
      · exact .inl h1
      · right; simp only [List.length_cons]; omega

/-- What is wrong with a line. -/
def faultL (zs : List Int) (x : Nat × Nat × Bool) : Option (Int × Int) :=
  if 0 ≤ bareAt 0 ((zs.drop x.1).take x.2.1) then some ((x.1 : Int) + bareAt 0 ((zs.drop x.1).take x.2.1), 41)
  else if 998 < x.2.1 then some ((x.1 : Int), 40)
  else if x.2.2 = false then some ((zs.length : Int), 42) else none
/-- What is wrong with a text. -/
def rightZ (zs : List Int) : Int × Int := ((linesZ 0 zs).findSome? (faultL zs)).getD (0, 0)

theorem right_all {zs : List Int} (h : ∀ x ∈ linesZ 0 zs, faultL zs x = none) : rightZ zs = (0, 0) := by
  have : (linesZ 0 zs).findSome? (faultL zs) = none := by rw [List.findSome?_eq_none_iff]; exact h
  rw [rightZ, this]; rfl
theorem right_one {zs : List Int} {pre : List (Nat × Nat × Bool)} {x : Nat × Nat × Bool} {r : Int × Int} (hp : pre ++ [x] <+: linesZ 0 zs) (h : ∀ y ∈ pre, faultL zs y = none) (hx : faultL zs x = some r) : rightZ zs = r := by
  obtain ⟨t, ht⟩ := hp
  have : (linesZ 0 zs).findSome? (faultL zs) = some r := by
    rw [← ht, List.findSome?_append, List.findSome?_append, List.findSome?_eq_none_iff.2 h]
    simp [hx]
  rw [rightZ, this]; rfl

set_option maxRecDepth 100000 in
set_option maxHeartbeats 4000000 in
theorem right_any (a : Option Addr) (len cap : Nat) (zs : List Int) (w : World) (hlen : zs.length = len) (hcap : len ≤ cap) (hnil : a = none → cap = 0) (hbig : len ≤ 1000000) (hz : Byt zs) (hr : Row w a zs) (hm : Mx w) :
    Calls Try.prog 11 #[.slice a len cap] w fun e w' => e = .returned (.agg #[.int .i64 (rightZ zs).1, .int .i64 (rightZ zs).2]) ∧ Below w.heap.size w w' := by
  refine (callsIn_wide (n := 20)).1 ?_
  refine callsIn_of_wp_marks Try.func11 rfl trivial ?_ rfl
  simp only [Try.ntmps11, List.size_toArray, List.length_cons, List.length_nil, Nat.reduceAdd, Nat.reduceSub, Array.replicate_succ, Array.replicate_zero, List.push_toArray, List.append_toArray, List.nil_append, List.cons_append]
  gi_wp2_with (refine ⟨trivial, ?_⟩; gi_at_call 19; refine (lines_in _ _ _ _ _).mono ?_; rintro e w' ⟨rfl, rfl⟩)
  refine scope_wide ?_
  gi_wp2_with fail
  refine wpIn_label ?_
  gi_wp2_with (refine ⟨trivial, ?_⟩; gi_at_call 19; refine (lines_in _ _ _ _ _).mono ?_; rintro e w' ⟨rfl, rfl⟩)
  obtain ⟨b, off, ha⟩ : ∃ b off, (zs ≠ [] → a = some ⟨b, off, none⟩) := by
    rcases hr with rfl | ⟨b, off, rfl, _⟩
    · exact ⟨0, 0, fun h => absurd rfl h⟩
    · exact ⟨b, off, fun _ => rfl⟩
  have hB0 : Below w.heap.size w ((((w.alloc (.cells #[.slice a len cap] 22)).alloc (.cells #[.int .i64 0, .int .i64 0] 28)).alloc (.cells #[.int .i64 0, .int .i64 0] 28)).alloc (.cells #[.slice a len cap] 22)) := ((((Below.refl _ w).alloc (Nat.le_refl _) _).alloc (by simp) _).alloc (by simp; omega) _).alloc (by simp; omega) _
  have k0 := (((Blk.new w #[.slice a len cap] 22).alloc (.cells #[.int .i64 0, .int .i64 0] 28)).alloc (.cells #[.int .i64 0, .int .i64 0] 28)).alloc (.cells #[.slice a len cap] 22)
  have k1 := ((Blk.new (w.alloc (.cells #[.slice a len cap] 22)) #[.int .i64 0, .int .i64 0] 28).alloc (.cells #[.int .i64 0, .int .i64 0] 28)).alloc (.cells #[.slice a len cap] 22)
  have k2 := (Blk.new ((w.alloc (.cells #[.slice a len cap] 22)).alloc (.cells #[.int .i64 0, .int .i64 0] 28)) #[.int .i64 0, .int .i64 0] 28).alloc (.cells #[.slice a len cap] 22)
  have k3 := Blk.new (((w.alloc (.cells #[.slice a len cap] 22)).alloc (.cells #[.int .i64 0, .int .i64 0] 28)).alloc (.cells #[.int .i64 0, .int .i64 0] 28)) #[.slice a len cap] 22
  simp only [World.size_alloc] at k1 k2 k3
  have hsz : ((((w.alloc (.cells #[.slice a len cap] 22)).alloc (.cells #[.int .i64 0, .int .i64 0] 28)).alloc (.cells #[.int .i64 0, .int .i64 0] 28)).alloc (.cells #[.slice a len cap] 22)).heap.size = w.heap.size + 4 := by simp
  obtain ⟨W0, hW0⟩ : ∃ W0, (((w.alloc (.cells #[.slice a len cap] 22)).alloc (.cells #[.int .i64 0, .int .i64 0] 28)).alloc (.cells #[.int .i64 0, .int .i64 0] 28)).alloc (.cells #[.slice a len cap] 22) = W0 := ⟨_, rfl⟩
  rw [hW0] at k0 k1 k2 k3 hB0 hsz ⊢
  clear hW0
  have hpos := hm.pos
  refine wpIn_rangeFunc_ownH rfl (by omega) (gf := 28) (lb := #[.pointer (some ⟨w.heap.size + 1 + 1 + 1, 0, none⟩)]) rfl trivial (enters_of Try.func28 (by kernel_rfl) rfl)
    (lines_stops 19 (by omega) (w.heap.size + 1 + 1 + 1) w.heap.size b off len cap a zs hlen hcap hnil hbig hz ha hpos W0 (by omega) (k3.cell 0) (fun W' h => row_below hr (hB0.trans h)) (hm.keep hB0)) Kl.t
    (fun W l o o' hl ho _ _ => ⟨(Below.refl _ W).grown (grownBy_putObj' W l o') (by have := (Array.getElem?_eq_some_iff.1 ho).1; omega) (fun k e => by cases e; omega), World.putObj_heap_other (by omega)⟩)
    (Below.refl _ _) (fun _ => rfl)
    (fun pre W => ((((Blk W w.heap.size #[.slice a len cap] 22 ∧ Blk W (w.heap.size + 1 + 1 + 1) #[.slice a len cap] 22) ∧ Blk W (w.heap.size + 1) #[.int .i64 0, .int .i64 0] 28) ∧ Blk W (w.heap.size + 1 + 1) #[.int .i64 0, .int .i64 0] 28) ∧ (∀ x ∈ pre, faultL zs x.1 = none)) ∧ Below w.heap.size w W)
    (fun c pre W => ((c = .exit 0 ∧ Blk W (w.heap.size + 1) #[.int .i64 0, .int .i64 0] 28) ∧ ∃ r : Int × Int, Blk W (w.heap.size + 1 + 1) #[.int .i64 r.1, .int .i64 r.2] 28 ∧ (∃ pre' x, pre = pre' ++ [x] ∧ (∀ y ∈ pre', faultL zs y.1 = none) ∧ faultL zs x.1 = some r)) ∧ Below w.heap.size w W)
    (OwnFrom.and (OwnFrom.and (OwnFrom.and (OwnFrom.and (OwnFrom.and (Go.Own.from (blk_own _ _ _) _) (Go.Own.from (blk_own _ _ _) _)) (Go.Own.from (blk_own _ _ _) _)) (Go.Own.from (blk_own _ _ _) _)) (ownFrom_pure _ _)) (ownFrom_below (Nat.le_refl _) (by omega)))
    (fun c => OwnFrom.and (OwnFrom.and (OwnFrom.and (ownFrom_pure _ _) (Go.Own.from (blk_own _ _ _) _)) (fun s X Y row hs hg hrow => by
      obtain ⟨r, h1, h2⟩ := hs
      exact ⟨r, blk_own (w.heap.size + 1 + 1) 28 (fun (_ : Unit) => #[Value.int .i64 r.1, Value.int .i64 r.2]) () X Y row h1 hg (fun q e => (hrow q e).2), h2⟩)) (ownFrom_below (Nat.le_refl _) (by omega)))
    ⟨⟨⟨⟨⟨k0, k3⟩, k1⟩, k2⟩, by simp⟩, hB0⟩
    (fun x a' W => ∃ Bx, w.heap.size + 1 + 1 + 1 < Bx ∧ Blk W Bx #[.slice (some ⟨b, off + x.1.1, none⟩) x.1.2.1 (cap - x.1.1), .bool x.1.2.2] 51 ∧ a' = { tmps := #[.slice a len cap, .pointer (some ⟨w.heap.size, 0, none⟩), .pointer (some ⟨w.heap.size + 1, 0, none⟩), .pointer (some ⟨w.heap.size + 1 + 1, 0, none⟩), .int .i64 (x.1.1 : Nat), .pointer (some ⟨Bx, 0, none⟩), undef, .slice a len cap, .func (.func 28) #[] #[.pointer (some ⟨w.heap.size + 1 + 1 + 1, 0, none⟩)], .int .i64 (x.1.1 : Nat), .agg #[.slice (some ⟨b, off + x.1.1, none⟩) x.1.2.1 (cap - x.1.1), .bool x.1.2.2], undef, undef, undef, undef, undef, undef, undef, undef, undef, undef, undef, undef, undef, undef, undef, undef, undef, undef, undef, undef, undef, undef, undef, undef, undef], defers := [] })
    (fun x a' _ X Y row hs hg hrow => by
      obtain ⟨Bx, h1, h2, h3⟩ := hs
      exact ⟨Bx, h1, blk_own Bx 51 (fun (_ : Unit) => #[Value.slice (some ⟨b, off + x.1.1, none⟩) x.1.2.1 (cap - x.1.1), Value.bool x.1.2.2]) () X Y row h2 hg (fun q e => (hrow q e).2), h3⟩)
    ?assign ?body ?done ?stop
  case assign =>
    rintro l pre ⟨⟨p, n, ended⟩, hx1, hx2⟩ W K ⟨⟨⟨⟨⟨j0, j3⟩, j1⟩, j2⟩, hpre⟩, hB1⟩ hK
    simp only at hx1 hx2
    have hs1 := j3.lt
    have hs2 := hB1.size
    simp only [encL]
    gi_wp2
    exact hK _ _ ((KeepsOthers.alloc _ _).from _) ⟨(Below.refl _ W).alloc (by omega) _, Below.heap_alloc W _ _ hs1⟩ ⟨⟨⟨⟨⟨j0.alloc _, j3.alloc _⟩, j1.alloc _⟩, j2.alloc _⟩, hpre⟩, hB1.alloc hs2 _⟩ ⟨W.heap.size, hs1, Blk.new W _ 51, rfl⟩
  case body =>
    rintro l pre ⟨⟨p, n, ended⟩, hx1, hx2⟩ a' W hl ⟨rr, hrr⟩ ⟨⟨⟨⟨⟨j0, j3⟩, j1⟩, j2⟩, hpre⟩, hB1⟩ ⟨Bx, hBx, bX, rfl⟩ hlt
    simp only at hx1 hx2 bX ⊢
    have c0 := bX.cell 0
    have c1 := bX.cell 1
    have d0 := j0.cell 0
    have e0 := j2.cell 0
    have e1 := j2.cell 1
    have f0 := j2.frozen 0
    have f1 := j2.frozen 1
    simp only [List.getElem?_toArray, List.getElem?_cons_zero, List.getElem?_cons_succ] at c0 c1 d0 e0 e1
    have hne : zs ≠ [] := by rintro rfl; simp at hlen; omega
    obtain rfl := ha hne
    have hrow : Row W (some ⟨b, off + p, none⟩) ((zs.drop p).take n) := by
      have h := row_take n (row_drop (n := p) (cap := cap) (row_below hr hB1) (by omega))
      rw [if_neg (by omega)] at h
      simp only [Option.map_some, add_plain] at h
      exact h
    have hpl : ((zs.drop p).take n).length = n := by simp; omega
    obtain ⟨q, hq⟩ : ∃ q, bareAt 0 ((zs.drop p).take n) = q := ⟨_, rfl⟩
    have hbr : -1 ≤ q ∧ q < 2000000 := by have := bareAt_range ((zs.drop p).take n) 0; rw [hq, hpl] at this; omega
    have hidx := CallsIn.inRound l ((callsIn_wide (n := 17)).2 (indexFunc_any (some ⟨b, off + p, none⟩) n (cap - p) _ W hpl hrow (by omega)))
    rw [hq] at hidx
    have HQ : Hid (bareAt 0 ((zs.drop p).take n) = q) := hq
    have HP : Hid (∀ x ∈ pre, faultL zs x.1 = none) := hpre
    have H2 : Hid (Blk W (w.heap.size + 1 + 1) #[.int .i64 0, .int .i64 0] 28) := j2
    have H1 : Hid ((Blk W w.heap.size #[.slice (some ⟨b, off, none⟩) len cap] 22 ∧ Blk W (w.heap.size + 1 + 1 + 1) #[.slice (some ⟨b, off, none⟩) len cap] 22) ∧ Blk W (w.heap.size + 1) #[.int .i64 0, .int .i64 0] 28) := ⟨⟨j0, j3⟩, j1⟩
    have HB1 : Hid (Below w.heap.size w W) := hB1
    have HLEN : Hid (zs.length = len) := hlen
    have hsW : w.heap.size + 4 ≤ W.heap.size := by have := j3.lt; omega
    clear j0 j1 j2 j3 hpre hB1 hq hrow hpl hB0 k0 k1 k2 k3 hr hm hrr bX hlen
    have leave : ∀ x y : Int, KeepsFrom W0.heap.size W ((W.setCell ⟨w.heap.size + 1 + 1, 0, none⟩ (.int .i64 x)).setCell ⟨w.heap.size + 1 + 1, 1, none⟩ (.int .i64 y)) ∧ (Blk ((W.setCell ⟨w.heap.size + 1 + 1, 0, none⟩ (.int .i64 x)).setCell ⟨w.heap.size + 1 + 1, 1, none⟩ (.int .i64 y)) (w.heap.size + 1) #[.int .i64 0, .int .i64 0] 28) ∧ Blk ((W.setCell ⟨w.heap.size + 1 + 1, 0, none⟩ (.int .i64 x)).setCell ⟨w.heap.size + 1 + 1, 1, none⟩ (.int .i64 y)) (w.heap.size + 1 + 1) #[.int .i64 x, .int .i64 y] 28 ∧ Below w.heap.size w ((W.setCell ⟨w.heap.size + 1 + 1, 0, none⟩ (.int .i64 x)).setCell ⟨w.heap.size + 1 + 1, 1, none⟩ (.int .i64 y)) := fun x y =>
      ⟨((KeepsOthers.setCell _ _ _).trans (KeepsOthers.setCell _ _ _)).from _, (H1.out.2.other (by omega) _).other (by omega) _, heap_setCell_same _ _ 1 #[.int .i64 x, .int .i64 0] 28 _ (heap_setCell_same W _ 0 #[.int .i64 0, .int .i64 0] 28 _ H2.out), (HB1.out.setCell (p := ⟨w.heap.size + 1 + 1, 0, none⟩) (by simp; omega) _).setCell (p := ⟨w.heap.size + 1 + 1, 1, none⟩) (by simp; omega) _⟩
    have HLV : Hid _ := leave
    clear leave
    by_cases hq0 : 0 ≤ q
    · have hd : decide (q ≥ 0) = true := by simpa using hq0
      gi_wp2_with (refine ⟨trivial, ?_⟩; gi_at_call 20; refine hidx.mono ?_; rintro e w' ⟨rfl, rfl⟩)
      obtain ⟨v1, v2, v3, v4⟩ := HLV.out ((p : Int) + q) 41
      exact ⟨v1, ⟨⟨rfl, v2⟩, ((p : Int) + q, 41), v3, pre, _, rfl, HP.out, by simp only [faultL]; rw [HQ.out, if_pos hq0]⟩, v4⟩
    · have hd : decide (q ≥ 0) = false := by simpa using hq0
      by_cases hn : 998 < n
      · have hd2 : decide ((n : Int) > 998) = true := by simp; omega
        gi_wp2_with (refine ⟨trivial, ?_⟩; gi_at_call 20; refine hidx.mono ?_; rintro e w' ⟨rfl, rfl⟩)
        obtain ⟨v1, v2, v3, v4⟩ := HLV.out (p : Int) 40
        exact ⟨v1, ⟨⟨rfl, v2⟩, ((p : Int), 40), v3, pre, _, rfl, HP.out, by simp only [faultL]; rw [HQ.out, if_neg (show ¬ 0 ≤ q by omega), if_pos (show 998 < n by omega)]⟩, v4⟩
      · have hd2 : decide ((n : Int) > 998) = false := by simp; omega
        cases ended with
        | false =>
          gi_wp2_with (refine ⟨trivial, ?_⟩; gi_at_call 20; refine hidx.mono ?_; rintro e w' ⟨rfl, rfl⟩)
          obtain ⟨v1, v2, v3, v4⟩ := HLV.out (len : Int) 42
          exact ⟨v1, ⟨⟨rfl, v2⟩, ((len : Int), 42), v3, pre, _, rfl, HP.out, by simp only [faultL]; rw [HQ.out, if_neg (show ¬ 0 ≤ q by omega), if_neg (show ¬ 998 < n by omega), if_pos trivial, HLEN.out]⟩, v4⟩
        | true =>
          gi_wp2_with (refine ⟨trivial, ?_⟩; gi_at_call 20; refine hidx.mono ?_; rintro e w' ⟨rfl, rfl⟩)
          refine ⟨KeepsFrom.refl _ _, Kl.refl _ _ _, ⟨⟨H1.out, H2.out⟩, ?_⟩, HB1.out⟩
          intro x hx
          rcases List.mem_append.1 hx with h | h
          · exact HP.out x h
          · obtain rfl : x = _ := by simpa using h
            simp only [faultL]
            rw [HQ.out, if_neg (show ¬ 0 ≤ q by omega), if_neg (show ¬ 998 < n by omega)]; simp
  case done =>
    rintro D ys W hD hS ⟨⟨⟨⟨⟨j0, j3⟩, j1⟩, j2⟩, hpre⟩, hB1⟩ hK
    have e0 := j2.cell 0
    have e1 := j2.cell 1
    have g0 := j1.cell 0
    have g1 := j1.cell 1
    have f0 := j1.frozen 0
    have f1 := j1.frozen 1
    simp only [List.getElem?_toArray, List.getElem?_cons_zero, List.getElem?_cons_succ] at e0 e1 g0 g1
    have HS : Hid (rightZ zs = (0, 0)) := right_all (fun x hx => by rw [← hS] at hx; obtain ⟨y, hy, rfl⟩ := List.mem_map.1 hx; exact hpre y hy)
    gi_wp2
    have hW : Blk ((W.setCell ⟨w.heap.size + 1, 0, none⟩ (.int .i64 0)).setCell ⟨w.heap.size + 1, 1, none⟩ (.int .i64 0)) (w.heap.size + 1) #[.int .i64 0, .int .i64 0] 28 := heap_setCell_same _ _ 1 #[.int .i64 0, .int .i64 0] 28 _ (heap_setCell_same W _ 0 #[.int .i64 0, .int .i64 0] 28 _ j1)
    have hK2 : ((W.setCell ⟨w.heap.size + 1, 0, none⟩ (.int .i64 0)).setCell ⟨w.heap.size + 1, 1, none⟩ (.int .i64 0)).heap[D]? = some (.deferred (some [])) := (heap_setCell_other _ _ _ _ (by simp; omega)).trans ((heap_setCell_other _ _ _ _ (by simp; omega)).trans hK)
    have hW2 : Blk (((W.setCell ⟨w.heap.size + 1, 0, none⟩ (.int .i64 0)).setCell ⟨w.heap.size + 1, 1, none⟩ (.int .i64 0)).putObj D (.deferred none)) (w.heap.size + 1) #[.int .i64 0, .int .i64 0] 28 := (World.putObj_heap_other (by omega)).trans hW
    have c0 := hW2.cell 0
    have c1 := hW2.cell 1
    simp only [List.getElem?_toArray, List.getElem?_cons_zero, List.getElem?_cons_succ] at c0 c1
    refine ⟨by simp, .inl ⟨_, _, rfl, run_takeDeferred hK2, ?_⟩⟩
    refine ⟨.agg #[.int .i64 0, .int .i64 0], by simp [results, Try.results11, go_sem, c0, c1], by rw [HS.out], ?_⟩
    exact ((hB1.setCell (p := ⟨w.heap.size + 1, 0, none⟩) (by simp) _).setCell (p := ⟨w.heap.size + 1, 1, none⟩) (by simp) _).trans (belowK_b (w := w) (Nat.le_refl _) _ D _ _ (by omega) hK2 rfl rfl)
  case stop =>
    rintro D c pre W hD hS ⟨⟨⟨rfl, j1⟩, r, j2, pre', x, rfl, hpre, hx⟩, hB1⟩ hK
    have e0 := j2.cell 0
    have e1 := j2.cell 1
    have g0 := j1.cell 0
    have g1 := j1.cell 1
    have f0 := j1.frozen 0
    have f1 := j1.frozen 1
    simp only [List.getElem?_toArray, List.getElem?_cons_zero, List.getElem?_cons_succ] at e0 e1 g0 g1
    have HS : Hid (rightZ zs = r) := right_one (pre := pre'.map (fun x => x.1)) (x := x.1) (by simpa using hS) (fun y hy => by obtain ⟨z, hz, rfl⟩ := List.mem_map.1 hy; exact hpre z hz) hx
    gi_wp2
    have hW : Blk ((W.setCell ⟨w.heap.size + 1, 0, none⟩ (.int .i64 r.1)).setCell ⟨w.heap.size + 1, 1, none⟩ (.int .i64 r.2)) (w.heap.size + 1) #[.int .i64 r.1, .int .i64 r.2] 28 := heap_setCell_same _ _ 1 #[.int .i64 r.1, .int .i64 0] 28 _ (heap_setCell_same W _ 0 #[.int .i64 0, .int .i64 0] 28 _ j1)
    have hK2 : ((W.setCell ⟨w.heap.size + 1, 0, none⟩ (.int .i64 r.1)).setCell ⟨w.heap.size + 1, 1, none⟩ (.int .i64 r.2)).heap[D]? = some (.deferred (some [])) := (heap_setCell_other _ _ _ _ (by simp; omega)).trans ((heap_setCell_other _ _ _ _ (by simp; omega)).trans hK)
    have hW2 : Blk (((W.setCell ⟨w.heap.size + 1, 0, none⟩ (.int .i64 r.1)).setCell ⟨w.heap.size + 1, 1, none⟩ (.int .i64 r.2)).putObj D (.deferred none)) (w.heap.size + 1) #[.int .i64 r.1, .int .i64 r.2] 28 := (World.putObj_heap_other (by omega)).trans hW
    have c0 := hW2.cell 0
    have c1 := hW2.cell 1
    simp only [List.getElem?_toArray, List.getElem?_cons_zero, List.getElem?_cons_succ] at c0 c1
    refine ⟨by simp, .inl ⟨_, _, rfl, run_takeDeferred hK2, ?_⟩⟩
    refine ⟨.agg #[.int .i64 r.1, .int .i64 r.2], by simp [results, Try.results11, go_sem, c0, c1], by rw [HS.out], ?_⟩
    exact ((hB1.setCell (p := ⟨w.heap.size + 1, 0, none⟩) (by simp) _).setCell (p := ⟨w.heap.size + 1, 1, none⟩) (by simp) _).trans (belowK_b (w := w) (Nat.le_refl _) _ D _ _ (by omega) hK2 rfl rfl)
end Go.Proofs.Ytlpbgfepneoajaa
