/-
  The contract of Parse.
-/
import Derived.Test.YtmdkmedlncfcbaaGreatDoorPmath
import Derived.Scope
import Derived.BigRegionIn
namespace Go.Proofs.YtmdkmedlncfcbaaGreatDoor
open Go.RowKit
set_option linter.unusedVariables false
attribute [local go_sem] Oper.semAt_some

def outC (zs : List Int) : Int := (parseZ zs).2.2.2
def outP (zs : List Int) : Int := if outC zs = 0 then 0 else (parseZ zs).2.2.1
def outN (zs : List Int) : Int := if outC zs = 0 then (parseZ zs).2.1 else 0
def outL (zs : List Int) : List (ByteArray × ByteArray) := if outC zs = 0 then (parseZ zs).1.fs else []

theorem Hd.set3 {w : World} {B g : Nat} {s : HS} {f o : Nat} {u : Value} {cs : Array Value} {k : Nat × Nat} (h : Hd w B g s) (hf : w.heap[f]? = some (.cells cs 3 k)) : Hd (w.setCell ⟨f, o, none⟩ u) B g s := by
  obtain ⟨h1, h2, vf, v, h3, h4, h5⟩ := h
  refine ⟨h1, Nat.le_trans h2 (size_setCell _ _ _), vf, v, ?_, ownsRow_type hf (by decide) h4, ownsRow_type hf (by decide) h5⟩
  rw [heap_setCell_other _ _ _ _ ?_]
  · exact h3
  · intro q
    simp only at q
    subst q
    rw [hf] at h3
    simp at h3
/-- What Parse has so far. -/
def PJ (zs : List Int) (B g k : Nat) (pre : List (Nat × Nat × Bool)) (W : World) : Prop := ∃ s, runL zs hs0 pre = some s ∧ OkS k s ∧ Hd W B g s
def PX (zs : List Int) (B g f n : Nat) (pre : List (Nat × Nat × Bool)) (W : World) : Prop := ∃ (pre' : List (Nat × Nat × Bool)) (x : Nat × Nat × Bool) (s : HS), pre = pre' ++ [x] ∧ runL zs hs0 pre' = some s ∧ stepR zs s x = none ∧ Hd W B g (stopS zs s x) ∧
  Blk W f #[.int .i64 (stopF zs s x).1, .int .i64 (stopF zs s x).2] 55 ∧ Blk W n #[.int .i64 (stopN x)] 3
theorem pj_own {X Y : World} {zs : List Int} {B g k : Nat} {pre : List (Nat × Nat × Bool)} {row : Option Nat} (h : PJ zs B g k pre X) (hg : X.grownBy Y row) (hrow : ∀ r, row = some r → ∃ o : Obj, X.heap[r]? = some o ∧ o.isCells = false) : PJ zs B g k pre Y := by
  obtain ⟨s, h1, h2, h3⟩ := h
  exact ⟨s, h1, h2, hd_own h3 hg hrow⟩
theorem px_own {X Y : World} {zs : List Int} {B g f n : Nat} {pre : List (Nat × Nat × Bool)} {row : Option Nat} (h : PX zs B g f n pre X) (hg : X.grownBy Y row) (hrow : ∀ r, row = some r → ∃ o : Obj, X.heap[r]? = some o ∧ o.isCells = false) : PX zs B g f n pre Y := by
  obtain ⟨pre', x, s, h1, h2, h3, h4, h5, h6⟩ := h
  exact ⟨pre', x, s, h1, h2, h3, hd_own h4 hg hrow, blk_own f 55 (fun (_ : Unit) => #[Value.int .i64 (stopF zs s x).1, Value.int .i64 (stopF zs s x).2]) () X Y row h5 hg hrow, blk_own n 3 (fun (_ : Unit) => #[Value.int .i64 (stopN x)]) () X Y row h6 hg hrow⟩

set_option maxRecDepth 100000 in
set_option maxHeartbeats 4000000 in
theorem parse_any (a : Option Addr) (len cap : Nat) (zs : List Int) (w : World) (hlen : zs.length = len) (hcap : len ≤ cap) (hmc : cap ≤ 9223372036854775807) (hnil : a = none → cap = 0) (hbig : len ≤ 2000000) (hz : Byt zs) (hr : Row w a zs) (hm : Mx w) :
    Calls Tryz.prog 30 #[.slice a len cap] w fun e w' => ∃ vf, e = .returned (.tuple #[vf, .int .i64 (outN zs), faultV (outP zs) (outC zs)]) ∧ OwnF w' w.heap.size vf (outL zs) ∧ Below w.heap.size w w' := by
  refine (callsIn_wide (n := 20)).1 ?_
  refine callsIn_of_wp_marks Tryz.func30 rfl trivial ?_ rfl
  simp only [Tryz.ntmps30, List.size_toArray, List.length_cons, List.length_nil, Nat.reduceAdd, Nat.reduceSub, Array.replicate_succ, Array.replicate_zero, List.push_toArray, List.append_toArray, List.nil_append, List.cons_append]
  gi_wp2_with (refine ⟨trivial, ?_⟩; gi_at_call 62; refine (lines_in _ _ _ _ _).mono ?_; rintro e w' ⟨rfl, rfl⟩)
  refine scope_wide ?_
  gi_wp2_with fail
  refine wpIn_label ?_
  gi_wp2_with (refine ⟨trivial, ?_⟩; gi_at_call 62; refine (lines_in _ _ _ _ _).mono ?_; rintro e w' ⟨rfl, rfl⟩)
  have hpos := hm.pos
  obtain ⟨o1, ho1⟩ : ∃ o : Obj, Obj.cells #[Value.int .i64 0, Value.int .i64 0] 55 = o := ⟨_, rfl⟩
  have hB0 : Below w.heap.size w (((((w.alloc (.cells #[.int .i64 0, .int .i64 0] 55)).alloc (.cells #[.slice none 0 0, .string ⟨#[]⟩, .slice none 0 0, .int .i64 0] 95)).alloc (.cells #[.int .i64 0, .int .i64 0] 55)).alloc (.cells #[.int .i64 0] 3)).alloc (.cells #[.slice a len cap] 22)) := (((((Below.refl _ w).alloc (Nat.le_refl _) _).alloc (by simp) _).alloc (by simp; omega) _).alloc (by simp; omega) _).alloc (by simp; omega) _
  have k0 := ((((Blk.new w #[.int .i64 0, .int .i64 0] 55).alloc (.cells #[.slice none 0 0, .string ⟨#[]⟩, .slice none 0 0, .int .i64 0] 95)).alloc (.cells #[.int .i64 0, .int .i64 0] 55)).alloc (.cells #[.int .i64 0] 3)).alloc (.cells #[.slice a len cap] 22)
  have k1 := (((Blk.new (w.alloc (.cells #[.int .i64 0, .int .i64 0] 55)) #[.slice none 0 0, .string ⟨#[]⟩, .slice none 0 0, .int .i64 0] 95).alloc (.cells #[.int .i64 0, .int .i64 0] 55)).alloc (.cells #[.int .i64 0] 3)).alloc (.cells #[.slice a len cap] 22)
  have k2 := ((Blk.new ((w.alloc (.cells #[.int .i64 0, .int .i64 0] 55)).alloc (.cells #[.slice none 0 0, .string ⟨#[]⟩, .slice none 0 0, .int .i64 0] 95)) #[.int .i64 0, .int .i64 0] 55).alloc (.cells #[.int .i64 0] 3)).alloc (.cells #[.slice a len cap] 22)
  have k3 := (Blk.new (((w.alloc (.cells #[.int .i64 0, .int .i64 0] 55)).alloc (.cells #[.slice none 0 0, .string ⟨#[]⟩, .slice none 0 0, .int .i64 0] 95)).alloc (.cells #[.int .i64 0, .int .i64 0] 55)) #[.int .i64 0] 3).alloc (.cells #[.slice a len cap] 22)
  have k4 := Blk.new ((((w.alloc (.cells #[.int .i64 0, .int .i64 0] 55)).alloc (.cells #[.slice none 0 0, .string ⟨#[]⟩, .slice none 0 0, .int .i64 0] 95)).alloc (.cells #[.int .i64 0, .int .i64 0] 55)).alloc (.cells #[.int .i64 0] 3)) #[.slice a len cap] 22
  simp only [World.size_alloc] at k1 k2 k3 k4
  have hsz : (((((w.alloc (.cells #[.int .i64 0, .int .i64 0] 55)).alloc (.cells #[.slice none 0 0, .string ⟨#[]⟩, .slice none 0 0, .int .i64 0] 95)).alloc (.cells #[.int .i64 0, .int .i64 0] 55)).alloc (.cells #[.int .i64 0] 3)).alloc (.cells #[.slice a len cap] 22)).heap.size = w.heap.size + 5 := by simp
  obtain ⟨W0, hW0⟩ : ∃ W0, ((((w.alloc (.cells #[.int .i64 0, .int .i64 0] 55)).alloc (.cells #[.slice none 0 0, .string ⟨#[]⟩, .slice none 0 0, .int .i64 0] 95)).alloc (.cells #[.int .i64 0, .int .i64 0] 55)).alloc (.cells #[.int .i64 0] 3)).alloc (.cells #[.slice a len cap] 22) = W0 := ⟨_, rfl⟩
  rw [hW0] at k0 k1 k2 k3 k4 hB0 hsz ⊢
  clear hW0 ho1 o1
  have hN : 2 * (linesF 0 zs).length ≤ len + 2 := by have := linesF_len zs.length 0 zs (Nat.le_refl _); omega
  refine wpIn_rangeFunc_ownH rfl (by omega) (gf := 106) (lb := #[.pointer (some ⟨w.heap.size + 1 + 1 + 1 + 1, 0, none⟩)]) rfl trivial (enters_of Tryz.func106 (by kernel_rfl) rfl)
    (lines_stops 19 (by omega) (w.heap.size + 1 + 1 + 1 + 1) w.heap.size len cap a zs hlen hcap hmc hnil hbig hz hpos W0 (by omega) (k4.cell 0) (fun W' h => row_below hr (hB0.trans h)) (hm.keep hB0)) Kl.t
    (fun W l o o' hl ho _ _ => ⟨(Below.refl _ W).grown (grownBy_putObj' W l o') (by have := (Array.getElem?_eq_some_iff.1 ho).1; omega) (fun k e => by cases e; omega), World.putObj_heap_other (by omega)⟩)
    (Below.refl _ _) (fun _ => rfl)
    (fun (pre : List (Ln len)) W => ((((Blk W w.heap.size #[.int .i64 0, .int .i64 0] 55 ∧ Blk W (w.heap.size + 1 + 1 + 1 + 1) #[.slice a len cap] 22) ∧ Blk W (w.heap.size + 1 + 1) #[.int .i64 0, .int .i64 0] 55) ∧ Blk W (w.heap.size + 1 + 1 + 1) #[.int .i64 0] 3) ∧ PJ zs (w.heap.size + 5) (w.heap.size + 1) pre.length (pre.map (fun x : Ln len => x.1)) W) ∧ Below w.heap.size w W)
    (fun c (pre : List (Ln len)) W => ((c = .exit 0 ∧ Blk W w.heap.size #[.int .i64 0, .int .i64 0] 55) ∧ PX zs (w.heap.size + 5) (w.heap.size + 1) (w.heap.size + 1 + 1) (w.heap.size + 1 + 1 + 1) (pre.map (fun x : Ln len => x.1)) W) ∧ Below w.heap.size w W)
    (OwnFrom.and (OwnFrom.and (OwnFrom.and (OwnFrom.and (OwnFrom.and (Go.Own.from (blk_own _ _ _) _) (Go.Own.from (blk_own _ _ _) _)) (Go.Own.from (blk_own _ _ _) _)) (Go.Own.from (blk_own _ _ _) _)) (fun (s : List (Ln len)) X Y row hs hg hrow => pj_own hs hg (fun q e => (hrow q e).2))) (ownFrom_below (Nat.le_refl _) (by omega)))
    (fun c => OwnFrom.and (OwnFrom.and (OwnFrom.and (ownFrom_pure _ _) (Go.Own.from (blk_own _ _ _) _)) (fun (s : List (Ln len)) X Y row hs hg hrow => px_own hs hg (fun q e => (hrow q e).2))) (ownFrom_below (Nat.le_refl _) (by omega)))
    ⟨⟨⟨⟨⟨k0, k4⟩, k2⟩, k3⟩, ⟨hs0, rfl, ok0, by omega, by omega, .slice none 0 0, .slice none 0 0, k1, World.ownsRow_nil _ _ _ _, World.ownsRow_nil _ _ _ _⟩⟩, hB0⟩
    (fun x a' W => ∃ Bx, w.heap.size + 1 + 1 + 1 + 1 < Bx ∧ Blk W Bx #[.slice (dropA a cap x.1.1) x.1.2.1 (cap - x.1.1), .bool x.1.2.2] 100 ∧ a' = { tmps := #[.slice a len cap, undef, .slice none 0 0, .int .i64 0, .pointer (some ⟨w.heap.size, 0, none⟩), .pointer (some ⟨w.heap.size + 1, 0, none⟩), .pointer (some ⟨w.heap.size + 1 + 1, 0, none⟩), .pointer (some ⟨w.heap.size + 1 + 1 + 1, 0, none⟩), .int .i64 (x.1.1 : Nat), .pointer (some ⟨Bx, 0, none⟩), .slice a len cap, .func (.func 106) #[] #[.pointer (some ⟨w.heap.size + 1 + 1 + 1 + 1, 0, none⟩)], .int .i64 (x.1.1 : Nat), .agg #[.slice (dropA a cap x.1.1) x.1.2.1 (cap - x.1.1), .bool x.1.2.2], undef, undef, undef, undef, undef, undef, undef, undef, undef, undef, undef, undef, undef, undef, undef, undef, undef, undef, undef, undef, undef, undef, undef, undef, undef, undef, undef, undef, undef, undef, undef, undef, undef, undef, undef, undef, undef, undef, undef, undef, undef, undef, undef, undef, undef, undef, undef, undef, undef, undef, undef, undef, undef], defers := [] })
    (fun x a' _ X Y row hs hg hrow => by
      obtain ⟨Bx, h1, h2, h3⟩ := hs
      exact ⟨Bx, h1, blk_own Bx 100 (fun (_ : Unit) => #[Value.slice (dropA a cap x.1.1) x.1.2.1 (cap - x.1.1), Value.bool x.1.2.2]) () X Y row h2 hg (fun q e => (hrow q e).2), h3⟩)
    ?assign ?body ?done ?stop
  case assign =>
    rintro l pre ⟨⟨p, n, ended⟩, hx2⟩ W K ⟨⟨⟨⟨⟨j0, j4⟩, j2⟩, j3⟩, ⟨s, hrun, hok, hHd⟩⟩, hB1⟩ hK
    simp only at hx2
    have hs1 := j4.lt
    have hs2 := hB1.size
    simp only [encL]
    gi_wp2
    exact hK _ _ ((KeepsOthers.alloc _ _).from _) ⟨(Below.refl _ W).alloc (by omega) _, Below.heap_alloc W _ _ hs1⟩ ⟨⟨⟨⟨⟨j0.alloc _, j4.alloc _⟩, j2.alloc _⟩, j3.alloc _⟩, ⟨s, hrun, hok, hHd.alloc _⟩⟩, hB1.alloc hs2 _⟩ ⟨W.heap.size, hs1, Blk.new W _ 100, rfl⟩
  case body =>
    rintro l pre ⟨⟨p, n, ended⟩, hx2⟩ a' W hl ⟨rr, hrr⟩ ⟨⟨⟨⟨⟨j0, j4⟩, j2⟩, j3⟩, ⟨s, hrun, hok, hHd⟩⟩, hB1⟩ ⟨Bq, hBq, bX, rfl⟩ hlt
    simp only at hx2 bX ⊢
    have c0 := bX.cell 0
    have c1 := bX.cell 1
    have e0 := j2.cell 0
    have e1 := j2.cell 1
    have f0 := j2.frozen 0
    have f1 := j2.frozen 1
    have g0 := j3.cell 0
    have g1 := j3.frozen 0
    simp only [List.getElem?_toArray, List.getElem?_cons_zero, List.getElem?_cons_succ] at c0 c1 e0 e1 g0
    have hsW : w.heap.size + 5 ≤ W.heap.size := by have := j4.lt; omega
    obtain ⟨pc, hpc⟩ : ∃ pc, pieceZ zs (p, n, ended) = pc := ⟨_, rfl⟩
    have hpl : pc.length = n := by rw [← hpc]; simp [pieceZ]; omega
    have hpb : Byt pc := by rw [← hpc]; exact (hz.drop _).take _
    have HROW : Hid (∀ X, Bx (w.heap.size + 5) (w.heap.size + 1) W X → Row X (dropA a cap p) pc) := fun X hX => by
      have h := row_take n (row_drop (n := p) (cap := cap) (row_below hr (hB1.trans (hX.1.mono (by omega)))) (by omega))
      rw [← hpc]; exact h
    have hvl : s.val.length ≤ 998 * pre.length := hok.2.1
    have HRUN : Hid (runL zs hs0 (pre.map (fun x : Ln len => x.1)) = some s) := hrun
    have HOK : Hid (OkS pre.length s) := hok
    have HHD : Hid (Hd W (w.heap.size + 5) (w.heap.size + 1) s) := hHd
    have H2 : Hid (Blk W (w.heap.size + 1 + 1) #[.int .i64 0, .int .i64 0] 55) := j2
    have H3 : Hid (Blk W (w.heap.size + 1 + 1 + 1) #[.int .i64 0] 3) := j3
    have H0 : Hid (Blk W w.heap.size #[.int .i64 0, .int .i64 0] 55) := j0
    have H4 : Hid (Blk W (w.heap.size + 1 + 1 + 1 + 1) #[.slice a len cap] 22) := j4
    have HB1 : Hid (Below w.heap.size w W) := hB1
    have HBX : Hid (Blk W Bq #[.slice (dropA a cap p) n (cap - p), .bool ended] 100) := bX
    have HPC : Hid (pieceZ zs (p, n, ended) = pc) := hpc
    have HMX : Hid (Mx W) := hm.below hB1 hpos
    clear j0 j2 j3 j4 hrun hok hHd hB1 bX hB0 k0 k1 k2 k3 k4 hrr hpc hsz
    have SET : Hid (∀ (W1 : World) (s1 : HS) (x y : Int), Hd W1 (w.heap.size + 5) (w.heap.size + 1) s1 → Bx (w.heap.size + 5) (w.heap.size + 1) W W1 → Tk W W1 →
        (KeepsFrom W0.heap.size W ((W1.setCell ⟨w.heap.size + 1 + 1, 0, none⟩ (.int .i64 x)).setCell ⟨w.heap.size + 1 + 1, 1, none⟩ (.int .i64 y)) ∧ Kl w.heap.size (w.heap.size + 1 + 1 + 1 + 1) W ((W1.setCell ⟨w.heap.size + 1 + 1, 0, none⟩ (.int .i64 x)).setCell ⟨w.heap.size + 1 + 1, 1, none⟩ (.int .i64 y))) ∧
        (Blk ((W1.setCell ⟨w.heap.size + 1 + 1, 0, none⟩ (.int .i64 x)).setCell ⟨w.heap.size + 1 + 1, 1, none⟩ (.int .i64 y)) w.heap.size #[.int .i64 0, .int .i64 0] 55 ∧ Blk ((W1.setCell ⟨w.heap.size + 1 + 1, 0, none⟩ (.int .i64 x)).setCell ⟨w.heap.size + 1 + 1, 1, none⟩ (.int .i64 y)) (w.heap.size + 1 + 1 + 1 + 1) #[.slice a len cap] 22) ∧
        Blk ((W1.setCell ⟨w.heap.size + 1 + 1, 0, none⟩ (.int .i64 x)).setCell ⟨w.heap.size + 1 + 1, 1, none⟩ (.int .i64 y)) (w.heap.size + 1 + 1) #[.int .i64 x, .int .i64 y] 55 ∧ Blk ((W1.setCell ⟨w.heap.size + 1 + 1, 0, none⟩ (.int .i64 x)).setCell ⟨w.heap.size + 1 + 1, 1, none⟩ (.int .i64 y)) (w.heap.size + 1 + 1 + 1) #[.int .i64 0] 3 ∧
        Hd ((W1.setCell ⟨w.heap.size + 1 + 1, 0, none⟩ (.int .i64 x)).setCell ⟨w.heap.size + 1 + 1, 1, none⟩ (.int .i64 y)) (w.heap.size + 5) (w.heap.size + 1) s1 ∧ Below w.heap.size w ((W1.setCell ⟨w.heap.size + 1 + 1, 0, none⟩ (.int .i64 x)).setCell ⟨w.heap.size + 1 + 1, 1, none⟩ (.int .i64 y))) := by
      intro W1 s1 x y hH hX hT
      have b0 : Blk W1 w.heap.size #[.int .i64 0, .int .i64 0] 55 := H0.out.below hX.1 (by omega)
      have b4 : Blk W1 (w.heap.size + 1 + 1 + 1 + 1) #[.slice a len cap] 22 := (hX.2 _ (by omega) (by omega)).trans H4.out
      have b3 : Blk W1 (w.heap.size + 1 + 1 + 1) #[.int .i64 0] 3 := (hX.2 _ (by omega) (by omega)).trans H3.out
      have b2 : Blk W1 (w.heap.size + 1 + 1) #[.int .i64 0, .int .i64 0] 55 := (hX.2 _ (by omega) (by omega)).trans H2.out
      have q1 : Blk (W1.setCell ⟨w.heap.size + 1 + 1, 0, none⟩ (.int .i64 x)) (w.heap.size + 1 + 1) #[.int .i64 x, .int .i64 0] 55 := heap_setCell_same W1 _ 0 #[.int .i64 0, .int .i64 0] 55 _ b2
      have q2 : Blk ((W1.setCell ⟨w.heap.size + 1 + 1, 0, none⟩ (.int .i64 x)).setCell ⟨w.heap.size + 1 + 1, 1, none⟩ (.int .i64 y)) (w.heap.size + 1 + 1) #[.int .i64 x, .int .i64 y] 55 := heap_setCell_same _ _ 1 #[.int .i64 x, .int .i64 0] 55 _ q1
      have bel : Below w.heap.size W ((W1.setCell ⟨w.heap.size + 1 + 1, 0, none⟩ (.int .i64 x)).setCell ⟨w.heap.size + 1 + 1, 1, none⟩ (.int .i64 y)) := ((hX.1.mono (by omega)).setCell (p := ⟨w.heap.size + 1 + 1, 0, none⟩) (by simp; omega) _).setCell (p := ⟨w.heap.size + 1 + 1, 1, none⟩) (by simp; omega) _
      have r4 := (b4.other (g := w.heap.size + 1 + 1) (i := 0) (by omega) (.int .i64 x)).other (g := w.heap.size + 1 + 1) (i := 1) (by omega) (.int .i64 y)
      exact ⟨⟨(((hT.keeps hX.1.size).trans (KeepsOthers.setCell _ _ _)).trans (KeepsOthers.setCell _ _ _)).from _, bel, r4.trans H4.out.symm⟩, ⟨(b0.other (by omega) _).other (by omega) _, r4⟩, q2, (b3.other (by omega) _).other (by omega) _, (hH.res b2).res q1, HB1.out.trans bel⟩
    have STOP : Hid (∀ (W1 : World) (s1 : HS) (x y : Int), Hd W1 (w.heap.size + 5) (w.heap.size + 1) s1 → Bx (w.heap.size + 5) (w.heap.size + 1) W W1 → Tk W W1 → stepR zs s (p, n, ended) = none → stopS zs s (p, n, ended) = s1 → stopN (p, n, ended) = 0 → stopF zs s (p, n, ended) = (x, y) →
        KeepsFrom W0.heap.size W ((W1.setCell ⟨w.heap.size + 1 + 1, 0, none⟩ (.int .i64 x)).setCell ⟨w.heap.size + 1 + 1, 1, none⟩ (.int .i64 y)) ∧ (Blk ((W1.setCell ⟨w.heap.size + 1 + 1, 0, none⟩ (.int .i64 x)).setCell ⟨w.heap.size + 1 + 1, 1, none⟩ (.int .i64 y)) w.heap.size #[.int .i64 0, .int .i64 0] 55 ∧ PX zs (w.heap.size + 5) (w.heap.size + 1) (w.heap.size + 1 + 1) (w.heap.size + 1 + 1 + 1) ((pre ++ [(⟨(p, n, ended), hx2⟩ : Ln len)]).map (fun x : Ln len => x.1)) ((W1.setCell ⟨w.heap.size + 1 + 1, 0, none⟩ (.int .i64 x)).setCell ⟨w.heap.size + 1 + 1, 1, none⟩ (.int .i64 y))) ∧ Below w.heap.size w ((W1.setCell ⟨w.heap.size + 1 + 1, 0, none⟩ (.int .i64 x)).setCell ⟨w.heap.size + 1 + 1, 1, none⟩ (.int .i64 y))) := by
      intro W1 s1 x y hH hX hT h1 h2 h3 h4
      obtain ⟨⟨v1, _⟩, ⟨v2, _⟩, v3, v4, v5, v6⟩ := SET.out W1 s1 x y hH hX hT
      exact ⟨v1, ⟨v2, pre.map (fun x : Ln len => x.1), (p, n, ended), s, by simp, HRUN.out, h1, by rw [h2]; exact v5, by rw [h4]; exact v3, by rw [h3]; exact v4⟩, v6⟩
    have GOON : Hid (∀ (W1 : World) (s1 : HS), Hd W1 (w.heap.size + 5) (w.heap.size + 1) s1 → Bx (w.heap.size + 5) (w.heap.size + 1) W W1 → Tk W W1 → stepR zs s (p, n, ended) = some s1 →
        KeepsFrom W0.heap.size W ((W1.setCell ⟨w.heap.size + 1 + 1, 0, none⟩ (.int .i64 0)).setCell ⟨w.heap.size + 1 + 1, 1, none⟩ (.int .i64 0)) ∧ Kl w.heap.size (w.heap.size + 1 + 1 + 1 + 1) W ((W1.setCell ⟨w.heap.size + 1 + 1, 0, none⟩ (.int .i64 0)).setCell ⟨w.heap.size + 1 + 1, 1, none⟩ (.int .i64 0)) ∧ ((((Blk ((W1.setCell ⟨w.heap.size + 1 + 1, 0, none⟩ (.int .i64 0)).setCell ⟨w.heap.size + 1 + 1, 1, none⟩ (.int .i64 0)) w.heap.size #[.int .i64 0, .int .i64 0] 55 ∧ Blk ((W1.setCell ⟨w.heap.size + 1 + 1, 0, none⟩ (.int .i64 0)).setCell ⟨w.heap.size + 1 + 1, 1, none⟩ (.int .i64 0)) (w.heap.size + 1 + 1 + 1 + 1) #[.slice a len cap] 22) ∧ Blk ((W1.setCell ⟨w.heap.size + 1 + 1, 0, none⟩ (.int .i64 0)).setCell ⟨w.heap.size + 1 + 1, 1, none⟩ (.int .i64 0)) (w.heap.size + 1 + 1) #[.int .i64 0, .int .i64 0] 55) ∧ Blk ((W1.setCell ⟨w.heap.size + 1 + 1, 0, none⟩ (.int .i64 0)).setCell ⟨w.heap.size + 1 + 1, 1, none⟩ (.int .i64 0)) (w.heap.size + 1 + 1 + 1) #[.int .i64 0] 3) ∧ PJ zs (w.heap.size + 5) (w.heap.size + 1) (pre ++ [(⟨(p, n, ended), hx2⟩ : Ln len)]).length ((pre ++ [(⟨(p, n, ended), hx2⟩ : Ln len)]).map (fun x : Ln len => x.1)) ((W1.setCell ⟨w.heap.size + 1 + 1, 0, none⟩ (.int .i64 0)).setCell ⟨w.heap.size + 1 + 1, 1, none⟩ (.int .i64 0))) ∧ Below w.heap.size w ((W1.setCell ⟨w.heap.size + 1 + 1, 0, none⟩ (.int .i64 0)).setCell ⟨w.heap.size + 1 + 1, 1, none⟩ (.int .i64 0))) := by
      intro W1 s1 hH hX hT h1
      obtain ⟨⟨v1, v1'⟩, ⟨v2, v2'⟩, v3, v4, v5, v6⟩ := SET.out W1 s1 0 0 hH hX hT
      refine ⟨v1, v1', ⟨⟨⟨⟨v2, v2'⟩, v3⟩, v4⟩, s1, ?_, ?_, v5⟩, v6⟩
      · rw [List.map_append, List.map_singleton, runL_snoc, HRUN.out]; exact h1
      · rw [List.length_append]; exact ok_step hz HOK.out h1
    have AFT : Hid (∀ W1, Bx (w.heap.size + 5) (w.heap.size + 1) W W1 → (W1.cell? ⟨w.heap.size + 1 + 1, 0, none⟩ = some (.int .i64 0) ∧ W1.cell? ⟨w.heap.size + 1 + 1, 1, none⟩ = some (.int .i64 0)) ∧ (W1.frozen? ⟨w.heap.size + 1 + 1, 0, none⟩ = false ∧ W1.frozen? ⟨w.heap.size + 1 + 1, 1, none⟩ = false) ∧ W1.cell? ⟨w.heap.size + 1 + 1 + 1, 0, none⟩ = some (.int .i64 0) ∧ W1.frozen? ⟨w.heap.size + 1 + 1 + 1, 0, none⟩ = false) := by
      intro W1 hX
      have b3 : Blk W1 (w.heap.size + 1 + 1 + 1) #[.int .i64 0] 3 := (hX.2 _ (by omega) (by omega)).trans H3.out
      have b2 : Blk W1 (w.heap.size + 1 + 1) #[.int .i64 0, .int .i64 0] 55 := (hX.2 _ (by omega) (by omega)).trans H2.out
      exact ⟨⟨b2.cell 0, b2.cell 1⟩, ⟨b2.frozen 0, b2.frozen 1⟩, b3.cell 0, b3.frozen 0⟩
    have STOP0 : Hid (∀ (W1 : World) (s1 : HS) (x y : Int), Hd W1 (w.heap.size + 5) (w.heap.size + 1) s1 → Bx (w.heap.size + 5) (w.heap.size + 1) W W1 → Tk W W1 → stepR zs s (p, n, ended) = none → stopS zs s (p, n, ended) = s1 → stopN (p, n, ended) = (p : Int) + 2 → stopF zs s (p, n, ended) = (x, y) →
        KeepsFrom W0.heap.size W (((W1.setCell ⟨w.heap.size + 1 + 1, 0, none⟩ (.int .i64 x)).setCell ⟨w.heap.size + 1 + 1, 1, none⟩ (.int .i64 y)).setCell ⟨w.heap.size + 1 + 1 + 1, 0, none⟩ (.int .i64 ((p : Int) + 2))) ∧ (Blk (((W1.setCell ⟨w.heap.size + 1 + 1, 0, none⟩ (.int .i64 x)).setCell ⟨w.heap.size + 1 + 1, 1, none⟩ (.int .i64 y)).setCell ⟨w.heap.size + 1 + 1 + 1, 0, none⟩ (.int .i64 ((p : Int) + 2))) w.heap.size #[.int .i64 0, .int .i64 0] 55 ∧ PX zs (w.heap.size + 5) (w.heap.size + 1) (w.heap.size + 1 + 1) (w.heap.size + 1 + 1 + 1) ((pre ++ [(⟨(p, n, ended), hx2⟩ : Ln len)]).map (fun x : Ln len => x.1)) (((W1.setCell ⟨w.heap.size + 1 + 1, 0, none⟩ (.int .i64 x)).setCell ⟨w.heap.size + 1 + 1, 1, none⟩ (.int .i64 y)).setCell ⟨w.heap.size + 1 + 1 + 1, 0, none⟩ (.int .i64 ((p : Int) + 2)))) ∧ Below w.heap.size w (((W1.setCell ⟨w.heap.size + 1 + 1, 0, none⟩ (.int .i64 x)).setCell ⟨w.heap.size + 1 + 1, 1, none⟩ (.int .i64 y)).setCell ⟨w.heap.size + 1 + 1 + 1, 0, none⟩ (.int .i64 ((p : Int) + 2)))) := by
      intro W1 s1 x y hH hX hT h1 h2 h3 h4
      obtain ⟨⟨v1, _⟩, ⟨v2, _⟩, v3, v4, v5, v6⟩ := SET.out W1 s1 x y hH hX hT
      exact ⟨v1.trans ((KeepsOthers.setCell _ _ _).from _), ⟨v2.other (by omega) _, pre.map (fun x : Ln len => x.1), (p, n, ended), s, by simp, HRUN.out, h1, by rw [h2]; exact v5.set3 v4, by rw [h4]; exact v3.other (by omega) _, by rw [h3]; exact heap_setCell_same _ _ 0 #[.int .i64 0] 3 _ v4⟩, v6.setCell (p := ⟨w.heap.size + 1 + 1 + 1, 0, none⟩) (by simp; omega) _⟩
    cases ended with
    | false =>
      gi_wp2
      obtain ⟨u1, ⟨u2, u3⟩, u4⟩ := STOP.out W s p 42 HHD.out (Bx.refl _ _ _) (Tk.refl _) (by simp [stepR]) (by simp [stopS]) (by simp [stopN]) (by simp [stopF])
      exact ⟨u1, ⟨⟨rfl, u2⟩, u3⟩, u4⟩
    | true =>
    by_cases hn0 : n = 0
    · subst hn0
      have hsh := CallsIn.inRound l ((callsIn_wide (n := 17)).2 (shut_any (w.heap.size + 5) (w.heap.size + 1) s W HHD.out HOK.out.1 (by omega) HOK.out.2.2))
      gi_wp2_with fail
      refine ⟨trivial, hsh.mono ?_⟩
      clear hsh
      rintro e W1 ⟨rfl, hH1, hX1, hT1⟩
      obtain ⟨⟨z0, z1⟩, ⟨z2, z3⟩, z4, z5⟩ := AFT.out W1 hX1
      clear c0 c1 e0 e1 f0 f1 g0 g1
      rw [shutF_eq]
      cases hsb : shutB s with
      | true =>
        rw [if_pos rfl]
        unfold faultV
        gi_wp2
        obtain ⟨u1, ⟨u2, u3⟩, u4⟩ := STOP0.out W1 _ 0 0 hH1 hX1 hT1 (by simp [stepR]) (by simp [stopS]) (by simp [stopN]) (by simp [stopF, hsb])
        exact ⟨u1, ⟨⟨rfl, u2⟩, u3⟩, u4⟩
      | false =>
        rw [if_neg (by simp)]
        unfold faultV
        gi_wp2
        obtain ⟨u1, ⟨u2, u3⟩, u4⟩ := STOP0.out W1 _ s.beg 50 hH1 hX1 hT1 (by simp [stepR]) (by simp [stopS]) (by simp [stopN]) (by simp [stopF, hsb])
        exact ⟨u1, ⟨⟨rfl, u2⟩, u3⟩, u4⟩
    have hd0 : ((n : Int) == 0) = false := by rw [beq_eq_false_iff_ne]; omega
    by_cases hn9 : 998 < n
    · have hd9 : decide ((n : Int) > 998) = true := by simp; omega
      gi_wp2
      obtain ⟨u1, ⟨u2, u3⟩, u4⟩ := STOP.out W s p 40 HHD.out (Bx.refl _ _ _) (Tk.refl _) (by simp [stepR, hn0, hn9]) (by simp [stopS, hn0, hn9]) (by simp [stopN, hn0]) (by simp [stopF, hn0, hn9])
      exact ⟨u1, ⟨⟨rfl, u2⟩, u3⟩, u4⟩
    have hd9 : decide ((n : Int) > 998) = false := by simp; omega
    have hpN : p ≠ cap := by omega
    obtain ⟨b, off, rfl⟩ : ∃ b off, a = some ⟨b, off, none⟩ := by
      rcases hr with rfl | ⟨b, off, rfl, _⟩
      · simp at hlen; omega
      · exact ⟨b, off, rfl⟩
    have hda : dropA (some ⟨b, off, none⟩) cap p = some ⟨b, off + p, none⟩ := by
      rw [dropA, if_neg (by omega), Option.map_some, add_plain]
    rw [hda] at c0 HROW ⊢
    obtain ⟨c, pc', rfl⟩ : ∃ c pc', pc = c :: pc' := by
      cases pc with
      | nil => simp at hpl; omega
      | cons c pc' => exact ⟨c, pc', rfl⟩
    have hck : W.cell? ⟨b, off + p, none⟩ = some (.int .u8 c) := by
      rcases HROW.out W (Bx.refl _ _ _) with h | ⟨b', off', h, hc⟩
      · simp at h
      · cases h
        exact hc 0 (by simp)
    have HBH : Hid (blankH (c :: pc') = blankC c) := rfl
    cases hbl : blankC c with
    | true =>
      have hgo := CallsIn.inRound l ((callsIn_wide (n := 17)).2 (goOn_any (w.heap.size + 5) (w.heap.size + 1) s W HHD.out (p : Int) (some ⟨b, off + p, none⟩) n (cap - p) (c :: pc') hpl (by simp) (HROW.out W (Bx.refl _ _ _)) (by omega)))
      have hcc : c = 32 ∨ c = 9 := by simpa [blankC] using hbl
      have FIN : Hid (∀ W1, Hd W1 (w.heap.size + 5) (w.heap.size + 1) (goOnZ s (c :: pc')) → Bx (w.heap.size + 5) (w.heap.size + 1) W W1 → Tk W W1 → True) := fun _ _ _ _ => trivial
      have HBL : Hid (blankC c = true) := hbl
      clear hbl hda
      by_cases hnm : s.nm.toList = []
      · rw [if_pos hnm] at hgo
        unfold faultV at hgo
        have HZ : Hid (goOnZ s (c :: pc') = s) := by unfold Hid goOnZ; rw [if_pos hnm]
        have A1 : Hid (stepR zs s (p, n, true) = none ∧ stopS zs s (p, n, true) = s ∧ stopN (p, n, true) = 0 ∧ stopF zs s (p, n, true) = ((p : Int), 50)) := by
          refine ⟨?_, ?_, ?_, ?_⟩
          · simp [stepR, hn0, hn9, HPC.out, HBH.out, HBL.out, hnm]
          · simp [stopS, hn0, hn9, HPC.out, HBH.out, HBL.out]
          · simp [stopN, hn0]
          · simp [stopF, hn0, hn9, HPC.out, HBH.out, HBL.out]
        rcases hcc with rfl | rfl
        all_goals (
          gi_wp2_with fail
          refine ⟨trivial, hgo.mono ?_⟩
          clear hgo
          rintro e W1 ⟨rfl, hH1, hX1, hT1⟩
          obtain ⟨⟨z0, z1⟩, ⟨z2, z3⟩, z4, z5⟩ := AFT.out W1 hX1
          clear c0 c1 e0 e1 f0 f1 g0 g1
          rw [HZ.out] at hH1
          gi_wp2
          obtain ⟨u1, ⟨u2, u3⟩, u4⟩ := STOP.out W1 _ p 50 hH1 hX1 hT1 A1.out.1 A1.out.2.1 A1.out.2.2.1 A1.out.2.2.2
          exact ⟨u1, ⟨⟨rfl, u2⟩, u3⟩, u4⟩)
      · rw [if_neg hnm] at hgo
        unfold faultV at hgo
        have A1 : Hid (stepR zs s (p, n, true) = some (goOnZ s (c :: pc'))) := by
          unfold Hid; simp [stepR, hn0, hn9, HPC.out, HBH.out, HBL.out, hnm]
        rcases hcc with rfl | rfl
        all_goals (
          gi_wp2_with fail
          refine ⟨trivial, hgo.mono ?_⟩
          clear hgo
          rintro e W1 ⟨rfl, hH1, hX1, hT1⟩
          obtain ⟨⟨z0, z1⟩, ⟨z2, z3⟩, z4, z5⟩ := AFT.out W1 hX1
          clear c0 c1 e0 e1 f0 f1 g0 g1
          gi_wp2
          exact GOON.out W1 _ hH1 hX1 hT1 A1.out)
    | false =>
      have hbe := CallsIn.inRound l ((callsIn_wide (n := 17)).2 (begin_any (w.heap.size + 5) (w.heap.size + 1) s W HHD.out HOK.out.1 (by omega) HOK.out.2.2 (p : Int) (some ⟨b, off + p, none⟩) n (cap - p) (c :: pc') hpl hpb (by omega) (by omega) (by simp) HROW.out HMX.out (by omega)))
      have hcc : ¬ (c = 32 ∨ c = 9) := by
        intro h
        have : blankC c = true := by simpa [blankC] using h
        rw [hbl] at this
        cases this
      have h32 : (c == 32) = false := by rw [beq_eq_false_iff_ne]; omega
      have h9 : (c == 9) = false := by rw [beq_eq_false_iff_ne]; omega
      have HBL : Hid (blankC c = false) := hbl
      clear hbl hda hcc
      have A0 : Hid (stopS zs s (p, n, true) = beginZ s p (c :: pc') ∧ stopN (p, n, true) = 0) := by
        refine ⟨?_, ?_⟩
        · simp [stopS, hn0, hn9, HPC.out, HBH.out, HBL.out]
        · simp [stopN, hn0]
      cases hsb : shutB s with
      | false =>
        rw [beginF, if_neg (by rw [hsb]; simp)] at hbe
        unfold faultV at hbe
        have A1 : Hid (stepR zs s (p, n, true) = none ∧ stopF zs s (p, n, true) = (s.beg, 50)) := by
          refine ⟨?_, ?_⟩
          · simp [stepR, hn0, hn9, HPC.out, HBH.out, HBL.out, hsb]
          · simp [stopF, hn0, hn9, HPC.out, HBH.out, HBL.out, hsb]
        gi_wp2_with fail
        refine ⟨trivial, hbe.mono ?_⟩
        clear hbe
        rintro e W1 ⟨rfl, hH1, hX1, hT1⟩
        obtain ⟨⟨z0, z1⟩, ⟨z2, z3⟩, z4, z5⟩ := AFT.out W1 hX1
        clear c0 c1 e0 e1 f0 f1 g0 g1
        gi_wp2
        obtain ⟨u1, ⟨u2, u3⟩, u4⟩ := STOP.out W1 _ s.beg 50 hH1 hX1 hT1 A1.out.1 A0.out.1 A0.out.2 A1.out.2
        exact ⟨u1, ⟨⟨rfl, u2⟩, u3⟩, u4⟩
      | true =>
        rw [beginF, if_pos hsb] at hbe
        cases hbb : beginB s (c :: pc') with
        | false =>
          rw [hbb, if_neg (by simp)] at hbe
          unfold faultV at hbe
          have A1 : Hid (stepR zs s (p, n, true) = none ∧ stopF zs s (p, n, true) = ((p : Int), 50)) := by
            refine ⟨?_, ?_⟩
            · simp [stepR, hn0, hn9, HPC.out, HBH.out, HBL.out, hsb, hbb]
            · simp [stopF, hn0, hn9, HPC.out, HBH.out, HBL.out, hsb]
          gi_wp2_with fail
          refine ⟨trivial, hbe.mono ?_⟩
          clear hbe
          rintro e W1 ⟨rfl, hH1, hX1, hT1⟩
          obtain ⟨⟨z0, z1⟩, ⟨z2, z3⟩, z4, z5⟩ := AFT.out W1 hX1
          clear c0 c1 e0 e1 f0 f1 g0 g1
          gi_wp2
          obtain ⟨u1, ⟨u2, u3⟩, u4⟩ := STOP.out W1 _ p 50 hH1 hX1 hT1 A1.out.1 A0.out.1 A0.out.2 A1.out.2
          exact ⟨u1, ⟨⟨rfl, u2⟩, u3⟩, u4⟩
        | true =>
          rw [hbb, if_pos rfl] at hbe
          unfold faultV at hbe
          have A1 : Hid (stepR zs s (p, n, true) = some (beginZ s p (c :: pc'))) := by
            unfold Hid; simp [stepR, hn0, hn9, HPC.out, HBH.out, HBL.out, hsb, hbb]
          gi_wp2_with fail
          refine ⟨trivial, hbe.mono ?_⟩
          clear hbe
          rintro e W1 ⟨rfl, hH1, hX1, hT1⟩
          obtain ⟨⟨z0, z1⟩, ⟨z2, z3⟩, z4, z5⟩ := AFT.out W1 hX1
          clear c0 c1 e0 e1 f0 f1 g0 g1
          gi_wp2
          exact GOON.out W1 _ hH1 hX1 hT1 A1.out
  case done =>
    rintro D ys W hD hS ⟨⟨_, ⟨s, hrun, _⟩⟩, _⟩ hK
    rw [hS, runL_none zs zs.length 0 zs hs0 (Nat.le_refl _)] at hrun
    simp at hrun
  case stop =>
    rintro D c pre W hD hS ⟨⟨⟨rfl, j0⟩, pre', x, s, hpre, hrun, hstep, hHd, jf, jn⟩, hB1⟩ hK
    have hpz : parseZ zs = (stopS zs s x, stopN x, stopF zs s x) := parse_stop (pre := pre') (by rw [← hpre]; exact hS) hrun hstep
    obtain ⟨fx, hfx⟩ : ∃ fx, (stopF zs s x).1 = fx := ⟨_, rfl⟩
    obtain ⟨fy, hfy⟩ : ∃ fy, (stopF zs s x).2 = fy := ⟨_, rfl⟩
    obtain ⟨fn, hfn⟩ : ∃ fn, stopN x = fn := ⟨_, rfl⟩
    rw [hfx, hfy] at jf
    rw [hfn] at jn
    have HC : Hid (outC zs = fy ∧ (parseZ zs).2.2.1 = fx ∧ (parseZ zs).2.1 = fn ∧ (parseZ zs).1.fs = (stopS zs s x).fs) := by
      unfold Hid outC; rw [hpz]; exact ⟨hfy, hfx, hfn, rfl⟩
    have r0 := j0.cell 0
    have r1 := j0.cell 1
    have r2 := j0.frozen 0
    have r3 := j0.frozen 1
    have e0 := jf.cell 0
    have e1 := jf.cell 1
    have g0 := jn.cell 0
    simp only [List.getElem?_toArray, List.getElem?_cons_zero, List.getElem?_cons_succ] at r0 r1 e0 e1 g0
    have J0 : Hid (Blk W w.heap.size #[.int .i64 0, .int .i64 0] 55) := j0
    have HK : Hid (W.heap[D]? = some (.deferred (some []))) := hK
    have HB1 : Hid (Below w.heap.size w W) := hB1
    have hDW : D < W.heap.size := (Array.getElem?_eq_some_iff.1 hK).1
    obtain ⟨h1, h2, vf, vv, hg, hf, hv⟩ := hHd
    obtain ⟨af, capf, rfl, _⟩ := ownF_view hf
    have t0 : W.cell? ⟨w.heap.size + 1, 0, none⟩ = some (.slice af (stopS zs s x).fs.length capf) := by rw [cell_of_row W _ _ _ _ _ hg]; rfl
    have HF : Hid (OwnF W (w.heap.size + 5) (.slice af (stopS zs s x).fs.length capf) (stopS zs s x).fs) := hf
    clear j0 jf jn hK hB1 hpz hfx hfy hfn hg hf hv hr hm k0 k1 k2 k3 k4 hB0
    by_cases hy : fy = 0
    · subst hy
      have HN : Hid (outN zs = fn ∧ outP zs = 0 ∧ outL zs = (stopS zs s x).fs) := by
        unfold Hid outN outP outL; rw [HC.out.1, if_pos rfl, if_pos rfl, if_pos rfl]; exact ⟨HC.out.2.2.1, rfl, HC.out.2.2.2⟩
      gi_wp2
      gi_region
      all_goals (
        gi_wp2
        have q1 : Blk (W.setCell ⟨w.heap.size, 0, none⟩ (.int .i64 0)) w.heap.size #[.int .i64 0, .int .i64 0] 55 := heap_setCell_same W _ 0 #[.int .i64 0, .int .i64 0] 55 _ J0.out
        have q2 : Blk ((W.setCell ⟨w.heap.size, 0, none⟩ (.int .i64 0)).setCell ⟨w.heap.size, 1, none⟩ (.int .i64 0)) w.heap.size #[.int .i64 0, .int .i64 0] 55 := heap_setCell_same _ _ 1 #[.int .i64 0, .int .i64 0] 55 _ q1
        have hK2 : ((W.setCell ⟨w.heap.size, 0, none⟩ (.int .i64 0)).setCell ⟨w.heap.size, 1, none⟩ (.int .i64 0)).drew.heap[D]? = some (.deferred (some [])) := (heap_setCell_other _ _ _ _ (by simp; omega)).trans ((heap_setCell_other _ _ _ _ (by simp; omega)).trans HK.out)
        have q3 : Blk (((W.setCell ⟨w.heap.size, 0, none⟩ (.int .i64 0)).setCell ⟨w.heap.size, 1, none⟩ (.int .i64 0)).drew.putObj D (.deferred none)) w.heap.size #[.int .i64 0, .int .i64 0] 55 := (World.putObj_heap_other (by omega)).trans q2
        have c0 := q3.cell 0
        have c1 := q3.cell 1
        simp only [List.getElem?_toArray, List.getElem?_cons_zero, List.getElem?_cons_succ] at c0 c1
        refine ⟨by simp, .inl ⟨_, _, rfl, run_takeDeferred hK2, ?_⟩⟩
        refine ⟨.tuple #[.slice af (stopS zs s x).fs.length capf, .int .i64 (outN zs), faultV (outP zs) (outC zs)], ?_, .slice af (stopS zs s x).fs.length capf, rfl, ?_, ?_⟩
        · rw [HN.out.1, HN.out.2.1, HC.out.1]
          simp [results, Tryz.results30, go_sem, c0, c1]
          rfl
        · rw [HN.out.2.2]
          exact ownsRow_putObj (own_base (by omega) (ownsRow_other (by omega) (ownsRow_other (by omega) HF.out))) _ hK2 rfl
        · have hbD : Below w.heap.size w ((W.setCell ⟨w.heap.size, 0, none⟩ (.int .i64 0)).setCell ⟨w.heap.size, 1, none⟩ (.int .i64 0)).drew := by
            have h := (HB1.out.setCell (p := ⟨w.heap.size, 0, none⟩) (by simp) (.int .i64 0)).setCell (p := ⟨w.heap.size, 1, none⟩) (by simp) (.int .i64 0)
            exact ⟨h.os, h.tape, h.output, h.size, h.block⟩
          exact hbD.trans (belowK_b (w := w) (Nat.le_refl _) _ D _ _ (by omega) hK2 rfl rfl))
    · have hyb : (fy != 0) = true := by simpa using hy
      have HN : Hid (outN zs = 0 ∧ outP zs = fx ∧ outL zs = []) := by
        unfold Hid outN outP outL; rw [HC.out.1, if_neg hy, if_neg hy, if_neg hy]; exact ⟨rfl, HC.out.2.1, rfl⟩
      gi_wp2
      gi_region
      all_goals (
        gi_wp2
        have q1 : Blk (W.setCell ⟨w.heap.size, 0, none⟩ (.int .i64 fx)) w.heap.size #[.int .i64 fx, .int .i64 0] 55 := heap_setCell_same W _ 0 #[.int .i64 0, .int .i64 0] 55 _ J0.out
        have q2 : Blk ((W.setCell ⟨w.heap.size, 0, none⟩ (.int .i64 fx)).setCell ⟨w.heap.size, 1, none⟩ (.int .i64 fy)) w.heap.size #[.int .i64 fx, .int .i64 fy] 55 := heap_setCell_same _ _ 1 #[.int .i64 fx, .int .i64 0] 55 _ q1
        have hK2 : ((W.setCell ⟨w.heap.size, 0, none⟩ (.int .i64 fx)).setCell ⟨w.heap.size, 1, none⟩ (.int .i64 fy)).drew.heap[D]? = some (.deferred (some [])) := (heap_setCell_other _ _ _ _ (by simp; omega)).trans ((heap_setCell_other _ _ _ _ (by simp; omega)).trans HK.out)
        have q3 : Blk (((W.setCell ⟨w.heap.size, 0, none⟩ (.int .i64 fx)).setCell ⟨w.heap.size, 1, none⟩ (.int .i64 fy)).drew.putObj D (.deferred none)) w.heap.size #[.int .i64 fx, .int .i64 fy] 55 := (World.putObj_heap_other (by omega)).trans q2
        have c0 := q3.cell 0
        have c1 := q3.cell 1
        simp only [List.getElem?_toArray, List.getElem?_cons_zero, List.getElem?_cons_succ] at c0 c1
        refine ⟨by simp, .inl ⟨_, _, rfl, run_takeDeferred hK2, ?_⟩⟩
        refine ⟨.tuple #[.slice none 0 0, .int .i64 (outN zs), faultV (outP zs) (outC zs)], ?_, .slice none 0 0, rfl, ?_, ?_⟩
        · rw [HN.out.1, HN.out.2.1, HC.out.1]
          simp [results, Tryz.results30, go_sem, c0, c1]
          rfl
        · rw [HN.out.2.2]
          exact World.ownsRow_nil _ _ _ _
        · have hbD : Below w.heap.size w ((W.setCell ⟨w.heap.size, 0, none⟩ (.int .i64 fx)).setCell ⟨w.heap.size, 1, none⟩ (.int .i64 fy)).drew := by
            have h := (HB1.out.setCell (p := ⟨w.heap.size, 0, none⟩) (by simp) (.int .i64 fx)).setCell (p := ⟨w.heap.size, 1, none⟩) (by simp) (.int .i64 fy)
            exact ⟨h.os, h.tape, h.output, h.size, h.block⟩
          exact hbD.trans (belowK_b (w := w) (Nat.le_refl _) _ D _ _ (by omega) hK2 rfl rfl))
end Go.Proofs.YtmdkmedlncfcbaaGreatDoor
