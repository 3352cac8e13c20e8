/-
  The contract of the reader's finish.
-/
import Derived.Test.YtnhbmekhmkkccaaDoorBTake
import Derived.Deep.RegionLaw
namespace Go.Proofs.YtnhbmekhmkkccaaDoor.Bt
open Go.RowKit
set_option linter.unusedVariables false

theorem spare_ok {W : World} {m n : Nat} {cur : Array Value} (h : W.heap[m]? = some (.cells cur 5 (0, 0))) (hn : n < cur.size) : ∀ j, j < 1 → (W.cell? ⟨m, 0 + n * 1 + j, none⟩).isSome = true ∧ W.frozen? ⟨m, 0 + n * 1 + j, none⟩ = false := by
  intro j hj
  obtain rfl : j = 0 := by omega
  simp only [Nat.zero_add, Nat.mul_one, Nat.add_zero]
  exact ⟨by rw [cell_of_row W m n cur 5 (0, 0) h]; simp [hn], frozen_of_row W m n cur 5 h⟩
theorem u32_and0 (x : Int) : bits .and .u32 x 0 = 0 := by
  simp [bits]; decide
theorem u32_and255 (x : Int) (h : 0 ≤ x) (h' : x < 4294967296) : bits .and .u32 x 255 = x % 256 :=
  bits_mask .u32 32 (by decide) (fun n h0 h1 => by simp [IntKind.wrap, IntKind.bits, IntKind.signed]; omega) 8 (by decide) x h (by simpa using h')
theorem u32_and65535 (x : Int) (h : 0 ≤ x) (h' : x < 4294967296) : bits .and .u32 x 65535 = x % 65536 :=
  bits_mask .u32 32 (by decide) (fun n h0 h1 => by simp [IntKind.wrap, IntKind.bits, IntKind.signed]; omega) 16 (by decide) x h (by simpa using h')

def bytesD (D : Int) : List Int := [D / 65536 % 256, D / 256 % 256, D % 256]
theorem rd_push {wr : World} {g m cap : Nat} {s : Rs} {O : Obj} {x : Int} (h : Rd wr g m cap s) (hmg : m < g) (hn : s.out.length < cap) :
    Rd (((wr.alloc O).drew.setCells m s.out.length [.int .u8 x]).setCell ⟨g, 0, none⟩ (.slice (some ⟨m, 0, none⟩) (s.out.length + 1) cap)) g m cap { s with out := s.out ++ [x] } := by
  have hlt := h.lt
  obtain ⟨h1, cur, h2, h3, h4, h5⟩ := h
  have g1 : (wr.alloc O).drew.heap[g]? = _ := (Below.heap_alloc wr O g hlt).trans h1
  have g2 := (heap_setCell_other (wr.alloc O).drew ⟨m, s.out.length, none⟩ g (.int .u8 x) (by simp; omega)).trans g1
  have g3 := heap_setCell_same _ g 0 _ 97 (.slice (some ⟨m, 0, none⟩) (s.out.length + 1) cap) g2
  have m1 : (wr.alloc O).drew.heap[m]? = some (.cells cur 5 (0, 0)) := (Below.heap_alloc wr O m (by omega)).trans h2
  have m2 := heap_setCell_same _ m s.out.length cur 5 (.int .u8 x) m1
  have m3 := (heap_setCell_other ((wr.alloc O).drew.setCell ⟨m, s.out.length, none⟩ (.int .u8 x)) ⟨g, 0, none⟩ m (.slice (some ⟨m, 0, none⟩) (s.out.length + 1) cap) (by simp; omega)).trans m2
  refine ⟨?_, cur.setIfInBounds s.out.length (.int .u8 x), m3, by simp [h3], ?_, by simp; omega⟩
  · have e : (s.out ++ [x]).length = s.out.length + 1 := by simp
    show _ = some (Obj.cells #[.slice (some ⟨m, 0, none⟩) (s.out ++ [x]).length cap, _, _, _, _, _, _, _, _] 97 (0, 0))
    rw [e]
    exact g3
  · have e : (s.out ++ [x]).length = s.out.length + 1 := by simp
    show List.take (s.out ++ [x]).length _ = _
    rw [e]
    have hs : s.out.length < cur.toList.length := by simp; omega
    rw [Array.toList_setIfInBounds, List.take_succ_eq_append_getElem (by simpa using hs), List.take_set_of_le (Nat.le_refl _), h4]
    simp

theorem beside {wr : World} {g m : Nat} {O : Obj} {x : Value} {n j : Nat} {v : Value} (hmg : m < g) (hlt : g < wr.heap.size) (h : wr.cell? ⟨g, j, none⟩ = some v) (hf : wr.frozen? ⟨g, j, none⟩ = false) :
    ((wr.alloc O).drew.setCells m n [x]).cell? ⟨g, j, none⟩ = some v ∧ ((wr.alloc O).drew.setCells m n [x]).frozen? ⟨g, j, none⟩ = false := by
  have e : ((wr.alloc O).drew.setCells m n [x]).heap[g]? = wr.heap[g]? := (heap_setCell_other (wr.alloc O).drew ⟨m, n, none⟩ g x (by simp; omega)).trans (Below.heap_alloc wr O g hlt)
  exact ⟨(World.cell?_of_block (a := ⟨g, j, none⟩) e).trans h, (World.frozen?_of_block (a := ⟨g, j, none⟩) e).trans hf⟩

def RP (w : World) (g m f : Nat) (cur : Array Value) (X : World) (cs fs : Array Value) : Prop :=
  X.heap[g]? = some (.cells cs 97 (0, 0)) ∧ X.heap[m]? = some (.cells cur 5 (0, 0)) ∧ X.heap[f]? = some (.cells fs 48 (0, 0)) ∧ Below m w X ∧ ∀ k, k ≠ g → k ≠ m → k < f → X.heap[k]? = w.heap[k]?
theorem RP.set {w X : World} {g m f : Nat} {cur cs fs : Array Value} (h : RP w g m f cur X cs fs) (hmg : m < g) (hgf : g < f) (j : Nat) (v : Value) (cs' : Array Value) (he : cs.setIfInBounds j v = cs') : RP w g m f cur (X.setCell ⟨g, j, none⟩ v) cs' fs :=
  ⟨he ▸ heap_setCell_same X g j cs 97 v h.1, (heap_setCell_other X ⟨g, j, none⟩ m v (by simp; omega)).trans h.2.1, (heap_setCell_other X ⟨g, j, none⟩ f v (by simp; omega)).trans h.2.2.1, h.2.2.2.1.setCell (p := ⟨g, j, none⟩) (by simp; omega) v, fun k h1 h2 h3 => (heap_setCell_other X ⟨g, j, none⟩ k v h1).trans (h.2.2.2.2 k h1 h2 h3)⟩
theorem RP.fset {w X : World} {g m f : Nat} {cur cs fs : Array Value} (h : RP w g m f cur X cs fs) (hmg : m < g) (hgf : g < f) (j : Nat) (v : Value) (fs' : Array Value) (he : fs.setIfInBounds j v = fs') : RP w g m f cur (X.setCell ⟨f, j, none⟩ v) cs fs' :=
  ⟨(heap_setCell_other X ⟨f, j, none⟩ g v (by simp; omega)).trans h.1, (heap_setCell_other X ⟨f, j, none⟩ m v (by simp; omega)).trans h.2.1, he ▸ heap_setCell_same X f j fs 48 v h.2.2.1, h.2.2.2.1.setCell (p := ⟨f, j, none⟩) (by simp; omega) v, fun k h1 h2 h3 => (heap_setCell_other X ⟨f, j, none⟩ k v (by simp; omega)).trans (h.2.2.2.2 k h1 h2 h3)⟩
theorem reset_world {w X : World} {g m f : Nat} {cur : Array Value} {x0 x1 x2 x3 x4 x5 x6 x7 x8 v0 v8 y0 y1 : Value} (h : RP w g m f cur X #[x0, x1, x2, x3, x4, x5, x6, x7, x8] #[y0, y1]) (hmg : m < g) (hgf : g < f) :
    RP w g m f cur (((((((((((X.setCell ⟨g, 0, none⟩ v0).setCell ⟨g, 1, none⟩ (.int .u32 0)).setCell ⟨g, 2, none⟩ (.int .i64 0)).setCell ⟨g, 3, none⟩ (.int .i64 0)).setCell ⟨g, 4, none⟩ (.int .i64 0)).setCell ⟨g, 5, none⟩ (.int .i64 0)).setCell ⟨g, 6, none⟩ (.int .i64 0)).setCell ⟨g, 7, none⟩ (.int .i64 0)).setCell ⟨g, 8, none⟩ v8).setCell ⟨f, 0, none⟩ (.int .i64 0)).setCell ⟨f, 1, none⟩ (.int .i64 0))
      #[v0, .int .u32 0, .int .i64 0, .int .i64 0, .int .i64 0, .int .i64 0, .int .i64 0, .int .i64 0, v8] #[.int .i64 0, .int .i64 0] := by
  have k0 := RP.set h hmg hgf 0 (v0) #[v0, x1, x2, x3, x4, x5, x6, x7, x8] rfl
  have k1 := RP.set k0 hmg hgf 1 (.int .u32 0) #[v0, .int .u32 0, x2, x3, x4, x5, x6, x7, x8] rfl
  have k2 := RP.set k1 hmg hgf 2 (.int .i64 0) #[v0, .int .u32 0, .int .i64 0, x3, x4, x5, x6, x7, x8] rfl
  have k3 := RP.set k2 hmg hgf 3 (.int .i64 0) #[v0, .int .u32 0, .int .i64 0, .int .i64 0, x4, x5, x6, x7, x8] rfl
  have k4 := RP.set k3 hmg hgf 4 (.int .i64 0) #[v0, .int .u32 0, .int .i64 0, .int .i64 0, .int .i64 0, x5, x6, x7, x8] rfl
  have k5 := RP.set k4 hmg hgf 5 (.int .i64 0) #[v0, .int .u32 0, .int .i64 0, .int .i64 0, .int .i64 0, .int .i64 0, x6, x7, x8] rfl
  have k6 := RP.set k5 hmg hgf 6 (.int .i64 0) #[v0, .int .u32 0, .int .i64 0, .int .i64 0, .int .i64 0, .int .i64 0, .int .i64 0, x7, x8] rfl
  have k7 := RP.set k6 hmg hgf 7 (.int .i64 0) #[v0, .int .u32 0, .int .i64 0, .int .i64 0, .int .i64 0, .int .i64 0, .int .i64 0, .int .i64 0, x8] rfl
  have k8 := RP.set k7 hmg hgf 8 (v8) #[v0, .int .u32 0, .int .i64 0, .int .i64 0, .int .i64 0, .int .i64 0, .int .i64 0, .int .i64 0, v8] rfl
  have k9 := RP.fset k8 hmg hgf 0 (.int .i64 0) #[.int .i64 0, y1] rfl
  have k10 := RP.fset k9 hmg hgf 1 (.int .i64 0) #[.int .i64 0, .int .i64 0] rfl
  exact k10
theorem fin_other {wr : World} {g m f : Nat} {O : Obj} {x v : Value} {n : Nat} {r : Option Obj} (hfm : f ≠ m) (hfg : f ≠ g) (hf : f < wr.heap.size) (h : wr.heap[f]? = r) :
    (((wr.alloc O).drew.setCells m n [x]).setCell ⟨g, 0, none⟩ v).heap[f]? = r :=
  (heap_setCell_other _ ⟨g, 0, none⟩ f v hfg).trans ((heap_setCell_other (wr.alloc O).drew ⟨m, n, none⟩ f x hfm).trans ((Below.heap_alloc wr O f hf).trans h))
theorem below_push {w wr : World} {g m : Nat} {O : Obj} {x v : Value} {n : Nat} (h : Below m w wr) (hm : m ≤ wr.heap.size) (hmg : m ≤ g) :
    Below m w (((wr.alloc O).drew.setCells m n [x]).setCell ⟨g, 0, none⟩ v) :=
  (((h.alloc hm O).drew).setCell (p := ⟨m, n, none⟩) (Nat.le_refl _) x).setCell (p := ⟨g, 0, none⟩) hmg v

theorem rd_drew {X : World} {g m cap : Nat} {s : Rs} (h : Rd X g m cap s) : Rd X.drew g m cap s := h
theorem rd_alloc {X : World} {g m cap : Nat} {s : Rs} {F : Obj} (hmg : m < g) (h : Rd X g m cap s) : Rd (X.alloc F) g m cap s := by
  have hlt := h.lt
  obtain ⟨h1, cur, h2, h3⟩ := h
  exact ⟨(Below.heap_alloc X F g hlt).trans h1, cur, (Below.heap_alloc X F m (by omega)).trans h2, h3⟩

set_option maxRecDepth 100000 in
set_option maxHeartbeats 4000000 in
theorem fin0 (g m cap : Nat) (s : Rs) (w : World) (hr : Rd w g m cap s) (hpads : s.pads = 0) (hd0 : 0 ≤ s.dg) (hd1 : s.dg < 16777216) (hz : s.dg % 1 = 0) (hroom : s.out.length + 3 ≤ cap) (hmg : m < g) :
    Calls Tryd.prog 89 #[.pointer (some ⟨g, 0, none⟩)] w fun e w' => e = .returned (.agg #[.int .i64 0, .int .i64 0]) ∧ Below m w w' ∧ Rd w' g m cap { out := s.out ++ (bytesD s.dg).take 3, dg := 0, p0 := 0, p1 := 0, p2 := 0, p3 := 0, cnt := 0, pads := 0, cl := false } ∧ ∀ k, k ≠ g → k ≠ m → k < w.heap.size → w'.heap[k]? = w.heap[k]? := by
  obtain ⟨j0, hi, hz0, hz1, hz2⟩ := info_parts Tryd.info5
  have hg := hr.1
  have hglt := hr.lt
  have a0 : w.cell? ⟨g, 0, none⟩ = some (.slice (some ⟨m, 0, none⟩) s.out.length cap) := by rw [cell_of_row w _ _ _ _ _ hg]; rfl
  have a1 : w.cell? ⟨g, 1, none⟩ = some (.int .u32 s.dg) := by rw [cell_of_row w _ _ _ _ _ hg]; rfl
  have a2 : w.cell? ⟨g, 2, none⟩ = some (.int .i64 s.p0) := by rw [cell_of_row w _ _ _ _ _ hg]; rfl
  have a3 : w.cell? ⟨g, 3, none⟩ = some (.int .i64 s.p1) := by rw [cell_of_row w _ _ _ _ _ hg]; rfl
  have a4 : w.cell? ⟨g, 4, none⟩ = some (.int .i64 s.p2) := by rw [cell_of_row w _ _ _ _ _ hg]; rfl
  have a5 : w.cell? ⟨g, 5, none⟩ = some (.int .i64 s.p3) := by rw [cell_of_row w _ _ _ _ _ hg]; rfl
  have a6 : w.cell? ⟨g, 6, none⟩ = some (.int .i64 s.cnt) := by rw [cell_of_row w _ _ _ _ _ hg]; rfl
  have a7 : w.cell? ⟨g, 7, none⟩ = some (.int .i64 s.pads) := by rw [cell_of_row w _ _ _ _ _ hg]; rfl
  have a8 : w.cell? ⟨g, 8, none⟩ = some (.bool s.cl) := by rw [cell_of_row w _ _ _ _ _ hg]; rfl
  have f0 : w.frozen? ⟨g, 0, none⟩ = false := frozen_of_row w _ _ _ _ hg
  have f8 : w.frozen? ⟨g, 8, none⟩ = false := frozen_of_row w _ _ _ _ hg
  have f1 : w.frozen? ⟨g, 1, none⟩ = false := frozen_of_row w _ _ _ _ hg
  have f2 : w.frozen? ⟨g, 2, none⟩ = false := frozen_of_row w _ _ _ _ hg
  have f3 : w.frozen? ⟨g, 3, none⟩ = false := frozen_of_row w _ _ _ _ hg
  have f4 : w.frozen? ⟨g, 4, none⟩ = false := frozen_of_row w _ _ _ _ hg
  have f5 : w.frozen? ⟨g, 5, none⟩ = false := frozen_of_row w _ _ _ _ hg
  have f6 : w.frozen? ⟨g, 6, none⟩ = false := frozen_of_row w _ _ _ _ hg
  have f7 : w.frozen? ⟨g, 7, none⟩ = false := frozen_of_row w _ _ _ _ hg
  have HR : Hid (Rd w g m cap s) := hr
  clear hg hr
  rw [hpads] at a7
  have HPD : Hid (s.pads = 0) := hpads
  clear hpads
  obtain ⟨D, hD⟩ : ∃ D, D = s.dg := ⟨_, rfl⟩
  have HD : Hid (s.dg = D) := hD.symm
  rw [← hD] at hd0 hd1 a1 hz ⊢
  clear hD
  have ea : bits .and .u32 D 0 = 0 := u32_and0 D
  
  clear hz
  have hw0 : IntKind.i64.wrap 0 = 0 := by decide
  have hw8 : IntKind.i64.wrap 8 = 8 := by decide
  have hw16 : IntKind.i64.wrap 16 = 16 := by decide
  go_enter Tryd.func89, Tryd.ntmps89
  go_wp2
  clear a0 a1 a2 a3 a4 a5 a6 a7 a8 f0 f1 f2 f3 f4 f5 f6 f7 f8
  go_loopw [35] (fun v wr => ∃ (k : Nat) (o : List Int), v = .int .i64 k ∧ k ≤ 3 ∧ o = s.out ++ (bytesD D).take k ∧ Rd wr g m cap { s with out := o } ∧ wr.heap[w.heap.size]? = some (.cells #[.int .i64 0, .int .i64 0] 48 (0, 0)) ∧ Below m w wr ∧ ∀ k, k ≠ g → k ≠ m → k < w.heap.size → wr.heap[k]? = w.heap[k]?) (fun v _ => 3 - (intOf v).toNat)
  case atStart => exact ⟨0, s.out, rfl, by omega, by simp, rd_alloc hmg HR.out, heap_alloc_new _ _, (Below.refl m w).alloc (by omega) _, fun k _ _ h => Below.heap_alloc w _ k h⟩
  case round =>
    obtain ⟨k, o, rfl, hk, ho, hrr, hF, hbel, hot⟩ := hrel
    have HOT : Hid (∀ k, k ≠ g → k ≠ m → k < w.heap.size → wr.heap[k]? = w.heap[k]?) := hot
    clear hot
    have HO : Hid (o = s.out ++ (bytesD D).take k) := ho
    have HF : Hid (wr.heap[w.heap.size]? = some (.cells #[.int .i64 0, .int .i64 0] 48 (0, 0))) := hF
    have HB : Hid (Below m w wr) := hbel
    have HRR : Hid (Rd wr g m cap { s with out := o }) := hrr
    have hol : o.length ≤ s.out.length + k := by rw [ho]; simp [bytesD]; omega
    have hgl := hrr.lt
    have hsz := hbel.size
    have hwl : w.heap.size < wr.heap.size := (Array.getElem?_eq_some_iff.1 hF).1
    have hG := hrr.1
    have b0 : wr.cell? ⟨g, 0, none⟩ = some (.slice (some ⟨m, 0, none⟩) o.length cap) := by rw [cell_of_row wr _ _ _ _ _ hG]; rfl
    have b1 : wr.cell? ⟨g, 1, none⟩ = some (.int .u32 D) := by rw [cell_of_row wr _ _ _ _ _ hG, ← HD.out]; rfl
    have b7 : wr.cell? ⟨g, 7, none⟩ = some (.int .i64 0) := by rw [cell_of_row wr _ _ _ _ _ hG, ← HPD.out]; rfl
    have e0 : wr.frozen? ⟨g, 0, none⟩ = false := frozen_of_row wr _ _ _ _ hG
    have b2 : wr.cell? ⟨g, 2, none⟩ = some (.int .i64 s.p0) := by rw [cell_of_row wr _ _ _ _ _ hG]; rfl
    have e2 : wr.frozen? ⟨g, 2, none⟩ = false := frozen_of_row wr _ _ _ _ hG
    have b3 : wr.cell? ⟨g, 3, none⟩ = some (.int .i64 s.p1) := by rw [cell_of_row wr _ _ _ _ _ hG]; rfl
    have e3 : wr.frozen? ⟨g, 3, none⟩ = false := frozen_of_row wr _ _ _ _ hG
    have b4 : wr.cell? ⟨g, 4, none⟩ = some (.int .i64 s.p2) := by rw [cell_of_row wr _ _ _ _ _ hG]; rfl
    have e4 : wr.frozen? ⟨g, 4, none⟩ = false := frozen_of_row wr _ _ _ _ hG
    have b5 : wr.cell? ⟨g, 5, none⟩ = some (.int .i64 s.p3) := by rw [cell_of_row wr _ _ _ _ _ hG]; rfl
    have e5 : wr.frozen? ⟨g, 5, none⟩ = false := frozen_of_row wr _ _ _ _ hG
    have b6 : wr.cell? ⟨g, 6, none⟩ = some (.int .i64 s.cnt) := by rw [cell_of_row wr _ _ _ _ _ hG]; rfl
    have e6 : wr.frozen? ⟨g, 6, none⟩ = false := frozen_of_row wr _ _ _ _ hG
    have b8 : wr.cell? ⟨g, 8, none⟩ = some (.bool s.cl) := by rw [cell_of_row wr _ _ _ _ _ hG]; rfl
    have e8 : wr.frozen? ⟨g, 8, none⟩ = false := frozen_of_row wr _ _ _ _ hG
    have e1 : wr.frozen? ⟨g, 1, none⟩ = false := frozen_of_row wr _ _ _ _ hG
    have e7 : wr.frozen? ⟨g, 7, none⟩ = false := frozen_of_row wr _ _ _ _ hG
    obtain ⟨cur, hcur, hcs, hct, hcl⟩ := hrr.2
    have HCU : Hid (wr.heap[m]? = some (.cells cur 5 (0, 0))) := hcur
    clear ho hF hbel hrr hG hcur
    rcases (show k = 0 ∨ k = 1 ∨ k = 2 ∨ k = 3 from by omega) with rfl | rfl | rfl | rfl
    · have bs := beside (O := .cells #[.int .u8 (IntKind.u8.wrap (D / 65536))] 5) (x := .int .u8 (D / 65536 % 256)) (n := o.length) hmg hgl b0 e0
      have bs0 := bs.1
      have bs1 := bs.2
      clear bs
      go_wp2
      go_region_law (refine step_append_room rfl (.tmp 42) (.tmp 52) 31 rfl 5 j0 1 Tryd.underlying31 hi hz1 m 0 o.length cap (by simp [Act.eval]) ⟨wr.heap.size, 0, none⟩ 1 1 [.int .u8 (D / 65536 % 256)] (by simp [Act.eval]) rfl (fun j u hj => cell_sg (w := wr) (t := 5) rfl rfl j u hj) (ints_one [D / 65536 % 256]) (by omega) (spare_ok (cur := cur) (by exact (Below.heap_alloc wr _ m (by omega)).trans HCU.out) (by omega)) ?_)
      all_goals go_wp2
      all_goals
        go_roundw
        case rel => exact ⟨0 + 1, o ++ [D / 65536 % 256], by go_num, by omega, by rw [HO.out, List.append_assoc]; rfl, rd_push (s := { s with out := o }) HRR.out hmg (by simp; omega), fin_other (by omega) (by omega) hwl HF.out, below_push HB.out (by omega) (by omega), fun k h1 h2 h3 => fin_other h2 h1 (by omega) (HOT.out k h1 h2 h3)⟩
        case measure => simp [intOf]
    · have bs := beside (O := .cells #[.int .u8 (IntKind.u8.wrap (D / 256))] 5) (x := .int .u8 (D / 256 % 256)) (n := o.length) hmg hgl b0 e0
      have bs0 := bs.1
      have bs1 := bs.2
      clear bs
      go_wp2
      go_region_law (refine step_append_room rfl (.tmp 42) (.tmp 52) 31 rfl 5 j0 1 Tryd.underlying31 hi hz1 m 0 o.length cap (by simp [Act.eval]) ⟨wr.heap.size, 0, none⟩ 1 1 [.int .u8 (D / 256 % 256)] (by simp [Act.eval]) rfl (fun j u hj => cell_sg (w := wr) (t := 5) rfl rfl j u hj) (ints_one [D / 256 % 256]) (by omega) (spare_ok (cur := cur) (by exact (Below.heap_alloc wr _ m (by omega)).trans HCU.out) (by omega)) ?_)
      all_goals go_wp2
      all_goals
        go_roundw
        case rel => exact ⟨1 + 1, o ++ [D / 256 % 256], by go_num, by omega, by rw [HO.out, List.append_assoc]; rfl, rd_push (s := { s with out := o }) HRR.out hmg (by simp; omega), fin_other (by omega) (by omega) hwl HF.out, below_push HB.out (by omega) (by omega), fun k h1 h2 h3 => fin_other h2 h1 (by omega) (HOT.out k h1 h2 h3)⟩
        case measure => simp [intOf]
    · have bs := beside (O := .cells #[.int .u8 (IntKind.u8.wrap (D))] 5) (x := .int .u8 (D % 256)) (n := o.length) hmg hgl b0 e0
      have bs0 := bs.1
      have bs1 := bs.2
      clear bs
      go_wp2
      go_region_law (refine step_append_room rfl (.tmp 42) (.tmp 52) 31 rfl 5 j0 1 Tryd.underlying31 hi hz1 m 0 o.length cap (by simp [Act.eval]) ⟨wr.heap.size, 0, none⟩ 1 1 [.int .u8 (D % 256)] (by simp [Act.eval]) rfl (fun j u hj => cell_sg (w := wr) (t := 5) rfl rfl j u hj) (ints_one [D % 256]) (by omega) (spare_ok (cur := cur) (by exact (Below.heap_alloc wr _ m (by omega)).trans HCU.out) (by omega)) ?_)
      all_goals go_wp2
      all_goals
        go_roundw
        case rel => exact ⟨2 + 1, o ++ [D % 256], by go_num, by omega, by rw [HO.out, List.append_assoc]; rfl, rd_push (s := { s with out := o }) HRR.out hmg (by simp; omega), fin_other (by omega) (by omega) hwl HF.out, below_push HB.out (by omega) (by omega), fun k h1 h2 h3 => fin_other h2 h1 (by omega) (HOT.out k h1 h2 h3)⟩
        case measure => simp [intOf]
    · have c0 : wr.cell? ⟨w.heap.size, 0, none⟩ = some (.int .i64 0) := by rw [cell_of_row wr _ _ _ _ _ HF.out]; rfl
      have c1 : wr.cell? ⟨w.heap.size, 1, none⟩ = some (.int .i64 0) := by rw [cell_of_row wr _ _ _ _ _ HF.out]; rfl
      have z0 : wr.frozen? ⟨w.heap.size, 0, none⟩ = false := frozen_of_row wr _ _ _ _ HF.out
      have z1 : wr.frozen? ⟨w.heap.size, 1, none⟩ = false := frozen_of_row wr _ _ _ _ HF.out
      go_wp2
      go_region
      go_wp2
      have HX : RP w g m w.heap.size cur (((((((((((wr.setCell ⟨g, 0, none⟩ (.slice (some ⟨m, 0, none⟩) o.length cap)).setCell ⟨g, 1, none⟩ (.int .u32 0)).setCell ⟨g, 2, none⟩ (.int .i64 0)).setCell ⟨g, 3, none⟩ (.int .i64 0)).setCell ⟨g, 4, none⟩ (.int .i64 0)).setCell ⟨g, 5, none⟩ (.int .i64 0)).setCell ⟨g, 6, none⟩ (.int .i64 0)).setCell ⟨g, 7, none⟩ (.int .i64 0)).setCell ⟨g, 8, none⟩ (.bool false)).setCell ⟨w.heap.size, 0, none⟩ (.int .i64 0)).setCell ⟨w.heap.size, 1, none⟩ (.int .i64 0)) _ _ := reset_world (v0 := .slice (some ⟨m, 0, none⟩) o.length cap) (v8 := .bool false) ⟨HRR.out.1, HCU.out, HF.out, HB.out, HOT.out⟩ hmg hglt
      revert HX
      generalize (((((((((((wr.setCell ⟨g, 0, none⟩ (.slice (some ⟨m, 0, none⟩) o.length cap)).setCell ⟨g, 1, none⟩ (.int .u32 0)).setCell ⟨g, 2, none⟩ (.int .i64 0)).setCell ⟨g, 3, none⟩ (.int .i64 0)).setCell ⟨g, 4, none⟩ (.int .i64 0)).setCell ⟨g, 5, none⟩ (.int .i64 0)).setCell ⟨g, 6, none⟩ (.int .i64 0)).setCell ⟨g, 7, none⟩ (.int .i64 0)).setCell ⟨g, 8, none⟩ (.bool false)).setCell ⟨w.heap.size, 0, none⟩ (.int .i64 0)).setCell ⟨w.heap.size, 1, none⟩ (.int .i64 0)) = X
      intro HX
      have q0 : X.cell? ⟨w.heap.size, 0, none⟩ = some (.int .i64 0) := by rw [cell_of_row X _ _ _ _ _ HX.2.2.1]; rfl
      have q1 : X.cell? ⟨w.heap.size, 1, none⟩ = some (.int .i64 0) := by rw [cell_of_row X _ _ _ _ _ HX.2.2.1]; rfl
      have hRD : Rd X g m cap { out := o, dg := 0, p0 := 0, p1 := 0, p2 := 0, p3 := 0, cnt := 0, pads := 0, cl := false } := ⟨HX.1, cur, HX.2.1, hcs, hct, hcl⟩
      rw [HO.out] at hRD
      exact bodyPost_ret (v := .agg #[.int .i64 0, .int .i64 0]) (by simp [results, Tryd.results89, go_sem, q0, q1]) rfl ⟨rfl, HX.2.2.2.1.drew, rd_drew hRD, HX.2.2.2.2⟩

set_option maxRecDepth 100000 in
set_option maxHeartbeats 4000000 in
theorem fin1 (g m cap : Nat) (s : Rs) (w : World) (hr : Rd w g m cap s) (hpads : s.pads = 1) (hd0 : 0 ≤ s.dg) (hd1 : s.dg < 16777216) (hz : s.dg % 256 = 0) (hroom : s.out.length + 3 ≤ cap) (hmg : m < g) :
    Calls Tryd.prog 89 #[.pointer (some ⟨g, 0, none⟩)] w fun e w' => e = .returned (.agg #[.int .i64 0, .int .i64 0]) ∧ Below m w w' ∧ Rd w' g m cap { out := s.out ++ (bytesD s.dg).take 2, dg := 0, p0 := 0, p1 := 0, p2 := 0, p3 := 0, cnt := 0, pads := 0, cl := true } ∧ ∀ k, k ≠ g → k ≠ m → k < w.heap.size → w'.heap[k]? = w.heap[k]? := by
  obtain ⟨j0, hi, hz0, hz1, hz2⟩ := info_parts Tryd.info5
  have hg := hr.1
  have hglt := hr.lt
  have a0 : w.cell? ⟨g, 0, none⟩ = some (.slice (some ⟨m, 0, none⟩) s.out.length cap) := by rw [cell_of_row w _ _ _ _ _ hg]; rfl
  have a1 : w.cell? ⟨g, 1, none⟩ = some (.int .u32 s.dg) := by rw [cell_of_row w _ _ _ _ _ hg]; rfl
  have a2 : w.cell? ⟨g, 2, none⟩ = some (.int .i64 s.p0) := by rw [cell_of_row w _ _ _ _ _ hg]; rfl
  have a3 : w.cell? ⟨g, 3, none⟩ = some (.int .i64 s.p1) := by rw [cell_of_row w _ _ _ _ _ hg]; rfl
  have a4 : w.cell? ⟨g, 4, none⟩ = some (.int .i64 s.p2) := by rw [cell_of_row w _ _ _ _ _ hg]; rfl
  have a5 : w.cell? ⟨g, 5, none⟩ = some (.int .i64 s.p3) := by rw [cell_of_row w _ _ _ _ _ hg]; rfl
  have a6 : w.cell? ⟨g, 6, none⟩ = some (.int .i64 s.cnt) := by rw [cell_of_row w _ _ _ _ _ hg]; rfl
  have a7 : w.cell? ⟨g, 7, none⟩ = some (.int .i64 s.pads) := by rw [cell_of_row w _ _ _ _ _ hg]; rfl
  have a8 : w.cell? ⟨g, 8, none⟩ = some (.bool s.cl) := by rw [cell_of_row w _ _ _ _ _ hg]; rfl
  have f0 : w.frozen? ⟨g, 0, none⟩ = false := frozen_of_row w _ _ _ _ hg
  have f8 : w.frozen? ⟨g, 8, none⟩ = false := frozen_of_row w _ _ _ _ hg
  have f1 : w.frozen? ⟨g, 1, none⟩ = false := frozen_of_row w _ _ _ _ hg
  have f2 : w.frozen? ⟨g, 2, none⟩ = false := frozen_of_row w _ _ _ _ hg
  have f3 : w.frozen? ⟨g, 3, none⟩ = false := frozen_of_row w _ _ _ _ hg
  have f4 : w.frozen? ⟨g, 4, none⟩ = false := frozen_of_row w _ _ _ _ hg
  have f5 : w.frozen? ⟨g, 5, none⟩ = false := frozen_of_row w _ _ _ _ hg
  have f6 : w.frozen? ⟨g, 6, none⟩ = false := frozen_of_row w _ _ _ _ hg
  have f7 : w.frozen? ⟨g, 7, none⟩ = false := frozen_of_row w _ _ _ _ hg
  have HR : Hid (Rd w g m cap s) := hr
  clear hg hr
  rw [hpads] at a7
  have HPD : Hid (s.pads = 1) := hpads
  clear hpads
  obtain ⟨D, hD⟩ : ∃ D, D = s.dg := ⟨_, rfl⟩
  have HD : Hid (s.dg = D) := hD.symm
  rw [← hD] at hd0 hd1 a1 hz ⊢
  clear hD
  have ea : bits .and .u32 D 255 = D % 256 := u32_and255 D (by omega) (by omega)
  have hzb : (D % 256 != 0) = false := by simp; omega
  clear hz
  have hw0 : IntKind.i64.wrap 0 = 0 := by decide
  have hw8 : IntKind.i64.wrap 8 = 8 := by decide
  have hw16 : IntKind.i64.wrap 16 = 16 := by decide
  go_enter Tryd.func89, Tryd.ntmps89
  go_wp2
  clear a0 a1 a2 a3 a4 a5 a6 a7 a8 f0 f1 f2 f3 f4 f5 f6 f7 f8
  go_loopw [35] (fun v wr => ∃ (k : Nat) (o : List Int), v = .int .i64 k ∧ k ≤ 2 ∧ o = s.out ++ (bytesD D).take k ∧ Rd wr g m cap { s with out := o } ∧ wr.heap[w.heap.size]? = some (.cells #[.int .i64 0, .int .i64 0] 48 (0, 0)) ∧ Below m w wr ∧ ∀ k, k ≠ g → k ≠ m → k < w.heap.size → wr.heap[k]? = w.heap[k]?) (fun v _ => 2 - (intOf v).toNat)
  case atStart => exact ⟨0, s.out, rfl, by omega, by simp, rd_alloc hmg HR.out, heap_alloc_new _ _, (Below.refl m w).alloc (by omega) _, fun k _ _ h => Below.heap_alloc w _ k h⟩
  case round =>
    obtain ⟨k, o, rfl, hk, ho, hrr, hF, hbel, hot⟩ := hrel
    have HOT : Hid (∀ k, k ≠ g → k ≠ m → k < w.heap.size → wr.heap[k]? = w.heap[k]?) := hot
    clear hot
    have HO : Hid (o = s.out ++ (bytesD D).take k) := ho
    have HF : Hid (wr.heap[w.heap.size]? = some (.cells #[.int .i64 0, .int .i64 0] 48 (0, 0))) := hF
    have HB : Hid (Below m w wr) := hbel
    have HRR : Hid (Rd wr g m cap { s with out := o }) := hrr
    have hol : o.length ≤ s.out.length + k := by rw [ho]; simp [bytesD]; omega
    have hgl := hrr.lt
    have hsz := hbel.size
    have hwl : w.heap.size < wr.heap.size := (Array.getElem?_eq_some_iff.1 hF).1
    have hG := hrr.1
    have b0 : wr.cell? ⟨g, 0, none⟩ = some (.slice (some ⟨m, 0, none⟩) o.length cap) := by rw [cell_of_row wr _ _ _ _ _ hG]; rfl
    have b1 : wr.cell? ⟨g, 1, none⟩ = some (.int .u32 D) := by rw [cell_of_row wr _ _ _ _ _ hG, ← HD.out]; rfl
    have b7 : wr.cell? ⟨g, 7, none⟩ = some (.int .i64 1) := by rw [cell_of_row wr _ _ _ _ _ hG, ← HPD.out]; rfl
    have e0 : wr.frozen? ⟨g, 0, none⟩ = false := frozen_of_row wr _ _ _ _ hG
    have b2 : wr.cell? ⟨g, 2, none⟩ = some (.int .i64 s.p0) := by rw [cell_of_row wr _ _ _ _ _ hG]; rfl
    have e2 : wr.frozen? ⟨g, 2, none⟩ = false := frozen_of_row wr _ _ _ _ hG
    have b3 : wr.cell? ⟨g, 3, none⟩ = some (.int .i64 s.p1) := by rw [cell_of_row wr _ _ _ _ _ hG]; rfl
    have e3 : wr.frozen? ⟨g, 3, none⟩ = false := frozen_of_row wr _ _ _ _ hG
    have b4 : wr.cell? ⟨g, 4, none⟩ = some (.int .i64 s.p2) := by rw [cell_of_row wr _ _ _ _ _ hG]; rfl
    have e4 : wr.frozen? ⟨g, 4, none⟩ = false := frozen_of_row wr _ _ _ _ hG
    have b5 : wr.cell? ⟨g, 5, none⟩ = some (.int .i64 s.p3) := by rw [cell_of_row wr _ _ _ _ _ hG]; rfl
    have e5 : wr.frozen? ⟨g, 5, none⟩ = false := frozen_of_row wr _ _ _ _ hG
    have b6 : wr.cell? ⟨g, 6, none⟩ = some (.int .i64 s.cnt) := by rw [cell_of_row wr _ _ _ _ _ hG]; rfl
    have e6 : wr.frozen? ⟨g, 6, none⟩ = false := frozen_of_row wr _ _ _ _ hG
    have b8 : wr.cell? ⟨g, 8, none⟩ = some (.bool s.cl) := by rw [cell_of_row wr _ _ _ _ _ hG]; rfl
    have e8 : wr.frozen? ⟨g, 8, none⟩ = false := frozen_of_row wr _ _ _ _ hG
    have e1 : wr.frozen? ⟨g, 1, none⟩ = false := frozen_of_row wr _ _ _ _ hG
    have e7 : wr.frozen? ⟨g, 7, none⟩ = false := frozen_of_row wr _ _ _ _ hG
    obtain ⟨cur, hcur, hcs, hct, hcl⟩ := hrr.2
    have HCU : Hid (wr.heap[m]? = some (.cells cur 5 (0, 0))) := hcur
    clear ho hF hbel hrr hG hcur
    rcases (show k = 0 ∨ k = 1 ∨ k = 2 from by omega) with rfl | rfl | rfl
    · have bs := beside (O := .cells #[.int .u8 (IntKind.u8.wrap (D / 65536))] 5) (x := .int .u8 (D / 65536 % 256)) (n := o.length) hmg hgl b0 e0
      have bs0 := bs.1
      have bs1 := bs.2
      clear bs
      go_wp2
      go_region_law (refine step_append_room rfl (.tmp 42) (.tmp 52) 31 rfl 5 j0 1 Tryd.underlying31 hi hz1 m 0 o.length cap (by simp [Act.eval]) ⟨wr.heap.size, 0, none⟩ 1 1 [.int .u8 (D / 65536 % 256)] (by simp [Act.eval]) rfl (fun j u hj => cell_sg (w := wr) (t := 5) rfl rfl j u hj) (ints_one [D / 65536 % 256]) (by omega) (spare_ok (cur := cur) (by exact (Below.heap_alloc wr _ m (by omega)).trans HCU.out) (by omega)) ?_)
      all_goals go_wp2
      all_goals
        go_roundw
        case rel => exact ⟨0 + 1, o ++ [D / 65536 % 256], by go_num, by omega, by rw [HO.out, List.append_assoc]; rfl, rd_push (s := { s with out := o }) HRR.out hmg (by simp; omega), fin_other (by omega) (by omega) hwl HF.out, below_push HB.out (by omega) (by omega), fun k h1 h2 h3 => fin_other h2 h1 (by omega) (HOT.out k h1 h2 h3)⟩
        case measure => simp [intOf]
    · have bs := beside (O := .cells #[.int .u8 (IntKind.u8.wrap (D / 256))] 5) (x := .int .u8 (D / 256 % 256)) (n := o.length) hmg hgl b0 e0
      have bs0 := bs.1
      have bs1 := bs.2
      clear bs
      go_wp2
      go_region_law (refine step_append_room rfl (.tmp 42) (.tmp 52) 31 rfl 5 j0 1 Tryd.underlying31 hi hz1 m 0 o.length cap (by simp [Act.eval]) ⟨wr.heap.size, 0, none⟩ 1 1 [.int .u8 (D / 256 % 256)] (by simp [Act.eval]) rfl (fun j u hj => cell_sg (w := wr) (t := 5) rfl rfl j u hj) (ints_one [D / 256 % 256]) (by omega) (spare_ok (cur := cur) (by exact (Below.heap_alloc wr _ m (by omega)).trans HCU.out) (by omega)) ?_)
      all_goals go_wp2
      all_goals
        go_roundw
        case rel => exact ⟨1 + 1, o ++ [D / 256 % 256], by go_num, by omega, by rw [HO.out, List.append_assoc]; rfl, rd_push (s := { s with out := o }) HRR.out hmg (by simp; omega), fin_other (by omega) (by omega) hwl HF.out, below_push HB.out (by omega) (by omega), fun k h1 h2 h3 => fin_other h2 h1 (by omega) (HOT.out k h1 h2 h3)⟩
        case measure => simp [intOf]
    · have c0 : wr.cell? ⟨w.heap.size, 0, none⟩ = some (.int .i64 0) := by rw [cell_of_row wr _ _ _ _ _ HF.out]; rfl
      have c1 : wr.cell? ⟨w.heap.size, 1, none⟩ = some (.int .i64 0) := by rw [cell_of_row wr _ _ _ _ _ HF.out]; rfl
      have z0 : wr.frozen? ⟨w.heap.size, 0, none⟩ = false := frozen_of_row wr _ _ _ _ HF.out
      have z1 : wr.frozen? ⟨w.heap.size, 1, none⟩ = false := frozen_of_row wr _ _ _ _ HF.out
      go_wp2
      go_region
      go_wp2
      have HX : RP w g m w.heap.size cur (((((((((((wr.setCell ⟨g, 0, none⟩ (.slice (some ⟨m, 0, none⟩) o.length cap)).setCell ⟨g, 1, none⟩ (.int .u32 0)).setCell ⟨g, 2, none⟩ (.int .i64 0)).setCell ⟨g, 3, none⟩ (.int .i64 0)).setCell ⟨g, 4, none⟩ (.int .i64 0)).setCell ⟨g, 5, none⟩ (.int .i64 0)).setCell ⟨g, 6, none⟩ (.int .i64 0)).setCell ⟨g, 7, none⟩ (.int .i64 0)).setCell ⟨g, 8, none⟩ (.bool true)).setCell ⟨w.heap.size, 0, none⟩ (.int .i64 0)).setCell ⟨w.heap.size, 1, none⟩ (.int .i64 0)) _ _ := reset_world (v0 := .slice (some ⟨m, 0, none⟩) o.length cap) (v8 := .bool true) ⟨HRR.out.1, HCU.out, HF.out, HB.out, HOT.out⟩ hmg hglt
      revert HX
      generalize (((((((((((wr.setCell ⟨g, 0, none⟩ (.slice (some ⟨m, 0, none⟩) o.length cap)).setCell ⟨g, 1, none⟩ (.int .u32 0)).setCell ⟨g, 2, none⟩ (.int .i64 0)).setCell ⟨g, 3, none⟩ (.int .i64 0)).setCell ⟨g, 4, none⟩ (.int .i64 0)).setCell ⟨g, 5, none⟩ (.int .i64 0)).setCell ⟨g, 6, none⟩ (.int .i64 0)).setCell ⟨g, 7, none⟩ (.int .i64 0)).setCell ⟨g, 8, none⟩ (.bool true)).setCell ⟨w.heap.size, 0, none⟩ (.int .i64 0)).setCell ⟨w.heap.size, 1, none⟩ (.int .i64 0)) = X
      intro HX
      have q0 : X.cell? ⟨w.heap.size, 0, none⟩ = some (.int .i64 0) := by rw [cell_of_row X _ _ _ _ _ HX.2.2.1]; rfl
      have q1 : X.cell? ⟨w.heap.size, 1, none⟩ = some (.int .i64 0) := by rw [cell_of_row X _ _ _ _ _ HX.2.2.1]; rfl
      have hRD : Rd X g m cap { out := o, dg := 0, p0 := 0, p1 := 0, p2 := 0, p3 := 0, cnt := 0, pads := 0, cl := true } := ⟨HX.1, cur, HX.2.1, hcs, hct, hcl⟩
      rw [HO.out] at hRD
      exact bodyPost_ret (v := .agg #[.int .i64 0, .int .i64 0]) (by simp [results, Tryd.results89, go_sem, q0, q1]) rfl ⟨rfl, HX.2.2.2.1.drew, rd_drew hRD, HX.2.2.2.2⟩

set_option maxRecDepth 100000 in
set_option maxHeartbeats 4000000 in
theorem fin2 (g m cap : Nat) (s : Rs) (w : World) (hr : Rd w g m cap s) (hpads : s.pads = 2) (hd0 : 0 ≤ s.dg) (hd1 : s.dg < 16777216) (hz : s.dg % 65536 = 0) (hroom : s.out.length + 3 ≤ cap) (hmg : m < g) :
    Calls Tryd.prog 89 #[.pointer (some ⟨g, 0, none⟩)] w fun e w' => e = .returned (.agg #[.int .i64 0, .int .i64 0]) ∧ Below m w w' ∧ Rd w' g m cap { out := s.out ++ (bytesD s.dg).take 1, dg := 0, p0 := 0, p1 := 0, p2 := 0, p3 := 0, cnt := 0, pads := 0, cl := true } ∧ ∀ k, k ≠ g → k ≠ m → k < w.heap.size → w'.heap[k]? = w.heap[k]? := by
  obtain ⟨j0, hi, hz0, hz1, hz2⟩ := info_parts Tryd.info5
  have hg := hr.1
  have hglt := hr.lt
  have a0 : w.cell? ⟨g, 0, none⟩ = some (.slice (some ⟨m, 0, none⟩) s.out.length cap) := by rw [cell_of_row w _ _ _ _ _ hg]; rfl
  have a1 : w.cell? ⟨g, 1, none⟩ = some (.int .u32 s.dg) := by rw [cell_of_row w _ _ _ _ _ hg]; rfl
  have a2 : w.cell? ⟨g, 2, none⟩ = some (.int .i64 s.p0) := by rw [cell_of_row w _ _ _ _ _ hg]; rfl
  have a3 : w.cell? ⟨g, 3, none⟩ = some (.int .i64 s.p1) := by rw [cell_of_row w _ _ _ _ _ hg]; rfl
  have a4 : w.cell? ⟨g, 4, none⟩ = some (.int .i64 s.p2) := by rw [cell_of_row w _ _ _ _ _ hg]; rfl
  have a5 : w.cell? ⟨g, 5, none⟩ = some (.int .i64 s.p3) := by rw [cell_of_row w _ _ _ _ _ hg]; rfl
  have a6 : w.cell? ⟨g, 6, none⟩ = some (.int .i64 s.cnt) := by rw [cell_of_row w _ _ _ _ _ hg]; rfl
  have a7 : w.cell? ⟨g, 7, none⟩ = some (.int .i64 s.pads) := by rw [cell_of_row w _ _ _ _ _ hg]; rfl
  have a8 : w.cell? ⟨g, 8, none⟩ = some (.bool s.cl) := by rw [cell_of_row w _ _ _ _ _ hg]; rfl
  have f0 : w.frozen? ⟨g, 0, none⟩ = false := frozen_of_row w _ _ _ _ hg
  have f8 : w.frozen? ⟨g, 8, none⟩ = false := frozen_of_row w _ _ _ _ hg
  have f1 : w.frozen? ⟨g, 1, none⟩ = false := frozen_of_row w _ _ _ _ hg
  have f2 : w.frozen? ⟨g, 2, none⟩ = false := frozen_of_row w _ _ _ _ hg
  have f3 : w.frozen? ⟨g, 3, none⟩ = false := frozen_of_row w _ _ _ _ hg
  have f4 : w.frozen? ⟨g, 4, none⟩ = false := frozen_of_row w _ _ _ _ hg
  have f5 : w.frozen? ⟨g, 5, none⟩ = false := frozen_of_row w _ _ _ _ hg
  have f6 : w.frozen? ⟨g, 6, none⟩ = false := frozen_of_row w _ _ _ _ hg
  have f7 : w.frozen? ⟨g, 7, none⟩ = false := frozen_of_row w _ _ _ _ hg
  have HR : Hid (Rd w g m cap s) := hr
  clear hg hr
  rw [hpads] at a7
  have HPD : Hid (s.pads = 2) := hpads
  clear hpads
  obtain ⟨D, hD⟩ : ∃ D, D = s.dg := ⟨_, rfl⟩
  have HD : Hid (s.dg = D) := hD.symm
  rw [← hD] at hd0 hd1 a1 hz ⊢
  clear hD
  have ea : bits .and .u32 D 65535 = D % 65536 := u32_and65535 D (by omega) (by omega)
  have hzb : (D % 65536 != 0) = false := by simp; omega
  clear hz
  have hw0 : IntKind.i64.wrap 0 = 0 := by decide
  have hw8 : IntKind.i64.wrap 8 = 8 := by decide
  have hw16 : IntKind.i64.wrap 16 = 16 := by decide
  go_enter Tryd.func89, Tryd.ntmps89
  go_wp2
  clear a0 a1 a2 a3 a4 a5 a6 a7 a8 f0 f1 f2 f3 f4 f5 f6 f7 f8
  go_loopw [35] (fun v wr => ∃ (k : Nat) (o : List Int), v = .int .i64 k ∧ k ≤ 1 ∧ o = s.out ++ (bytesD D).take k ∧ Rd wr g m cap { s with out := o } ∧ wr.heap[w.heap.size]? = some (.cells #[.int .i64 0, .int .i64 0] 48 (0, 0)) ∧ Below m w wr ∧ ∀ k, k ≠ g → k ≠ m → k < w.heap.size → wr.heap[k]? = w.heap[k]?) (fun v _ => 1 - (intOf v).toNat)
  case atStart => exact ⟨0, s.out, rfl, by omega, by simp, rd_alloc hmg HR.out, heap_alloc_new _ _, (Below.refl m w).alloc (by omega) _, fun k _ _ h => Below.heap_alloc w _ k h⟩
  case round =>
    obtain ⟨k, o, rfl, hk, ho, hrr, hF, hbel, hot⟩ := hrel
    have HOT : Hid (∀ k, k ≠ g → k ≠ m → k < w.heap.size → wr.heap[k]? = w.heap[k]?) := hot
    clear hot
    have HO : Hid (o = s.out ++ (bytesD D).take k) := ho
    have HF : Hid (wr.heap[w.heap.size]? = some (.cells #[.int .i64 0, .int .i64 0] 48 (0, 0))) := hF
    have HB : Hid (Below m w wr) := hbel
    have HRR : Hid (Rd wr g m cap { s with out := o }) := hrr
    have hol : o.length ≤ s.out.length + k := by rw [ho]; simp [bytesD]; omega
    have hgl := hrr.lt
    have hsz := hbel.size
    have hwl : w.heap.size < wr.heap.size := (Array.getElem?_eq_some_iff.1 hF).1
    have hG := hrr.1
    have b0 : wr.cell? ⟨g, 0, none⟩ = some (.slice (some ⟨m, 0, none⟩) o.length cap) := by rw [cell_of_row wr _ _ _ _ _ hG]; rfl
    have b1 : wr.cell? ⟨g, 1, none⟩ = some (.int .u32 D) := by rw [cell_of_row wr _ _ _ _ _ hG, ← HD.out]; rfl
    have b7 : wr.cell? ⟨g, 7, none⟩ = some (.int .i64 2) := by rw [cell_of_row wr _ _ _ _ _ hG, ← HPD.out]; rfl
    have e0 : wr.frozen? ⟨g, 0, none⟩ = false := frozen_of_row wr _ _ _ _ hG
    have b2 : wr.cell? ⟨g, 2, none⟩ = some (.int .i64 s.p0) := by rw [cell_of_row wr _ _ _ _ _ hG]; rfl
    have e2 : wr.frozen? ⟨g, 2, none⟩ = false := frozen_of_row wr _ _ _ _ hG
    have b3 : wr.cell? ⟨g, 3, none⟩ = some (.int .i64 s.p1) := by rw [cell_of_row wr _ _ _ _ _ hG]; rfl
    have e3 : wr.frozen? ⟨g, 3, none⟩ = false := frozen_of_row wr _ _ _ _ hG
    have b4 : wr.cell? ⟨g, 4, none⟩ = some (.int .i64 s.p2) := by rw [cell_of_row wr _ _ _ _ _ hG]; rfl
    have e4 : wr.frozen? ⟨g, 4, none⟩ = false := frozen_of_row wr _ _ _ _ hG
    have b5 : wr.cell? ⟨g, 5, none⟩ = some (.int .i64 s.p3) := by rw [cell_of_row wr _ _ _ _ _ hG]; rfl
    have e5 : wr.frozen? ⟨g, 5, none⟩ = false := frozen_of_row wr _ _ _ _ hG
    have b6 : wr.cell? ⟨g, 6, none⟩ = some (.int .i64 s.cnt) := by rw [cell_of_row wr _ _ _ _ _ hG]; rfl
    have e6 : wr.frozen? ⟨g, 6, none⟩ = false := frozen_of_row wr _ _ _ _ hG
    have b8 : wr.cell? ⟨g, 8, none⟩ = some (.bool s.cl) := by rw [cell_of_row wr _ _ _ _ _ hG]; rfl
    have e8 : wr.frozen? ⟨g, 8, none⟩ = false := frozen_of_row wr _ _ _ _ hG
    have e1 : wr.frozen? ⟨g, 1, none⟩ = false := frozen_of_row wr _ _ _ _ hG
    have e7 : wr.frozen? ⟨g, 7, none⟩ = false := frozen_of_row wr _ _ _ _ hG
    obtain ⟨cur, hcur, hcs, hct, hcl⟩ := hrr.2
    have HCU : Hid (wr.heap[m]? = some (.cells cur 5 (0, 0))) := hcur
    clear ho hF hbel hrr hG hcur
    rcases (show k = 0 ∨ k = 1 from by omega) with rfl | rfl
    · have bs := beside (O := .cells #[.int .u8 (IntKind.u8.wrap (D / 65536))] 5) (x := .int .u8 (D / 65536 % 256)) (n := o.length) hmg hgl b0 e0
      have bs0 := bs.1
      have bs1 := bs.2
      clear bs
      go_wp2
      go_region_law (refine step_append_room rfl (.tmp 42) (.tmp 52) 31 rfl 5 j0 1 Tryd.underlying31 hi hz1 m 0 o.length cap (by simp [Act.eval]) ⟨wr.heap.size, 0, none⟩ 1 1 [.int .u8 (D / 65536 % 256)] (by simp [Act.eval]) rfl (fun j u hj => cell_sg (w := wr) (t := 5) rfl rfl j u hj) (ints_one [D / 65536 % 256]) (by omega) (spare_ok (cur := cur) (by exact (Below.heap_alloc wr _ m (by omega)).trans HCU.out) (by omega)) ?_)
      all_goals go_wp2
      all_goals
        go_roundw
        case rel => exact ⟨0 + 1, o ++ [D / 65536 % 256], by go_num, by omega, by rw [HO.out, List.append_assoc]; rfl, rd_push (s := { s with out := o }) HRR.out hmg (by simp; omega), fin_other (by omega) (by omega) hwl HF.out, below_push HB.out (by omega) (by omega), fun k h1 h2 h3 => fin_other h2 h1 (by omega) (HOT.out k h1 h2 h3)⟩
        case measure => simp [intOf]
    · have c0 : wr.cell? ⟨w.heap.size, 0, none⟩ = some (.int .i64 0) := by rw [cell_of_row wr _ _ _ _ _ HF.out]; rfl
      have c1 : wr.cell? ⟨w.heap.size, 1, none⟩ = some (.int .i64 0) := by rw [cell_of_row wr _ _ _ _ _ HF.out]; rfl
      have z0 : wr.frozen? ⟨w.heap.size, 0, none⟩ = false := frozen_of_row wr _ _ _ _ HF.out
      have z1 : wr.frozen? ⟨w.heap.size, 1, none⟩ = false := frozen_of_row wr _ _ _ _ HF.out
      go_wp2
      go_region
      go_wp2
      have HX : RP w g m w.heap.size cur (((((((((((wr.setCell ⟨g, 0, none⟩ (.slice (some ⟨m, 0, none⟩) o.length cap)).setCell ⟨g, 1, none⟩ (.int .u32 0)).setCell ⟨g, 2, none⟩ (.int .i64 0)).setCell ⟨g, 3, none⟩ (.int .i64 0)).setCell ⟨g, 4, none⟩ (.int .i64 0)).setCell ⟨g, 5, none⟩ (.int .i64 0)).setCell ⟨g, 6, none⟩ (.int .i64 0)).setCell ⟨g, 7, none⟩ (.int .i64 0)).setCell ⟨g, 8, none⟩ (.bool true)).setCell ⟨w.heap.size, 0, none⟩ (.int .i64 0)).setCell ⟨w.heap.size, 1, none⟩ (.int .i64 0)) _ _ := reset_world (v0 := .slice (some ⟨m, 0, none⟩) o.length cap) (v8 := .bool true) ⟨HRR.out.1, HCU.out, HF.out, HB.out, HOT.out⟩ hmg hglt
      revert HX
      generalize (((((((((((wr.setCell ⟨g, 0, none⟩ (.slice (some ⟨m, 0, none⟩) o.length cap)).setCell ⟨g, 1, none⟩ (.int .u32 0)).setCell ⟨g, 2, none⟩ (.int .i64 0)).setCell ⟨g, 3, none⟩ (.int .i64 0)).setCell ⟨g, 4, none⟩ (.int .i64 0)).setCell ⟨g, 5, none⟩ (.int .i64 0)).setCell ⟨g, 6, none⟩ (.int .i64 0)).setCell ⟨g, 7, none⟩ (.int .i64 0)).setCell ⟨g, 8, none⟩ (.bool true)).setCell ⟨w.heap.size, 0, none⟩ (.int .i64 0)).setCell ⟨w.heap.size, 1, none⟩ (.int .i64 0)) = X
      intro HX
      have q0 : X.cell? ⟨w.heap.size, 0, none⟩ = some (.int .i64 0) := by rw [cell_of_row X _ _ _ _ _ HX.2.2.1]; rfl
      have q1 : X.cell? ⟨w.heap.size, 1, none⟩ = some (.int .i64 0) := by rw [cell_of_row X _ _ _ _ _ HX.2.2.1]; rfl
      have hRD : Rd X g m cap { out := o, dg := 0, p0 := 0, p1 := 0, p2 := 0, p3 := 0, cnt := 0, pads := 0, cl := true } := ⟨HX.1, cur, HX.2.1, hcs, hct, hcl⟩
      rw [HO.out] at hRD
      exact bodyPost_ret (v := .agg #[.int .i64 0, .int .i64 0]) (by simp [results, Tryd.results89, go_sem, q0, q1]) rfl ⟨rfl, HX.2.2.2.1.drew, rd_drew hRD, HX.2.2.2.2⟩

set_option maxRecDepth 100000 in
set_option maxHeartbeats 1000000 in
theorem finf1 (g m cap : Nat) (s : Rs) (w : World) (hr : Rd w g m cap s) (hpads : s.pads = 1) (hd0 : 0 ≤ s.dg) (hd1 : s.dg < 16777216) (hz : s.dg % 256 ≠ 0) (hmg : m < g) :
    Calls Tryd.prog 89 #[.pointer (some ⟨g, 0, none⟩)] w fun e w' => e = .returned (.agg #[.int .i64 s.p2, .int .i64 12]) ∧ Below m w w' ∧ ∀ k, k ≠ g → k ≠ m → k < w.heap.size → w'.heap[k]? = w.heap[k]? := by
  have hg := hr.1
  have hglt := hr.lt
  have a0 : w.cell? ⟨g, 0, none⟩ = some (.slice (some ⟨m, 0, none⟩) s.out.length cap) := by rw [cell_of_row w _ _ _ _ _ hg]; rfl
  have a1 : w.cell? ⟨g, 1, none⟩ = some (.int .u32 s.dg) := by rw [cell_of_row w _ _ _ _ _ hg]; rfl
  have a2 : w.cell? ⟨g, 2, none⟩ = some (.int .i64 s.p0) := by rw [cell_of_row w _ _ _ _ _ hg]; rfl
  have a3 : w.cell? ⟨g, 3, none⟩ = some (.int .i64 s.p1) := by rw [cell_of_row w _ _ _ _ _ hg]; rfl
  have a4 : w.cell? ⟨g, 4, none⟩ = some (.int .i64 s.p2) := by rw [cell_of_row w _ _ _ _ _ hg]; rfl
  have a5 : w.cell? ⟨g, 5, none⟩ = some (.int .i64 s.p3) := by rw [cell_of_row w _ _ _ _ _ hg]; rfl
  have a6 : w.cell? ⟨g, 6, none⟩ = some (.int .i64 s.cnt) := by rw [cell_of_row w _ _ _ _ _ hg]; rfl
  have a7 : w.cell? ⟨g, 7, none⟩ = some (.int .i64 s.pads) := by rw [cell_of_row w _ _ _ _ _ hg]; rfl
  have a8 : w.cell? ⟨g, 8, none⟩ = some (.bool s.cl) := by rw [cell_of_row w _ _ _ _ _ hg]; rfl
  have f0 : w.frozen? ⟨g, 0, none⟩ = false := frozen_of_row w _ _ _ _ hg
  have f8 : w.frozen? ⟨g, 8, none⟩ = false := frozen_of_row w _ _ _ _ hg
  have f1 : w.frozen? ⟨g, 1, none⟩ = false := frozen_of_row w _ _ _ _ hg
  have f2 : w.frozen? ⟨g, 2, none⟩ = false := frozen_of_row w _ _ _ _ hg
  have f3 : w.frozen? ⟨g, 3, none⟩ = false := frozen_of_row w _ _ _ _ hg
  have f4 : w.frozen? ⟨g, 4, none⟩ = false := frozen_of_row w _ _ _ _ hg
  have f5 : w.frozen? ⟨g, 5, none⟩ = false := frozen_of_row w _ _ _ _ hg
  have f6 : w.frozen? ⟨g, 6, none⟩ = false := frozen_of_row w _ _ _ _ hg
  have f7 : w.frozen? ⟨g, 7, none⟩ = false := frozen_of_row w _ _ _ _ hg
  have HR : Hid (Rd w g m cap s) := hr
  clear hg hr
  rw [hpads] at a7
  clear hpads
  obtain ⟨D, hD⟩ : ∃ D, D = s.dg := ⟨_, rfl⟩
  rw [← hD] at hd0 hd1 a1 hz
  clear hD
  have ea : bits .and .u32 D 255 = D % 256 := u32_and255 D (by omega) (by omega)
  have hzb : (D % 256 != 0) = true := by rw [bne_iff_ne]; exact hz
  have hw1 : IntKind.i64.wrap 1 = 1 := by decide
  have hw2 : IntKind.i64.wrap 2 = 2 := by decide
  clear hz
  go_enter Tryd.func89, Tryd.ntmps89
  go_wp2
  go_region
  go_wp2
  exact bodyPost_ret (v := .agg #[.int .i64 s.p2, .int .i64 12]) (by simp [results, Tryd.results89, go_sem]) rfl ⟨rfl, ((Below.refl m w).alloc (by omega) _).drew, fun k _ _ h => Below.heap_alloc w _ k h⟩

set_option maxRecDepth 100000 in
set_option maxHeartbeats 1000000 in
theorem finf2 (g m cap : Nat) (s : Rs) (w : World) (hr : Rd w g m cap s) (hpads : s.pads = 2) (hd0 : 0 ≤ s.dg) (hd1 : s.dg < 16777216) (hz : s.dg % 65536 ≠ 0) (hmg : m < g) :
    Calls Tryd.prog 89 #[.pointer (some ⟨g, 0, none⟩)] w fun e w' => e = .returned (.agg #[.int .i64 s.p1, .int .i64 12]) ∧ Below m w w' ∧ ∀ k, k ≠ g → k ≠ m → k < w.heap.size → w'.heap[k]? = w.heap[k]? := by
  have hg := hr.1
  have hglt := hr.lt
  have a0 : w.cell? ⟨g, 0, none⟩ = some (.slice (some ⟨m, 0, none⟩) s.out.length cap) := by rw [cell_of_row w _ _ _ _ _ hg]; rfl
  have a1 : w.cell? ⟨g, 1, none⟩ = some (.int .u32 s.dg) := by rw [cell_of_row w _ _ _ _ _ hg]; rfl
  have a2 : w.cell? ⟨g, 2, none⟩ = some (.int .i64 s.p0) := by rw [cell_of_row w _ _ _ _ _ hg]; rfl
  have a3 : w.cell? ⟨g, 3, none⟩ = some (.int .i64 s.p1) := by rw [cell_of_row w _ _ _ _ _ hg]; rfl
  have a4 : w.cell? ⟨g, 4, none⟩ = some (.int .i64 s.p2) := by rw [cell_of_row w _ _ _ _ _ hg]; rfl
  have a5 : w.cell? ⟨g, 5, none⟩ = some (.int .i64 s.p3) := by rw [cell_of_row w _ _ _ _ _ hg]; rfl
  have a6 : w.cell? ⟨g, 6, none⟩ = some (.int .i64 s.cnt) := by rw [cell_of_row w _ _ _ _ _ hg]; rfl
  have a7 : w.cell? ⟨g, 7, none⟩ = some (.int .i64 s.pads) := by rw [cell_of_row w _ _ _ _ _ hg]; rfl
  have a8 : w.cell? ⟨g, 8, none⟩ = some (.bool s.cl) := by rw [cell_of_row w _ _ _ _ _ hg]; rfl
  have f0 : w.frozen? ⟨g, 0, none⟩ = false := frozen_of_row w _ _ _ _ hg
  have f8 : w.frozen? ⟨g, 8, none⟩ = false := frozen_of_row w _ _ _ _ hg
  have f1 : w.frozen? ⟨g, 1, none⟩ = false := frozen_of_row w _ _ _ _ hg
  have f2 : w.frozen? ⟨g, 2, none⟩ = false := frozen_of_row w _ _ _ _ hg
  have f3 : w.frozen? ⟨g, 3, none⟩ = false := frozen_of_row w _ _ _ _ hg
  have f4 : w.frozen? ⟨g, 4, none⟩ = false := frozen_of_row w _ _ _ _ hg
  have f5 : w.frozen? ⟨g, 5, none⟩ = false := frozen_of_row w _ _ _ _ hg
  have f6 : w.frozen? ⟨g, 6, none⟩ = false := frozen_of_row w _ _ _ _ hg
  have f7 : w.frozen? ⟨g, 7, none⟩ = false := frozen_of_row w _ _ _ _ hg
  have HR : Hid (Rd w g m cap s) := hr
  clear hg hr
  rw [hpads] at a7
  clear hpads
  obtain ⟨D, hD⟩ : ∃ D, D = s.dg := ⟨_, rfl⟩
  rw [← hD] at hd0 hd1 a1 hz
  clear hD
  have ea : bits .and .u32 D 65535 = D % 65536 := u32_and65535 D (by omega) (by omega)
  have hzb : (D % 65536 != 0) = true := by rw [bne_iff_ne]; exact hz
  have hw1 : IntKind.i64.wrap 1 = 1 := by decide
  have hw2 : IntKind.i64.wrap 2 = 2 := by decide
  clear hz
  go_enter Tryd.func89, Tryd.ntmps89
  go_wp2
  go_region
  go_wp2
  exact bodyPost_ret (v := .agg #[.int .i64 s.p1, .int .i64 12]) (by simp [results, Tryd.results89, go_sem]) rfl ⟨rfl, ((Below.refl m w).alloc (by omega) _).drew, fun k _ _ h => Below.heap_alloc w _ k h⟩
end Go.Proofs.YtnhbmekhmkkccaaDoor.Bt
