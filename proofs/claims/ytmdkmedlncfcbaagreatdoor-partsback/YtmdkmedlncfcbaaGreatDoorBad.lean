/-
  The contract of begin, where the field ahead of it may not be shut.
-/
import Derived.Test.YtmdkmedlncfcbaaGreatDoorClone
import Derived.Deep.RegionLaw
import Derived.Lib.SlBytesConst
namespace Go.Proofs.YtmdkmedlncfcbaaGreatDoor
open Go.RowKit
set_option linter.unusedVariables false

theorem row_mark (w : World) (l : List Int) (fr : Nat × Nat) : Row (w.alloc (.cells (l.map (Value.int .u8)).toArray 5 fr)) (some ⟨w.heap.size, 0, none⟩) l :=
  .inr ⟨w.heap.size, 0, rfl, fun i hi => by
    rw [World.cell?_alloc_mark]; simp [List.getD_eq_getElem?_getD, List.getElem?_eq_getElem hi]⟩
theorem conv_const (X : World) (C : Array Value) (n c g : Nat) (hg : X.heap.size = g) :
    (convert 22 22 (.slice (some ⟨g, 0, none⟩) n c)).run Tryz.prog (X.alloc (.cells C 5)) = .ok (.slice (some ⟨g, 0, none⟩) n c) (X.alloc (.cells C 5 (C.size, C.size + 1))) := by
  subst hg; exact Lib.run_convert_bytes_const X 22 5 C n c Tryz.underlying22 Tryz.underlying5

set_option maxHeartbeats 2000000 in
set_option maxRecDepth 100000 in
theorem begin_bad (B g : Nat) (s : HS) (w : World) (hr : Hd w B g s) (hby : Byt s.val) (hlen : s.val.length ≤ 1000000000) (hfs : s.fs.length ≤ 128) (p : Int) (a : Option Addr) (m c : Nat) (l : List Int) (hl : l.length = m) (hbl : Byt l) (hm : m ≤ 1000000) (hmc : m ≤ c) (hnil : a = none → c = 0) (hrow : ∀ w', Bx B g w w' → Row w' a l) (hsb : shutB s = false) :
    Calls Tryz.prog 65 #[.pointer (some ⟨g, 0, none⟩), .int .i64 p, .slice a m c] w fun e w' => e = .returned (beginF s p l) ∧ Hd w' B g (beginZ s p l) ∧ Bx B g w w' ∧ Tk w w' := by
  have HR : Hid (Hd w B g s) := hr
  obtain ⟨h1, h2, _⟩ := hr
  have hgw : g < w.heap.size := by omega
  have HBY : Hid (Byt s.val) := hby
  have HBL : Hid (Byt l) := hbl
  have HRW : Hid (∀ w', Bx B g w w' → Row w' a l) := hrow
  clear hby hbl hrow
  go_enter Tryz.func65, Tryz.ntmps65
  go_wp2_with fail
  refine (shut_any B g s _ (HR.out.alloc _) HBY.out hlen hfs).mono ?_
  rintro e w1 ⟨rfl, hH1, hX1, hT1⟩
  have HH1 : Hid (Hd w1 B g (shutZ s)) := hH1
  have HX1 : Hid (Bx B g w w1) := (Bx.alloc w _ h1 h2).trans hX1
  have HT1 : Hid (Tk w w1) := (Tk.below (keep w _)).trans hT1
  have hres : w1.heap[w.heap.size]? = some (.cells #[.int .i64 0, .int .i64 0] 55 (0, 0)) := hT1.f (heap_alloc_last w _)
  have HS1 : Hid (w1.heap[w.heap.size]? = some (.cells #[.int .i64 0, .int .i64 0] 55 (0, 0))) := hres
  have hlt1 : w.heap.size < w1.heap.size := (Array.getElem?_eq_some_iff.1 hres).1
  have d0 : w1.cell? ⟨w.heap.size, 0, none⟩ = some (.int .i64 0) := by rw [cell_of_row _ _ _ _ _ _ hres]; rfl
  have d1 : w1.cell? ⟨w.heap.size, 1, none⟩ = some (.int .i64 0) := by rw [cell_of_row _ _ _ _ _ _ hres]; rfl
  have e0 : w1.frozen? ⟨w.heap.size, 0, none⟩ = false := frozen_of_row _ _ _ _ _ hres
  have e1 : w1.frozen? ⟨w.heap.size, 1, none⟩ = false := frozen_of_row _ _ _ _ _ hres
  rw [shutF_eq]
  clear hH1 hX1 hT1 hres
  have HZ : Hid (beginZ s p l = s ∧ beginF s p l = faultV s.beg 50) := by unfold Hid beginZ beginF; rw [hsb]; exact ⟨rfl, rfl⟩
  have HSZ : Hid (shutZ s = s) := shutZ_bad hsb
  rw [if_neg (by rw [hsb]; simp)]
  unfold faultV
  go_wp2
  (try simp only [Exit.inBlock, Exit.then])
  have hq1 := heap_setCell_same _ _ 0 _ 55 (.int .i64 s.beg) HS1.out
  have hq2 := heap_setCell_same _ _ 1 _ 55 (.int .i64 50) hq1
  have hsz : w1.heap.size ≤ ((w1.setCell ⟨w.heap.size, 0, none⟩ (.int .i64 s.beg)).setCell ⟨w.heap.size, 1, none⟩ (.int .i64 50)).heap.size := Nat.le_trans (size_setCell _ _ _) (size_setCell _ _ _)
  have hH := ((HH1.out.res (o := 0) (u := .int .i64 s.beg) HS1.out).res (o := 1) (u := .int .i64 50) hq1).alloc (.cells #[.int .i64 s.beg, .int .i64 50] 55)
  have hX : Bx B g w (((w1.setCell ⟨w.heap.size, 0, none⟩ (.int .i64 s.beg)).setCell ⟨w.heap.size, 1, none⟩ (.int .i64 50)).alloc (.cells #[.int .i64 s.beg, .int .i64 50] 55)) :=
    ((HX1.out.trans (Bx.res _ _ _ _ h1 h2)).trans (Bx.res _ _ _ _ h1 h2)).trans (Bx.alloc _ _ h1 (by omega))
  have hT : Tk w (((w1.setCell ⟨w.heap.size, 0, none⟩ (.int .i64 s.beg)).setCell ⟨w.heap.size, 1, none⟩ (.int .i64 50)).alloc (.cells #[.int .i64 s.beg, .int .i64 50] 55)) :=
    ((HT1.out.res (Nat.le_refl _)).res (Nat.le_refl _)).trans (Tk.below (keep _ _))
  have hq3 := (Below.heap_alloc _ (.cells #[.int .i64 s.beg, .int .i64 50] 55) w.heap.size (by omega)).trans hq2
  generalize ((w1.setCell ⟨w.heap.size, 0, none⟩ (.int .i64 s.beg)).setCell ⟨w.heap.size, 1, none⟩ (.int .i64 50)).alloc (.cells #[.int .i64 s.beg, .int .i64 50] 55) = W at hH hX hT hq3 ⊢
  have hx0 := cell_of_row _ _ 0 _ _ _ hq3
  have hx1 := cell_of_row _ _ 1 _ _ _ hq3
  refine bodyPost_ret (v := faultV s.beg 50) (by simp [results, Tryz.results65, go_sem, hx0, hx1]; rfl) rfl ⟨by rw [HZ.out.2], ?_, hX, hT⟩
  rw [HZ.out.1, ← HSZ.out]
  exact hH
end Go.Proofs.YtmdkmedlncfcbaaGreatDoor
