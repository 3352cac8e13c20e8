/-
  The contract of the reader's take.
-/
import Derived.Test.YtnhbmekhmkkccaaDoorBIdx
import Derived.RegionTactic
import Derived.BigRegion
namespace Go.Proofs.YtnhbmekhmkkccaaDoor.Bt
open Go.RowKit
set_option linter.unusedVariables false

/-- What a reader holds. -/
structure Rs where
  out : List Int
  dg : Int
  p0 : Int
  p1 : Int
  p2 : Int
  p3 : Int
  cnt : Int
  pads : Int
  cl : Bool

def Rd (w : World) (g m cap : Nat) (s : Rs) : Prop :=
  w.heap[g]? = some (.cells #[.slice (some ⟨m, 0, none⟩) s.out.length cap, .int .u32 s.dg, .int .i64 s.p0, .int .i64 s.p1, .int .i64 s.p2, .int .i64 s.p3, .int .i64 s.cnt, .int .i64 s.pads, .bool s.cl] 97 (0, 0)) ∧
  ∃ cur : Array Value, w.heap[m]? = some (.cells cur 5 (0, 0)) ∧ cur.size = cap ∧ cur.toList.take s.out.length = s.out.map (Value.int .u8) ∧ s.out.length ≤ cap

theorem Rd.lt {w : World} {g m cap : Nat} {s : Rs} (h : Rd w g m cap s) : g < w.heap.size := (Array.getElem?_eq_some_iff.1 h.1).1

theorem rd_tail {X : World} {g m cap : Nat} {s : Rs} (F : Obj) (hmg : m < g) (h : Rd X g m cap s) : Rd ((X.alloc F).drew) g m cap s := by
  have hlt := h.lt
  obtain ⟨h1, cur, h2, h3⟩ := h
  exact ⟨(Below.heap_alloc X F g hlt).trans h1, cur, (Below.heap_alloc X F m (by omega)).trans h2, h3⟩
theorem u32_or6 (x y : Int) (h0 : 0 ≤ x) (h1 : x < 4294967296) (h2 : x % 64 = 0) (h3 : 0 ≤ y) (h4 : y < 64) : bits .or .u32 x y = x + y :=
  bits_join .u32 32 (by decide) (fun n h0 h1 => by simp [IntKind.wrap, IntKind.bits, IntKind.signed]; omega) 6 x y h0 (by simpa using h2) (by simpa using h1) h3 (by simpa using h4) (by simp; omega)

set_option maxRecDepth 100000 in
set_option maxHeartbeats 1000000 in
theorem take_s00 (g m cap : Nat) (s : Rs) (c : Int) (at0 : Int) (w : World) (hr : Rd w g m cap s) (hcl : s.cl = false) (hcnt : s.cnt = 0) (hpads : s.pads = 0) (hd0 : 0 ≤ s.dg) (hd1 : s.dg < 262144) (hv0 : 0 ≤ valZ c) (hv1 : valZ c < 64) (hc : c ≠ 61) (hmg : m < g) :
    Calls Tryd.prog 75 #[.pointer (some ⟨g, 0, none⟩), .int .u8 c, .int .i64 at0] w fun e w' => e = .returned (.agg #[.int .i64 0, .int .i64 0]) ∧ Below m w w' ∧ Rd w' g m cap { out := s.out, dg := s.dg * 64 + valZ c, p0 := at0, p1 := s.p1, p2 := s.p2, p3 := s.p3, cnt := 1, pads := 0, cl := false } := by
  have hg := hr.1
  have hglt := hr.lt
  have a0 : w.cell? ⟨g, 0, none⟩ = some (.slice (some ⟨m, 0, none⟩) s.out.length cap) := by rw [cell_of_row w _ _ _ _ _ hg]; rfl
  have a1 : w.cell? ⟨g, 1, none⟩ = some (.int .u32 s.dg) := by rw [cell_of_row w _ _ _ _ _ hg]; rfl
  have a2 : w.cell? ⟨g, 2, none⟩ = some (.int .i64 s.p0) := by rw [cell_of_row w _ _ _ _ _ hg]; rfl
  have a3 : w.cell? ⟨g, 3, none⟩ = some (.int .i64 s.p1) := by rw [cell_of_row w _ _ _ _ _ hg]; rfl
  have a4 : w.cell? ⟨g, 4, none⟩ = some (.int .i64 s.p2) := by rw [cell_of_row w _ _ _ _ _ hg]; rfl
  have a5 : w.cell? ⟨g, 5, none⟩ = some (.int .i64 s.p3) := by rw [cell_of_row w _ _ _ _ _ hg]; rfl
  have a6 : w.cell? ⟨g, 6, none⟩ = some (.int .i64 s.cnt) := by rw [cell_of_row w _ _ _ _ _ hg]; rfl
  have a7 : w.cell? ⟨g, 7, none⟩ = some (.int .i64 s.pads) := by rw [cell_of_row w _ _ _ _ _ hg]; rfl
  have a8 : w.cell? ⟨g, 8, none⟩ = some (.bool s.cl) := by rw [cell_of_row w _ _ _ _ _ hg]; rfl
  have f1 : w.frozen? ⟨g, 1, none⟩ = false := frozen_of_row w _ _ _ _ hg
  have f2 : w.frozen? ⟨g, 2, none⟩ = false := frozen_of_row w _ _ _ _ hg
  have f3 : w.frozen? ⟨g, 3, none⟩ = false := frozen_of_row w _ _ _ _ hg
  have f4 : w.frozen? ⟨g, 4, none⟩ = false := frozen_of_row w _ _ _ _ hg
  have f5 : w.frozen? ⟨g, 5, none⟩ = false := frozen_of_row w _ _ _ _ hg
  have f6 : w.frozen? ⟨g, 6, none⟩ = false := frozen_of_row w _ _ _ _ hg
  have f7 : w.frozen? ⟨g, 7, none⟩ = false := frozen_of_row w _ _ _ _ hg
  have HR : Hid (Rd w g m cap s) := hr
  clear hg hr
  rw [hcl] at a8
  rw [hcnt] at a6
  rw [hpads] at a7
  have HC : Hid (s.cl = false ∧ s.cnt = 0 ∧ s.pads = 0) := ⟨hcl, hcnt, hpads⟩
  have hc' : (c == 61) = false := by rw [beq_eq_false_iff_ne]; exact hc
  clear hcl hcnt hpads hc
  obtain ⟨v, hv⟩ : ∃ v, v = valZ c := ⟨_, rfl⟩
  have HV : Hid (valZ c = v) := hv.symm
  rw [← hv] at hv0 hv1 ⊢
  clear hv
  obtain ⟨D, hD⟩ : ∃ D, D = s.dg := ⟨_, rfl⟩
  have HD : Hid (s.dg = D) := hD.symm
  rw [← hD] at hd0 hd1 a1 ⊢
  clear hD
  have eor : bits .or .u32 (D * 64) v = D * 64 + v := by rw [u32_or6 _ _ (by omega) (by omega) (by omega) (by omega) (by omega)]
  go_enter Tryd.func75, Tryd.ntmps75
  go_wp2_with (go_at_call 88; refine (index_any _ _).mono ?_; rintro e w' ⟨rfl, rfl⟩; rw [HV.out])
  go_region
  go_wp2
  have HG := HR.out.1
  rw [HD.out, HC.out.1, HC.out.2.1, HC.out.2.2] at HG
  obtain ⟨cur, hcur, hcs, hct, hcl⟩ := HR.out.2
  refine bodyPost_ret (v := .agg #[.int .i64 0, .int .i64 0]) (by simp [results, Tryd.results75, go_sem]) rfl ⟨rfl, ?_, rd_tail (X := (((w.setCell ⟨g, 1, none⟩ (.int .u32 (D * 64 + v))).setCell ⟨g, 2, none⟩ (.int .i64 at0)).setCell ⟨g, 6, none⟩ (.int .i64 1))) _ hmg ⟨(heap_setCell_same ((w.setCell ⟨g, 1, none⟩ (.int .u32 (D * 64 + v))).setCell ⟨g, 2, none⟩ (.int .i64 at0)) g 6 _ 97 (.int .i64 1) (heap_setCell_same (w.setCell ⟨g, 1, none⟩ (.int .u32 (D * 64 + v))) g 2 _ 97 (.int .i64 at0) (heap_setCell_same w g 1 _ 97 (.int .u32 (D * 64 + v)) HG))), cur, ((heap_setCell_other ((w.setCell ⟨g, 1, none⟩ (.int .u32 (D * 64 + v))).setCell ⟨g, 2, none⟩ (.int .i64 at0)) ⟨g, 6, none⟩ m (.int .i64 1) (by simp; omega)).trans ((heap_setCell_other (w.setCell ⟨g, 1, none⟩ (.int .u32 (D * 64 + v))) ⟨g, 2, none⟩ m (.int .i64 at0) (by simp; omega)).trans ((heap_setCell_other w ⟨g, 1, none⟩ m (.int .u32 (D * 64 + v)) (by simp; omega)).trans hcur))), hcs, hct, hcl⟩⟩
  exact ((((((Below.refl m w)).setCell (p := ⟨g, 1, none⟩) (by simp; omega) _).setCell (p := ⟨g, 2, none⟩) (by simp; omega) _).setCell (p := ⟨g, 6, none⟩) (by simp; omega) _).alloc (by simp; omega) _).drew

set_option maxRecDepth 100000 in
set_option maxHeartbeats 1000000 in
theorem take_s10 (g m cap : Nat) (s : Rs) (c : Int) (at0 : Int) (w : World) (hr : Rd w g m cap s) (hcl : s.cl = false) (hcnt : s.cnt = 1) (hpads : s.pads = 0) (hd0 : 0 ≤ s.dg) (hd1 : s.dg < 262144) (hv0 : 0 ≤ valZ c) (hv1 : valZ c < 64) (hc : c ≠ 61) (hmg : m < g) :
    Calls Tryd.prog 75 #[.pointer (some ⟨g, 0, none⟩), .int .u8 c, .int .i64 at0] w fun e w' => e = .returned (.agg #[.int .i64 0, .int .i64 0]) ∧ Below m w w' ∧ Rd w' g m cap { out := s.out, dg := s.dg * 64 + valZ c, p0 := s.p0, p1 := at0, p2 := s.p2, p3 := s.p3, cnt := 2, pads := 0, cl := false } := by
  have hg := hr.1
  have hglt := hr.lt
  have a0 : w.cell? ⟨g, 0, none⟩ = some (.slice (some ⟨m, 0, none⟩) s.out.length cap) := by rw [cell_of_row w _ _ _ _ _ hg]; rfl
  have a1 : w.cell? ⟨g, 1, none⟩ = some (.int .u32 s.dg) := by rw [cell_of_row w _ _ _ _ _ hg]; rfl
  have a2 : w.cell? ⟨g, 2, none⟩ = some (.int .i64 s.p0) := by rw [cell_of_row w _ _ _ _ _ hg]; rfl
  have a3 : w.cell? ⟨g, 3, none⟩ = some (.int .i64 s.p1) := by rw [cell_of_row w _ _ _ _ _ hg]; rfl
  have a4 : w.cell? ⟨g, 4, none⟩ = some (.int .i64 s.p2) := by rw [cell_of_row w _ _ _ _ _ hg]; rfl
  have a5 : w.cell? ⟨g, 5, none⟩ = some (.int .i64 s.p3) := by rw [cell_of_row w _ _ _ _ _ hg]; rfl
  have a6 : w.cell? ⟨g, 6, none⟩ = some (.int .i64 s.cnt) := by rw [cell_of_row w _ _ _ _ _ hg]; rfl
  have a7 : w.cell? ⟨g, 7, none⟩ = some (.int .i64 s.pads) := by rw [cell_of_row w _ _ _ _ _ hg]; rfl
  have a8 : w.cell? ⟨g, 8, none⟩ = some (.bool s.cl) := by rw [cell_of_row w _ _ _ _ _ hg]; rfl
  have f1 : w.frozen? ⟨g, 1, none⟩ = false := frozen_of_row w _ _ _ _ hg
  have f2 : w.frozen? ⟨g, 2, none⟩ = false := frozen_of_row w _ _ _ _ hg
  have f3 : w.frozen? ⟨g, 3, none⟩ = false := frozen_of_row w _ _ _ _ hg
  have f4 : w.frozen? ⟨g, 4, none⟩ = false := frozen_of_row w _ _ _ _ hg
  have f5 : w.frozen? ⟨g, 5, none⟩ = false := frozen_of_row w _ _ _ _ hg
  have f6 : w.frozen? ⟨g, 6, none⟩ = false := frozen_of_row w _ _ _ _ hg
  have f7 : w.frozen? ⟨g, 7, none⟩ = false := frozen_of_row w _ _ _ _ hg
  have HR : Hid (Rd w g m cap s) := hr
  clear hg hr
  rw [hcl] at a8
  rw [hcnt] at a6
  rw [hpads] at a7
  have HC : Hid (s.cl = false ∧ s.cnt = 1 ∧ s.pads = 0) := ⟨hcl, hcnt, hpads⟩
  have hc' : (c == 61) = false := by rw [beq_eq_false_iff_ne]; exact hc
  clear hcl hcnt hpads hc
  obtain ⟨v, hv⟩ : ∃ v, v = valZ c := ⟨_, rfl⟩
  have HV : Hid (valZ c = v) := hv.symm
  rw [← hv] at hv0 hv1 ⊢
  clear hv
  obtain ⟨D, hD⟩ : ∃ D, D = s.dg := ⟨_, rfl⟩
  have HD : Hid (s.dg = D) := hD.symm
  rw [← hD] at hd0 hd1 a1 ⊢
  clear hD
  have eor : bits .or .u32 (D * 64) v = D * 64 + v := by rw [u32_or6 _ _ (by omega) (by omega) (by omega) (by omega) (by omega)]
  go_enter Tryd.func75, Tryd.ntmps75
  go_wp2_with (go_at_call 88; refine (index_any _ _).mono ?_; rintro e w' ⟨rfl, rfl⟩; rw [HV.out])
  go_region
  go_wp2
  have HG := HR.out.1
  rw [HD.out, HC.out.1, HC.out.2.1, HC.out.2.2] at HG
  obtain ⟨cur, hcur, hcs, hct, hcl⟩ := HR.out.2
  refine bodyPost_ret (v := .agg #[.int .i64 0, .int .i64 0]) (by simp [results, Tryd.results75, go_sem]) rfl ⟨rfl, ?_, rd_tail (X := (((w.setCell ⟨g, 1, none⟩ (.int .u32 (D * 64 + v))).setCell ⟨g, 3, none⟩ (.int .i64 at0)).setCell ⟨g, 6, none⟩ (.int .i64 2))) _ hmg ⟨(heap_setCell_same ((w.setCell ⟨g, 1, none⟩ (.int .u32 (D * 64 + v))).setCell ⟨g, 3, none⟩ (.int .i64 at0)) g 6 _ 97 (.int .i64 2) (heap_setCell_same (w.setCell ⟨g, 1, none⟩ (.int .u32 (D * 64 + v))) g 3 _ 97 (.int .i64 at0) (heap_setCell_same w g 1 _ 97 (.int .u32 (D * 64 + v)) HG))), cur, ((heap_setCell_other ((w.setCell ⟨g, 1, none⟩ (.int .u32 (D * 64 + v))).setCell ⟨g, 3, none⟩ (.int .i64 at0)) ⟨g, 6, none⟩ m (.int .i64 2) (by simp; omega)).trans ((heap_setCell_other (w.setCell ⟨g, 1, none⟩ (.int .u32 (D * 64 + v))) ⟨g, 3, none⟩ m (.int .i64 at0) (by simp; omega)).trans ((heap_setCell_other w ⟨g, 1, none⟩ m (.int .u32 (D * 64 + v)) (by simp; omega)).trans hcur))), hcs, hct, hcl⟩⟩
  exact ((((((Below.refl m w)).setCell (p := ⟨g, 1, none⟩) (by simp; omega) _).setCell (p := ⟨g, 3, none⟩) (by simp; omega) _).setCell (p := ⟨g, 6, none⟩) (by simp; omega) _).alloc (by simp; omega) _).drew

set_option maxRecDepth 100000 in
set_option maxHeartbeats 1000000 in
theorem take_s20 (g m cap : Nat) (s : Rs) (c : Int) (at0 : Int) (w : World) (hr : Rd w g m cap s) (hcl : s.cl = false) (hcnt : s.cnt = 2) (hpads : s.pads = 0) (hd0 : 0 ≤ s.dg) (hd1 : s.dg < 262144) (hv0 : 0 ≤ valZ c) (hv1 : valZ c < 64) (hc : c ≠ 61) (hmg : m < g) :
    Calls Tryd.prog 75 #[.pointer (some ⟨g, 0, none⟩), .int .u8 c, .int .i64 at0] w fun e w' => e = .returned (.agg #[.int .i64 0, .int .i64 0]) ∧ Below m w w' ∧ Rd w' g m cap { out := s.out, dg := s.dg * 64 + valZ c, p0 := s.p0, p1 := s.p1, p2 := at0, p3 := s.p3, cnt := 3, pads := 0, cl := false } := by
  have hg := hr.1
  have hglt := hr.lt
  have a0 : w.cell? ⟨g, 0, none⟩ = some (.slice (some ⟨m, 0, none⟩) s.out.length cap) := by rw [cell_of_row w _ _ _ _ _ hg]; rfl
  have a1 : w.cell? ⟨g, 1, none⟩ = some (.int .u32 s.dg) := by rw [cell_of_row w _ _ _ _ _ hg]; rfl
  have a2 : w.cell? ⟨g, 2, none⟩ = some (.int .i64 s.p0) := by rw [cell_of_row w _ _ _ _ _ hg]; rfl
  have a3 : w.cell? ⟨g, 3, none⟩ = some (.int .i64 s.p1) := by rw [cell_of_row w _ _ _ _ _ hg]; rfl
  have a4 : w.cell? ⟨g, 4, none⟩ = some (.int .i64 s.p2) := by rw [cell_of_row w _ _ _ _ _ hg]; rfl
  have a5 : w.cell? ⟨g, 5, none⟩ = some (.int .i64 s.p3) := by rw [cell_of_row w _ _ _ _ _ hg]; rfl
  have a6 : w.cell? ⟨g, 6, none⟩ = some (.int .i64 s.cnt) := by rw [cell_of_row w _ _ _ _ _ hg]; rfl
  have a7 : w.cell? ⟨g, 7, none⟩ = some (.int .i64 s.pads) := by rw [cell_of_row w _ _ _ _ _ hg]; rfl
  have a8 : w.cell? ⟨g, 8, none⟩ = some (.bool s.cl) := by rw [cell_of_row w _ _ _ _ _ hg]; rfl
  have f1 : w.frozen? ⟨g, 1, none⟩ = false := frozen_of_row w _ _ _ _ hg
  have f2 : w.frozen? ⟨g, 2, none⟩ = false := frozen_of_row w _ _ _ _ hg
  have f3 : w.frozen? ⟨g, 3, none⟩ = false := frozen_of_row w _ _ _ _ hg
  have f4 : w.frozen? ⟨g, 4, none⟩ = false := frozen_of_row w _ _ _ _ hg
  have f5 : w.frozen? ⟨g, 5, none⟩ = false := frozen_of_row w _ _ _ _ hg
  have f6 : w.frozen? ⟨g, 6, none⟩ = false := frozen_of_row w _ _ _ _ hg
  have f7 : w.frozen? ⟨g, 7, none⟩ = false := frozen_of_row w _ _ _ _ hg
  have HR : Hid (Rd w g m cap s) := hr
  clear hg hr
  rw [hcl] at a8
  rw [hcnt] at a6
  rw [hpads] at a7
  have HC : Hid (s.cl = false ∧ s.cnt = 2 ∧ s.pads = 0) := ⟨hcl, hcnt, hpads⟩
  have hc' : (c == 61) = false := by rw [beq_eq_false_iff_ne]; exact hc
  clear hcl hcnt hpads hc
  obtain ⟨v, hv⟩ : ∃ v, v = valZ c := ⟨_, rfl⟩
  have HV : Hid (valZ c = v) := hv.symm
  rw [← hv] at hv0 hv1 ⊢
  clear hv
  obtain ⟨D, hD⟩ : ∃ D, D = s.dg := ⟨_, rfl⟩
  have HD : Hid (s.dg = D) := hD.symm
  rw [← hD] at hd0 hd1 a1 ⊢
  clear hD
  have eor : bits .or .u32 (D * 64) v = D * 64 + v := by rw [u32_or6 _ _ (by omega) (by omega) (by omega) (by omega) (by omega)]
  go_enter Tryd.func75, Tryd.ntmps75
  go_wp2_with (go_at_call 88; refine (index_any _ _).mono ?_; rintro e w' ⟨rfl, rfl⟩; rw [HV.out])
  go_region
  go_wp2
  have HG := HR.out.1
  rw [HD.out, HC.out.1, HC.out.2.1, HC.out.2.2] at HG
  obtain ⟨cur, hcur, hcs, hct, hcl⟩ := HR.out.2
  refine bodyPost_ret (v := .agg #[.int .i64 0, .int .i64 0]) (by simp [results, Tryd.results75, go_sem]) rfl ⟨rfl, ?_, rd_tail (X := (((w.setCell ⟨g, 1, none⟩ (.int .u32 (D * 64 + v))).setCell ⟨g, 4, none⟩ (.int .i64 at0)).setCell ⟨g, 6, none⟩ (.int .i64 3))) _ hmg ⟨(heap_setCell_same ((w.setCell ⟨g, 1, none⟩ (.int .u32 (D * 64 + v))).setCell ⟨g, 4, none⟩ (.int .i64 at0)) g 6 _ 97 (.int .i64 3) (heap_setCell_same (w.setCell ⟨g, 1, none⟩ (.int .u32 (D * 64 + v))) g 4 _ 97 (.int .i64 at0) (heap_setCell_same w g 1 _ 97 (.int .u32 (D * 64 + v)) HG))), cur, ((heap_setCell_other ((w.setCell ⟨g, 1, none⟩ (.int .u32 (D * 64 + v))).setCell ⟨g, 4, none⟩ (.int .i64 at0)) ⟨g, 6, none⟩ m (.int .i64 3) (by simp; omega)).trans ((heap_setCell_other (w.setCell ⟨g, 1, none⟩ (.int .u32 (D * 64 + v))) ⟨g, 4, none⟩ m (.int .i64 at0) (by simp; omega)).trans ((heap_setCell_other w ⟨g, 1, none⟩ m (.int .u32 (D * 64 + v)) (by simp; omega)).trans hcur))), hcs, hct, hcl⟩⟩
  exact ((((((Below.refl m w)).setCell (p := ⟨g, 1, none⟩) (by simp; omega) _).setCell (p := ⟨g, 4, none⟩) (by simp; omega) _).setCell (p := ⟨g, 6, none⟩) (by simp; omega) _).alloc (by simp; omega) _).drew

set_option maxRecDepth 100000 in
set_option maxHeartbeats 1000000 in
theorem take_e20 (g m cap : Nat) (s : Rs) (at0 : Int) (w : World) (hr : Rd w g m cap s) (hcl : s.cl = false) (hcnt : s.cnt = 2) (hpads : s.pads = 0) (hd0 : 0 ≤ s.dg) (hd1 : s.dg < 262144) (hmg : m < g) :
    Calls Tryd.prog 75 #[.pointer (some ⟨g, 0, none⟩), .int .u8 61, .int .i64 at0] w fun e w' => e = .returned (.agg #[.int .i64 0, .int .i64 0]) ∧ Below m w w' ∧ Rd w' g m cap { out := s.out, dg := s.dg * 64, p0 := s.p0, p1 := s.p1, p2 := at0, p3 := s.p3, cnt := 3, pads := 1, cl := false } := by
  have hg := hr.1
  have hglt := hr.lt
  have a0 : w.cell? ⟨g, 0, none⟩ = some (.slice (some ⟨m, 0, none⟩) s.out.length cap) := by rw [cell_of_row w _ _ _ _ _ hg]; rfl
  have a1 : w.cell? ⟨g, 1, none⟩ = some (.int .u32 s.dg) := by rw [cell_of_row w _ _ _ _ _ hg]; rfl
  have a2 : w.cell? ⟨g, 2, none⟩ = some (.int .i64 s.p0) := by rw [cell_of_row w _ _ _ _ _ hg]; rfl
  have a3 : w.cell? ⟨g, 3, none⟩ = some (.int .i64 s.p1) := by rw [cell_of_row w _ _ _ _ _ hg]; rfl
  have a4 : w.cell? ⟨g, 4, none⟩ = some (.int .i64 s.p2) := by rw [cell_of_row w _ _ _ _ _ hg]; rfl
  have a5 : w.cell? ⟨g, 5, none⟩ = some (.int .i64 s.p3) := by rw [cell_of_row w _ _ _ _ _ hg]; rfl
  have a6 : w.cell? ⟨g, 6, none⟩ = some (.int .i64 s.cnt) := by rw [cell_of_row w _ _ _ _ _ hg]; rfl
  have a7 : w.cell? ⟨g, 7, none⟩ = some (.int .i64 s.pads) := by rw [cell_of_row w _ _ _ _ _ hg]; rfl
  have a8 : w.cell? ⟨g, 8, none⟩ = some (.bool s.cl) := by rw [cell_of_row w _ _ _ _ _ hg]; rfl
  have f1 : w.frozen? ⟨g, 1, none⟩ = false := frozen_of_row w _ _ _ _ hg
  have f2 : w.frozen? ⟨g, 2, none⟩ = false := frozen_of_row w _ _ _ _ hg
  have f3 : w.frozen? ⟨g, 3, none⟩ = false := frozen_of_row w _ _ _ _ hg
  have f4 : w.frozen? ⟨g, 4, none⟩ = false := frozen_of_row w _ _ _ _ hg
  have f5 : w.frozen? ⟨g, 5, none⟩ = false := frozen_of_row w _ _ _ _ hg
  have f6 : w.frozen? ⟨g, 6, none⟩ = false := frozen_of_row w _ _ _ _ hg
  have f7 : w.frozen? ⟨g, 7, none⟩ = false := frozen_of_row w _ _ _ _ hg
  have HR : Hid (Rd w g m cap s) := hr
  clear hg hr
  rw [hcl] at a8
  rw [hcnt] at a6
  rw [hpads] at a7
  have HC : Hid (s.cl = false ∧ s.cnt = 2 ∧ s.pads = 0) := ⟨hcl, hcnt, hpads⟩
  clear hcl hcnt hpads
  obtain ⟨D, hD⟩ : ∃ D, D = s.dg := ⟨_, rfl⟩
  have HD : Hid (s.dg = D) := hD.symm
  rw [← hD] at hd0 hd1 a1 ⊢
  clear hD
  have eor : bits .or .u32 (D * 64) 0 = D * 64 := by rw [u32_or6 _ _ (by omega) (by omega) (by omega) (by omega) (by omega)]; omega
  go_enter Tryd.func75, Tryd.ntmps75
  go_wp2_with (go_at_call 88; refine (index_any _ _).mono ?_; rintro e w' ⟨rfl, rfl⟩; rw [val_61])
  go_region
  go_wp2
  have HG := HR.out.1
  rw [HD.out, HC.out.1, HC.out.2.1, HC.out.2.2] at HG
  obtain ⟨cur, hcur, hcs, hct, hcl⟩ := HR.out.2
  refine bodyPost_ret (v := .agg #[.int .i64 0, .int .i64 0]) (by simp [results, Tryd.results75, go_sem]) rfl ⟨rfl, ?_, rd_tail (X := ((((w.setCell ⟨g, 7, none⟩ (.int .i64 1)).setCell ⟨g, 1, none⟩ (.int .u32 (D * 64))).setCell ⟨g, 4, none⟩ (.int .i64 at0)).setCell ⟨g, 6, none⟩ (.int .i64 3))) _ hmg ⟨(heap_setCell_same (((w.setCell ⟨g, 7, none⟩ (.int .i64 1)).setCell ⟨g, 1, none⟩ (.int .u32 (D * 64))).setCell ⟨g, 4, none⟩ (.int .i64 at0)) g 6 _ 97 (.int .i64 3) (heap_setCell_same ((w.setCell ⟨g, 7, none⟩ (.int .i64 1)).setCell ⟨g, 1, none⟩ (.int .u32 (D * 64))) g 4 _ 97 (.int .i64 at0) (heap_setCell_same (w.setCell ⟨g, 7, none⟩ (.int .i64 1)) g 1 _ 97 (.int .u32 (D * 64)) (heap_setCell_same w g 7 _ 97 (.int .i64 1) HG)))), cur, ((heap_setCell_other (((w.setCell ⟨g, 7, none⟩ (.int .i64 1)).setCell ⟨g, 1, none⟩ (.int .u32 (D * 64))).setCell ⟨g, 4, none⟩ (.int .i64 at0)) ⟨g, 6, none⟩ m (.int .i64 3) (by simp; omega)).trans ((heap_setCell_other ((w.setCell ⟨g, 7, none⟩ (.int .i64 1)).setCell ⟨g, 1, none⟩ (.int .u32 (D * 64))) ⟨g, 4, none⟩ m (.int .i64 at0) (by simp; omega)).trans ((heap_setCell_other (w.setCell ⟨g, 7, none⟩ (.int .i64 1)) ⟨g, 1, none⟩ m (.int .u32 (D * 64)) (by simp; omega)).trans ((heap_setCell_other w ⟨g, 7, none⟩ m (.int .i64 1) (by simp; omega)).trans hcur)))), hcs, hct, hcl⟩⟩
  exact (((((((Below.refl m w).setCell (p := ⟨g, 7, none⟩) (by simp; omega) _)).setCell (p := ⟨g, 1, none⟩) (by simp; omega) _).setCell (p := ⟨g, 4, none⟩) (by simp; omega) _).setCell (p := ⟨g, 6, none⟩) (by simp; omega) _).alloc (by simp; omega) _).drew

set_option maxRecDepth 100000 in
set_option maxHeartbeats 1000000 in
theorem take_bad (g m cap : Nat) (s : Rs) (c : Int) (at0 : Int) (w : World) (hr : Rd w g m cap s) (hv0 : valZ c < 0) (hc : c ≠ 61) (hmg : m < g) :
    Calls Tryd.prog 75 #[.pointer (some ⟨g, 0, none⟩), .int .u8 c, .int .i64 at0] w fun e w' => e = .returned (.agg #[.int .i64 at0, .int .i64 10]) ∧ Below m w w' := by
  have hg := hr.1
  have hglt := hr.lt
  have a0 : w.cell? ⟨g, 0, none⟩ = some (.slice (some ⟨m, 0, none⟩) s.out.length cap) := by rw [cell_of_row w _ _ _ _ _ hg]; rfl
  have a1 : w.cell? ⟨g, 1, none⟩ = some (.int .u32 s.dg) := by rw [cell_of_row w _ _ _ _ _ hg]; rfl
  have a2 : w.cell? ⟨g, 2, none⟩ = some (.int .i64 s.p0) := by rw [cell_of_row w _ _ _ _ _ hg]; rfl
  have a3 : w.cell? ⟨g, 3, none⟩ = some (.int .i64 s.p1) := by rw [cell_of_row w _ _ _ _ _ hg]; rfl
  have a4 : w.cell? ⟨g, 4, none⟩ = some (.int .i64 s.p2) := by rw [cell_of_row w _ _ _ _ _ hg]; rfl
  have a5 : w.cell? ⟨g, 5, none⟩ = some (.int .i64 s.p3) := by rw [cell_of_row w _ _ _ _ _ hg]; rfl
  have a6 : w.cell? ⟨g, 6, none⟩ = some (.int .i64 s.cnt) := by rw [cell_of_row w _ _ _ _ _ hg]; rfl
  have a7 : w.cell? ⟨g, 7, none⟩ = some (.int .i64 s.pads) := by rw [cell_of_row w _ _ _ _ _ hg]; rfl
  have a8 : w.cell? ⟨g, 8, none⟩ = some (.bool s.cl) := by rw [cell_of_row w _ _ _ _ _ hg]; rfl
  have f1 : w.frozen? ⟨g, 1, none⟩ = false := frozen_of_row w _ _ _ _ hg
  have f2 : w.frozen? ⟨g, 2, none⟩ = false := frozen_of_row w _ _ _ _ hg
  have f3 : w.frozen? ⟨g, 3, none⟩ = false := frozen_of_row w _ _ _ _ hg
  have f4 : w.frozen? ⟨g, 4, none⟩ = false := frozen_of_row w _ _ _ _ hg
  have f5 : w.frozen? ⟨g, 5, none⟩ = false := frozen_of_row w _ _ _ _ hg
  have f6 : w.frozen? ⟨g, 6, none⟩ = false := frozen_of_row w _ _ _ _ hg
  have f7 : w.frozen? ⟨g, 7, none⟩ = false := frozen_of_row w _ _ _ _ hg
  have HR : Hid (Rd w g m cap s) := hr
  clear hg hr
  have hc1 : (c != 61) = true := by rw [bne_iff_ne]; exact hc
  have hc' : (c == 61) = false := by rw [beq_eq_false_iff_ne]; exact hc
  clear hc
  obtain ⟨v, hv⟩ : ∃ v, v = valZ c := ⟨_, rfl⟩
  have HV : Hid (valZ c = v) := hv.symm
  rw [← hv] at hv0
  clear hv
  go_enter Tryd.func75, Tryd.ntmps75
  go_wp2_with (go_at_call 88; refine (index_any _ _).mono ?_; rintro e w' ⟨rfl, rfl⟩; rw [HV.out])
  exact bodyPost_ret (v := .agg #[.int .i64 at0, .int .i64 10]) (by simp [results, Tryd.results75, go_sem]) rfl ⟨rfl, (Below.refl m w).alloc (by omega) _⟩

set_option maxRecDepth 100000 in
set_option maxHeartbeats 1000000 in
theorem take_closed_s (g m cap : Nat) (s : Rs) (c : Int) (at0 : Int) (w : World) (hr : Rd w g m cap s) (hcl : s.cl = true) (hv0 : 0 ≤ valZ c) (hmg : m < g) :
    Calls Tryd.prog 75 #[.pointer (some ⟨g, 0, none⟩), .int .u8 c, .int .i64 at0] w fun e w' => e = .returned (.agg #[.int .i64 at0, .int .i64 11]) ∧ Below m w w' := by
  have hg := hr.1
  have hglt := hr.lt
  have a0 : w.cell? ⟨g, 0, none⟩ = some (.slice (some ⟨m, 0, none⟩) s.out.length cap) := by rw [cell_of_row w _ _ _ _ _ hg]; rfl
  have a1 : w.cell? ⟨g, 1, none⟩ = some (.int .u32 s.dg) := by rw [cell_of_row w _ _ _ _ _ hg]; rfl
  have a2 : w.cell? ⟨g, 2, none⟩ = some (.int .i64 s.p0) := by rw [cell_of_row w _ _ _ _ _ hg]; rfl
  have a3 : w.cell? ⟨g, 3, none⟩ = some (.int .i64 s.p1) := by rw [cell_of_row w _ _ _ _ _ hg]; rfl
  have a4 : w.cell? ⟨g, 4, none⟩ = some (.int .i64 s.p2) := by rw [cell_of_row w _ _ _ _ _ hg]; rfl
  have a5 : w.cell? ⟨g, 5, none⟩ = some (.int .i64 s.p3) := by rw [cell_of_row w _ _ _ _ _ hg]; rfl
  have a6 : w.cell? ⟨g, 6, none⟩ = some (.int .i64 s.cnt) := by rw [cell_of_row w _ _ _ _ _ hg]; rfl
  have a7 : w.cell? ⟨g, 7, none⟩ = some (.int .i64 s.pads) := by rw [cell_of_row w _ _ _ _ _ hg]; rfl
  have a8 : w.cell? ⟨g, 8, none⟩ = some (.bool s.cl) := by rw [cell_of_row w _ _ _ _ _ hg]; rfl
  have f1 : w.frozen? ⟨g, 1, none⟩ = false := frozen_of_row w _ _ _ _ hg
  have f2 : w.frozen? ⟨g, 2, none⟩ = false := frozen_of_row w _ _ _ _ hg
  have f3 : w.frozen? ⟨g, 3, none⟩ = false := frozen_of_row w _ _ _ _ hg
  have f4 : w.frozen? ⟨g, 4, none⟩ = false := frozen_of_row w _ _ _ _ hg
  have f5 : w.frozen? ⟨g, 5, none⟩ = false := frozen_of_row w _ _ _ _ hg
  have f6 : w.frozen? ⟨g, 6, none⟩ = false := frozen_of_row w _ _ _ _ hg
  have f7 : w.frozen? ⟨g, 7, none⟩ = false := frozen_of_row w _ _ _ _ hg
  have HR : Hid (Rd w g m cap s) := hr
  clear hg hr
  rw [hcl] at a8
  clear hcl
  obtain ⟨v, hv⟩ : ∃ v, v = valZ c := ⟨_, rfl⟩
  have HV : Hid (valZ c = v) := hv.symm
  rw [← hv] at hv0
  clear hv
  go_enter Tryd.func75, Tryd.ntmps75
  go_wp2_with (go_at_call 88; refine (index_any _ _).mono ?_; rintro e w' ⟨rfl, rfl⟩; rw [HV.out])
  exact bodyPost_ret (v := .agg #[.int .i64 at0, .int .i64 11]) (by simp [results, Tryd.results75, go_sem]) rfl ⟨rfl, (Below.refl m w).alloc (by omega) _⟩

set_option maxRecDepth 100000 in
set_option maxHeartbeats 1000000 in
theorem take_closed_e (g m cap : Nat) (s : Rs) (at0 : Int) (w : World) (hr : Rd w g m cap s) (hcl : s.cl = true) (hmg : m < g) :
    Calls Tryd.prog 75 #[.pointer (some ⟨g, 0, none⟩), .int .u8 61, .int .i64 at0] w fun e w' => e = .returned (.agg #[.int .i64 at0, .int .i64 11]) ∧ Below m w w' := by
  have hg := hr.1
  have hglt := hr.lt
  have a0 : w.cell? ⟨g, 0, none⟩ = some (.slice (some ⟨m, 0, none⟩) s.out.length cap) := by rw [cell_of_row w _ _ _ _ _ hg]; rfl
  have a1 : w.cell? ⟨g, 1, none⟩ = some (.int .u32 s.dg) := by rw [cell_of_row w _ _ _ _ _ hg]; rfl
  have a2 : w.cell? ⟨g, 2, none⟩ = some (.int .i64 s.p0) := by rw [cell_of_row w _ _ _ _ _ hg]; rfl
  have a3 : w.cell? ⟨g, 3, none⟩ = some (.int .i64 s.p1) := by rw [cell_of_row w _ _ _ _ _ hg]; rfl
  have a4 : w.cell? ⟨g, 4, none⟩ = some (.int .i64 s.p2) := by rw [cell_of_row w _ _ _ _ _ hg]; rfl
  have a5 : w.cell? ⟨g, 5, none⟩ = some (.int .i64 s.p3) := by rw [cell_of_row w _ _ _ _ _ hg]; rfl
  have a6 : w.cell? ⟨g, 6, none⟩ = some (.int .i64 s.cnt) := by rw [cell_of_row w _ _ _ _ _ hg]; rfl
  have a7 : w.cell? ⟨g, 7, none⟩ = some (.int .i64 s.pads) := by rw [cell_of_row w _ _ _ _ _ hg]; rfl
  have a8 : w.cell? ⟨g, 8, none⟩ = some (.bool s.cl) := by rw [cell_of_row w _ _ _ _ _ hg]; rfl
  have f1 : w.frozen? ⟨g, 1, none⟩ = false := frozen_of_row w _ _ _ _ hg
  have f2 : w.frozen? ⟨g, 2, none⟩ = false := frozen_of_row w _ _ _ _ hg
  have f3 : w.frozen? ⟨g, 3, none⟩ = false := frozen_of_row w _ _ _ _ hg
  have f4 : w.frozen? ⟨g, 4, none⟩ = false := frozen_of_row w _ _ _ _ hg
  have f5 : w.frozen? ⟨g, 5, none⟩ = false := frozen_of_row w _ _ _ _ hg
  have f6 : w.frozen? ⟨g, 6, none⟩ = false := frozen_of_row w _ _ _ _ hg
  have f7 : w.frozen? ⟨g, 7, none⟩ = false := frozen_of_row w _ _ _ _ hg
  have HR : Hid (Rd w g m cap s) := hr
  clear hg hr
  rw [hcl] at a8
  clear hcl
  go_enter Tryd.func75, Tryd.ntmps75
  go_wp2_with (go_at_call 88; refine (index_any _ _).mono ?_; rintro e w' ⟨rfl, rfl⟩; rw [val_61])
  exact bodyPost_ret (v := .agg #[.int .i64 at0, .int .i64 11]) (by simp [results, Tryd.results75, go_sem]) rfl ⟨rfl, (Below.refl m w).alloc (by omega) _⟩

set_option maxRecDepth 100000 in
set_option maxHeartbeats 1000000 in
theorem take_early (g m cap : Nat) (s : Rs) (at0 : Int) (w : World) (hr : Rd w g m cap s) (hcl : s.cl = false) (hcnt : s.cnt < 2) (hmg : m < g) :
    Calls Tryd.prog 75 #[.pointer (some ⟨g, 0, none⟩), .int .u8 61, .int .i64 at0] w fun e w' => e = .returned (.agg #[.int .i64 at0, .int .i64 11]) ∧ Below m w w' := by
  have hg := hr.1
  have hglt := hr.lt
  have a0 : w.cell? ⟨g, 0, none⟩ = some (.slice (some ⟨m, 0, none⟩) s.out.length cap) := by rw [cell_of_row w _ _ _ _ _ hg]; rfl
  have a1 : w.cell? ⟨g, 1, none⟩ = some (.int .u32 s.dg) := by rw [cell_of_row w _ _ _ _ _ hg]; rfl
  have a2 : w.cell? ⟨g, 2, none⟩ = some (.int .i64 s.p0) := by rw [cell_of_row w _ _ _ _ _ hg]; rfl
  have a3 : w.cell? ⟨g, 3, none⟩ = some (.int .i64 s.p1) := by rw [cell_of_row w _ _ _ _ _ hg]; rfl
  have a4 : w.cell? ⟨g, 4, none⟩ = some (.int .i64 s.p2) := by rw [cell_of_row w _ _ _ _ _ hg]; rfl
  have a5 : w.cell? ⟨g, 5, none⟩ = some (.int .i64 s.p3) := by rw [cell_of_row w _ _ _ _ _ hg]; rfl
  have a6 : w.cell? ⟨g, 6, none⟩ = some (.int .i64 s.cnt) := by rw [cell_of_row w _ _ _ _ _ hg]; rfl
  have a7 : w.cell? ⟨g, 7, none⟩ = some (.int .i64 s.pads) := by rw [cell_of_row w _ _ _ _ _ hg]; rfl
  have a8 : w.cell? ⟨g, 8, none⟩ = some (.bool s.cl) := by rw [cell_of_row w _ _ _ _ _ hg]; rfl
  have f1 : w.frozen? ⟨g, 1, none⟩ = false := frozen_of_row w _ _ _ _ hg
  have f2 : w.frozen? ⟨g, 2, none⟩ = false := frozen_of_row w _ _ _ _ hg
  have f3 : w.frozen? ⟨g, 3, none⟩ = false := frozen_of_row w _ _ _ _ hg
  have f4 : w.frozen? ⟨g, 4, none⟩ = false := frozen_of_row w _ _ _ _ hg
  have f5 : w.frozen? ⟨g, 5, none⟩ = false := frozen_of_row w _ _ _ _ hg
  have f6 : w.frozen? ⟨g, 6, none⟩ = false := frozen_of_row w _ _ _ _ hg
  have f7 : w.frozen? ⟨g, 7, none⟩ = false := frozen_of_row w _ _ _ _ hg
  have HR : Hid (Rd w g m cap s) := hr
  clear hg hr
  rw [hcl] at a8
  clear hcl
  go_enter Tryd.func75, Tryd.ntmps75
  go_wp2_with (go_at_call 88; refine (index_any _ _).mono ?_; rintro e w' ⟨rfl, rfl⟩; rw [val_61])
  exact bodyPost_ret (v := .agg #[.int .i64 at0, .int .i64 11]) (by simp [results, Tryd.results75, go_sem]) rfl ⟨rfl, (Below.refl m w).alloc (by omega) _⟩

set_option maxRecDepth 100000 in
set_option maxHeartbeats 1000000 in
theorem take_late (g m cap : Nat) (s : Rs) (c : Int) (at0 : Int) (w : World) (hr : Rd w g m cap s) (hcl : s.cl = false) (hpads : 0 < s.pads) (hv0 : 0 ≤ valZ c) (hc : c ≠ 61) (hmg : m < g) :
    Calls Tryd.prog 75 #[.pointer (some ⟨g, 0, none⟩), .int .u8 c, .int .i64 at0] w fun e w' => e = .returned (.agg #[.int .i64 s.p2, .int .i64 11]) ∧ Below m w w' := by
  have hg := hr.1
  have hglt := hr.lt
  have a0 : w.cell? ⟨g, 0, none⟩ = some (.slice (some ⟨m, 0, none⟩) s.out.length cap) := by rw [cell_of_row w _ _ _ _ _ hg]; rfl
  have a1 : w.cell? ⟨g, 1, none⟩ = some (.int .u32 s.dg) := by rw [cell_of_row w _ _ _ _ _ hg]; rfl
  have a2 : w.cell? ⟨g, 2, none⟩ = some (.int .i64 s.p0) := by rw [cell_of_row w _ _ _ _ _ hg]; rfl
  have a3 : w.cell? ⟨g, 3, none⟩ = some (.int .i64 s.p1) := by rw [cell_of_row w _ _ _ _ _ hg]; rfl
  have a4 : w.cell? ⟨g, 4, none⟩ = some (.int .i64 s.p2) := by rw [cell_of_row w _ _ _ _ _ hg]; rfl
  have a5 : w.cell? ⟨g, 5, none⟩ = some (.int .i64 s.p3) := by rw [cell_of_row w _ _ _ _ _ hg]; rfl
  have a6 : w.cell? ⟨g, 6, none⟩ = some (.int .i64 s.cnt) := by rw [cell_of_row w _ _ _ _ _ hg]; rfl
  have a7 : w.cell? ⟨g, 7, none⟩ = some (.int .i64 s.pads) := by rw [cell_of_row w _ _ _ _ _ hg]; rfl
  have a8 : w.cell? ⟨g, 8, none⟩ = some (.bool s.cl) := by rw [cell_of_row w _ _ _ _ _ hg]; rfl
  have f1 : w.frozen? ⟨g, 1, none⟩ = false := frozen_of_row w _ _ _ _ hg
  have f2 : w.frozen? ⟨g, 2, none⟩ = false := frozen_of_row w _ _ _ _ hg
  have f3 : w.frozen? ⟨g, 3, none⟩ = false := frozen_of_row w _ _ _ _ hg
  have f4 : w.frozen? ⟨g, 4, none⟩ = false := frozen_of_row w _ _ _ _ hg
  have f5 : w.frozen? ⟨g, 5, none⟩ = false := frozen_of_row w _ _ _ _ hg
  have f6 : w.frozen? ⟨g, 6, none⟩ = false := frozen_of_row w _ _ _ _ hg
  have f7 : w.frozen? ⟨g, 7, none⟩ = false := frozen_of_row w _ _ _ _ hg
  have HR : Hid (Rd w g m cap s) := hr
  clear hg hr
  rw [hcl] at a8
  clear hcl
  have hc1 : (c != 61) = true := by rw [bne_iff_ne]; exact hc
  have hc' : (c == 61) = false := by rw [beq_eq_false_iff_ne]; exact hc
  clear hc
  obtain ⟨v, hv⟩ : ∃ v, v = valZ c := ⟨_, rfl⟩
  have HV : Hid (valZ c = v) := hv.symm
  rw [← hv] at hv0
  clear hv
  go_enter Tryd.func75, Tryd.ntmps75
  go_wp2_with (go_at_call 88; refine (index_any _ _).mono ?_; rintro e w' ⟨rfl, rfl⟩; rw [HV.out])
  exact bodyPost_ret (v := .agg #[.int .i64 s.p2, .int .i64 11]) (by simp [results, Tryd.results75, go_sem]) rfl ⟨rfl, (Below.refl m w).alloc (by omega) _⟩
end Go.Proofs.YtnhbmekhmkkccaaDoor.Bt
