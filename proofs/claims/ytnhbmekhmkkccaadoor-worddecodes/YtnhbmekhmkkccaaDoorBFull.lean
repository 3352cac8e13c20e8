/-
  The contract of the reader's take where four are full, and of HasPrefix.
-/
import Derived.Test.YtnhbmekhmkkccaaDoorBFin
namespace Go.Proofs.YtnhbmekhmkkccaaDoor.Bt
open Go.RowKit
set_option linter.unusedVariables false

theorem alloc_at (X : World) (F : Obj) (f : Nat) (hf : X.heap.size = f) : (X.alloc F).drew.heap[f]? = some F := by
  subst hf; exact heap_alloc_new X F
theorem rd_fset {X : World} {g m cap f j : Nat} {s : Rs} {v : Value} (h : Rd X g m cap s) (hg : g ≠ f) (hm : m ≠ f) : Rd (X.setCell ⟨f, j, none⟩ v) g m cap s := by
  obtain ⟨h1, cur, h2, h3⟩ := h
  exact ⟨(heap_setCell_other X ⟨f, j, none⟩ g v hg).trans h1, cur, (heap_setCell_other X ⟨f, j, none⟩ m v hm).trans h2, h3⟩
/-- Does a text begin with a pair? -/
def crlf : List UInt8 → Bool
  | 13 :: 10 :: _ => true
  | _ => false
theorem crlf_eq (t : ByteArray) (h : 2 ≤ t.size) : ((t.extract 0 2).toList == ([13, 10] : List UInt8)) = crlf t.data.toList := by
  rw [Lib.extract_toList]
  have hl : 2 ≤ t.data.toList.length := by simpa using h
  generalize t.data.toList = l at *
  match l, hl with
  | a :: b :: r, _ =>
    simp only [List.drop_zero, Nat.sub_zero, List.take_succ_cons, List.take_zero]
    by_cases h1 : a = 13
    · by_cases h2 : b = 10
      · subst h1; subst h2; rfl
      · subst h1
        have : crlf (13 :: b :: r) = false := by unfold crlf; split <;> simp_all
        rw [this]; simp [h2]
    · have : crlf (a :: b :: r) = false := by unfold crlf; split <;> simp_all
      rw [this]; simp [h1]
theorem crlf_short (t : ByteArray) (h : t.size < 2) : crlf t.data.toList = false := by
  have hl : t.data.toList.length < 2 := by simpa using h
  generalize t.data.toList = l at *
  match l, hl with
  | [], _ => rfl
  | [a], _ => unfold crlf; split <;> simp_all
set_option maxRecDepth 100000 in
set_option maxHeartbeats 1000000 in
theorem prefix_any (t : ByteArray) (w : World) (hs : t.size ≤ 1000000) :
    Calls Tryd.prog 25 #[.string t, .string ⟨#[13, 10]⟩] w fun e w' => e = .returned (.bool (crlf t.data.toList)) ∧ w = w' := by
  by_cases h : 2 ≤ t.size
  · have HC : Hid (((t.extract 0 2).toList == ([13, 10] : List UInt8)) = crlf t.data.toList) := crlf_eq t h
    go_enter Tryd.func25, Tryd.ntmps25
    go_wp2
    go_ret
    refine ⟨?_, rfl⟩
    rw [← HC.out]
    rfl
  · have HC : Hid (crlf t.data.toList = false) := crlf_short t (by omega)
    have h' : t.size < 2 := by omega
    clear h
    go_enter Tryd.func25, Tryd.ntmps25
    go_wp2
    go_ret
    exact ⟨by rw [HC.out]; rfl, rfl⟩

set_option maxRecDepth 100000 in
set_option maxHeartbeats 2000000 in
theorem take_s30 (g m cap : Nat) (s : Rs) (c : Int) (at0 : Int) (w : World) (hr : Rd w g m cap s) (hcl : s.cl = false) (hcnt : s.cnt = 3) (hpads : s.pads = 0) (hd0 : 0 ≤ s.dg) (hd1 : s.dg < 262144) (hv0 : 0 ≤ valZ c) (hv1 : valZ c < 64) (hc : c ≠ 61) (hroom : s.out.length + 3 ≤ cap) (hmg : m < g) :
    Calls Tryd.prog 75 #[.pointer (some ⟨g, 0, none⟩), .int .u8 c, .int .i64 at0] w fun e w' => e = .returned (.agg #[.int .i64 0, .int .i64 0]) ∧ Below m w w' ∧ Rd w' g m cap { out := s.out ++ (bytesD (s.dg * 64 + valZ c)).take 3, dg := 0, p0 := 0, p1 := 0, p2 := 0, p3 := 0, cnt := 0, pads := 0, cl := false } := by
  have hg := hr.1
  have hglt := hr.lt
  have a0 : w.cell? ⟨g, 0, none⟩ = some (.slice (some ⟨m, 0, none⟩) s.out.length cap) := by rw [cell_of_row w _ _ _ _ _ hg]; rfl
  have a1 : w.cell? ⟨g, 1, none⟩ = some (.int .u32 s.dg) := by rw [cell_of_row w _ _ _ _ _ hg]; rfl
  have a2 : w.cell? ⟨g, 2, none⟩ = some (.int .i64 s.p0) := by rw [cell_of_row w _ _ _ _ _ hg]; rfl
  have a3 : w.cell? ⟨g, 3, none⟩ = some (.int .i64 s.p1) := by rw [cell_of_row w _ _ _ _ _ hg]; rfl
  have a4 : w.cell? ⟨g, 4, none⟩ = some (.int .i64 s.p2) := by rw [cell_of_row w _ _ _ _ _ hg]; rfl
  have a5 : w.cell? ⟨g, 5, none⟩ = some (.int .i64 s.p3) := by rw [cell_of_row w _ _ _ _ _ hg]; rfl
  have a6 : w.cell? ⟨g, 6, none⟩ = some (.int .i64 s.cnt) := by rw [cell_of_row w _ _ _ _ _ hg]; rfl
  have a7 : w.cell? ⟨g, 7, none⟩ = some (.int .i64 s.pads) := by rw [cell_of_row w _ _ _ _ _ hg]; rfl
  have a8 : w.cell? ⟨g, 8, none⟩ = some (.bool s.cl) := by rw [cell_of_row w _ _ _ _ _ hg]; rfl
  have f1 : w.frozen? ⟨g, 1, none⟩ = false := frozen_of_row w _ _ _ _ hg
  have f2 : w.frozen? ⟨g, 2, none⟩ = false := frozen_of_row w _ _ _ _ hg
  have f3 : w.frozen? ⟨g, 3, none⟩ = false := frozen_of_row w _ _ _ _ hg
  have f4 : w.frozen? ⟨g, 4, none⟩ = false := frozen_of_row w _ _ _ _ hg
  have f5 : w.frozen? ⟨g, 5, none⟩ = false := frozen_of_row w _ _ _ _ hg
  have f6 : w.frozen? ⟨g, 6, none⟩ = false := frozen_of_row w _ _ _ _ hg
  have f7 : w.frozen? ⟨g, 7, none⟩ = false := frozen_of_row w _ _ _ _ hg
  have HR : Hid (Rd w g m cap s) := hr
  clear hg hr
  rw [hcl] at a8
  rw [hcnt] at a6
  rw [hpads] at a7
  have HC : Hid (s.cl = false ∧ s.cnt = 3 ∧ s.pads = 0) := ⟨hcl, hcnt, hpads⟩
  have hc' : (c == 61) = false := by rw [beq_eq_false_iff_ne]; exact hc
  clear hcl hcnt hpads hc
  obtain ⟨v, hv⟩ : ∃ v, v = valZ c := ⟨_, rfl⟩
  have HV : Hid (valZ c = v) := hv.symm
  rw [← hv] at hv0 hv1 ⊢
  clear hv
  obtain ⟨D, hD⟩ : ∃ D, D = s.dg := ⟨_, rfl⟩
  have HD : Hid (s.dg = D) := hD.symm
  rw [← hD] at hd0 hd1 a1 ⊢
  clear hD
  have eor : bits .or .u32 (D * 64) v = D * 64 + v := by rw [u32_or6 _ _ (by omega) (by omega) (by omega) (by omega) (by omega)]
  have HG := HR.out.1
  rw [HD.out, HC.out.1, HC.out.2.1, HC.out.2.2] at HG
  obtain ⟨cur, hcur, hcs, hct, hcl⟩ := HR.out.2
  have HRD : Hid (Rd (((((w.setCell ⟨g, 1, none⟩ (.int .u32 (D * 64 + v))).setCell ⟨g, 5, none⟩ (.int .i64 at0)).setCell ⟨g, 6, none⟩ (.int .i64 4)).alloc (.cells #[.int .i64 0, .int .i64 0] 48)).drew) g m cap { out := s.out, dg := D * 64 + v, p0 := s.p0, p1 := s.p1, p2 := s.p2, p3 := at0, cnt := 4, pads := 0, cl := false }) := rd_tail (X := (((w.setCell ⟨g, 1, none⟩ (.int .u32 (D * 64 + v))).setCell ⟨g, 5, none⟩ (.int .i64 at0)).setCell ⟨g, 6, none⟩ (.int .i64 4))) _ hmg ⟨(heap_setCell_same ((w.setCell ⟨g, 1, none⟩ (.int .u32 (D * 64 + v))).setCell ⟨g, 5, none⟩ (.int .i64 at0)) g 6 _ 97 (.int .i64 4) (heap_setCell_same (w.setCell ⟨g, 1, none⟩ (.int .u32 (D * 64 + v))) g 5 _ 97 (.int .i64 at0) (heap_setCell_same w g 1 _ 97 (.int .u32 (D * 64 + v)) HG))), cur, ((heap_setCell_other ((w.setCell ⟨g, 1, none⟩ (.int .u32 (D * 64 + v))).setCell ⟨g, 5, none⟩ (.int .i64 at0)) ⟨g, 6, none⟩ m (.int .i64 4) (by simp; omega)).trans ((heap_setCell_other (w.setCell ⟨g, 1, none⟩ (.int .u32 (D * 64 + v))) ⟨g, 5, none⟩ m (.int .i64 at0) (by simp; omega)).trans ((heap_setCell_other w ⟨g, 1, none⟩ m (.int .u32 (D * 64 + v)) (by simp; omega)).trans hcur))), hcs, hct, hcl⟩
  have HBL : Hid (Below m w (((((w.setCell ⟨g, 1, none⟩ (.int .u32 (D * 64 + v))).setCell ⟨g, 5, none⟩ (.int .i64 at0)).setCell ⟨g, 6, none⟩ (.int .i64 4)).alloc (.cells #[.int .i64 0, .int .i64 0] 48)).drew)) := (((((Below.refl m w).setCell (p := ⟨g, 1, none⟩) (by simp; omega) (.int .u32 (D * 64 + v))).setCell (p := ⟨g, 5, none⟩) (by simp; omega) (.int .i64 at0)).setCell (p := ⟨g, 6, none⟩) (by simp; omega) (.int .i64 4)).alloc (by simp; omega) _).drew
  clear HG hcur hcs hct hcl
  go_enter Tryd.func75, Tryd.ntmps75
  go_wp2_with (go_at_call 88; refine (index_any _ _).mono ?_; rintro e w' ⟨rfl, rfl⟩; rw [HV.out])
  go_region
  go_wp2_with fail
  refine (fin0 g m cap { out := s.out, dg := D * 64 + v, p0 := s.p0, p1 := s.p1, p2 := s.p2, p3 := at0, cnt := 4, pads := 0, cl := false } _ HRD.out rfl (by show (0 : Int) ≤ D * 64 + v; omega) (by show D * 64 + v < 16777216; omega) (by show (D * 64 + v) % 1 = 0; omega) hroom hmg).mono ?_
  rintro e w1 ⟨rfl, hb1, hrd1, ho1⟩
  have HRD1 : Hid (Rd w1 g m cap { out := s.out ++ (bytesD (D * 64 + v)).take 3, dg := 0, p0 := 0, p1 := 0, p2 := 0, p3 := 0, cnt := 0, pads := 0, cl := false }) := hrd1
  have hF : w1.heap[w.heap.size]? = some (.cells #[.int .i64 0, .int .i64 0] 48 (0, 0)) := (ho1 w.heap.size (by omega) (by omega) (by simp)).trans (alloc_at (((w.setCell ⟨g, 1, none⟩ (.int .u32 (D * 64 + v))).setCell ⟨g, 5, none⟩ (.int .i64 at0)).setCell ⟨g, 6, none⟩ (.int .i64 4)) (.cells #[.int .i64 0, .int .i64 0] 48) w.heap.size (by simp))
  have c0 : w1.cell? ⟨w.heap.size, 0, none⟩ = some (.int .i64 0) := by rw [cell_of_row w1 _ _ _ _ _ hF]; rfl
  have c1 : w1.cell? ⟨w.heap.size, 1, none⟩ = some (.int .i64 0) := by rw [cell_of_row w1 _ _ _ _ _ hF]; rfl
  have z0 : w1.frozen? ⟨w.heap.size, 0, none⟩ = false := frozen_of_row w1 _ _ _ _ hF
  have z1 : w1.frozen? ⟨w.heap.size, 1, none⟩ = false := frozen_of_row w1 _ _ _ _ hF
  have HB1 : Hid (Below m w w1) := HBL.out.trans hb1
  clear hb1 ho1 hF hrd1 HRD HBL
  go_wp2
  exact bodyPost_ret (v := .agg #[.int .i64 0, .int .i64 0]) (by simp [results, Tryd.results75, go_sem, c0, c1]) rfl ⟨rfl, (HB1.out.setCell (p := ⟨w.heap.size, 0, none⟩) (by simp; omega) _).setCell (p := ⟨w.heap.size, 1, none⟩) (by simp; omega) _, rd_fset (rd_fset HRD1.out (by omega) (by omega)) (by omega) (by omega)⟩

set_option maxRecDepth 100000 in
set_option maxHeartbeats 2000000 in
theorem take_e30 (g m cap : Nat) (s : Rs) (at0 : Int) (w : World) (hr : Rd w g m cap s) (hcl : s.cl = false) (hcnt : s.cnt = 3) (hpads : s.pads = 0) (hd0 : 0 ≤ s.dg) (hd1 : s.dg < 262144) (hz : (s.dg * 64) % 256 = 0) (hroom : s.out.length + 3 ≤ cap) (hmg : m < g) :
    Calls Tryd.prog 75 #[.pointer (some ⟨g, 0, none⟩), .int .u8 61, .int .i64 at0] w fun e w' => e = .returned (.agg #[.int .i64 0, .int .i64 0]) ∧ Below m w w' ∧ Rd w' g m cap { out := s.out ++ (bytesD (s.dg * 64)).take 2, dg := 0, p0 := 0, p1 := 0, p2 := 0, p3 := 0, cnt := 0, pads := 0, cl := true } := by
  have hg := hr.1
  have hglt := hr.lt
  have a0 : w.cell? ⟨g, 0, none⟩ = some (.slice (some ⟨m, 0, none⟩) s.out.length cap) := by rw [cell_of_row w _ _ _ _ _ hg]; rfl
  have a1 : w.cell? ⟨g, 1, none⟩ = some (.int .u32 s.dg) := by rw [cell_of_row w _ _ _ _ _ hg]; rfl
  have a2 : w.cell? ⟨g, 2, none⟩ = some (.int .i64 s.p0) := by rw [cell_of_row w _ _ _ _ _ hg]; rfl
  have a3 : w.cell? ⟨g, 3, none⟩ = some (.int .i64 s.p1) := by rw [cell_of_row w _ _ _ _ _ hg]; rfl
  have a4 : w.cell? ⟨g, 4, none⟩ = some (.int .i64 s.p2) := by rw [cell_of_row w _ _ _ _ _ hg]; rfl
  have a5 : w.cell? ⟨g, 5, none⟩ = some (.int .i64 s.p3) := by rw [cell_of_row w _ _ _ _ _ hg]; rfl
  have a6 : w.cell? ⟨g, 6, none⟩ = some (.int .i64 s.cnt) := by rw [cell_of_row w _ _ _ _ _ hg]; rfl
  have a7 : w.cell? ⟨g, 7, none⟩ = some (.int .i64 s.pads) := by rw [cell_of_row w _ _ _ _ _ hg]; rfl
  have a8 : w.cell? ⟨g, 8, none⟩ = some (.bool s.cl) := by rw [cell_of_row w _ _ _ _ _ hg]; rfl
  have f1 : w.frozen? ⟨g, 1, none⟩ = false := frozen_of_row w _ _ _ _ hg
  have f2 : w.frozen? ⟨g, 2, none⟩ = false := frozen_of_row w _ _ _ _ hg
  have f3 : w.frozen? ⟨g, 3, none⟩ = false := frozen_of_row w _ _ _ _ hg
  have f4 : w.frozen? ⟨g, 4, none⟩ = false := frozen_of_row w _ _ _ _ hg
  have f5 : w.frozen? ⟨g, 5, none⟩ = false := frozen_of_row w _ _ _ _ hg
  have f6 : w.frozen? ⟨g, 6, none⟩ = false := frozen_of_row w _ _ _ _ hg
  have f7 : w.frozen? ⟨g, 7, none⟩ = false := frozen_of_row w _ _ _ _ hg
  have HR : Hid (Rd w g m cap s) := hr
  clear hg hr
  rw [hcl] at a8
  rw [hcnt] at a6
  rw [hpads] at a7
  have HC : Hid (s.cl = false ∧ s.cnt = 3 ∧ s.pads = 0) := ⟨hcl, hcnt, hpads⟩
  clear hcl hcnt hpads
  obtain ⟨D, hD⟩ : ∃ D, D = s.dg := ⟨_, rfl⟩
  have HD : Hid (s.dg = D) := hD.symm
  rw [← hD] at hd0 hd1 a1 hz ⊢
  clear hD
  have eor : bits .or .u32 (D * 64) 0 = D * 64 := by rw [u32_or6 _ _ (by omega) (by omega) (by omega) (by omega) (by omega)]; omega
  have HZ : Hid ((D * 64) % 256 = 0) := hz
  clear hz
  have HG := HR.out.1
  rw [HD.out, HC.out.1, HC.out.2.1, HC.out.2.2] at HG
  obtain ⟨cur, hcur, hcs, hct, hcl⟩ := HR.out.2
  have HRD : Hid (Rd ((((((w.setCell ⟨g, 7, none⟩ (.int .i64 1)).setCell ⟨g, 1, none⟩ (.int .u32 (D * 64))).setCell ⟨g, 5, none⟩ (.int .i64 at0)).setCell ⟨g, 6, none⟩ (.int .i64 4)).alloc (.cells #[.int .i64 0, .int .i64 0] 48)).drew) g m cap { out := s.out, dg := D * 64, p0 := s.p0, p1 := s.p1, p2 := s.p2, p3 := at0, cnt := 4, pads := 1, cl := false }) := rd_tail (X := ((((w.setCell ⟨g, 7, none⟩ (.int .i64 1)).setCell ⟨g, 1, none⟩ (.int .u32 (D * 64))).setCell ⟨g, 5, none⟩ (.int .i64 at0)).setCell ⟨g, 6, none⟩ (.int .i64 4))) _ hmg ⟨(heap_setCell_same (((w.setCell ⟨g, 7, none⟩ (.int .i64 1)).setCell ⟨g, 1, none⟩ (.int .u32 (D * 64))).setCell ⟨g, 5, none⟩ (.int .i64 at0)) g 6 _ 97 (.int .i64 4) (heap_setCell_same ((w.setCell ⟨g, 7, none⟩ (.int .i64 1)).setCell ⟨g, 1, none⟩ (.int .u32 (D * 64))) g 5 _ 97 (.int .i64 at0) (heap_setCell_same (w.setCell ⟨g, 7, none⟩ (.int .i64 1)) g 1 _ 97 (.int .u32 (D * 64)) (heap_setCell_same w g 7 _ 97 (.int .i64 1) HG)))), cur, ((heap_setCell_other (((w.setCell ⟨g, 7, none⟩ (.int .i64 1)).setCell ⟨g, 1, none⟩ (.int .u32 (D * 64))).setCell ⟨g, 5, none⟩ (.int .i64 at0)) ⟨g, 6, none⟩ m (.int .i64 4) (by simp; omega)).trans ((heap_setCell_other ((w.setCell ⟨g, 7, none⟩ (.int .i64 1)).setCell ⟨g, 1, none⟩ (.int .u32 (D * 64))) ⟨g, 5, none⟩ m (.int .i64 at0) (by simp; omega)).trans ((heap_setCell_other (w.setCell ⟨g, 7, none⟩ (.int .i64 1)) ⟨g, 1, none⟩ m (.int .u32 (D * 64)) (by simp; omega)).trans ((heap_setCell_other w ⟨g, 7, none⟩ m (.int .i64 1) (by simp; omega)).trans hcur)))), hcs, hct, hcl⟩
  have HBL : Hid (Below m w ((((((w.setCell ⟨g, 7, none⟩ (.int .i64 1)).setCell ⟨g, 1, none⟩ (.int .u32 (D * 64))).setCell ⟨g, 5, none⟩ (.int .i64 at0)).setCell ⟨g, 6, none⟩ (.int .i64 4)).alloc (.cells #[.int .i64 0, .int .i64 0] 48)).drew)) := ((((((Below.refl m w).setCell (p := ⟨g, 7, none⟩) (by simp; omega) (.int .i64 1)).setCell (p := ⟨g, 1, none⟩) (by simp; omega) (.int .u32 (D * 64))).setCell (p := ⟨g, 5, none⟩) (by simp; omega) (.int .i64 at0)).setCell (p := ⟨g, 6, none⟩) (by simp; omega) (.int .i64 4)).alloc (by simp; omega) _).drew
  clear HG hcur hcs hct hcl
  go_enter Tryd.func75, Tryd.ntmps75
  go_wp2_with (go_at_call 88; refine (index_any _ _).mono ?_; rintro e w' ⟨rfl, rfl⟩; rw [val_61])
  go_region
  go_wp2_with fail
  refine (fin1 g m cap { out := s.out, dg := D * 64, p0 := s.p0, p1 := s.p1, p2 := s.p2, p3 := at0, cnt := 4, pads := 1, cl := false } _ HRD.out rfl (by show (0 : Int) ≤ D * 64; omega) (by show D * 64 < 16777216; omega) HZ.out hroom hmg).mono ?_
  rintro e w1 ⟨rfl, hb1, hrd1, ho1⟩
  have HRD1 : Hid (Rd w1 g m cap { out := s.out ++ (bytesD (D * 64)).take 2, dg := 0, p0 := 0, p1 := 0, p2 := 0, p3 := 0, cnt := 0, pads := 0, cl := true }) := hrd1
  have hF : w1.heap[w.heap.size]? = some (.cells #[.int .i64 0, .int .i64 0] 48 (0, 0)) := (ho1 w.heap.size (by omega) (by omega) (by simp)).trans (alloc_at ((((w.setCell ⟨g, 7, none⟩ (.int .i64 1)).setCell ⟨g, 1, none⟩ (.int .u32 (D * 64))).setCell ⟨g, 5, none⟩ (.int .i64 at0)).setCell ⟨g, 6, none⟩ (.int .i64 4)) (.cells #[.int .i64 0, .int .i64 0] 48) w.heap.size (by simp))
  have c0 : w1.cell? ⟨w.heap.size, 0, none⟩ = some (.int .i64 0) := by rw [cell_of_row w1 _ _ _ _ _ hF]; rfl
  have c1 : w1.cell? ⟨w.heap.size, 1, none⟩ = some (.int .i64 0) := by rw [cell_of_row w1 _ _ _ _ _ hF]; rfl
  have z0 : w1.frozen? ⟨w.heap.size, 0, none⟩ = false := frozen_of_row w1 _ _ _ _ hF
  have z1 : w1.frozen? ⟨w.heap.size, 1, none⟩ = false := frozen_of_row w1 _ _ _ _ hF
  have HB1 : Hid (Below m w w1) := HBL.out.trans hb1
  clear hb1 ho1 hF hrd1 HRD HBL
  go_wp2
  exact bodyPost_ret (v := .agg #[.int .i64 0, .int .i64 0]) (by simp [results, Tryd.results75, go_sem, c0, c1]) rfl ⟨rfl, (HB1.out.setCell (p := ⟨w.heap.size, 0, none⟩) (by simp; omega) _).setCell (p := ⟨w.heap.size, 1, none⟩) (by simp; omega) _, rd_fset (rd_fset HRD1.out (by omega) (by omega)) (by omega) (by omega)⟩

set_option maxRecDepth 100000 in
set_option maxHeartbeats 2000000 in
theorem take_e31 (g m cap : Nat) (s : Rs) (at0 : Int) (w : World) (hr : Rd w g m cap s) (hcl : s.cl = false) (hcnt : s.cnt = 3) (hpads : s.pads = 1) (hd0 : 0 ≤ s.dg) (hd1 : s.dg < 262144) (hz : (s.dg * 64) % 65536 = 0) (hroom : s.out.length + 3 ≤ cap) (hmg : m < g) :
    Calls Tryd.prog 75 #[.pointer (some ⟨g, 0, none⟩), .int .u8 61, .int .i64 at0] w fun e w' => e = .returned (.agg #[.int .i64 0, .int .i64 0]) ∧ Below m w w' ∧ Rd w' g m cap { out := s.out ++ (bytesD (s.dg * 64)).take 1, dg := 0, p0 := 0, p1 := 0, p2 := 0, p3 := 0, cnt := 0, pads := 0, cl := true } := by
  have hg := hr.1
  have hglt := hr.lt
  have a0 : w.cell? ⟨g, 0, none⟩ = some (.slice (some ⟨m, 0, none⟩) s.out.length cap) := by rw [cell_of_row w _ _ _ _ _ hg]; rfl
  have a1 : w.cell? ⟨g, 1, none⟩ = some (.int .u32 s.dg) := by rw [cell_of_row w _ _ _ _ _ hg]; rfl
  have a2 : w.cell? ⟨g, 2, none⟩ = some (.int .i64 s.p0) := by rw [cell_of_row w _ _ _ _ _ hg]; rfl
  have a3 : w.cell? ⟨g, 3, none⟩ = some (.int .i64 s.p1) := by rw [cell_of_row w _ _ _ _ _ hg]; rfl
  have a4 : w.cell? ⟨g, 4, none⟩ = some (.int .i64 s.p2) := by rw [cell_of_row w _ _ _ _ _ hg]; rfl
  have a5 : w.cell? ⟨g, 5, none⟩ = some (.int .i64 s.p3) := by rw [cell_of_row w _ _ _ _ _ hg]; rfl
  have a6 : w.cell? ⟨g, 6, none⟩ = some (.int .i64 s.cnt) := by rw [cell_of_row w _ _ _ _ _ hg]; rfl
  have a7 : w.cell? ⟨g, 7, none⟩ = some (.int .i64 s.pads) := by rw [cell_of_row w _ _ _ _ _ hg]; rfl
  have a8 : w.cell? ⟨g, 8, none⟩ = some (.bool s.cl) := by rw [cell_of_row w _ _ _ _ _ hg]; rfl
  have f1 : w.frozen? ⟨g, 1, none⟩ = false := frozen_of_row w _ _ _ _ hg
  have f2 : w.frozen? ⟨g, 2, none⟩ = false := frozen_of_row w _ _ _ _ hg
  have f3 : w.frozen? ⟨g, 3, none⟩ = false := frozen_of_row w _ _ _ _ hg
  have f4 : w.frozen? ⟨g, 4, none⟩ = false := frozen_of_row w _ _ _ _ hg
  have f5 : w.frozen? ⟨g, 5, none⟩ = false := frozen_of_row w _ _ _ _ hg
  have f6 : w.frozen? ⟨g, 6, none⟩ = false := frozen_of_row w _ _ _ _ hg
  have f7 : w.frozen? ⟨g, 7, none⟩ = false := frozen_of_row w _ _ _ _ hg
  have HR : Hid (Rd w g m cap s) := hr
  clear hg hr
  rw [hcl] at a8
  rw [hcnt] at a6
  rw [hpads] at a7
  have HC : Hid (s.cl = false ∧ s.cnt = 3 ∧ s.pads = 1) := ⟨hcl, hcnt, hpads⟩
  clear hcl hcnt hpads
  obtain ⟨D, hD⟩ : ∃ D, D = s.dg := ⟨_, rfl⟩
  have HD : Hid (s.dg = D) := hD.symm
  rw [← hD] at hd0 hd1 a1 hz ⊢
  clear hD
  have eor : bits .or .u32 (D * 64) 0 = D * 64 := by rw [u32_or6 _ _ (by omega) (by omega) (by omega) (by omega) (by omega)]; omega
  have HZ : Hid ((D * 64) % 65536 = 0) := hz
  clear hz
  have HG := HR.out.1
  rw [HD.out, HC.out.1, HC.out.2.1, HC.out.2.2] at HG
  obtain ⟨cur, hcur, hcs, hct, hcl⟩ := HR.out.2
  have HRD : Hid (Rd ((((((w.setCell ⟨g, 7, none⟩ (.int .i64 2)).setCell ⟨g, 1, none⟩ (.int .u32 (D * 64))).setCell ⟨g, 5, none⟩ (.int .i64 at0)).setCell ⟨g, 6, none⟩ (.int .i64 4)).alloc (.cells #[.int .i64 0, .int .i64 0] 48)).drew) g m cap { out := s.out, dg := D * 64, p0 := s.p0, p1 := s.p1, p2 := s.p2, p3 := at0, cnt := 4, pads := 2, cl := false }) := rd_tail (X := ((((w.setCell ⟨g, 7, none⟩ (.int .i64 2)).setCell ⟨g, 1, none⟩ (.int .u32 (D * 64))).setCell ⟨g, 5, none⟩ (.int .i64 at0)).setCell ⟨g, 6, none⟩ (.int .i64 4))) _ hmg ⟨(heap_setCell_same (((w.setCell ⟨g, 7, none⟩ (.int .i64 2)).setCell ⟨g, 1, none⟩ (.int .u32 (D * 64))).setCell ⟨g, 5, none⟩ (.int .i64 at0)) g 6 _ 97 (.int .i64 4) (heap_setCell_same ((w.setCell ⟨g, 7, none⟩ (.int .i64 2)).setCell ⟨g, 1, none⟩ (.int .u32 (D * 64))) g 5 _ 97 (.int .i64 at0) (heap_setCell_same (w.setCell ⟨g, 7, none⟩ (.int .i64 2)) g 1 _ 97 (.int .u32 (D * 64)) (heap_setCell_same w g 7 _ 97 (.int .i64 2) HG)))), cur, ((heap_setCell_other (((w.setCell ⟨g, 7, none⟩ (.int .i64 2)).setCell ⟨g, 1, none⟩ (.int .u32 (D * 64))).setCell ⟨g, 5, none⟩ (.int .i64 at0)) ⟨g, 6, none⟩ m (.int .i64 4) (by simp; omega)).trans ((heap_setCell_other ((w.setCell ⟨g, 7, none⟩ (.int .i64 2)).setCell ⟨g, 1, none⟩ (.int .u32 (D * 64))) ⟨g, 5, none⟩ m (.int .i64 at0) (by simp; omega)).trans ((heap_setCell_other (w.setCell ⟨g, 7, none⟩ (.int .i64 2)) ⟨g, 1, none⟩ m (.int .u32 (D * 64)) (by simp; omega)).trans ((heap_setCell_other w ⟨g, 7, none⟩ m (.int .i64 2) (by simp; omega)).trans hcur)))), hcs, hct, hcl⟩
  have HBL : Hid (Below m w ((((((w.setCell ⟨g, 7, none⟩ (.int .i64 2)).setCell ⟨g, 1, none⟩ (.int .u32 (D * 64))).setCell ⟨g, 5, none⟩ (.int .i64 at0)).setCell ⟨g, 6, none⟩ (.int .i64 4)).alloc (.cells #[.int .i64 0, .int .i64 0] 48)).drew)) := ((((((Below.refl m w).setCell (p := ⟨g, 7, none⟩) (by simp; omega) (.int .i64 2)).setCell (p := ⟨g, 1, none⟩) (by simp; omega) (.int .u32 (D * 64))).setCell (p := ⟨g, 5, none⟩) (by simp; omega) (.int .i64 at0)).setCell (p := ⟨g, 6, none⟩) (by simp; omega) (.int .i64 4)).alloc (by simp; omega) _).drew
  clear HG hcur hcs hct hcl
  go_enter Tryd.func75, Tryd.ntmps75
  go_wp2_with (go_at_call 88; refine (index_any _ _).mono ?_; rintro e w' ⟨rfl, rfl⟩; rw [val_61])
  go_region
  go_wp2_with fail
  refine (fin2 g m cap { out := s.out, dg := D * 64, p0 := s.p0, p1 := s.p1, p2 := s.p2, p3 := at0, cnt := 4, pads := 2, cl := false } _ HRD.out rfl (by show (0 : Int) ≤ D * 64; omega) (by show D * 64 < 16777216; omega) HZ.out hroom hmg).mono ?_
  rintro e w1 ⟨rfl, hb1, hrd1, ho1⟩
  have HRD1 : Hid (Rd w1 g m cap { out := s.out ++ (bytesD (D * 64)).take 1, dg := 0, p0 := 0, p1 := 0, p2 := 0, p3 := 0, cnt := 0, pads := 0, cl := true }) := hrd1
  have hF : w1.heap[w.heap.size]? = some (.cells #[.int .i64 0, .int .i64 0] 48 (0, 0)) := (ho1 w.heap.size (by omega) (by omega) (by simp)).trans (alloc_at ((((w.setCell ⟨g, 7, none⟩ (.int .i64 2)).setCell ⟨g, 1, none⟩ (.int .u32 (D * 64))).setCell ⟨g, 5, none⟩ (.int .i64 at0)).setCell ⟨g, 6, none⟩ (.int .i64 4)) (.cells #[.int .i64 0, .int .i64 0] 48) w.heap.size (by simp))
  have c0 : w1.cell? ⟨w.heap.size, 0, none⟩ = some (.int .i64 0) := by rw [cell_of_row w1 _ _ _ _ _ hF]; rfl
  have c1 : w1.cell? ⟨w.heap.size, 1, none⟩ = some (.int .i64 0) := by rw [cell_of_row w1 _ _ _ _ _ hF]; rfl
  have z0 : w1.frozen? ⟨w.heap.size, 0, none⟩ = false := frozen_of_row w1 _ _ _ _ hF
  have z1 : w1.frozen? ⟨w.heap.size, 1, none⟩ = false := frozen_of_row w1 _ _ _ _ hF
  have HB1 : Hid (Below m w w1) := HBL.out.trans hb1
  clear hb1 ho1 hF hrd1 HRD HBL
  go_wp2
  exact bodyPost_ret (v := .agg #[.int .i64 0, .int .i64 0]) (by simp [results, Tryd.results75, go_sem, c0, c1]) rfl ⟨rfl, (HB1.out.setCell (p := ⟨w.heap.size, 0, none⟩) (by simp; omega) _).setCell (p := ⟨w.heap.size, 1, none⟩) (by simp; omega) _, rd_fset (rd_fset HRD1.out (by omega) (by omega)) (by omega) (by omega)⟩

set_option maxRecDepth 100000 in
set_option maxHeartbeats 2000000 in
theorem take_e30f (g m cap : Nat) (s : Rs) (at0 : Int) (w : World) (hr : Rd w g m cap s) (hcl : s.cl = false) (hcnt : s.cnt = 3) (hpads : s.pads = 0) (hd0 : 0 ≤ s.dg) (hd1 : s.dg < 262144) (hz : (s.dg * 64) % 256 ≠ 0) (hroom : s.out.length + 3 ≤ cap) (hmg : m < g) :
    Calls Tryd.prog 75 #[.pointer (some ⟨g, 0, none⟩), .int .u8 61, .int .i64 at0] w fun e w' => e = .returned (.agg #[.int .i64 s.p2, .int .i64 12]) ∧ Below m w w' := by
  have hg := hr.1
  have hglt := hr.lt
  have a0 : w.cell? ⟨g, 0, none⟩ = some (.slice (some ⟨m, 0, none⟩) s.out.length cap) := by rw [cell_of_row w _ _ _ _ _ hg]; rfl
  have a1 : w.cell? ⟨g, 1, none⟩ = some (.int .u32 s.dg) := by rw [cell_of_row w _ _ _ _ _ hg]; rfl
  have a2 : w.cell? ⟨g, 2, none⟩ = some (.int .i64 s.p0) := by rw [cell_of_row w _ _ _ _ _ hg]; rfl
  have a3 : w.cell? ⟨g, 3, none⟩ = some (.int .i64 s.p1) := by rw [cell_of_row w _ _ _ _ _ hg]; rfl
  have a4 : w.cell? ⟨g, 4, none⟩ = some (.int .i64 s.p2) := by rw [cell_of_row w _ _ _ _ _ hg]; rfl
  have a5 : w.cell? ⟨g, 5, none⟩ = some (.int .i64 s.p3) := by rw [cell_of_row w _ _ _ _ _ hg]; rfl
  have a6 : w.cell? ⟨g, 6, none⟩ = some (.int .i64 s.cnt) := by rw [cell_of_row w _ _ _ _ _ hg]; rfl
  have a7 : w.cell? ⟨g, 7, none⟩ = some (.int .i64 s.pads) := by rw [cell_of_row w _ _ _ _ _ hg]; rfl
  have a8 : w.cell? ⟨g, 8, none⟩ = some (.bool s.cl) := by rw [cell_of_row w _ _ _ _ _ hg]; rfl
  have f1 : w.frozen? ⟨g, 1, none⟩ = false := frozen_of_row w _ _ _ _ hg
  have f2 : w.frozen? ⟨g, 2, none⟩ = false := frozen_of_row w _ _ _ _ hg
  have f3 : w.frozen? ⟨g, 3, none⟩ = false := frozen_of_row w _ _ _ _ hg
  have f4 : w.frozen? ⟨g, 4, none⟩ = false := frozen_of_row w _ _ _ _ hg
  have f5 : w.frozen? ⟨g, 5, none⟩ = false := frozen_of_row w _ _ _ _ hg
  have f6 : w.frozen? ⟨g, 6, none⟩ = false := frozen_of_row w _ _ _ _ hg
  have f7 : w.frozen? ⟨g, 7, none⟩ = false := frozen_of_row w _ _ _ _ hg
  have HR : Hid (Rd w g m cap s) := hr
  clear hg hr
  rw [hcl] at a8
  rw [hcnt] at a6
  rw [hpads] at a7
  have HC : Hid (s.cl = false ∧ s.cnt = 3 ∧ s.pads = 0) := ⟨hcl, hcnt, hpads⟩
  clear hcl hcnt hpads
  obtain ⟨D, hD⟩ : ∃ D, D = s.dg := ⟨_, rfl⟩
  have HD : Hid (s.dg = D) := hD.symm
  rw [← hD] at hd0 hd1 a1 hz
  clear hD
  have eor : bits .or .u32 (D * 64) 0 = D * 64 := by rw [u32_or6 _ _ (by omega) (by omega) (by omega) (by omega) (by omega)]; omega
  have HZ : Hid ((D * 64) % 256 ≠ 0) := hz
  clear hz
  have HG := HR.out.1
  rw [HD.out, HC.out.1, HC.out.2.1, HC.out.2.2] at HG
  obtain ⟨cur, hcur, hcs, hct, hcl⟩ := HR.out.2
  have HRD : Hid (Rd ((((((w.setCell ⟨g, 7, none⟩ (.int .i64 1)).setCell ⟨g, 1, none⟩ (.int .u32 (D * 64))).setCell ⟨g, 5, none⟩ (.int .i64 at0)).setCell ⟨g, 6, none⟩ (.int .i64 4)).alloc (.cells #[.int .i64 0, .int .i64 0] 48)).drew) g m cap { out := s.out, dg := D * 64, p0 := s.p0, p1 := s.p1, p2 := s.p2, p3 := at0, cnt := 4, pads := 1, cl := false }) := rd_tail (X := ((((w.setCell ⟨g, 7, none⟩ (.int .i64 1)).setCell ⟨g, 1, none⟩ (.int .u32 (D * 64))).setCell ⟨g, 5, none⟩ (.int .i64 at0)).setCell ⟨g, 6, none⟩ (.int .i64 4))) _ hmg ⟨(heap_setCell_same (((w.setCell ⟨g, 7, none⟩ (.int .i64 1)).setCell ⟨g, 1, none⟩ (.int .u32 (D * 64))).setCell ⟨g, 5, none⟩ (.int .i64 at0)) g 6 _ 97 (.int .i64 4) (heap_setCell_same ((w.setCell ⟨g, 7, none⟩ (.int .i64 1)).setCell ⟨g, 1, none⟩ (.int .u32 (D * 64))) g 5 _ 97 (.int .i64 at0) (heap_setCell_same (w.setCell ⟨g, 7, none⟩ (.int .i64 1)) g 1 _ 97 (.int .u32 (D * 64)) (heap_setCell_same w g 7 _ 97 (.int .i64 1) HG)))), cur, ((heap_setCell_other (((w.setCell ⟨g, 7, none⟩ (.int .i64 1)).setCell ⟨g, 1, none⟩ (.int .u32 (D * 64))).setCell ⟨g, 5, none⟩ (.int .i64 at0)) ⟨g, 6, none⟩ m (.int .i64 4) (by simp; omega)).trans ((heap_setCell_other ((w.setCell ⟨g, 7, none⟩ (.int .i64 1)).setCell ⟨g, 1, none⟩ (.int .u32 (D * 64))) ⟨g, 5, none⟩ m (.int .i64 at0) (by simp; omega)).trans ((heap_setCell_other (w.setCell ⟨g, 7, none⟩ (.int .i64 1)) ⟨g, 1, none⟩ m (.int .u32 (D * 64)) (by simp; omega)).trans ((heap_setCell_other w ⟨g, 7, none⟩ m (.int .i64 1) (by simp; omega)).trans hcur)))), hcs, hct, hcl⟩
  have HBL : Hid (Below m w ((((((w.setCell ⟨g, 7, none⟩ (.int .i64 1)).setCell ⟨g, 1, none⟩ (.int .u32 (D * 64))).setCell ⟨g, 5, none⟩ (.int .i64 at0)).setCell ⟨g, 6, none⟩ (.int .i64 4)).alloc (.cells #[.int .i64 0, .int .i64 0] 48)).drew)) := ((((((Below.refl m w).setCell (p := ⟨g, 7, none⟩) (by simp; omega) (.int .i64 1)).setCell (p := ⟨g, 1, none⟩) (by simp; omega) (.int .u32 (D * 64))).setCell (p := ⟨g, 5, none⟩) (by simp; omega) (.int .i64 at0)).setCell (p := ⟨g, 6, none⟩) (by simp; omega) (.int .i64 4)).alloc (by simp; omega) _).drew
  clear HG hcur hcs hct hcl
  go_enter Tryd.func75, Tryd.ntmps75
  go_wp2_with (go_at_call 88; refine (index_any _ _).mono ?_; rintro e w' ⟨rfl, rfl⟩; rw [val_61])
  go_region
  go_wp2_with fail
  refine (finf1 g m cap { out := s.out, dg := D * 64, p0 := s.p0, p1 := s.p1, p2 := s.p2, p3 := at0, cnt := 4, pads := 1, cl := false } _ HRD.out rfl (by show (0 : Int) ≤ D * 64; omega) (by show D * 64 < 16777216; omega) HZ.out hmg).mono ?_
  rintro e w1 ⟨rfl, hb1, ho1⟩
  have hF : w1.heap[w.heap.size]? = some (.cells #[.int .i64 0, .int .i64 0] 48 (0, 0)) := (ho1 w.heap.size (by omega) (by omega) (by simp)).trans (alloc_at ((((w.setCell ⟨g, 7, none⟩ (.int .i64 1)).setCell ⟨g, 1, none⟩ (.int .u32 (D * 64))).setCell ⟨g, 5, none⟩ (.int .i64 at0)).setCell ⟨g, 6, none⟩ (.int .i64 4)) (.cells #[.int .i64 0, .int .i64 0] 48) w.heap.size (by simp))
  have c0 : w1.cell? ⟨w.heap.size, 0, none⟩ = some (.int .i64 0) := by rw [cell_of_row w1 _ _ _ _ _ hF]; rfl
  have c1 : w1.cell? ⟨w.heap.size, 1, none⟩ = some (.int .i64 0) := by rw [cell_of_row w1 _ _ _ _ _ hF]; rfl
  have z0 : w1.frozen? ⟨w.heap.size, 0, none⟩ = false := frozen_of_row w1 _ _ _ _ hF
  have z1 : w1.frozen? ⟨w.heap.size, 1, none⟩ = false := frozen_of_row w1 _ _ _ _ hF
  have HB1 : Hid (Below m w w1) := HBL.out.trans hb1
  clear hb1 ho1 hF HRD HBL
  go_wp2
  exact bodyPost_ret (v := .agg #[.int .i64 s.p2, .int .i64 12]) (by simp [results, Tryd.results75, go_sem, c0, c1]) rfl ⟨rfl, (HB1.out.setCell (p := ⟨w.heap.size, 0, none⟩) (by simp; omega) _).setCell (p := ⟨w.heap.size, 1, none⟩) (by simp; omega) _⟩

set_option maxRecDepth 100000 in
set_option maxHeartbeats 2000000 in
theorem take_e31f (g m cap : Nat) (s : Rs) (at0 : Int) (w : World) (hr : Rd w g m cap s) (hcl : s.cl = false) (hcnt : s.cnt = 3) (hpads : s.pads = 1) (hd0 : 0 ≤ s.dg) (hd1 : s.dg < 262144) (hz : (s.dg * 64) % 65536 ≠ 0) (hroom : s.out.length + 3 ≤ cap) (hmg : m < g) :
    Calls Tryd.prog 75 #[.pointer (some ⟨g, 0, none⟩), .int .u8 61, .int .i64 at0] w fun e w' => e = .returned (.agg #[.int .i64 s.p1, .int .i64 12]) ∧ Below m w w' := by
  have hg := hr.1
  have hglt := hr.lt
  have a0 : w.cell? ⟨g, 0, none⟩ = some (.slice (some ⟨m, 0, none⟩) s.out.length cap) := by rw [cell_of_row w _ _ _ _ _ hg]; rfl
  have a1 : w.cell? ⟨g, 1, none⟩ = some (.int .u32 s.dg) := by rw [cell_of_row w _ _ _ _ _ hg]; rfl
  have a2 : w.cell? ⟨g, 2, none⟩ = some (.int .i64 s.p0) := by rw [cell_of_row w _ _ _ _ _ hg]; rfl
  have a3 : w.cell? ⟨g, 3, none⟩ = some (.int .i64 s.p1) := by rw [cell_of_row w _ _ _ _ _ hg]; rfl
  have a4 : w.cell? ⟨g, 4, none⟩ = some (.int .i64 s.p2) := by rw [cell_of_row w _ _ _ _ _ hg]; rfl
  have a5 : w.cell? ⟨g, 5, none⟩ = some (.int .i64 s.p3) := by rw [cell_of_row w _ _ _ _ _ hg]; rfl
  have a6 : w.cell? ⟨g, 6, none⟩ = some (.int .i64 s.cnt) := by rw [cell_of_row w _ _ _ _ _ hg]; rfl
  have a7 : w.cell? ⟨g, 7, none⟩ = some (.int .i64 s.pads) := by rw [cell_of_row w _ _ _ _ _ hg]; rfl
  have a8 : w.cell? ⟨g, 8, none⟩ = some (.bool s.cl) := by rw [cell_of_row w _ _ _ _ _ hg]; rfl
  have f1 : w.frozen? ⟨g, 1, none⟩ = false := frozen_of_row w _ _ _ _ hg
  have f2 : w.frozen? ⟨g, 2, none⟩ = false := frozen_of_row w _ _ _ _ hg
  have f3 : w.frozen? ⟨g, 3, none⟩ = false := frozen_of_row w _ _ _ _ hg
  have f4 : w.frozen? ⟨g, 4, none⟩ = false := frozen_of_row w _ _ _ _ hg
  have f5 : w.frozen? ⟨g, 5, none⟩ = false := frozen_of_row w _ _ _ _ hg
  have f6 : w.frozen? ⟨g, 6, none⟩ = false := frozen_of_row w _ _ _ _ hg
  have f7 : w.frozen? ⟨g, 7, none⟩ = false := frozen_of_row w _ _ _ _ hg
  have HR : Hid (Rd w g m cap s) := hr
  clear hg hr
  rw [hcl] at a8
  rw [hcnt] at a6
  rw [hpads] at a7
  have HC : Hid (s.cl = false ∧ s.cnt = 3 ∧ s.pads = 1) := ⟨hcl, hcnt, hpads⟩
  clear hcl hcnt hpads
  obtain ⟨D, hD⟩ : ∃ D, D = s.dg := ⟨_, rfl⟩
  have HD : Hid (s.dg = D) := hD.symm
  rw [← hD] at hd0 hd1 a1 hz
  clear hD
  have eor : bits .or .u32 (D * 64) 0 = D * 64 := by rw [u32_or6 _ _ (by omega) (by omega) (by omega) (by omega) (by omega)]; omega
  have HZ : Hid ((D * 64) % 65536 ≠ 0) := hz
  clear hz
  have HG := HR.out.1
  rw [HD.out, HC.out.1, HC.out.2.1, HC.out.2.2] at HG
  obtain ⟨cur, hcur, hcs, hct, hcl⟩ := HR.out.2
  have HRD : Hid (Rd ((((((w.setCell ⟨g, 7, none⟩ (.int .i64 2)).setCell ⟨g, 1, none⟩ (.int .u32 (D * 64))).setCell ⟨g, 5, none⟩ (.int .i64 at0)).setCell ⟨g, 6, none⟩ (.int .i64 4)).alloc (.cells #[.int .i64 0, .int .i64 0] 48)).drew) g m cap { out := s.out, dg := D * 64, p0 := s.p0, p1 := s.p1, p2 := s.p2, p3 := at0, cnt := 4, pads := 2, cl := false }) := rd_tail (X := ((((w.setCell ⟨g, 7, none⟩ (.int .i64 2)).setCell ⟨g, 1, none⟩ (.int .u32 (D * 64))).setCell ⟨g, 5, none⟩ (.int .i64 at0)).setCell ⟨g, 6, none⟩ (.int .i64 4))) _ hmg ⟨(heap_setCell_same (((w.setCell ⟨g, 7, none⟩ (.int .i64 2)).setCell ⟨g, 1, none⟩ (.int .u32 (D * 64))).setCell ⟨g, 5, none⟩ (.int .i64 at0)) g 6 _ 97 (.int .i64 4) (heap_setCell_same ((w.setCell ⟨g, 7, none⟩ (.int .i64 2)).setCell ⟨g, 1, none⟩ (.int .u32 (D * 64))) g 5 _ 97 (.int .i64 at0) (heap_setCell_same (w.setCell ⟨g, 7, none⟩ (.int .i64 2)) g 1 _ 97 (.int .u32 (D * 64)) (heap_setCell_same w g 7 _ 97 (.int .i64 2) HG)))), cur, ((heap_setCell_other (((w.setCell ⟨g, 7, none⟩ (.int .i64 2)).setCell ⟨g, 1, none⟩ (.int .u32 (D * 64))).setCell ⟨g, 5, none⟩ (.int .i64 at0)) ⟨g, 6, none⟩ m (.int .i64 4) (by simp; omega)).trans ((heap_setCell_other ((w.setCell ⟨g, 7, none⟩ (.int .i64 2)).setCell ⟨g, 1, none⟩ (.int .u32 (D * 64))) ⟨g, 5, none⟩ m (.int .i64 at0) (by simp; omega)).trans ((heap_setCell_other (w.setCell ⟨g, 7, none⟩ (.int .i64 2)) ⟨g, 1, none⟩ m (.int .u32 (D * 64)) (by simp; omega)).trans ((heap_setCell_other w ⟨g, 7, none⟩ m (.int .i64 2) (by simp; omega)).trans hcur)))), hcs, hct, hcl⟩
  have HBL : Hid (Below m w ((((((w.setCell ⟨g, 7, none⟩ (.int .i64 2)).setCell ⟨g, 1, none⟩ (.int .u32 (D * 64))).setCell ⟨g, 5, none⟩ (.int .i64 at0)).setCell ⟨g, 6, none⟩ (.int .i64 4)).alloc (.cells #[.int .i64 0, .int .i64 0] 48)).drew)) := ((((((Below.refl m w).setCell (p := ⟨g, 7, none⟩) (by simp; omega) (.int .i64 2)).setCell (p := ⟨g, 1, none⟩) (by simp; omega) (.int .u32 (D * 64))).setCell (p := ⟨g, 5, none⟩) (by simp; omega) (.int .i64 at0)).setCell (p := ⟨g, 6, none⟩) (by simp; omega) (.int .i64 4)).alloc (by simp; omega) _).drew
  clear HG hcur hcs hct hcl
  go_enter Tryd.func75, Tryd.ntmps75
  go_wp2_with (go_at_call 88; refine (index_any _ _).mono ?_; rintro e w' ⟨rfl, rfl⟩; rw [val_61])
  go_region
  go_wp2_with fail
  refine (finf2 g m cap { out := s.out, dg := D * 64, p0 := s.p0, p1 := s.p1, p2 := s.p2, p3 := at0, cnt := 4, pads := 2, cl := false } _ HRD.out rfl (by show (0 : Int) ≤ D * 64; omega) (by show D * 64 < 16777216; omega) HZ.out hmg).mono ?_
  rintro e w1 ⟨rfl, hb1, ho1⟩
  have hF : w1.heap[w.heap.size]? = some (.cells #[.int .i64 0, .int .i64 0] 48 (0, 0)) := (ho1 w.heap.size (by omega) (by omega) (by simp)).trans (alloc_at ((((w.setCell ⟨g, 7, none⟩ (.int .i64 2)).setCell ⟨g, 1, none⟩ (.int .u32 (D * 64))).setCell ⟨g, 5, none⟩ (.int .i64 at0)).setCell ⟨g, 6, none⟩ (.int .i64 4)) (.cells #[.int .i64 0, .int .i64 0] 48) w.heap.size (by simp))
  have c0 : w1.cell? ⟨w.heap.size, 0, none⟩ = some (.int .i64 0) := by rw [cell_of_row w1 _ _ _ _ _ hF]; rfl
  have c1 : w1.cell? ⟨w.heap.size, 1, none⟩ = some (.int .i64 0) := by rw [cell_of_row w1 _ _ _ _ _ hF]; rfl
  have z0 : w1.frozen? ⟨w.heap.size, 0, none⟩ = false := frozen_of_row w1 _ _ _ _ hF
  have z1 : w1.frozen? ⟨w.heap.size, 1, none⟩ = false := frozen_of_row w1 _ _ _ _ hF
  have HB1 : Hid (Below m w w1) := HBL.out.trans hb1
  clear hb1 ho1 hF HRD HBL
  go_wp2
  exact bodyPost_ret (v := .agg #[.int .i64 s.p1, .int .i64 12]) (by simp [results, Tryd.results75, go_sem, c0, c1]) rfl ⟨rfl, (HB1.out.setCell (p := ⟨w.heap.size, 0, none⟩) (by simp; omega) _).setCell (p := ⟨w.heap.size, 1, none⟩) (by simp; omega) _⟩
end Go.Proofs.YtnhbmekhmkkccaaDoor.Bt
