/-
  The contract of begin.
-/
import Derived.Test.YtmdkmedlncfcbaaGreatDoorBad
import Derived.Deep.RegionLaw
namespace Go.Proofs.YtmdkmedlncfcbaaGreatDoor
open Go.RowKit
set_option linter.unusedVariables false

theorem hd_three {w2 w4 : World} {B g : Nat} {s : HS} {vf v2 v4 : Value} {nm : ByteArray} {val : List Int} {p : Int} (hB : g < B) (hBw : B ≤ w2.heap.size) (hg : w4.heap[g]? = some (.cells (cellsH vf v2 s) 95 (0, 0))) (hf : OwnF w2 B vf s.fs) (hb : Below w2.heap.size w2 w4) (ho : Own w4 w2.heap.size v4 val) :
    Hd (((w4.setCell ⟨g, 1, none⟩ (.string nm)).setCell ⟨g, 2, none⟩ v4).setCell ⟨g, 3, none⟩ (.int .i64 p)) B g { s with nm := nm, val := val, beg := p } ∧
      Bx B g w2 (((w4.setCell ⟨g, 1, none⟩ (.string nm)).setCell ⟨g, 2, none⟩ v4).setCell ⟨g, 3, none⟩ (.int .i64 p)) ∧
      Tk w2 (((w4.setCell ⟨g, 1, none⟩ (.string nm)).setCell ⟨g, 2, none⟩ v4).setCell ⟨g, 3, none⟩ (.int .i64 p)) := by
  have q1 := heap_setCell_same w4 g 1 _ 95 (.string nm) hg
  have q2 := heap_setCell_same _ g 2 _ 95 v4 q1
  have q3 := heap_setCell_same _ g 3 _ 95 (.int .i64 p) q2
  have hs : B ≤ w4.heap.size := Nat.le_trans hBw hb.size
  refine ⟨⟨hB, Nat.le_trans hs (Nat.le_trans (size_setCell _ _ _) (Nat.le_trans (size_setCell _ _ _) (size_setCell _ _ _))), vf, v4, q3, ownsRow_other hB (ownsRow_other hB (ownsRow_other hB (own_keep hf hb))), own_other hB (own_other hB (own_other hB (own_base hBw ho)))⟩, ?_, ?_⟩
  · exact ((Bx.trans ⟨hb.mono (by omega), fun k _ h2 => hb.block k (by omega)⟩ (Bx.set _ _ _)).trans (Bx.set _ _ _)).trans (Bx.set _ _ _)
  · exact (((Tk.below hb).trans (Tk.set hg)).trans (Tk.set q1)).trans (Tk.set q2)
set_option maxHeartbeats 2000000 in
set_option maxRecDepth 100000 in
theorem begin_good (B g : Nat) (s : HS) (w : World) (hr : Hd w B g s) (hby : Byt s.val) (hlen : s.val.length ≤ 1000000000) (hfs : s.fs.length ≤ 128) (p : Int) (a : Option Addr) (m c : Nat) (l : List Int) (hl : l.length = m) (hbl : Byt l) (hm : m ≤ 1000000) (hmc : m ≤ c) (hnil : a = none → c = 0) (hrow : ∀ w', Bx B g w w' → Row w' a l) (hmx : Mx w) (hg0 : 0 < g) (hsb : shutB s = true) :
    Calls Tryz.prog 65 #[.pointer (some ⟨g, 0, none⟩), .int .i64 p, .slice a m c] w fun e w' => e = .returned (beginF s p l) ∧ Hd w' B g (beginZ s p l) ∧ Bx B g w w' ∧ Tk w w' := by
  have HR : Hid (Hd w B g s) := hr
  obtain ⟨h1, h2, _⟩ := hr
  have hgw : g < w.heap.size := by omega
  have HBY : Hid (Byt s.val) := hby
  have HBL : Hid (Byt l) := hbl
  have HRW : Hid (∀ w', Bx B g w w' → Row w' a l) := hrow
  have HMX : Hid (Mx w) := hmx
  clear hby hbl hrow hmx
  go_enter Tryz.func65, Tryz.ntmps65
  go_wp2_with fail
  refine (shut_any B g s _ (HR.out.alloc _) HBY.out hlen hfs).mono ?_
  rintro e w1 ⟨rfl, hH1, hX1, hT1⟩
  have HH1 : Hid (Hd w1 B g (shutZ s)) := hH1
  have HX1 : Hid (Bx B g w w1) := (Bx.alloc w _ h1 h2).trans hX1
  have HT1 : Hid (Tk w w1) := (Tk.below (keep w _)).trans hT1
  have hres : w1.heap[w.heap.size]? = some (.cells #[.int .i64 0, .int .i64 0] 55 (0, 0)) := hT1.f (heap_alloc_last w _)
  have HS1 : Hid (w1.heap[w.heap.size]? = some (.cells #[.int .i64 0, .int .i64 0] 55 (0, 0))) := hres
  have hlt1 : w.heap.size < w1.heap.size := (Array.getElem?_eq_some_iff.1 hres).1
  have d0 : w1.cell? ⟨w.heap.size, 0, none⟩ = some (.int .i64 0) := by rw [cell_of_row _ _ _ _ _ _ hres]; rfl
  have d1 : w1.cell? ⟨w.heap.size, 1, none⟩ = some (.int .i64 0) := by rw [cell_of_row _ _ _ _ _ _ hres]; rfl
  have e0 : w1.frozen? ⟨w.heap.size, 0, none⟩ = false := frozen_of_row _ _ _ _ _ hres
  have e1 : w1.frozen? ⟨w.heap.size, 1, none⟩ = false := frozen_of_row _ _ _ _ _ hres
  rw [shutF_eq]
  clear hH1 hX1 hT1 hres
  rw [if_pos hsb]
  unfold faultV
  have kc := conv_const (w1.alloc (.cells #[.int .i64 0, .int .i64 0] 55)) #[.int .u8 58] 1 1 (w1.heap.size + 1) (by simp)
  go_wp2_with fail
  have HX2 : Hid (Bx B g w ((w1.alloc (.cells #[.int .i64 0, .int .i64 0] 55)).alloc (.cells #[.int .u8 58] 5 (1, 2)))) := (HX1.out.trans (Bx.alloc _ _ h1 (by omega))).trans (Bx.alloc _ _ h1 (by simp; omega))
  have hrm : Row ((w1.alloc (.cells #[.int .i64 0, .int .i64 0] 55)).alloc (.cells #[.int .u8 58] 5 (1, 2))) (some ⟨w1.heap.size + 1, 0, none⟩) [58] := by
    have h := row_mark (w1.alloc (.cells #[.int .i64 0, .int .i64 0] 55)) [58] (1, 2)
    simpa using h
  refine (cut_colon a (some ⟨w1.heap.size + 1, 0, none⟩) m c 1 l _ hl HBL.out (HRW.out _ HX2.out) hrm hnil hmc (by omega) (HMX.out.below HX2.out.1 hg0)).mono ?_
  rintro e w2 ⟨rfl, hq⟩
  have HQ : Hid (Qt _ w2) := hq
  have HH2 : Hid (Hd w2 B g (shutZ s)) := by
    obtain ⟨q, rfl⟩ := hq
    exact ((HH1.out.alloc _).alloc _)
  have ht12 : Tk w1 w2 := by
    obtain ⟨q, rfl⟩ := hq
    have h := (Tk.below (keep w1 (.cells #[.int .i64 0, .int .i64 0] 55))).trans (Tk.below (keep (w1.alloc (.cells #[.int .i64 0, .int .i64 0] 55)) (.cells #[.int .u8 58] 5 (1, 2))))
    exact fun r o hh ho => h r o hh ho
  have HT2 : Hid (Tk w w2) := HT1.out.trans ht12
  have hres : w2.heap[w.heap.size]? = some (.cells #[.int .i64 0, .int .i64 0] 55 (0, 0)) := ht12.f HS1.out
  have HS2 : Hid (w2.heap[w.heap.size]? = some (.cells #[.int .i64 0, .int .i64 0] 55 (0, 0))) := hres
  have HX3 : Hid (Bx B g w w2) := HX2.out.trans (hq.bx B g)
  have hrw2 : Row w2 a l := HRW.out _ HX3.out
  clear kc hrm d0 d1 e0 e1 ht12
  have d0 : w2.cell? ⟨w.heap.size, 0, none⟩ = some (.int .i64 0) := by rw [cell_of_row _ _ _ _ _ _ hres]; rfl
  have d1 : w2.cell? ⟨w.heap.size, 1, none⟩ = some (.int .i64 0) := by rw [cell_of_row _ _ _ _ _ _ hres]; rfl
  have e0 : w2.frozen? ⟨w.heap.size, 0, none⟩ = false := frozen_of_row _ _ _ _ _ hres
  have e1 : w2.frozen? ⟨w.heap.size, 1, none⟩ = false := frozen_of_row _ _ _ _ _ hres
  clear hres
  have hq1 := heap_setCell_same _ _ 0 _ 55 (.int .i64 p) HS2.out
  have hq2 := heap_setCell_same _ _ 1 _ 55 (.int .i64 50) hq1
  have HX0 : Hid (_ = _) := cell_of_row _ _ 0 _ _ _ hq1
  have HX1' : Hid (_ = _) := cell_of_row _ _ 1 _ _ _ hq2
  have FIN : Hid (Hd ((w2.setCell ⟨w.heap.size, 0, none⟩ (.int .i64 p)).setCell ⟨w.heap.size, 1, none⟩ (.int .i64 50)) B g (shutZ s) ∧ Bx B g w ((w2.setCell ⟨w.heap.size, 0, none⟩ (.int .i64 p)).setCell ⟨w.heap.size, 1, none⟩ (.int .i64 50)) ∧ Tk w ((w2.setCell ⟨w.heap.size, 0, none⟩ (.int .i64 p)).setCell ⟨w.heap.size, 1, none⟩ (.int .i64 50))) :=
    ⟨(HH2.out.res HS2.out).res hq1, (HX3.out.trans (Bx.res _ _ _ _ h1 h2)).trans (Bx.res _ _ _ _ h1 h2), (HT2.out.res (Nat.le_refl _)).res (Nat.le_refl _)⟩
  have bad : beginB s l = false → beginZ s p l = shutZ s ∧ beginF s p l = faultV p 50 := fun q => by
    constructor
    · rw [beginZ, if_pos hsb, if_neg (by rw [q]; simp)]
    · rw [beginF, if_pos hsb, if_neg (by rw [q]; simp)]
  clear hq1 hq2
  obtain ⟨i, hi⟩ : ∃ i, colonI l = i := ⟨_, rfl⟩
  rw [hi]
  by_cases h0 : 0 ≤ i
  · obtain ⟨i, rfl⟩ : ∃ j : Nat, i = j := ⟨i.toNat, by omega⟩
    have hroom := colonI_room l (by omega)
    obtain ⟨ar, har⟩ : ∃ ar, (if c = i + 1 then a else a.map (fun x => x.add (i + 1))) = ar := ⟨_, rfl⟩
    have hcut : Lib.cutV a m c 1 (i : Int) = .tuple #[.slice a i c, .slice ar (m - (i + 1)) (c - (i + 1)), .bool true] := by simp [Lib.cutV, Lib.fromV, har]
    have HRD : Hid (Row w2 ar (l.drop (i + 1))) := by unfold Hid; rw [← har]; exact row_drop hrw2 (by omega)
    have HRT : Hid (Row w2 a (l.take i)) := row_take i hrw2
    rw [hcut]
    clear har hcut
    have kn := conv_row i c (by rw [List.length_take]; omega) (row_take i hrw2)
    have hns : (strOfNums (l.take i)).size ≤ 100000000 := by rw [← nums_len, nums_str (HBL.out.take i), List.length_take]; omega
    go_wp2_with fail
    refine (isName_any _ _ hns).mono ?_
    rintro e w3 ⟨rfl, rfl⟩
    rw [nums_str (HBL.out.take i)]
    cases hnz : nameZ (l.take i) with
    | false =>
      have HZ : Hid (_ ∧ _) := bad (by rw [beginB, hi]; simp [hnz])
      clear bad
      go_wp2
      (try simp only [Exit.inBlock, Exit.then])
      have hx0 := HX0.out
      have hx1 := HX1'.out
      refine bodyPost_ret (v := faultV p 50) (by simp [results, Tryz.results65, go_sem, hx0, hx1]; rfl) rfl ⟨by rw [HZ.out.2], ?_, FIN.out.2⟩
      rw [HZ.out.1]
      exact FIN.out.1
    | true =>
      clear bad
      obtain ⟨_, h22, vf2, v2, hg2, hf2, ho2⟩ := HH2.out
      have b1 : w2.cell? ⟨g, 1, none⟩ = some (.string (shutZ s).nm) := by rw [cell_of_row w2 _ _ _ _ _ hg2]; rfl
      have b2 : w2.cell? ⟨g, 2, none⟩ = some v2 := by rw [cell_of_row w2 _ _ _ _ _ hg2]; rfl
      have b3 : w2.cell? ⟨g, 3, none⟩ = some (.int .i64 (shutZ s).beg) := by rw [cell_of_row w2 _ _ _ _ _ hg2]; rfl
      have HG2 : Hid (w2.heap[g]? = some (.cells (cellsH vf2 v2 (shutZ s)) 95 (0, 0))) := hg2
      have HF2 : Hid (OwnF w2 B vf2 (shutZ s).fs) := hf2
      have hdl : (l.drop (i + 1)).length = m - (i + 1) := by rw [List.length_drop, hl]
      have htl : (l.take i).length = i := by rw [List.length_take]; omega
      clear hg2 hf2 ho2
      have hgw2 : g < w2.heap.size := by omega
      have knd := conv_row (w := w2.drew) i c htl HRT.out
      have CL : Calls Tryz.prog 31 #[.slice ar (m - (i + 1)) (c - (i + 1))] w2.drew fun e w4 => ∃ a4 cap4, e = .returned (.slice a4 (m - (i + 1)) cap4) ∧ Own w4 w2.heap.size (.slice a4 (m - (i + 1)) cap4) (l.drop (i + 1)) ∧ Below w2.heap.size w2 w4 ∧ w4.heap[g]? = some (.cells (cellsH vf2 v2 (shutZ s)) 95 (0, 0)) ∧ (convert 22 9 (.slice a i c)).run Tryz.prog w4 = .ok (.string (strOfNums (l.take i))) w4 ∧ w4.cell? ⟨g, 1, none⟩ = some (.string (shutZ s).nm) ∧ w4.cell? ⟨g, 2, none⟩ = some v2 ∧ w4.cell? ⟨g, 3, none⟩ = some (.int .i64 (shutZ s).beg) ∧ w4.frozen? ⟨g, 1, none⟩ = false ∧ w4.frozen? ⟨g, 2, none⟩ = false ∧ w4.frozen? ⟨g, 3, none⟩ = false := by
        refine (clone_any ar (m - (i + 1)) (c - (i + 1)) (l.drop (i + 1)) w2.drew hdl HRD.out (by omega)).mono ?_
        rintro e w4 ⟨v4, rfl, ho4, hb4⟩
        have hb5 : Below w2.heap.size w2 w4 := ⟨hb4.os, hb4.tape, hb4.output, hb4.size, hb4.block⟩
        obtain ⟨a4, cap4, rfl, _⟩ := own_row' ho4
        have hg4 : w4.heap[g]? = some (.cells (cellsH vf2 v2 (shutZ s)) 95 (0, 0)) := (hb5.block g hgw2).trans HG2.out
        rw [hdl] at ho4
        refine ⟨a4, cap4, by rw [hdl], ho4, hb5, hg4, conv_row i c htl (row_below HRT.out hb5), ?_, ?_, ?_, frozen_of_row _ _ _ _ _ hg4, frozen_of_row _ _ _ _ _ hg4, frozen_of_row _ _ _ _ _ hg4⟩
        · rw [cell_of_row w4 _ _ _ _ _ hg4]; rfl
        · rw [cell_of_row w4 _ _ _ _ _ hg4]; rfl
        · rw [cell_of_row w4 _ _ _ _ _ hg4]; rfl
      go_wp2
      go_region_with (first | (go_at_call 31; refine CL.mono ?_; rintro e w4 ⟨a4, cap4, rfl, ho4, hb4, hg4, kn4, c1, c2, c3, z1, z2, z3⟩))
      all_goals (
        obtain ⟨hH5, hX5, hT5⟩ := hd_three (nm := strOfNums (l.take i)) (p := p) h1 h22 hg4 HF2.out hb4 ho4
        have HH5 : Hid (Hd _ B g _) := hH5
        have HX5 : Hid (Bx B g w _) := HX3.out.trans hX5
        have HT5 : Hid (Tk w _) := HT2.out.trans hT5
        have HR5 : Hid (_ = some (Obj.cells #[.int .i64 0, .int .i64 0] 55 (0, 0))) := hT5.f HS2.out
        generalize ((w4.setCell ⟨g, 1, none⟩ (.string (strOfNums (l.take i)))).setCell ⟨g, 2, none⟩ (.slice a4 (m - (i + 1)) cap4)).setCell ⟨g, 3, none⟩ (.int .i64 p) = w5 at HH5 HX5 HT5 HR5 ⊢
        have k0 : w5.cell? ⟨w.heap.size, 0, none⟩ = some (.int .i64 0) := by rw [cell_of_row _ _ _ _ _ _ HR5.out]; rfl
        have k1 : w5.cell? ⟨w.heap.size, 1, none⟩ = some (.int .i64 0) := by rw [cell_of_row _ _ _ _ _ _ HR5.out]; rfl
        have l0 : w5.frozen? ⟨w.heap.size, 0, none⟩ = false := frozen_of_row _ _ _ _ _ HR5.out
        have l1 : w5.frozen? ⟨w.heap.size, 1, none⟩ = false := frozen_of_row _ _ _ _ _ HR5.out
        clear hH5 hX5 hT5 ho4 hb4 hg4 kn4 c1 c2 c3 z1 z2 z3 d0 d1 e0 e1 b1 b2 b3 CL knd kn
        go_wp2
        have hx0 := cell_of_row _ _ 0 _ _ _ (heap_setCell_same _ _ 0 _ 55 (.int .i64 0) HR5.out)
        have hx1 := cell_of_row _ _ 1 _ _ _ (heap_setCell_same _ _ 1 _ 55 (.int .i64 0) (heap_setCell_same _ _ 0 _ 55 (.int .i64 0) HR5.out))
        (try simp only [Exit.inBlock, Exit.then])
        have hbb : beginB s l = true := by rw [beginB, hi]; simp [hnz]
        have hz : beginZ s p l = { shutZ s with nm := strOfNums (l.take i), val := l.drop (i + 1), beg := p } ∧ beginF s p l = faultV 0 0 := by
          constructor
          · rw [beginZ, if_pos hsb, if_pos hbb, hi]; rfl
          · rw [beginF, if_pos hsb, if_pos hbb]
        refine bodyPost_ret (v := faultV 0 0) (by simp [results, Tryz.results65, go_sem, hx0, hx1]; rfl) rfl ⟨by rw [hz.2], ?_, (HX5.out.trans (Bx.res _ _ _ _ h1 h2)).trans (Bx.res _ _ _ _ h1 h2), (HT5.out.res (Nat.le_refl _)).res (Nat.le_refl _)⟩
        rw [hz.1]
        exact (HH5.out.res HR5.out).res (heap_setCell_same _ _ 0 _ 55 _ HR5.out))
  · have hcut : Lib.cutV a m c 1 i = .tuple #[.slice a m c, .slice none 0 0, .bool false] := by rw [Lib.cutV, if_neg h0]
    rw [hcut]
    have HZ : Hid (_ ∧ _) := bad (by rw [beginB, hi]; simp [h0])
    clear bad
    go_wp2
    (try simp only [Exit.inBlock, Exit.then])
    have hx0 := HX0.out
    have hx1 := HX1'.out
    refine bodyPost_ret (v := faultV p 50) (by simp [results, Tryz.results65, go_sem, hx0, hx1]; rfl) rfl ⟨by rw [HZ.out.2], ?_, FIN.out.2⟩
    rw [HZ.out.1]
    exact FIN.out.1
set_option maxRecDepth 100000 in
theorem begin_any (B g : Nat) (s : HS) (w : World) (hr : Hd w B g s) (hby : Byt s.val) (hlen : s.val.length ≤ 1000000000) (hfs : s.fs.length ≤ 128) (p : Int) (a : Option Addr) (m c : Nat) (l : List Int) (hl : l.length = m) (hbl : Byt l) (hm : m ≤ 1000000) (hmc : m ≤ c) (hnil : a = none → c = 0) (hrow : ∀ w', Bx B g w w' → Row w' a l) (hmx : Mx w) (hg0 : 0 < g) :
    Calls Tryz.prog 65 #[.pointer (some ⟨g, 0, none⟩), .int .i64 p, .slice a m c] w fun e w' => e = .returned (beginF s p l) ∧ Hd w' B g (beginZ s p l) ∧ Bx B g w w' ∧ Tk w w' := by
  cases h : shutB s with
  | false => exact begin_bad B g s w hr hby hlen hfs p a m c l hl hbl hm hmc hnil hrow h
  | true => exact begin_good B g s w hr hby hlen hfs p a m c l hl hbl hm hmc hnil hrow hmx hg0 h
end Go.Proofs.YtmdkmedlncfcbaaGreatDoor
