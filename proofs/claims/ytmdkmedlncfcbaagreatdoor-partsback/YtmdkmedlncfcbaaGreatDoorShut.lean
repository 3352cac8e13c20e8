/-
  The contracts of bytes.Trim at a blank and a tab, and of shut.
-/
import Derived.Test.YtmdkmedlncfcbaaGreatDoorHdr
import Derived.Deep.AppendLies
import Derived.Deep.RegionHeld3
namespace Go.Proofs.YtmdkmedlncfcbaaGreatDoor
open Go.RowKit
set_option linter.unusedVariables false

theorem bytesIn_row {w : World} {a : Option Addr} {l : List Int} (h : Row w a l) : Lib.BytesIn w a l.length l := by
  rcases h with rfl | ⟨b, off, rfl, h⟩
  · exact Lib.BytesIn.nil _ _ _
  · exact Lib.BytesIn.of_cells (fun i hi => by rw [add_plain]; exact h i hi)
theorem trimR_prefix (l : List Int) : trimR l <+: l := by
  rw [trimR, ← List.reverse_suffix, List.reverse_reverse]
  exact List.dropWhile_suffix _
theorem trimZ_suffix (l : List Int) : trimZ l <:+ trimR l := List.dropWhile_suffix _
theorem trimZ_len (l : List Int) : (trimZ l).length ≤ l.length := Nat.le_trans (trimZ_suffix l).length_le (trimR_prefix l).length_le
theorem trimZ_byt {l : List Int} (h : Byt l) : Byt (trimZ l) := fun x hx => h x ((trimR_prefix l).subset ((trimZ_suffix l).subset hx))
theorem row_pre {w : World} {a : Option Addr} {l m : List Int} (h : Row w a l) (hm : m <+: l) : Row w a m := by
  rcases h with rfl | ⟨b, off, rfl, h⟩
  · exact .inl (List.prefix_nil.1 hm)
  · refine .inr ⟨b, off, rfl, fun i hi => ?_⟩
    rw [h i (Nat.lt_of_lt_of_le hi hm.length_le)]
    obtain ⟨t, rfl⟩ := hm
    rw [List.getD_eq_getElem?_getD, List.getD_eq_getElem?_getD, List.getElem?_append_left hi]
theorem bytesOf_nums {l : List Int} (h : Byt l) : (Lib.bytesOf l).map (fun b => (b.toNat : Int)) = l := by
  unfold Lib.bytesOf
  rw [List.map_map]
  conv => rhs; rw [← List.map_id l]
  apply List.map_congr_left
  intro x hx
  have := h x hx
  simp only [Function.comp, id, UInt8.toNat_ofNat']
  omega
set_option maxRecDepth 100000 in
theorem info_setV : (Tryz.prog.info? (laysSlV6_ren.t 27)).map (fun i => (i.zero, i.size)) = some (some (.agg (Array.replicate 256 (.bool false))), 256) := by kernel_rfl
set_option maxRecDepth 100000 in
theorem trimB_any (a : Option Addr) (n c : Nat) (l : List Int) (w : World) (hl : l.length = n) (hnc : n ≤ c) (hbig : c ≤ 9223372036854775807) (hr : Row w a l) (hb : Byt l) :
    Calls Tryz.prog 108 #[.slice a n c, .string ⟨#[32, 9]⟩] w fun e w' => ∃ a' n' c', e = .returned (.slice a' n' c') ∧ (trimZ l).length = n' ∧ Row w' a' (trimZ l) ∧ Below w.heap.size w w' := by
  have h := Any.bytes_Trim_laid laysSlV6 info_setV a n c l ⟨#[32, 9]⟩ w hl hnc hbig (by rw [← hl]; exact bytesIn_row hr) hb (by decide) (ascii_of_all (by decide))
  have e1 : (Lib.trimRightS (Lib.bytesOf l) [32, 9]).length = (trimR l).length := by
    rw [← bytesOf_nums hb, ← map_trimR, List.length_map, bytesOf_nums hb]
  have e2 : (Lib.trimS (Lib.bytesOf l) [32, 9]).length = (trimZ l).length := by
    rw [← bytesOf_nums hb, ← map_trimZ, List.length_map, bytesOf_nums hb]
  simp only [e1, e2] at h
  refine h.mono ?_
  rintro e w' ⟨rfl, hbw⟩
  have hs := List.suffix_iff_eq_drop.1 (trimZ_suffix l)
  have hle := (trimZ_suffix l).length_le
  have hle2 := (trimR_prefix l).length_le
  rw [Lib.leftV]
  split
  · rename_i hq
    have h0 : (trimZ l).length = 0 := by omega
    exact ⟨none, 0, 0, rfl, h0, .inl (List.eq_nil_of_length_eq_zero h0), hbw⟩
  · rename_i hq
    rw [Lib.fromV]
    refine ⟨_, _, _, rfl, ?_, ?_, hbw⟩
    · omega
    · have hd := row_drop (n := (trimR l).length - (trimZ l).length) (cap := c) (row_below (row_pre hr (trimR_prefix l)) hbw) (by omega)
      rw [← hs] at hd
      exact hd
/-- shut. -/
def shutZ (s : HS) : HS :=
  if s.nm.toList = [] then s
  else if valueZ (trimZ s.val) = true ∧ s.fs.length ≠ 128 then { s with fs := s.fs ++ [(s.nm, strOfNums (trimZ s.val))] } else s
def shutF (s : HS) : Value :=
  if s.nm.toList = [] then faultV 0 0
  else if valueZ (trimZ s.val) = true ∧ s.fs.length ≠ 128 then faultV 0 0 else faultV s.beg 50
theorem ownF_view {w : World} {B : Nat} {v : Value} {fs : List (ByteArray × ByteArray)} (h : OwnF w B v fs) : ∃ a cap, v = .slice a fs.length cap ∧ FRow w a fs := by
  have h0 := h
  rcases h.2 with ⟨rfl, hn⟩ | ⟨g, cap, cur, rfl, hb, hg, hn, hm, hs, ht⟩
  · exact ⟨none, 0, by rw [hn], .inl (List.eq_nil_of_length_eq_zero hn)⟩
  · refine ⟨some ⟨g, 0, none⟩, cap, rfl, .inr ⟨g, 0, rfl, fun i f hf => ?_⟩⟩
    have key : ∀ j, j < 2 → (fs.flatMap cellF)[i * 2 + j]? = (cellF f)[j]? := by
      intro j hj
      clear h0 h hg hn hm hs ht hb
      induction fs generalizing i with
      | nil => simp at hf
      | cons x r ih =>
        cases i with
        | zero =>
          simp only [List.getElem?_cons_zero, Option.some.injEq] at hf
          subst hf
          rw [List.flatMap_cons, List.getElem?_append_left (by simp [cellF]; omega)]
          simp
        | succ i =>
          simp only [List.getElem?_cons_succ] at hf
          rw [List.flatMap_cons, List.getElem?_append_right (by simp [cellF]; omega)]
          rw [← ih i hf]
          congr 1
          simp [cellF]; omega
    have c0 := h0.cells (g := g) rfl (i * 2 + 0) (.string f.1) (by rw [key 0 (by omega)]; rfl)
    have c1 := h0.cells (g := g) rfl (i * 2 + 1) (.string f.2) (by rw [key 1 (by omega)]; rfl)
    rw [add_plain] at c0 c1
    exact ⟨by simpa using c0, by simpa [Nat.add_assoc] using c1⟩
theorem Tryz.info50 : (Tryz.prog.info? 50).map (fun i => (i.zero, i.size, i.bytes)) = some (some (.agg #[.string ⟨#[]⟩, .string ⟨#[]⟩]), 2, 32) := by kernel_rfl
theorem app_field {ops : Array Oper} {o : Oper} {a : Act} {K : Act → World → Prop} {Q : Exit → Act → World → Prop} {E : Prop} (W : World) (hgd : o.guard = none) (s x : Operand)
    (ho : o.op = .call { callee := .builtin .append, args := #[s, x], argTypes := #[25, 25] }) (B : Nat) (v : Value) (fs : List (ByteArray × ByteArray)) (nm vl : ByteArray) (hs : a.eval s = v) (hown : OwnF W B v fs)
    (hx : a.eval x = .slice (some ⟨W.heap.size, 0, none⟩) 1 1) (hlen : fs.length ≤ 1000000) (hB : B ≤ W.heap.size)
    (h : ∀ g2 cap2 w', OwnF w' B (.slice (some ⟨g2, 0, none⟩) (fs.length + 1) cap2) (fs ++ [(nm, vl)]) → (W.alloc (.cells #[.string nm, .string vl] 50)).grownBy w' v.ownBlock → K (a.put o.dst (.slice (some ⟨g2, 0, none⟩) (fs.length + 1) cap2)) w') :
    if Region.wanted o (yielded ops a.tmps) = true then Oper.wp Tryz.prog o a (W.alloc (.cells #[.string nm, .string vl] 50)) K Q else E := by
  obtain ⟨j0, hi, hz0, hz1, hz2⟩ := info_parts Tryz.info50
  refine step_append_lies _ hgd s x 25 ho B 50 j0 _ 2 32 Tryz.underlying25 hi hz0 hz1 hz2 rfl (by decide) v fs.length (fs.flatMap cellF) hs (own_keep hown (keep W _)) ⟨W.heap.size, 0, none⟩ 1 1 (cellF (nm, vl)) hx rfl ?_ ?_ (by decide) (by unfold maxLen; omega) (by omega) (by simp; omega) _ rfl ?_
  · intro j u hu
    exact cell_two_new W _ _ 50 j u hu
  · intro u hu
    simp [cellF] at hu
    rcases hu with rfl | rfl <;> rfl
  · intro g2 cap2 w' hown2 hgrow2 _ _
    refine h g2 cap2 w' ?_ hgrow2
    unfold OwnF
    rw [List.length_append, List.flatMap_append]
    simpa using hown2
theorem hd_fs {w2 w3 : World} {B g : Nat} {s : HS} {vf v2 v3 : Value} {fs : List (ByteArray × ByteArray)} {o : Obj} (hB : g < B) (hBw : B ≤ w2.heap.size) (hg : w2.heap[g]? = some (.cells (cellsH vf v2 s) 95 (0, 0))) (hf : OwnF w2 B vf s.fs) (ho : Own w2 B v2 s.val) (hgr : (w2.drew.alloc o).grownBy w3 vf.ownBlock) (hown : OwnF w3 B v3 fs) :
    Hd (w3.setCell ⟨g, 0, none⟩ v3) B g { s with fs := fs } ∧ (Bx B g w2 (w3.setCell ⟨g, 0, none⟩ v3) ∧ Tk w2 (w3.setCell ⟨g, 0, none⟩ v3)) ∧ ∀ r cs, w2.heap[r]? = some (.cells cs 55 (0, 0)) → r ≠ g → w3.heap[r]? = some (.cells cs 55 (0, 0)) ∧ (w3.setCell ⟨g, 0, none⟩ v3).heap[r]? = some (.cells cs 55 (0, 0)) := by
  have hk : Below w2.heap.size w2 (w2.drew.alloc o) := by
    have h := keep w2.drew o
    exact ⟨h.os, h.tape, h.output, h.size, h.block⟩
  have hf' : OwnF (w2.drew.alloc o) B vf s.fs := own_keep hf hk
  have ho' : Own (w2.drew.alloc o) B v2 s.val := own_keep ho hk
  have hgg : (w2.drew.alloc o).heap[g]? = some (.cells (cellsH vf v2 s) 95 (0, 0)) := (hk.block g (by omega)).trans hg
  have hg3 : w3.heap[g]? = some (.cells (cellsH vf v2 s) 95 (0, 0)) := by
    rw [hgr.block g (Array.getElem?_eq_some_iff.1 hgg).1 (ne_type hf' hgg (by decide))]; exact hgg
  have hbl : Below B w2 w3 := by
    refine (hk.mono hBw).trans ((Below.refl B _).grown hgr (Nat.le_trans hBw hk.size) ?_)
    intro k q
    rcases hf'.2 with ⟨rfl, _⟩ | ⟨b, cap, cur, rfl, h2, _⟩
    · simp [Value.ownBlock] at q
    · simp [Value.ownBlock] at q; omega
  refine ⟨⟨hB, Nat.le_trans (Nat.le_trans hBw hbl.size) (size_setCell _ _ _), v3, v2, heap_setCell_same w3 g 0 _ 95 _ hg3, ownsRow_other hB hown, ownsRow_other hB (own_grown ho' hf' (by decide) hgr)⟩, ⟨Bx.trans ⟨hbl.mono (by omega), fun k _ h2 => hbl.block k h2⟩ (Bx.set _ _ _), ((Tk.below hk).trans (Tk.grown hf' (.inr rfl) hgr)).trans (Tk.set hg3)⟩, ?_⟩
  intro r cs hr hne
  have hr1 : (w2.drew.alloc o).heap[r]? = some (.cells cs 55 (0, 0)) := (hk.block r (Array.getElem?_eq_some_iff.1 hr).1).trans hr
  have hr3 : w3.heap[r]? = some (.cells cs 55 (0, 0)) := by
    rw [hgr.block r (Array.getElem?_eq_some_iff.1 hr1).1 (ne_type hf' hr1 (by decide))]; exact hr1
  refine ⟨hr3, ?_⟩
  rw [heap_setCell_other _ _ _ _ (by simpa using hne)]
  exact hr3
set_option maxHeartbeats 2000000 in
set_option maxRecDepth 100000 in
theorem shut_any (B g : Nat) (s : HS) (w : World) (hr : Hd w B g s) (hby : Byt s.val) (hlen : s.val.length ≤ 1000000000) (hfs : s.fs.length ≤ 128) :
    Calls Tryz.prog 63 #[.pointer (some ⟨g, 0, none⟩)] w fun e w' => e = .returned (shutF s) ∧ Hd w' B g (shutZ s) ∧ Bx B g w w' ∧ Tk w w' := by
  have HR : Hid (Hd w B g s) := hr
  obtain ⟨h1, h2, vf, v, hg, hf, ho⟩ := hr
  have a1 : w.cell? ⟨g, 1, none⟩ = some (.string s.nm) := by rw [cell_of_row w _ _ _ _ _ hg]; rfl
  have a2 : w.cell? ⟨g, 2, none⟩ = some v := by rw [cell_of_row w _ _ _ _ _ hg]; rfl
  have hgw : g < w.heap.size := by omega
  have HBY : Hid (Byt s.val) := hby
  obtain ⟨nm, hnm⟩ : ∃ nm, s.nm = nm := ⟨_, rfl⟩
  have HNM : Hid (s.nm = nm) := hnm
  rw [hnm] at a1
  obtain ⟨a, cap, rfl, hcap, hmx, hrow, hnil⟩ := own_row' ho
  have HRW : Hid (Row w a s.val) := hrow
  clear hg hf ho hnm hby hrow
  by_cases hn : nm.toList = []
  · have HZ : Hid (shutZ s = s ∧ shutF s = faultV 0 0) := by unfold Hid shutZ shutF; rw [HNM.out, if_pos hn, if_pos hn]; exact ⟨rfl, rfl⟩
    go_enter Tryz.func63, Tryz.ntmps63
    go_wp2
    go_returns
    refine ⟨by rw [HZ.out.2]; rfl, ?_, Bx.alloc _ _ h1 h2, Tk.below (keep w _)⟩
    rw [HZ.out.1]
    exact HR.out.alloc _
  · have hq : (nm.toList == ([] : List UInt8)) = false := by simp [hn]
    have HN : Hid (¬ nm.toList = []) := hn
    go_enter Tryz.func63, Tryz.ntmps63
    go_wp2_with fail
    refine (trimB_any a s.val.length cap s.val _ rfl hcap (by unfold maxLen at hmx; omega) (row_below HRW.out (keep w _)) HBY.out).mono ?_
    rintro e w1 ⟨a', n', c', rfl, hn', hr', hb1⟩
    have kc := conv_row n' c' hn' hr'
    have HH1 : Hid (Hd w1 B g s) := (HR.out.alloc _).below hb1
    have HX1 : Hid (Bx B g w w1) := (Bx.alloc w _ h1 h2).trans ⟨hb1.mono (by simp; omega), fun k _ q => hb1.block k (by simp; omega)⟩
    have HT1 : Hid (Tk w w1) := (Tk.below (keep w _)).trans (Tk.below hb1)
    have hres : w1.heap[w.heap.size]? = some (.cells #[.int .i64 0, .int .i64 0] 55 (0, 0)) := by
      rw [hb1.block w.heap.size (by simp)]; exact heap_alloc_last w _
    have HRS : Hid (w1.heap[w.heap.size]? = some (.cells #[.int .i64 0, .int .i64 0] 55 (0, 0))) := hres
    have hsv : (strOfNums (trimZ s.val)).size ≤ 10000000000 := by
      rw [← nums_len, nums_str (trimZ_byt HBY.out)]; have := trimZ_len s.val; omega
    have HNS : Hid (nums (strOfNums (trimZ s.val)) = trimZ s.val) := nums_str (trimZ_byt HBY.out)
    clear hres hr' hn' hb1 a1 a2
    go_wp2_with fail
    refine (isValue_any _ _ hsv).mono ?_
    rintro e w2 ⟨rfl, hb2⟩
    rw [HNS.out]
    have HH2 : Hid (Hd w2 B g s) := HH1.out.below hb2
    have HX2 : Hid (Bx B g w w2) := HX1.out.trans ⟨hb2.mono (by have := HH1.out.2.1; omega), fun k _ q => hb2.block k (by have := HH1.out.2.1; omega)⟩
    have HT2 : Hid (Tk w w2) := HT1.out.trans (Tk.below hb2)
    have hres : w2.heap[w.heap.size]? = some (.cells #[.int .i64 0, .int .i64 0] 55 (0, 0)) := by
      rw [hb2.block w.heap.size (Array.getElem?_eq_some_iff.1 HRS.out).1]; exact HRS.out
    have HS2 : Hid (w2.heap[w.heap.size]? = some (.cells #[.int .i64 0, .int .i64 0] 55 (0, 0))) := hres
    have d0 : w2.cell? ⟨w.heap.size, 0, none⟩ = some (.int .i64 0) := by rw [cell_of_row _ _ _ _ _ _ hres]; rfl
    have d1 : w2.cell? ⟨w.heap.size, 1, none⟩ = some (.int .i64 0) := by rw [cell_of_row _ _ _ _ _ _ hres]; rfl
    have e0 : w2.frozen? ⟨w.heap.size, 0, none⟩ = false := frozen_of_row _ _ _ _ _ hres
    have e1 : w2.frozen? ⟨w.heap.size, 1, none⟩ = false := frozen_of_row _ _ _ _ _ hres
    have hgs : g ≠ w.heap.size := by omega
    obtain ⟨_, h22, vf2, v2, hg2, hf2, ho2⟩ := HH2.out
    obtain ⟨af, capf, rfl, _⟩ := ownF_view hf2
    have b0 : w2.cell? ⟨g, 0, none⟩ = some (.slice af s.fs.length capf) := by rw [cell_of_row w2 _ _ _ _ _ hg2]; rfl
    have b1 : w2.cell? ⟨g, 1, none⟩ = some (.string nm) := by rw [cell_of_row w2 _ _ _ _ _ hg2, ← HNM.out]; rfl
    have b3 : w2.cell? ⟨g, 3, none⟩ = some (.int .i64 s.beg) := by rw [cell_of_row w2 _ _ _ _ _ hg2]; rfl
    have f0 : w2.frozen? ⟨g, 0, none⟩ = false := frozen_of_row _ _ _ _ _ hg2
    have HG2 : Hid (w2.heap[g]? = some (.cells (cellsH (.slice af s.fs.length capf) v2 s) 95 (0, 0))) := hg2
    have HF2 : Hid (OwnF w2 B (.slice af s.fs.length capf) s.fs) := hf2
    have HO2 : Hid (Own w2 B v2 s.val) := ho2
    clear hres hb2 hg2 hf2 ho2 kc
    have bad : ¬ (valueZ (trimZ s.val) = true ∧ s.fs.length ≠ 128) → shutZ s = s ∧ shutF s = faultV s.beg 50 := fun q => by
      unfold shutZ shutF; rw [HNM.out, if_neg HN.out, if_neg HN.out, if_neg q, if_neg q]; exact ⟨rfl, rfl⟩
    have fin : Hd ((w2.setCell ⟨w.heap.size, 0, none⟩ (.int .i64 s.beg)).setCell ⟨w.heap.size, 1, none⟩ (.int .i64 50)) B g s ∧ Bx B g w ((w2.setCell ⟨w.heap.size, 0, none⟩ (.int .i64 s.beg)).setCell ⟨w.heap.size, 1, none⟩ (.int .i64 50)) :=
      ⟨(HH2.out.res HS2.out).res (heap_setCell_same _ _ 0 _ 55 _ HS2.out), (HX2.out.trans (Bx.res _ _ _ _ h1 h2)).trans (Bx.res _ _ _ _ h1 h2)⟩
    have hq1 := heap_setCell_same _ _ 0 _ 55 (.int .i64 s.beg) HS2.out
    have hq2 := heap_setCell_same _ _ 1 _ 55 (.int .i64 50) hq1
    have hx0 := cell_of_row _ _ 0 _ _ _ hq1
    have hx1 := cell_of_row _ _ 1 _ _ _ hq2
    have FIN : Hid (_ ∧ _) := fin
    have HX0 : Hid (_ = _) := hx0
    have HX1' : Hid (_ = _) := hx1
    clear fin hq1 hq2 hx0 hx1
    cases hv : valueZ (trimZ s.val) with
    | false =>
      have HZ : Hid (_ ∧ _) := bad (by rw [hv]; simp)
      clear bad
      go_wp2
      (try simp only [Exit.inBlock, Exit.then])
      have hx0 := HX0.out
      have hx1 := HX1'.out
      refine bodyPost_ret (v := faultV s.beg 50) (by simp [results, Tryz.results63, go_sem, hx0, hx1]; rfl) rfl ⟨by rw [HZ.out.2], ?_, FIN.out.2, (HT2.out.res (Nat.le_refl _)).res (Nat.le_refl _)⟩
      rw [HZ.out.1]
      exact FIN.out.1
    | true =>
      by_cases h128 : s.fs.length = 128
      · have HZ : Hid (_ ∧ _) := bad (by rw [h128]; simp)
        have hd : ((s.fs.length : Int) == 128) = true := by simp [h128]
        clear bad
        go_wp2
        (try simp only [Exit.inBlock, Exit.then])
        have hx0 := HX0.out
        have hx1 := HX1'.out
        refine bodyPost_ret (v := faultV s.beg 50) (by simp [results, Tryz.results63, go_sem, hx0, hx1]; rfl) rfl ⟨by rw [HZ.out.2], ?_, FIN.out.2, (HT2.out.res (Nat.le_refl _)).res (Nat.le_refl _)⟩
        rw [HZ.out.1]
        exact FIN.out.1
      · have hd : ((s.fs.length : Int) == 128) = false := by rw [beq_eq_false_iff_ne]; omega
        clear bad
        have KS : ∀ w3, (w2.drew.alloc (.cells #[.string nm, .string (strOfNums (trimZ s.val))] 50)).grownBy w3 (Value.slice af s.fs.length capf).ownBlock → (w3.cell? ⟨g, 0, none⟩ = some (.slice af s.fs.length capf) ∧ w3.cell? ⟨g, 1, none⟩ = some (.string nm)) ∧ w3.frozen? ⟨g, 0, none⟩ = false := by
          intro w3 hgr
          have hb3 : w3.heap[g]? = some (.cells (cellsH (.slice af s.fs.length capf) v2 s) 95 (0, 0)) := by
            rw [hgr.block g (by simp; omega) (ne_type HF2.out HG2.out (by decide))]
            exact (Below.heap_alloc w2.drew _ g (by simp; omega)).trans HG2.out
          refine ⟨⟨?_, ?_⟩, frozen_of_row _ _ _ _ _ hb3⟩
          · rw [cell_of_row _ _ _ _ _ _ hb3]; rfl
          · rw [cell_of_row _ _ _ _ _ _ hb3, ← HNM.out]; rfl
        go_wp2
        have KT : ∀ (w3 : World) u, w3.cell? ⟨g, 1, none⟩ = some (.string nm) → (w3.setCell ⟨g, 0, none⟩ u).cell? ⟨g, 1, none⟩ = some (.string nm) := by
          intro w3 u hu
          rw [World.cell?_setCell_other _ _ _ _ (by simp)]; exact hu
        have hgw2 : g < w2.heap.size := by omega
        go_region_law ((refine app_field w2.drew (by rfl) _ _ (by rfl) B (.slice af s.fs.length capf) s.fs nm (strOfNums (trimZ s.val)) (by rfl) HF2.out (by rfl) (by omega) h22 ?_; intro g2 cap2 w3 hown3 hgrow3; have hS3 := KS w3 hgrow3; have hF3 := hS3.2; have hC3 := hS3.1.1))
        all_goals (
          have hfin := hd_fs h1 h22 HG2.out HF2.out HO2.out hgrow3 hown3
          obtain ⟨hH3, hX3, hR3⟩ := hfin
          obtain ⟨hr3, hr4⟩ := hR3 w.heap.size _ HS2.out (Ne.symm hgs)
          have HH3 : Hid (Hd (w3.setCell ⟨g, 0, none⟩ (.slice (some ⟨g2, 0, none⟩) (s.fs.length + 1) cap2)) B g { s with fs := s.fs ++ [(nm, strOfNums (trimZ s.val))] }) := hH3
          have HX3 : Hid (Bx B g w (w3.setCell ⟨g, 0, none⟩ (.slice (some ⟨g2, 0, none⟩) (s.fs.length + 1) cap2))) := HX2.out.trans hX3.1
          have HT3 : Hid (Tk w (w3.setCell ⟨g, 0, none⟩ (.slice (some ⟨g2, 0, none⟩) (s.fs.length + 1) cap2))) := HT2.out.trans hX3.2
          have HR4 : Hid ((w3.setCell ⟨g, 0, none⟩ (.slice (some ⟨g2, 0, none⟩) (s.fs.length + 1) cap2)).heap[w.heap.size]? = some (.cells #[.int .i64 0, .int .i64 0] 55 (0, 0))) := hr4
          obtain ⟨w4, hw4⟩ : ∃ w4, w3.setCell ⟨g, 0, none⟩ (.slice (some ⟨g2, 0, none⟩) (s.fs.length + 1) cap2) = w4 := ⟨_, rfl⟩
          rw [hw4] at HH3 HX3 HR4 HT3
          rw [hw4]
          have k0 : w4.cell? ⟨w.heap.size, 0, none⟩ = some (.int .i64 0) := by rw [cell_of_row _ _ _ _ _ _ HR4.out]; rfl
          have k1 : w4.cell? ⟨w.heap.size, 1, none⟩ = some (.int .i64 0) := by rw [cell_of_row _ _ _ _ _ _ HR4.out]; rfl
          have l0 : w4.frozen? ⟨w.heap.size, 0, none⟩ = false := frozen_of_row _ _ _ _ _ HR4.out
          have l1 : w4.frozen? ⟨w.heap.size, 1, none⟩ = false := frozen_of_row _ _ _ _ _ HR4.out
          clear hH3 hX3 hR3 hr3 hr4 hown3 hgrow3 hS3 hF3 hC3 hw4 d0 d1 e0 e1 b0 b1 b3 f0
          go_wp2
          have hx0 := cell_of_row _ _ 0 _ _ _ (heap_setCell_same _ _ 0 _ 55 (.int .i64 0) HR4.out)
          have hx1 := cell_of_row _ _ 1 _ _ _ (heap_setCell_same _ _ 1 _ 55 (.int .i64 0) (heap_setCell_same _ _ 0 _ 55 (.int .i64 0) HR4.out))
          (try simp only [Exit.inBlock, Exit.then])
          have hz : shutZ s = { s with fs := s.fs ++ [(nm, strOfNums (trimZ s.val))] } ∧ shutF s = faultV 0 0 := by
            have hnn : ¬ s.nm.toList = [] := by rw [HNM.out]; exact HN.out
            constructor
            · rw [shutZ, if_neg hnn, if_pos ⟨hv, h128⟩, HNM.out]
            · rw [shutF, if_neg hnn, if_pos ⟨hv, h128⟩]
          refine bodyPost_ret (v := faultV 0 0) (by simp [results, Tryz.results63, go_sem, hx0, hx1]; rfl) rfl ⟨by rw [hz.2], ?_, (HX3.out.trans (Bx.res _ _ _ _ h1 h2)).trans (Bx.res _ _ _ _ h1 h2), (HT3.out.res (Nat.le_refl _)).res (Nat.le_refl _)⟩
          rw [hz.1]
          exact (HH3.out.res HR4.out).res (heap_setCell_same _ _ 0 _ 55 _ HR4.out))
end Go.Proofs.YtmdkmedlncfcbaaGreatDoor
