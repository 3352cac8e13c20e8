/-
  The contract of the reference's reader of signs.
-/
import Derived.Test.YtnhbmekhmkkccaaDoorBvA
namespace Go.Proofs.YtnhbmekhmkkccaaDoor
open Go.RowKit
set_option linter.unusedVariables false

/-- What the reference's Decode answers, of signs. -/
def DPost (w : World) (l : List Int) (e : Ending) (w' : World) : Prop :=
  ∃ v fa fc, e = .returned (.tuple #[v, .agg #[.int .i64 fa, .int .i64 fc]]) ∧ Below w.heap.size w w' ∧ ((fc = 0 ∧ BAns true v (decB l) w') ∨ (fc ≠ 0 ∧ v = .slice none 0 0 ∧ decB l = none))
def pw6 : List Int := [32, 16, 8, 4, 2, 1, 0]
theorem pw_step (v : Int) : ∀ j, j < 6 → (dig6 v).take (j + 1) = (dig6 v).take j ++ [v / pw6.getD j 0 % 2] ∧ pw6.getD j 0 / 2 = pw6.getD (j + 1) 0 ∧ 0 < pw6.getD j 0 ∧ pw6.getD j 0 ≤ 32 := by
  intro j hj
  rcases (show j = 0 ∨ j = 1 ∨ j = 2 ∨ j = 3 ∨ j = 4 ∨ j = 5 from by omega) with rfl | rfl | rfl | rfl | rfl | rfl
  all_goals (refine ⟨?_, ?_, ?_, ?_⟩ <;> simp [dig6, pw6])
theorem rel_range {t : Bt.Rs} {pad : Int} {i : Nat} {d : List Int} (h : RelB t pad i d) : (pad = -1 ∨ 1 ≤ pad) ∧ pad ≤ i := by
  rcases h with ⟨_, _, h, _⟩ | ⟨_, _, _, _, h, h2, _⟩ | ⟨_, _, _, h, h2, _⟩
  · omega
  · omega
  · omega
theorem decB_byt {l x : List Int} (h : decB l = some x) : Byt x := by
  unfold decB at h
  split at h
  · rename_i st hst
    split at h
    · simp only [Option.some.injEq] at h
      subst h
      exact scan_byt _ _ _ _ _ (Nat.le_refl _) hst (by intro x hx; cases hx)
    · cases h
  · cases h
/-- What a reader that came to the end holds. -/
theorem rel_end {t : Bt.Rs} {pad : Int} {i : Nat} {d : List Int} (h : RelB t pad i d) : (i % 4 ≠ 0 ∧ t.cnt ≠ 0) ∨ (i % 4 = 0 ∧ t.cnt = 0 ∧ ∃ g, g.length < 8 ∧ d = Bt.binZ t.out ++ g) := by
  rcases h with ⟨_, _, _, h⟩ | ⟨_, _, hn, hi, _⟩ | ⟨_, hn, hi, _, _, g, hg, hd⟩
  · rcases h with ⟨hi, hn, _, hd⟩ | ⟨hi, hn, _⟩ | ⟨hi, hn, _⟩ | ⟨hi, hn, _⟩
    · exact .inr ⟨hi, hn, [], by simp, by rw [hd, List.append_nil]⟩
    · exact .inl ⟨by omega, by omega⟩
    · exact .inl ⟨by omega, by omega⟩
    · exact .inl ⟨by omega, by omega⟩
  · exact .inl ⟨by omega, by omega⟩
  · exact .inr ⟨hi, hn, g, hg, hd⟩
def pw8 : List Int := [256, 128, 64, 32, 16, 8, 4, 2, 1]
theorem pw8_step (x : Int) (h0 : 0 ≤ x) : ∀ j, j < 8 → (Bt.bin1 x).getD j 0 = x / pw8.getD (j + 1) 0 % 2 ∧ 2 * (x / pw8.getD j 0) + x / pw8.getD (j + 1) 0 % 2 = x / pw8.getD (j + 1) 0 := by
  intro j hj
  rcases (show j = 0 ∨ j = 1 ∨ j = 2 ∨ j = 3 ∨ j = 4 ∨ j = 5 ∨ j = 6 ∨ j = 7 from by omega) with rfl | rfl | rfl | rfl | rfl | rfl | rfl | rfl
  all_goals (refine ⟨?_, ?_⟩ <;> simp [Bt.bin1, pw8] <;> omega)
theorem fold_step {b : List Int} {k : Nat} {c : Int} {t : Bt.Rs} (h : b[k]? = some c) : foldB (b.drop k) t = match Bt.takeZ t c 0 with | .inl _ => none | .inr s' => foldB (b.drop (k + 1)) s' := by
  obtain ⟨hk, e⟩ := List.getElem?_eq_some_iff.1 h
  rw [List.drop_eq_getElem_cons hk, e, foldB]
  rfl
theorem fold_inl {b : List Int} {k : Nat} {c : Int} {t : Bt.Rs} (h : b[k]? = some c) (hf : ∃ f, Bt.takeZ t c 0 = .inl f) : finR (foldB (b.drop k) t) = none := by
  obtain ⟨f, hf⟩ := hf
  rw [fold_step h, hf]; rfl
theorem fold_inr {b : List Int} {k : Nat} {c : Int} {t t' : Bt.Rs} (h : b[k]? = some c) (hf : Bt.takeZ t c 0 = .inr t') : foldB (b.drop k) t = foldB (b.drop (k + 1)) t' := by
  rw [fold_step h, hf]

set_option maxHeartbeats 16000000 in
set_option maxRecDepth 100000 in
theorem rbdec_any (s : ByteArray) (w : World) (hs : s.size ≤ 2000) : Calls Tryd.prog 35 #[.string s] w (DPost w (nums s)) := by
  obtain ⟨j0, hi, hz0, hz1, hz2⟩ := info_parts Tryd.info5
  obtain ⟨j1, ki, kz0, kz1, kz2⟩ := info_parts Bt.Tryd.info3'
  have hdl : decide ((s.size : Int) > 2097152) = false := decide_eq_false (by omega)
  have hbare := rbare_any s (w.alloc (.cells #[.int .i64 0, .int .i64 0] 48)) (by omega)
  have HDB : Hid (decB (nums s) = finR (foldB (bareZ 0 (nums s)) (Bt.fresh [] false))) := decB_fold (nums_byt s)
  have HBB : Hid (Byt (bareZ 0 (nums s))) := bare_byt _ 0 (nums_byt s)
  have hbl : (bareZ 0 (nums s)).length ≤ 2000 := by have := bare_len (nums s) 0; rw [nums_len] at this; omega
  unfold BPost at hbare
  generalize bareZ 0 (nums s) = bb at hbare HDB HBB hbl
  go_enter Tryd.func35, Tryd.ntmps35
  go_wp2_with fail
  refine hbare.mono ?_
  clear hbare
  rintro e w1 ⟨v1, v2, ats, rfl, ho1, ho2, hal, hb1⟩
  rw [show (w.alloc (.cells #[.int .i64 0, .int .i64 0] 48)).heap.size = w.heap.size + 1 from by simp] at ho1 ho2 hb1
  obtain ⟨a1, c1, rfl, hc1, hm1, hr1, hn1⟩ := own_row' ho1
  obtain ⟨a2, c2, rfl, hc2, hm2, hr2, hn2⟩ := own_row' ho2
  obtain ⟨nb, hnb⟩ : ∃ nb, bb.length = nb := ⟨_, rfl⟩
  have HF1 : Hid (w1.heap[w.heap.size]? = some (.cells #[.int .i64 0, .int .i64 0] 48 (0, 0))) := (hb1.block w.heap.size (by omega)).trans (World.alloc_heap_new w _)
  have HB1 : Hid (Below w.heap.size w w1) := (keep w _).trans (hb1.mono (by omega))
  have hlt1 : w.heap.size < w1.heap.size := (Array.getElem?_eq_some_iff.1 HF1.out).1
  have HR1 : Hid (RowK .u8 w1 a1 bb) := hr1
  have HR2 : Hid (RowK .i64 w1 a2 ats) := hr2
  have HNB : Hid (bb.length = nb) := hnb
  have HAL : Hid (ats.length = nb) := hal.trans hnb
  rw [hal.trans hnb] at hc2
  unfold maxLen at hm1 hm2
  rw [hnb] at hbl hc1
  simp only [hal, hnb]
  have HA2 : Hid (∀ b o, a2 = some ⟨b, o, none⟩ → b ≠ w.heap.size) := fun b o e => by have := (ho2.lt b (by rw [e]; rfl)).1; omega
  clear ho1 ho2 hb1 hr1 hr2 hn1 hn2 hnb hal
  go_wp2_with fail
  go_loopw [6, 7, 8, 9, 10] (fun vd vp vi _ _ wr => ∃ (k : Nat) (pad : Int) (d : List Int) (t : Bt.Rs), vi = .int .i64 k ∧ vp = .int .i64 pad ∧ k ≤ nb ∧ finR (foldB (bb.drop k) t) = decB (nums s) ∧ RelB t pad k d ∧ d.length ≤ 6 * k ∧ wr.ownsRow w1.heap.size 3 1 vd d.length (d.map (Value.int .i64)) ∧ Below w1.heap.size w1 wr) (fun _ _ vi _ _ _ => nb - (intOf vi).toNat)
  case atStart => exact ⟨0, -1, [], Bt.fresh [] false, rfl, rfl, by omega, by rw [List.drop_zero]; exact HDB.out.symm, .inl ⟨rfl, rfl, rfl, .inl ⟨rfl, rfl, rfl, rfl⟩⟩, by simp, World.ownsRow_nil _ _ _ _, Below.refl _ _⟩
  case round =>
    obtain ⟨k, pad, d, t, rfl, rfl, hk, hfin, hrel2, hdl2, hown, hbel⟩ := hrel
    obtain ⟨hpr, hpk⟩ := rel_range hrel2
    have HFIN : Hid (finR (foldB (bb.drop k) t) = decB (nums s)) := hfin
    have HREL : Hid (RelB t pad k d) := hrel2
    have HO : Hid (wr.ownsRow w1.heap.size 3 1 u6 d.length (d.map (Value.int .i64))) := hown
    have HW : Hid (Below w1.heap.size w1 wr) := hbel
    have hsz := hbel.size
    have hF2 : wr.heap[w.heap.size]? = some (.cells #[.int .i64 0, .int .i64 0] 48 (0, 0)) := (hbel.block _ hlt1).trans HF1.out
    have c0 : wr.cell? ⟨w.heap.size, 0, none⟩ = some (.int .i64 0) := by rw [cell_of_row wr _ _ _ _ _ hF2]; rfl
    have c1' : wr.cell? ⟨w.heap.size, 1, none⟩ = some (.int .i64 0) := by rw [cell_of_row wr _ _ _ _ _ hF2]; rfl
    have z0 : wr.frozen? ⟨w.heap.size, 0, none⟩ = false := frozen_of_row wr _ _ _ _ hF2
    have z1 : wr.frozen? ⟨w.heap.size, 1, none⟩ = false := frozen_of_row wr _ _ _ _ hF2
    have HBW : Hid (Below w.heap.size w wr) := HB1.out.trans (hbel.mono (by omega))
    clear hfin hrel2 hown hbel hF2
    by_cases hlt : k < nb
    · have hl1 : decide ((k : Int) < (nb : Int)) = true := decide_eq_true (by omega)
      obtain ⟨c, hc⟩ : ∃ c, bb[k]? = some c := ⟨_, List.getElem?_eq_getElem (by rw [HNB.out]; exact hlt)⟩
      have hcb : 0 ≤ c ∧ c < 256 := HBB.out c (List.mem_of_getElem? hc)
      obtain ⟨b1, o1, rfl, hcell1⟩ : ∃ b off, a1 = some ⟨b, off, none⟩ ∧ wr.cell? ⟨b, off + k, none⟩ = some (.int .u8 c) := by
        rcases HR1.out with h | ⟨b, off, e, h⟩
        · rw [h] at hc; simp at hc
        · have := h k (by rw [HNB.out]; exact hlt)
          rw [List.getD_eq_getElem?_getD, hc] at this
          exact ⟨b, off, e, (HW.out.cell (World.block_lt_of_cell? w1 _ this)).trans this⟩
      have hat : ∀ q : Nat, q < nb → ∃ b2 o2 p, a2 = some ⟨b2, o2, none⟩ ∧ wr.cell? ⟨b2, o2 + q, none⟩ = some (.int .i64 p) ∧ b2 ≠ w.heap.size := by
        intro q hq
        rcases HR2.out with h | ⟨b, off, e, h⟩
        · have := HAL.out; rw [h] at this; simp at this; omega
        · have hh := h q (by rw [HAL.out]; exact hq)
          exact ⟨b, off, _, e, (HW.out.cell (World.block_lt_of_cell? w1 _ hh)).trans hh, HA2.out b off e⟩
      have HC : Hid (bb[k]? = some c) := hc
      have hval := fun V => rval_any c V hcb.1 hcb.2
      have hvb := Bt.val_bd c hcb.1 hcb.2
      have k0 : (0 : Int) ≤ (k : Int) := by omega
      have k1 : (k : Int) < (nb : Int) := by omega
      clear hc
      generalize hvv : Bt.valZ c = vv at hval hvb
      have HVV : Hid (Bt.valZ c = vv) := hvv
      clear hvv
      by_cases hbad : vv < 0 ∧ c ≠ 61
      · have HNN : Hid (decB (nums s) = none) := by unfold Hid; rw [← HFIN.out]; exact fold_inl HC.out ⟨_, by unfold Bt.takeZ; rw [if_pos (by rw [HVV.out]; exact hbad)]⟩
        obtain ⟨b2, o2, p, rfl, hcell2, hne⟩ := hat k hlt
        have hd1 : decide (vv < 0) = true := decide_eq_true hbad.1
        have hd2 : (c != 61) = true := by simpa using hbad.2
        clear hat hbad
        go_wp2_with (go_at_call 62; refine (hval _).mono ?_; rintro e w' ⟨rfl, rfl⟩)
        go_region
        go_wp2
        exact bodyPost_ret (v := .tuple #[.slice none 0 0, .agg #[.int .i64 (p), .int .i64 10]]) (by simp [results, Tryd.results35, go_sem, c0, c1']) rfl ⟨_, _, _, rfl, below_drew ((HBW.out.setCell (p := ⟨w.heap.size, 0, none⟩) (Nat.le_refl _) _).setCell (p := ⟨w.heap.size, 1, none⟩) (Nat.le_refl _) _), .inr ⟨by decide, rfl, HNN.out⟩⟩
      · have hv61 : 0 ≤ vv ∨ c = 61 := by omega
        by_cases h61 : c = 61
        · subst h61
          have hvm : vv = -1 := by rw [← HVV.out]; exact Bt.val_61
          subst hvm
          by_cases h2 : k % 4 < 2
          · have HNN : Hid (decB (nums s) = none) := by unfold Hid; rw [← HFIN.out]; exact fold_inl HC.out (rel_fault_eq HREL.out h2)
            obtain ⟨b2, o2, p, rfl, hcell2, hne⟩ := hat k hlt
            have hd4 : decide ((k : Int) % 4 < 2) = true := decide_eq_true (by omega)
            clear hat hbad hv61
            go_wp2_with (go_at_call 62; refine (hval _).mono ?_; rintro e w' ⟨rfl, rfl⟩)
            go_region
            go_wp2
            exact bodyPost_ret (v := .tuple #[.slice none 0 0, .agg #[.int .i64 (p), .int .i64 11]]) (by simp [results, Tryd.results35, go_sem, c0, c1']) rfl ⟨_, _, _, rfl, below_drew ((HBW.out.setCell (p := ⟨w.heap.size, 0, none⟩) (Nat.le_refl _) _).setCell (p := ⟨w.heap.size, 1, none⟩) (Nat.le_refl _) _), .inr ⟨by decide, rfl, HNN.out⟩⟩
          · by_cases h2 : k % 4 = 2
            · obtain ⟨hpm, t2, ht2, hrn⟩ := rel_eq2 HREL.out h2
              subst hpm
              have HFN : Hid (finR (foldB (bb.drop (k + 1)) t2) = decB (nums s)) := by unfold Hid; rw [← HFIN.out, fold_inr HC.out ht2]
              have HRN : Hid (RelB t2 k (k + 1) d) := hrn
              have hd4 : decide ((k : Int) % 4 < 2) = false := decide_eq_false (by omega)
              have hd5 : ((k : Int) % 4 == 3) = false := by rw [beq_eq_false_iff_ne]; omega
              have hd6 : decide ((k : Int) < 0) = false := decide_eq_false (by omega)
              clear hat hbad hv61 ht2 hrn
              go_wp2_with (go_at_call 62; refine (hval _).mono ?_; rintro e w' ⟨rfl, rfl⟩)
              go_loopw [6, 10] (fun v n wi => v = u6 ∧ n = .int .i64 32 ∧ wr = wi) (fun _ _ _ => 0)
              case atStart => exact ⟨rfl, rfl, rfl⟩
              case round =>
                obtain ⟨rfl, rfl, rfl⟩ := hrel
                go_wp2
                all_goals exact ⟨⟨k + 1, k, d, t2, by first | go_num | rfl, by first | rfl | go_num, by omega, HFN.out, HRN.out, by omega, HO.out, HW.out⟩, by simp [intOf]; omega⟩
            · have h2 : k % 4 = 3 := by omega
              rcases hpr with hpm | hpp
              · have h3 := rel_eq3 HREL.out h2
                have hd4 : decide ((k : Int) % 4 < 2) = false := decide_eq_false (by omega)
                have hd5 : ((k : Int) % 4 == 3) = true := by rw [beq_iff_eq]; omega
                have hd7 : ((k : Int) % 4 == 2) = false := by rw [beq_eq_false_iff_ne]; omega
                obtain ⟨a3, c3, hv3, hc3, hm3, hr3, hn3⟩ := own_row' HO.out
                have htl := rtail_any a3 c3 d wr (by omega) hc3 hr3
                rw [← hv3] at htl
                have HV3 : Hid (u6 = .slice a3 d.length c3) := hv3
                clear hn3 hr3 hm3 hc3 hv3
                obtain rfl : pad = -1 := by omega
                rw [if_pos (by omega)] at h3
                have hd6 : decide ((k : Int) < 0) = false := decide_eq_false (by omega)
                have hd8 : decide ((k : Int) ≥ 0) = true := decide_eq_true (by omega)
                have i0 : (0 : Int) ≤ (k : Int) - 1 := by omega
                have i1 : (k : Int) - 1 < (nb : Int) := by omega
                have i2 : ((k : Int) - 1).toNat = k - 1 := by omega
                obtain ⟨b2, o2, p, rfl, hcell2, hne⟩ := hat (k - 1) (by omega)
                rcases h3 with ⟨hT, hf⟩ | ⟨hT, t2, ht2, hrn⟩
                · have HNN : Hid (decB (nums s) = none) := by unfold Hid; rw [← HFIN.out]; exact fold_inl HC.out hf
                  rw [hT] at htl
                  clear hat hbad hv61 hf hT
                  go_wp2_with (go_at_call 62; refine (hval _).mono ?_; rintro e w' ⟨rfl, rfl⟩)
                  go_loopw [6, 10] (fun v n wi => v = u6 ∧ n = .int .i64 32 ∧ wr = wi) (fun _ _ _ => 0)
                  case atStart => exact ⟨rfl, rfl, rfl⟩
                  case round =>
                    obtain ⟨rfl, rfl, rfl⟩ := hrel
                    go_wp2_with (go_at_call 63; refine htl.mono ?_; rintro e w' ⟨rfl, rfl⟩)
                    go_region
                    go_wp2
                    exact bodyPost_ret (v := .tuple #[.slice none 0 0, .agg #[.int .i64 (p), .int .i64 12]]) (by simp [results, Tryd.results35, go_sem, c0, c1']) rfl ⟨_, _, _, rfl, below_drew ((HBW.out.setCell (p := ⟨w.heap.size, 0, none⟩) (Nat.le_refl _) _).setCell (p := ⟨w.heap.size, 1, none⟩) (Nat.le_refl _) _), .inr ⟨by decide, rfl, HNN.out⟩⟩
                · have HFN : Hid (finR (foldB (bb.drop (k + 1)) t2) = decB (nums s)) := by unfold Hid; rw [← HFIN.out, fold_inr HC.out ht2]
                  have HRN : Hid (RelB t2 k (k + 1) d) := hrn
                  rw [hT] at htl
                  clear hat hbad hv61 ht2 hrn hT
                  go_wp2_with (go_at_call 62; refine (hval _).mono ?_; rintro e w' ⟨rfl, rfl⟩)
                  go_loopw [6, 10] (fun v n wi => v = u6 ∧ n = .int .i64 32 ∧ wr = wi) (fun _ _ _ => 0)
                  case atStart => exact ⟨rfl, rfl, rfl⟩
                  case round =>
                    obtain ⟨rfl, rfl, rfl⟩ := hrel
                    go_wp2_with (go_at_call 63; refine htl.mono ?_; rintro e w' ⟨rfl, rfl⟩)
                    all_goals exact ⟨⟨k + 1, k, d, t2, by first | go_num | rfl, by first | rfl | go_num, by omega, HFN.out, HRN.out, by omega, HO.out, HW.out⟩, by simp [intOf]; omega⟩
              · have h3 := rel_eq3 HREL.out h2
                have hd4 : decide ((k : Int) % 4 < 2) = false := decide_eq_false (by omega)
                have hd5 : ((k : Int) % 4 == 3) = true := by rw [beq_iff_eq]; omega
                have hd7 : ((k : Int) % 4 == 2) = false := by rw [beq_eq_false_iff_ne]; omega
                obtain ⟨a3, c3, hv3, hc3, hm3, hr3, hn3⟩ := own_row' HO.out
                have htl := rtail_any a3 c3 d wr (by omega) hc3 hr3
                rw [← hv3] at htl
                have HV3 : Hid (u6 = .slice a3 d.length c3) := hv3
                clear hn3 hr3 hm3 hc3 hv3
                rw [if_neg (by omega)] at h3
                obtain ⟨P, rfl⟩ : ∃ P : Nat, pad = (P : Int) := ⟨pad.toNat, by omega⟩
                have hd6 : decide ((P : Int) < 0) = false := decide_eq_false (by omega)
                have hd8 : decide ((P : Int) ≥ 0) = true := decide_eq_true (by omega)
                have i0 : (0 : Int) ≤ (P : Int) - 1 := by omega
                have i1 : (P : Int) - 1 < (nb : Int) := by omega
                have i2 : ((P : Int) - 1).toNat = P - 1 := by omega
                obtain ⟨b2, o2, p, rfl, hcell2, hne⟩ := hat (P - 1) (by omega)
                rcases h3 with ⟨hT, hf⟩ | ⟨hT, t2, ht2, hrn⟩
                · have HNN : Hid (decB (nums s) = none) := by unfold Hid; rw [← HFIN.out]; exact fold_inl HC.out hf
                  rw [hT] at htl
                  clear hat hbad hv61 hf hT
                  go_wp2_with (go_at_call 62; refine (hval _).mono ?_; rintro e w' ⟨rfl, rfl⟩)
                  go_loopw [6, 10] (fun v n wi => v = u6 ∧ n = .int .i64 32 ∧ wr = wi) (fun _ _ _ => 0)
                  case atStart => exact ⟨rfl, rfl, rfl⟩
                  case round =>
                    obtain ⟨rfl, rfl, rfl⟩ := hrel
                    go_wp2_with (go_at_call 63; refine htl.mono ?_; rintro e w' ⟨rfl, rfl⟩)
                    go_region
                    go_wp2
                    exact bodyPost_ret (v := .tuple #[.slice none 0 0, .agg #[.int .i64 (p), .int .i64 12]]) (by simp [results, Tryd.results35, go_sem, c0, c1']) rfl ⟨_, _, _, rfl, below_drew ((HBW.out.setCell (p := ⟨w.heap.size, 0, none⟩) (Nat.le_refl _) _).setCell (p := ⟨w.heap.size, 1, none⟩) (Nat.le_refl _) _), .inr ⟨by decide, rfl, HNN.out⟩⟩
                · have HFN : Hid (finR (foldB (bb.drop (k + 1)) t2) = decB (nums s)) := by unfold Hid; rw [← HFIN.out, fold_inr HC.out ht2]
                  have HRN : Hid (RelB t2 P (k + 1) d) := hrn
                  rw [hT] at htl
                  clear hat hbad hv61 ht2 hrn hT
                  go_wp2_with (go_at_call 62; refine (hval _).mono ?_; rintro e w' ⟨rfl, rfl⟩)
                  go_loopw [6, 10] (fun v n wi => v = u6 ∧ n = .int .i64 32 ∧ wr = wi) (fun _ _ _ => 0)
                  case atStart => exact ⟨rfl, rfl, rfl⟩
                  case round =>
                    obtain ⟨rfl, rfl, rfl⟩ := hrel
                    go_wp2_with (go_at_call 63; refine htl.mono ?_; rintro e w' ⟨rfl, rfl⟩)
                    all_goals exact ⟨⟨k + 1, P, d, t2, by first | go_num | rfl, by first | rfl | go_num, by omega, HFN.out, HRN.out, by omega, HO.out, HW.out⟩, by simp [intOf]; omega⟩
        · have hv0 : 0 ≤ vv := hv61.resolve_right h61
          by_cases hp0 : 0 ≤ pad
          · have HNN : Hid (decB (nums s) = none) := by unfold Hid; rw [← HFIN.out]; exact fold_inl HC.out (rel_fault_sign HREL.out hp0 (by rw [HVV.out]; exact hv0) h61)
            obtain ⟨b2, o2, p, rfl, hcell2, hne⟩ := hat k hlt
            have hd1 : decide (vv < 0) = false := decide_eq_false (by omega)
            have hd2 : (c != 61) = true := by simpa using h61
            have hd3 : (c == 61) = false := by rw [beq_eq_false_iff_ne]; exact h61
            have hd4 : decide (pad ≥ 0) = true := decide_eq_true hp0
            clear hat hbad hv61 h61
            go_wp2_with (go_at_call 62; refine (hval _).mono ?_; rintro e w' ⟨rfl, rfl⟩)
            go_region
            go_wp2
            exact bodyPost_ret (v := .tuple #[.slice none 0 0, .agg #[.int .i64 (p), .int .i64 11]]) (by simp [results, Tryd.results35, go_sem, c0, c1']) rfl ⟨_, _, _, rfl, below_drew ((HBW.out.setCell (p := ⟨w.heap.size, 0, none⟩) (Nat.le_refl _) _).setCell (p := ⟨w.heap.size, 1, none⟩) (Nat.le_refl _) _), .inr ⟨by decide, rfl, HNN.out⟩⟩
          · have hpm : pad = -1 := by omega
            subst hpm
            obtain ⟨t2, ht2, hrn⟩ := rel_sign HREL.out (by rw [HVV.out]; exact hv0) (by rw [HVV.out]; exact hvb) h61
            rw [HVV.out] at hrn
            have HFN : Hid (finR (foldB (bb.drop (k + 1)) t2) = decB (nums s)) := by unfold Hid; rw [← HFIN.out, fold_inr HC.out ht2]
            have HRN : Hid (RelB t2 (-1) (k + 1) (d ++ dig6 vv)) := hrn
            have hd1 : decide (vv < 0) = false := decide_eq_false (by omega)
            have hd2 : (c != 61) = true := by simpa using h61
            have hd3 : (c == 61) = false := by rw [beq_eq_false_iff_ne]; exact h61
            clear hat hbad hv61 ht2 hrn h61
            go_wp2_with (go_at_call 62; refine (hval _).mono ?_; rintro e w' ⟨rfl, rfl⟩)
            go_loopw [6, 10] (fun v n wi => ∃ j : Nat, j ≤ 6 ∧ n = .int .i64 (pw6.getD j 0) ∧ wi.ownsRow w1.heap.size 3 1 v (d ++ (dig6 vv).take j).length ((d ++ (dig6 vv).take j).map (Value.int .i64)) ∧ Below w1.heap.size w1 wi) (fun _ n _ => (intOf n).toNat)
            case atStart => exact ⟨0, by omega, rfl, by simpa using HO.out, HW.out⟩
            case round =>
              obtain ⟨j, hj, rfl, hownI, hbelI⟩ := hrel
              have HOI : Hid (wr.ownsRow w1.heap.size 3 1 u6 (d ++ (dig6 vv).take j).length ((d ++ (dig6 vv).take j).map (Value.int .i64))) := hownI
              have HWI : Hid (Below w1.heap.size w1 wr) := hbelI
              have hszI := hbelI.size
              clear hownI hbelI
              by_cases hj6 : j < 6
              · obtain ⟨p1, p2, p3, p4⟩ := pw_step vv j hj6
                have HQ : Hid (d ++ (dig6 vv).take (j + 1) = (d ++ (dig6 vv).take j) ++ [vv / pw6.getD j 0 % 2]) := by unfold Hid; rw [p1, List.append_assoc]
                have hql : (d ++ (dig6 vv).take j).length ≤ 13000 := by rw [List.length_append, List.length_take]; have : (dig6 vv).length = 6 := rfl; omega
                have HPN : Hid (pw6.getD j 0 / 2 = pw6.getD (j + 1) 0) := p2
                generalize d ++ (dig6 vv).take j = q at HQ hql HOI
                generalize pw6.getD j 0 = n at HQ HPN p3 p4 ⊢
                have hn1 : decide (n > 0) = true := decide_eq_true (by omega)
                have hn2 : n ≠ 0 := by omega
                have hmod : (vv / n).tmod 2 = vv / n % 2 := Int.tmod_eq_emod_of_nonneg (Int.ediv_nonneg hv0 (by omega))
                clear p1 p2
                go_wp2_with (at_builtin; refine wpList_append_own _ rfl (.tmp 108) (.tmp 113) 73 rfl w1.heap.size 3 j1 (.int .i64 0) 1 8 Tryd.underlying73 ki kz0 kz1 kz2 rfl (by decide) _ _ _ rfl (HOI.out.alloc _) ⟨wr.heap.size, 0, none⟩ 1 1 (([vv / n % 2] : List Int).map (Value.int .i64)) rfl rfl (cells_new _ _ _) (ints_oneI _) (by unfold maxLen; omega) (by omega) (by simp; omega) ?_; intro v4 w4 hown4 hgrow4 _; have HB4 : Hid (Below w1.heap.size w1 w4) := (HWI.out.alloc hszI _).grown hgrow4 (by simp; omega) (fun k hk => (HOI.out.lt k hk).1); have HO4 : Hid (w4.ownsRow w1.heap.size 3 1 v4 (d ++ (dig6 vv).take (j + 1)).length ((d ++ (dig6 vv).take (j + 1)).map (Value.int .i64))) := (by unfold Hid; rw [HQ.out]; exact own_snocI hown4); clear hown4 hgrow4)
                all_goals exact ⟨⟨j + 1, by omega, by rw [← HPN.out], HO4.out, HB4.out⟩, by simp [intOf]; omega⟩
              · obtain rfl : j = 6 := by omega
                have HOF : Hid (wr.ownsRow w1.heap.size 3 1 u6 (d ++ dig6 vv).length ((d ++ dig6 vv).map (Value.int .i64))) := HOI.out
                have HLF : Hid ((d ++ dig6 vv).length ≤ 6 * (k + 1)) := by unfold Hid; rw [List.length_append]; have : (dig6 vv).length = 6 := rfl; omega
                rw [show pw6.getD 6 0 = 0 from rfl]
                clear HOI
                by_cases h43 : (k : Int) % 4 = 3
                · have hd5 : ((k : Int) % 4 == 3) = true := by rw [beq_iff_eq]; exact h43
                  go_wp2
                  all_goals exact ⟨⟨k + 1, -1, d ++ dig6 vv, t2, by first | go_num | rfl, rfl, by omega, HFN.out, HRN.out, HLF.out, HOF.out, HWI.out⟩, by simp [intOf]; omega⟩
                · have hd5 : ((k : Int) % 4 == 3) = false := by rw [beq_eq_false_iff_ne]; exact h43
                  go_wp2
                  all_goals exact ⟨⟨k + 1, -1, d ++ dig6 vv, t2, by first | go_num | rfl, rfl, by omega, HFN.out, HRN.out, HLF.out, HOF.out, HWI.out⟩, by simp [intOf]; omega⟩
    · obtain rfl : k = nb := by omega
      have hl1 : decide ((k : Int) < (k : Int)) = false := by simp
      rcases rel_end HREL.out with ⟨hq, hcn⟩ | ⟨hq, hcn, g, hgl, hgd⟩
      · have HNN : Hid (decB (nums s) = none) := by unfold Hid; rw [← HFIN.out, List.drop_of_length_le (by rw [HNB.out]; exact Nat.le_refl _), foldB]; simp only [finR]; rw [if_neg hcn]
        have hd4 : decide ((k : Int) % 4 > 0) = true := decide_eq_true (by omega)
        clear hcn
        go_wp2
        exact bodyPost_ret (v := .tuple #[.slice none 0 0, .agg #[.int .i64 (s.size : Int), .int .i64 11]]) (by simp [results, Tryd.results35, go_sem, c0, c1']) rfl ⟨_, _, _, rfl, (HBW.out.setCell (p := ⟨w.heap.size, 0, none⟩) (Nat.le_refl _) _).setCell (p := ⟨w.heap.size, 1, none⟩) (Nat.le_refl _) _, .inr ⟨by decide, rfl, HNN.out⟩⟩
      · have hds : decB (nums s) = some t.out := by rw [← HFIN.out, List.drop_of_length_le (by rw [HNB.out]; exact Nat.le_refl _), foldB]; simp only [finR]; rw [if_pos hcn]
        have HBT : Hid (Byt t.out) := decB_byt hds
        have HDS : Hid (decB (nums s) = some t.out) := hds
        have hd4 : decide ((k : Int) % 4 > 0) = false := decide_eq_false (by omega)
        obtain ⟨a3, c3, hv3, hc3, hm3, hr3, hn3⟩ := own_row' HO.out
        subst hv3
        unfold maxLen at hm3
        generalize t.out = ou at HBT HDS hgd
        subst hgd
        have HR3 : Hid (RowK .i64 wr a3 (Bt.binZ ou ++ g)) := hr3
        clear hcn hds hr3 hn3 HREL HFIN HO hk
        have hol : ou.length ≤ 2000 := by rw [List.length_append, Bt.bin_len] at hdl2; omega
        obtain ⟨W, rfl⟩ : ∃ W, W = wr := ⟨wr, rfl⟩
        have HFW : Hid (W.heap[w.heap.size]? = some (.cells #[.int .i64 0, .int .i64 0] 48 (0, 0))) := (HW.out.block _ hlt1).trans HF1.out
        go_wp2
        go_loopw [6, 11, 12, 13] (fun vd vo _ _ wi => ∃ (ad : Option Addr) (cd : Nat) (pre rest : List Int), ou = pre ++ rest ∧ vd = .slice ad (Bt.binZ rest ++ g).length cd ∧ (Bt.binZ rest ++ g).length ≤ cd ∧ cd ≤ 9223372036854775807 ∧ RowK .i64 W ad (Bt.binZ rest ++ g) ∧ wi.ownsRow W.heap.size 5 1 vo pre.length (pre.map (Value.int .u8)) ∧ Below W.heap.size W wi) (fun vd _ _ _ _ => lenS vd)
        case atStart => exact ⟨a3, c3, [], ou, rfl, rfl, hc3, by omega, HR3.out, World.ownsRow_nil _ _ _ _, Below.refl _ _⟩
        case round =>
          obtain ⟨ad, cd, pre, rest, hpr2, rfl, hcd, hcm, hrr, hownI, hbelI⟩ := hrel
          have HRR : Hid (RowK .i64 W ad (Bt.binZ rest ++ g)) := hrr
          have HOI : Hid (wr.ownsRow W.heap.size 5 1 u11 pre.length (pre.map (Value.int .u8))) := hownI
          have HWI : Hid (Below W.heap.size W wr) := hbelI
          have HPR : Hid (ou = pre ++ rest) := hpr2
          have hszI := hbelI.size
          have hpl : pre.length ≤ 2000 := by rw [hpr2, List.length_append] at hol; omega
          have hF3 : wr.heap[w.heap.size]? = some (.cells #[.int .i64 0, .int .i64 0] 48 (0, 0)) := (hbelI.block _ (by omega)).trans HFW.out
          have y0 : wr.cell? ⟨w.heap.size, 0, none⟩ = some (.int .i64 0) := by rw [cell_of_row wr _ _ _ _ _ hF3]; rfl
          have y1 : wr.cell? ⟨w.heap.size, 1, none⟩ = some (.int .i64 0) := by rw [cell_of_row wr _ _ _ _ _ hF3]; rfl
          have x0 : wr.frozen? ⟨w.heap.size, 0, none⟩ = false := frozen_of_row wr _ _ _ _ hF3
          have x1 : wr.frozen? ⟨w.heap.size, 1, none⟩ = false := frozen_of_row wr _ _ _ _ hF3
          clear hpr2 hrr hownI hbelI hF3 c0 c1' z0 z1
          cases rest with
          | nil =>
            obtain ⟨n, hn⟩ : ∃ n, (Bt.binZ [] ++ g).length = n := ⟨_, rfl⟩
            have hn8 : n < 8 := by rw [← hn]; simpa [Bt.binZ] using hgl
            rw [hn] at hcd ⊢
            have hg8 : decide ((n : Int) ≥ 8) = false := decide_eq_false (by omega)
            obtain ⟨ao, co, hvo, hco, hmo, hro, _⟩ := own_row' (own_set (f := w.heap.size) (o := 1) (u := .int .i64 0) (by omega) (own_set (f := w.heap.size) (o := 0) (u := .int .i64 0) (by omega) HOI.out))
            have HE : Hid (ou = pre) := by have := HPR.out; rwa [List.append_nil] at this
            have HBA : Hid (BAns true u11 (decB (nums s)) ((wr.setCell ⟨w.heap.size, 0, none⟩ (.int .i64 0)).setCell ⟨w.heap.size, 1, none⟩ (.int .i64 0))) := BAns.yes (l := pre) (by rw [HDS.out, HE.out]) hvo hco hmo hro (by rw [← HE.out]; exact HBT.out)
            have HBZ : Hid (Below w.heap.size w wr) := HBW.out.trans (HWI.out.mono (by omega))
            clear hro hmo hco hn hvo
            go_wp2
            exact bodyPost_ret (v := .tuple #[u11, .agg #[.int .i64 0, .int .i64 0]]) (by simp [results, Tryd.results35, go_sem, y0, y1]) rfl ⟨_, _, _, rfl, (HBZ.out.setCell (p := ⟨w.heap.size, 0, none⟩) (Nat.le_refl _) _).setCell (p := ⟨w.heap.size, 1, none⟩) (Nat.le_refl _) _, .inl ⟨rfl, HBA.out⟩⟩
          | cons x r =>
            have hxb : 0 ≤ x ∧ x < 256 := HBT.out x (by rw [HPR.out]; simp)
            obtain ⟨n, hn⟩ : ∃ n, (Bt.binZ (x :: r) ++ g).length = n := ⟨_, rfl⟩
            have hn8 : 8 ≤ n := by rw [← hn, List.length_append, Bt.bin_len]; simp; omega
            have HN : Hid ((Bt.binZ (x :: r) ++ g).length = n) := hn
            have HRN : Hid ((Bt.binZ r ++ g).length = n - 8) := by unfold Hid; rw [← hn, List.length_append, List.length_append, Bt.bin_len, Bt.bin_len]; simp; omega
            have HDR : Hid ((Bt.binZ (x :: r) ++ g).drop 8 = Bt.binZ r ++ g) := by unfold Hid; rw [Bt.binZ_cons, List.append_assoc]; rfl
            obtain ⟨b3, o3, rfl, hcells⟩ : ∃ b off, ad = some ⟨b, off, none⟩ ∧ ∀ j, j < 8 → wr.cell? ⟨b, off + j, none⟩ = some (.int .i64 ((Bt.bin1 x).getD j 0)) := by
              rcases HRR.out with h | ⟨b, off, e, h⟩
              · have := congrArg List.length h; rw [hn] at this; simp at this; omega
              · refine ⟨b, off, e, fun j hj => ?_⟩
                have h2 := h j (by rw [hn]; omega)
                rw [(HWI.out.cell (World.block_lt_of_cell? W _ h2)), h2, Bt.binZ_cons, List.append_assoc, List.getD_eq_getElem?_getD, List.getElem?_append_left (by have : (Bt.bin1 x).length = 8 := rfl; omega), ← List.getD_eq_getElem?_getD]
            have HCE : Hid (∀ j, j < 8 → wr.cell? ⟨b3, o3 + j, none⟩ = some (.int .i64 ((Bt.bin1 x).getD j 0))) := hcells
            rw [hn] at hcd ⊢
            have hg8 : decide ((n : Int) ≥ 8) = true := decide_eq_true (by omega)
            have hcdI : (n : Int) ≤ (cd : Int) := by omega
            clear hcells hn
            go_wp2
            obtain ⟨W2, rfl⟩ : ∃ W2, W2 = wr := ⟨wr, rfl⟩
            go_loopw [12, 13] (fun v i wi => ∃ j : Nat, j ≤ 8 ∧ i = .int .i64 j ∧ v = .int .i64 (x / pw8.getD j 0) ∧ W2 = wi) (fun _ i _ => 8 - (intOf i).toNat)
            case atStart => exact ⟨0, by omega, rfl, by rw [show pw8.getD 0 0 = 256 from rfl, show x / 256 = 0 by omega], rfl⟩
            case round =>
              obtain ⟨j, hj, rfl, rfl, rfl⟩ := hrel
              by_cases hj8 : j < 8
              · obtain ⟨q1, q2⟩ := pw8_step x hxb.1 j hj8
                have hcj := HCE.out j hj8
                rw [q1] at hcj
                have HQ2 : Hid (2 * (x / pw8.getD j 0) + x / pw8.getD (j + 1) 0 % 2 = x / pw8.getD (j + 1) 0) := q2
                have hr1 : 0 ≤ x / pw8.getD j 0 ∧ x / pw8.getD j 0 ≤ 256 := by
                  rcases (show j = 0 ∨ j = 1 ∨ j = 2 ∨ j = 3 ∨ j = 4 ∨ j = 5 ∨ j = 6 ∨ j = 7 from by omega) with rfl | rfl | rfl | rfl | rfl | rfl | rfl | rfl <;> (simp [pw8]; omega)
                have hr2 : 0 ≤ x / pw8.getD (j + 1) 0 % 2 ∧ x / pw8.getD (j + 1) 0 % 2 < 2 := by omega
                generalize hA : x / pw8.getD j 0 = A at hr1 HQ2 ⊢
                generalize hB : x / pw8.getD (j + 1) 0 % 2 = B2 at hr2 HQ2 hcj
                have hl8 : decide ((j : Int) < 8) = true := decide_eq_true (by omega)
                have m0 : (0 : Int) ≤ (j : Int) := by omega
                have m1 : (j : Int) < (n : Int) := by omega
                clear q1 q2 hA hB
                go_wp2
                all_goals exact ⟨⟨j + 1, by omega, by first | go_num | rfl, by rw [← HQ2.out], by first | trivial | rfl⟩, by simp [intOf]; omega⟩
              · obtain rfl : j = 8 := by omega
                have hxv : x / pw8.getD 8 0 = x := by simp [pw8]
                rw [hxv]
                have hw5 : IntKind.u8.wrap x = x := by simp [IntKind.wrap, IntKind.bits, IntKind.signed]; omega
                have HRD : Hid (RowK .i64 W (if cd = 8 then some ⟨b3, o3, none⟩ else some ⟨b3, o3 + 8, none⟩) (Bt.binZ r ++ g)) := by
                  by_cases h8 : cd = 8
                  · have : Bt.binZ r ++ g = [] := List.eq_nil_of_length_eq_zero (by have := HRN.out; omega)
                    exact .inl this
                  · rw [if_neg h8, ← HDR.out]; exact Bt.rowK_drop 8 HRR.out
                have HP2 : Hid (ou = (pre ++ [x]) ++ r) := by unfold Hid; rw [HPR.out]; simp
                have m8 : (8 : Int) ≤ (n : Int) := by omega
                clear hxv
                go_wp2_with (at_builtin; refine wpList_append_own _ rfl (.tmp 153) (.tmp 156) 31 rfl W.heap.size 5 j0 (.int .u8 0) 1 1 Tryd.underlying31 hi hz0 hz1 hz2 rfl (by decide) _ _ _ rfl (HOI.out.alloc _) ⟨W2.heap.size, 0, none⟩ 1 1 (([x] : List Int).map (Value.int .u8)) rfl rfl (cells_new _ _ _) (ints_one _) (by unfold maxLen; omega) (by omega) (by simp; omega) ?_; intro v4 w4 hown4 hgrow4 _; have HB4 : Hid (Below W.heap.size W w4) := (HWI.out.alloc hszI _).grown hgrow4 (by simp; omega) (fun k hk => (HOI.out.lt k hk).1); have HO4 : Hid (w4.ownsRow W.heap.size 5 1 v4 (pre ++ [x]).length ((pre ++ [x]).map (Value.int .u8))) := own_snoc2 hown4; clear hown4 hgrow4)
                all_goals exact ⟨⟨if cd = 8 then some ⟨b3, o3, none⟩ else some ⟨b3, o3 + 8, none⟩, cd - 8, pre ++ [x], r, HP2.out, by rw [HRN.out], by have := HRN.out; omega, by omega, HRD.out, HO4.out, HB4.out⟩, by simp [lenS]; omega⟩
end Go.Proofs.YtnhbmekhmkkccaaDoor
