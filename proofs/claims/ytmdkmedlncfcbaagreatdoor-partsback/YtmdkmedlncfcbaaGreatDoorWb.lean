/-
  Write's writing of a part.
-/
import Derived.Test.YtmdkmedlncfcbaaGreatDoorWc
namespace Go.Proofs.YtmdkmedlncfcbaaGreatDoor
open Go.RowKit Go.Shelf
set_option linter.unusedVariables false
set_option linter.unusedSimpArgs false

set_option maxHeartbeats 16000000 in
set_option maxRecDepth 100000 in
theorem write_step (f : Nat) (hf : f ≤ 8) (ih : ∀ g, f = g + 1 → WrC g) : WrC f := by
  intro d hd h ct C O F Bo out v x y z t w hct hol hst hfit hm hbo hCB hOB hFB hBw hCO hCF hOF hC hO hown hF
  have HD : Hid (d = 9 - (f : Int)) := hd
  have hd1 : 1 ≤ d := by omega
  have hd2 : d ≤ 9 := by omega
  clear hd
  obtain ⟨xx, hx⟩ : ∃ xx, wrP f ct out t = xx := ⟨_, rfl⟩
  rw [hx]
  have HXE : Hid (wrP f ct out t = xx) := hx
  have HIH : Hid (∀ g, f = g + 1 → WrC g) := ih
  have HST : Hid (Stay (fun b => b = C ∨ b = O ∨ Bo ≤ b) w (fun W => PtAt h W t x y z)) := hst
  obtain ⟨h', rfl⟩ : ∃ h', h = h' + 1 := by cases h with | zero => exact hst.now.elim | succ h => exact ⟨h, rfl⟩
  obtain ⟨hF1, hF2, hF3, hF4⟩ := hfit
  obtain ⟨⟨fa, fc, rfl, fr, fl⟩, ⟨ba, bc, rfl, bl, bm, bn, bb, br⟩, hps⟩ := hst.now
  obtain ⟨_, pa, pc, rfl, hpr⟩ := hps
  obtain ⟨va, vn, vc, rfl⟩ : ∃ va vn vc, v = .slice va vn vc := by obtain ⟨a1, c1, h1, _⟩ := own_row' hown; exact ⟨a1, _, c1, h1⟩
  have hvn : vn = out.length := by obtain ⟨a1, c1, h1, _⟩ := own_row' hown; cases h1; rfl
  obtain ⟨fn, hfn⟩ : ∃ fn, t.fs.length = fn := ⟨_, rfl⟩
  obtain ⟨bn', hbn⟩ : ∃ bn, t.body.length = bn := ⟨_, rfl⟩
  obtain ⟨pn, hpn⟩ : ∃ pn, t.ps.length = pn := ⟨_, rfl⟩
  have HFIT : Hid (FitF t.fs) := hF1
  have HFN : Hid (t.fs.length = fn) := hfn
  have HBN : Hid (t.body.length = bn') := hbn
  have HPN : Hid (t.ps.length = pn) := hpn
  have HVN : Hid (vn = out.length) := hvn
  have HFT : Hid (∀ q ∈ t.ps, FitT h' q) := hF4
  have hfl : fn ≤ 1000 := by rw [← hfn]; exact hF1.1
  rw [hbn] at hF2 bl
  rw [hpn] at hF3
  have hv1 : vn ≤ 1050000 := by omega
  rw [hfn, hbn, hpn] at HST
  rw [hfn, hbn, hpn]
  have hClt : C < w.heap.size := hC.lt
  obtain ⟨G, hG⟩ : ∃ G, w.heap.size = G := ⟨_, rfl⟩
  obtain ⟨w0, hw0⟩ : ∃ w0, (w.alloc (.cells #[.slice fa fn fc, .slice ba bn' bc, .slice pa pn pc] 28)).setCell ⟨C, 0, none⟩ (.int .i64 ((ct : Int) + 1)) = w0 := ⟨_, rfl⟩
  have hBk := keep w (.cells #[.slice fa fn fc, .slice ba bn' bc, .slice pa pn pc] 28)
  have ht0 : Tg (OW Bo C O w) w w0 := by rw [← hw0]; exact (tw_below hBk).two (Tg.set (O := fun b => b = C) _ C 0 _ rfl) (fun _ _ q => q) (fun b _ q => .inl q)
  have hC0 : Blk w0 C #[.int .i64 ((ct + 1 : Nat) : Int)] 3 := by
    rw [← hw0]; exact (hC.below hBk hClt).same0 _
  have hG0 : Blk w0 G #[.slice fa fn fc, .slice ba bn' bc, .slice pa pn pc] 28 := by
    have := Blk.new w #[.slice fa fn fc, .slice ba bn' bc, .slice pa pn pc] 28
    rw [hG] at this
    rw [← hw0]; exact this.other (by omega) _
  have hO0 : Blk w0 O #[.slice va vn vc] 22 := by rw [← hw0]; exact (hO.below hBk hO.lt).other (by omega) _
  have hF0 : Blk w0 F #[wrF C O F] 34 := by rw [← hw0]; exact (hF.below hBk hF.lt).other (by omega) _
  have hw0o : Own w0 Bo (.slice va vn vc) out := by rw [← hw0]; exact own_other (by omega) (own_keep hown hBk)
  have hm0 : Mx w0 := by
    rw [← hw0]
    exact mx_set (hm.keep hBk) (hC.below hBk hClt) ((hC.below hBk hClt).same0 _) (Tg.set (O := fun b => b = C) _ C 0 _ rfl)
  have hs0 := tw_stay ht0 HST.out
  have hz0 : w0.heap.size = G + 1 := by rw [← hw0, ← hG]; simp
  have cC := cell1 hC
  have fC := hC.frozen 0
  have cC0 : w0.cell? ⟨C, 0, none⟩ = some (.int .i64 ((ct : Int) + 1)) := cell1 hC0
  have HC : Hid (Blk w C #[.int .i64 (ct : Nat)] 3) := hC
  have HT0 : Hid (Tg (OW Bo C O w) w w0) := ht0
  have HC0 : Hid (Blk w0 C #[.int .i64 ((ct + 1 : Nat) : Int)] 3) := hC0
  have HG0 : Hid (Blk w0 G #[.slice fa fn fc, .slice ba bn' bc, .slice pa pn pc] 28) := hG0
  have HO0 : Hid (Blk w0 O #[.slice va vn vc] 22) := hO0
  have HF0 : Hid (Blk w0 F #[wrF C O F] 34) := hF0
  have HW0 : Hid (Own w0 Bo (.slice va vn vc) out) := hw0o
  have HM0 : Hid (Mx w0) := hm0
  have HS0 : Hid (Stay (fun b => b = C ∨ b = O ∨ Bo ≤ b) w0 (fun W => PtAt (h' + 1) W t (.slice fa fn fc) (.slice ba bn' bc) (.slice pa pn pc))) := hs0
  have HZ0 : Hid (w0.heap.size = G + 1) := hz0
  have HG : Hid (w.heap.size = G) := hG
  have HBY : Hid (Byt out) := hbo
  have HBB : Hid (Byt t.body) := bb
  rw [hG] at hBw hClt
  obtain ⟨q0, q1, q2⟩ := cells3 hG0
  have hki := kind_any2 fa fn fc (.slice ba bn' bc) (.slice pa pn pc) t.fs w0 HFN.out (by obtain ⟨⟨a1, c1, e1, r1, _⟩, _⟩ := hs0.now; cases e1; exact r1) HFIT.out rfl rfl
  unfold partV at hki
  unfold partV
  clear hx hst hpr br fr hC hO hown hF hC0 hG0 hO0 hF0 hw0o hm0 hs0 ht0 hBk hz0 ih hF1 hF4 hfn hbn hpn hvn hm hbo bb HST
  by_cases h64 : ct = 64
  · subst h64
    have HV : Hid (xx = (65, out, false)) := by
      unfold Hid; rw [← HXE.out]
      cases f with
      | zero => rfl
      | succ g => rfl
    clear hki cC0
    have hcc : w0.cell? ⟨C, 0, none⟩ = some (.int .i64 65) := cell1 HC0.out
    have hw65 : (w.alloc (.cells #[.slice fa fn fc, .slice ba bn' bc, .slice pa pn pc] 28)).setCell ⟨C, 0, none⟩ (.int .i64 65) = w0 := hw0
    have hw66 : (w.setCell ⟨C, 0, none⟩ (.int .i64 65)).alloc (.cells #[.slice fa fn fc, .slice ba bn' bc, .slice pa pn pc] 28) = w0 := by
      rw [← hw65, World.setCell_alloc_past (hn := by omega)]
    clear hw0
    go_enter Tryz.func37, Tryz.ntmps37
    go_wp2
    refine wr_ret (x := xx) (v' := .slice va vn vc) HT0.out (by rw [HV.out]; exact HC0.out) HO0.out (by rw [HV.out]; exact HW0.out) (fun h => by rw [HV.out] at h; cases h) rfl (by rw [HV.out]; rfl)
  · have hct2 : ct + 1 ≤ 64 := by omega
    cases f with
    | zero =>
      have hd9 : 8 < d := by have := HD.out; simp at this; omega
      have HV : Hid (xx = (ct + 1, out, false)) := HXE.out.symm
      clear hki
      go_enter Tryz.func37, Tryz.ntmps37
      go_wp2
      refine wr_ret (x := xx) (v' := .slice va vn vc) HT0.out (by rw [HV.out]; exact HC0.out) HO0.out (by rw [HV.out]; exact HW0.out) (fun h => by rw [HV.out] at h; cases h) rfl (by rw [HV.out]; rfl)
    | succ g =>
      have hd8 : ¬ 8 < d := by have := HD.out; omega
      have HX : Hid (xx = wrH (ct + 1) out t (fun bd o => wrL (wrP g) bd (ct + 1) o t.ps)) := HXE.out.symm
      go_enter Tryz.func37, Tryz.ntmps37
      go_wp2_with fail
      refine hki.mono ?_
      rintro e w5 ⟨ty, sub, ka, kc, ks, kcd, rfl, hka, hb5, hkans, hkfr⟩
      have HKFR : Hid (∀ x, ka = some x → ks ≠ [] → G + 1 ≤ x.block) := fun x h1 h2 => by have := hkfr x h1 h2; rw [HZ0.out] at this; exact this
      have HVL : Hid (∀ k, (Value.slice va vn vc).ownBlock = some k → k < G + 1) := fun k hk => by have := own_block_lt HW0.out k hk; rw [HZ0.out] at this; exact this
      clear hkfr
      clear hki
      have HB5 : Hid (Below w0.heap.size w0 w5) := hb5
      have HT5 : Hid (Tg (OW Bo C O w) w w5) := tw_trans HT0.out (tw_below hb5)
      have HC5 : Hid (Blk w5 C #[.int .i64 ((ct + 1 : Nat) : Int)] 3) := HC0.out.below hb5 HC0.out.lt
      have HG5 : Hid (Blk w5 G #[.slice fa fn fc, .slice ba bn' bc, .slice pa pn pc] 28) := HG0.out.below hb5 HG0.out.lt
      have HO5 : Hid (Blk w5 O #[.slice va vn vc] 22) := HO0.out.below hb5 HO0.out.lt
      have HF5 : Hid (Blk w5 F #[wrF C O F] 34) := HF0.out.below hb5 HF0.out.lt
      have HW5 : Hid (Own w5 Bo (.slice va vn vc) out) := own_keep HW0.out hb5
      have HM5 : Hid (Mx w5) := HM0.out.keep hb5
      have HS5 := tw_stay (Bo := Bo) (C := C) (O := O) (tw_below hb5) HS0.out
      have HS5 : Hid (Stay (fun b => b = C ∨ b = O ∨ Bo ≤ b) w5 (fun W => PtAt (h' + 1) W t (.slice fa fn fc) (.slice ba bn' bc) (.slice pa pn pc))) := HS5
      have HKA : Hid (KAt w5 ty sub ka ks) := hka
      have hz5 : G < w5.heap.size := HG5.out.lt
      unfold Kd.kindV
      obtain ⟨kn, hkn⟩ : ∃ kn, ks.length = kn := ⟨_, rfl⟩
      rw [hkn]
      have HKN : Hid (ks.length = kn) := hkn
      clear hb5 hka hkn hw0 cC fC cC0 q0 q1 q2 HT0 HC0 HG0 HO0 HF0 HW0 HM0 HS0 HZ0 HB5
      obtain ⟨q0, q1, q2⟩ := cells3 HG5.out
      have hnot : ¬ 64 < ct + 1 := by omega
      rcases hkans with ⟨rfl, hkd⟩ | ⟨hk0, hke, hkd⟩
      · have HKD : Hid (knd t.fs = some (knOf ty sub ks)) := hkd
        clear hkd
        have hsh := shaped_any (.slice fa fn fc) ba pa bn' bc pn pc ty sub ka kn kc ks (w5.alloc (.cells #[.string ty, .string sub, .slice ka kn kc] 39)) rfl (by omega) (by omega) HKN.out (HKA.out.below (keep _ _))
        unfold partV Kd.kindV at hsh
        have HK6 : Hid (Blk (w5.alloc (.cells #[.string ty, .string sub, .slice ka kn kc] 39)) w5.heap.size #[.string ty, .string sub, .slice ka kn kc] 39) := Blk.new _ _ _
        go_wp2_with fail
        refine hsh.mono ?_
        rintro e w6 ⟨rfl, hb6⟩
        clear hsh
        have hb56 : Below w5.heap.size w5 w6 := (keep w5 _).trans (hb6.mono (by simp))
        obtain ⟨B5, hB5⟩ : ∃ B5, w5.heap.size = B5 := ⟨_, rfl⟩
        have HK7 := HK6.out.below hb6 (by simp)
        rw [hB5] at HK7
        have HK7 : Hid (Blk w6 B5 #[.string ty, .string sub, .slice ka kn kc] 39) := HK7
        have HT6 : Hid (Tg (OW Bo C O w) w w6) := tw_trans HT5.out (tw_below hb56)
        have HC6 : Hid (Blk w6 C #[.int .i64 ((ct + 1 : Nat) : Int)] 3) := HC5.out.below hb56 HC5.out.lt
        have HG6 : Hid (Blk w6 G #[.slice fa fn fc, .slice ba bn' bc, .slice pa pn pc] 28) := HG5.out.below hb56 HG5.out.lt
        have HO6 : Hid (Blk w6 O #[.slice va vn vc] 22) := HO5.out.below hb56 HO5.out.lt
        have HF6 : Hid (Blk w6 F #[wrF C O F] 34) := HF5.out.below hb56 HF5.out.lt
        have HW6 : Hid (Own w6 Bo (.slice va vn vc) out) := own_keep HW5.out hb56
        have HM6 : Hid (Mx w6) := HM5.out.keep hb56
        have HS6 : Hid (Stay (fun b => b = C ∨ b = O ∨ Bo ≤ b) w6 (fun W => PtAt (h' + 1) W t (.slice fa fn fc) (.slice ba bn' bc) (.slice pa pn pc))) := tw_stay (Bo := Bo) (C := C) (O := O) (tw_below hb56) HS5.out
        have HKA6 : Hid (KAt w6 ty sub ka ks) := HKA.out.below hb56
        have hz6 : B5 < w6.heap.size := HK7.out.lt
        rw [hB5] at hz5
        simp only [hB5]
        clear hb56 hb6 hB5 HK6 HT5 HC5 HG5 HO5 HF5 HW5 HM5 HS5 HKA q0 q1 q2
        obtain ⟨q0, q1, q2⟩ := cells3 HG6.out
        have hwr := write_any fa fn fc t.fs w6 HFN.out (by omega) (by obtain ⟨⟨a1, c1, e1, r1, _⟩, _⟩ := HS6.out.now; cases e1; exact r1) (fun f hf => by have := HFIT.out.2 f hf; omega)
        cases hsz : shapedZ (knOf ty sub ks) bn' pn with
        | false =>
          have HV : Hid (xx = (ct + 1, out, false)) := by
            unfold Hid
            rw [HX.out, wrH, if_neg hnot, HKD.out]
            simp only
            rw [if_pos (.inl (by rw [HBN.out, HPN.out]; exact hsz))]
          clear hsz hwr
          go_wp2
          refine wr_ret (x := xx) (v' := .slice va vn vc) HT6.out (by rw [HV.out]; exact HC6.out) HO6.out (by rw [HV.out]; exact HW6.out) (fun h => by rw [HV.out] at h; cases h) rfl (by rw [HV.out]; rfl)
        | true =>
          have HSZ : Hid (shapedZ (knOf ty sub ks) bn' pn = true) := hsz
          clear hsz
          go_wp2_with fail
          refine hwr.mono ?_
          rintro e w7 ⟨vh, rfl, hoh, hb7⟩
          clear hwr
          have HT7 : Hid (Tg (OW Bo C O w) w w7) := tw_trans HT6.out (tw_below hb7)
          have HC7 : Hid (Blk w7 C #[.int .i64 ((ct + 1 : Nat) : Int)] 3) := HC6.out.below hb7 HC6.out.lt
          have HG7 : Hid (Blk w7 G #[.slice fa fn fc, .slice ba bn' bc, .slice pa pn pc] 28) := HG6.out.below hb7 HG6.out.lt
          have HO7 : Hid (Blk w7 O #[.slice va vn vc] 22) := HO6.out.below hb7 HO6.out.lt
          have HF7 : Hid (Blk w7 F #[wrF C O F] 34) := HF6.out.below hb7 HF6.out.lt
          have HK8 : Hid (Blk w7 B5 #[.string ty, .string sub, .slice ka kn kc] 39) := HK7.out.below hb7 HK7.out.lt
          have HW7 : Hid (Own w7 Bo (.slice va vn vc) out) := own_keep HW6.out hb7
          have HM7 : Hid (Mx w7) := HM6.out.keep hb7
          have HS7 : Hid (Stay (fun b => b = C ∨ b = O ∨ Bo ≤ b) w7 (fun W => PtAt (h' + 1) W t (.slice fa fn fc) (.slice ba bn' bc) (.slice pa pn pc))) := tw_stay (Bo := Bo) (C := C) (O := O) (tw_below hb7) HS6.out
          have HKA7 : Hid (KAt w7 ty sub ka ks) := HKA6.out.below hb7
          obtain ⟨ha, hc, rfl, hh1, hh2, hh3, hh4⟩ := own_row' hoh
          have hwl := writeB_size t.fs
          obtain ⟨hl, hhl⟩ : ∃ hl, (writeB t.fs).length = hl := ⟨_, rfl⟩
          rw [hhl] at hh1 hwl ⊢
          have HHL : Hid ((writeB t.fs).length = hl) := hhl
          have HNH : Hid (ha = none → hc = 0) := hh4
          have HRH0 : Hid (RowK .u8 w7 ha (writeB t.fs)) := hh3
          have hbw7 : Bo ≤ w7.heap.size := by have h1 := HG7.out.lt; omega
          obtain ⟨wc, hwc⟩ : ∃ wc, writeC t.fs = wc := ⟨_, rfl⟩
          rw [hwc]
          have HWC : Hid (writeC t.fs = wc) := hwc
          clear hb7 hoh hh3 hh4 hhl hwc HT6 HC6 HG6 HO6 HF6 HK7 HW6 HM6 HS6 HKA6 q0 q1 q2
          obtain ⟨q0, q1, q2⟩ := cells3 HG7.out
          have cO := cell1 HO7.out
          have HVF : Hid (roomZ t out = false → xx = (ct + 1, out, false)) := by
            intro hr
            rw [HX.out, wrH, if_neg hnot, HKD.out]
            simp only
            rw [if_pos (.inr hr)]
          by_cases hwc0 : wc = 0
          · subst hwc0
            by_cases hroom : bn' + hl + vn ≤ 1048576
            · have hroom2 : ¬ (1048576 - (hl : Int) - (vn : Int) < (bn' : Int)) := by omega
              have HW7D : Hid (w7.drew.ownsRow Bo 5 1 (.slice va vn vc) vn (out.map (Value.int .u8))) := by
                have := HW7.out
                unfold Hid
                unfold Own at this
                rw [← HVN.out] at this
                exact own_keep this (below_drew (Below.refl _ _))
              have HRH : Hid (RowK .u8 w7.drew ha (writeB t.fs)) := rowK_below HRH0.out (below_drew (Below.refl _ _))
              have fO := HO7.out.frozen 0
              obtain ⟨j0, hi, hz0, hz1, hz2⟩ := info_parts Tryz.info5
              go_wp2_with fail
              refine wp_region_held_drew (S := (fun V => V.cell? ⟨G, 1, none⟩ = some (.slice ba bn' bc))) (by kernel_rfl) (by assumption) (fun hHeld => ?_)
              refine takeD (some 58) (i := 1) (v := .slice ha hl hc) rfl rfl (by kernel_rfl) (by kernel_rfl) (by kernel_rfl) (fun _ _ _ h => h) (Or.inl ⟨by kernel_rfl, ?_⟩) (by assumption) ?_
              · (intro w hSw; (try dsimp only at hSw); go_simp)
              (try simp only [Act.put, List.setIfInBounds_toArray, List.set_cons_zero, List.set_cons_succ])
              refine takeD (some 60) (i := 3) (v := .pointer (some ⟨G, 1, none⟩)) rfl rfl (by kernel_rfl) (by kernel_rfl) (by kernel_rfl) (fun _ _ _ h => h) (Or.inl ⟨by kernel_rfl, ?_⟩) (by assumption) ?_
              · (intro w hSw; (try dsimp only at hSw); go_simp)
              (try simp only [Act.put, List.setIfInBounds_toArray, List.set_cons_zero, List.set_cons_succ])
              refine takeD (some 61) (i := 4) (v := .slice ba bn' bc) rfl rfl (by kernel_rfl) (by kernel_rfl) (by kernel_rfl) (fun _ _ _ h => h) (Or.inl ⟨by kernel_rfl, ?_⟩) (by assumption) ?_
              · (intro w hSw; (try dsimp only at hSw); go_simp)
              (try simp only [Act.put, List.setIfInBounds_toArray, List.set_cons_zero, List.set_cons_succ])
              refine wpAnyH_ready (rs := [0]) (by kernel_rfl) (by simp) ?_
              refine AllReadyH.cons rfl (fun K hK => ?_) AllReadyH.nil
              go_simp
              refine hK.out _ _ hHeld (fun hHeld => ?_)
              clear hK K
              (try simp only [Act.put, List.setIfInBounds_toArray, List.set_cons_zero, List.set_cons_succ])
              refine wpAnyH_ready (rs := [2]) (by kernel_rfl) (by simp) ?_
              refine AllReadyH.cons rfl (fun K hK => ?_) AllReadyH.nil
              refine step_append_row _ rfl (.tmp 57) (.tmp 58) 22 rfl Bo 5 j0 (.int .u8 0) 1 Tryz.underlying22 hi hz0 hz1 hz2 rfl (.slice va vn vc) vn (out.map (Value.int .u8)) rfl HW7D.out ha hl hc (writeB t.fs) rfl HHL.out HNH.out HRH.out (by unfold maxLen; omega) (by omega) (by first | exact hbw7 | (simp; omega)) ?_
              intro v1 w8 hown1 hgrow1 hfre1
              have t78 : Tg (OW Bo C O w7) w7 w8 := tw_grown (U := w7.drew) HW7D.out hgrow1
              have HG8 : Hid (Blk w8 G #[.slice fa fn fc, .slice ba bn' bc, .slice pa pn pc] 28) := tw_kept t78 HG7.out (by decide) (by omega) (by omega)
              have HT78 : Hid (Tg (OW Bo C O w7) w7 w8) := t78
              have hOne : ∀ U V : World, ∀ v0 n0 xs0, U.ownsRow Bo 5 1 v0 n0 xs0 → U.grownBy V v0.ownBlock → ∀ b cs ty, Blk U b cs ty → ty ≠ 5 → Blk V b cs ty := fun U V v0 n0 xs0 ho hg b cs ty hb hty => (hg.block b hb.lt (fun q => by
                rcases ho.2 with ⟨rfl, _⟩ | ⟨g9, cap9, cur9, rfl, _, h3, _⟩
                · simp [Value.ownBlock] at q
                · have e9 : b = g9 := by simpa [Value.ownBlock] using q
                  subst e9; rw [show U.heap[b]? = _ from hb] at h3; cases h3; exact hty rfl)).trans hb
              have HO8 : Hid (Blk w8 O #[.slice va vn vc] 22) := hOne w7.drew w8 _ _ _ HW7D.out hgrow1 _ _ _ HO7.out (by decide)
              have HC8 : Hid (Blk w8 C #[.int .i64 ((ct + 1 : Nat) : Int)] 3) := hOne w7.drew w8 _ _ _ HW7D.out hgrow1 _ _ _ HC7.out (by decide)
              clear hOne
              have HOW1 : Hid (w8.ownsRow Bo 5 1 v1 (vn + hl) (out.map (Value.int .u8) ++ (writeB t.fs).map (Value.int .u8))) := hown1
              have HKA8 : Hid (KAt w8 ty sub ka ks) := kat_tg (V := w7.drew) HKA7.out (Tg.grown (O := fun b => (Value.slice va vn vc).ownBlock = some b) hgrow1 (fun b hb => hb)) (fun x h1 h2 _ h3 => by
                have h4 := HKFR.out x h1 h2
                have h5 := HVL.out _ h3
                omega)
              have HFR1 : Hid (∀ k, v1.ownBlock = some k → k < G + 1 ∨ k = w7.heap.size) := fun k hk => by
                rcases hfre1 with h | h
                · left; exact HVL.out k (by rw [← h]; exact hk)
                · right; rw [h] at hk; simpa using hk.symm
              have HKL7 : Hid (∀ x, ka = some x → ks ≠ [] → x.block < w7.heap.size) := fun x h1 h2 => by
                rcases HKA7.out.1 with h0 | ⟨b, off, rfl, hc⟩
                · exact (h2 h0).elim
                · cases h1
                  obtain ⟨f0, hf0⟩ : ∃ f0, ks[0]? = some f0 := ⟨_, List.getElem?_eq_getElem (List.length_pos_iff.2 h2)⟩
                  exact World.block_lt_of_cell? w7 _ (hc 0 f0 hf0).1
              have HRB : Hid (RowK .u8 w8 ba t.body) := by
                obtain ⟨_, ⟨a1, c1, e1, _, _, _, _, r⟩, _⟩ := (tw_stay t78 HS7.out).now
                cases e1; exact r
              have hbw8 : Bo ≤ w8.heap.size := by have := t78.size; omega
              refine hK.out _ _ (cells3 HG8.out).2.1 (fun hHeld => ?_)
              clear hK K t78 hown1 hgrow1 hfre1
              (try simp only [Act.put, List.setIfInBounds_toArray, List.set_cons_zero, List.set_cons_succ])
              refine wpAnyH_ready (rs := [5]) (by kernel_rfl) (by simp) ?_
              refine AllReadyH.cons rfl (fun K hK => ?_) AllReadyH.nil
              refine step_append_row _ rfl (.tmp 59) (.tmp 61) 22 rfl Bo 5 j0 (.int .u8 0) 1 Tryz.underlying22 hi hz0 hz1 hz2 rfl v1 (vn + hl) (out.map (Value.int .u8) ++ (writeB t.fs).map (Value.int .u8)) rfl HOW1.out ba bn' bc t.body rfl HBN.out bn HRB.out (by unfold maxLen; omega) (by omega) hbw8 ?_
              intro v2 w9 hown2 hgrow2 hfre2
              have t79 : Tg (OW Bo C O w7) w7 w9 := tw_trans HT78.out (tw_grown HOW1.out hgrow2)
              have HT79 : Hid (Tg (OW Bo C O w7) w7 w9) := t79
              have HG9 : Hid (Blk w9 G #[.slice fa fn fc, .slice ba bn' bc, .slice pa pn pc] 28) := tw_kept t79 HG7.out (by decide) (by omega) (by omega)
              have hOne : ∀ U V : World, ∀ v0 n0 xs0, U.ownsRow Bo 5 1 v0 n0 xs0 → U.grownBy V v0.ownBlock → ∀ b cs ty, Blk U b cs ty → ty ≠ 5 → Blk V b cs ty := fun U V v0 n0 xs0 ho hg b cs ty hb hty => (hg.block b hb.lt (fun q => by
                rcases ho.2 with ⟨rfl, _⟩ | ⟨g9, cap9, cur9, rfl, _, h3, _⟩
                · simp [Value.ownBlock] at q
                · have e9 : b = g9 := by simpa [Value.ownBlock] using q
                  subst e9; rw [show U.heap[b]? = _ from hb] at h3; cases h3; exact hty rfl)).trans hb
              have HO9 : Hid (Blk w9 O #[.slice va vn vc] 22) := hOne w8 w9 _ _ _ HOW1.out hgrow2 _ _ _ (HO8.out) (by decide)
              have HC9 : Hid (Blk w9 C #[.int .i64 ((ct + 1 : Nat) : Int)] 3) := hOne w8 w9 _ _ _ HOW1.out hgrow2 _ _ _ (HC8.out) (by decide)
              have HKA9 : Hid (KAt w9 ty sub ka ks) := kat_tg HKA8.out (Tg.grown (O := fun b => v1.ownBlock = some b) hgrow2 (fun b hb => hb)) (fun x h1 h2 _ h3 => by
                have h4 := HKFR.out x h1 h2
                have h5 := HKL7.out x h1 h2
                have h6 := HFR1.out _ h3
                omega)
              have HOW2 : Hid (Own w9 Bo v2 (out ++ writeB t.fs ++ t.body)) := own_of hown2 (by rw [List.length_append, List.length_append, HHL.out, HBN.out, ← HVN.out]) (by rw [List.map_append, List.map_append])
              obtain ⟨v2a, v2c, hv2, _⟩ := own_row' HOW2.out
              have hol2 : (out ++ writeB t.fs ++ t.body).length = vn + hl + bn' := by rw [List.length_append, List.length_append, HHL.out, HBN.out, ← HVN.out]
              rw [hol2] at hv2
              subst hv2
              refine hK.out _ _ (cells3 HG9.out).2.1 (fun hHeld => ?_)
              clear hK K t79 hown2 hgrow2 hOne hfre2
              (try simp only [Act.put, List.setIfInBounds_toArray, List.set_cons_zero, List.set_cons_succ])
              have cO9 := cell1 HO9.out
              have fO9 := HO9.out.frozen 0
              refine wpAnyH_ready (rs := [6]) (by kernel_rfl) (by simp) ?_
              refine AllReadyH.cons rfl (fun K hK => ?_) AllReadyH.nil
              go_simp
              refine hK.out _ _ (by rw [World.cell?_setCell_other _ _ _ _ (by first | (simp; done) | (simp; omega))]; exact (cells3 HG9.out).2.1) (fun hHeld => ?_)
              clear hK K
              (try simp only [Act.put, List.setIfInBounds_toArray, List.set_cons_zero, List.set_cons_succ])
              refine wpAnyH_done (by kernel_rfl) ?_ _
              have tA : Tg (OW Bo C O w9) w9 (w9.setCell ⟨O, 0, none⟩ (.slice v2a (vn + hl + bn') v2c)) := Tg.set (O := OW Bo C O w9) _ O 0 _ (.inr (.inl rfl))
              have t7A := tw_trans HT79.out tA
              have HTA : Hid (Tg (OW Bo C O w) w (w9.setCell ⟨O, 0, none⟩ (.slice v2a (vn + hl + bn') v2c))) := tw_trans HT7.out t7A
              have HCA : Hid (Blk (w9.setCell ⟨O, 0, none⟩ (.slice v2a (vn + hl + bn') v2c)) C #[.int .i64 ((ct + 1 : Nat) : Int)] 3) := HC9.out.other hCO _
              have HOA : Hid (Blk (w9.setCell ⟨O, 0, none⟩ (.slice v2a (vn + hl + bn') v2c)) O #[.slice v2a (vn + hl + bn') v2c] 22) := HO9.out.same0 _
              have HGA : Hid (Blk (w9.setCell ⟨O, 0, none⟩ (.slice v2a (vn + hl + bn') v2c)) G #[.slice fa fn fc, .slice ba bn' bc, .slice pa pn pc] 28) := HG9.out.other (by omega) _
              have HFA : Hid (Blk (w9.setCell ⟨O, 0, none⟩ (.slice v2a (vn + hl + bn') v2c)) F #[wrF C O F] 34) := tw_kept t7A HF7.out (by decide) (by omega) (by omega)
              have HBA : Hid (Blk (w9.setCell ⟨O, 0, none⟩ (.slice v2a (vn + hl + bn') v2c)) B5 #[.string ty, .string sub, .slice ka kn kc] 39) := tw_kept t7A HK8.out (by decide) (by omega) (by omega)
              have HWA : Hid (Own (w9.setCell ⟨O, 0, none⟩ (.slice v2a (vn + hl + bn') v2c)) Bo (.slice v2a (vn + hl + bn') v2c) (out ++ writeB t.fs ++ t.body)) := own_other hOB HOW2.out
              have HMA : Hid (Mx (w9.setCell ⟨O, 0, none⟩ (.slice v2a (vn + hl + bn') v2c))) := mx_tw HM7.out t7A HC7.out HCA.out HO7.out (fun k h => by cases h) (by omega)
              have HSA : Hid (Stay (fun b => b = C ∨ b = O ∨ Bo ≤ b) (w9.setCell ⟨O, 0, none⟩ (.slice v2a (vn + hl + bn') v2c)) (fun W => PtAt (h' + 1) W t (.slice fa fn fc) (.slice ba bn' bc) (.slice pa pn pc))) := tw_stay t7A HS7.out
              have HKAA : Hid (KAt (w9.setCell ⟨O, 0, none⟩ (.slice v2a (vn + hl + bn') v2c)) ty sub ka ks) := kat_tg HKA9.out (Tg.set (O := fun b => b = O) _ O 0 _ rfl) (fun x h1 h2 _ h3 => by have := HKFR.out x h1 h2; omega)
              generalize w9.setCell ⟨O, 0, none⟩ (.slice v2a (vn + hl + bn') v2c) = wA at HTA HCA HOA HGA HFA HBA HWA HMA HSA HKAA ⊢
              clear hHeld tA t7A HT79 HG9 HO9 HC9 HOW2 HT78 HG8 HO8 HC8 HOW1 HRB HW7D HRH HT7 HC7 HG7 HO7 HF7 HK8 HW7 HM7 HS7 HKA7 HKA8 HKA9 HFR1 HKL7 q0 q1 q2 cO fO cO9 fO9
              obtain ⟨q0, q1, q2⟩ := cells3 HGA.out
              obtain ⟨k0, k1, k2⟩ := cells3 HBA.out
              have hmp := mp_eq ty
              have HXR : Hid (xx = if (knOf ty sub ks).1 = mpZ then wrK (ct + 1) (out ++ writeB t.fs ++ t.body) (fun bd => wrL (wrP g) bd (ct + 1) (out ++ writeB t.fs ++ t.body) t.ps) (bord (knOf ty sub ks))
                else (ct + 1, out ++ writeB t.fs ++ t.body, true)) := by
                unfold Hid
                rw [HX.out, wrH, if_neg hnot, HKD.out]
                simp only
                have hng : ¬ (shapedZ (knOf ty sub ks) t.body.length t.ps.length = false ∨ roomZ t out = false) := by
                  rintro (h | h)
                  · rw [HBN.out, HPN.out, HSZ.out] at h; cases h
                  · unfold roomZ at h
                    rw [HWC.out, HBN.out, HHL.out, ← HVN.out, decide_eq_true hroom, decide_eq_true rfl] at h
                    cases h
                rw [if_neg hng]
              have HBYA : Hid (Byt (out ++ writeB t.fs ++ t.body)) := (HBY.out.append writeB_byt).append HBB.out
              by_cases hty : nums ty = mpZ
              · rw [decide_eq_true hty] at hmp
                have hmp2 : ty.toList = [109, 117, 108, 116, 105, 112, 97, 114, 116] := by rw [← mp_list]; simpa using hmp
                have hsz := HSZ.out
                unfold shapedZ at hsz
                rw [if_pos (show (knOf ty sub ks).1 = mpZ from hty), Bool.and_eq_true, Bool.and_eq_true, decide_eq_true_eq, decide_eq_true_eq] at hsz
                obtain ⟨⟨hsome, hpn0⟩, hbn0⟩ := hsz
                clear hbn0
                have hbo := borderOf_any ty sub ka kn kc ks wA HKN.out HKAA.out
                unfold Kd.kindV at hbo
                have HXK : Hid (xx = wrK (ct + 1) (out ++ writeB t.fs ++ t.body) (fun bd => wrL (wrP g) bd (ct + 1) (out ++ writeB t.fs ++ t.body) t.ps) (bord (knOf ty sub ks))) := by
                  unfold Hid; rw [HXR.out, if_pos (show (knOf ty sub ks).1 = mpZ from hty)]
                obtain ⟨o1, ho1⟩ : ∃ o1, out ++ writeB t.fs ++ t.body = o1 := ⟨_, rfl⟩
                obtain ⟨n1, hn1⟩ : ∃ n1, vn + hl + bn' = n1 := ⟨_, rfl⟩
                have hn1l : n1 ≤ 1048576 := by omega
                rw [ho1] at HXK HBYA HWA hol2
                rw [hn1] at hol2 HOA HWA ⊢
                have HOL : Hid (o1.length = n1) := hol2
                clear hty hmp HXR ho1 hn1 hol2
                go_wp2_with fail
                refine hbo.mono ?_
                rintro e wB ⟨bs, bb2, rfl, hbB, hbt, hbf, _⟩
                clear hbo
                cases bb2 with
                | false => rw [hbf rfl] at hsome; cases hsome
                | true =>
                  have hbd := hbt rfl
                  have hbl := (bord_spec hbd).2.2
                  rw [nums_len] at hbl
                  have HXL : Hid (xx = wrL (wrP g) (nums bs) (ct + 1) o1 t.ps) := by unfold Hid; rw [HXK.out, hbd]; rfl
                  have HTB : Hid (Tg (OW Bo C O w) w wB) := tw_trans HTA.out (tw_below hbB)
                  have HCB2 : Hid (Blk wB C #[.int .i64 ((ct + 1 : Nat) : Int)] 3) := HCA.out.below hbB HCA.out.lt
                  have HGB : Hid (Blk wB G #[.slice fa fn fc, .slice ba bn' bc, .slice pa pn pc] 28) := HGA.out.below hbB HGA.out.lt
                  have HOB : Hid (Blk wB O #[.slice v2a n1 v2c] 22) := HOA.out.below hbB HOA.out.lt
                  have HFB : Hid (Blk wB F #[wrF C O F] 34) := HFA.out.below hbB HFA.out.lt
                  have HWB : Hid (Own wB Bo (.slice v2a n1 v2c) o1) := own_keep HWA.out hbB
                  have HMB : Hid (Mx wB) := HMA.out.keep hbB
                  have HSB : Hid (Stay (fun b => b = C ∨ b = O ∨ Bo ≤ b) wB (fun W => PtAt (h' + 1) W t (.slice fa fn fc) (.slice ba bn' bc) (.slice pa pn pc))) := tw_stay (tw_below hbB) HSA.out
                  clear hbB hbt hbf hbd hsome HXK HTA HCA HGA HOA HFA HBA HWA HMA HSA HKAA q0 q1 q2 k0 k1 k2
                  obtain ⟨q0, q1, q2⟩ := cells3 HGB.out
                  obtain ⟨pb, po, hpa⟩ : ∃ pb po, pa = some ⟨pb, po, none⟩ := by
                    obtain ⟨_, _, _, a', c', e', hr'⟩ := HSB.out.now
                    rcases hr' with h0 | ⟨b', o', ha', _⟩
                    · have := HPN.out; rw [h0] at this; simp at this; omega
                    · subst ha'; cases e'; exact ⟨_, _, rfl⟩
                  subst hpa
                  have HKJ0 : Hid (KJ w Bo C O F G (h' + 1) t (.slice fa fn fc) (.slice ba bn' bc) (.slice (some ⟨pb, po, none⟩) pn pc) (ct + 1) o1 wB) :=
                    ⟨v2a, v2c, HTB.out, HCB2.out, HGB.out, by rw [HOL.out]; exact HOB.out, HFB.out, by rw [HOL.out]; exact HWB.out, HMB.out, HSB.out⟩
                  have hoL := HOL.out
                  have hpn1 : pn ≤ 10000000 := hF3
                  have HO1L : Hid (o1.length ≤ 1048576 + 82 * g + 2) := by unfold Hid; omega
                  clear HTB HCB2 HGB HOB HFB HWB HMB HSB hoL
                  go_wp2
                  go_loopw [74] (fun i wr => ∃ (k ct1 : Nat) (o : List Int), i = .int .i64 (k : Nat) ∧ k ≤ pn ∧ ct1 ≤ 64 ∧ o.length ≤ 1048576 + 82 * g + 2 ∧ Byt o ∧ xx = wrL (wrP g) (nums bs) ct1 o (t.ps.drop k) ∧ KJ w Bo C O F G (h' + 1) t (.slice fa fn fc) (.slice ba bn' bc) (.slice (some ⟨pb, po, none⟩) pn pc) ct1 o wr) (fun i _ => pn - (intOf i).toNat)
                  case atStart => exact ⟨0, ct + 1, o1, rfl, by omega, hct2, HO1L.out, HBYA.out, HXL.out, HKJ0.out⟩
                  case round =>
                    obtain ⟨k, ct1, o, rfl, hk, hct1, hol1, hbyo, hxe, hkj⟩ := hrel
                    have HXE2 : Hid (xx = wrL (wrP g) (nums bs) ct1 o (t.ps.drop k)) := hxe
                    have HBO : Hid (Byt o) := hbyo
                    have HKJ : Hid (KJ w Bo C O F G (h' + 1) t (.slice fa fn fc) (.slice ba bn' bc) (.slice (some ⟨pb, po, none⟩) pn pc) ct1 o wr) := hkj
                    clear hxe hbyo
                    obtain ⟨va1, vc1, j1, j2, j3, j4, j5, j6, j7, j8⟩ := hkj
                    obtain ⟨on, hon⟩ : ∃ on, o.length = on := ⟨_, rfl⟩
                    rw [hon] at j4 j6 hol1
                    have HON : Hid (o.length = on) := hon
                    obtain ⟨j0, hi, hz0, hz1, hz2⟩ := info_parts Tryz.info5
                    by_cases hlt : k < pn
                    · obtain ⟨q, hq⟩ : ∃ q, t.ps[k]? = some q := ⟨_, List.getElem?_eq_getElem (by rw [HPN.out]; exact hlt)⟩
                      obtain ⟨x, y, z, e0, e1, e2, hsc⟩ := stay_child j8 hq
                      obtain ⟨h2, rfl⟩ : ∃ h2, h' = h2 + 1 := by cases h' with | zero => exact hsc.now.elim | succ h => exact ⟨h, rfl⟩
                      obtain ⟨⟨x1, x2, x3, rfl⟩, ⟨y1, y2, y3, rfl⟩, ⟨z1, z2, z3, rfl⟩⟩ := pt_slices hsc.now
                      have HFQ : Hid (FitT (h2 + 1) q) := HFT.out q (List.mem_of_getElem? hq)
                      have HDR : Hid (t.ps.drop k = q :: t.ps.drop (k + 1)) := by
                        unfold Hid
                        have hltp : k < t.ps.length := by rw [HPN.out]; exact hlt
                        rw [List.drop_eq_getElem_cons hltp]
                        rw [List.getElem?_eq_getElem hltp] at hq
                        simp only [Option.some.injEq] at hq
                        rw [hq]
                      obtain ⟨s0, hs0⟩ : ∃ s0, (⟨#[45, 45]⟩ : ByteArray) ++ bs = s0 := ⟨_, rfl⟩
                      obtain ⟨s1, hs1⟩ : ∃ s1, s0 ++ (⟨#[13, 10]⟩ : ByteArray) = s1 := ⟨_, rfl⟩
                      have eD : nums (⟨#[45, 45]⟩ : ByteArray) = [45, 45] := rfl
                      have eP : nums (⟨#[13, 10]⟩ : ByteArray) = [13, 10] := rfl
                      have HS0 : Hid (nums s0 = 45 :: 45 :: nums bs) := by unfold Hid; rw [← hs0, nums_append, eD]; rfl
                      have HS1 : Hid (nums s1 = 45 :: 45 :: nums bs ++ [13, 10]) := by unfold Hid; rw [← hs1, nums_append, HS0.out, eP]
                      have hs0z : s0.size = bs.size + 2 := by rw [← nums_len, HS0.out]; simp [nums_len]
                      have hs1z : s1.size = bs.size + 4 := by rw [← nums_len, HS1.out]; simp [nums_len]
                      have hk1 := keep wr (.cells #[.slice x1 x2 x3, .slice y1 y2 y3, .slice z1 z2 z3] 28)
                      have HT1 : Hid (Blk (wr.alloc (.cells #[.slice x1 x2 x3, .slice y1 y2 y3, .slice z1 z2 z3] 28)) wr.heap.size #[.slice x1 x2 x3, .slice y1 y2 y3, .slice z1 z2 z3] 28) := Blk.new _ _ _
                      have HKJ1 : Hid (KJ w Bo C O F G (h2 + 1 + 1) t (.slice fa fn fc) (.slice ba bn' bc) (.slice (some ⟨pb, po, none⟩) pn pc) ct1 o (wr.alloc (.cells #[.slice x1 x2 x3, .slice y1 y2 y3, .slice z1 z2 z3] 28))) :=
                        HKJ.out.go (tw_below hk1) (j2.below hk1 j2.lt) (j4.below hk1 j4.lt) (own_keep j6 hk1) hCB hOB hFB hCF hOF hBw
                      have HOW : Hid ((wr.alloc (.cells #[.slice x1 x2 x3, .slice y1 y2 y3, .slice z1 z2 z3] 28)).ownsRow Bo 5 1 (.slice va1 on vc1) on (o.map (Value.int .u8))) := by
                        unfold Hid
                        unfold Own at j6
                        rw [hon] at j6
                        exact own_keep j6 hk1
                      have HJ4 : Hid (Blk (wr.alloc (.cells #[.slice x1 x2 x3, .slice y1 y2 y3, .slice z1 z2 z3] 28)) O #[.slice va1 on vc1] 22) := j4.below hk1 j4.lt
                      have HJ6 : Hid (Own (wr.alloc (.cells #[.slice x1 x2 x3, .slice y1 y2 y3, .slice z1 z2 z3] 28)) Bo (.slice va1 on vc1) o) := own_keep j6 hk1
                      have HSC1 : Hid (Stay (fun b => b = C ∨ b = O ∨ Bo ≤ b) (wr.alloc (.cells #[.slice x1 x2 x3, .slice y1 y2 y3, .slice z1 z2 z3] 28)) (fun W => PtAt (h2 + 1) W q (.slice x1 x2 x3) (.slice y1 y2 y3) (.slice z1 z2 z3))) := tw_stay (tw_below hk1) hsc
                      have cO := cell1 j4
                      have fO := j4.frozen 0
                      have hOlt : O < wr.heap.size := j4.lt
                      have hbwr : Bo ≤ wr.heap.size := by have := j3.lt; omega
                      have hs1l : s1.size ≤ 76 := by omega
                      have hs0l : s0.size ≤ 76 := by omega
                      clear j1 j2 j3 j4 j5 j6 j7 j8 hs0z hs1z hon hk1 hsc hq eD eP
                      go_wp2_with (at_builtin; refine Lib.wpList_append_own_string _ rfl (.tmp 78) (.tmp 81) 22 9 rfl Bo 5 j0 Tryz.underlying22 Tryz.underlying9 hi hz0 hz1 hz2 _ on _ rfl HOW.out s1 rfl (by unfold maxLen; omega) (by omega) (by simp; omega) ?_)
                      intro v9 w9 hown9 hgrow9 _
                      have ho9 : Own w9 Bo v9 (o ++ nums s1) := own_of hown9 (by rw [List.length_append, nums_len, HON.out]) (by rw [str_cells, List.map_append])
                      obtain ⟨hkj9, hO9⟩ := HKJ1.out.app HJ4.out HJ6.out hgrow9 ho9 hCB hOB hFB hCO hCF hOF hBw
                      obtain ⟨v9a, v9c, hv9, _⟩ := own_row' ho9
                      obtain ⟨n9, hn9⟩ : ∃ n9, (o ++ nums s1).length = n9 := ⟨_, rfl⟩
                      rw [hn9] at hv9
                      subst hv9
                      have hn9l : n9 ≤ 1049500 := by rw [← hn9, List.length_append, nums_len, HON.out]; omega
                      have HN9 : Hid ((o ++ nums s1).length = n9) := hn9
                      clear hn9
                      obtain ⟨o2, ho2⟩ : ∃ o2, o ++ nums s1 = o2 := ⟨_, rfl⟩
                      obtain ⟨V3, hV3⟩ : ∃ V3, w9.setCell ⟨O, 0, none⟩ (.slice v9a n9 v9c) = V3 := ⟨_, rfl⟩
                      have t13 : Tg (OW Bo C O (wr.alloc (.cells #[.slice x1 x2 x3, .slice y1 y2 y3, .slice z1 z2 z3] 28))) (wr.alloc (.cells #[.slice x1 x2 x3, .slice y1 y2 y3, .slice z1 z2 z3] 28)) V3 := by
                        rw [← hV3]
                        exact tw_trans (tw_grown HJ6.out hgrow9) (Tg.set (O := OW Bo C O w9) _ O 0 _ (.inr (.inl rfl)))
                      rw [hV3] at hkj9
                      rw [ho2] at hkj9 ho9 HN9
                      have HB2 : Hid (Byt o2) := by unfold Hid; rw [← ho2]; exact HBO.out.append (nums_byt s1)
                      have HXX : Hid (∀ c o' b, wrP g ct1 o2 q = (c, o', b) → xx = if b = false then (c, o', false) else if beginsZ (o'.drop o2.length) (nums s0) = true then (c, o', false) else wrL (wrP g) (nums bs) c (o' ++ [13, 10]) (t.ps.drop (k + 1))) := by
                        intro c o' b hh
                        rw [HXE2.out, HDR.out, wrL, ← HS1.out, ← HS0.out, ho2, hh]
                        cases b <;> rfl
                      have HSC3 := tw_stay t13 HSC1.out
                      have hT3 : Blk V3 wr.heap.size #[.slice x1 x2 x3, .slice y1 y2 y3, .slice z1 z2 z3] 28 := tw_kept t13 HT1.out (by decide) (by omega) (by omega)
                      have HKJ3 : Hid (KJ w Bo C O F G (h2 + 1 + 1) t (.slice fa fn fc) (.slice ba bn' bc) (.slice (some ⟨pb, po, none⟩) pn pc) ct1 o2 V3) := hkj9
                      obtain ⟨va3, vc3, i1, i2, i3, i4, i5, i6, i7, i8⟩ := hkj9
                      have hch := HIH.out g rfl (d + 1) (by have := HD.out; omega) (h2 + 1) ct1 C O F Bo o2 (.slice va3 o2.length vc3) (.slice x1 x2 x3) (.slice y1 y2 y3) (.slice z1 z2 z3) q V3 hct1 (by rw [HN9.out]; omega) HSC3 HFQ.out i7 HB2.out hCB hOB hFB (by have := i3.lt; omega) hCO hCF hOF i2 i4 i6 i5
                      unfold partV at hch
                      have cO3 := cell1 i4
                      rw [HN9.out] at cO3
                      have cF3 := cell1 i5
                      unfold wrF at cF3
                      obtain ⟨m0, m1, m2⟩ := cells3 hT3
                      have c9 := cell1 hO9
                      have f9 := hO9.frozen 0
                      clear cO fO hO9 hown9 hgrow9 ho9 i1 i2 i3 i4 i5 i6 i7 i8 hT3 HSC3 t13 ho2 HOW HJ4 HJ6 HSC1 HT1 HKJ1 HKJ e0 e1 e2
                      go_wp2_with fail
                      refine hch.mono ?_
                      rintro e V4 ⟨rfl, ht4, hC4, ⟨v4, hO4, hown4⟩, hok4⟩
                      clear hch cO3 cF3 m0 m1 m2 c9 f9 hV3
                      obtain ⟨⟨c4, o4, b4⟩, hy4⟩ : ∃ y4, wrP g ct1 o2 q = y4 := ⟨_, rfl⟩
                      have HX4 : Hid (xx = if b4 = false then (c4, o4, false) else if beginsZ (o4.drop o2.length) (nums s0) = true then (c4, o4, false) else wrL (wrP g) (nums bs) c4 (o4 ++ [13, 10]) (t.ps.drop (k + 1))) := HXX.out c4 o4 b4 hy4
                      have hpre := wr_prefix g ct1 o2 q
                      rw [hy4] at hC4 hown4 hok4 hpre ⊢
                      simp only at hC4 hown4 hok4 hpre ⊢
                      have hple := hpre.length_le
                      rw [HN9.out] at hple HX4
                      have HKJ4 : Hid (KJ w Bo C O F G (h2 + 1 + 1) t (.slice fa fn fc) (.slice ba bn' bc) (.slice (some ⟨pb, po, none⟩) pn pc) c4 o4 V4) := HKJ3.out.go ht4 hC4 hO4 hown4 hCB hOB hFB hCF hOF hBw
                      obtain ⟨a4, c4c, rfl, r1, r2, r3, r4⟩ := own_row' hown4
                      obtain ⟨n4, hn4⟩ : ∃ n4, o4.length = n4 := ⟨_, rfl⟩
                      rw [hn4] at hO4 hown4 r1 hple
                      have HN4 : Hid (o4.length = n4) := hn4
                      have cO4 := cell1 hO4
                      cases b4 with
                      | false =>
                        have HV : Hid (xx = (c4, o4, false)) := HX4.out
                        clear hn4 hok4 hpre hy4
                        go_wp2
                        (try simp only [Exit.inBlock, Exit.then])
                        obtain ⟨va2, vc2, i1, i2, i3, i4, i5, i6, i7, i8⟩ := HKJ4.out
                        refine wr_ret (x := xx) (v' := .slice va2 o4.length vc2) i1 (by rw [HV.out]; exact i2) i4 (by rw [HV.out]; exact i6) (fun h => by rw [HV.out] at h; cases h) rfl (by rw [HV.out]; rfl)
                      | true =>
                        obtain ⟨hc4, hol4, hby4⟩ := hok4 rfl
                        rw [hn4] at hol4
                        have HBY4 : Hid (Byt o4) := hby4
                        obtain ⟨a', ha'⟩ : ∃ a', (if c4c = n9 then a4 else Option.map (fun x => x.add n9) a4) = a' := ⟨_, rfl⟩
                        have ha2 : (if n9 = c4c then a4 else Option.map (fun x => x.add n9) a4) = a' := by
                          rw [← ha']
                          by_cases h : c4c = n9
                          · rw [if_pos h, if_pos h.symm]
                          · rw [if_neg h, if_neg (fun q => h q.symm)]
                        have hcm4 : c4c ≤ 9223372036854775807 := r2
                        obtain ⟨va4, vc4, i1, i2, i3, i4, i5, i6, i7, i8⟩ := HKJ4.out
                        have hbg := begins_any a' (n4 - n9) (c4c - n9) s0 (o4.drop n9) V4 (by rw [List.length_drop, hn4]) (hby4.drop _) (by rw [← ha']; exact row_drop r3 (by rw [hn4]; exact r1)) (by omega) (by unfold maxLen; omega)
                          (fun h => by
                            rw [← ha'] at h
                            split at h
                            · omega
                            · cases a4 with
                              | none => have := r4 rfl; omega
                              | some y => simp at h) (by omega) (by omega) i7
                        have HO4 : Hid (Blk V4 O #[.slice a4 n4 c4c] 22) := hO4
                        have HW4 : Hid (Own V4 Bo (.slice a4 n4 c4c) o4) := hown4
                        have hg7 : g ≤ 7 := by omega
                        clear hn4 hok4 hpre hy4 i1 i2 i3 i4 i5 i6 i7 i8 r3 hO4 hown4 hby4 hC4 ht4
                        go_wp2_with fail
                        refine hbg.mono ?_
                        rintro e V5 ⟨rfl, hb5⟩
                        clear hbg ha' ha2 cO4
                        have hO5 := HO4.out.below hb5 HO4.out.lt
                        have HKJ5 : Hid (KJ w Bo C O F G (h2 + 1 + 1) t (.slice fa fn fc) (.slice ba bn' bc) (.slice (some ⟨pb, po, none⟩) pn pc) c4 o4 V5) := by
                          obtain ⟨va4, vc4, i1, i2, i3, i4, i5, i6, i7, i8⟩ := HKJ4.out
                          exact HKJ4.out.go (tw_below hb5) (i2.below hb5 i2.lt) hO5 (own_keep HW4.out hb5) hCB hOB hFB hCF hOF hBw
                        have HO5 : Hid (Blk V5 O #[.slice a4 n4 c4c] 22) := hO5
                        have HW5 : Hid (Own V5 Bo (.slice a4 n4 c4c) o4) := own_keep HW4.out hb5
                        have cO5 := cell1 hO5
                        have fO5 := hO5.frozen 0
                        clear hb5 hO5
                        cases hbz : beginsZ (o4.drop n9) (nums s0) with
                        | true =>
                          have HV : Hid (xx = (c4, o4, false)) := by unfold Hid; rw [HX4.out, if_neg (by decide), if_pos hbz]
                          clear hbz
                          go_wp2
                          (try simp only [Exit.inBlock, Exit.then])
                          obtain ⟨va2, vc2, i1, i2, i3, i4, i5, i6, i7, i8⟩ := HKJ5.out
                          refine wr_ret (x := xx) (v' := .slice va2 o4.length vc2) i1 (by rw [HV.out]; exact i2) i4 (by rw [HV.out]; exact i6) (fun h => by rw [HV.out] at h; cases h) rfl (by rw [HV.out]; rfl)
                        | false =>
                          have HV : Hid (xx = wrL (wrP g) (nums bs) c4 (o4 ++ [13, 10]) (t.ps.drop (k + 1))) := by unfold Hid; rw [HX4.out, if_neg (by decide), if_neg (by rw [hbz]; decide)]
                          have HOW5 : Hid (V5.ownsRow Bo 5 1 (.slice a4 n4 c4c) n4 (o4.map (Value.int .u8))) := by
                            have h := HW5.out
                            unfold Hid
                            unfold Own at h
                            rw [HN4.out] at h
                            exact h
                          have hbw5 : Bo ≤ V5.heap.size := by obtain ⟨va4, vc4, i1, i2, i3, _⟩ := HKJ5.out; have := i3.lt; omega
                          have hp2 : (⟨#[13, 10]⟩ : ByteArray).size = 2 := rfl
                          clear hbz
                          go_wp2_with (at_builtin; refine Lib.wpList_append_own_string _ rfl (.tmp 99) (.const (.string ⟨#[13, 10]⟩)) 22 9 rfl Bo 5 j0 Tryz.underlying22 Tryz.underlying9 hi hz0 hz1 hz2 _ n4 _ rfl HOW5.out ⟨#[13, 10]⟩ rfl (by unfold maxLen; omega) (by omega) hbw5 ?_)
                          intro v6 w6 hown6 hgrow6 _
                          have ho6 : Own w6 Bo v6 (o4 ++ [13, 10]) := own_of hown6 (by rw [List.length_append, HN4.out]; rfl) (by rw [List.map_append]; rfl)
                          obtain ⟨hkj6, hO6⟩ := HKJ5.out.app HO5.out HW5.out hgrow6 ho6 hCB hOB hFB hCO hCF hOF hBw
                          obtain ⟨v6a, v6c, hv6, _⟩ := own_row' ho6
                          obtain ⟨n6, hn6⟩ : ∃ n6, (o4 ++ [13, 10]).length = n6 := ⟨_, rfl⟩
                          rw [hn6] at hv6
                          subst hv6
                          clear hn6
                          have HKJ6 : Hid (KJ w Bo C O F G (h2 + 1 + 1) t (.slice fa fn fc) (.slice ba bn' bc) (.slice (some ⟨pb, po, none⟩) pn pc) c4 (o4 ++ [13, 10]) (w6.setCell ⟨O, 0, none⟩ (.slice v6a n6 v6c))) := hkj6
                          have c6 := cell1 hO6
                          have f6 := hO6.frozen 0
                          clear cO5 fO5 hkj6 hO6 hown6 hgrow6 ho6
                          go_wp2
                          go_roundw
                          case rel => exact ⟨k + 1, c4, o4 ++ [13, 10], by go_num, by omega, hc4, by rw [List.length_append, HN4.out]; simp; omega, HBY4.out.append (fun x hx => by simp at hx; omega), HV.out, HKJ6.out⟩
                          case measure => simp [intOf]; omega
                    · have hkp : k = pn := by omega
                      obtain ⟨s4, hs4⟩ : ∃ s4, (((⟨#[45, 45]⟩ : ByteArray) ++ bs) ++ (⟨#[45, 45]⟩ : ByteArray)) ++ (⟨#[13, 10]⟩ : ByteArray) = s4 := ⟨_, rfl⟩
                      have hs4n : nums s4 = 45 :: 45 :: nums bs ++ [45, 45, 13, 10] := by
                        rw [← hs4, nums_append, nums_append, nums_append]
                        have e1 : nums (⟨#[45, 45]⟩ : ByteArray) = [45, 45] := rfl
                        have e2 : nums (⟨#[13, 10]⟩ : ByteArray) = [13, 10] := rfl
                        rw [e1, e2]; simp
                      have hs4z : s4.size = bs.size + 6 := by rw [← nums_len, hs4n]; simp [nums_len]
                      have HS4 : Hid (nums s4 = 45 :: 45 :: nums bs ++ [45, 45, 13, 10]) := hs4n
                      have HV : Hid (xx = (ct1, o ++ nums s4, true)) := by
                        unfold Hid
                        rw [HXE2.out, List.drop_of_length_le (by rw [HPN.out]; omega), wrL, HS4.out]
                      have cO := cell1 j4
                      have fO := j4.frozen 0
                      have hbwr : Bo ≤ wr.heap.size := by have := j3.lt; omega
                      have HOW : Hid (wr.ownsRow Bo 5 1 (.slice va1 on vc1) on (o.map (Value.int .u8))) := by
                        unfold Hid
                        unfold Own at j6
                        rw [hon] at j6
                        exact j6
                      have HJ4 : Hid (Blk wr O #[.slice va1 on vc1] 22) := j4
                      have HJ6 : Hid (Own wr Bo (.slice va1 on vc1) o) := j6
                      have hs4l : s4.size ≤ 76 := by omega
                      clear j1 j2 j3 j4 j5 j6 j7 j8 hs4n hs4z hon
                      go_wp2_with (at_builtin; refine Lib.wpList_append_own_string _ rfl (.tmp 102) (.tmp 106) 22 9 rfl Bo 5 j0 Tryz.underlying22 Tryz.underlying9 hi hz0 hz1 hz2 _ on _ rfl HOW.out s4 rfl (by unfold maxLen; omega) (by omega) hbwr ?_)
                      intro v9 w9 hown9 hgrow9 _
                      have ho9 : Own w9 Bo v9 (o ++ nums s4) := own_of hown9 (by rw [List.length_append, nums_len, HON.out]) (by rw [str_cells, List.map_append])
                      obtain ⟨hkj9, hO9⟩ := HKJ.out.app HJ4.out HJ6.out hgrow9 ho9 hCB hOB hFB hCO hCF hOF hBw
                      obtain ⟨v9a, v9c, hv9, _⟩ := own_row' ho9
                      obtain ⟨n9, hn9⟩ : ∃ n9, (o ++ nums s4).length = n9 := ⟨_, rfl⟩
                      rw [hn9] at hv9
                      subst hv9
                      clear hn9
                      have HKJ9 : Hid (KJ w Bo C O F G (h' + 1) t (.slice fa fn fc) (.slice ba bn' bc) (.slice (some ⟨pb, po, none⟩) pn pc) ct1 (o ++ nums s4) (w9.setCell ⟨O, 0, none⟩ (.slice v9a n9 v9c))) := hkj9
                      have c9 := cell1 hO9
                      have f9 := hO9.frozen 0
                      clear cO fO hkj9 hO9 hown9 hgrow9 ho9
                      go_wp2
                      (try simp only [Exit.inBlock, Exit.then])
                      obtain ⟨va2, vc2, j1, j2, j3, j4, j5, j6, j7, j8⟩ := HKJ9.out
                      refine wr_ret (x := xx) (v' := .slice va2 (o ++ nums s4).length vc2) j1 (by rw [HV.out]; exact j2) j4 (by rw [HV.out]; exact j6) (fun _ => by rw [HV.out]; exact ⟨hct1, by rw [List.length_append, nums_len, HON.out]; omega, HBO.out.append (nums_byt s4)⟩) rfl (by rw [HV.out]; rfl)
              · rw [decide_eq_false hty] at hmp
                have hmp2 : ¬ ty.toList = [109, 117, 108, 116, 105, 112, 97, 114, 116] := by rw [← mp_list]; simpa using hmp
                have hmp3 : (ty.toList == [109, 117, 108, 116, 105, 112, 97, 114, 116]) = false := by rw [← mp_list]; exact hmp
                have HV : Hid (xx = (ct + 1, out ++ writeB t.fs ++ t.body, true)) := by
                  unfold Hid; rw [HXR.out, if_neg (show ¬ (knOf ty sub ks).1 = mpZ from hty)]
                clear hty hmp
                go_wp2
                refine wr_ret (x := xx) (v' := .slice v2a (vn + hl + bn') v2c) HTA.out (by rw [HV.out]; exact HCA.out) HOA.out (by rw [HV.out]; exact HWA.out) (fun _ => by rw [HV.out]; exact ⟨hct2, by rw [hol2]; omega, HBYA.out⟩) rfl (by rw [HV.out]; rfl)
            · have HV : Hid (xx = (ct + 1, out, false)) := HVF.out (by
                unfold roomZ
                rw [HWC.out, HBN.out, HHL.out, ← HVN.out, decide_eq_false hroom, Bool.and_false])
              have hroom2 : (1048576 - (hl : Int) - (vn : Int) < (bn' : Int)) := by omega
              clear hroom
              go_wp2
              refine wr_ret (x := xx) (v' := .slice va vn vc) HT7.out (by rw [HV.out]; exact HC7.out) HO7.out (by rw [HV.out]; exact HW7.out) (fun h => by rw [HV.out] at h; cases h) rfl (by rw [HV.out]; rfl)
          · have HV : Hid (xx = (ct + 1, out, false)) := HVF.out (by
              unfold roomZ
              rw [HWC.out, decide_eq_false hwc0, Bool.false_and])
            have hwc1 : (wc != 0) = true := by simpa using hwc0
            clear hwc0
            go_wp2
            refine wr_ret (x := xx) (v' := .slice va vn vc) HT7.out (by rw [HV.out]; exact HC7.out) HO7.out (by rw [HV.out]; exact HW7.out) (fun h => by rw [HV.out] at h; cases h) rfl (by rw [HV.out]; rfl)
      · have HV : Hid (xx = (ct + 1, out, false)) := by
          unfold Hid
          rw [HX.out, wrH, if_neg hnot, hkd]
        have hk1 : (kcd != 0) = true := by simpa using hk0
        clear hkd hke
        go_wp2
        refine wr_ret (x := xx) (v' := .slice va vn vc) (tw_trans HT5.out (tw_below (keep _ _))) (by rw [HV.out]; exact HC5.out.alloc _) (HO5.out.alloc _) (by rw [HV.out]; exact own_keep HW5.out (keep _ _)) (fun h => by rw [HV.out] at h; cases h) rfl (by rw [HV.out]; rfl)
end Go.Proofs.YtmdkmedlncfcbaaGreatDoor
