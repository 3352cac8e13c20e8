/-
  A component in new memory: the contract of clone.
-/
import Derived.Test.YtenclgnkogmgiaaDoorTu
import Derived.Test.YtenclgnkogmgiaaDoorXd
import Derived.Test.YtenclgnkogmgiaaDoorXj
namespace Go.Proofs.YtenclgnkogmgiaaDoor
open Go.RowKit Go.Shelf
set_option linter.unusedVariables false
set_option linter.unusedSimpArgs false

def CcPost (w : World) (h : Nat) (t : Cp) (e : Ending) (w' : World) : Prop :=
  ∃ x y z, e = .returned (compV x y z) ∧ Below w.heap.size w w' ∧ Stay (fun b => b < w.heap.size) w' (fun W => CpAt (h * 1000) W t x y z)
theorem cc_fin {w W : World} {t : Cp} {h : Nat} {x y z : Value} {A : Act} {R : Nat} (hR : Blk W R #[x, y, z] 25) (hb : Below w.heap.size w W) (hs : Stay (fun b => b < w.heap.size) W (fun W => CpAt (h * 1000) W t x y z)) (hd : A.defers = [])
    (h2 : A.tmps[2]?.getD undef = .pointer (some ⟨R, 0, none⟩)) : bodyPost Tryd.prog Tryd.f42 (CcPost w h t) .ret A W := by
  obtain ⟨c0, c1, c2⟩ := cells3 hR
  refine bodyPost_ret (v := compV x y z) ?_ hd ⟨x, y, z, rfl, hb, hs⟩
  simp [results, Tryd.results42, go_sem, c0, c1, c2, h2, compV]
def CcC (h : Nat) : Prop := ∀ (k : Nat) (t : Cp) (x y z : Value) (w : World), smallT k t → CpAt h w t x y z → Calls Tryd.prog 42 #[compV x y z] w (CcPost w h t)
theorem small_all {k : Nat} {t : Cp} (h : smallT k t) : ∀ n, FitC n t := fun n => small_fit k n t h
set_option maxHeartbeats 32000000 in
set_option maxRecDepth 100000 in
theorem clone_step (h' : Nat) (hh : h' ≤ 100) (ih : CcC h') : CcC (h' + 1) := by
  intro k t x y z w hsm hp
  obtain ⟨k', rfl⟩ : ∃ k', k = k' + 1 := by cases k with | zero => exact hsm.elim | succ k => exact ⟨k, rfl⟩
  obtain ⟨hs1, hs2, hs3, hs4, hs5⟩ := hsm
  obtain ⟨⟨nm, rfl, hnm⟩, ⟨la, lc, ms, rfl, lr, hms, _, _, mf⟩, ⟨_, pa, pc, rfl, prow⟩⟩ := hp
  obtain ⟨ln, hln⟩ : ∃ n, ms.length = n := ⟨_, rfl⟩
  obtain ⟨pn, hpn⟩ : ∃ n, t.cs.length = n := ⟨_, rfl⟩
  have HLN : Hid (ms.length = ln) := hln
  have HPN : Hid (t.cs.length = pn) := hpn
  have HMS : Hid (ms.map Lm.ln = t.ls) := hms
  have HNM : Hid (nums nm = t.nm) := hnm
  have HLR : Hid (LRow w la ms) := lr
  have hl60 : ln ≤ 60 := by rw [← hln]; have : t.ls.length = ms.length := by rw [← hms, List.length_map]
                            omega
  have hp70 : pn ≤ 70 := by omega
  have hnz : nm.size ≤ 200 := by rw [← nums_len, hnm]; exact hs1
  have HFIT : Hid (∀ m ∈ ms, FitN m.ln) := fun m hm => hs3 _ (by rw [← hms]; exact List.mem_map.2 ⟨m, hm, rfl⟩)
  have HSM : Hid (∀ q ∈ t.cs, smallT k' q) := hs5
  have HPR : Hid (t.cs = [] ∨ ∃ b off, pa = some ⟨b, off, none⟩ ∧ ∀ (i : Nat) (t_1 : Cp), t.cs[i]? = some t_1 → ∃ x y z, w.cell? ⟨b, off + i * 3, none⟩ = some x ∧ w.cell? ⟨b, off + i * 3 + 1, none⟩ = some y ∧ w.cell? ⟨b, off + i * 3 + 2, none⟩ = some z ∧ CpAt h' w t_1 x y z) := prow
  have HIH : Hid (CcC h') := ih
  rw [hln, hpn]
  obtain ⟨W0, hW0⟩ : ∃ W0, ((w.alloc (.cells #[.string nm, .slice la ln lc, .slice pa pn pc] 25)).alloc (.cells #[.string ⟨#[]⟩, .slice none 0 0, .slice none 0 0] 25)).alloc (.cells #[.string nm, .slice none 0 0, .slice none 0 0] 25) = W0 := ⟨_, rfl⟩
  have hz0 : W0.heap.size = w.heap.size + 3 := by rw [← hW0, World.size_alloc, World.size_alloc, World.size_alloc]
  have hk0 : Below w.heap.size w W0 := by rw [← hW0]; exact ((keep w _).alloc (by simp) _).alloc (by simp; omega) _
  have HK0 : Hid (Below w.heap.size w W0) := hk0
  have HG0 : Hid (Blk W0 w.heap.size #[.string nm, .slice la ln lc, .slice pa pn pc] 25) := by unfold Hid; rw [← hW0]; exact ((Blk.new w _ _).alloc _).alloc _
  have HR0 : Hid (Blk W0 (w.heap.size + 1) #[.string ⟨#[]⟩, .slice none 0 0, .slice none 0 0] 25) := by
    unfold Hid
    have := Blk.new (w.alloc (.cells #[.string nm, .slice la ln lc, .slice pa pn pc] 25)) #[.string ⟨#[]⟩, .slice none 0 0, .slice none 0 0] 25
    rw [World.size_alloc] at this
    rw [← hW0]; exact this.alloc _
  have hKb : Blk W0 (w.heap.size + 1 + 1) #[.string nm, .slice none 0 0, .slice none 0 0] 25 := by
    have := Blk.new ((w.alloc (.cells #[.string nm, .slice la ln lc, .slice pa pn pc] 25)).alloc (.cells #[.string ⟨#[]⟩, .slice none 0 0, .slice none 0 0] 25)) #[.string nm, .slice none 0 0, .slice none 0 0] 25
    rw [World.size_alloc, World.size_alloc] at this
    rw [← hW0]; exact this
  have HC0 : Hid (CJ (w.heap.size + 1 + 1) (w.heap.size + 3) (h' * 1000 + 500) ⟨nm, .slice none 0 0, [], .slice none 0 0, [], []⟩ W0) :=
    ⟨hKb, by omega, by omega, ⟨fun r hr => by simp [Fm.rl, Fm.rc] at hr; rcases hr with rfl | rfl <;> exact World.ownsRow_nil _ _ _ _, by simp [bks, Fm.rl, Fm.rc, Value.ownBlock]⟩, rfl, by show nm.size ≤ _; omega, Nat.zero_le _, Nat.zero_le _, fun m hm => by simp at hm, fun i t x ht => by simp at ht⟩
  have HW0 : Hid (((w.alloc (.cells #[.string nm, .slice la ln lc, .slice pa pn pc] 25)).alloc (.cells #[.string ⟨#[]⟩, .slice none 0 0, .slice none 0 0] 25)).alloc (.cells #[.string nm, .slice none 0 0, .slice none 0 0] 25) = W0) := hW0
  unfold compV
  clear hs1 hs2 hs3 hs4 hs5 hnm lr hms mf prow hln hpn ih hk0 hKb hW0
  go_enter Tryd.func42, Tryd.ntmps42
  go_wp2_with fail
  go_loopw [14] (fun i wr => ∃ (j : Nat) (f : Fm), i = .int .i64 (j : Nat) ∧ j ≤ ln ∧ CJ (w.heap.size + 1 + 1) (w.heap.size + 3) (h' * 1000 + 500) f wr ∧ f.nm = nm ∧ f.vc = .slice none 0 0 ∧ f.ts = [] ∧ f.xs = [] ∧ f.ms.map Lm.ln = t.ls.take j ∧ Tk (fun b => w.heap.size + 1 + 1 ≤ b) W0 wr) (fun i _ => ln - (intOf i).toNat)
  case atStart =>
    rw [HW0.out]
    exact ⟨0, _, rfl, by omega, HC0.out, rfl, rfl, rfl, rfl, by simp, Tk.refl _ _⟩
  case round =>
    obtain ⟨j, f, rfl, hj, hcj, hf1, hf2, hf3, hf4, hf5, ht⟩ := hrel
    have hbw : Below w.heap.size w wr := ⟨ht.1.trans HK0.out.os, ht.2.1.trans HK0.out.tape, ht.2.2.1.trans HK0.out.output, Nat.le_trans HK0.out.size ht.size, fun b hb => (ht.2.2.2.2 b (by omega) (by omega)).trans (HK0.out.block b hb)⟩
    have HBW : Hid (Below w.heap.size w wr) := hbw
    have HT : Hid (Tk (fun b => w.heap.size + 1 + 1 ≤ b) W0 wr) := ht
    have HG : Hid (Blk wr w.heap.size #[.string nm, .slice la ln lc, .slice pa pn pc] 25) := ht.kept HG0.out (by omega)
    have HR : Hid (Blk wr (w.heap.size + 1) #[.string ⟨#[]⟩, .slice none 0 0, .slice none 0 0] 25) := ht.kept HR0.out (by omega)
    obtain ⟨fnm, fvl, fms, fvc, fts, fxs⟩ := f
    simp only at hf1 hf2 hf3 hf4 hf5
    subst hf1 hf2 hf3 hf4
    have HC : Hid (CJ (w.heap.size + 1 + 1) (w.heap.size + 3) (h' * 1000 + 500) ⟨fnm, fvl, fms, .slice none 0 0, [], []⟩ wr) := hcj
    have HF5 : Hid (fms.map Lm.ln = t.ls.take j) := hf5
    have hfl : fms.length = j := by
      have := congrArg List.length hf5
      rw [List.length_map, List.length_take, ← HMS.out, List.length_map, HLN.out] at this
      omega
    have HFL : Hid (fms.length = j) := hfl
    obtain ⟨va, vc, hvl⟩ := row_form (hcj.2.2.2.1.1 (Fm.rl ⟨fnm, fvl, fms, .slice none 0 0, [], []⟩) (by simp))
    simp only [Fm.rl] at hvl
    rw [hfl] at hvl
    subst hvl
    have hlrw := HLR.out.below hbw
    clear ht hcj hf5 hbw hfl
    by_cases hlt : j < ln
    · obtain ⟨mm, hmk⟩ : ∃ mm, ms[j]? = some mm := ⟨_, List.getElem?_eq_getElem (by have := HLN.out; omega)⟩
      rcases hlrw with h | ⟨b, off, rfl, h⟩
      · rw [h] at hmk; simp at hmk
      obtain ⟨⟨c0, c1, c2⟩, hfrow⟩ := h j mm hmk
      have hfn := HFIT.out mm (List.mem_of_getElem? hmk)
      have hft := fit_ln hfn
      have HTK : Hid (t.ls.take (j + 1) = t.ls.take j ++ [mm.ln]) := by
        unfold Hid; rw [List.take_add_one, ← HMS.out, List.getElem?_map, hmk]; rfl
      obtain ⟨mn, mv, ma, mc, gs⟩ := mm
      simp only at c0 c1 c2 hfrow
      obtain ⟨z1, z2, z3, z4⟩ := hft
      simp only at z1 z2 z3
      have HFN : Hid (FitN (Lm.ln ⟨mn, mv, ma, mc, gs⟩)) := hfn
      obtain ⟨gn, hgn⟩ : ∃ n, gs.length = n := ⟨_, rfl⟩
      have HGN : Hid (gs.length = gn) := hgn
      rw [hgn] at c1 z3
      have HFW : Hid (FRow wr ma gs) := hfrow
      obtain ⟨V0, hV0⟩ : ∃ V0, wr.alloc (.cells #[.string mn, .slice ma gn mc, .string mv] 39) = V0 := ⟨_, rfl⟩
      have hkv : Below wr.heap.size wr V0 := by rw [← hV0]; exact keep wr _
      have HKV : Hid (Below wr.heap.size wr V0) := hkv
      have hP0 : Blk V0 wr.heap.size #[.string mn, .slice ma gn mc, .string mv] 39 := by rw [← hV0]; exact Blk.new _ _ _
      obtain ⟨p0, p1, p2⟩ := cells3 hP0
      have HC1 : Hid (CJ (w.heap.size + 1 + 1) (w.heap.size + 3) (h' * 1000 + 500) ⟨fnm, .slice va j vc, fms, .slice none 0 0, [], []⟩ V0) := HC.out.keep hkv
      obtain ⟨k0, k1, k2⟩ := cells3 HC1.out.1
      have hcl := fun V (hV : Below V0.heap.size V0 V) => clone_line mn mv ma gn mc gs V HGN.out (HFW.out.below (hkv.trans (hV.mono hkv.size))) z3
      unfold lineV at hcl
      obtain ⟨PB, hPB⟩ : ∃ PB, wr.heap.size = PB := ⟨_, rfl⟩
      rw [hPB] at p0 p1 p2
      have HP0 : Hid (Blk V0 PB #[.string mn, .slice ma gn mc, .string mv] 39) := by unfold Hid; rw [← hPB]; exact hP0
      have HV0 : Hid (wr.alloc (.cells #[.string mn, .slice ma gn mc, .string mv] 39) = V0) := hV0
      clear h hmk hfrow z4 hgn hfn hkv hP0
      have HOB : Hid (∀ g, g ∈ bks [Fm.rl ⟨fnm, .slice va j vc, fms, .slice none 0 0, [], []⟩, Fm.rc ⟨fnm, .slice va j vc, fms, .slice none 0 0, [], []⟩] → w.heap.size + 3 ≤ g ∧ g < PB) := fun g hg => by have := HC.out.2.2.2.1.lt hg; rw [hPB] at this; exact this
      have hVP : PB < V0.heap.size := HP0.out.lt
      have hPK : w.heap.size + 3 ≤ PB := by have := HC.out.2.2.1; rw [hPB] at this; exact this
      have hcl0 := hcl V0.drew (below_drew (Below.refl _ _))
      obtain ⟨j0, hi, hz0', hz1, hz2⟩ := info_parts Tryd.info39
      clear hcl
      go_wp2
      refine wp_region_held_drew (S := (fun V => V.cell? ⟨PB, 0, none⟩ = some (.string mn) ∧ V.cell? ⟨PB, 1, none⟩ = some (.slice ma gn mc) ∧ V.cell? ⟨PB, 2, none⟩ = some (.string mv))) (by kernel_rfl) (⟨p0, p1, p2⟩) (fun hHeld => ?_)
      refine takeD (some 18) (i := 0) (v := .pointer (some ⟨w.heap.size + 1 + 1, 1, none⟩)) rfl rfl (by kernel_rfl) (by kernel_rfl) (by kernel_rfl) (fun _ _ _ h => h) (Or.inl ⟨by kernel_rfl, ?_⟩) (by assumption) ?_
      · (intro w hSw; (try dsimp only at hSw); go_simp)
      (try simp only [Act.put, List.setIfInBounds_toArray, List.set_cons_zero, List.set_cons_succ])
      refine takeD (some 20) (i := 2) (v := .agg #[.string mn, .slice ma gn mc, .string mv]) rfl rfl (by kernel_rfl) (by kernel_rfl) (by kernel_rfl) (fun _ _ _ h => h) (Or.inl ⟨by kernel_rfl, ?_⟩) (by assumption) ?_
      · (intro w hSw; (try dsimp only at hSw); go_simp)
      (try simp only [Act.put, List.setIfInBounds_toArray, List.set_cons_zero, List.set_cons_succ])
      refine wpAnyH_ready (rs := [1, 3]) (by kernel_rfl) (by simp) ?_
      refine AllReadyH.cons rfl (fun K hK => ?_) (AllReadyH.cons rfl (fun K hK => ?_) AllReadyH.nil)
      · have KF := k1
        go_simp
        refine hK.out _ _ (by assumption) (fun hHeld => ?_)
        clear hK K
        clear KF
        refine wpAnyH_ready (rs := [3]) (by kernel_rfl) (by simp) ?_
        refine AllReadyH.cons rfl (fun K hK => ?_) AllReadyH.nil
        go_simp
        refine hcl0.mono ?_
        rintro e w4 ⟨a4, c4, rfl, hf4, hb4, hx4⟩
        unfold lineV
        rw [HGN.out]
        have hB4 : Below V0.heap.size V0 w4 := (below_drew (Below.refl V0.heap.size V0)).trans (hb4.mono (Nat.le_refl _))
        have hB5 : Below V0.heap.size V0 (w4.alloc (.cells #[.string mn, .slice a4 gn c4, .string mv] 39)) := hB4.trans ((keep w4 _).mono hB4.size)
        have HC5 : Hid (CJ (w.heap.size + 1 + 1) (w.heap.size + 3) (h' * 1000 + 500) ⟨fnm, .slice va j vc, fms, .slice none 0 0, [], []⟩ (w4.alloc (.cells #[.string mn, .slice a4 gn c4, .string mv] 39))) := HC1.out.keep hB5
        have HO5 : Hid ((w4.alloc (.cells #[.string mn, .slice a4 gn c4, .string mv] 39)).ownsRow (w.heap.size + 3) 39 3 (.slice va j vc) j (fms.flatMap cellM)) := by
          have q := HC5.out.2.2.2.1.1 (Fm.rl ⟨fnm, .slice va j vc, fms, .slice none 0 0, [], []⟩) (by simp)
          simp only [Fm.rl, HFL.out] at q
          exact q
        have HNEW : Hid (∀ i u, [Value.string mn, Value.slice a4 gn c4, Value.string mv][i]? = some u → (w4.alloc (.cells #[.string mn, .slice a4 gn c4, .string mv] 39)).cell? ((⟨w4.heap.size, 0, none⟩ : Addr).add i) = some u) := cells_new w4 [Value.string mn, Value.slice a4 gn c4, Value.string mv] 39
        have HSZ : Hid (w.heap.size + 3 ≤ (w4.alloc (.cells #[.string mn, .slice a4 gn c4, .string mv] 39)).heap.size) := HC5.out.2.2.1
        have HF4 : Hid (FRow w4 a4 gs) := hf4
        have HX4 : Hid (∀ x, a4 = some x → V0.heap.size ≤ x.block) := hx4
        have hVZ : V0.heap.size ≤ w4.heap.size := hB4.size
        clear hf4 hb4 hx4
        refine hK.out _ _ (cells3 (HP0.out.below hB4 HP0.out.lt)) (fun hHeld => ?_)
        clear hK K
        refine wpAnyH_ready (rs := [4]) (by kernel_rfl) (by simp) ?_
        refine AllReadyH.cons rfl (fun K hK => ?_) AllReadyH.nil
        go_simp
        refine hK.out _ _ (cells3 (HP0.out.below hB5 HP0.out.lt)) (fun hHeld => ?_)
        clear hK K
        refine wpAnyH_ready (rs := [5]) (by kernel_rfl) (by simp) ?_
        refine AllReadyH.cons rfl (fun K hK => ?_) AllReadyH.nil
        refine step_append_lies _ rfl (.tmp 19) (.tmp 22) 22 rfl (w.heap.size + 3) 39 j0 _ 3 56 Tryd.underlying22 hi hz0' hz1 hz2 rfl (by decide) (.slice va j vc) j (fms.flatMap cellM) rfl HO5.out ⟨w4.heap.size, 0, none⟩ 1 1 [Value.string mn, Value.slice a4 gn c4, Value.string mv] rfl rfl HNEW.out (by intro u hu; simp at hu; rcases hu with rfl | rfl | rfl <;> rfl) (by decide) (by unfold maxLen; omega) (by omega) HSZ.out _ rfl ?_
        intro g7 cap7 w7 hown7 hgrow7 hfr7 hlt7
        have HOWN7 : Hid (w7.ownsRow (w.heap.size + 3) 39 3 (.slice (some ⟨g7, 0, none⟩) (j + 1) cap7) (j + 1) (fms.flatMap cellM ++ [Value.string mn, Value.slice a4 gn c4, Value.string mv])) := hown7
        have HGR7 : Hid ((w4.alloc (.cells #[.string mn, .slice a4 gn c4, .string mv] 39)).grownBy w7 (Value.slice va j vc).ownBlock) := hgrow7
        have HFR7 : Hid ((Value.slice va j vc).ownBlock = some g7 ∨ (w4.alloc (.cells #[.string mn, .slice a4 gn c4, .string mv] 39)).heap.size ≤ g7) := hfr7.imp id (fun q => by rw [q]; exact Nat.le_refl _)
        have hP7 : Blk w7 PB #[.string mn, .slice ma gn mc, .string mv] 39 := (hgrow7.block PB (by rw [World.size_alloc]; omega) (fun q => by have := (HOB.out PB (List.mem_filterMap.2 ⟨Fm.rl ⟨fnm, .slice va j vc, fms, .slice none 0 0, [], []⟩, by simp, q.symm⟩)).2; omega)).trans ((HP0.out.below hB5 HP0.out.lt))
        have hK7 : Blk w7 (w.heap.size + 1 + 1) #[.string fnm, .slice va j vc, .slice none 0 0] 25 := (hgrow7.block (w.heap.size + 1 + 1) HC5.out.1.lt (fun q => by have := (HOB.out _ (List.mem_filterMap.2 ⟨Fm.rl ⟨fnm, .slice va j vc, fms, .slice none 0 0, [], []⟩, by simp, q.symm⟩)).1; omega)).trans HC5.out.1
        clear hown7 hgrow7 hfr7
        refine hK.out _ _ (cells3 hP7) (fun hHeld => ?_)
        clear hK K
        refine takeD (some 24) (i := 6) (v := .pointer (some ⟨w.heap.size + 1 + 1, 1, none⟩)) rfl rfl (by kernel_rfl) (by kernel_rfl) (by kernel_rfl) (fun _ _ _ h => h) (Or.inl ⟨by kernel_rfl, ?_⟩) (by assumption) ?_
        · (intro w hSw; (try dsimp only at hSw); go_simp)
        (try simp only [Act.put, List.setIfInBounds_toArray, List.set_cons_zero, List.set_cons_succ])
        refine wpAnyH_ready (rs := [7]) (by kernel_rfl) (by simp) ?_
        refine AllReadyH.cons rfl (fun K hK => ?_) AllReadyH.nil
        have KK1 := (cells3 hK7).2.1
        have KF1 := hK7.frozen 1
        have hP8 : Blk (w7.setCell ⟨w.heap.size + 1 + 1, 1, none⟩ (.slice (some ⟨g7, 0, none⟩) (j + 1) cap7)) PB #[.string mn, .slice ma gn mc, .string mv] 39 := hP7.other (by omega) _
        go_simp
        refine hK.out _ _ (cells3 hP8) (fun hHeld => ?_)
        clear hK K
        refine wpAnyH_done (by kernel_rfl) ?_ _
        have hln := CJ.line (g := g7) (m := ⟨mn, mv, a4, c4, gs⟩) (v' := .slice (some ⟨g7, 0, none⟩) (j + 1) cap7) HC5.out (by simp only; have := HFL.out; omega) HFN.out (by simp only; have := HGN.out; omega) (fun X hX => (HF4.out.below (keep w4 _)).tk2 hX (fun x q => by
          have h1 := HX4.out x q
          rintro (h2 | h2)
          · omega
          · have := (HOB.out _ h2).2; omega)) HGR7.out (by simp only [cellM, HFL.out, HGN.out]; exact HOWN7.out) rfl HFR7.out
        have HC8 : Hid (CJ (w.heap.size + 1 + 1) (w.heap.size + 3) (h' * 1000 + 500) ⟨fnm, .slice (some ⟨g7, 0, none⟩) (j + 1) cap7, fms ++ [⟨mn, mv, a4, c4, gs⟩], .slice none 0 0, [], []⟩ (w7.setCell ⟨w.heap.size + 1 + 1, 1, none⟩ (.slice (some ⟨g7, 0, none⟩) (j + 1) cap7))) := hln.1
        have HT8 : Hid (Tk (fun b => w.heap.size + 1 + 1 ≤ b) W0 (w7.setCell ⟨w.heap.size + 1 + 1, 1, none⟩ (.slice (some ⟨g7, 0, none⟩) (j + 1) cap7))) := HT.out.trans (((Tk.of_below (O := fun b => w.heap.size + 1 + 1 ≤ b) (HKV.out.trans (hB5.mono HKV.out.size)))).trans ((Tk.refl (fun _ => False) _).two hln.2 (fun _ _ q => q.elim) (fun b _ q => by
          rcases q with q | q
          · omega
          · have := (HOB.out _ q).1; omega)))
        clear hln hP7 hK7 hP8 KK1 KF1 hB4 hB5 HGR7 HFR7
        go_wp2
        go_roundw
        case rel => exact ⟨j + 1, _, by go_num, by omega, HC8.out, rfl, rfl, rfl, rfl, by rw [List.map_append, HF5.out, HTK.out]; rfl, HT8.out⟩
        case measure => simp [intOf]; omega
      · go_simp
        refine hcl0.mono ?_
        rintro e w4 ⟨a4, c4, rfl, hf4, hb4, hx4⟩
        unfold lineV
        rw [HGN.out]
        have hB4 : Below V0.heap.size V0 w4 := (below_drew (Below.refl V0.heap.size V0)).trans (hb4.mono (Nat.le_refl _))
        have hB5 : Below V0.heap.size V0 (w4.alloc (.cells #[.string mn, .slice a4 gn c4, .string mv] 39)) := hB4.trans ((keep w4 _).mono hB4.size)
        have HC5 : Hid (CJ (w.heap.size + 1 + 1) (w.heap.size + 3) (h' * 1000 + 500) ⟨fnm, .slice va j vc, fms, .slice none 0 0, [], []⟩ (w4.alloc (.cells #[.string mn, .slice a4 gn c4, .string mv] 39))) := HC1.out.keep hB5
        have HO5 : Hid ((w4.alloc (.cells #[.string mn, .slice a4 gn c4, .string mv] 39)).ownsRow (w.heap.size + 3) 39 3 (.slice va j vc) j (fms.flatMap cellM)) := by
          have q := HC5.out.2.2.2.1.1 (Fm.rl ⟨fnm, .slice va j vc, fms, .slice none 0 0, [], []⟩) (by simp)
          simp only [Fm.rl, HFL.out] at q
          exact q
        have HNEW : Hid (∀ i u, [Value.string mn, Value.slice a4 gn c4, Value.string mv][i]? = some u → (w4.alloc (.cells #[.string mn, .slice a4 gn c4, .string mv] 39)).cell? ((⟨w4.heap.size, 0, none⟩ : Addr).add i) = some u) := cells_new w4 [Value.string mn, Value.slice a4 gn c4, Value.string mv] 39
        have HSZ : Hid (w.heap.size + 3 ≤ (w4.alloc (.cells #[.string mn, .slice a4 gn c4, .string mv] 39)).heap.size) := HC5.out.2.2.1
        have HF4 : Hid (FRow w4 a4 gs) := hf4
        have HX4 : Hid (∀ x, a4 = some x → V0.heap.size ≤ x.block) := hx4
        have hVZ : V0.heap.size ≤ w4.heap.size := hB4.size
        clear hf4 hb4 hx4
        refine hK.out _ _ (cells3 (HP0.out.below hB4 HP0.out.lt)) (fun hHeld => ?_)
        clear hK K
        refine wpAnyH_ready (rs := [1, 4]) (by kernel_rfl) (by simp) ?_
        refine AllReadyH.cons rfl (fun K hK => ?_) (AllReadyH.cons rfl (fun K hK => ?_) AllReadyH.nil)
        · have KF := cell_keep hB4 k1
          go_simp
          refine hK.out _ _ (by assumption) (fun hHeld => ?_)
          clear hK K
          clear KF
          refine wpAnyH_ready (rs := [4]) (by kernel_rfl) (by simp) ?_
          refine AllReadyH.cons rfl (fun K hK => ?_) AllReadyH.nil
          go_simp
          refine hK.out _ _ (cells3 (HP0.out.below hB5 HP0.out.lt)) (fun hHeld => ?_)
          clear hK K
          refine wpAnyH_ready (rs := [5]) (by kernel_rfl) (by simp) ?_
          refine AllReadyH.cons rfl (fun K hK => ?_) AllReadyH.nil
          refine step_append_lies _ rfl (.tmp 19) (.tmp 22) 22 rfl (w.heap.size + 3) 39 j0 _ 3 56 Tryd.underlying22 hi hz0' hz1 hz2 rfl (by decide) (.slice va j vc) j (fms.flatMap cellM) rfl HO5.out ⟨w4.heap.size, 0, none⟩ 1 1 [Value.string mn, Value.slice a4 gn c4, Value.string mv] rfl rfl HNEW.out (by intro u hu; simp at hu; rcases hu with rfl | rfl | rfl <;> rfl) (by decide) (by unfold maxLen; omega) (by omega) HSZ.out _ rfl ?_
          intro g7 cap7 w7 hown7 hgrow7 hfr7 hlt7
          have HOWN7 : Hid (w7.ownsRow (w.heap.size + 3) 39 3 (.slice (some ⟨g7, 0, none⟩) (j + 1) cap7) (j + 1) (fms.flatMap cellM ++ [Value.string mn, Value.slice a4 gn c4, Value.string mv])) := hown7
          have HGR7 : Hid ((w4.alloc (.cells #[.string mn, .slice a4 gn c4, .string mv] 39)).grownBy w7 (Value.slice va j vc).ownBlock) := hgrow7
          have HFR7 : Hid ((Value.slice va j vc).ownBlock = some g7 ∨ (w4.alloc (.cells #[.string mn, .slice a4 gn c4, .string mv] 39)).heap.size ≤ g7) := hfr7.imp id (fun q => by rw [q]; exact Nat.le_refl _)
          have hP7 : Blk w7 PB #[.string mn, .slice ma gn mc, .string mv] 39 := (hgrow7.block PB (by rw [World.size_alloc]; omega) (fun q => by have := (HOB.out PB (List.mem_filterMap.2 ⟨Fm.rl ⟨fnm, .slice va j vc, fms, .slice none 0 0, [], []⟩, by simp, q.symm⟩)).2; omega)).trans ((HP0.out.below hB5 HP0.out.lt))
          have hK7 : Blk w7 (w.heap.size + 1 + 1) #[.string fnm, .slice va j vc, .slice none 0 0] 25 := (hgrow7.block (w.heap.size + 1 + 1) HC5.out.1.lt (fun q => by have := (HOB.out _ (List.mem_filterMap.2 ⟨Fm.rl ⟨fnm, .slice va j vc, fms, .slice none 0 0, [], []⟩, by simp, q.symm⟩)).1; omega)).trans HC5.out.1
          clear hown7 hgrow7 hfr7
          refine hK.out _ _ (cells3 hP7) (fun hHeld => ?_)
          clear hK K
          refine takeD (some 24) (i := 6) (v := .pointer (some ⟨w.heap.size + 1 + 1, 1, none⟩)) rfl rfl (by kernel_rfl) (by kernel_rfl) (by kernel_rfl) (fun _ _ _ h => h) (Or.inl ⟨by kernel_rfl, ?_⟩) (by assumption) ?_
          · (intro w hSw; (try dsimp only at hSw); go_simp)
          (try simp only [Act.put, List.setIfInBounds_toArray, List.set_cons_zero, List.set_cons_succ])
          refine wpAnyH_ready (rs := [7]) (by kernel_rfl) (by simp) ?_
          refine AllReadyH.cons rfl (fun K hK => ?_) AllReadyH.nil
          have KK1 := (cells3 hK7).2.1
          have KF1 := hK7.frozen 1
          have hP8 : Blk (w7.setCell ⟨w.heap.size + 1 + 1, 1, none⟩ (.slice (some ⟨g7, 0, none⟩) (j + 1) cap7)) PB #[.string mn, .slice ma gn mc, .string mv] 39 := hP7.other (by omega) _
          go_simp
          refine hK.out _ _ (cells3 hP8) (fun hHeld => ?_)
          clear hK K
          refine wpAnyH_done (by kernel_rfl) ?_ _
          have hln := CJ.line (g := g7) (m := ⟨mn, mv, a4, c4, gs⟩) (v' := .slice (some ⟨g7, 0, none⟩) (j + 1) cap7) HC5.out (by simp only; have := HFL.out; omega) HFN.out (by simp only; have := HGN.out; omega) (fun X hX => (HF4.out.below (keep w4 _)).tk2 hX (fun x q => by
            have h1 := HX4.out x q
            rintro (h2 | h2)
            · omega
            · have := (HOB.out _ h2).2; omega)) HGR7.out (by simp only [cellM, HFL.out, HGN.out]; exact HOWN7.out) rfl HFR7.out
          have HC8 : Hid (CJ (w.heap.size + 1 + 1) (w.heap.size + 3) (h' * 1000 + 500) ⟨fnm, .slice (some ⟨g7, 0, none⟩) (j + 1) cap7, fms ++ [⟨mn, mv, a4, c4, gs⟩], .slice none 0 0, [], []⟩ (w7.setCell ⟨w.heap.size + 1 + 1, 1, none⟩ (.slice (some ⟨g7, 0, none⟩) (j + 1) cap7))) := hln.1
          have HT8 : Hid (Tk (fun b => w.heap.size + 1 + 1 ≤ b) W0 (w7.setCell ⟨w.heap.size + 1 + 1, 1, none⟩ (.slice (some ⟨g7, 0, none⟩) (j + 1) cap7))) := HT.out.trans (((Tk.of_below (O := fun b => w.heap.size + 1 + 1 ≤ b) (HKV.out.trans (hB5.mono HKV.out.size)))).trans ((Tk.refl (fun _ => False) _).two hln.2 (fun _ _ q => q.elim) (fun b _ q => by
            rcases q with q | q
            · omega
            · have := (HOB.out _ q).1; omega)))
          clear hln hP7 hK7 hP8 KK1 KF1 hB4 hB5 HGR7 HFR7
          go_wp2
          go_roundw
          case rel => exact ⟨j + 1, _, by go_num, by omega, HC8.out, rfl, rfl, rfl, rfl, by rw [List.map_append, HF5.out, HTK.out]; rfl, HT8.out⟩
          case measure => simp [intOf]; omega
        · go_simp
          refine hK.out _ _ (cells3 (HP0.out.below hB5 HP0.out.lt)) (fun hHeld => ?_)
          clear hK K
          refine wpAnyH_ready (rs := [1]) (by kernel_rfl) (by simp) ?_
          refine AllReadyH.cons rfl (fun K hK => ?_) AllReadyH.nil
          have KF := cell_keep hB5 k1
          go_simp
          refine hK.out _ _ (by assumption) (fun hHeld => ?_)
          clear hK K
          clear KF
          refine wpAnyH_ready (rs := [5]) (by kernel_rfl) (by simp) ?_
          refine AllReadyH.cons rfl (fun K hK => ?_) AllReadyH.nil
          refine step_append_lies _ rfl (.tmp 19) (.tmp 22) 22 rfl (w.heap.size + 3) 39 j0 _ 3 56 Tryd.underlying22 hi hz0' hz1 hz2 rfl (by decide) (.slice va j vc) j (fms.flatMap cellM) rfl HO5.out ⟨w4.heap.size, 0, none⟩ 1 1 [Value.string mn, Value.slice a4 gn c4, Value.string mv] rfl rfl HNEW.out (by intro u hu; simp at hu; rcases hu with rfl | rfl | rfl <;> rfl) (by decide) (by unfold maxLen; omega) (by omega) HSZ.out _ rfl ?_
          intro g7 cap7 w7 hown7 hgrow7 hfr7 hlt7
          have HOWN7 : Hid (w7.ownsRow (w.heap.size + 3) 39 3 (.slice (some ⟨g7, 0, none⟩) (j + 1) cap7) (j + 1) (fms.flatMap cellM ++ [Value.string mn, Value.slice a4 gn c4, Value.string mv])) := hown7
          have HGR7 : Hid ((w4.alloc (.cells #[.string mn, .slice a4 gn c4, .string mv] 39)).grownBy w7 (Value.slice va j vc).ownBlock) := hgrow7
          have HFR7 : Hid ((Value.slice va j vc).ownBlock = some g7 ∨ (w4.alloc (.cells #[.string mn, .slice a4 gn c4, .string mv] 39)).heap.size ≤ g7) := hfr7.imp id (fun q => by rw [q]; exact Nat.le_refl _)
          have hP7 : Blk w7 PB #[.string mn, .slice ma gn mc, .string mv] 39 := (hgrow7.block PB (by rw [World.size_alloc]; omega) (fun q => by have := (HOB.out PB (List.mem_filterMap.2 ⟨Fm.rl ⟨fnm, .slice va j vc, fms, .slice none 0 0, [], []⟩, by simp, q.symm⟩)).2; omega)).trans ((HP0.out.below hB5 HP0.out.lt))
          have hK7 : Blk w7 (w.heap.size + 1 + 1) #[.string fnm, .slice va j vc, .slice none 0 0] 25 := (hgrow7.block (w.heap.size + 1 + 1) HC5.out.1.lt (fun q => by have := (HOB.out _ (List.mem_filterMap.2 ⟨Fm.rl ⟨fnm, .slice va j vc, fms, .slice none 0 0, [], []⟩, by simp, q.symm⟩)).1; omega)).trans HC5.out.1
          clear hown7 hgrow7 hfr7
          refine hK.out _ _ (cells3 hP7) (fun hHeld => ?_)
          clear hK K
          refine takeD (some 24) (i := 6) (v := .pointer (some ⟨w.heap.size + 1 + 1, 1, none⟩)) rfl rfl (by kernel_rfl) (by kernel_rfl) (by kernel_rfl) (fun _ _ _ h => h) (Or.inl ⟨by kernel_rfl, ?_⟩) (by assumption) ?_
          · (intro w hSw; (try dsimp only at hSw); go_simp)
          (try simp only [Act.put, List.setIfInBounds_toArray, List.set_cons_zero, List.set_cons_succ])
          refine wpAnyH_ready (rs := [7]) (by kernel_rfl) (by simp) ?_
          refine AllReadyH.cons rfl (fun K hK => ?_) AllReadyH.nil
          have KK1 := (cells3 hK7).2.1
          have KF1 := hK7.frozen 1
          have hP8 : Blk (w7.setCell ⟨w.heap.size + 1 + 1, 1, none⟩ (.slice (some ⟨g7, 0, none⟩) (j + 1) cap7)) PB #[.string mn, .slice ma gn mc, .string mv] 39 := hP7.other (by omega) _
          go_simp
          refine hK.out _ _ (cells3 hP8) (fun hHeld => ?_)
          clear hK K
          refine wpAnyH_done (by kernel_rfl) ?_ _
          have hln := CJ.line (g := g7) (m := ⟨mn, mv, a4, c4, gs⟩) (v' := .slice (some ⟨g7, 0, none⟩) (j + 1) cap7) HC5.out (by simp only; have := HFL.out; omega) HFN.out (by simp only; have := HGN.out; omega) (fun X hX => (HF4.out.below (keep w4 _)).tk2 hX (fun x q => by
            have h1 := HX4.out x q
            rintro (h2 | h2)
            · omega
            · have := (HOB.out _ h2).2; omega)) HGR7.out (by simp only [cellM, HFL.out, HGN.out]; exact HOWN7.out) rfl HFR7.out
          have HC8 : Hid (CJ (w.heap.size + 1 + 1) (w.heap.size + 3) (h' * 1000 + 500) ⟨fnm, .slice (some ⟨g7, 0, none⟩) (j + 1) cap7, fms ++ [⟨mn, mv, a4, c4, gs⟩], .slice none 0 0, [], []⟩ (w7.setCell ⟨w.heap.size + 1 + 1, 1, none⟩ (.slice (some ⟨g7, 0, none⟩) (j + 1) cap7))) := hln.1
          have HT8 : Hid (Tk (fun b => w.heap.size + 1 + 1 ≤ b) W0 (w7.setCell ⟨w.heap.size + 1 + 1, 1, none⟩ (.slice (some ⟨g7, 0, none⟩) (j + 1) cap7))) := HT.out.trans (((Tk.of_below (O := fun b => w.heap.size + 1 + 1 ≤ b) (HKV.out.trans (hB5.mono HKV.out.size)))).trans ((Tk.refl (fun _ => False) _).two hln.2 (fun _ _ q => q.elim) (fun b _ q => by
            rcases q with q | q
            · omega
            · have := (HOB.out _ q).1; omega)))
          clear hln hP7 hK7 hP8 KK1 KF1 hB4 hB5 HGR7 HFR7
          go_wp2
          go_roundw
          case rel => exact ⟨j + 1, _, by go_num, by omega, HC8.out, rfl, rfl, rfl, rfl, by rw [List.map_append, HF5.out, HTK.out]; rfl, HT8.out⟩
          case measure => simp [intOf]; omega
    · obtain rfl : j = ln := by omega
      have HALL : Hid (fms.map Lm.ln = t.ls) := by
        unfold Hid; rw [HF5.out, List.take_of_length_le]; rw [← HMS.out, List.length_map, HLN.out]; exact Nat.le_refl _
      obtain ⟨g0, g1, g2⟩ := cells3 HG.out
      clear hlrw
      go_wp2_with fail
      go_loopw [29] (fun i wr => ∃ (j : Nat) (f : Fm), i = .int .i64 (j : Nat) ∧ j ≤ pn ∧ CJ (w.heap.size + 1 + 1) (w.heap.size + 3) (h' * 1000 + 500) f wr ∧ f.nm = fnm ∧ f.ms.map Lm.ln = t.ls ∧ f.ts = t.cs.take j ∧ Tk (fun b => w.heap.size + 1 + 1 ≤ b) W0 wr) (fun i _ => pn - (intOf i).toNat)
      case atStart => exact ⟨0, _, rfl, by omega, HC.out, rfl, HALL.out, by simp, HT.out⟩
      case round =>
        clear HC HF5 HFL HT HG HR HBW g0 g1 g2 HALL
        rename_i wr0 _
        obtain ⟨j, f, rfl, hj, hcj, hf1, hf5, hf6, ht⟩ := hrel
        have hbw : Below w.heap.size w wr := ⟨ht.1.trans HK0.out.os, ht.2.1.trans HK0.out.tape, ht.2.2.1.trans HK0.out.output, Nat.le_trans HK0.out.size ht.size, fun b hb => (ht.2.2.2.2 b (by omega) (by omega)).trans (HK0.out.block b hb)⟩
        have HBW : Hid (Below w.heap.size w wr) := hbw
        have HT : Hid (Tk (fun b => w.heap.size + 1 + 1 ≤ b) W0 wr) := ht
        have HR : Hid (Blk wr (w.heap.size + 1) #[.string ⟨#[]⟩, .slice none 0 0, .slice none 0 0] 25) := ht.kept HR0.out (by omega)
        obtain ⟨fnm', fvl, fms', fvc, fts, fxs⟩ := f
        simp only at hf1 hf5 hf6
        subst hf1
        have HC : Hid (CJ (w.heap.size + 1 + 1) (w.heap.size + 3) (h' * 1000 + 500) ⟨fnm', fvl, fms', fvc, fts, fxs⟩ wr) := hcj
        have HF5 : Hid (fms'.map Lm.ln = t.ls) := hf5
        have HF6 : Hid (fts = t.cs.take j) := hf6
        have hfl : fts.length = j := by rw [hf6, List.length_take, HPN.out]; omega
        have HFL : Hid (fts.length = j) := hfl
        obtain ⟨va, vc, hvc⟩ := row_form (hcj.2.2.2.1.1 (Fm.rc ⟨fnm', fvl, fms', fvc, fts, fxs⟩) (by simp))
        simp only [Fm.rc] at hvc
        rw [hfl] at hvc
        subst hvc
        obtain ⟨va', vc', hvl⟩ := row_form (hcj.2.2.2.1.1 (Fm.rl ⟨fnm', fvl, fms', .slice va j vc, fts, fxs⟩) (by simp))
        simp only [Fm.rl] at hvl
        clear ht hcj hf5 hf6 hbw hfl
        by_cases hlt : j < pn
        · obtain ⟨u, hu⟩ : ∃ u, t.cs[j]? = some u := ⟨_, List.getElem?_eq_getElem (by have := HPN.out; omega)⟩
          rcases HPR.out with h0 | ⟨b1, o1, rfl, gg⟩
          · rw [h0] at hu; simp at hu
          obtain ⟨x1, y1, z1, e1, e2, e3, e4⟩ := gg j u hu
          have e5 := CpAt.below HBW.out _ _ _ _ _ e4
          have e1 := cell_keep HBW.out e1
          have e2 := cell_keep HBW.out e2
          have e3 := cell_keep HBW.out e3
          have HTK : Hid (t.cs.take (j + 1) = t.cs.take j ++ [u]) := by unfold Hid; rw [List.take_add_one, hu]; rfl
          have hsu := HSM.out u (List.mem_of_getElem? hu)
          have HFU : Hid (∀ k, FitC k u) := small_all hsu
          obtain ⟨⟨un, rfl, _⟩, ⟨ua, ul, uc, rfl⟩, ⟨ta, tl, tc, rfl⟩⟩ := cp_form e5
          obtain ⟨V0, hV0⟩ : ∃ V0, wr.alloc (.cells #[.string un, .slice ua ul uc, .slice ta tl tc] 25) = V0 := ⟨_, rfl⟩
          have hkv : Below wr.heap.size wr V0 := by rw [← hV0]; exact keep wr _
          have HKV : Hid (Below wr.heap.size wr V0) := hkv
          have hP0 : Blk V0 wr.heap.size #[.string un, .slice ua ul uc, .slice ta tl tc] 25 := by rw [← hV0]; exact Blk.new _ _ _
          obtain ⟨p0, p1, p2⟩ := cells3 hP0
          have HC1 : Hid (CJ (w.heap.size + 1 + 1) (w.heap.size + 3) (h' * 1000 + 500) ⟨fnm', fvl, fms', .slice va j vc, fts, fxs⟩ V0) := HC.out.keep hkv
          obtain ⟨k0, k1, k2⟩ := cells3 HC1.out.1
          have hcl0 := HIH.out k' u _ _ _ V0.drew hsu (CpAt.below (hkv.trans ((below_drew (Below.refl V0.heap.size V0)).mono hkv.size)) _ _ _ _ _ e5)
          unfold compV at hcl0
          obtain ⟨PB, hPB⟩ : ∃ PB, wr.heap.size = PB := ⟨_, rfl⟩
          rw [hPB] at p0 p1 p2
          have HP0 : Hid (Blk V0 PB #[.string un, .slice ua ul uc, .slice ta tl tc] 25) := by unfold Hid; rw [← hPB]; exact hP0
          have HOB : Hid (∀ g, g ∈ bks [Fm.rl ⟨fnm', fvl, fms', .slice va j vc, fts, fxs⟩, Fm.rc ⟨fnm', fvl, fms', .slice va j vc, fts, fxs⟩] → w.heap.size + 3 ≤ g ∧ g < PB) := fun g hg => by have := HC.out.2.2.2.1.lt hg; rw [hPB] at this; exact this
          have hVP : PB < V0.heap.size := HP0.out.lt
          have hPK : w.heap.size + 3 ≤ PB := by have := HC.out.2.2.1; rw [hPB] at this; exact this
          obtain ⟨j0, hi, hz0', hz1, hz2⟩ := info_parts Tryd.info25
          clear e4 e5 gg hu hkv hP0 hsu
          go_wp2
          refine wp_region_held_drew (S := (fun V => V.cell? ⟨PB, 0, none⟩ = some (.string un) ∧ V.cell? ⟨PB, 1, none⟩ = some (.slice ua ul uc) ∧ V.cell? ⟨PB, 2, none⟩ = some (.slice ta tl tc))) (by kernel_rfl) (⟨p0, p1, p2⟩) (fun hHeld => ?_)
          refine takeD (some 33) (i := 0) (v := .pointer (some ⟨w.heap.size + 1 + 1, 2, none⟩)) rfl rfl (by kernel_rfl) (by kernel_rfl) (by kernel_rfl) (fun _ _ _ h => h) (Or.inl ⟨by kernel_rfl, ?_⟩) (by assumption) ?_
          · (intro w hSw; (try dsimp only at hSw); go_simp)
          (try simp only [Act.put, List.setIfInBounds_toArray, List.set_cons_zero, List.set_cons_succ])
          refine takeD (some 35) (i := 2) (v := .agg #[.string un, .slice ua ul uc, .slice ta tl tc]) rfl rfl (by kernel_rfl) (by kernel_rfl) (by kernel_rfl) (fun _ _ _ h => h) (Or.inl ⟨by kernel_rfl, ?_⟩) (by assumption) ?_
          · (intro w hSw; (try dsimp only at hSw); go_simp)
          (try simp only [Act.put, List.setIfInBounds_toArray, List.set_cons_zero, List.set_cons_succ])
          refine wpAnyH_ready (rs := [1, 3]) (by kernel_rfl) (by simp) ?_
          refine AllReadyH.cons rfl (fun K hK => ?_) (AllReadyH.cons rfl (fun K hK => ?_) AllReadyH.nil)
          · have KF := k2
            go_simp
            refine hK.out _ _ (by assumption) (fun hHeld => ?_)
            clear hK K
            clear KF
            refine wpAnyH_ready (rs := [3]) (by kernel_rfl) (by simp) ?_
            refine AllReadyH.cons rfl (fun K hK => ?_) AllReadyH.nil
            go_simp
            refine hcl0.mono ?_
            rintro e w4 ⟨x4, y4, z4, rfl, hb4, hst4⟩
            obtain ⟨⟨xn, rfl, _⟩, ⟨xa, xl, xc, rfl⟩, ⟨za, zl, zc, rfl⟩⟩ := cp_form hst4.now
            unfold compV
            have hB4 : Below V0.heap.size V0 w4 := (below_drew (Below.refl V0.heap.size V0)).trans (hb4.mono (Nat.le_refl _))
            have hB5 : Below V0.heap.size V0 (w4.alloc (.cells #[.string xn, .slice xa xl xc, .slice za zl zc] 25)) := hB4.trans ((keep w4 _).mono hB4.size)
            have HC5 : Hid (CJ (w.heap.size + 1 + 1) (w.heap.size + 3) (h' * 1000 + 500) ⟨fnm', fvl, fms', .slice va j vc, fts, fxs⟩ (w4.alloc (.cells #[.string xn, .slice xa xl xc, .slice za zl zc] 25))) := HC1.out.keep hB5
            have HO5 : Hid ((w4.alloc (.cells #[.string xn, .slice xa xl xc, .slice za zl zc] 25)).ownsRow (w.heap.size + 3) 25 3 (.slice va j vc) j (fxs.flatMap cell3)) := by
              have q := HC5.out.2.2.2.1.1 (Fm.rc ⟨fnm', fvl, fms', .slice va j vc, fts, fxs⟩) (by simp)
              simp only [Fm.rc, HFL.out] at q
              exact q
            have HNEW : Hid (∀ i u, [Value.string xn, Value.slice xa xl xc, Value.slice za zl zc][i]? = some u → (w4.alloc (.cells #[.string xn, .slice xa xl xc, .slice za zl zc] 25)).cell? ((⟨w4.heap.size, 0, none⟩ : Addr).add i) = some u) := cells_new w4 [Value.string xn, Value.slice xa xl xc, Value.slice za zl zc] 25
            have HSZ : Hid (w.heap.size + 3 ≤ (w4.alloc (.cells #[.string xn, .slice xa xl xc, .slice za zl zc] 25)).heap.size) := HC5.out.2.2.1
            have HST4 : Hid (Stay (fun b => b < V0.heap.size) (w4.alloc (.cells #[.string xn, .slice xa xl xc, .slice za zl zc] 25)) (fun W => CpAt (h' * 1000) W u (.string xn) (.slice xa xl xc) (.slice za zl zc))) := hst4.go (Tk.of_below (O := fun _ => False) (keep w4 _)) (fun _ _ q => q.elim) (fun _ _ q => q)
            have hVZ : V0.heap.size ≤ w4.heap.size := hB4.size
            clear hst4 hb4
            refine hK.out _ _ (cells3 (HP0.out.below hB4 HP0.out.lt)) (fun hHeld => ?_)
            clear hK K
            refine wpAnyH_ready (rs := [4]) (by kernel_rfl) (by simp) ?_
            refine AllReadyH.cons rfl (fun K hK => ?_) AllReadyH.nil
            go_simp
            refine hK.out _ _ (cells3 (HP0.out.below hB5 HP0.out.lt)) (fun hHeld => ?_)
            clear hK K
            refine wpAnyH_ready (rs := [5]) (by kernel_rfl) (by simp) ?_
            refine AllReadyH.cons rfl (fun K hK => ?_) AllReadyH.nil
            refine step_append_lies _ rfl (.tmp 34) (.tmp 37) 23 rfl (w.heap.size + 3) 25 j0 _ 3 64 Tryd.underlying23 hi hz0' hz1 hz2 rfl (by decide) (.slice va j vc) j (fxs.flatMap cell3) rfl HO5.out ⟨w4.heap.size, 0, none⟩ 1 1 [Value.string xn, Value.slice xa xl xc, Value.slice za zl zc] rfl rfl HNEW.out (by intro u hu; simp at hu; rcases hu with rfl | rfl | rfl <;> rfl) (by decide) (by unfold maxLen; omega) (by omega) HSZ.out _ rfl ?_
            intro g7 cap7 w7 hown7 hgrow7 hfr7 hlt7
            have HOWN7 : Hid (w7.ownsRow (w.heap.size + 3) 25 3 (.slice (some ⟨g7, 0, none⟩) (j + 1) cap7) (j + 1) (fxs.flatMap cell3 ++ [Value.string xn, Value.slice xa xl xc, Value.slice za zl zc])) := hown7
            have HGR7 : Hid ((w4.alloc (.cells #[.string xn, .slice xa xl xc, .slice za zl zc] 25)).grownBy w7 (Value.slice va j vc).ownBlock) := hgrow7
            have HFR7 : Hid ((Value.slice va j vc).ownBlock = some g7 ∨ (w4.alloc (.cells #[.string xn, .slice xa xl xc, .slice za zl zc] 25)).heap.size ≤ g7) := hfr7.imp id (fun q => by rw [q]; exact Nat.le_refl _)
            have hP7 : Blk w7 PB #[.string un, .slice ua ul uc, .slice ta tl tc] 25 := (hgrow7.block PB (by rw [World.size_alloc]; omega) (fun q => by have := (HOB.out PB (List.mem_filterMap.2 ⟨Fm.rc ⟨fnm', fvl, fms', .slice va j vc, fts, fxs⟩, by simp, q.symm⟩)).2; omega)).trans ((HP0.out.below hB5 HP0.out.lt))
            have hK7 : Blk w7 (w.heap.size + 1 + 1) #[.string fnm', fvl, .slice va j vc] 25 := (hgrow7.block (w.heap.size + 1 + 1) HC5.out.1.lt (fun q => by have := (HOB.out _ (List.mem_filterMap.2 ⟨Fm.rc ⟨fnm', fvl, fms', .slice va j vc, fts, fxs⟩, by simp, q.symm⟩)).1; omega)).trans HC5.out.1
            clear hown7 hgrow7 hfr7
            refine hK.out _ _ (cells3 hP7) (fun hHeld => ?_)
            clear hK K
            refine takeD (some 39) (i := 6) (v := .pointer (some ⟨w.heap.size + 1 + 1, 2, none⟩)) rfl rfl (by kernel_rfl) (by kernel_rfl) (by kernel_rfl) (fun _ _ _ h => h) (Or.inl ⟨by kernel_rfl, ?_⟩) (by assumption) ?_
            · (intro w hSw; (try dsimp only at hSw); go_simp)
            (try simp only [Act.put, List.setIfInBounds_toArray, List.set_cons_zero, List.set_cons_succ])
            refine wpAnyH_ready (rs := [7]) (by kernel_rfl) (by simp) ?_
            refine AllReadyH.cons rfl (fun K hK => ?_) AllReadyH.nil
            have KK1 := (cells3 hK7).2.2
            have KF1 := hK7.frozen 2
            have hP8 : Blk (w7.setCell ⟨w.heap.size + 1 + 1, 2, none⟩ (.slice (some ⟨g7, 0, none⟩) (j + 1) cap7)) PB #[.string un, .slice ua ul uc, .slice ta tl tc] 25 := hP7.other (by omega) _
            go_simp
            refine hK.out _ _ (cells3 hP8) (fun hHeld => ?_)
            clear hK K
            refine wpAnyH_done (by kernel_rfl) ?_ _
            have hln := CJ.comp (g := g7) (t := u) (x := (Value.string xn, Value.slice xa xl xc, Value.slice za zl zc)) (v' := .slice (some ⟨g7, 0, none⟩) (j + 1) cap7) HC5.out (by simp only; have := HFL.out; omega) HFU.out (fun X hX => CpAt.up (h' * 1000) (h' * 1000 + 500) _ _ _ _ (by omega) (HST4.out X ((Tk.refl (fun _ => False) _).two hX (fun _ _ q => q.elim) (fun b _ q => by
              rcases q with q | q
              · omega
              · have := (HOB.out _ q).2; omega)))) HGR7.out (by simp only [HFL.out]; exact HOWN7.out) rfl HFR7.out
            have HC8 : Hid (CJ (w.heap.size + 1 + 1) (w.heap.size + 3) (h' * 1000 + 500) ⟨fnm', fvl, fms', .slice (some ⟨g7, 0, none⟩) (j + 1) cap7, fts ++ [u], fxs ++ [(Value.string xn, Value.slice xa xl xc, Value.slice za zl zc)]⟩ (w7.setCell ⟨w.heap.size + 1 + 1, 2, none⟩ (.slice (some ⟨g7, 0, none⟩) (j + 1) cap7))) := hln.1
            have HT8 : Hid (Tk (fun b => w.heap.size + 1 + 1 ≤ b) W0 (w7.setCell ⟨w.heap.size + 1 + 1, 2, none⟩ (.slice (some ⟨g7, 0, none⟩) (j + 1) cap7))) := HT.out.trans (((Tk.of_below (O := fun b => w.heap.size + 1 + 1 ≤ b) (HKV.out.trans (hB5.mono HKV.out.size)))).trans ((Tk.refl (fun _ => False) _).two hln.2 (fun _ _ q => q.elim) (fun b _ q => by
              rcases q with q | q
              · omega
              · have := (HOB.out _ q).1; omega)))
            clear hln hP7 hK7 hP8 KK1 KF1 hB4 hB5 HGR7 HFR7
            go_wp2
            go_roundw
            case rel => exact ⟨j + 1, _, by go_num, by omega, HC8.out, rfl, HF5.out, by rw [HF6.out, HTK.out], HT8.out⟩
            case measure => simp [intOf]; omega
          · go_simp
            refine hcl0.mono ?_
            rintro e w4 ⟨x4, y4, z4, rfl, hb4, hst4⟩
            obtain ⟨⟨xn, rfl, _⟩, ⟨xa, xl, xc, rfl⟩, ⟨za, zl, zc, rfl⟩⟩ := cp_form hst4.now
            unfold compV
            have hB4 : Below V0.heap.size V0 w4 := (below_drew (Below.refl V0.heap.size V0)).trans (hb4.mono (Nat.le_refl _))
            have hB5 : Below V0.heap.size V0 (w4.alloc (.cells #[.string xn, .slice xa xl xc, .slice za zl zc] 25)) := hB4.trans ((keep w4 _).mono hB4.size)
            have HC5 : Hid (CJ (w.heap.size + 1 + 1) (w.heap.size + 3) (h' * 1000 + 500) ⟨fnm', fvl, fms', .slice va j vc, fts, fxs⟩ (w4.alloc (.cells #[.string xn, .slice xa xl xc, .slice za zl zc] 25))) := HC1.out.keep hB5
            have HO5 : Hid ((w4.alloc (.cells #[.string xn, .slice xa xl xc, .slice za zl zc] 25)).ownsRow (w.heap.size + 3) 25 3 (.slice va j vc) j (fxs.flatMap cell3)) := by
              have q := HC5.out.2.2.2.1.1 (Fm.rc ⟨fnm', fvl, fms', .slice va j vc, fts, fxs⟩) (by simp)
              simp only [Fm.rc, HFL.out] at q
              exact q
            have HNEW : Hid (∀ i u, [Value.string xn, Value.slice xa xl xc, Value.slice za zl zc][i]? = some u → (w4.alloc (.cells #[.string xn, .slice xa xl xc, .slice za zl zc] 25)).cell? ((⟨w4.heap.size, 0, none⟩ : Addr).add i) = some u) := cells_new w4 [Value.string xn, Value.slice xa xl xc, Value.slice za zl zc] 25
            have HSZ : Hid (w.heap.size + 3 ≤ (w4.alloc (.cells #[.string xn, .slice xa xl xc, .slice za zl zc] 25)).heap.size) := HC5.out.2.2.1
            have HST4 : Hid (Stay (fun b => b < V0.heap.size) (w4.alloc (.cells #[.string xn, .slice xa xl xc, .slice za zl zc] 25)) (fun W => CpAt (h' * 1000) W u (.string xn) (.slice xa xl xc) (.slice za zl zc))) := hst4.go (Tk.of_below (O := fun _ => False) (keep w4 _)) (fun _ _ q => q.elim) (fun _ _ q => q)
            have hVZ : V0.heap.size ≤ w4.heap.size := hB4.size
            clear hst4 hb4
            refine hK.out _ _ (cells3 (HP0.out.below hB4 HP0.out.lt)) (fun hHeld => ?_)
            clear hK K
            refine wpAnyH_ready (rs := [1, 4]) (by kernel_rfl) (by simp) ?_
            refine AllReadyH.cons rfl (fun K hK => ?_) (AllReadyH.cons rfl (fun K hK => ?_) AllReadyH.nil)
            · have KF := cell_keep hB4 k2
              go_simp
              refine hK.out _ _ (by assumption) (fun hHeld => ?_)
              clear hK K
              clear KF
              refine wpAnyH_ready (rs := [4]) (by kernel_rfl) (by simp) ?_
              refine AllReadyH.cons rfl (fun K hK => ?_) AllReadyH.nil
              go_simp
              refine hK.out _ _ (cells3 (HP0.out.below hB5 HP0.out.lt)) (fun hHeld => ?_)
              clear hK K
              refine wpAnyH_ready (rs := [5]) (by kernel_rfl) (by simp) ?_
              refine AllReadyH.cons rfl (fun K hK => ?_) AllReadyH.nil
              refine step_append_lies _ rfl (.tmp 34) (.tmp 37) 23 rfl (w.heap.size + 3) 25 j0 _ 3 64 Tryd.underlying23 hi hz0' hz1 hz2 rfl (by decide) (.slice va j vc) j (fxs.flatMap cell3) rfl HO5.out ⟨w4.heap.size, 0, none⟩ 1 1 [Value.string xn, Value.slice xa xl xc, Value.slice za zl zc] rfl rfl HNEW.out (by intro u hu; simp at hu; rcases hu with rfl | rfl | rfl <;> rfl) (by decide) (by unfold maxLen; omega) (by omega) HSZ.out _ rfl ?_
              intro g7 cap7 w7 hown7 hgrow7 hfr7 hlt7
              have HOWN7 : Hid (w7.ownsRow (w.heap.size + 3) 25 3 (.slice (some ⟨g7, 0, none⟩) (j + 1) cap7) (j + 1) (fxs.flatMap cell3 ++ [Value.string xn, Value.slice xa xl xc, Value.slice za zl zc])) := hown7
              have HGR7 : Hid ((w4.alloc (.cells #[.string xn, .slice xa xl xc, .slice za zl zc] 25)).grownBy w7 (Value.slice va j vc).ownBlock) := hgrow7
              have HFR7 : Hid ((Value.slice va j vc).ownBlock = some g7 ∨ (w4.alloc (.cells #[.string xn, .slice xa xl xc, .slice za zl zc] 25)).heap.size ≤ g7) := hfr7.imp id (fun q => by rw [q]; exact Nat.le_refl _)
              have hP7 : Blk w7 PB #[.string un, .slice ua ul uc, .slice ta tl tc] 25 := (hgrow7.block PB (by rw [World.size_alloc]; omega) (fun q => by have := (HOB.out PB (List.mem_filterMap.2 ⟨Fm.rc ⟨fnm', fvl, fms', .slice va j vc, fts, fxs⟩, by simp, q.symm⟩)).2; omega)).trans ((HP0.out.below hB5 HP0.out.lt))
              have hK7 : Blk w7 (w.heap.size + 1 + 1) #[.string fnm', fvl, .slice va j vc] 25 := (hgrow7.block (w.heap.size + 1 + 1) HC5.out.1.lt (fun q => by have := (HOB.out _ (List.mem_filterMap.2 ⟨Fm.rc ⟨fnm', fvl, fms', .slice va j vc, fts, fxs⟩, by simp, q.symm⟩)).1; omega)).trans HC5.out.1
              clear hown7 hgrow7 hfr7
              refine hK.out _ _ (cells3 hP7) (fun hHeld => ?_)
              clear hK K
              refine takeD (some 39) (i := 6) (v := .pointer (some ⟨w.heap.size + 1 + 1, 2, none⟩)) rfl rfl (by kernel_rfl) (by kernel_rfl) (by kernel_rfl) (fun _ _ _ h => h) (Or.inl ⟨by kernel_rfl, ?_⟩) (by assumption) ?_
              · (intro w hSw; (try dsimp only at hSw); go_simp)
              (try simp only [Act.put, List.setIfInBounds_toArray, List.set_cons_zero, List.set_cons_succ])
              refine wpAnyH_ready (rs := [7]) (by kernel_rfl) (by simp) ?_
              refine AllReadyH.cons rfl (fun K hK => ?_) AllReadyH.nil
              have KK1 := (cells3 hK7).2.2
              have KF1 := hK7.frozen 2
              have hP8 : Blk (w7.setCell ⟨w.heap.size + 1 + 1, 2, none⟩ (.slice (some ⟨g7, 0, none⟩) (j + 1) cap7)) PB #[.string un, .slice ua ul uc, .slice ta tl tc] 25 := hP7.other (by omega) _
              go_simp
              refine hK.out _ _ (cells3 hP8) (fun hHeld => ?_)
              clear hK K
              refine wpAnyH_done (by kernel_rfl) ?_ _
              have hln := CJ.comp (g := g7) (t := u) (x := (Value.string xn, Value.slice xa xl xc, Value.slice za zl zc)) (v' := .slice (some ⟨g7, 0, none⟩) (j + 1) cap7) HC5.out (by simp only; have := HFL.out; omega) HFU.out (fun X hX => CpAt.up (h' * 1000) (h' * 1000 + 500) _ _ _ _ (by omega) (HST4.out X ((Tk.refl (fun _ => False) _).two hX (fun _ _ q => q.elim) (fun b _ q => by
                rcases q with q | q
                · omega
                · have := (HOB.out _ q).2; omega)))) HGR7.out (by simp only [HFL.out]; exact HOWN7.out) rfl HFR7.out
              have HC8 : Hid (CJ (w.heap.size + 1 + 1) (w.heap.size + 3) (h' * 1000 + 500) ⟨fnm', fvl, fms', .slice (some ⟨g7, 0, none⟩) (j + 1) cap7, fts ++ [u], fxs ++ [(Value.string xn, Value.slice xa xl xc, Value.slice za zl zc)]⟩ (w7.setCell ⟨w.heap.size + 1 + 1, 2, none⟩ (.slice (some ⟨g7, 0, none⟩) (j + 1) cap7))) := hln.1
              have HT8 : Hid (Tk (fun b => w.heap.size + 1 + 1 ≤ b) W0 (w7.setCell ⟨w.heap.size + 1 + 1, 2, none⟩ (.slice (some ⟨g7, 0, none⟩) (j + 1) cap7))) := HT.out.trans (((Tk.of_below (O := fun b => w.heap.size + 1 + 1 ≤ b) (HKV.out.trans (hB5.mono HKV.out.size)))).trans ((Tk.refl (fun _ => False) _).two hln.2 (fun _ _ q => q.elim) (fun b _ q => by
                rcases q with q | q
                · omega
                · have := (HOB.out _ q).1; omega)))
              clear hln hP7 hK7 hP8 KK1 KF1 hB4 hB5 HGR7 HFR7
              go_wp2
              go_roundw
              case rel => exact ⟨j + 1, _, by go_num, by omega, HC8.out, rfl, HF5.out, by rw [HF6.out, HTK.out], HT8.out⟩
              case measure => simp [intOf]; omega
            · go_simp
              refine hK.out _ _ (cells3 (HP0.out.below hB5 HP0.out.lt)) (fun hHeld => ?_)
              clear hK K
              refine wpAnyH_ready (rs := [1]) (by kernel_rfl) (by simp) ?_
              refine AllReadyH.cons rfl (fun K hK => ?_) AllReadyH.nil
              have KF := cell_keep hB5 k2
              go_simp
              refine hK.out _ _ (by assumption) (fun hHeld => ?_)
              clear hK K
              clear KF
              refine wpAnyH_ready (rs := [5]) (by kernel_rfl) (by simp) ?_
              refine AllReadyH.cons rfl (fun K hK => ?_) AllReadyH.nil
              refine step_append_lies _ rfl (.tmp 34) (.tmp 37) 23 rfl (w.heap.size + 3) 25 j0 _ 3 64 Tryd.underlying23 hi hz0' hz1 hz2 rfl (by decide) (.slice va j vc) j (fxs.flatMap cell3) rfl HO5.out ⟨w4.heap.size, 0, none⟩ 1 1 [Value.string xn, Value.slice xa xl xc, Value.slice za zl zc] rfl rfl HNEW.out (by intro u hu; simp at hu; rcases hu with rfl | rfl | rfl <;> rfl) (by decide) (by unfold maxLen; omega) (by omega) HSZ.out _ rfl ?_
              intro g7 cap7 w7 hown7 hgrow7 hfr7 hlt7
              have HOWN7 : Hid (w7.ownsRow (w.heap.size + 3) 25 3 (.slice (some ⟨g7, 0, none⟩) (j + 1) cap7) (j + 1) (fxs.flatMap cell3 ++ [Value.string xn, Value.slice xa xl xc, Value.slice za zl zc])) := hown7
              have HGR7 : Hid ((w4.alloc (.cells #[.string xn, .slice xa xl xc, .slice za zl zc] 25)).grownBy w7 (Value.slice va j vc).ownBlock) := hgrow7
              have HFR7 : Hid ((Value.slice va j vc).ownBlock = some g7 ∨ (w4.alloc (.cells #[.string xn, .slice xa xl xc, .slice za zl zc] 25)).heap.size ≤ g7) := hfr7.imp id (fun q => by rw [q]; exact Nat.le_refl _)
              have hP7 : Blk w7 PB #[.string un, .slice ua ul uc, .slice ta tl tc] 25 := (hgrow7.block PB (by rw [World.size_alloc]; omega) (fun q => by have := (HOB.out PB (List.mem_filterMap.2 ⟨Fm.rc ⟨fnm', fvl, fms', .slice va j vc, fts, fxs⟩, by simp, q.symm⟩)).2; omega)).trans ((HP0.out.below hB5 HP0.out.lt))
              have hK7 : Blk w7 (w.heap.size + 1 + 1) #[.string fnm', fvl, .slice va j vc] 25 := (hgrow7.block (w.heap.size + 1 + 1) HC5.out.1.lt (fun q => by have := (HOB.out _ (List.mem_filterMap.2 ⟨Fm.rc ⟨fnm', fvl, fms', .slice va j vc, fts, fxs⟩, by simp, q.symm⟩)).1; omega)).trans HC5.out.1
              clear hown7 hgrow7 hfr7
              refine hK.out _ _ (cells3 hP7) (fun hHeld => ?_)
              clear hK K
              refine takeD (some 39) (i := 6) (v := .pointer (some ⟨w.heap.size + 1 + 1, 2, none⟩)) rfl rfl (by kernel_rfl) (by kernel_rfl) (by kernel_rfl) (fun _ _ _ h => h) (Or.inl ⟨by kernel_rfl, ?_⟩) (by assumption) ?_
              · (intro w hSw; (try dsimp only at hSw); go_simp)
              (try simp only [Act.put, List.setIfInBounds_toArray, List.set_cons_zero, List.set_cons_succ])
              refine wpAnyH_ready (rs := [7]) (by kernel_rfl) (by simp) ?_
              refine AllReadyH.cons rfl (fun K hK => ?_) AllReadyH.nil
              have KK1 := (cells3 hK7).2.2
              have KF1 := hK7.frozen 2
              have hP8 : Blk (w7.setCell ⟨w.heap.size + 1 + 1, 2, none⟩ (.slice (some ⟨g7, 0, none⟩) (j + 1) cap7)) PB #[.string un, .slice ua ul uc, .slice ta tl tc] 25 := hP7.other (by omega) _
              go_simp
              refine hK.out _ _ (cells3 hP8) (fun hHeld => ?_)
              clear hK K
              refine wpAnyH_done (by kernel_rfl) ?_ _
              have hln := CJ.comp (g := g7) (t := u) (x := (Value.string xn, Value.slice xa xl xc, Value.slice za zl zc)) (v' := .slice (some ⟨g7, 0, none⟩) (j + 1) cap7) HC5.out (by simp only; have := HFL.out; omega) HFU.out (fun X hX => CpAt.up (h' * 1000) (h' * 1000 + 500) _ _ _ _ (by omega) (HST4.out X ((Tk.refl (fun _ => False) _).two hX (fun _ _ q => q.elim) (fun b _ q => by
                rcases q with q | q
                · omega
                · have := (HOB.out _ q).2; omega)))) HGR7.out (by simp only [HFL.out]; exact HOWN7.out) rfl HFR7.out
              have HC8 : Hid (CJ (w.heap.size + 1 + 1) (w.heap.size + 3) (h' * 1000 + 500) ⟨fnm', fvl, fms', .slice (some ⟨g7, 0, none⟩) (j + 1) cap7, fts ++ [u], fxs ++ [(Value.string xn, Value.slice xa xl xc, Value.slice za zl zc)]⟩ (w7.setCell ⟨w.heap.size + 1 + 1, 2, none⟩ (.slice (some ⟨g7, 0, none⟩) (j + 1) cap7))) := hln.1
              have HT8 : Hid (Tk (fun b => w.heap.size + 1 + 1 ≤ b) W0 (w7.setCell ⟨w.heap.size + 1 + 1, 2, none⟩ (.slice (some ⟨g7, 0, none⟩) (j + 1) cap7))) := HT.out.trans (((Tk.of_below (O := fun b => w.heap.size + 1 + 1 ≤ b) (HKV.out.trans (hB5.mono HKV.out.size)))).trans ((Tk.refl (fun _ => False) _).two hln.2 (fun _ _ q => q.elim) (fun b _ q => by
                rcases q with q | q
                · omega
                · have := (HOB.out _ q).1; omega)))
              clear hln hP7 hK7 hP8 KK1 KF1 hB4 hB5 HGR7 HFR7
              go_wp2
              go_roundw
              case rel => exact ⟨j + 1, _, by go_num, by omega, HC8.out, rfl, HF5.out, by rw [HF6.out, HTK.out], HT8.out⟩
              case measure => simp [intOf]; omega
        · obtain rfl : j = pn := by omega
          have HALL : Hid (fts = t.cs) := by unfold Hid; rw [HF6.out, List.take_of_length_le]; rw [HPN.out]; exact Nat.le_refl _
          obtain ⟨k0, k1, k2⟩ := cells3 HC.out.1
          obtain ⟨r0, r1, r2⟩ := cells3 HR.out
          have s0 := HR.out.frozen 0
          have s1 := HR.out.frozen 1
          have s2 := HR.out.frozen 2
          have hst := HC.out.tree (by omega)
          have ecp : Fm.cp ⟨fnm', fvl, fms', .slice va j vc, fts, fxs⟩ = t := by
            unfold Fm.cp; rw [HF5.out, HALL.out, HNM.out]; exact cp_eta t
          rw [ecp] at hst
          have HST : Hid (Stay (fun b => b ≤ w.heap.size + 1 + 1) wr (fun W => CpAt (h' * 1000 + 500 + 1) W t (.string fnm') fvl (.slice va j vc))) := hst
          clear hst ecp
          rw [hvl] at k1 HST
          go_wp2
          refine cc_fin (fin3_blk HR.out (.string fnm') _ (.slice va j vc)) (fin3_below _ _ _ HBW.out (by omega)) (fun X hX => CpAt.up (h' * 1000 + 500 + 1) ((h' + 1) * 1000) _ _ _ _ (by omega) (HST.out X ((fin3_tk (O := fun b => b ≤ w.heap.size + 1 + 1) wr (w.heap.size + 1) _ _ _ (by omega)).two hX (fun _ _ q => q) (fun b _ q => by omega)))) rfl rfl
theorem clone_all : ∀ h, h ≤ 101 → CcC h
  | 0, _ => fun k t x y z w _ hp => hp.elim
  | h + 1, hh => clone_step h (by omega) (clone_all h (by omega))
end Go.Proofs.YtenclgnkogmgiaaDoor
