/-
  Same: equal trees are the same.
-/
import Derived.Test.YtmdkmedlncfcbaaGreatDoorPq
import Derived.Test.YtmdkmedlncfcbaaGreatDoorSame
namespace Go.Proofs.YtmdkmedlncfcbaaGreatDoor
open Go.RowKit Go.Shelf
set_option linter.unusedVariables false
set_option linter.unusedSimpArgs false

theorem pt_slices {h : Nat} {W : World} {t : Prt} {x y z : Value} (hp : PtAt (h + 1) W t x y z) : (∃ a n c, x = .slice a n c) ∧ (∃ a n c, y = .slice a n c) ∧ (∃ a n c, z = .slice a n c) := by
  obtain ⟨⟨a1, c1, h1, _⟩, ⟨a2, c2, h2, _⟩, ⟨_, a3, c3, h3, _⟩⟩ := hp
  exact ⟨⟨_, _, _, h1⟩, ⟨_, _, _, h2⟩, ⟨_, _, _, h3⟩⟩
def SmC (h : Nat) : Prop := ∀ (t : Prt) (x y z x' y' z' : Value) (w : World), PtAt h w t x y z → PtAt h w t x' y' z' → Calls Tryz.prog 13 #[partV x y z, partV x' y' z'] w fun e w' => e = .returned (.bool true) ∧ Below w.heap.size w w'
def SmL (h : Nat) : Prop := ∀ (ts : List Prt) (v v' : Value) (w : World), TRow w v ts (PtAt h w) → TRow w v' ts (PtAt h w) → Calls Tryz.prog 23 #[v, v'] w fun e w' => e = .returned (.bool true) ∧ Below w.heap.size w w'
set_option maxHeartbeats 8000000 in
set_option maxRecDepth 100000 in
theorem same_list (h : Nat) (ih : SmC h) : SmL h := by
  intro ts v v' w h1 h2
  obtain ⟨hl, a1, c1, rfl, h1⟩ := h1
  obtain ⟨_, a2, c2, rfl, h2⟩ := h2
  have hmx : ts.length ≤ 9223372036854775807 := hl
  have HIH : Hid (SmC h) := ih
  have H1 : Hid (ts = [] ∨ ∃ b off, a1 = some ⟨b, off, none⟩ ∧ ∀ (i : Nat) (t : Prt), ts[i]? = some t → ∃ x y z, w.cell? ⟨b, off + i * 3, none⟩ = some x ∧ w.cell? ⟨b, off + i * 3 + 1, none⟩ = some y ∧ w.cell? ⟨b, off + i * 3 + 2, none⟩ = some z ∧ PtAt h w t x y z) := h1
  have H2 : Hid (ts = [] ∨ ∃ b off, a2 = some ⟨b, off, none⟩ ∧ ∀ (i : Nat) (t : Prt), ts[i]? = some t → ∃ x y z, w.cell? ⟨b, off + i * 3, none⟩ = some x ∧ w.cell? ⟨b, off + i * 3 + 1, none⟩ = some y ∧ w.cell? ⟨b, off + i * 3 + 2, none⟩ = some z ∧ PtAt h w t x y z) := h2
  clear ih h1 h2
  go_enter Tryz.func23, Tryz.ntmps23
  go_wp2
  go_loopw [5] (fun i wr => ∃ k : Nat, i = .int .i64 (k : Nat) ∧ k ≤ ts.length ∧ Below w.heap.size w wr) (fun i _ => ts.length - (intOf i).toNat)
  case atStart => exact ⟨0, rfl, by omega, Below.refl _ _⟩
  case round =>
    obtain ⟨k, rfl, hk, hb⟩ := hrel
    have HB : Hid (Below w.heap.size w wr) := hb
    by_cases hlt : k < ts.length
    · obtain ⟨t, ht⟩ : ∃ t, ts[k]? = some t := ⟨_, List.getElem?_eq_getElem hlt⟩
      rcases H1.out with h0 | ⟨b1, o1, rfl, g1⟩
      · rw [h0] at hlt; simp at hlt
      rcases H2.out with h0 | ⟨b2, o2, rfl, g2⟩
      · rw [h0] at hlt; simp at hlt
      obtain ⟨x, y, z, e1, e2, e3, e4⟩ := g1 k t ht
      obtain ⟨x', y', z', d1, d2, d3, d4⟩ := g2 k t ht
      have e5 := PtAt.below hb h t x y z e4
      have d5 := PtAt.below hb h t x' y' z' d4
      obtain ⟨h', rfl⟩ : ∃ h', h = h' + 1 := by cases h with | zero => exact e4.elim | succ h => exact ⟨h, rfl⟩
      obtain ⟨⟨x1, x2, x3, rfl⟩, ⟨y1, y2, y3, rfl⟩, ⟨z1, z2, z3, rfl⟩⟩ := pt_slices e4
      obtain ⟨⟨u1, u2, u3, rfl⟩, ⟨v1, v2, v3, rfl⟩, ⟨p1, p2, p3, rfl⟩⟩ := pt_slices d4
      have m1 := keep_cell hb e1
      have m2 := keep_cell hb e2
      have m3 := keep_cell hb e3
      have n1 := keep_cell hb d1
      have n2 := keep_cell hb d2
      have n3 := keep_cell hb d3
      have hsm := fun V (hV : Below wr.heap.size wr V) => HIH.out t _ _ _ _ _ _ V (PtAt.below hV _ _ _ _ _ e5) (PtAt.below hV _ _ _ _ _ d5)
      unfold partV at hsm
      clear e1 e2 e3 e4 d1 d2 d3 d4 e5 d5 g1 g2 hb ht
      go_wp2_with fail
      refine wp_region_held_drew (S := (fun V => Below wr.heap.size wr V ∧ V.cell? ⟨b1, o1 + k * 3, none⟩ = some (.slice x1 x2 x3) ∧ V.cell? ⟨b1, o1 + k * 3 + 1, none⟩ = some (.slice y1 y2 y3) ∧ V.cell? ⟨b1, o1 + k * 3 + 2, none⟩ = some (.slice z1 z2 z3) ∧ V.cell? ⟨b2, o2 + k * 3, none⟩ = some (.slice u1 u2 u3) ∧ V.cell? ⟨b2, o2 + k * 3 + 1, none⟩ = some (.slice v1 v2 v3) ∧ V.cell? ⟨b2, o2 + k * 3 + 2, none⟩ = some (.slice p1 p2 p3))) (by kernel_rfl) (by (refine ⟨?_, ?_, ?_, ?_, ?_, ?_, ?_⟩ <;> first | assumption | exact below_drew (Below.refl _ _) | exact hHeld.1.trans (hb8.mono hHeld.1.size) | exact keep_cell hb8 hHeld.2.1 | exact keep_cell hb8 hHeld.2.2.1 | exact keep_cell hb8 hHeld.2.2.2.1 | exact keep_cell hb8 hHeld.2.2.2.2.1 | exact keep_cell hb8 hHeld.2.2.2.2.2.1 | exact keep_cell hb8 hHeld.2.2.2.2.2.2 | simp [*])) (fun hHeld => ?_)
      refine takeD (some 17) (i := 0) (v := .slice (some ⟨b1, o1, none⟩) ts.length c1) rfl rfl (by kernel_rfl) (by kernel_rfl) (by kernel_rfl) (fun _ _ _ h => h) (Or.inl ⟨by kernel_rfl, ?_⟩) (by assumption) ?_
      · (intro w hSw; (try dsimp only at hSw); go_simp)
      (try simp only [Act.put, List.setIfInBounds_toArray, List.set_cons_zero, List.set_cons_succ])
      refine takeD (some 18) (i := 1) (v := .int .i64 (k : Nat)) rfl rfl (by kernel_rfl) (by kernel_rfl) (by kernel_rfl) (fun _ _ _ h => h) (Or.inl ⟨by kernel_rfl, ?_⟩) (by assumption) ?_
      · (intro w hSw; (try dsimp only at hSw); go_simp)
      (try simp only [Act.put, List.setIfInBounds_toArray, List.set_cons_zero, List.set_cons_succ])
      refine takeD (some 19) (i := 2) (v := .pointer (some ⟨b1, o1 + k * 3, none⟩)) rfl rfl (by kernel_rfl) (by kernel_rfl) (by kernel_rfl) (fun _ _ _ h => h) (Or.inl ⟨by kernel_rfl, ?_⟩) (by assumption) ?_
      · (intro w hSw; (try dsimp only at hSw); go_simp)
      (try simp only [Act.put, List.setIfInBounds_toArray, List.set_cons_zero, List.set_cons_succ])
      refine takeD (some 20) (i := 3) (v := .agg #[.slice x1 x2 x3, .slice y1 y2 y3, .slice z1 z2 z3]) rfl rfl (by kernel_rfl) (by kernel_rfl) (by kernel_rfl) (fun _ _ _ h => h) (Or.inl ⟨by kernel_rfl, ?_⟩) (by assumption) ?_
      · (intro w hSw; (try dsimp only at hSw); go_simp)
      (try simp only [Act.put, List.setIfInBounds_toArray, List.set_cons_zero, List.set_cons_succ])
      refine takeD (some 21) (i := 4) (v := .slice (some ⟨b2, o2, none⟩) ts.length c2) rfl rfl (by kernel_rfl) (by kernel_rfl) (by kernel_rfl) (fun _ _ _ h => h) (Or.inl ⟨by kernel_rfl, ?_⟩) (by assumption) ?_
      · (intro w hSw; (try dsimp only at hSw); go_simp)
      (try simp only [Act.put, List.setIfInBounds_toArray, List.set_cons_zero, List.set_cons_succ])
      refine takeD (some 22) (i := 5) (v := .int .i64 (k : Nat)) rfl rfl (by kernel_rfl) (by kernel_rfl) (by kernel_rfl) (fun _ _ _ h => h) (Or.inl ⟨by kernel_rfl, ?_⟩) (by assumption) ?_
      · (intro w hSw; (try dsimp only at hSw); go_simp)
      (try simp only [Act.put, List.setIfInBounds_toArray, List.set_cons_zero, List.set_cons_succ])
      refine takeD (some 23) (i := 6) (v := .pointer (some ⟨b2, o2 + k * 3, none⟩)) rfl rfl (by kernel_rfl) (by kernel_rfl) (by kernel_rfl) (fun _ _ _ h => h) (Or.inl ⟨by kernel_rfl, ?_⟩) (by assumption) ?_
      · (intro w hSw; (try dsimp only at hSw); go_simp)
      (try simp only [Act.put, List.setIfInBounds_toArray, List.set_cons_zero, List.set_cons_succ])
      refine takeD (some 24) (i := 7) (v := .agg #[.slice u1 u2 u3, .slice v1 v2 v3, .slice p1 p2 p3]) rfl rfl (by kernel_rfl) (by kernel_rfl) (by kernel_rfl) (fun _ _ _ h => h) (Or.inl ⟨by kernel_rfl, ?_⟩) (by assumption) ?_
      · (intro w hSw; (try dsimp only at hSw); go_simp)
      (try simp only [Act.put, List.setIfInBounds_toArray, List.set_cons_zero, List.set_cons_succ])
      refine wpAnyH_ready (rs := [8]) (by kernel_rfl) (by simp) ?_
      refine AllReadyH.cons rfl (fun K hK => ?_) AllReadyH.nil
      go_simp
      refine (hsm _ hHeld.1).mono ?_
      rintro e w8 ⟨rfl, hb8⟩
      refine hK.out _ _ (by (refine ⟨?_, ?_, ?_, ?_, ?_, ?_, ?_⟩ <;> first | assumption | exact below_drew (Below.refl _ _) | exact hHeld.1.trans (hb8.mono hHeld.1.size) | exact keep_cell hb8 hHeld.2.1 | exact keep_cell hb8 hHeld.2.2.1 | exact keep_cell hb8 hHeld.2.2.2.1 | exact keep_cell hb8 hHeld.2.2.2.2.1 | exact keep_cell hb8 hHeld.2.2.2.2.2.1 | exact keep_cell hb8 hHeld.2.2.2.2.2.2 | simp [*])) (fun hHeld => ?_)
      clear hK K
      refine takeD (some 26) (i := 9) (v := .bool false) rfl rfl (by kernel_rfl) (by kernel_rfl) (by kernel_rfl) (fun _ _ _ h => h) (Or.inl ⟨by kernel_rfl, ?_⟩) (by assumption) ?_
      · (intro w hSw; (try dsimp only at hSw); go_simp)
      (try simp only [Act.put, List.setIfInBounds_toArray, List.set_cons_zero, List.set_cons_succ])
      refine wpAnyH_done (by kernel_rfl) ?_ _
      have HX : Hid (Below w.heap.size w w8) := HB.out.trans (hHeld.1.mono HB.out.size)
      clear hHeld hb8 hsm
      go_wp2
      go_roundw
      case rel => exact ⟨k + 1, by go_num, by omega, HX.out⟩
      case measure => simp [intOf]; omega
    · have hk2 : ¬ (k : Int) < (ts.length : Int) := by omega
      clear hb
      go_wp2
      go_ret
      exact ⟨rfl, HB.out⟩
set_option maxHeartbeats 8000000 in
set_option maxRecDepth 100000 in
theorem same_part (h : Nat) (ih : SmL h) : SmC (h + 1) := by
  intro t x y z x' y' z' w h1 h2
  obtain ⟨⟨fa, fc, rfl, fr, fl⟩, ⟨ba, bc, rfl, bl, bm, bn, bb, br⟩, h13⟩ := h1
  obtain ⟨⟨ga, gc, rfl, gr, gl⟩, ⟨ca, cc, rfl, cl, cm, cn, cb, cr⟩, h23⟩ := h2
  have HX1 := h13
  have HX2 := h23
  obtain ⟨_, pa, pc, rfl, _⟩ := HX1
  obtain ⟨_, qa, qc, rfl, _⟩ := HX2
  obtain ⟨fn, hfn⟩ : ∃ fn, t.fs.length = fn := ⟨_, rfl⟩
  obtain ⟨bn', hbn⟩ : ∃ bn, t.body.length = bn := ⟨_, rfl⟩
  obtain ⟨pn, hpn⟩ : ∃ pn, t.ps.length = pn := ⟨_, rfl⟩
  have HFA := fun V (hV : Below w.heap.size w V) => sameAll_any fa ga fn fn fc gc t.fs t.fs V hfn hfn (by rw [← hfn]; exact fl) (fr.below hV) (gr.below hV) rfl
  have HL := fun V (hV : Below w.heap.size w V) => ih t.ps _ _ V (h13.mono hV (fun t x y z q => PtAt.below hV h t x y z q)) (h23.mono hV (fun t x y z q => PtAt.below hV h t x y z q))
  rw [hpn] at HL
  rw [hbn] at bl cl
  rw [hfn, hbn, hpn]
  have hk : Below w.heap.size w ((w.alloc (.cells #[.slice fa fn fc, .slice ba bn' bc, .slice pa pn pc] 28)).alloc (.cells #[.slice ga fn gc, .slice ca bn' cc, .slice qa pn qc] 28)) := (keep w _).alloc (by simp) _
  have HK : Hid (Below w.heap.size w ((w.alloc (.cells #[.slice fa fn fc, .slice ba bn' bc, .slice pa pn pc] 28)).alloc (.cells #[.slice ga fn gc, .slice ca bn' cc, .slice qa pn qc] 28))) := hk
  have HA : Hid (Blk ((w.alloc (.cells #[.slice fa fn fc, .slice ba bn' bc, .slice pa pn pc] 28)).alloc (.cells #[.slice ga fn gc, .slice ca bn' cc, .slice qa pn qc] 28)) w.heap.size #[.slice fa fn fc, .slice ba bn' bc, .slice pa pn pc] 28) := (Blk.new _ _ _).alloc _
  have HB : Hid (Blk ((w.alloc (.cells #[.slice fa fn fc, .slice ba bn' bc, .slice pa pn pc] 28)).alloc (.cells #[.slice ga fn gc, .slice ca bn' cc, .slice qa pn qc] 28)) (w.heap.size + 1) #[.slice ga fn gc, .slice ca bn' cc, .slice qa pn qc] 28) := by
    have := Blk.new (w.alloc (.cells #[.slice fa fn fc, .slice ba bn' bc, .slice pa pn pc] 28)) #[.slice ga fn gc, .slice ca bn' cc, .slice qa pn qc] 28
    rw [World.size_alloc] at this; exact this
  have hfa := HFA _ hk
  have HBR : Hid (Row w ba t.body) := br
  have HCR : Hid (Row w ca t.body) := cr
  have HBN : Hid (t.body.length = bn') := hbn
  have HLL : Hid (∀ V, Below w.heap.size w V → Calls Tryz.prog 23 #[.slice pa pn pc, .slice qa pn qc] V fun e w' => e = .returned (.bool true) ∧ Below V.heap.size V w') := HL
  clear hk br cr HFA HL h13 h23 fr gr
  unfold partV
  go_enter Tryz.func13, Tryz.ntmps13
  go_wp2_with fail
  refine hfa.mono ?_
  rintro e w1 ⟨rfl, hb1⟩
  clear hfa
  obtain ⟨a0, a1, a2⟩ := cells3 (HA.out.below hb1 HA.out.lt)
  obtain ⟨b0, b1, b2⟩ := cells3 (HB.out.below hb1 HB.out.lt)
  have HB1 : Hid (Below w.heap.size w w1) := HK.out.trans (hb1.mono HK.out.size)
  have kb := conv_row bn' bc HBN.out (row_below HBR.out HB1.out)
  have kc := conv_row bn' cc HBN.out (row_below HCR.out HB1.out)
  have hll := HLL.out w1 HB1.out
  clear hb1
  go_wp2_with fail
  refine hll.mono ?_
  rintro e w2 ⟨rfl, hb2⟩
  clear hll
  go_wp2
  go_ret
  exact ⟨rfl, HB1.out.trans (hb2.mono HB1.out.size)⟩
theorem same_all : ∀ h, SmC h
  | 0 => fun t x y z x' y' z' w h1 _ => h1.elim
  | h + 1 => same_part h (same_list h (same_all h))
end Go.Proofs.YtmdkmedlncfcbaaGreatDoor
