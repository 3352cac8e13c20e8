/-
  The mail that waits: the contract of Waits.
-/
import Derived.Test.YtbckbonffajmeaaGreatDoorSw
import Derived.Deep.RegionHeld3
namespace Go.Proofs.YtbckbonffajmeaaGreatDoor
open Go.RowKit Go.Shelf Go.Maps
set_option linter.unusedVariables false
set_option linter.unusedSimpArgs false

theorem clone_own {w : World} {v : Value} {zs : List ByteArray} (h : w.ownsRow 0 9 1 v zs.length (zs.map Value.string)) (hz : zs.length ≤ 100) : Calls Tryz.prog 42 #[v] w fun e w' => ∃ v', e = .returned v' ∧ w'.ownsRow w.heap.size 9 1 v' zs.length (zs.map Value.string) ∧ Below w.heap.size w w' := by
  rcases h.2 with ⟨rfl, e⟩ | ⟨g, cap, cur, rfl, h2, h3, h4⟩
  · have e0 : zs = [] := List.eq_nil_of_length_eq_zero e
    subst e0
    refine (slices_Clone_string_nil 0 0 w).mono ?_
    rintro e w' ⟨rfl, rfl⟩
    exact ⟨_, rfl, World.ownsRow_nil _ _ _ _, Below.refl _ _⟩
  · have := slices_Clone_string g 0 zs.length cap zs w (Nat.le_refl _) (by omega) (fun j hj => by
      rw [cell_of_row w _ _ _ _ _ h3, Nat.zero_add]
      have e := h4.2.2.2
      have e2 : (zs.map Value.string)[j]? = cur[j]? := by
        rw [← e, List.getElem?_take_of_lt (by omega), Array.getElem?_toList]
      rw [← e2, List.getElem?_map, List.getElem?_eq_getElem hj, List.getD_eq_getElem?_getD, List.getElem?_eq_getElem hj]
      rfl)
    rw [List.take_length] at this
    refine this.mono ?_
    rintro e w' ⟨v', rfl, q1, _, q2⟩
    exact ⟨v', rfl, q1, q2⟩
/-- 'wpAnyH_take', the slot told. -/
theorem takeD {P : Program} {ops : Array Oper} {Q : Exit → Act → World → Prop} {md : Region.Mode} {S : World → Prop} (d : Option Tmp) {i : Nat} {oi : Oper} {v : Value} {fuel : Nat} {listed : Array Bool} {a : Act} {w : World} (hi : ops[i]? = some oi) (hd : oi.dst = d)
    (hs : Region.noSelect ops = true) (hf : Region.free md ops listed i = true) (hr : (Region.ready md ops listed).contains i = true)
    (hQ : ∀ c a w, Q (.panic c) (a.put oi.dst v) w → Q (.panic c) a w) (hy : YieldsIf P ops S oi v a) (hS : S w)
    (h : wpAnyH P md ops Q S fuel (listed.setIfInBounds i true) (a.put d v) w) : wpAnyH P md ops Q S (fuel + 1) listed a w := by
  subst hd
  exact wpAnyH_take hi hs hf hr hQ hy hS h
theorem keepS {w V V1 : World} {g gr : Nat} {sd : ByteArray} {vt : Value} (h : Below w.heap.size w V ∧ V.cell? ⟨g, 6, none⟩ = some (.string sd) ∧ V.cell? ⟨g, 7, none⟩ = some vt ∧ V.cell? ⟨g, 11, none⟩ = some (.pointer (some ⟨gr, 0, none⟩))) (hb : Below V.heap.size V V1) :
    Below w.heap.size w V1 ∧ V1.cell? ⟨g, 6, none⟩ = some (.string sd) ∧ V1.cell? ⟨g, 7, none⟩ = some vt ∧ V1.cell? ⟨g, 11, none⟩ = some (.pointer (some ⟨gr, 0, none⟩)) :=
  ⟨h.1.trans (hb.mono h.1.size), (hb.cell (World.block_lt_of_cell? V _ h.2.1)).trans h.2.1, (hb.cell (World.block_lt_of_cell? V _ h.2.2.1)).trans h.2.2.1, (hb.cell (World.block_lt_of_cell? V _ h.2.2.2)).trans h.2.2.2⟩
theorem set3 {v : World} {t : Nat} {x0 x1 x2 : Value} (hT : Blk v t #[x0, x1, x2] 48) (a b c : Value) : Blk (((v.setCell ⟨t, 0, none⟩ a).setCell ⟨t, 1, none⟩ b).setCell ⟨t, 2, none⟩ c) t #[a, b, c] 48 ∧ (∀ k, k ≠ t → (((v.setCell ⟨t, 0, none⟩ a).setCell ⟨t, 1, none⟩ b).setCell ⟨t, 2, none⟩ c).heap[k]? = v.heap[k]?) ∧ ∀ B, B ≤ t → Below B v (((v.setCell ⟨t, 0, none⟩ a).setCell ⟨t, 1, none⟩ b).setCell ⟨t, 2, none⟩ c) := by
  have h1 := heap_setCell_same v t 0 _ 48 a hT
  have h2 := heap_setCell_same _ t 1 _ 48 b h1
  have h3 := heap_setCell_same _ t 2 _ 48 c h2
  refine ⟨h3, fun k hk => ?_, fun B hB => (((Below.refl B v).setCell (p := ⟨t, 0, none⟩) hB _).setCell (p := ⟨t, 1, none⟩) hB _).setCell (p := ⟨t, 2, none⟩) hB _⟩
  rw [heap_setCell_other _ _ _ _ (by simpa using hk), heap_setCell_other _ _ _ _ (by simpa using hk), heap_setCell_other _ _ _ _ (by simpa using hk)]
theorem row_set3 {v w : World} {t : Nat} {a : Option Addr} {l : List Int} (hT : Blk v t #[.string ⟨#[]⟩, .slice none 0 0, .slice none 0 0] 48) (h : Row v a l) (ho : ∀ k, k ≠ t → w.heap[k]? = v.heap[k]?) : Row w a l := by
  by_cases hl : l = []
  · exact .inl hl
  rcases h with q | ⟨b, off, rfl, h⟩
  · exact absurd q hl
  have h0 := h 0 (List.length_pos_iff.2 hl)
  have hb : b ≠ t := fun e => by
    subst e
    rw [hT.cell] at h0
    rcases off with _ | _ | _ | n
    · cases h0
    · cases h0
    · cases h0
    · simp at h0
  refine .inr ⟨b, off, rfl, fun i hi => ?_⟩
  rw [World.cell?_of_block (ho b hb)]
  exact h i hi
theorem row_base {w : World} {B B' : Nat} {e : TypeId} {k n : Nat} {v : Value} {xs : List Value} (h : w.ownsRow B e k v n xs) (hB : B' ≤ B) : w.ownsRow B' e k v n xs := by
  refine ⟨h.1, ?_⟩
  rcases h.2 with q | ⟨g, cap, cur, h1, h2, h3⟩
  · exact .inl q
  · exact .inr ⟨g, cap, cur, h1, Nat.le_trans hB h2, h3⟩
set_option maxHeartbeats 16000000 in
set_option maxRecDepth 100000 in
theorem waits_yes (N : Nat) (m : Sm) (s : SS) (w : World) (rs : Dt.RS) (h : SvAt N w m s) (hh : s.host.size ≠ 0) (h2 : s.takes = 2) (hs : s.text = some rs) (hN : N ≤ 800000000) :
    Calls Tryz.prog 18 #[.pointer (some ⟨m.g, 0, none⟩)] w fun e w' => ∃ v a c, e = .returned (.tuple #[.agg #[.string s.sender, v, .slice a (Dt.textZ rs).length c], .bool true]) ∧ w'.ownsRow w.heap.size 9 1 v s.tos.length (s.tos.map Value.string) ∧ Row w' a (Dt.textZ rs) ∧ Below w.heap.size w w' := by
  have hk := keep w (.cells #[.string ⟨#[]⟩, .slice none 0 0, .slice none 0 0] 48)
  obtain ⟨g1, v1⟩ := h.below hk
  have hm := made_yes N m s _ g1 hh
  obtain ⟨gr, Br, htx⟩ : ∃ gr Br, m.tx = some (gr, Br) := by
    have := h.tx
    rw [hs] at this
    cases e : m.tx with
    | none => rw [e] at this; exact this.elim
    | some p => exact ⟨p.1, p.2, rfl⟩
  obtain ⟨_, _, _, c3, _, _, c6, c7, _, _, _, c11⟩ := sv_cells g1
  rw [htx] at c11
  rw [h2] at c3
  have c11 : (w.alloc (.cells #[.string ⟨#[]⟩, .slice none 0 0, .slice none 0 0] 48)).cell? ⟨m.g, 11, none⟩ = some (.pointer (some ⟨gr, 0, none⟩)) := c11
  have HC : Hid (∀ V, Below w.heap.size w V → Calls Tryz.prog 42 #[m.vt] V fun e w' => ∃ v', e = .returned v' ∧ w'.ownsRow V.heap.size 9 1 v' s.tos.length (s.tos.map Value.string) ∧ Below V.heap.size V w') := fun V hb => by
    have := (h.below hb).1
    exact clone_own this.tos (by have := h.ok.tos; omega)
  have HX : Hid (∀ V, Below w.heap.size w V → Calls Tryz.prog 43 #[.pointer (some ⟨gr, 0, none⟩)] V fun e w' => ∃ a c, e = .returned (.slice a (Dt.textZ rs).length c) ∧ Row w' a (Dt.textZ rs) ∧ Below V.heap.size V w') := fun V hb => by
    have := (h.below hb).1.tx
    rw [hs, htx] at this
    obtain ⟨hr, k, hk, hf⟩ := this
    exact Dt.text_any Br gr rs V hr k hf (by omega)
  have hS0 : Below w.heap.size w (w.alloc (.cells #[.string ⟨#[]⟩, .slice none 0 0, .slice none 0 0] 48)) ∧ (w.alloc (.cells #[.string ⟨#[]⟩, .slice none 0 0, .slice none 0 0] 48)).cell? ⟨m.g, 6, none⟩ = some (.string s.sender) ∧ (w.alloc (.cells #[.string ⟨#[]⟩, .slice none 0 0, .slice none 0 0] 48)).cell? ⟨m.g, 7, none⟩ = some m.vt ∧ (w.alloc (.cells #[.string ⟨#[]⟩, .slice none 0 0, .slice none 0 0] 48)).cell? ⟨m.g, 11, none⟩ = some (.pointer (some ⟨gr, 0, none⟩)) := ⟨hk, c6, c7, c11⟩
  have hT0 : Blk (w.alloc (.cells #[.string ⟨#[]⟩, .slice none 0 0, .slice none 0 0] 48)).drew w.heap.size #[.string ⟨#[]⟩, .slice none 0 0, .slice none 0 0] 48 := World.alloc_heap_new w _
  have hgl : m.g < w.heap.size := h.blk.lt
  obtain ⟨g, hg⟩ : ∃ g, m.g = g := ⟨_, rfl⟩
  obtain ⟨vt, hvt⟩ : ∃ x, m.vt = x := ⟨_, rfl⟩
  obtain ⟨sd, hsd⟩ : ∃ x, s.sender = x := ⟨_, rfl⟩
  rw [hg] at hgl hm c3 c6 c7 c11 hS0 ⊢
  rw [hvt] at c7 hS0 HC
  rw [hsd] at c6 hS0 ⊢
  clear h g1 v1 hg hvt hsd
  go_enter Tryz.func18, Tryz.ntmps18
  go_wp2_with fail
  refine hm.mono ?_
  rintro e w1 ⟨rfl, rfl⟩
  clear hm
  go_wp2_with fail
  refine wp_region_held_drew (S := (fun V => Below w.heap.size w V ∧ V.cell? ⟨g, 6, none⟩ = some (.string sd) ∧ V.cell? ⟨g, 7, none⟩ = some vt ∧ V.cell? ⟨g, 11, none⟩ = some (.pointer (some ⟨gr, 0, none⟩)))) (by kernel_rfl) (by exact ⟨Below.drew hS0.1, hS0.2.1, hS0.2.2.1, hS0.2.2.2⟩) (fun hHeld => ?_)
  refine takeD (some 15) (i := 0) (v := .pointer (some ⟨g, 0, none⟩)) rfl rfl (by kernel_rfl) (by kernel_rfl) (by kernel_rfl) (fun _ _ _ h => h) (Or.inl ⟨by kernel_rfl, ?_⟩) (by assumption) ?_
  · (intro w hSw; (try dsimp only at hSw); go_simp)
  (try simp only [Act.put, List.setIfInBounds_toArray, List.set_cons_zero, List.set_cons_succ])
  refine takeD (some 16) (i := 1) (v := .pointer (some ⟨g, 0, none⟩)) rfl rfl (by kernel_rfl) (by kernel_rfl) (by kernel_rfl) (fun _ _ _ h => h) (Or.inl ⟨by kernel_rfl, ?_⟩) (by assumption) ?_
  · (intro w hSw; (try dsimp only at hSw); go_simp)
  (try simp only [Act.put, List.setIfInBounds_toArray, List.set_cons_zero, List.set_cons_succ])
  refine takeD (some 17) (i := 2) (v := .pointer (some ⟨g, 6, none⟩)) rfl rfl (by kernel_rfl) (by kernel_rfl) (by kernel_rfl) (fun _ _ _ h => h) (Or.inl ⟨by kernel_rfl, ?_⟩) (by assumption) ?_
  · (intro w hSw; (try dsimp only at hSw); go_simp)
  (try simp only [Act.put, List.setIfInBounds_toArray, List.set_cons_zero, List.set_cons_succ])
  refine takeD (some 18) (i := 3) (v := .string sd) rfl rfl (by kernel_rfl) (by kernel_rfl) (by kernel_rfl) (fun _ _ _ h => h) (Or.inl ⟨by kernel_rfl, ?_⟩) (by assumption) ?_
  · (intro w hSw; (try dsimp only at hSw); go_simp)
  (try simp only [Act.put, List.setIfInBounds_toArray, List.set_cons_zero, List.set_cons_succ])
  refine takeD (some 19) (i := 4) (v := .pointer (some ⟨g, 0, none⟩)) rfl rfl (by kernel_rfl) (by kernel_rfl) (by kernel_rfl) (fun _ _ _ h => h) (Or.inl ⟨by kernel_rfl, ?_⟩) (by assumption) ?_
  · (intro w hSw; (try dsimp only at hSw); go_simp)
  (try simp only [Act.put, List.setIfInBounds_toArray, List.set_cons_zero, List.set_cons_succ])
  refine takeD (some 20) (i := 5) (v := .pointer (some ⟨g, 0, none⟩)) rfl rfl (by kernel_rfl) (by kernel_rfl) (by kernel_rfl) (fun _ _ _ h => h) (Or.inl ⟨by kernel_rfl, ?_⟩) (by assumption) ?_
  · (intro w hSw; (try dsimp only at hSw); go_simp)
  (try simp only [Act.put, List.setIfInBounds_toArray, List.set_cons_zero, List.set_cons_succ])
  refine takeD (some 21) (i := 6) (v := .pointer (some ⟨g, 7, none⟩)) rfl rfl (by kernel_rfl) (by kernel_rfl) (by kernel_rfl) (fun _ _ _ h => h) (Or.inl ⟨by kernel_rfl, ?_⟩) (by assumption) ?_
  · (intro w hSw; (try dsimp only at hSw); go_simp)
  (try simp only [Act.put, List.setIfInBounds_toArray, List.set_cons_zero, List.set_cons_succ])
  refine takeD (some 22) (i := 7) (v := vt) rfl rfl (by kernel_rfl) (by kernel_rfl) (by kernel_rfl) (fun _ _ _ h => h) (Or.inl ⟨by kernel_rfl, ?_⟩) (by assumption) ?_
  · (intro w hSw; (try dsimp only at hSw); go_simp)
  (try simp only [Act.put, List.setIfInBounds_toArray, List.set_cons_zero, List.set_cons_succ])
  refine takeD (some 24) (i := 9) (v := .pointer (some ⟨g, 0, none⟩)) rfl rfl (by kernel_rfl) (by kernel_rfl) (by kernel_rfl) (fun _ _ _ h => h) (Or.inl ⟨by kernel_rfl, ?_⟩) (by assumption) ?_
  · (intro w hSw; (try dsimp only at hSw); go_simp)
  (try simp only [Act.put, List.setIfInBounds_toArray, List.set_cons_zero, List.set_cons_succ])
  refine takeD (some 25) (i := 10) (v := .pointer (some ⟨g, 0, none⟩)) rfl rfl (by kernel_rfl) (by kernel_rfl) (by kernel_rfl) (fun _ _ _ h => h) (Or.inl ⟨by kernel_rfl, ?_⟩) (by assumption) ?_
  · (intro w hSw; (try dsimp only at hSw); go_simp)
  (try simp only [Act.put, List.setIfInBounds_toArray, List.set_cons_zero, List.set_cons_succ])
  refine takeD (some 26) (i := 11) (v := .pointer (some ⟨g, 11, none⟩)) rfl rfl (by kernel_rfl) (by kernel_rfl) (by kernel_rfl) (fun _ _ _ h => h) (Or.inl ⟨by kernel_rfl, ?_⟩) (by assumption) ?_
  · (intro w hSw; (try dsimp only at hSw); go_simp)
  (try simp only [Act.put, List.setIfInBounds_toArray, List.set_cons_zero, List.set_cons_succ])
  refine takeD (some 27) (i := 12) (v := .pointer (some ⟨gr, 0, none⟩)) rfl rfl (by kernel_rfl) (by kernel_rfl) (by kernel_rfl) (fun _ _ _ h => h) (Or.inl ⟨by kernel_rfl, ?_⟩) (by assumption) ?_
  · (intro w hSw; (try dsimp only at hSw); go_simp)
  (try simp only [Act.put, List.setIfInBounds_toArray, List.set_cons_zero, List.set_cons_succ])
  clear hS0 c3 c6 c7 c11
  refine wpAnyH_ready (rs := [8]) (by kernel_rfl) (by simp) ?_
  refine AllReadyH.cons rfl (fun K hK => ?_) AllReadyH.nil
  go_simp
  refine (HC.out _ hHeld.1).mono ?_
  rintro e v1 ⟨x1, rfl, hown, hb1⟩
  obtain ⟨xo, xn, xk, rfl⟩ : ∃ xo xn xk, x1 = .slice xo xn xk := by
   rcases hown.2 with ⟨hv, _⟩ | ⟨_, _, _, hv, _⟩
   · exact ⟨_, _, _, hv⟩
   · exact ⟨_, _, _, hv⟩
  have hS1 := keepS hHeld hb1
  have hT1 : Blk v1 w.heap.size #[.string ⟨#[]⟩, .slice none 0 0, .slice none 0 0] 48 := (hb1.block _ hT0.lt).trans hT0
  refine hK.out _ _ (by exact hS1) (fun hHeld => ?_)
  clear hK K
  refine wpAnyH_ready (rs := [13]) (by kernel_rfl) (by simp) ?_
  refine AllReadyH.cons rfl (fun K hK => ?_) AllReadyH.nil
  go_simp
  refine (HX.out _ hHeld.1).mono ?_
  rintro e v2 ⟨xa, xc, rfl, hrow, hb2⟩
  have hS2 := keepS hHeld hb2
  have hT2 : Blk v2 w.heap.size #[.string ⟨#[]⟩, .slice none 0 0, .slice none 0 0] 48 := (hb2.block _ hT1.lt).trans hT1
  refine hK.out _ _ (by exact hS2) (fun hHeld => ?_)
  clear hK K
  refine wpAnyH_ready (rs := [14]) (by kernel_rfl) (by simp) ?_
  refine AllReadyH.cons rfl (fun K hK => ?_) AllReadyH.nil
  go_simp
  refine hK.out _ _ (by exact hS2) (fun hHeld => ?_)
  clear hK K
  have z0 : v2.cell? ⟨w.heap.size, 0, none⟩ = some (.string ⟨#[]⟩) := by rw [hT2.cell]; rfl
  have z1 : v2.cell? ⟨w.heap.size, 1, none⟩ = some (.slice none 0 0) := by rw [hT2.cell]; rfl
  have z2 : v2.cell? ⟨w.heap.size, 2, none⟩ = some (.slice none 0 0) := by rw [hT2.cell]; rfl
  have f0 := hT2.frozen 0
  have f1 := hT2.frozen 1
  have f2 := hT2.frozen 2
  refine wpAnyH_ready (rs := [15]) (by kernel_rfl) (by simp) ?_
  refine AllReadyH.cons rfl (fun K hK => ?_) AllReadyH.nil
  go_simp
  obtain ⟨hT3, hoth, hbl⟩ := set3 hT2 (.string sd) (.slice xo xn xk) (.slice xa (Dt.textZ rs).length xc)
  have hW : Row (((v2.setCell ⟨w.heap.size, 0, none⟩ (.string sd)).setCell ⟨w.heap.size, 1, none⟩ (.slice xo xn xk)).setCell ⟨w.heap.size, 2, none⟩ (.slice xa (Dt.textZ rs).length xc)) xa (Dt.textZ rs) := row_set3 hT2 hrow hoth
  have hO : (((v2.setCell ⟨w.heap.size, 0, none⟩ (.string sd)).setCell ⟨w.heap.size, 1, none⟩ (.slice xo xn xk)).setCell ⟨w.heap.size, 2, none⟩ (.slice xa (Dt.textZ rs).length xc)).ownsRow w.heap.size 9 1 (.slice xo xn xk) s.tos.length (s.tos.map Value.string) := row_base (row_keep hown (fun b hb => by
   have q := hown.lt b hb
   have q1 : w.heap.size + 1 ≤ b := by have := q.1; simpa using this
   rw [hoth b (by omega), hb2.block b q.2])) (by simp)
  have hS3 := hS2.1.trans (hbl _ (Nat.le_refl _))
  generalize ((v2.setCell ⟨w.heap.size, 0, none⟩ (.string sd)).setCell ⟨w.heap.size, 1, none⟩ (.slice xo xn xk)).setCell ⟨w.heap.size, 2, none⟩ (.slice xa (Dt.textZ rs).length xc) = W3 at hT3 hoth hbl hW hO hS3 ⊢
  refine hK.out _ _ (by exact ⟨hS3, (World.cell?_of_block (hoth g (by omega))).trans hS2.2.1, (World.cell?_of_block (hoth g (by omega))).trans hS2.2.2.1, (World.cell?_of_block (hoth g (by omega))).trans hS2.2.2.2⟩) (fun hHeld => ?_)
  clear hK K
  refine wpAnyH_ready (rs := [16]) (by kernel_rfl) (by simp) ?_
  refine AllReadyH.cons rfl (fun K hK => ?_) AllReadyH.nil
  go_simp
  refine hK.out _ _ (by exact hHeld) (fun hHeld => ?_)
  clear hK K
  refine wpAnyH_done (by kernel_rfl) ?_ _
  have y0 : W3.cell? ⟨w.heap.size, 0, none⟩ = some (.string sd) := by rw [hT3.cell]; rfl
  have y1 : W3.cell? ⟨w.heap.size, 1, none⟩ = some (.slice xo xn xk) := by rw [hT3.cell]; rfl
  have y2 : W3.cell? ⟨w.heap.size, 2, none⟩ = some (.slice xa (Dt.textZ rs).length xc) := by rw [hT3.cell]; rfl
  go_wp2
  (try simp only [Exit.inBlock, Exit.then])
  refine bodyPost_ret (v := .tuple #[.agg #[.string sd, .slice xo xn xk, .slice xa (Dt.textZ rs).length xc], .bool true]) (by simp [results, Tryz.results18, go_sem, y0, y1, y2]) rfl ⟨_, _, _, rfl, hO, hW, hS3⟩

end Go.Proofs.YtbckbonffajmeaaGreatDoor
