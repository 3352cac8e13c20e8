/-
  The contract of Decode.
-/
import Derived.Test.YtnhbmekhmkkccaaDoorWm
namespace Go.Proofs.YtnhbmekhmkkccaaDoor
open Go.RowKit Go.Shelf
set_option linter.unusedVariables false
attribute [local go_sem] Oper.semAt_some

theorem DJ.alloc {w : World} {s : ByteArray} {v : Value} {pre : List Int} {f wd : Bool} {W : World} (h : DJ w s v pre f wd W) (o : Obj) : DJ w s v pre f wd (W.alloc o) := h.below (keep W o)
theorem DJ.cells {w : World} {s : ByteArray} {v : Value} {pre : List Int} {f wd : Bool} {W : World} (h : DJ w s v pre f wd W) :
    W.cell? ⟨w.heap.size, 0, none⟩ = some v ∧ W.frozen? ⟨w.heap.size, 0, none⟩ = false ∧ W.cell? ⟨w.heap.size + 1, 0, none⟩ = some (.bool f) ∧ W.frozen? ⟨w.heap.size + 1, 0, none⟩ = false ∧ W.cell? ⟨w.heap.size + 2, 0, none⟩ = some (.bool wd) ∧ W.frozen? ⟨w.heap.size + 2, 0, none⟩ = false := by
  obtain ⟨h1, h2, h3, h4, h5, h6, h7⟩ := h
  refine ⟨?_, frozen_of_row _ _ _ _ _ h4, ?_, frozen_of_row _ _ _ _ _ h5, ?_, frozen_of_row _ _ _ _ _ h6⟩
  · rw [cell_of_row _ _ _ _ _ _ h4]; rfl
  · rw [cell_of_row _ _ _ _ _ _ h5]; rfl
  · rw [cell_of_row _ _ _ _ _ _ h6]; rfl
/-- What holds between two rounds of Decode. -/
def DI (w : World) (s : ByteArray) (k : Nat) (W : World) : Prop :=
  ∃ v pre f wd, DJ w s v pre f wd W ∧ Byt pre ∧ pre.length ≤ 1000301 * k ∧ pre ++ decP f wd ((pieces 32 (nums s)).drop k) = decodeL (nums s)
theorem DJ.grow_cells {w : World} {s : ByteArray} {v : Value} {pre : List Int} {f wd : Bool} {W Wa w2 : World} (h : DJ w s v pre f wd W) (hb : Below W.heap.size W Wa) (hg : Wa.grownBy w2 v.ownBlock) :
    w2.cell? ⟨w.heap.size, 0, none⟩ = some v ∧ w2.frozen? ⟨w.heap.size, 0, none⟩ = false ∧ w2.cell? ⟨w.heap.size + 1, 0, none⟩ = some (.bool f) ∧ w2.frozen? ⟨w.heap.size + 1, 0, none⟩ = false ∧ w2.cell? ⟨w.heap.size + 2, 0, none⟩ = some (.bool wd) ∧ w2.frozen? ⟨w.heap.size + 2, 0, none⟩ = false := by
  obtain ⟨h1, h2, h3, h4, h5, h6, h7⟩ := h.below hb
  have blk : ∀ k, k < w.heap.size + 4 → w2.heap[k]? = Wa.heap[k]? := fun k hk => hg.block k (by omega) (fun e => by have := (h7.lt _ e.symm).1; omega)
  have e4 := (blk _ (by omega)).trans h4
  have e5 := (blk _ (by omega)).trans h5
  have e6 := (blk _ (by omega)).trans h6
  refine ⟨?_, frozen_of_row _ _ _ _ _ e4, ?_, frozen_of_row _ _ _ _ _ e5, ?_, frozen_of_row _ _ _ _ _ e6⟩
  · rw [cell_of_row _ _ _ _ _ _ e4]; rfl
  · rw [cell_of_row _ _ _ _ _ _ e5]; rfl
  · rw [cell_of_row _ _ _ _ _ _ e6]; rfl
def dW (w : World) (s : ByteArray) : World := (((w.alloc (.cells #[.slice none 0 0] 31)).alloc (.cells #[.bool true] 4)).alloc (.cells #[.bool false] 4)).alloc (.cells #[.string s] 9)
theorem dec_first (w : World) (s : ByteArray) : DJ w s (.slice none 0 0) [] true false (dW w s) ∧ (dW w s).heap.size = w.heap.size + 4 := by
  unfold dW
  have z1 : (w.alloc (.cells #[.slice none 0 0] 31)).heap.size = w.heap.size + 1 := by simp
  have z2 : ((w.alloc (.cells #[.slice none 0 0] 31)).alloc (.cells #[.bool true] 4)).heap.size = w.heap.size + 2 := by simp
  have z3 : (((w.alloc (.cells #[.slice none 0 0] 31)).alloc (.cells #[.bool true] 4)).alloc (.cells #[.bool false] 4)).heap.size = w.heap.size + 3 := by simp
  refine ⟨⟨(((keep w _).alloc (by omega) _).alloc (by omega) _).alloc (by omega) _, by simp, ?_, ?_, ?_, ?_, World.ownsRow_nil _ _ _ _⟩, by simp⟩
  · have := World.alloc_heap_new (((w.alloc (.cells #[.slice none 0 0] 31)).alloc (.cells #[.bool true] 4)).alloc (.cells #[.bool false] 4)) (.cells #[.string s] 9)
    rw [z3] at this; exact this
  · rw [Below.heap_alloc _ _ _ (by omega), Below.heap_alloc _ _ _ (by omega), Below.heap_alloc _ _ _ (by omega)]
    exact World.alloc_heap_new w _
  · rw [Below.heap_alloc _ _ _ (by omega), Below.heap_alloc _ _ _ (by omega)]
    have := World.alloc_heap_new (w.alloc (.cells #[.slice none 0 0] 31)) (.cells #[.bool true] 4)
    rw [z1] at this; exact this
  · rw [Below.heap_alloc _ _ _ (by omega)]
    have := World.alloc_heap_new ((w.alloc (.cells #[.slice none 0 0] 31)).alloc (.cells #[.bool true] 4)) (.cells #[.bool false] 4)
    rw [z2] at this; exact this
theorem dec_step (f wd : Bool) {p : List Int} {L : List (List Int)} {k : Nat} (h : L[k]? = some p) : decP f wd (L.drop k) = (if f = false ∧ (wd && (oneR p).isSome) = false then [32] else []) ++ (oneR p).getD p ++ decP false (oneR p).isSome (L.drop (k + 1)) := by
  obtain ⟨hk, e⟩ := List.getElem?_eq_some_iff.1 h
  rw [List.drop_eq_getElem_cons hk, e, decP]

set_option maxHeartbeats 8000000 in
set_option maxRecDepth 100000 in
theorem decode_any (s : ByteArray) (m : Int) (w : World) (hs : s.size ≤ 1000000) (hm : w.cell? ⟨0, 0, none⟩ = some (.int .i64 m)) :
    Calls Tryd.prog 16 #[.string s] w fun e w' => e = .returned (.string (strOfNums (decodeL (nums s)))) ∧ Below w.heap.size w w' := by
  obtain ⟨j0, hi, hz0, hz1, hz2⟩ := info_parts Tryd.info5
  have h0lt := World.block_lt_of_cell? w _ hm
  simp only at h0lt
  obtain ⟨hD0, hsz0⟩ := dec_first w s
  refine (callsIn_wide (n := 20)).1 ?_
  refine callsIn_of_wp_marks Tryd.func16 rfl trivial ?_ rfl
  simp only [Tryd.ntmps16, List.size_toArray, List.length_cons, List.length_nil, Nat.reduceAdd, Nat.reduceSub, Array.replicate_succ, Array.replicate_zero, List.push_toArray, List.append_toArray, List.nil_append, List.cons_append]
  gi_wp2_with (refine ⟨trivial, ?_⟩; gi_at_call 38; refine (callsIn_wide.2 (parts_any s _)).mono ?_; rintro e w' ⟨rfl, rfl⟩)
  rw [show w.heap.size + 1 + 1 + 1 = w.heap.size + 3 from rfl, show w.heap.size + 1 + 1 = w.heap.size + 2 from rfl, show (((w.alloc (.cells #[.slice none 0 0] 31)).alloc (.cells #[.bool true] 4)).alloc (.cells #[.bool false] 4)).alloc (.cells #[.string s] 9) = dW w s from rfl]
  generalize dW w s = W0 at hD0 hsz0 ⊢
  refine range_vals 20 (by omega) 65 (w.heap.size + 3) (partsV (nums s)) (fun W => Sx W (w.heap.size + 3) s) (parts_iter 19 (by omega) _ s (by omega)) rfl (DI w s) (fun args W => by simp [go_sem]) ?cg ?cd ?ct ?ca ?cz
    (fun x => { tmps := #[.string s, undef, .string ⟨#[]⟩, .pointer (some ⟨w.heap.size, 0, none⟩), .pointer (some ⟨w.heap.size + 1, 0, none⟩), .pointer (some ⟨w.heap.size + 2, 0, none⟩), x, undef, undef, .string s, .func (.func 65) #[] #[.pointer (some ⟨w.heap.size + 3, 0, none⟩)], x, undef, undef, undef, undef, undef, undef, undef, undef, undef, undef, undef, undef, undef, undef, undef, undef, undef, undef, undef, undef, undef, undef, undef, undef, undef, undef], defers := [] }) ?assign ?body ?done
  case cg => rintro k W ⟨v, pre, f, wd, h, _⟩; exact h.2.2.1
  case cd => rintro k W q ⟨v, pre, f, wd, h, h'⟩; exact ⟨v, pre, f, wd, h.below (below_drewN (Below.refl _ _) q), h'⟩
  case ct => rintro k W l o o' ⟨v, pre, f, wd, h, h'⟩ hl ho hc; exact ⟨v, pre, f, wd, h.put o' (by omega) ho hc, h'⟩
  case ca => rintro k W o ⟨v, pre, f, wd, h, h'⟩; exact ⟨v, pre, f, wd, h.alloc o, h'⟩
  case cz => exact ⟨_, [], true, false, hD0, (by intro x hx; cases hx), by simp, by simp [decodeL]⟩
  case assign =>
    intro l x W K hK
    gi_wp2
    exact hK
  case body =>
    intro l k x0 W hx0 hI
    obtain ⟨v, pre, f, wd, hJ, hby, hpl, hpre⟩ := hI
    obtain ⟨p, hp, hxe⟩ : ∃ p, (pieces 32 (nums s))[k]? = some p ∧ .string (strOfNums p) = x0 := by
      unfold partsV at hx0
      rw [List.getElem?_map] at hx0
      obtain ⟨p, h1, h2⟩ := Option.map_eq_some_iff.1 hx0
      exact ⟨p, h1, h2⟩
    have hpb : Byt p := by
      obtain ⟨a, b, e⟩ := piece_in _ p (List.mem_of_getElem? hp)
      intro y hy
      exact nums_byt s y (by rw [e]; simp [hy])
    have hpz : p.length ≤ s.size := by have := piece_len _ p (List.mem_of_getElem? hp); rwa [nums_len] at this
    have hkl : k ≤ s.size := by
      have h1 := (List.getElem?_eq_some_iff.1 hp).1
      have h2 := pieces_count (c := 32) (nums s)
      rw [nums_len] at h2; omega
    obtain ⟨x, rfl⟩ : ∃ x, x = strOfNums p := ⟨_, rfl⟩
    subst hxe
    have hnx : nums (strOfNums p) = p := nums_str hpb
    have HST : Hid (decodeL (nums s) = pre ++ ((if f = false ∧ (wd && (oneR p).isSome) = false then [32] else []) ++ (oneR p).getD p ++ decP false (oneR p).isSome ((pieces 32 (nums s)).drop (k + 1)))) := by
      unfold Hid; rw [← hpre, dec_step f wd hp]
    generalize strOfNums p = x at hnx ⊢
    subst hnx
    rw [nums_len] at hpz
    have HBY : Hid (Byt pre) := hby
    have HJ0 : Hid (DJ w s v pre f wd W) := hJ
    have hmW : W.cell? ⟨0, 0, none⟩ = some (.int .i64 m) := (hJ.1.cell h0lt).trans hm
    have hone := CallsIn.inRound l ((callsIn_wide (n := 17)).2 (one_any x m W (by omega) hmW))
    clear hby hpre hp hpb hx0 hJ hmW hD0
    gi_wp2_with fail
    refine ⟨trivial, hone.mono ?_⟩
    clear hone
    rintro e W1 ⟨y, b, rfl, hans, hb1⟩
    have HJ1 : Hid (DJ w s v pre f wd W1) := HJ0.out.below hb1
    have HK1 : Hid (KeepN W W1) := keepN_below hb1
    have HA : Hid (OAns b y (oneR (nums x))) := hans
    have hyz : b = true → y.size ≤ 300 := fun e => by have := one_len (hans.1 e); rwa [nums_len] at this
    clear hans hb1 HJ0
    obtain ⟨a0, cap0, rfl, _⟩ := own_row' HJ1.out.2.2.2.2.2.2
    obtain ⟨c0, c1, c2, c3, c4, c5⟩ := HJ1.out.cells
    rcases f with _ | _
    · rcases wd with _ | _
      · rcases b with _ | _
        · have hr := (HA.out.2 rfl).1
          have hzz := hpz
          rw [hr] at HST
          clear hr hyz HA hpz
          gi_wp2_with (first | (gi_at_builtin; refine wpListIn_append_own _ rfl (.tmp 29) (.tmp 30) 31 rfl (w.heap.size + 4) 5 j0 (.int .u8 0) 1 1 Tryd.underlying31 hi hz0 hz1 hz2 rfl (by decide) _ _ _ rfl (HJ1.out.2.2.2.2.2.2.alloc _) ⟨W1.heap.size, 0, none⟩ 1 1 (([32] : List Int).map (Value.int .u8)) rfl rfl (cells_new _ _ _) (ints_one _) (by unfold maxLen; omega) (by omega) (by have := HJ1.out.2.1; simp; omega) ?_; intro v2 w2 hown2 hgrow2 _; obtain ⟨hT2, HD2, HK2⟩ := HJ1.out.grow (x := [32]) (keep W1 _) (by rw [List.length_append, List.map_append]; exact hown2) hgrow2; generalize hp2 : pre ++ [32] = pre2 at HD2; have HP2 : Hid (pre ++ [32] = pre2) := hp2; have hl2 : pre2.length ≤ pre.length + 1 := (by rw [← hp2]; simp); clear hp2; have hc2 := HJ1.out.grow_cells (keep W1 _) hgrow2; obtain ⟨d0, d1, d2, d3, d4, d5⟩ := hc2; obtain ⟨a2, cap2, rfl, _⟩ := own_row' HD2.2.2.2.2.2.2; clear hown2 hgrow2 hT2 c0 c1 c2 c3 c4 c5) | (gi_at_builtin; refine wpListIn_append_str _ rfl (.tmp 32) (.tmp 33) 31 9 rfl (w.heap.size + 4) 5 j0 Tryd.underlying31 Tryd.underlying9 hi hz0 hz1 hz2 _ _ _ rfl HD2.2.2.2.2.2.2 x rfl (by unfold maxLen; omega) (by omega) (HD2.2.1) ?_; intro v3 w3 hown3 hgrow3 _; obtain ⟨hT3, HD3, HK3⟩ := HD2.grow (x := nums x) (Below.refl _ _) (by rw [List.length_append, List.map_append, nums_len, ← strCells_nums]; exact hown3) hgrow3; generalize hp3 : pre2 ++ nums x = pre3 at HD3; have HP3 : Hid (pre2 ++ nums x = pre3) := hp3; have hl3 : pre3.length ≤ pre2.length + x.size := (by rw [← hp3]; simp [nums_len]); clear hp3; have hc3 := HD2.grow_cells (Below.refl _ _) hgrow3; obtain ⟨g0, g1, g2, g3, g4, g5⟩ := hc3; obtain ⟨a3, cap3, rfl, _⟩ := own_row' HD3.2.2.2.2.2.2; clear hown3 hgrow3 hT3))
          obtain ⟨HF, HKF⟩ := HD3.flags false false
          refine ⟨⟨_, pre3, false, false, HF, ?_, by omega, ?_⟩, HK1.out.trans (HK2.trans (HK3.trans HKF))⟩
          · rw [← HP3.out]; exact (show Byt pre2 from by rw [← HP2.out]; exact HBY.out.append (by intro q hq; simp at hq; omega)).append (nums_byt _)
          · rw [HST.out, ← HP3.out, ← HP2.out]; simp
        · have hr := HA.out.1 rfl
          have hzz := hyz rfl
          rw [hr] at HST
          clear hr hyz HA hpz
          gi_wp2_with (first | (gi_at_builtin; refine wpListIn_append_own _ rfl (.tmp 29) (.tmp 30) 31 rfl (w.heap.size + 4) 5 j0 (.int .u8 0) 1 1 Tryd.underlying31 hi hz0 hz1 hz2 rfl (by decide) _ _ _ rfl (HJ1.out.2.2.2.2.2.2.alloc _) ⟨W1.heap.size, 0, none⟩ 1 1 (([32] : List Int).map (Value.int .u8)) rfl rfl (cells_new _ _ _) (ints_one _) (by unfold maxLen; omega) (by omega) (by have := HJ1.out.2.1; simp; omega) ?_; intro v2 w2 hown2 hgrow2 _; obtain ⟨hT2, HD2, HK2⟩ := HJ1.out.grow (x := [32]) (keep W1 _) (by rw [List.length_append, List.map_append]; exact hown2) hgrow2; generalize hp2 : pre ++ [32] = pre2 at HD2; have HP2 : Hid (pre ++ [32] = pre2) := hp2; have hl2 : pre2.length ≤ pre.length + 1 := (by rw [← hp2]; simp); clear hp2; have hc2 := HJ1.out.grow_cells (keep W1 _) hgrow2; obtain ⟨d0, d1, d2, d3, d4, d5⟩ := hc2; obtain ⟨a2, cap2, rfl, _⟩ := own_row' HD2.2.2.2.2.2.2; clear hown2 hgrow2 hT2 c0 c1 c2 c3 c4 c5) | (gi_at_builtin; refine wpListIn_append_str _ rfl (.tmp 32) (.tmp 33) 31 9 rfl (w.heap.size + 4) 5 j0 Tryd.underlying31 Tryd.underlying9 hi hz0 hz1 hz2 _ _ _ rfl HD2.2.2.2.2.2.2 y rfl (by unfold maxLen; omega) (by omega) (HD2.2.1) ?_; intro v3 w3 hown3 hgrow3 _; obtain ⟨hT3, HD3, HK3⟩ := HD2.grow (x := nums y) (Below.refl _ _) (by rw [List.length_append, List.map_append, nums_len, ← strCells_nums]; exact hown3) hgrow3; generalize hp3 : pre2 ++ nums y = pre3 at HD3; have HP3 : Hid (pre2 ++ nums y = pre3) := hp3; have hl3 : pre3.length ≤ pre2.length + y.size := (by rw [← hp3]; simp [nums_len]); clear hp3; have hc3 := HD2.grow_cells (Below.refl _ _) hgrow3; obtain ⟨g0, g1, g2, g3, g4, g5⟩ := hc3; obtain ⟨a3, cap3, rfl, _⟩ := own_row' HD3.2.2.2.2.2.2; clear hown3 hgrow3 hT3))
          obtain ⟨HF, HKF⟩ := HD3.flags false true
          refine ⟨⟨_, pre3, false, true, HF, ?_, by omega, ?_⟩, HK1.out.trans (HK2.trans (HK3.trans HKF))⟩
          · rw [← HP3.out]; exact (show Byt pre2 from by rw [← HP2.out]; exact HBY.out.append (by intro q hq; simp at hq; omega)).append (nums_byt _)
          · rw [HST.out, ← HP3.out, ← HP2.out]; simp
      · rcases b with _ | _
        · have hr := (HA.out.2 rfl).1
          have hzz := hpz
          rw [hr] at HST
          clear hr hyz HA hpz
          gi_wp2_with (first | (gi_at_builtin; refine wpListIn_append_own _ rfl (.tmp 29) (.tmp 30) 31 rfl (w.heap.size + 4) 5 j0 (.int .u8 0) 1 1 Tryd.underlying31 hi hz0 hz1 hz2 rfl (by decide) _ _ _ rfl (HJ1.out.2.2.2.2.2.2.alloc _) ⟨W1.heap.size, 0, none⟩ 1 1 (([32] : List Int).map (Value.int .u8)) rfl rfl (cells_new _ _ _) (ints_one _) (by unfold maxLen; omega) (by omega) (by have := HJ1.out.2.1; simp; omega) ?_; intro v2 w2 hown2 hgrow2 _; obtain ⟨hT2, HD2, HK2⟩ := HJ1.out.grow (x := [32]) (keep W1 _) (by rw [List.length_append, List.map_append]; exact hown2) hgrow2; generalize hp2 : pre ++ [32] = pre2 at HD2; have HP2 : Hid (pre ++ [32] = pre2) := hp2; have hl2 : pre2.length ≤ pre.length + 1 := (by rw [← hp2]; simp); clear hp2; have hc2 := HJ1.out.grow_cells (keep W1 _) hgrow2; obtain ⟨d0, d1, d2, d3, d4, d5⟩ := hc2; obtain ⟨a2, cap2, rfl, _⟩ := own_row' HD2.2.2.2.2.2.2; clear hown2 hgrow2 hT2 c0 c1 c2 c3 c4 c5) | (gi_at_builtin; refine wpListIn_append_str _ rfl (.tmp 32) (.tmp 33) 31 9 rfl (w.heap.size + 4) 5 j0 Tryd.underlying31 Tryd.underlying9 hi hz0 hz1 hz2 _ _ _ rfl HD2.2.2.2.2.2.2 x rfl (by unfold maxLen; omega) (by omega) (HD2.2.1) ?_; intro v3 w3 hown3 hgrow3 _; obtain ⟨hT3, HD3, HK3⟩ := HD2.grow (x := nums x) (Below.refl _ _) (by rw [List.length_append, List.map_append, nums_len, ← strCells_nums]; exact hown3) hgrow3; generalize hp3 : pre2 ++ nums x = pre3 at HD3; have HP3 : Hid (pre2 ++ nums x = pre3) := hp3; have hl3 : pre3.length ≤ pre2.length + x.size := (by rw [← hp3]; simp [nums_len]); clear hp3; have hc3 := HD2.grow_cells (Below.refl _ _) hgrow3; obtain ⟨g0, g1, g2, g3, g4, g5⟩ := hc3; obtain ⟨a3, cap3, rfl, _⟩ := own_row' HD3.2.2.2.2.2.2; clear hown3 hgrow3 hT3))
          obtain ⟨HF, HKF⟩ := HD3.flags false false
          refine ⟨⟨_, pre3, false, false, HF, ?_, by omega, ?_⟩, HK1.out.trans (HK2.trans (HK3.trans HKF))⟩
          · rw [← HP3.out]; exact (show Byt pre2 from by rw [← HP2.out]; exact HBY.out.append (by intro q hq; simp at hq; omega)).append (nums_byt _)
          · rw [HST.out, ← HP3.out, ← HP2.out]; simp
        · have hr := HA.out.1 rfl
          have hzz := hyz rfl
          rw [hr] at HST
          clear hr hyz HA hpz
          gi_wp2_with (gi_at_builtin; refine wpListIn_append_str _ rfl (.tmp 32) (.tmp 33) 31 9 rfl (w.heap.size + 4) 5 j0 Tryd.underlying31 Tryd.underlying9 hi hz0 hz1 hz2 _ _ _ rfl HJ1.out.2.2.2.2.2.2 y rfl (by unfold maxLen; omega) (by omega) (HJ1.out.2.1) ?_; intro v3 w3 hown3 hgrow3 _; obtain ⟨hT3, HD3, HK3⟩ := HJ1.out.grow (x := nums y) (Below.refl _ _) (by rw [List.length_append, List.map_append, nums_len, ← strCells_nums]; exact hown3) hgrow3; generalize hp3 : pre ++ nums y = pre3 at HD3; have HP3 : Hid (pre ++ nums y = pre3) := hp3; have hl3 : pre3.length ≤ pre.length + y.size := (by rw [← hp3]; simp [nums_len]); clear hp3; have hc3 := HJ1.out.grow_cells (Below.refl _ _) hgrow3; obtain ⟨g0, g1, g2, g3, g4, g5⟩ := hc3; obtain ⟨a3, cap3, rfl, _⟩ := own_row' HD3.2.2.2.2.2.2; clear hown3 hgrow3 hT3)
          obtain ⟨HF, HKF⟩ := HD3.flags false true
          refine ⟨⟨_, pre3, false, true, HF, ?_, by omega, ?_⟩, HK1.out.trans (HK3.trans HKF)⟩
          · rw [← HP3.out]; exact HBY.out.append (nums_byt _)
          · rw [HST.out, ← HP3.out]; simp
    · rcases b with _ | _
      · have hr := (HA.out.2 rfl).1
        have hzz := hpz
        rw [hr] at HST
        clear hr hyz HA hpz
        gi_wp2_with (gi_at_builtin; refine wpListIn_append_str _ rfl (.tmp 32) (.tmp 33) 31 9 rfl (w.heap.size + 4) 5 j0 Tryd.underlying31 Tryd.underlying9 hi hz0 hz1 hz2 _ _ _ rfl HJ1.out.2.2.2.2.2.2 x rfl (by unfold maxLen; omega) (by omega) (HJ1.out.2.1) ?_; intro v3 w3 hown3 hgrow3 _; obtain ⟨hT3, HD3, HK3⟩ := HJ1.out.grow (x := nums x) (Below.refl _ _) (by rw [List.length_append, List.map_append, nums_len, ← strCells_nums]; exact hown3) hgrow3; generalize hp3 : pre ++ nums x = pre3 at HD3; have HP3 : Hid (pre ++ nums x = pre3) := hp3; have hl3 : pre3.length ≤ pre.length + x.size := (by rw [← hp3]; simp [nums_len]); clear hp3; have hc3 := HJ1.out.grow_cells (Below.refl _ _) hgrow3; obtain ⟨g0, g1, g2, g3, g4, g5⟩ := hc3; obtain ⟨a3, cap3, rfl, _⟩ := own_row' HD3.2.2.2.2.2.2; clear hown3 hgrow3 hT3)
        obtain ⟨HF, HKF⟩ := HD3.flags false false
        refine ⟨⟨_, pre3, false, false, HF, ?_, by omega, ?_⟩, HK1.out.trans (HK3.trans HKF)⟩
        · rw [← HP3.out]; exact HBY.out.append (nums_byt _)
        · rw [HST.out, ← HP3.out]; simp
      · have hr := HA.out.1 rfl
        have hzz := hyz rfl
        rw [hr] at HST
        clear hr hyz HA hpz
        gi_wp2_with (gi_at_builtin; refine wpListIn_append_str _ rfl (.tmp 32) (.tmp 33) 31 9 rfl (w.heap.size + 4) 5 j0 Tryd.underlying31 Tryd.underlying9 hi hz0 hz1 hz2 _ _ _ rfl HJ1.out.2.2.2.2.2.2 y rfl (by unfold maxLen; omega) (by omega) (HJ1.out.2.1) ?_; intro v3 w3 hown3 hgrow3 _; obtain ⟨hT3, HD3, HK3⟩ := HJ1.out.grow (x := nums y) (Below.refl _ _) (by rw [List.length_append, List.map_append, nums_len, ← strCells_nums]; exact hown3) hgrow3; generalize hp3 : pre ++ nums y = pre3 at HD3; have HP3 : Hid (pre ++ nums y = pre3) := hp3; have hl3 : pre3.length ≤ pre.length + y.size := (by rw [← hp3]; simp [nums_len]); clear hp3; have hc3 := HJ1.out.grow_cells (Below.refl _ _) hgrow3; obtain ⟨g0, g1, g2, g3, g4, g5⟩ := hc3; obtain ⟨a3, cap3, rfl, _⟩ := own_row' HD3.2.2.2.2.2.2; clear hown3 hgrow3 hT3)
        obtain ⟨HF, HKF⟩ := HD3.flags false true
        refine ⟨⟨_, pre3, false, true, HF, ?_, by omega, ?_⟩, HK1.out.trans (HK3.trans HKF)⟩
        · rw [← HP3.out]; exact HBY.out.append (nums_byt _)
        · rw [HST.out, ← HP3.out]; simp
  case done =>
    intro D W hD hI hK
    rw [show (partsV (nums s)).length = (pieces 32 (nums s)).length by simp [partsV]] at hI
    obtain ⟨v, pre, f, wd, hJ, hby, hpl, hpre⟩ := hI
    rw [List.drop_length, decP, List.append_nil] at hpre
    have HE : Hid (pre = decodeL (nums s)) := hpre
    obtain ⟨a0, cap0, rfl, _, _, hrow, _⟩ := own_row' hJ.2.2.2.2.2.2
    obtain ⟨c0, _, _, _, _, _⟩ := hJ.cells
    have kc := conv_row pre.length cap0 rfl hrow
    have HB : Hid (Below w.heap.size w W) := hJ.1
    have hWs : w.heap.size ≤ W.heap.size := hJ.1.size
    have HK : Hid (W.heap[D]? = some (.deferred (some []))) := hK
    clear hpre hJ hK hrow hD0
    gi_wp2
    refine ⟨by simp, .inl ⟨_, _, rfl, run_takeDeferred HK.out, ?_⟩⟩
    exact ⟨.string (strOfNums pre), by simp [results, Tryd.results16, go_sem], by rw [HE.out], below_put HB.out hWs (by omega) _⟩
end Go.Proofs.YtnhbmekhmkkccaaDoor
