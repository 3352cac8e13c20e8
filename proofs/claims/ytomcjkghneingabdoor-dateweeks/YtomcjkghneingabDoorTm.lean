/-
  The words of a date as a list: the contract of listed.
-/
import Derived.Test.YtomcjkghneingabDoorTl
namespace Go.Proofs.YtomcjkghneingabDoor
open Go.RowKit Go.Shelf
set_option linter.unusedVariables false
set_option linter.unusedSimpArgs false
attribute [local go_sem] Oper.semAt_some

theorem Tryd.info9 : (Tryd.prog.info? 9).map (fun i => (i.zero, i.size, i.bytes)) = some (some (.string ⟨#[]⟩), 1, 16) := by kernel_rfl
/-- What lies where a list of texts begins. -/
def SRow (w : World) (a : Option Addr) (xs : List ByteArray) : Prop := xs = [] ∨ ∃ g off, a = some ⟨g, off, none⟩ ∧ ∀ i x, xs[i]? = some x → w.cell? ⟨g, off + i, none⟩ = some (.string x)
theorem SRow.below {w w' : World} {a : Option Addr} {xs : List ByteArray} (h : SRow w a xs) (hb : Below w.heap.size w w') : SRow w' a xs := by
  rcases h with h | ⟨g, off, rfl, h⟩
  · exact .inl h
  · exact .inr ⟨g, off, rfl, fun i x hx => cell_keep hb (h i x hx)⟩
theorem SRow.put {w : World} {a : Option Addr} {xs : List ByteArray} {D : Nat} {o : Obj} {ds : Option (List Deferred)} (h : SRow w a xs) (hD : w.heap[D]? = some (.deferred ds)) : SRow (w.putObj D o) a xs := by
  rcases h with h | ⟨g, off, rfl, h⟩
  · exact .inl h
  · refine .inr ⟨g, off, rfl, fun i x hx => ?_⟩
    have h0 := h i x hx
    refine (World.cell?_of_block (w := w) (World.putObj_heap_other ?_)).trans h0
    rintro rfl
    simp [World.cell?, hD] at h0
theorem ownS_row {W : World} {B : Nat} {v : Value} {xs : List ByteArray} (h : W.ownsRow B 9 1 v xs.length (xs.map Value.string)) : ∃ a cap, v = .slice a xs.length cap ∧ xs.length ≤ cap ∧ SRow W a xs := by
  obtain ⟨a, cap, rfl, hr⟩ := ownS_view h
  refine ⟨a, cap, rfl, ?_, ?_⟩
  · rcases h.2 with ⟨e, hn⟩ | ⟨g, cap', cur, e, hb, hg, hn, hm⟩
    · rw [hn]; exact Nat.zero_le _
    · cases e; omega
  · rcases hr with hh | ⟨g, hg, hh⟩
    · exact .inl hh
    · exact .inr ⟨g, 0, hg, fun i x hx => by rw [Nat.zero_add]; exact hh i x hx⟩
/-- Between two words. -/
def LI (w : World) (L : List (List Int)) (k : Nat) (V : World) : Prop :=
  ∃ (v : Value) (pre : List ByteArray), pre.length = k ∧ V.heap[w.heap.size]? = some (.cells #[v] 32 (0, 0)) ∧ V.ownsRow (w.heap.size + 4) 9 1 v pre.length (pre.map Value.string) ∧ (∀ (i : Nat) (x : ByteArray), pre[i]? = some x → L[i]? = some (nums x)) ∧ Below w.heap.size w V
theorem below_tk {O : Nat → Prop} {w V V' : World} (h : Below w.heap.size w V) (ht : Tk O V V') (hO : ∀ b, O b → w.heap.size ≤ b) : Below w.heap.size w V' :=
  ⟨ht.1.trans h.os, ht.2.1.trans h.tape, ht.2.2.1.trans h.output, Nat.le_trans h.size ht.size, fun b hb => (ht.2.2.2.2 b (by have := h.size; omega) (fun q => by have := hO b q; omega)).trans (h.block b hb)⟩
theorem LI.tk {w : World} {L : List (List Int)} {k : Nat} {V V' : World} (h : LI w L k V) (ht : Tk (fun b => False ∨ b = w.heap.size + 3) V V') : LI w L k V' := by
  obtain ⟨v, pre, h1, h2, h3, h4, h5⟩ := h
  exact ⟨v, pre, h1, ht.kept h2 (by simp), own_tk h3 ht (fun b hb => by rcases hb with hb | hb; exact hb.elim; omega), h4, below_tk h5 ht (fun b hb => by rcases hb with hb | hb; exact hb.elim; omega)⟩
theorem LI.fin {w : World} {L : List (List Int)} {k : Nat} {V : World} (h : LI w L k V) (hk : k ≤ L.length) : ∃ v, V.cell? ⟨w.heap.size, 0, none⟩ = some v ∧ ∃ a cap xs, v = .slice a xs.length cap ∧ xs.length ≤ cap ∧ SRow V a xs ∧ xs.map nums = L.take k ∧ Below w.heap.size w V := by
  obtain ⟨v, pre, h1, h2, h3, h4, h5⟩ := h
  obtain ⟨a, cap, rfl, hc, hr⟩ := ownS_row h3
  refine ⟨_, by rw [cell_of_row _ _ _ _ _ _ h2]; rfl, a, cap, pre, rfl, hc, hr, ?_, h5⟩
  refine List.ext_getElem? fun i => ?_
  rw [List.getElem?_map, List.getElem?_take]
  by_cases q : i < k
  · rw [if_pos q]
    have hi : i < pre.length := by omega
    rw [h4 i pre[i] (List.getElem?_eq_getElem hi), List.getElem?_eq_getElem hi]; rfl
  · rw [if_neg q, List.getElem?_eq_none (by omega)]; rfl
set_option maxHeartbeats 8000000 in
set_option maxRecDepth 100000 in
theorem listed_any (s : ByteArray) (w : World) (hs : s.size ≤ 100000000) : Calls Tryd.prog 14 #[.string s] w fun e w' => ∃ a cap xs, e = .returned (.slice a xs.length cap) ∧ xs.length ≤ cap ∧ SRow w' a xs ∧ xs.map nums = listZ (nums s) ∧ Below w.heap.size w w' := by
  obtain ⟨j0, hi, hz0, hz1, hz2⟩ := info_parts Tryd.info9
  refine (callsIn_wide (n := 20)).1 ?_
  refine callsIn_of_wp_marks Tryd.func14 rfl trivial ?_ rfl
  simp only [Tryd.ntmps14, List.size_toArray, List.length_cons, List.length_nil, Nat.reduceAdd, Nat.reduceSub, Array.replicate_succ, Array.replicate_zero, List.push_toArray, List.append_toArray, List.nil_append, List.cons_append]
  have hw59 := words_any s (w.alloc (.cells #[.slice none 0 0] 32))
  rw [World.size_alloc] at hw59
  gi_wp2_with fail
  refine ⟨trivial, (callsIn_wide.2 hw59).mono ?_⟩
  clear hw59
  rintro e w2 ⟨rfl, hw2⟩
  have hz2' : w2.heap.size = w.heap.size + 2 := by rw [hw2]; simp
  have HS : Hid (Sx w2 (w.heap.size + 1) s) := by
    unfold Hid Sx
    have := World.alloc_heap_new (w.alloc (.cells #[.slice none 0 0] 32)) (.cells #[.string s] 9)
    rw [World.size_alloc] at this
    rw [hw2]; exact this
  have HB2 : Hid (Below w.heap.size w w2) := by rw [hw2]; exact (keep w _).alloc (by simp) _
  have HL0 : Hid (w2.heap[w.heap.size]? = some (.cells #[.slice none 0 0] 32 (0, 0))) := by
    unfold Hid
    rw [hw2, Below.heap_alloc _ _ _ (by simp)]
    exact World.alloc_heap_new w _
  clear hw2
  obtain ⟨L, hL⟩ : ∃ L, wsZ (behZ (nums s)) = L := ⟨_, rfl⟩
  have HZ : Hid (listZ (nums s) = L.take 8) := by unfold Hid listZ; rw [hL]
  have HWV : Hid (∀ k x, (wordsV (nums s))[k]? = some x → k < L.length ∧ ∃ p, L[k]? = some p ∧ Byt p ∧ x = #[.string (strOfNums p)]) := by
    intro k x hx
    unfold wordsV at hx
    rw [hL, List.getElem?_map, Option.map_eq_some_iff] at hx
    obtain ⟨p, hp, rfl⟩ := hx
    exact ⟨(List.getElem?_eq_some_iff.1 hp).1, p, hp, by rw [← hL] at hp; exact ws_byt (beh_byt (nums_byt s)) p (List.mem_of_getElem? hp), rfl⟩
  have HWL : Hid ((wordsV (nums s)).length = L.length) := by unfold Hid wordsV; rw [hL, List.length_map]
  clear hL
  gi_wp2_with fail
  refine range_g 20 48 [.pointer (some ⟨w.heap.size + 1, 0, none⟩)] (fun _ => False) (wordsV (nums s)) (fun _ => True)
    (fun X hX _ => words_iter 19 (by omega) (w.heap.size + 1) s hs X ((hX.block (w.heap.size + 1) (by omega)).trans HS.out)) (fun b hb => hb.elim) ?ps rfl (fun args W => by simp [go_sem])
    (fun k V => k ≤ 7 ∧ LI w L k V)
    (fun c V => c = .exit 0 ∧ 8 ≤ L.length ∧ LI w L 8 V) ?cI ?cX ?cG ?c0
    (fun x => { tmps := #[.string s, undef, .slice none 0 0, .pointer (some ⟨w.heap.size, 0, none⟩), x.getD 0 undef, .string s, .func (.func 48) #[] #[.pointer (some ⟨w.heap.size + 1, 0, none⟩)], x.getD 0 undef, undef, undef, undef, undef, undef, undef, undef, undef], defers := [] }) ?assign ?body ?done ?stop
  case ps => intro k x hx; obtain ⟨_, p, _, _, rfl⟩ := HWV.out k x hx; rfl
  case cI =>
    rintro k V V' ⟨h1, h2⟩ ht
    rw [hz2'] at ht
    exact ⟨h1, h2.tk ht⟩
  case cX =>
    rintro c V V' ⟨h1, h2, h3⟩ ht
    rw [hz2'] at ht
    exact ⟨h1, h2, h3.tk ht⟩
  case cG => exact fun _ _ _ => trivial
  case c0 => exact ⟨by omega, _, [], rfl, HL0.out, World.ownsRow_nil _ _ _ _, fun i x hx => by simp at hx, HB2.out⟩
  case assign =>
    intro l k x V K hx hK
    obtain ⟨_, p, _, _, rfl⟩ := HWV.out k x hx
    gi_wp2
    exact hK
  case body =>
    rintro l k x W hx ⟨hk7, v0, pre, h1, h2, h3, h4, h5⟩ hsz hob
    obtain ⟨hkL, p, hp, hpb, rfl⟩ := HWV.out k x hx
    show Code.wpIn _ _ _ _ _ { tmps := #[.string s, undef, .slice none 0 0, .pointer (some ⟨w.heap.size, 0, none⟩), .string (strOfNums p), .string s, .func (.func 48) #[] #[.pointer (some ⟨w.heap.size + 1, 0, none⟩)], .string (strOfNums p), undef, undef, undef, undef, undef, undef, undef, undef], defers := [] } W
    obtain ⟨q, hq⟩ : ∃ q, strOfNums p = q := ⟨_, rfl⟩
    have hnq : nums q = p := by rw [← hq]; exact nums_str hpb
    rw [hq]
    obtain ⟨a, cap, rfl, hcap, _⟩ := ownS_row h3
    have c0 : W.cell? ⟨w.heap.size, 0, none⟩ = some (.slice a pre.length cap) := by rw [cell_of_row _ _ _ _ _ _ h2]; rfl
    have HO : Hid (W.ownsRow (w.heap.size + 4) 9 1 (.slice a pre.length cap) pre.length (pre.map Value.string)) := h3
    have H2 : Hid (W.heap[w.heap.size]? = some (.cells #[.slice a pre.length cap] 32 (0, 0))) := h2
    have H5 : Hid (Below w.heap.size w W) := h5
    have H4 : Hid (∀ (i : Nat) (x : ByteArray), (pre ++ [q])[i]? = some x → L[i]? = some (nums x)) := by
      intro i y hy
      by_cases hi : i < pre.length
      · rw [List.getElem?_append_left hi] at hy; exact h4 i y hy
      · rw [List.getElem?_append_right (by omega)] at hy
        obtain ⟨j, hj⟩ : ∃ j, i - pre.length = j := ⟨_, rfl⟩
        rw [hj] at hy
        cases j with
        | zero =>
          obtain rfl : q = y := by simpa using hy
          rw [hnq, show i = k by omega]; exact hp
        | succ j => simp at hy
    have HK : Hid (8 ≤ k + 1 → 8 ≤ L.length) := by unfold Hid; omega
    clear h2 h3 h4 h5 hp hq hnq hkL hpb hx hcap
    have HM : Hid (pre.length = k) := h1
    rw [h1] at c0 HO H2
    clear h1
    by_cases h7 : k < 7
    · have hd7 : decide ((7 : Int) < (k : Int) + 1) = false := decide_eq_false (by omega)
      gi_wp2_with (gi_at_builtin; refine wpListIn_append_own _ rfl (.tmp 8) (.tmp 10) 32 rfl (w.heap.size + 4) 9 j0 (.string ⟨#[]⟩) 1 16 Tryd.underlying32 hi hz0 hz1 hz2 rfl (by decide) _ _ _ rfl (HO.out.alloc _) ⟨W.heap.size, 0, none⟩ 1 1 [.string q] rfl rfl (cells_new _ _ _) (by simp [Value.oneCell']) (by unfold maxLen; omega) (by omega) (by simp; omega) ?_; intro v' w1 hown1 hgrow1 _; obtain ⟨g', cap', rfl⟩ := ownsRow_succ hown1; have hT : w1.heap[w.heap.size]? = some (.cells #[.slice a k cap] 32 (0, 0)) := (hgrow1.block (w.heap.size) (by simp; omega) (fun e => by have := (HO.out.lt _ e.symm).1; omega)).trans ((Below.heap_alloc _ _ _ (by omega)).trans H2.out); have g0 : w1.cell? ⟨w.heap.size, 0, none⟩ = some (.slice a k cap) := (by rw [cell_of_row _ _ _ _ _ _ hT]; rfl); have g1 : w1.frozen? ⟨w.heap.size, 0, none⟩ = false := frozen_of_row _ _ _ _ _ hT)
      have blk : ∀ b, b < w.heap.size + 4 → w1.heap[b]? = W.heap[b]? := fun b hb => (hgrow1.block b (by simp; omega) (fun e => by have := (HO.out.lt _ e.symm).1; omega)).trans (Below.heap_alloc _ _ _ (by omega))
      have hB1 : Below w.heap.size w w1 := (H5.out.alloc (by omega) _).grown hgrow1 (by simp; omega) (fun k hk => by have := (HO.out.lt k hk).1; omega)
      have hLI : LI w L (k + 1) (w1.setCell ⟨w.heap.size, 0, none⟩ (.slice (some ⟨g', 0, none⟩) (k + 1) cap')) :=
        ⟨_, pre ++ [q], by rw [List.length_append, HM.out]; rfl, heap_setCell_same _ _ 0 _ 32 _ hT, by rw [List.length_append, HM.out, List.map_append]; exact own_set (by omega) hown1, H4.out, hB1.setCell (p := ⟨w.heap.size, 0, none⟩) (Nat.le_refl _) _⟩
      have hkp : ∀ b, False ∨ b = w2.heap.size ∨ b = w2.heap.size + 1 → (w1.setCell ⟨w.heap.size, 0, none⟩ (.slice (some ⟨g', 0, none⟩) (k + 1) cap')).heap[b]? = W.heap[b]? := by
        intro b hb
        rw [hz2'] at hb
        have hb : b = w.heap.size + 2 ∨ b = w.heap.size + 2 + 1 := hb.resolve_left id
        exact (heap_setCell_other _ _ _ _ (by simp; omega)).trans (blk _ (by omega))
      exact ⟨⟨by omega, hLI⟩, hkp⟩
    · have hd7 : decide ((7 : Int) < (k : Int) + 1) = true := decide_eq_true (by omega)
      gi_wp2_with (gi_at_builtin; refine wpListIn_append_own _ rfl (.tmp 8) (.tmp 10) 32 rfl (w.heap.size + 4) 9 j0 (.string ⟨#[]⟩) 1 16 Tryd.underlying32 hi hz0 hz1 hz2 rfl (by decide) _ _ _ rfl (HO.out.alloc _) ⟨W.heap.size, 0, none⟩ 1 1 [.string q] rfl rfl (cells_new _ _ _) (by simp [Value.oneCell']) (by unfold maxLen; omega) (by omega) (by simp; omega) ?_; intro v' w1 hown1 hgrow1 _; obtain ⟨g', cap', rfl⟩ := ownsRow_succ hown1; have hT : w1.heap[w.heap.size]? = some (.cells #[.slice a k cap] 32 (0, 0)) := (hgrow1.block (w.heap.size) (by simp; omega) (fun e => by have := (HO.out.lt _ e.symm).1; omega)).trans ((Below.heap_alloc _ _ _ (by omega)).trans H2.out); have g0 : w1.cell? ⟨w.heap.size, 0, none⟩ = some (.slice a k cap) := (by rw [cell_of_row _ _ _ _ _ _ hT]; rfl); have g1 : w1.frozen? ⟨w.heap.size, 0, none⟩ = false := frozen_of_row _ _ _ _ _ hT)
      have blk : ∀ b, b < w.heap.size + 4 → w1.heap[b]? = W.heap[b]? := fun b hb => (hgrow1.block b (by simp; omega) (fun e => by have := (HO.out.lt _ e.symm).1; omega)).trans (Below.heap_alloc _ _ _ (by omega))
      have hB1 : Below w.heap.size w w1 := (H5.out.alloc (by omega) _).grown hgrow1 (by simp; omega) (fun k hk => by have := (HO.out.lt k hk).1; omega)
      have hLI : LI w L (k + 1) (w1.setCell ⟨w.heap.size, 0, none⟩ (.slice (some ⟨g', 0, none⟩) (k + 1) cap')) :=
        ⟨_, pre ++ [q], by rw [List.length_append, HM.out]; rfl, heap_setCell_same _ _ 0 _ 32 _ hT, by rw [List.length_append, HM.out, List.map_append]; exact own_set (by omega) hown1, H4.out, hB1.setCell (p := ⟨w.heap.size, 0, none⟩) (Nat.le_refl _) _⟩
      have hkp : ∀ b, False ∨ b = w2.heap.size ∨ b = w2.heap.size + 1 → (w1.setCell ⟨w.heap.size, 0, none⟩ (.slice (some ⟨g', 0, none⟩) (k + 1) cap')).heap[b]? = W.heap[b]? := by
        intro b hb
        rw [hz2'] at hb
        have hb : b = w.heap.size + 2 ∨ b = w.heap.size + 2 + 1 := hb.resolve_left id
        exact (heap_setCell_other _ _ _ _ (by simp; omega)).trans (blk _ (by omega))
      obtain rfl : k = 7 := by omega
      exact ⟨⟨rfl, HK.out (by omega), hLI⟩, hkp⟩
  case done =>
    rintro V ⟨h7, hLI⟩ hd
    rw [HWL.out] at h7 hLI
    obtain ⟨v, c0, a, cap, xs, rfl, hc, hr, hx, hb⟩ := hLI.fin (Nat.le_refl _)
    rw [hz2'] at hd
    gi_wp2
    refine ⟨by simp, .inl ⟨_, _, rfl, run_takeDeferred (by rw [hz2']; exact hd), ?_⟩⟩
    refine ⟨.slice a xs.length cap, by simp [results, Tryd.results14, go_sem], a, cap, xs, rfl, hc, ?_, ?_, ?_⟩
    · rw [hz2']; exact hr.put hd
    · rw [HZ.out]; exact (by rw [hx, List.take_length, List.take_of_length_le (by omega)])
    · rw [hz2']; exact hb.trans (belowK_b (w := w) (Nat.le_refl _) _ _ _ _ (by omega) hd rfl rfl)
  case stop =>
    rintro c V ⟨rfl, h8, hLI⟩ hd
    obtain ⟨v, c0, a, cap, xs, rfl, hc, hr, hx, hb⟩ := hLI.fin h8
    rw [hz2'] at hd
    gi_wp2
    refine ⟨by simp, .inl ⟨_, _, rfl, run_takeDeferred (by rw [hz2']; exact hd), ?_⟩⟩
    refine ⟨.slice a xs.length cap, by simp [results, Tryd.results14, go_sem], a, cap, xs, rfl, hc, ?_, ?_, ?_⟩
    · rw [hz2']; exact hr.put hd
    · rw [HZ.out]; exact hx
    · rw [hz2']; exact hb.trans (belowK_b (w := w) (Nat.le_refl _) _ _ _ _ (by omega) hd rfl rfl)
end Go.Proofs.YtomcjkghneingabDoor
