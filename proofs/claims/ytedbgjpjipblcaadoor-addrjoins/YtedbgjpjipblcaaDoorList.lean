/-
  The contract of List, of a text of addresses that are written with commas between.
-/
import Derived.Test.YtedbgjpjipblcaaDoorTexts
namespace Go.Proofs.YtedbgjpjipblcaaDoor
open Go.RowKit Go.Shelf
set_option linter.unusedVariables false
attribute [local go_sem] Oper.semAt_some

theorem keepN_of {W W' : World} (h : KeepsOthers W W') : KeepN W W' := fun k o hk ho => h.same k o hk ho
theorem ownS_view {W : World} {B : Nat} {v : Value} {xs : List ByteArray} (h : W.ownsRow B 9 1 v xs.length (xs.map Value.string)) : ∃ a cap, v = .slice a xs.length cap ∧ (xs = [] ∨ ∃ g, a = some ⟨g, 0, none⟩ ∧ ∀ i x, xs[i]? = some x → W.cell? ⟨g, i, none⟩ = some (.string x)) := by
  rcases h.2 with ⟨rfl, hn⟩ | ⟨g, cap, cur, rfl, hb, hg, hn, hm, hss, ht⟩
  · exact ⟨none, 0, by rw [hn], .inl (List.eq_nil_of_length_eq_zero hn)⟩
  · refine ⟨some ⟨g, 0, none⟩, cap, rfl, .inr ⟨g, rfl, fun i x hx => ?_⟩⟩
    have hc := h.cells (g := g) rfl i (.string x) (by rw [List.getElem?_map, hx]; rfl)
    rw [add_plain] at hc
    simpa using hc
abbrev Ad := ByteArray × ByteArray × ByteArray
def cellA (f : Ad) : List Value := [.string f.1, .string f.2.1, .string f.2.2]
def OwnA (w : World) (B : Nat) (v : Value) (fs : List Ad) : Prop := w.ownsRow B 24 3 v fs.length (fs.flatMap cellA)
/-- What lies where a list of addresses begins. -/
def ARow (w : World) (a : Option Addr) (fs : List Ad) : Prop :=
  fs = [] ∨ ∃ b off, a = some ⟨b, off, none⟩ ∧ ∀ i f, fs[i]? = some f → w.cell? ⟨b, off + i * 3, none⟩ = some (.string f.1) ∧ w.cell? ⟨b, off + i * 3 + 1, none⟩ = some (.string f.2.1) ∧ w.cell? ⟨b, off + i * 3 + 2, none⟩ = some (.string f.2.2)
theorem ownA_view {w : World} {B : Nat} {v : Value} {fs : List Ad} (h : OwnA w B v fs) : ∃ a cap, v = .slice a fs.length cap ∧ ARow w a fs := by
  have h0 := h
  rcases h.2 with ⟨rfl, hn⟩ | ⟨g, cap, cur, rfl, hb, hg, hn, hm, hss, ht⟩
  · exact ⟨none, 0, by rw [hn], .inl (List.eq_nil_of_length_eq_zero hn)⟩
  · refine ⟨some ⟨g, 0, none⟩, cap, rfl, .inr ⟨g, 0, rfl, fun i f hf => ?_⟩⟩
    have key : ∀ j, j < 3 → (fs.flatMap cellA)[i * 3 + j]? = (cellA f)[j]? := by
      intro j hj
      clear h0 h hg hn hm hss ht hb
      induction fs generalizing i with
      | nil => simp at hf
      | cons x r ih =>
        cases i with
        | zero =>
          simp only [List.getElem?_cons_zero, Option.some.injEq] at hf
          subst hf
          rw [List.flatMap_cons, List.getElem?_append_left (by simp [cellA]; omega)]
          simp
        | succ i =>
          simp only [List.getElem?_cons_succ] at hf
          rw [List.flatMap_cons, List.getElem?_append_right (by simp [cellA]; omega)]
          rw [← ih i hf]
          congr 1
          simp [cellA]; omega
    have c0 := h0.cells (g := g) rfl (i * 3 + 0) (.string f.1) (by rw [key 0 (by omega)]; rfl)
    have c1 := h0.cells (g := g) rfl (i * 3 + 1) (.string f.2.1) (by rw [key 1 (by omega)]; rfl)
    have c2 := h0.cells (g := g) rfl (i * 3 + 2) (.string f.2.2) (by rw [key 2 (by omega)]; rfl)
    rw [add_plain] at c0 c1 c2
    exact ⟨by simpa using c0, by simpa [Nat.add_assoc] using c1, by simpa [Nat.add_assoc] using c2⟩
theorem Tryd.info24 : (Tryd.prog.info? 24).map (fun i => (i.zero, i.size, i.bytes)) = some (some (.agg #[.string ⟨#[]⟩, .string ⟨#[]⟩, .string ⟨#[]⟩]), 3, 48) := by kernel_rfl
theorem join_len : ∀ {pcs : List (List Int)} {p : List Int}, p ∈ pcs → p.length ≤ (joinC pcs).length
  | [q], p, h => by simp at h; rw [h]; exact Nat.le_refl _
  | q :: r :: l, p, h => by
    rw [joinC, List.length_append, List.length_cons]
    rcases List.mem_cons.1 h with rfl | h
    · omega
    · have := join_len h; omega
/-- Each piece is read as its address. -/
def Reads (pcs : List (List Int)) (fs : List Ad) : Prop := fs.length = pcs.length ∧ ∀ (i : Nat) (p : List Int) (f : Ad), pcs[i]? = some p → fs[i]? = some f → readR p = some (nums f.1, nums f.2.1, nums f.2.2)
def LPost (w : World) (pcs : List (List Int)) (fs : List Ad) (e : Ending) (w' : World) : Prop := Below w.heap.size w w' ∧ (64 < pcs.length → e = .returned (.tuple #[.slice none 0 0, .int .i64 2])) ∧ (pcs.length ≤ 64 → ∃ a cap, e = .returned (.tuple #[.slice a fs.length cap, .int .i64 0]) ∧ ARow w' a fs)
set_option maxHeartbeats 8000000 in
set_option maxRecDepth 100000 in
theorem list_any (s : ByteArray) (pcs : List (List Int)) (fs : List Ad) (w : World) (hs : s.size ≤ 1000000) (hp : ∀ p ∈ pcs, Piece p) (hj : nums s = joinC pcs) (hne : ¬ s.size = 0) (hrd : Reads pcs fs) :
    Calls Tryd.prog 17 #[.string s] w (LPost w pcs fs) := by
  obtain ⟨j0, hi, hz0, hz1, hz2⟩ := info_parts Tryd.info9
  obtain ⟨hL0, hS0, hsz0⟩ := t_facts w s
  refine (callsIn_wide (n := 20)).1 ?_
  refine callsIn_of_wp_marks Tryd.func17 rfl trivial ?_ rfl
  simp only [Tryd.ntmps17, List.size_toArray, List.length_cons, List.length_nil, Nat.reduceAdd, Nat.reduceSub, Array.replicate_succ, Array.replicate_zero, List.push_toArray, List.append_toArray, List.nil_append, List.cons_append]
  gi_wp2_with (refine ⟨trivial, ?_⟩; gi_at_call 35; refine (callsIn_wide.2 (parted_any s _)).mono ?_; rintro e w' ⟨rfl, rfl⟩)
  rw [show w.heap.size + 1 + 1 + 1 = w.heap.size + 3 from rfl, show w.heap.size + 1 + 1 = w.heap.size + 2 from rfl, show (((w.alloc (.cells #[.slice none 0 0] 36)).alloc (.cells #[.int .i64 0] 25)).alloc (.cells #[.slice none 0 0] 50)).alloc (.cells #[.string s] 9) = tW w s from rfl]
  generalize tW w s = W0 at hL0 hS0 hsz0 ⊢
  refine range_parted 20 (by omega) (w.heap.size + 3) s pcs (by omega) hp hj hne rfl hS0 (LI w) (LX w) (fun pre W v h => h.set v) (fun pre W l o o' h hl ho hc => h.put o' (by omega) ho hc) (fun pre W o h => h.alloc o) (fun pre W l o o' h hl ho hc => h.put o' (by omega) (by have := (Array.getElem?_eq_some_iff.1 ho).1; omega)) hL0
    (fun x => { tmps := #[.string s, undef, .pointer (some ⟨w.heap.size, 0, none⟩), .pointer (some ⟨w.heap.size + 1, 0, none⟩), .pointer (some ⟨w.heap.size + 2, 0, none⟩), .string x, undef, undef, undef, undef, undef, .string s, .func (.func 55) #[] #[.pointer (some ⟨w.heap.size + 3, 0, none⟩)], .string x, undef, undef, undef, undef, undef, undef, undef, undef, undef, undef, undef, undef, undef, undef, undef, undef, undef, undef, undef, undef, undef, undef, undef, undef, undef, undef, undef], defers := [] }) ?assign ?body ?done ?stop
  case assign =>
    intro l x W K hK
    gi_wp2
    exact hK
  case body =>
    intro l pre x W hx hI
    obtain ⟨h1, h2, h3, h4, h5, v0, h6, h7⟩ := hI
    obtain ⟨a, cap, rfl, _⟩ := ownS_view h7
    have c0 : W.cell? ⟨w.heap.size + 2, 0, none⟩ = some (.slice a pre.length cap) := by rw [cell_of_row _ _ _ _ _ _ h6]; rfl
    by_cases h64 : pre.length = 64
    · have hd : ((pre.length : Int) == 64) = true := by rw [beq_iff_eq]; omega
      have d0 : W.cell? ⟨w.heap.size, 0, none⟩ = some (.slice none 0 0) := by rw [cell_of_row _ _ _ _ _ _ h2]; rfl
      have d1 : W.frozen? ⟨w.heap.size, 0, none⟩ = false := frozen_of_row _ _ _ _ _ h2
      have e0 : W.cell? ⟨w.heap.size + 1, 0, none⟩ = some (.int .i64 0) := by rw [cell_of_row _ _ _ _ _ _ h3]; rfl
      have e1 : W.frozen? ⟨w.heap.size + 1, 0, none⟩ = false := frozen_of_row _ _ _ _ _ h3
      have HX : Hid (LX w (pre ++ [x]) ((W.setCell ⟨w.heap.size, 0, none⟩ (.slice none 0 0)).setCell ⟨w.heap.size + 1, 0, none⟩ (.int .i64 2)) ∧ KeepN W ((W.setCell ⟨w.heap.size, 0, none⟩ (.slice none 0 0)).setCell ⟨w.heap.size + 1, 0, none⟩ (.int .i64 2))) := by
        refine ⟨⟨(h1.setCell (p := ⟨w.heap.size, 0, none⟩) (Nat.le_refl _) _).setCell (p := ⟨w.heap.size + 1, 0, none⟩) (by simp) _, ?_, ?_, by simp; omega⟩, keepN_of ((KeepsOthers.setCell _ _ _).trans (KeepsOthers.setCell _ _ _))⟩
        · exact (heap_setCell_other _ _ _ _ (by simp)).trans (heap_setCell_same _ _ 0 _ 36 _ h2)
        · exact heap_setCell_same _ _ 0 _ 25 _ ((heap_setCell_other _ _ _ _ (by simp)).trans h3)
      clear h64 h7
      gi_wp2
      exact HX.out
    · have hd : ((pre.length : Int) == 64) = false := by rw [beq_eq_false_iff_ne]; omega
      have HO : Hid (W.ownsRow (w.heap.size + 4) 9 1 (.slice a pre.length cap) pre.length (pre.map Value.string)) := h7
      have H6 : Hid (W.heap[w.heap.size + 2]? = some (.cells #[.slice a pre.length cap] 50 (0, 0))) := h6
      have H1 : Hid (Below w.heap.size w W) := h1
      have H2 : Hid (W.heap[w.heap.size]? = some (.cells #[.slice none 0 0] 36 (0, 0))) := h2
      have H3 : Hid (W.heap[w.heap.size + 1]? = some (.cells #[.int .i64 0] 25 (0, 0))) := h3
      clear h1 h2 h3 h6 h7
      gi_wp2_with (gi_at_builtin; refine wpListIn_append_own _ rfl (.tmp 17) (.tmp 19) 50 rfl (w.heap.size + 4) 9 j0 (.string ⟨#[]⟩) 1 16 Tryd.underlying50 hi hz0 hz1 hz2 rfl (by decide) _ _ _ rfl (HO.out.alloc _) ⟨W.heap.size, 0, none⟩ 1 1 [.string x] rfl rfl (cells_new _ _ _) (by simp [Value.oneCell']) (by unfold maxLen; omega) (by omega) (by simp; omega) ?_; intro v' w1 hown1 hgrow1 _; obtain ⟨g', cap', rfl⟩ := ownsRow_succ hown1; have hT : w1.heap[w.heap.size + 2]? = some (.cells #[.slice a pre.length cap] 50 (0, 0)) := (hgrow1.block (w.heap.size + 2) (by simp; omega) (fun e => by have := (HO.out.lt _ e.symm).1; omega)).trans ((Below.heap_alloc _ _ _ (by omega)).trans H6.out); have g0 : w1.cell? ⟨w.heap.size + 2, 0, none⟩ = some (.slice a pre.length cap) := (by rw [cell_of_row _ _ _ _ _ _ hT]; rfl); have g1 : w1.frozen? ⟨w.heap.size + 2, 0, none⟩ = false := frozen_of_row _ _ _ _ _ hT)
      have blk : ∀ k, k < w.heap.size + 4 → w1.heap[k]? = W.heap[k]? := fun k hk => (hgrow1.block k (by simp; omega) (fun e => by have := (HO.out.lt _ e.symm).1; omega)).trans (Below.heap_alloc _ _ _ (by omega))
      have hsz1 : W.heap.size ≤ w1.heap.size := by have := hgrow1.size; simp at this; omega
      have hB1 : Below w.heap.size w w1 := (H1.out.alloc (by omega) _).grown hgrow1 (by simp; omega) (fun k hk => by have := (HO.out.lt k hk).1; omega)
      have hgrow2 : (W.alloc (.cells #[.string x] 9)).grownBy w1 (Value.ownBlock (.slice a pre.length cap)) := hgrow1
      have hkp : KeepsOthers W w1 := (KeepsOthers.alloc W _).trans (KeepsOthers.of_grownBy hgrow2 (fun j o e ho => by
        rcases (HO.out.alloc (.cells #[.string x] 9)).2 with ⟨q, _⟩ | ⟨g, cp, cur, q, _, hg, _⟩
        · rw [q] at e; cases e
        · rw [q] at e
          obtain rfl : g = j := by simpa [Value.ownBlock] using e
          rw [hg] at ho
          cases ho
          rfl))
      refine ⟨⟨hB1.setCell (p := ⟨w.heap.size + 2, 0, none⟩) (by simp) _, (heap_setCell_other _ _ _ _ (by simp)).trans ((blk _ (by omega)).trans H2.out), (heap_setCell_other _ _ _ _ (by simp)).trans ((blk _ (by omega)).trans H3.out), by simp; omega, ?_, _, heap_setCell_same _ _ 0 _ 50 _ hT, ?_⟩, keepN_of (hkp.trans (KeepsOthers.setCell _ _ _)), (heap_setCell_other _ _ _ _ (by simp)).trans (blk _ (by omega))⟩
      · have := ((Below.refl 0 w1).setCell (p := ⟨w.heap.size + 2, 0, none⟩) (Nat.zero_le _) (.slice (some ⟨g', 0, none⟩) (pre.length + 1) cap')).size
        omega
      · have := own_set (f := w.heap.size + 2) (o := 0) (u := .slice (some ⟨g', 0, none⟩) (pre.length + 1) cap') (by omega) hown1
        rw [List.length_append, List.map_append]
        exact this
  case done =>
    intro D ys W hD hys hI hK
    obtain ⟨h1, h2, h3, h4, h5, v0, h6, h7⟩ := hI
    obtain ⟨k0, hi4, hy0, hy1, hy2⟩ := info_parts Tryd.info24
    obtain ⟨a, cap, rfl, hrow⟩ := ownS_view h7
    have c0 : W.cell? ⟨w.heap.size + 2, 0, none⟩ = some (.slice a ys.length cap) := by rw [cell_of_row _ _ _ _ _ _ h6]; rfl
    have hyl : ys.length = pcs.length := by rw [← hys, List.length_map]
    have HROW : Hid (ys = [] ∨ ∃ g, a = some ⟨g, 0, none⟩ ∧ ∀ i x, ys[i]? = some x → W.cell? ⟨g, i, none⟩ = some (.string x)) := hrow
    have HRD : Hid (∀ (k : Nat) (x : ByteArray) (f : Ad), ys[k]? = some x → fs[k]? = some f → readR (nums x) = some (nums f.1, nums f.2.1, nums f.2.2)) := fun k x f hx hf => hrd.2 k (nums x) f (by rw [← hys, List.getElem?_map, hx]; rfl) hf
    have HXS : Hid (∀ (k : Nat) (x : ByteArray), ys[k]? = some x → x.size ≤ 1000000) := fun k x hx => by
      have := join_len (pcs := pcs) (p := nums x) (by rw [← hys]; exact List.mem_map_of_mem (List.mem_of_getElem? hx))
      rw [← hj, nums_len, nums_len] at this; omega
    have hfl : fs.length = ys.length := by rw [hyl]; exact hrd.1
    have HYL : Hid (ys.length = pcs.length) := hyl
    have H1 : Hid (Below w.heap.size w W) := h1
    have H2 : Hid (W.heap[w.heap.size]? = some (.cells #[.slice none 0 0] 36 (0, 0))) := h2
    have H3 : Hid (W.heap[w.heap.size + 1]? = some (.cells #[.int .i64 0] 25 (0, 0))) := h3
    have HK : Hid (W.heap[D]? = some (.deferred (some []))) := hK
    have hDl : D < W.heap.size := (Array.getElem?_eq_some_iff.1 hK).1
    clear hrow hrd hys hj h1 h2 h3 h6 h7 hK hyl hp hL0 hS0 hne
    gi_wp2
    clear c0
    gi_loopw [6, 23] (fun v i wr => ∃ k : Nat, i = .int .i64 k ∧ k ≤ ys.length ∧ OwnA wr W.heap.size v (fs.take k) ∧ Below W.heap.size W wr) (fun _ i _ => ys.length - (intOf i).toNat)
    case atStart => exact ⟨0, rfl, by omega, World.ownsRow_nil _ _ _ _, Below.refl _ _⟩
    case round =>
      obtain ⟨k, rfl, hk, hown, hb⟩ := hrel
      have HO : Hid (OwnA wr W.heap.size u6 (fs.take k)) := hown
      have HB : Hid (Below W.heap.size W wr) := hb
      have hsz : W.heap.size ≤ wr.heap.size := hb.size
      clear hown hb
      by_cases hlt : k < ys.length
      · have hd : decide ((k : Int) < (ys.length : Int)) = true := decide_eq_true (by omega)
        obtain ⟨x, hx⟩ : ∃ x, ys[k]? = some x := ⟨_, List.getElem?_eq_getElem hlt⟩
        obtain ⟨f, hf⟩ : ∃ f, fs[k]? = some f := ⟨_, List.getElem?_eq_getElem (by omega)⟩
        obtain ⟨fn, fl, fd⟩ := f
        have hrr := HRD.out k x _ hx hf
        simp only at hrr
        have hxz := HXS.out k x hx
        have HT : Hid (fs.take (k + 1) = fs.take k ++ [(fn, fl, fd)]) := by unfold Hid; rw [List.take_add_one, hf]; rfl
        have hlk : (fs.take k).length = k := by rw [List.length_take]; omega
        rcases HROW.out with h | ⟨g, rfl, h⟩
        · rw [h] at hlt; simp at hlt
        have c1 : wr.cell? ⟨g, k, none⟩ = some (.string x) := cell_keep HB.out (h k x hx)
        have hread := read_any x wr (by omega)
        unfold RPost at hread
        rw [hrr] at hread
        have m0 : (0 : Int) ≤ (k : Int) := by omega
        have m1 : (k : Int) < (ys.length : Int) := by omega
        clear h hx hf hrr
        gi_wp2_with fail
        refine ⟨trivial, (callsIn_wide.2 hread).mono ?_⟩
        clear hread c1
        rintro e w2 ⟨n3, l3, d3, c3, rfl, hb2, hans, _⟩
        rcases hans with ⟨rfl, hq⟩ | ⟨_, _, _, _, hq⟩
        case inr => cases hq
        simp only [Option.some.injEq, Prod.mk.injEq] at hq
        obtain ⟨q1, q2, q3⟩ := hq
        obtain rfl := nums_inj q1
        obtain rfl := nums_inj q2
        obtain rfl := nums_inj q3
        have HB2 : Hid (Below W.heap.size W w2) := HB.out.trans (hb2.mono hsz)
        have HO2 : Hid (OwnA w2 W.heap.size u6 (fs.take k)) := own_keep HO.out hb2
        have hsz2 : W.heap.size ≤ w2.heap.size := HB2.out.size
        clear q1 q2 q3 hb2
        unfold addrV
        have HA2 : Hid (AAt (w2.alloc (.cells #[.string fn, .string fl, .string fd] 24)) w2.heap.size fn fl fd) := aat_new w2 fn fl fd
        gi_wp2_with (gi_at_builtin; refine wpListIn_append_own _ rfl (.tmp 35) (.tmp 37) 36 rfl W.heap.size 24 k0 _ 3 48 Tryd.underlying36 hi4 hy0 hy1 hy2 rfl (by decide) _ _ _ rfl (own_keep (own_keep HO2.out (keep w2 _)) (keep _ _)) ⟨w2.heap.size + 1, 0, none⟩ 1 1 (cellA (fn, fl, fd)) rfl rfl ?a0 ?a4 ?a1 ?a2 ?a3 ?_)
        case a0 =>
          intro j u hu
          have q := cells_new (w2.alloc (.cells #[.string fn, .string fl, .string fd] 24)) (cellA (fn, fl, fd)) 24 j u hu
          rwa [show (w2.alloc (.cells #[.string fn, .string fl, .string fd] 24)).heap.size = w2.heap.size + 1 from by simp] at q
        case a4 => intro u hu; simp [cellA] at hu; rcases hu with rfl | rfl | rfl <;> rfl
        case a1 => rw [hlk]; unfold maxLen; omega
        case a2 => rw [hlk]; omega
        case a3 => simp; omega
        intro v' w3 hown3 hgrow3 _
        have hO3 : OwnA w3 W.heap.size v' (fs.take (k + 1)) := by
          unfold OwnA; rw [HT.out, List.length_append, hlk, List.flatMap_append]; simpa [hlk] using hown3
        have hB3 : Below W.heap.size W w3 := ((HB2.out.alloc (by omega) _).alloc (by simp; omega) _).grown hgrow3 (by simp; omega) (fun j hj => by have := (HO2.out.lt j hj).1; omega)
        have HO3 : Hid (OwnA w3 W.heap.size v' (fs.take (k + 1))) := hO3
        have HB3 : Hid (Below W.heap.size W w3) := hB3
        clear hown3 hgrow3 hO3 hB3
        gi_wp2
        go_roundw
        case rel => exact ⟨k + 1, by go_num, by omega, HO3.out, HB3.out⟩
        case measure => simp [intOf]; omega
      · obtain rfl : k = ys.length := by omega
        have hd : decide ((ys.length : Int) < (ys.length : Int)) = false := by simp
        have hO := HO.out
        rw [List.take_of_length_le (by omega)] at hO
        obtain ⟨a2, cap2, rfl, _⟩ := ownA_view hO
        clear hfl
        have hw2 : wr.heap[w.heap.size]? = some (.cells #[.slice none 0 0] 36 (0, 0)) := (HB.out.block _ (by omega)).trans H2.out
        have hw3 : wr.heap[w.heap.size + 1]? = some (.cells #[.int .i64 0] 25 (0, 0)) := (HB.out.block _ (by omega)).trans H3.out
        have hwK : wr.heap[D]? = some (.deferred (some [])) := (HB.out.block _ hDl).trans HK.out
        have d0 : wr.cell? ⟨w.heap.size, 0, none⟩ = some (.slice none 0 0) := by rw [cell_of_row _ _ _ _ _ _ hw2]; rfl
        have d1 : wr.frozen? ⟨w.heap.size, 0, none⟩ = false := frozen_of_row _ _ _ _ _ hw2
        have e0 : wr.cell? ⟨w.heap.size + 1, 0, none⟩ = some (.int .i64 0) := by rw [cell_of_row _ _ _ _ _ _ hw3]; rfl
        have e1 : wr.frozen? ⟨w.heap.size + 1, 0, none⟩ = false := frozen_of_row _ _ _ _ _ hw3
        have HW2 : Hid (wr.heap[w.heap.size]? = some (.cells #[.slice none 0 0] 36 (0, 0))) := hw2
        have HW3 : Hid (wr.heap[w.heap.size + 1]? = some (.cells #[.int .i64 0] 25 (0, 0))) := hw3
        have HWK : Hid (wr.heap[D]? = some (.deferred (some []))) := hwK
        have HOO : Hid (OwnA wr W.heap.size (.slice a2 fs.length cap2) fs) := hO
        clear hw2 hw3 hwK hO
        gi_wp2
        have g2 := heap_setCell_same _ _ 0 _ 36 (.slice a2 fs.length cap2) HW2.out
        have g3 : ((wr.setCell ⟨w.heap.size, 0, none⟩ (.slice a2 fs.length cap2)).setCell ⟨w.heap.size + 1, 0, none⟩ (.int .i64 0)).heap[w.heap.size + 1]? = some (.cells #[.int .i64 0] 25 (0, 0)) := heap_setCell_same _ _ 0 _ 25 _ ((heap_setCell_other _ _ _ _ (by simp)).trans HW3.out)
        have g4 : ((wr.setCell ⟨w.heap.size, 0, none⟩ (.slice a2 fs.length cap2)).setCell ⟨w.heap.size + 1, 0, none⟩ (.int .i64 0)).heap[w.heap.size]? = some (.cells #[.slice a2 fs.length cap2] 36 (0, 0)) := (heap_setCell_other _ _ _ _ (by simp)).trans g2
        have gK : ((wr.setCell ⟨w.heap.size, 0, none⟩ (.slice a2 fs.length cap2)).setCell ⟨w.heap.size + 1, 0, none⟩ (.int .i64 0)).heap[D]? = some (.deferred (some [])) := (heap_setCell_other _ _ _ _ (by simp; omega)).trans ((heap_setCell_other _ _ _ _ (by simp; omega)).trans HWK.out)
        have p2 := cell_of_row _ _ 0 _ _ _ ((World.putObj_heap_other (o := .deferred none) (r := D) (by omega)).trans g4)
        have p3 := cell_of_row _ _ 0 _ _ _ ((World.putObj_heap_other (o := .deferred none) (r := D) (by omega)).trans g3)
        simp only [List.getElem?_toArray, List.getElem?_cons_zero] at p2 p3
        have hown2 : OwnA (((wr.setCell ⟨w.heap.size, 0, none⟩ (.slice a2 fs.length cap2)).setCell ⟨w.heap.size + 1, 0, none⟩ (.int .i64 0)).putObj D (.deferred none)) W.heap.size (.slice a2 fs.length cap2) fs := ownsRow_putObj (own_set (by omega) (own_set (by omega) HOO.out)) _ gK rfl
        obtain ⟨a3, cap3, ha3, hrow3⟩ := ownA_view hown2
        obtain ⟨rfl, rfl⟩ : a2 = a3 ∧ cap2 = cap3 := by simp at ha3; exact ⟨ha3.1, ha3.2⟩
        refine ⟨by simp, .inl ⟨_, _, rfl, run_takeDeferred gK, ?_⟩⟩
        have hBf : Below w.heap.size w ((wr.setCell ⟨w.heap.size, 0, none⟩ (.slice a2 fs.length cap2)).setCell ⟨w.heap.size + 1, 0, none⟩ (.int .i64 0)) := ((H1.out.trans (HB.out.mono (by have := H1.out.size; omega))).setCell (p := ⟨w.heap.size, 0, none⟩) (Nat.le_refl _) _).setCell (p := ⟨w.heap.size + 1, 0, none⟩) (by simp) _
        refine ⟨.tuple #[.slice a2 fs.length cap2, .int .i64 0], by simp [results, Tryd.results17, go_sem, p2, p3], ?_, fun q => ?_, fun _ => ⟨a2, cap2, rfl, hrow3⟩⟩
        · exact hBf.trans (belowK_b (w := w) (Nat.le_refl _) _ D _ _ (by omega) gK rfl rfl)
        · have := HYL.out; omega
  case stop =>
    intro D pre W hD hpre hX hK
    obtain ⟨h1, h2, h3, h4⟩ := hX
    have hl : 64 < pcs.length := by
      have := hpre.length_le; rw [List.length_map] at this; omega
    gi_wp2
    have g2 : (W.putObj D (.deferred none)).heap[w.heap.size]? = some (.cells #[.slice none 0 0] 36 (0, 0)) := (World.putObj_heap_other (by omega)).trans h2
    have g3 : (W.putObj D (.deferred none)).heap[w.heap.size + 1]? = some (.cells #[.int .i64 2] 25 (0, 0)) := (World.putObj_heap_other (by omega)).trans h3
    have d0 := cell_of_row _ _ 0 _ _ _ g2
    have d1 := cell_of_row _ _ 0 _ _ _ g3
    simp only [List.getElem?_toArray, List.getElem?_cons_zero] at d0 d1
    refine ⟨by simp, .inl ⟨_, _, rfl, run_takeDeferred hK, ?_⟩⟩
    refine ⟨.tuple #[.slice none 0 0, .int .i64 2], by simp [results, Tryd.results17, go_sem, d0, d1], ?_, fun _ => rfl, fun q => by omega⟩
    exact h1.trans (belowK_b (w := w) (Nat.le_refl _) _ D _ _ (by omega) hK rfl rfl)
end Go.Proofs.YtedbgjpjipblcaaDoor
