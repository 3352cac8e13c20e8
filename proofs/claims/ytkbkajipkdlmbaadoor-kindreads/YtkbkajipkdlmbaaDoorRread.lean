/-
  The reference's Read.
-/
import Derived.Test.YtkbkajipkdlmbaaDoorRtv
namespace Go.Proofs.YtkbkajipkdlmbaaDoor
open Go.RowKit
set_option linter.unusedVariables false

theorem Ts.other {w : World} {g f o : Nat} {u : Value} {s : ByteArray} {k : Nat} (h : Ts w g s k) (hf : f ≠ g) : Ts (w.setCell ⟨f, o, none⟩ u) g s k := (heap_setCell_other _ _ _ _ (by simpa using Ne.symm hf)).trans h
/-- What is answered in block B, the empty kind behind it, the text and its place behind that; the kind in block K. -/
structure Kr (W : World) (B K : Nat) (s : ByteArray) (k : Nat) (ty sub : ByteArray) (vf : Value) (fs : List (ByteArray × ByteArray)) : Prop where
  text : Ts W (B + 2) s k
  res : W.heap[B]? = some (.cells #[.string ⟨#[]⟩, .string ⟨#[]⟩, .slice none 0 0] 24 (0, 0))
  bad : W.heap[B + 1]? = some (.cells #[.string ⟨#[]⟩, .string ⟨#[]⟩, .slice none 0 0] 24 (0, 0))
  kind : W.heap[K]? = some (.cells #[.string ty, .string sub, vf] 24 (0, 0))
  own : OwnF W (K + 1) vf fs
  lt2 : B + 2 < K
theorem Kr.lt {W : World} {B K : Nat} {s : ByteArray} {k : Nat} {ty sub : ByteArray} {vf : Value} {fs : List (ByteArray × ByteArray)} (h : Kr W B K s k ty sub vf fs) : K < W.heap.size := (Array.getElem?_eq_some_iff.1 h.kind).1
theorem Kr.kx {W W' : World} {B K : Nat} {s : ByteArray} {k k' : Nat} {ty sub : ByteArray} {vf : Value} {fs : List (ByteArray × ByteArray)} (h : Kr W B K s k ty sub vf fs) (hk : Kx (B + 2) W W') (ht : Ts W' (B + 2) s k') : Kr W' B K s k' ty sub vf fs := by
  have h1 := h.lt2
  have h3 := h.lt
  exact ⟨ht, (hk.block (by omega) (by omega)).trans h.res, (hk.block (by omega) (by omega)).trans h.bad, (hk.block (by omega) h3).trans h.kind, own_kx h.own hk (by omega), h1⟩
theorem Kr.below {W W' : World} {B K : Nat} {s : ByteArray} {k : Nat} {ty sub : ByteArray} {vf : Value} {fs : List (ByteArray × ByteArray)} (h : Kr W B K s k ty sub vf fs) (hb : Below W.heap.size W W') : Kr W' B K s k ty sub vf fs :=
  h.kx (Kx.of hb (by have := h.lt2; have := h.lt; omega)) (h.text.below hb)
theorem Kr.set0 {W : World} {B K : Nat} {s : ByteArray} {k : Nat} {ty sub : ByteArray} {vf : Value} {fs : List (ByteArray × ByteArray)} (h : Kr W B K s k ty sub vf fs) (x : ByteArray) : Kr (W.setCell ⟨K, 0, none⟩ (.string x)) B K s k x sub vf fs := by
  have h1 := h.lt2
  exact ⟨h.text.other (by omega), (heap_setCell_other _ _ _ _ (by simp; omega)).trans h.res, (heap_setCell_other _ _ _ _ (by simp; omega)).trans h.bad, heap_setCell_same _ _ 0 _ 24 _ h.kind, own_set (by omega) h.own, h1⟩
theorem Kr.set1 {W : World} {B K : Nat} {s : ByteArray} {k : Nat} {ty sub : ByteArray} {vf : Value} {fs : List (ByteArray × ByteArray)} (h : Kr W B K s k ty sub vf fs) (x : ByteArray) : Kr (W.setCell ⟨K, 1, none⟩ (.string x)) B K s k ty x vf fs := by
  have h1 := h.lt2
  exact ⟨h.text.other (by omega), (heap_setCell_other _ _ _ _ (by simp; omega)).trans h.res, (heap_setCell_other _ _ _ _ (by simp; omega)).trans h.bad, heap_setCell_same _ _ 1 _ 24 _ h.kind, own_set (by omega) h.own, h1⟩
theorem Kr.app {W W' : World} {B K : Nat} {s : ByteArray} {k : Nat} {ty sub : ByteArray} {vf v' : Value} {fs fs' : List (ByteArray × ByteArray)} (h : Kr W B K s k ty sub vf fs) (hg : W.grownBy W' vf.ownBlock) (ho : OwnF W' (K + 1) v' fs') : Kr (W'.setCell ⟨K, 2, none⟩ v') B K s k ty sub v' fs' := by
  have h1 := h.lt2
  have h3 := h.lt
  have ek : W'.heap[K]? = some (.cells #[.string ty, .string sub, vf] 24 (0, 0)) := (hg.block K h3 (ne_type h.own h.kind (by decide))).trans h.kind
  have er : W'.heap[B]? = some (.cells #[.string ⟨#[]⟩, .string ⟨#[]⟩, .slice none 0 0] 24 (0, 0)) := (hg.block B (by omega) (ne_type h.own h.res (by decide))).trans h.res
  have eb : W'.heap[B + 1]? = some (.cells #[.string ⟨#[]⟩, .string ⟨#[]⟩, .slice none 0 0] 24 (0, 0)) := (hg.block (B + 1) (by omega) (ne_type h.own h.bad (by decide))).trans h.bad
  have et : Ts W' (B + 2) s k := (hg.block (B + 2) (by omega) (ne_type h.own h.text (by decide))).trans h.text
  exact ⟨et.other (by omega), (heap_setCell_other _ _ _ _ (by simp; omega)).trans er, (heap_setCell_other _ _ _ _ (by simp; omega)).trans eb, heap_setCell_same _ _ 2 _ 24 _ ek, own_set (by omega) ho, h1⟩
def RPost (w : World) (s : ByteArray) (e : Ending) (w' : World) : Prop := ∃ ty sub a cap fs c, e = .returned (.tuple #[kindV ty sub a fs.length cap, .int .i64 c]) ∧ FRow w' a fs ∧ Below w.heap.size w w' ∧ fs.length ≤ 1000000 ∧ RAns c (readR (nums s)) ty sub fs
theorem rread_none {w W : World} {s : ByteArray} {A : Act} (hb : Below w.heap.size w W) (hr : W.heap[w.heap.size]? = some (.cells #[.string ⟨#[]⟩, .string ⟨#[]⟩, .slice none 0 0] 24 (0, 0))) (hn : readR (nums s) = none) (hd : A.defers = []) (h2 : A.tmps[2]?.getD undef = .pointer (some ⟨w.heap.size, 0, none⟩)) (h3 : A.tmps[3]?.getD undef = .int .i64 70) :
    bodyPost Tryd.prog Tryd.f18 (RPost w s) .ret A (finW W w.heap.size ⟨#[]⟩ ⟨#[]⟩ (.slice none 0 0)) := by
  obtain ⟨c0, c1, c2⟩ := fin_cells hr ⟨#[]⟩ ⟨#[]⟩ (.slice none 0 0)
  have hfb := fin_below hb (Nat.le_refl _) ⟨#[]⟩ ⟨#[]⟩ (.slice none 0 0)
  refine bodyPost_ret (v := .tuple #[kindV ⟨#[]⟩ ⟨#[]⟩ none 0 0, .int .i64 70]) ?_ hd ⟨⟨#[]⟩, ⟨#[]⟩, none, 0, [], 70, rfl, .inl rfl, hfb, by simp, .inl ⟨hn, rfl, rfl, rfl, rfl⟩⟩
  simp [results, Tryd.results18, go_sem, c0, c1, c2, h2, h3, kindV]
theorem rread_some {w W : World} {s ty sub : ByteArray} {a : Option Addr} {cap : Nat} {fs : List (ByteArray × ByteArray)} {A : Act} (hb : Below w.heap.size w W) (hr : W.heap[w.heap.size]? = some (.cells #[.string ⟨#[]⟩, .string ⟨#[]⟩, .slice none 0 0] 24 (0, 0))) (hf : FRow W a fs) (hne : ∀ x, a = some x → w.heap.size < x.block) (hl : fs.length ≤ 1000000) (hn : readR (nums s) = some (nums ty, nums sub, numsP fs)) (hd : A.defers = []) (h2 : A.tmps[2]?.getD undef = .pointer (some ⟨w.heap.size, 0, none⟩)) (h3 : A.tmps[3]?.getD undef = .int .i64 0) :
    bodyPost Tryd.prog Tryd.f18 (RPost w s) .ret A (finW W w.heap.size ty sub (.slice a fs.length cap)) := by
  obtain ⟨c0, c1, c2⟩ := fin_cells hr ty sub (.slice a fs.length cap)
  have hfb := fin_below hb (Nat.le_refl _) ty sub (.slice a fs.length cap)
  have hfr := fin_row hr ty sub (.slice a fs.length cap) hf (fun x hx _ => by have := hne x hx; omega)
  refine bodyPost_ret (v := .tuple #[kindV ty sub a fs.length cap, .int .i64 0]) ?_ hd ⟨ty, sub, a, cap, fs, 0, rfl, hfr, hfb, hl, .inr ⟨hn, rfl⟩⟩
  simp [results, Tryd.results18, go_sem, c0, c1, c2, h2, h3, kindV]
theorem kx_below {B : Nat} {w W W' : World} (h : Below B w W) (hk : Kx (B + 2) W W') : Below B w W' := h.trans (hk.1.mono (by omega))
set_option maxHeartbeats 8000000 in
set_option maxRecDepth 100000 in
theorem rread_any (s : ByteArray) (w : World) (hs : s.size ≤ 1000000) : Calls Tryd.prog 18 #[.string s] w (RPost w s) := by
  obtain ⟨j0, hi, hz0, hz1, hz2⟩ := info_parts Tryd.info42
  go_enter Tryd.func18, Tryd.ntmps18
  go_wp2_with fail
  have HT0 : Hid (Ts (((w.alloc (.cells #[.string ⟨#[]⟩, .string ⟨#[]⟩, .slice none 0 0] 24)).alloc (.cells #[.string ⟨#[]⟩, .string ⟨#[]⟩, .slice none 0 0] 24)).alloc (.cells #[.string s, .int .i64 0] 51)) (w.heap.size + 2) s 0) := by
    have := heap_alloc_last ((w.alloc (.cells #[.string ⟨#[]⟩, .string ⟨#[]⟩, .slice none 0 0] 24)).alloc (.cells #[.string ⟨#[]⟩, .string ⟨#[]⟩, .slice none 0 0] 24)) (.cells #[.string s, .int .i64 0] 51)
    rw [show ((w.alloc (.cells #[.string ⟨#[]⟩, .string ⟨#[]⟩, .slice none 0 0] 24)).alloc (.cells #[.string ⟨#[]⟩, .string ⟨#[]⟩, .slice none 0 0] 24)).heap.size = w.heap.size + 2 from by simp] at this
    exact this
  have HRS : Hid ((((w.alloc (.cells #[.string ⟨#[]⟩, .string ⟨#[]⟩, .slice none 0 0] 24)).alloc (.cells #[.string ⟨#[]⟩, .string ⟨#[]⟩, .slice none 0 0] 24)).alloc (.cells #[.string s, .int .i64 0] 51)).heap[w.heap.size]? = some (.cells #[.string ⟨#[]⟩, .string ⟨#[]⟩, .slice none 0 0] 24 (0, 0))) := by
    unfold Hid; rw [Below.heap_alloc _ _ _ (by simp; omega), Below.heap_alloc _ _ _ (by simp)]; exact heap_alloc_last w _
  have HBD : Hid ((((w.alloc (.cells #[.string ⟨#[]⟩, .string ⟨#[]⟩, .slice none 0 0] 24)).alloc (.cells #[.string ⟨#[]⟩, .string ⟨#[]⟩, .slice none 0 0] 24)).alloc (.cells #[.string s, .int .i64 0] 51)).heap[w.heap.size + 1]? = some (.cells #[.string ⟨#[]⟩, .string ⟨#[]⟩, .slice none 0 0] 24 (0, 0))) := by
    have := heap_alloc_last (w.alloc (.cells #[.string ⟨#[]⟩, .string ⟨#[]⟩, .slice none 0 0] 24)) (.cells #[.string ⟨#[]⟩, .string ⟨#[]⟩, .slice none 0 0] 24)
    rw [show (w.alloc (.cells #[.string ⟨#[]⟩, .string ⟨#[]⟩, .slice none 0 0] 24)).heap.size = w.heap.size + 1 from by simp] at this
    unfold Hid; rw [Below.heap_alloc _ _ _ (by simp)]; exact this
  have HB0 : Hid (Below w.heap.size w (((w.alloc (.cells #[.string ⟨#[]⟩, .string ⟨#[]⟩, .slice none 0 0] 24)).alloc (.cells #[.string ⟨#[]⟩, .string ⟨#[]⟩, .slice none 0 0] 24)).alloc (.cells #[.string s, .int .i64 0] 51))) := ((keep w _).alloc (by simp) _).alloc (by simp; omega) _
  generalize (((w.alloc (.cells #[.string ⟨#[]⟩, .string ⟨#[]⟩, .slice none 0 0] 24)).alloc (.cells #[.string ⟨#[]⟩, .string ⟨#[]⟩, .slice none 0 0] 24)).alloc (.cells #[.string s, .int .i64 0] 51)) = W0 at HT0 HRS HBD HB0 ⊢
  refine (tblanks_any (w.heap.size + 2) s 0 W0 HT0.out (by omega) hs).mono ?_
  rintro e w1 ⟨rfl, k1, hk1, ht1, hd1, hx1⟩
  have HB1 : Hid (Below w.heap.size w w1) := kx_below HB0.out hx1
  have HT1 : Hid (Ts w1 (w.heap.size + 2) s k1) := ht1
  have HD1 : Hid ((nums s).drop k1 = trimQ (nums s)) := hd1
  have hg0 := HT0.out.lt
  have HRS1 : Hid (w1.heap[w.heap.size]? = some (.cells #[.string ⟨#[]⟩, .string ⟨#[]⟩, .slice none 0 0] 24 (0, 0))) := (hx1.block (by omega) (by omega)).trans HRS.out
  have HBD1 : Hid (w1.heap[w.heap.size + 1]? = some (.cells #[.string ⟨#[]⟩, .string ⟨#[]⟩, .slice none 0 0] 24 (0, 0))) := (hx1.block (by omega) (by omega)).trans HBD.out
  have hg1 := ht1.lt
  clear hd1 ht1 hx1 HT0 HRS HBD HB0
  have hcall := ttoken_any (w.heap.size + 2) s k1 (w1.alloc (.cells #[.string ⟨#[]⟩, .string ⟨#[]⟩, .slice none 0 0] 24)) (HT1.out.below (keep w1 _)) hk1 hs
  go_wp2_with fail
  refine hcall.mono ?_
  clear hcall
  rintro e w2 ⟨x, k2, rfl, hx, hk2, ht2, hd2, hx2⟩
  obtain ⟨K, hK⟩ : ∃ K, w1.heap.size = K := ⟨_, rfl⟩
  rw [hK] at hg1
  have HKR2 : Hid (Kr w2 w.heap.size K s k2 ⟨#[]⟩ ⟨#[]⟩ (.slice none 0 0) []) := by
    refine ⟨ht2, ?_, ?_, ?_, ⟨rfl, .inl ⟨rfl, rfl⟩⟩, hg1⟩
    · rw [hx2.block (by omega) (by simp; omega), Below.heap_alloc _ _ _ (by omega)]; exact HRS1.out
    · rw [hx2.block (by omega) (by simp; omega), Below.heap_alloc _ _ _ (by omega)]; exact HBD1.out
    · rw [← hK, hx2.block (by omega) (by simp)]; exact heap_alloc_last w1 _
  have HB2 : Hid (Below w.heap.size w w2) := kx_below (HB1.out.alloc HB1.out.size _) hx2
  have HX2 : Hid (nums x = (trimQ (nums s)).takeWhile tokC) := by unfold Hid; rw [hx, HD1.out]
  have HD2 : Hid ((nums s).drop k2 = headR (nums s)) := by unfold Hid headR; rw [hd2, HD1.out]
  have hxz : x.size ≤ s.size := by
    rw [← nums_len, hx]; have := takeWhile_le tokC ((nums s).drop k1); rw [List.length_drop, nums_len] at this; omega
  clear hx ht2 hd2 hx2 HRS1 HBD1 HT1 HD1 HB1
  have hcall := lower_any x w2 (by omega)
  obtain ⟨ty, hty⟩ : ∃ ty, strOfNums ((nums x).map smallZ) = ty := ⟨_, rfl⟩
  have HTY : Hid (nums ty = ((trimQ (nums s)).takeWhile tokC).map smallZ) := by unfold Hid; rw [← hty, nums_str (map_small_byt (nums_byt x)), HX2.out]
  have htz : ty.size ≤ s.size := by rw [← nums_len, ← hty, nums_str (map_small_byt (nums_byt x)), List.length_map, nums_len]; exact hxz
  rw [hty] at hcall
  clear hty HX2
  try rw [hK]
  go_wp2_with fail
  refine hcall.mono ?_
  clear hcall
  rintro e w3 ⟨rfl, hb3⟩
  have HKR3 : Hid (Kr w3 w.heap.size K s k2 ⟨#[]⟩ ⟨#[]⟩ (.slice none 0 0) []) := HKR2.out.below hb3
  have HB3 : Hid (Below w.heap.size w w3) := HB2.out.trans (hb3.mono HB2.out.size)
  clear hb3 HKR2 HB2
  have x0 : w3.cell? ⟨K, 0, none⟩ = some (.string ⟨#[]⟩) := by rw [cell_of_row _ _ _ _ _ _ HKR3.out.kind]; rfl
  have y0 : w3.frozen? ⟨K, 0, none⟩ = false := frozen_of_row _ _ _ _ _ HKR3.out.kind
  have HKR4 : Hid (Kr (w3.setCell ⟨K, 0, none⟩ (.string ty)) w.heap.size K s k2 ty ⟨#[]⟩ (.slice none 0 0) []) := HKR3.out.set0 ty
  have HB4 : Hid (Below w.heap.size w (w3.setCell ⟨K, 0, none⟩ (.string ty))) := HB3.out.setCell (p := ⟨K, 0, none⟩) (by simp; omega) _
  go_wp2_with fail
  generalize w3.setCell ⟨K, 0, none⟩ (.string ty) = w4 at HKR4 HB4 ⊢
  clear x0 y0 HKR3 HB3
  refine (tis_any (w.heap.size + 2) 47 s k2 w4 HKR4.out.text hk2 hs).mono ?_
  rintro e w5 ⟨rfl, k5, hk5, ht5, hd5, hx5⟩
  have HKR5 : Hid (Kr w5 w.heap.size K s k5 ty ⟨#[]⟩ (.slice none 0 0) []) := HKR4.out.kx hx5 ht5
  have HB5 : Hid (Below w.heap.size w w5) := kx_below HB4.out hx5
  rw [HD2.out] at hd5
  have HD5 : Hid ((nums s).drop k5 = subR (nums s)) := hd5
  rw [HD2.out]
  clear ht5 hd5 hx5 HKR4 HB4
  cases hb : signB 47 (headR (nums s)) with
  | false =>
    have b0 : w5.cell? ⟨w.heap.size + 1, 0, none⟩ = some (.string ⟨#[]⟩) := by rw [cell_of_row _ _ _ _ _ _ HKR5.out.bad]; rfl
    have r0 : w5.cell? ⟨w.heap.size, 0, none⟩ = some (.string ⟨#[]⟩) := by rw [cell_of_row _ _ _ _ _ _ HKR5.out.res]; rfl
    have f0 : w5.frozen? ⟨w.heap.size, 0, none⟩ = false := frozen_of_row _ _ _ _ _ HKR5.out.res
    have b1 : w5.cell? ⟨w.heap.size + 1, 1, none⟩ = some (.string ⟨#[]⟩) := by rw [cell_of_row _ _ _ _ _ _ HKR5.out.bad]; rfl
    have r1 : w5.cell? ⟨w.heap.size, 1, none⟩ = some (.string ⟨#[]⟩) := by rw [cell_of_row _ _ _ _ _ _ HKR5.out.res]; rfl
    have f1 : w5.frozen? ⟨w.heap.size, 1, none⟩ = false := frozen_of_row _ _ _ _ _ HKR5.out.res
    have b2 : w5.cell? ⟨w.heap.size + 1, 2, none⟩ = some (.slice none 0 0) := by rw [cell_of_row _ _ _ _ _ _ HKR5.out.bad]; rfl
    have r2 : w5.cell? ⟨w.heap.size, 2, none⟩ = some (.slice none 0 0) := by rw [cell_of_row _ _ _ _ _ _ HKR5.out.res]; rfl
    have f2 : w5.frozen? ⟨w.heap.size, 2, none⟩ = false := frozen_of_row _ _ _ _ _ HKR5.out.res
    have HNO : Hid (readR (nums s) = none) := by unfold Hid readR kindR; rw [if_neg (by rw [hb]; simp)]
    go_wp2
    (try simp only [Exit.inBlock, Exit.then])
    exact rread_none HB5.out HKR5.out.res HNO.out rfl rfl rfl
  | true =>
  have HQ0 : Hid (kindR (nums s) = (parsR (nums s).length [] (trimQ ((subR (nums s)).dropWhile tokC))).map fun ps => (nums ty, ((subR (nums s)).takeWhile tokC).map smallZ, ps)) := by
    unfold Hid kindR; rw [if_pos hb, HTY.out]
  clear HTY hb HD2
  have hcall := ttoken_any (w.heap.size + 2) s k5 w5 HKR5.out.text hk5 hs
  go_wp2_with fail
  refine hcall.mono ?_
  clear hcall
  rintro e w6 ⟨x6, k6, rfl, hx6, hk6, ht6, hd6, hxx6⟩
  have HKR6 : Hid (Kr w6 w.heap.size K s k6 ty ⟨#[]⟩ (.slice none 0 0) []) := HKR5.out.kx hxx6 ht6
  have HB6 : Hid (Below w.heap.size w w6) := kx_below HB5.out hxx6
  rw [HD5.out] at hx6 hd6
  have HX6 : Hid (nums x6 = (subR (nums s)).takeWhile tokC) := hx6
  have HD6 : Hid ((nums s).drop k6 = (subR (nums s)).dropWhile tokC) := hd6
  have hxz6 : x6.size ≤ s.size := by
    rw [← nums_len, hx6, ← HD5.out]; have := takeWhile_le tokC ((nums s).drop k5); rw [List.length_drop, nums_len] at this; omega
  clear hx6 ht6 hd6 hxx6 HKR5 HB5
  have hcall := lower_any x6 w6 (by omega)
  obtain ⟨sub, hsub⟩ : ∃ sub, strOfNums ((nums x6).map smallZ) = sub := ⟨_, rfl⟩
  have HSUB : Hid (nums sub = ((subR (nums s)).takeWhile tokC).map smallZ) := by unfold Hid; rw [← hsub, nums_str (map_small_byt (nums_byt x6)), HX6.out]
  have hsz : sub.size ≤ s.size := by rw [← nums_len, ← hsub, nums_str (map_small_byt (nums_byt x6)), List.length_map, nums_len]; exact hxz6
  rw [hsub] at hcall
  clear hsub HX6
  go_wp2_with fail
  refine hcall.mono ?_
  clear hcall
  rintro e w7 ⟨rfl, hb7⟩
  have HKR7 : Hid (Kr w7 w.heap.size K s k6 ty ⟨#[]⟩ (.slice none 0 0) []) := HKR6.out.below hb7
  have HB7 : Hid (Below w.heap.size w w7) := HB6.out.trans (hb7.mono HB6.out.size)
  clear hb7 HKR6 HB6
  have x1 : w7.cell? ⟨K, 1, none⟩ = some (.string ⟨#[]⟩) := by rw [cell_of_row _ _ _ _ _ _ HKR7.out.kind]; rfl
  have y1 : w7.frozen? ⟨K, 1, none⟩ = false := frozen_of_row _ _ _ _ _ HKR7.out.kind
  have HKR8 : Hid (Kr (w7.setCell ⟨K, 1, none⟩ (.string sub)) w.heap.size K s k6 ty sub (.slice none 0 0) []) := HKR7.out.set1 sub
  have HB8 : Hid (Below w.heap.size w (w7.setCell ⟨K, 1, none⟩ (.string sub))) := HB7.out.setCell (p := ⟨K, 1, none⟩) (by simp; omega) _
  go_wp2_with fail
  generalize w7.setCell ⟨K, 1, none⟩ (.string sub) = w8 at HKR8 HB8 ⊢
  clear x1 y1 HKR7 HB7
  refine (tblanks_any (w.heap.size + 2) s k6 w8 HKR8.out.text hk6 hs).mono ?_
  rintro e w9 ⟨rfl, k9, hk9, ht9, hd9, hx9⟩
  have HKR9 : Hid (Kr w9 w.heap.size K s k9 ty sub (.slice none 0 0) []) := HKR8.out.kx hx9 ht9
  have HB9 : Hid (Below w.heap.size w w9) := kx_below HB8.out hx9
  have HQ9 : Hid (kindR (nums s) = (parsR (nums s).length [] ((nums s).drop k9)).map fun ps => (nums ty, nums sub, ps)) := by
    unfold Hid; rw [HQ0.out, hd9, HD6.out, HSUB.out]
  clear ht9 hd9 hx9 HKR8 HB8 HQ0 HD6 HSUB HD5
  go_wp2
  go_loopw [7] (fun _ wr => ∃ (k : Nat) (vf : Value) (fs : List (ByteArray × ByteArray)) (m : Nat), k ≤ s.size ∧ Kr wr w.heap.size K s k ty sub vf fs ∧ Below w.heap.size w wr ∧ s.size - k ≤ m ∧ kindR (nums s) = (parsR m (numsP fs) ((nums s).drop k)).map (fun ps => (nums ty, nums sub, ps)) ∧ fs.length ≤ k ∧ (∀ f ∈ fs, f.1.size ≤ 100000000 ∧ f.2.size ≤ 100000000)) (fun _ wr => s.size - placeOf wr (w.heap.size + 2))
  case atStart => exact ⟨k9, _, [], _, hk9, HKR9.out, HB9.out, by rw [nums_len]; omega, HQ9.out, by simp, by intro f hf; cases hf⟩
  case round =>
    clear HKR9 HB9 HQ9
    obtain ⟨k, vf, fs, m, hk, hkr, hbw, hm, hq, hfl, hsf⟩ := hrel
    have HKR : Hid (Kr wr w.heap.size K s k ty sub vf fs) := hkr
    have HB : Hid (Below w.heap.size w wr) := hbw
    have HQ : Hid (kindR (nums s) = (parsR m (numsP fs) ((nums s).drop k)).map (fun ps => (nums ty, nums sub, ps))) := hq
    have HSF : Hid (∀ f ∈ fs, f.1.size ≤ 100000000 ∧ f.2.size ≤ 100000000) := hsf
    have HP : Hid (placeOf wr (w.heap.size + 2) = k) := placeOf_of hkr.text
    clear hkr hbw hq hsf
    obtain ⟨af, cap, rfl, hfr⟩ := ownF_view HKR.out.own
    clear hfr
    have c1 := HKR.out.text.c1
    by_cases hlt : k < s.size
    · have hd : decide ((k : Int) < (s.size : Int)) = true := by simp; omega
      have HD : Hid ((nums s).drop k = (s[k].toNat : Int) :: (nums s).drop (k + 1)) := nums_drop s k hlt
      obtain ⟨c, hcc⟩ : ∃ c : Int, ((s[k]'hlt).toNat : Int) = c := ⟨_, rfl⟩
      rw [hcc] at HD
      clear hcc
      obtain ⟨m', rfl⟩ : ∃ m', m = m' + 1 := ⟨m - 1, by omega⟩
      have hcall := tis_any (w.heap.size + 2) 59 s k wr HKR.out.text hk hs
      by_cases h59 : c = 59
      · subst h59
        have hsb : signB 59 ((nums s).drop k) = true := by rw [HD.out]; simp [signB]
        have HR : Hid (signR 59 ((nums s).drop k) = (nums s).drop (k + 1)) := by unfold Hid signR; rw [if_pos hsb, HD.out]; rfl
        rw [hsb] at hcall
        go_wp2_with fail
        refine hcall.mono ?_
        clear hcall c1 hsb
        rintro e w10 ⟨rfl, k10, hk10, ht10, hd10, hx10⟩
        obtain rfl := drop_eq hk10 (show k + 1 ≤ s.size by omega) (hd10.trans HR.out)
        have HKR10 : Hid (Kr w10 w.heap.size K s (k + 1) ty sub (.slice af fs.length cap) fs) := HKR.out.kx hx10 ht10
        have HB10 : Hid (Below w.heap.size w w10) := kx_below HB.out hx10
        clear ht10 hd10 hx10
        have hcall := tblanks_any (w.heap.size + 2) s (k + 1) w10 HKR10.out.text hk10 hs
        go_wp2_with fail
        refine hcall.mono ?_
        clear hcall
        rintro e w11 ⟨rfl, k11, hk11, ht11, hd11, hx11⟩
        have HKR11 : Hid (Kr w11 w.heap.size K s k11 ty sub (.slice af fs.length cap) fs) := HKR10.out.kx hx11 ht11
        have HB11 : Hid (Below w.heap.size w w11) := kx_below HB10.out hx11
        have HD11 : Hid ((nums s).drop k11 = trimQ ((nums s).drop (k + 1))) := hd11
        have hle11 : k + 1 ≤ k11 := by
          have := trim_len ((nums s).drop (k + 1)); rw [← hd11, List.length_drop, List.length_drop, nums_len] at this; omega
        have c11 := ht11.c1
        clear ht11 hd11 hx11 HKR10 HB10
        by_cases he : k11 = s.size
        · have hde : ((k11 : Int) == (s.size : Int)) = true := by rw [beq_iff_eq]; omega
          have HQE : Hid (kindR (nums s) = some (nums ty, nums sub, numsP fs)) := by
            unfold Hid
            rw [HQ.out, HD.out, parsR, if_pos rfl, ← HD11.out, List.drop_of_length_le (by rw [nums_len]; omega), if_pos rfl]; rfl
          obtain ⟨af2, cap2, hvf2, hfr2⟩ := ownF_view HKR11.out.own
          obtain ⟨rfl, _, rfl⟩ : af2 = af ∧ True ∧ cap2 = cap := by simp at hvf2; exact ⟨hvf2.1.symm, trivial, hvf2.2.symm⟩
          have HFR : Hid (FRow w11 af2 fs) := hfr2
          clear hvf2 hfr2
          have HRD : Hid (readR (nums s) = if rightZ (nums ty) (nums sub) (numsP fs) = true then some (nums ty, nums sub, numsP fs) else none) := by unfold Hid readR; rw [HQE.out]
          have x0 : w11.cell? ⟨K, 0, none⟩ = some (.string ty) := by rw [cell_of_row _ _ _ _ _ _ HKR11.out.kind]; rfl
          have x1 : w11.cell? ⟨K, 1, none⟩ = some (.string sub) := by rw [cell_of_row _ _ _ _ _ _ HKR11.out.kind]; rfl
          have x2 : w11.cell? ⟨K, 2, none⟩ = some (.slice af2 fs.length cap2) := by rw [cell_of_row _ _ _ _ _ _ HKR11.out.kind]; rfl
          have hrr := rright_any ty sub af2 fs.length cap2 fs w11 rfl (by omega) HFR.out (by omega) (by omega) HSF.out
          unfold kindV at hrr
          go_wp2_with fail
          refine hrr.mono ?_
          clear hrr x0 x1 x2
          rintro e w15 ⟨rfl, hb15⟩
          have HD15 : Hid (Kr w15 w.heap.size K s k11 ty sub (.slice af2 fs.length cap2) fs) := HKR11.out.below hb15
          have HB15 : Hid (Below w.heap.size w w15) := HB11.out.trans (hb15.mono HB11.out.size)
          have HF15 : Hid (FRow w15 af2 fs) := HFR.out.below hb15
          clear hb15
          cases hrz : rightZ (nums ty) (nums sub) (numsP fs) with
          | false =>
            have b0 : w15.cell? ⟨w.heap.size + 1, 0, none⟩ = some (.string ⟨#[]⟩) := by rw [cell_of_row _ _ _ _ _ _ HD15.out.bad]; rfl
            have r0 : w15.cell? ⟨w.heap.size, 0, none⟩ = some (.string ⟨#[]⟩) := by rw [cell_of_row _ _ _ _ _ _ HD15.out.res]; rfl
            have f0 : w15.frozen? ⟨w.heap.size, 0, none⟩ = false := frozen_of_row _ _ _ _ _ HD15.out.res
            have b1 : w15.cell? ⟨w.heap.size + 1, 1, none⟩ = some (.string ⟨#[]⟩) := by rw [cell_of_row _ _ _ _ _ _ HD15.out.bad]; rfl
            have r1 : w15.cell? ⟨w.heap.size, 1, none⟩ = some (.string ⟨#[]⟩) := by rw [cell_of_row _ _ _ _ _ _ HD15.out.res]; rfl
            have f1 : w15.frozen? ⟨w.heap.size, 1, none⟩ = false := frozen_of_row _ _ _ _ _ HD15.out.res
            have b2 : w15.cell? ⟨w.heap.size + 1, 2, none⟩ = some (.slice none 0 0) := by rw [cell_of_row _ _ _ _ _ _ HD15.out.bad]; rfl
            have r2 : w15.cell? ⟨w.heap.size, 2, none⟩ = some (.slice none 0 0) := by rw [cell_of_row _ _ _ _ _ _ HD15.out.res]; rfl
            have f2 : w15.frozen? ⟨w.heap.size, 2, none⟩ = false := frozen_of_row _ _ _ _ _ HD15.out.res
            have HNO : Hid (readR (nums s) = none) := by unfold Hid; rw [HRD.out, hrz]; rfl
            go_wp2
            (try simp only [Exit.inBlock, Exit.then])
            exact rread_none HB15.out HD15.out.res HNO.out rfl rfl rfl
          | true =>
            have b0 : w15.cell? ⟨w.heap.size + 1, 0, none⟩ = some (.string ⟨#[]⟩) := by rw [cell_of_row _ _ _ _ _ _ HD15.out.bad]; rfl
            have r0 : w15.cell? ⟨w.heap.size, 0, none⟩ = some (.string ⟨#[]⟩) := by rw [cell_of_row _ _ _ _ _ _ HD15.out.res]; rfl
            have f0 : w15.frozen? ⟨w.heap.size, 0, none⟩ = false := frozen_of_row _ _ _ _ _ HD15.out.res
            have b1 : w15.cell? ⟨w.heap.size + 1, 1, none⟩ = some (.string ⟨#[]⟩) := by rw [cell_of_row _ _ _ _ _ _ HD15.out.bad]; rfl
            have r1 : w15.cell? ⟨w.heap.size, 1, none⟩ = some (.string ⟨#[]⟩) := by rw [cell_of_row _ _ _ _ _ _ HD15.out.res]; rfl
            have f1 : w15.frozen? ⟨w.heap.size, 1, none⟩ = false := frozen_of_row _ _ _ _ _ HD15.out.res
            have b2 : w15.cell? ⟨w.heap.size + 1, 2, none⟩ = some (.slice none 0 0) := by rw [cell_of_row _ _ _ _ _ _ HD15.out.bad]; rfl
            have r2 : w15.cell? ⟨w.heap.size, 2, none⟩ = some (.slice none 0 0) := by rw [cell_of_row _ _ _ _ _ _ HD15.out.res]; rfl
            have f2 : w15.frozen? ⟨w.heap.size, 2, none⟩ = false := frozen_of_row _ _ _ _ _ HD15.out.res
            have HSO : Hid (readR (nums s) = some (nums ty, nums sub, numsP fs)) := by unfold Hid; rw [HRD.out, hrz]; rfl
            have x0 : w15.cell? ⟨K, 0, none⟩ = some (.string ty) := by rw [cell_of_row _ _ _ _ _ _ HD15.out.kind]; rfl
            have x1 : w15.cell? ⟨K, 1, none⟩ = some (.string sub) := by rw [cell_of_row _ _ _ _ _ _ HD15.out.kind]; rfl
            have x2 : w15.cell? ⟨K, 2, none⟩ = some (.slice af2 fs.length cap2) := by rw [cell_of_row _ _ _ _ _ _ HD15.out.kind]; rfl
            have hltk := HD15.out.lt2
            go_wp2
            (try simp only [Exit.inBlock, Exit.then])
            exact rread_some HB15.out HD15.out.res HF15.out (fun x hx => by have := ownF_base HD15.out.own x hx; omega) (by omega) HSO.out rfl rfl rfl
        · have hde : ((k11 : Int) == (s.size : Int)) = false := by rw [beq_eq_false_iff_ne]; omega
          have HNE : Hid (¬ trimQ ((nums s).drop (k + 1)) = []) := by
            intro q; rw [← HD11.out] at q; have := congrArg List.length q; rw [List.length_drop, nums_len, List.length_nil] at this; omega
          have hcall := ttoken_any (w.heap.size + 2) s k11 w11 HKR11.out.text hk11 hs
          go_wp2_with fail
          refine hcall.mono ?_
          clear hcall c11
          rintro e w12 ⟨xn, k12, rfl, hxn, hk12, ht12, hd12, hx12⟩
          have HKR12 : Hid (Kr w12 w.heap.size K s k12 ty sub (.slice af fs.length cap) fs) := HKR11.out.kx hx12 ht12
          have HB12 : Hid (Below w.heap.size w w12) := kx_below HB11.out hx12
          rw [HD11.out] at hxn hd12
          have HXN : Hid (nums xn = (trimQ ((nums s).drop (k + 1))).takeWhile tokC) := hxn
          have HD12 : Hid ((nums s).drop k12 = (trimQ ((nums s).drop (k + 1))).dropWhile tokC) := hd12
          have hxnz : xn.size ≤ s.size := by
            rw [← nums_len, hxn, ← HD11.out]; have := takeWhile_le tokC ((nums s).drop k11); rw [List.length_drop, nums_len] at this; omega
          clear hxn ht12 hd12 hx12 HKR11 HB11
          have hcall := lower_any xn w12 (by omega)
          obtain ⟨pn, hpn⟩ : ∃ pn, strOfNums ((nums xn).map smallZ) = pn := ⟨_, rfl⟩
          have HPN : Hid (nums pn = ((trimQ ((nums s).drop (k + 1))).takeWhile tokC).map smallZ) := by unfold Hid; rw [← hpn, nums_str (map_small_byt (nums_byt xn)), HXN.out]
          have hpz : pn.size ≤ s.size := by rw [← nums_len, ← hpn, nums_str (map_small_byt (nums_byt xn)), List.length_map, nums_len]; exact hxnz
          rw [hpn] at hcall
          clear hpn HXN
          go_wp2_with fail
          refine hcall.mono ?_
          clear hcall
          rintro e w13 ⟨rfl, hb13⟩
          have HKR13 : Hid (Kr w13 w.heap.size K s k12 ty sub (.slice af fs.length cap) fs) := HKR12.out.below hb13
          have HB13 : Hid (Below w.heap.size w w13) := HB12.out.trans (hb13.mono HB12.out.size)
          clear hb13 HKR12 HB12
          have hcall := tis_any (w.heap.size + 2) 61 s k12 w13 HKR13.out.text hk12 hs
          go_wp2_with fail
          refine hcall.mono ?_
          clear hcall
          rintro e w14 ⟨rfl, k14, hk14, ht14, hd14, hx14⟩
          have HKR14 : Hid (Kr w14 w.heap.size K s k14 ty sub (.slice af fs.length cap) fs) := HKR13.out.kx hx14 ht14
          have HB14 : Hid (Below w.heap.size w w14) := kx_below HB13.out hx14
          rw [HD12.out] at hd14 ⊢
          have HD14 : Hid ((nums s).drop k14 = signR 61 ((trimQ ((nums s).drop (k + 1))).dropWhile tokC)) := hd14
          clear ht14 hd14 hx14 HKR13 HB13
          have HPR : Hid (paramR (trimQ ((nums s).drop (k + 1))) = if signB 61 ((trimQ ((nums s).drop (k + 1))).dropWhile tokC) = true then (valueR ((nums s).drop k14)).map fun x => ((nums pn, x.1), x.2) else none) := by
            unfold Hid paramR; rw [HD14.out, HPN.out]
          cases hb61 : signB 61 ((trimQ ((nums s).drop (k + 1))).dropWhile tokC) with
          | false =>
            have b0 : w14.cell? ⟨w.heap.size + 1, 0, none⟩ = some (.string ⟨#[]⟩) := by rw [cell_of_row _ _ _ _ _ _ HKR14.out.bad]; rfl
            have r0 : w14.cell? ⟨w.heap.size, 0, none⟩ = some (.string ⟨#[]⟩) := by rw [cell_of_row _ _ _ _ _ _ HKR14.out.res]; rfl
            have f0 : w14.frozen? ⟨w.heap.size, 0, none⟩ = false := frozen_of_row _ _ _ _ _ HKR14.out.res
            have b1 : w14.cell? ⟨w.heap.size + 1, 1, none⟩ = some (.string ⟨#[]⟩) := by rw [cell_of_row _ _ _ _ _ _ HKR14.out.bad]; rfl
            have r1 : w14.cell? ⟨w.heap.size, 1, none⟩ = some (.string ⟨#[]⟩) := by rw [cell_of_row _ _ _ _ _ _ HKR14.out.res]; rfl
            have f1 : w14.frozen? ⟨w.heap.size, 1, none⟩ = false := frozen_of_row _ _ _ _ _ HKR14.out.res
            have b2 : w14.cell? ⟨w.heap.size + 1, 2, none⟩ = some (.slice none 0 0) := by rw [cell_of_row _ _ _ _ _ _ HKR14.out.bad]; rfl
            have r2 : w14.cell? ⟨w.heap.size, 2, none⟩ = some (.slice none 0 0) := by rw [cell_of_row _ _ _ _ _ _ HKR14.out.res]; rfl
            have f2 : w14.frozen? ⟨w.heap.size, 2, none⟩ = false := frozen_of_row _ _ _ _ _ HKR14.out.res
            have HNO : Hid (readR (nums s) = none) := by unfold Hid readR; rw [HQ.out, HD.out, parsR, if_pos rfl, if_neg HNE.out, HPR.out, hb61]; rfl
            go_wp2
            (try simp only [Exit.inBlock, Exit.then])
            exact rread_none HB14.out HKR14.out.res HNO.out rfl rfl rfl
          | true =>
          have hcall := tvalue_any (w.heap.size + 2) s k14 w14 HKR14.out.text hk14 hs
          go_wp2_with fail
          refine hcall.mono ?_
          clear hcall
          rintro e w16 ⟨pv, k16, b, rfl, hk16, ht16, hx16, hvz, hva⟩
          have HKR16 : Hid (Kr w16 w.heap.size K s k16 ty sub (.slice af fs.length cap) fs) := HKR14.out.kx hx16 ht16
          have HB16 : Hid (Below w.heap.size w w16) := kx_below HB14.out hx16
          have HVA : Hid (Ans b (valueR ((nums s).drop k14)) (nums pv) ((nums s).drop k16)) := hva
          clear ht16 hx16 hva HKR14 HB14
          cases b with
          | false =>
            have b0 : w16.cell? ⟨w.heap.size + 1, 0, none⟩ = some (.string ⟨#[]⟩) := by rw [cell_of_row _ _ _ _ _ _ HKR16.out.bad]; rfl
            have r0 : w16.cell? ⟨w.heap.size, 0, none⟩ = some (.string ⟨#[]⟩) := by rw [cell_of_row _ _ _ _ _ _ HKR16.out.res]; rfl
            have f0 : w16.frozen? ⟨w.heap.size, 0, none⟩ = false := frozen_of_row _ _ _ _ _ HKR16.out.res
            have b1 : w16.cell? ⟨w.heap.size + 1, 1, none⟩ = some (.string ⟨#[]⟩) := by rw [cell_of_row _ _ _ _ _ _ HKR16.out.bad]; rfl
            have r1 : w16.cell? ⟨w.heap.size, 1, none⟩ = some (.string ⟨#[]⟩) := by rw [cell_of_row _ _ _ _ _ _ HKR16.out.res]; rfl
            have f1 : w16.frozen? ⟨w.heap.size, 1, none⟩ = false := frozen_of_row _ _ _ _ _ HKR16.out.res
            have b2 : w16.cell? ⟨w.heap.size + 1, 2, none⟩ = some (.slice none 0 0) := by rw [cell_of_row _ _ _ _ _ _ HKR16.out.bad]; rfl
            have r2 : w16.cell? ⟨w.heap.size, 2, none⟩ = some (.slice none 0 0) := by rw [cell_of_row _ _ _ _ _ _ HKR16.out.res]; rfl
            have f2 : w16.frozen? ⟨w.heap.size, 2, none⟩ = false := frozen_of_row _ _ _ _ _ HKR16.out.res
            have HNO : Hid (readR (nums s) = none) := by unfold Hid readR; rw [HQ.out, HD.out, parsR, if_pos rfl, if_neg HNE.out, HPR.out, hb61, if_pos rfl, HVA.out.2 rfl]; rfl
            go_wp2
            (try simp only [Exit.inBlock, Exit.then])
            exact rread_none HB16.out HKR16.out.res HNO.out rfl rfl rfl
          | true =>
          have hp : paramR (trimQ ((nums s).drop (k + 1))) = some ((nums pn, nums pv), (nums s).drop k16) := by rw [HPR.out, hb61, if_pos rfl, HVA.out.1 rfl]; rfl
          have hpl := param_len hp
          rw [← HD11.out, List.length_drop, List.length_drop, nums_len, nums_len, nums_len] at hpl
          have HPP : Hid (kindR (nums s) = (parsR m' (numsP (fs ++ [(pn, pv)])) (trimQ ((nums s).drop k16))).map (fun ps => (nums ty, nums sub, ps))) := by
            unfold Hid; rw [HQ.out, HD.out, parsR, if_pos rfl, if_neg HNE.out, hp]; simp [numsP]
          have hlen : (fs ++ [(pn, pv)]).length = fs.length + 1 := by simp
          have hltk := HKR16.out.lt
          have hlt2 := HKR16.out.lt2
          have x2 : w16.cell? ⟨K, 2, none⟩ = some (.slice af fs.length cap) := by rw [cell_of_row _ _ _ _ _ _ HKR16.out.kind]; rfl
          clear hp hb61
          go_wp2_with (at_builtin; refine wpList_append_own _ rfl (.tmp 66) (.tmp 70) 22 rfl (K + 1) 42 j0 _ 2 32 Tryd.underlying22 hi hz0 hz1 hz2 rfl (by decide) _ _ _ rfl (own_keep HKR16.out.own (keep _ _)) ⟨w16.heap.size, 0, none⟩ 1 1 (cellF (pn, pv)) rfl rfl (cell_two_new w16 (.string pn) (.string pv) 42) ?a4 ?a1 ?a2 ?a3 ?_)
          case a4 => intro u hu; simp [cellF] at hu; rcases hu with rfl | rfl <;> rfl
          case a1 => unfold maxLen; omega
          case a2 => omega
          case a3 => simp; omega
          intro v' w17 hown17 hgrow17 _
          have hO17 : OwnF w17 (K + 1) v' (fs ++ [(pn, pv)]) := by
            unfold OwnF; rw [hlen, List.flatMap_append]; simpa using hown17
          have hKa := HKR16.out.below (keep w16 (.cells #[.string pn, .string pv] 42))
          have hK17 := hKa.app hgrow17 hO17
          have hB17 : Below w.heap.size w w17 := (HB16.out.alloc HB16.out.size (.cells #[.string pn, .string pv] 42)).grown hgrow17 (by have := HB16.out.size; simp; omega) (fun j hj => by have := (hKa.own.lt j hj).1; omega)
          have e17 : w17.heap[K]? = some (.cells #[.string ty, .string sub, .slice af fs.length cap] 24 (0, 0)) := (hgrow17.block _ hKa.lt (ne_type hKa.own hKa.kind (by decide))).trans hKa.kind
          obtain ⟨a17, cap17, hv17, _⟩ := ownF_view hO17
          rw [hlen] at hv17
          subst hv17
          have HKR17 : Hid (Kr (w17.setCell ⟨K, 2, none⟩ (.slice a17 (fs.length + 1) cap17)) w.heap.size K s k16 ty sub (.slice a17 (fs.length + 1) cap17) (fs ++ [(pn, pv)])) := hK17
          have HB17 : Hid (Below w.heap.size w (w17.setCell ⟨K, 2, none⟩ (.slice a17 (fs.length + 1) cap17))) := hB17.setCell (p := ⟨K, 2, none⟩) (by simp; omega) _
          have y2 : w17.cell? ⟨K, 2, none⟩ = some (.slice af fs.length cap) := by rw [cell_of_row _ _ _ _ _ _ e17]; rfl
          have z2 : w17.frozen? ⟨K, 2, none⟩ = false := frozen_of_row _ _ _ _ _ e17
          clear hown17 hgrow17 hO17 hKa hK17 hB17 e17 x2
          go_wp2_with fail
          generalize w17.setCell ⟨K, 2, none⟩ (.slice a17 (fs.length + 1) cap17) = w18 at HKR17 HB17 ⊢
          clear y2 z2
          refine (tblanks_any (w.heap.size + 2) s k16 w18 HKR17.out.text hk16 hs).mono ?_
          rintro e w19 ⟨rfl, k19, hk19, ht19, hd19, hx19⟩
          have HKR19 : Hid (Kr w19 w.heap.size K s k19 ty sub (.slice a17 (fs.length + 1) cap17) (fs ++ [(pn, pv)])) := HKR17.out.kx hx19 ht19
          have HB19 : Hid (Below w.heap.size w w19) := kx_below HB17.out hx19
          have HP19 : Hid (placeOf w19 (w.heap.size + 2) = k19) := placeOf_of ht19
          have hle19 : k16 ≤ k19 := by
            have := trim_len ((nums s).drop k16); rw [← hd19, List.length_drop, List.length_drop, nums_len] at this; omega
          have HQ19 : Hid (kindR (nums s) = (parsR m' (numsP (fs ++ [(pn, pv)])) ((nums s).drop k19)).map (fun ps => (nums ty, nums sub, ps))) := by unfold Hid; rw [hd19]; exact HPP.out
          clear ht19 hd19 hx19
          go_wp2
          go_roundw
          case rel =>
            refine ⟨k19, _, fs ++ [(pn, pv)], m', hk19, HKR19.out, HB19.out, by omega, HQ19.out, by rw [hlen]; omega, ?_⟩
            intro f hf
            rcases List.mem_append.1 hf with q | q
            · exact HSF.out f q
            · simp at q; subst q; exact ⟨by simp; omega, by simp; omega⟩
          case measure => rw [HP19.out, HP.out]; omega
      · have hsb : signB 59 ((nums s).drop k) = false := by rw [HD.out]; simp [signB, h59]
        rw [hsb] at hcall
        go_wp2_with fail
        refine hcall.mono ?_
        clear hcall c1 hsb
        rintro e w10 ⟨rfl, k10, hk10, ht10, hd10, hx10⟩
        have HKR10 : Hid (Kr w10 w.heap.size K s k10 ty sub (.slice af fs.length cap) fs) := HKR.out.kx hx10 ht10
        have HB10 : Hid (Below w.heap.size w w10) := kx_below HB.out hx10
        clear ht10 hd10 hx10
        have b0 : w10.cell? ⟨w.heap.size + 1, 0, none⟩ = some (.string ⟨#[]⟩) := by rw [cell_of_row _ _ _ _ _ _ HKR10.out.bad]; rfl
        have r0 : w10.cell? ⟨w.heap.size, 0, none⟩ = some (.string ⟨#[]⟩) := by rw [cell_of_row _ _ _ _ _ _ HKR10.out.res]; rfl
        have f0 : w10.frozen? ⟨w.heap.size, 0, none⟩ = false := frozen_of_row _ _ _ _ _ HKR10.out.res
        have b1 : w10.cell? ⟨w.heap.size + 1, 1, none⟩ = some (.string ⟨#[]⟩) := by rw [cell_of_row _ _ _ _ _ _ HKR10.out.bad]; rfl
        have r1 : w10.cell? ⟨w.heap.size, 1, none⟩ = some (.string ⟨#[]⟩) := by rw [cell_of_row _ _ _ _ _ _ HKR10.out.res]; rfl
        have f1 : w10.frozen? ⟨w.heap.size, 1, none⟩ = false := frozen_of_row _ _ _ _ _ HKR10.out.res
        have b2 : w10.cell? ⟨w.heap.size + 1, 2, none⟩ = some (.slice none 0 0) := by rw [cell_of_row _ _ _ _ _ _ HKR10.out.bad]; rfl
        have r2 : w10.cell? ⟨w.heap.size, 2, none⟩ = some (.slice none 0 0) := by rw [cell_of_row _ _ _ _ _ _ HKR10.out.res]; rfl
        have f2 : w10.frozen? ⟨w.heap.size, 2, none⟩ = false := frozen_of_row _ _ _ _ _ HKR10.out.res
        have HNO : Hid (readR (nums s) = none) := by unfold Hid readR; rw [HQ.out, HD.out, parsR, if_neg h59]; rfl
        go_wp2
        (try simp only [Exit.inBlock, Exit.then])
        exact rread_none HB10.out HKR10.out.res HNO.out rfl rfl rfl
    · have hd : decide ((k : Int) < (s.size : Int)) = false := by simp; omega
      have HQE : Hid (kindR (nums s) = some (nums ty, nums sub, numsP fs)) := by
        unfold Hid
        rw [HQ.out, List.drop_of_length_le (by rw [nums_len]; omega)]
        cases m <;> rfl
      obtain ⟨af2, cap2, hvf2, hfr2⟩ := ownF_view HKR.out.own
      obtain ⟨rfl, _, rfl⟩ : af2 = af ∧ True ∧ cap2 = cap := by simp at hvf2; exact ⟨hvf2.1.symm, trivial, hvf2.2.symm⟩
      have HFR : Hid (FRow wr af2 fs) := hfr2
      clear hvf2 hfr2
      have HRD : Hid (readR (nums s) = if rightZ (nums ty) (nums sub) (numsP fs) = true then some (nums ty, nums sub, numsP fs) else none) := by unfold Hid readR; rw [HQE.out]
      have x0 : wr.cell? ⟨K, 0, none⟩ = some (.string ty) := by rw [cell_of_row _ _ _ _ _ _ HKR.out.kind]; rfl
      have x1 : wr.cell? ⟨K, 1, none⟩ = some (.string sub) := by rw [cell_of_row _ _ _ _ _ _ HKR.out.kind]; rfl
      have x2 : wr.cell? ⟨K, 2, none⟩ = some (.slice af2 fs.length cap2) := by rw [cell_of_row _ _ _ _ _ _ HKR.out.kind]; rfl
      have hrr := rright_any ty sub af2 fs.length cap2 fs wr rfl (by omega) HFR.out (by omega) (by omega) HSF.out
      unfold kindV at hrr
      go_wp2_with fail
      refine hrr.mono ?_
      clear hrr x0 x1 x2
      rintro e w15 ⟨rfl, hb15⟩
      have HD15 : Hid (Kr w15 w.heap.size K s k ty sub (.slice af2 fs.length cap2) fs) := HKR.out.below hb15
      have HB15 : Hid (Below w.heap.size w w15) := HB.out.trans (hb15.mono HB.out.size)
      have HF15 : Hid (FRow w15 af2 fs) := HFR.out.below hb15
      clear hb15
      cases hrz : rightZ (nums ty) (nums sub) (numsP fs) with
      | false =>
        have b0 : w15.cell? ⟨w.heap.size + 1, 0, none⟩ = some (.string ⟨#[]⟩) := by rw [cell_of_row _ _ _ _ _ _ HD15.out.bad]; rfl
        have r0 : w15.cell? ⟨w.heap.size, 0, none⟩ = some (.string ⟨#[]⟩) := by rw [cell_of_row _ _ _ _ _ _ HD15.out.res]; rfl
        have f0 : w15.frozen? ⟨w.heap.size, 0, none⟩ = false := frozen_of_row _ _ _ _ _ HD15.out.res
        have b1 : w15.cell? ⟨w.heap.size + 1, 1, none⟩ = some (.string ⟨#[]⟩) := by rw [cell_of_row _ _ _ _ _ _ HD15.out.bad]; rfl
        have r1 : w15.cell? ⟨w.heap.size, 1, none⟩ = some (.string ⟨#[]⟩) := by rw [cell_of_row _ _ _ _ _ _ HD15.out.res]; rfl
        have f1 : w15.frozen? ⟨w.heap.size, 1, none⟩ = false := frozen_of_row _ _ _ _ _ HD15.out.res
        have b2 : w15.cell? ⟨w.heap.size + 1, 2, none⟩ = some (.slice none 0 0) := by rw [cell_of_row _ _ _ _ _ _ HD15.out.bad]; rfl
        have r2 : w15.cell? ⟨w.heap.size, 2, none⟩ = some (.slice none 0 0) := by rw [cell_of_row _ _ _ _ _ _ HD15.out.res]; rfl
        have f2 : w15.frozen? ⟨w.heap.size, 2, none⟩ = false := frozen_of_row _ _ _ _ _ HD15.out.res
        have HNO : Hid (readR (nums s) = none) := by unfold Hid; rw [HRD.out, hrz]; rfl
        go_wp2
        (try simp only [Exit.inBlock, Exit.then])
        exact rread_none HB15.out HD15.out.res HNO.out rfl rfl rfl
      | true =>
        have b0 : w15.cell? ⟨w.heap.size + 1, 0, none⟩ = some (.string ⟨#[]⟩) := by rw [cell_of_row _ _ _ _ _ _ HD15.out.bad]; rfl
        have r0 : w15.cell? ⟨w.heap.size, 0, none⟩ = some (.string ⟨#[]⟩) := by rw [cell_of_row _ _ _ _ _ _ HD15.out.res]; rfl
        have f0 : w15.frozen? ⟨w.heap.size, 0, none⟩ = false := frozen_of_row _ _ _ _ _ HD15.out.res
        have b1 : w15.cell? ⟨w.heap.size + 1, 1, none⟩ = some (.string ⟨#[]⟩) := by rw [cell_of_row _ _ _ _ _ _ HD15.out.bad]; rfl
        have r1 : w15.cell? ⟨w.heap.size, 1, none⟩ = some (.string ⟨#[]⟩) := by rw [cell_of_row _ _ _ _ _ _ HD15.out.res]; rfl
        have f1 : w15.frozen? ⟨w.heap.size, 1, none⟩ = false := frozen_of_row _ _ _ _ _ HD15.out.res
        have b2 : w15.cell? ⟨w.heap.size + 1, 2, none⟩ = some (.slice none 0 0) := by rw [cell_of_row _ _ _ _ _ _ HD15.out.bad]; rfl
        have r2 : w15.cell? ⟨w.heap.size, 2, none⟩ = some (.slice none 0 0) := by rw [cell_of_row _ _ _ _ _ _ HD15.out.res]; rfl
        have f2 : w15.frozen? ⟨w.heap.size, 2, none⟩ = false := frozen_of_row _ _ _ _ _ HD15.out.res
        have HSO : Hid (readR (nums s) = some (nums ty, nums sub, numsP fs)) := by unfold Hid; rw [HRD.out, hrz]; rfl
        have x0 : w15.cell? ⟨K, 0, none⟩ = some (.string ty) := by rw [cell_of_row _ _ _ _ _ _ HD15.out.kind]; rfl
        have x1 : w15.cell? ⟨K, 1, none⟩ = some (.string sub) := by rw [cell_of_row _ _ _ _ _ _ HD15.out.kind]; rfl
        have x2 : w15.cell? ⟨K, 2, none⟩ = some (.slice af2 fs.length cap2) := by rw [cell_of_row _ _ _ _ _ _ HD15.out.kind]; rfl
        have hltk := HD15.out.lt2
        go_wp2
        (try simp only [Exit.inBlock, Exit.then])
        exact rread_some HB15.out HD15.out.res HF15.out (fun x hx => by have := ownF_base HD15.out.own x hx; omega) (by omega) HSO.out rfl rfl rfl
end Go.Proofs.YtkbkajipkdlmbaaDoor
