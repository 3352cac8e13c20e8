/-
  A kind that is read: where it lies; the contract of kind.
-/
import Derived.Test.YtfhgkkdbkbbpkaaDoorKmath
namespace Go.Proofs.YtfhgkkdbkbbpkaaDoor
open Go.RowKit
set_option linter.unusedVariables false

def cellFk (f : ByteArray × ByteArray) : List Value := [.string f.1, .string f.2]
def OwnFk (w : World) (B : Nat) (v : Value) (fs : List (ByteArray × ByteArray)) : Prop := w.ownsRow B 37 2 v fs.length (fs.flatMap cellFk)
theorem ownFk_view {w : World} {B : Nat} {v : Value} {fs : List (ByteArray × ByteArray)} (h : OwnFk w B v fs) : ∃ a cap, v = .slice a fs.length cap ∧ FRow w a fs := by
  have h0 := h
  rcases h.2 with ⟨rfl, hn⟩ | ⟨g, cap, cur, rfl, hb, hg, hn, hm, hs, ht⟩
  · exact ⟨none, 0, by rw [hn], .inl (List.eq_nil_of_length_eq_zero hn)⟩
  · refine ⟨some ⟨g, 0, none⟩, cap, rfl, .inr ⟨g, 0, rfl, fun i f hf => ?_⟩⟩
    have key : ∀ j, j < 2 → (fs.flatMap cellFk)[i * 2 + j]? = (cellFk f)[j]? := by
      intro j hj
      clear h0 h hg hn hm hs ht hb
      induction fs generalizing i with
      | nil => simp at hf
      | cons x r ih =>
        cases i with
        | zero =>
          simp only [List.getElem?_cons_zero, Option.some.injEq] at hf
          subst hf
          rw [List.flatMap_cons, List.getElem?_append_left (by simp [cellFk]; omega)]
          simp
        | succ i =>
          simp only [List.getElem?_cons_succ] at hf
          rw [List.flatMap_cons, List.getElem?_append_right (by simp [cellFk]; omega)]
          rw [← ih i hf]
          congr 1
          simp [cellFk]; omega
    have c0 := h0.cells (g := g) rfl (i * 2 + 0) (.string f.1) (by rw [key 0 (by omega)]; rfl)
    have c1 := h0.cells (g := g) rfl (i * 2 + 1) (.string f.2) (by rw [key 1 (by omega)]; rfl)
    rw [add_plain] at c0 c1
    exact ⟨by simpa using c0, by simpa [Nat.add_assoc] using c1⟩
theorem ownF_base {w : World} {B : Nat} {a : Option Addr} {n c : Nat} {fs : List (ByteArray × ByteArray)} (h : OwnFk w B (.slice a n c) fs) : ∀ x, a = some x → B ≤ x.block := by
  intro x hx
  rcases h.2 with ⟨e, _⟩ | ⟨b, cap, cur, e, h2, _⟩
  · simp at e; rw [e.1] at hx; cases hx
  · simp at e; rw [e.1] at hx; simp at hx; subst hx; exact h2
theorem Tryd.infoK37 : (Tryd.prog.info? 37).map (fun i => (i.zero, i.size, i.bytes)) = some (some (.agg #[.string ⟨#[]⟩, .string ⟨#[]⟩]), 2, 32) := by kernel_rfl
theorem ne_type {w : World} {B e size : Nat} {v : Value} {n : Nat} {xs : List Value} {g : Nat} {cs : Array Value} {e' : TypeId} {k : Nat × Nat} (h : w.ownsRow B e size v n xs) (hg : w.heap[g]? = some (.cells cs e' k)) (he : e' ≠ e) : some g ≠ v.ownBlock := by
  intro hk
  rcases h.2 with ⟨rfl, _⟩ | ⟨b, cap, cur, rfl, h2, h3, _⟩
  · simp [Value.ownBlock] at hk
  · simp [Value.ownBlock] at hk
    subst hk
    rw [hg] at h3
    simp at h3
    exact he h3.2.1
/-- The kind in block K, what is answered in block R, the text in block g. -/
structure Kd (W : World) (g R K : Nat) (t ty sub : ByteArray) (vf : Value) (fs : List (ByteArray × ByteArray)) : Prop where
  text : Rs W g t
  res : W.heap[R]? = some (.cells #[.string ⟨#[]⟩, .string ⟨#[]⟩, .slice none 0 0] 24 (0, 0))
  kind : W.heap[K]? = some (.cells #[.string ty, .string sub, vf] 24 (0, 0))
  own : OwnFk W (K + 1) vf fs
  gR : g < R
  RK : R < K
theorem Kd.lt {W : World} {g R K : Nat} {t ty sub : ByteArray} {vf : Value} {fs : List (ByteArray × ByteArray)} (h : Kd W g R K t ty sub vf fs) : K < W.heap.size := (Array.getElem?_eq_some_iff.1 h.kind).1
theorem own_kx {W W' : World} {g B e size : Nat} {v : Value} {n : Nat} {xs : List Value} (h : W.ownsRow B e size v n xs) (hk : Kx g W W') (hg : g < B) : W'.ownsRow B e size v n xs := by
  refine ⟨h.1, ?_⟩
  rcases h.2 with h | ⟨b, cap, cur, h1, h2, h3, h4⟩
  · exact .inl h
  · exact .inr ⟨b, cap, cur, h1, h2, (hk.block (by omega) (Array.getElem?_eq_some_iff.1 h3).1).trans h3, h4⟩
theorem Kd.kx {W W' : World} {g R K : Nat} {t t' ty sub : ByteArray} {vf : Value} {fs : List (ByteArray × ByteArray)} (h : Kd W g R K t ty sub vf fs) (hk : Kx g W W') (hr : Rs W' g t') : Kd W' g R K t' ty sub vf fs := by
  have h1 := h.gR
  have h2 := h.RK
  have h3 := h.lt
  exact ⟨hr, (hk.block (by omega) (by omega)).trans h.res, (hk.block (by omega) h3).trans h.kind, own_kx h.own hk (by omega), h1, h2⟩
theorem Kd.set0 {W : World} {g R K : Nat} {t ty sub : ByteArray} {vf : Value} {fs : List (ByteArray × ByteArray)} (h : Kd W g R K t ty sub vf fs) (x : ByteArray) : Kd (W.setCell ⟨K, 0, none⟩ (.string x)) g R K t x sub vf fs := by
  have h1 := h.gR
  have h2 := h.RK
  exact ⟨h.text.other (by omega), (heap_setCell_other _ _ _ _ (by simp; omega)).trans h.res, heap_setCell_same _ _ 0 _ 24 _ h.kind, own_set (by omega) h.own, h1, h2⟩
theorem Kd.set1 {W : World} {g R K : Nat} {t ty sub : ByteArray} {vf : Value} {fs : List (ByteArray × ByteArray)} (h : Kd W g R K t ty sub vf fs) (x : ByteArray) : Kd (W.setCell ⟨K, 1, none⟩ (.string x)) g R K t ty x vf fs := by
  have h1 := h.gR
  have h2 := h.RK
  exact ⟨h.text.other (by omega), (heap_setCell_other _ _ _ _ (by simp; omega)).trans h.res, heap_setCell_same _ _ 1 _ 24 _ h.kind, own_set (by omega) h.own, h1, h2⟩
theorem Kd.app {W W' : World} {g R K : Nat} {t ty sub : ByteArray} {vf v' : Value} {fs fs' : List (ByteArray × ByteArray)} (h : Kd W g R K t ty sub vf fs) (hg : W.grownBy W' vf.ownBlock) (ho : OwnFk W' (K + 1) v' fs') : Kd (W'.setCell ⟨K, 2, none⟩ v') g R K t ty sub v' fs' := by
  have h1 := h.gR
  have h2 := h.RK
  have h3 := h.lt
  have ek : W'.heap[K]? = some (.cells #[.string ty, .string sub, vf] 24 (0, 0)) := (hg.block K h3 (ne_type h.own h.kind (by decide))).trans h.kind
  have er : W'.heap[R]? = some (.cells #[.string ⟨#[]⟩, .string ⟨#[]⟩, .slice none 0 0] 24 (0, 0)) := (hg.block R (by omega) (ne_type h.own h.res (by decide))).trans h.res
  have et : Rs W' g t := (hg.block g (by omega) (ne_type h.own h.text (by decide))).trans h.text
  exact ⟨et.other (by omega), (heap_setCell_other _ _ _ _ (by simp; omega)).trans er, heap_setCell_same _ _ 2 _ 24 _ ek, own_set (by omega) ho, h1, h2⟩
/-- What is answered. -/
def finW (W : World) (R : Nat) (ty sub : ByteArray) (vf : Value) : World := ((W.setCell ⟨R, 0, none⟩ (.string ty)).setCell ⟨R, 1, none⟩ (.string sub)).setCell ⟨R, 2, none⟩ vf
theorem Kd.fin {W w : World} {g R K : Nat} {t ty sub : ByteArray} {vf : Value} {fs : List (ByteArray × ByteArray)} (h : Kd W g R K t ty sub vf fs) (hk : Kx g w W) (hg : g < w.heap.size) (hR : w.heap.size ≤ R) :
    ((finW W R ty sub vf).cell? ⟨R, 0, none⟩ = some (.string ty) ∧ (finW W R ty sub vf).cell? ⟨R, 1, none⟩ = some (.string sub) ∧ (finW W R ty sub vf).cell? ⟨R, 2, none⟩ = some vf) ∧ Kx g w (finW W R ty sub vf) ∧ ∃ a cap, vf = .slice a fs.length cap ∧ FRow (finW W R ty sub vf) a fs ∧ ∀ x, a = some x → w.heap.size ≤ x.block := by
  have h2 := h.RK
  have e1 := heap_setCell_same _ _ 0 _ 24 (.string ty) h.res
  have e2 := heap_setCell_same _ _ 1 _ 24 (.string sub) e1
  have e3 := heap_setCell_same _ _ 2 _ 24 vf e2
  refine ⟨⟨(cell_of_row _ _ 0 _ _ _ e3).trans rfl, (cell_of_row _ _ 1 _ _ _ e3).trans rfl, (cell_of_row _ _ 2 _ _ _ e3).trans rfl⟩, ?_, ?_⟩
  · exact ((hk.res _ _ _ _ hg hR).res _ _ _ _ hg hR).res _ _ _ _ hg hR
  · obtain ⟨a, cap, e, hf⟩ := ownFk_view (own_set (f := R) (o := 2) (u := vf) (by omega) (own_set (f := R) (o := 1) (u := .string sub) (by omega) (own_set (f := R) (o := 0) (u := .string ty) (by omega) h.own)))
    exact ⟨a, cap, e, hf, fun x hx => by have := ownF_base (e ▸ h.own) x hx; omega⟩
/-- What is said of a text. -/
def KAns (b : Bool) (x : Option (List Int × List Int × List (List Int × List Int))) (ty sub : ByteArray) (fs : List (ByteArray × ByteArray)) : Prop :=
  (b = true → x = some (nums ty, nums sub, numsP fs)) ∧ (b = false → ∀ z, x = some z → 16 < z.2.2.length)
def Small (s : ByteArray) : Prop := s.size ≤ 1000000000
def SmallF (fs : List (ByteArray × ByteArray)) : Prop := ∀ f ∈ fs, f.1.size ≤ 1000000000 ∧ f.2.size ≤ 1000000000
/-- The kind is read to its end. -/
theorem kind_fin {w W : World} {g R K : Nat} {t ty sub t0 : ByteArray} {vf : Value} {fs : List (ByteArray × ByteArray)} {b : Bool} {A : Act} (h : Kd W g R K t ty sub vf fs) (hk : Kx g w W) (hg : g < w.heap.size) (hR : w.heap.size ≤ R) (hz : Small ty ∧ Small sub ∧ SmallF fs) (ha : KAns b (kindR (nums t0)) ty sub fs)
    (hd : A.defers = []) (h2 : A.tmps[2]?.getD undef = .pointer (some ⟨R, 0, none⟩)) (h3 : A.tmps[3]?.getD undef = .bool b) :
    bodyPost Tryd.prog Tryd.f41 (fun e w' => ∃ ty sub a cap fs b, e = .returned (.tuple #[kindV ty sub a fs.length cap, .bool b]) ∧ Kx g w w' ∧ FRow w' a fs ∧ (∀ x, a = some x → w.heap.size ≤ x.block) ∧ (Small ty ∧ Small sub ∧ SmallF fs) ∧ KAns b (kindR (nums t0)) ty sub fs) .ret A (finW W R ty sub vf) := by
  obtain ⟨⟨c0, c1, c2⟩, hkx, a, cap, rfl, hfr, hbs⟩ := h.fin hk hg hR
  refine bodyPost_ret (v := .tuple #[kindV ty sub a fs.length cap, .bool b]) ?_ hd ⟨ty, sub, a, cap, fs, b, rfl, hkx, hfr, hbs, hz, ha⟩
  simp [results, Tryd.results41, go_sem, c0, c1, c2, h2, h3, kindV]
theorem kind_fin2 {w W : World} {g R K : Nat} {t ty sub t0 : ByteArray} {vf : Value} {fs : List (ByteArray × ByteArray)} {b : Bool} {A : Act} {o : Obj} (h : Kd W g R K t ty sub vf fs) (hk : Kx g w W) (hg : g < w.heap.size) (hR : w.heap.size ≤ R) (hz : Small ty ∧ Small sub ∧ SmallF fs) (ha : KAns b (kindR (nums t0)) ty sub fs)
    (hd : A.defers = []) (h2 : A.tmps[2]?.getD undef = .pointer (some ⟨R, 0, none⟩)) (h3 : A.tmps[3]?.getD undef = .bool b) :
    bodyPost Tryd.prog Tryd.f41 (fun e w' => ∃ ty sub a cap fs b, e = .returned (.tuple #[kindV ty sub a fs.length cap, .bool b]) ∧ Kx g w w' ∧ FRow w' a fs ∧ (∀ x, a = some x → w.heap.size ≤ x.block) ∧ (Small ty ∧ Small sub ∧ SmallF fs) ∧ KAns b (kindR (nums t0)) ty sub fs) .ret A ((finW W R ty sub vf).alloc o) := by
  obtain ⟨⟨c0, c1, c2⟩, hkx, a, cap, rfl, hfr, hbs⟩ := h.fin hk hg hR
  have hkp := keep (finW W R ty sub (.slice a fs.length cap)) o
  have d0 := (hkp.cell (World.block_lt_of_cell? _ _ c0)).trans c0
  have d1 := (hkp.cell (World.block_lt_of_cell? _ _ c1)).trans c1
  have d2 := (hkp.cell (World.block_lt_of_cell? _ _ c2)).trans c2
  refine bodyPost_ret (v := .tuple #[kindV ty sub a fs.length cap, .bool b]) ?_ hd ⟨ty, sub, a, cap, fs, b, rfl, hkx.trans (Kx.of hkp (Nat.lt_of_lt_of_le hg hkx.1.size)), hfr.below hkp, hbs, hz, ha⟩
  generalize (finW W R ty sub (.slice a fs.length cap)).alloc o = W' at d0 d1 d2
  simp [results, Tryd.results41, go_sem, d0, d1, d2, h2, h3, kindV]
set_option maxHeartbeats 8000000 in
set_option maxRecDepth 100000 in
theorem kind_any (g : Nat) (t : ByteArray) (w : World) (h : Rs w g t) (hs : t.size ≤ 1000000) :
    Calls Tryd.prog 41 #[.pointer (some ⟨g, 0, none⟩)] w fun e w' => ∃ ty sub a cap fs b, e = .returned (.tuple #[kindV ty sub a fs.length cap, .bool b]) ∧ Kx g w w' ∧ FRow w' a fs ∧ (∀ x, a = some x → w.heap.size ≤ x.block) ∧ (Small ty ∧ Small sub ∧ SmallF fs) ∧ KAns b (kindR (nums t)) ty sub fs := by
  obtain ⟨j0, hi, hz0, hz1, hz2⟩ := info_parts Tryd.infoK37
  have hgw := h.lt
  have HW0 : Hid (Rs w g t) := h
  clear h
  go_enter Tryd.func41, Tryd.ntmps41
  go_wp2_with fail
  refine (blanks_any g t _ (HW0.out.below (keep w _))).mono ?_
  rintro e w1 ⟨rfl, t1, hr1, ht1, hk1⟩
  have HR1 : Hid (w1.heap[w.heap.size]? = some (.cells #[.string ⟨#[]⟩, .string ⟨#[]⟩, .slice none 0 0] 24 (0, 0))) := by
    unfold Hid; rw [hk1.block (by omega) (by simp)]; exact heap_alloc_last w _
  have hw1 : w.heap.size < w1.heap.size := (Array.getElem?_eq_some_iff.1 HR1.out).1
  have HK1 : Hid (Kx g w w1) := (Kx.of (keep w _) hgw).trans hk1
  have HT1 : Hid (nums t1 = trimQ (nums t)) := ht1
  have hs1 : t1.size ≤ 1000000 := by rw [← nums_len, ht1]; have := trim_len (nums t); rw [nums_len] at this; omega
  have HX1 : Hid (Rs w1 g t1) := hr1
  clear hr1 ht1 hk1
  go_wp2_with fail
  refine (name_any g t1 _ (HX1.out.below (keep w1 _)) (by omega)).mono ?_
  rintro e w2 ⟨ty, t2, rfl, hty, hr2, ht2, hk2⟩
  have HD2 : Hid (Kd w2 g w.heap.size w1.heap.size t2 ⟨#[]⟩ ⟨#[]⟩ (.slice none 0 0) []) := by
    refine ⟨hr2, ?_, ?_, ⟨rfl, .inl ⟨rfl, rfl⟩⟩, hgw, hw1⟩
    · rw [hk2.block (by omega) (by simp; omega), Below.heap_alloc w1 _ _ hw1]; exact HR1.out
    · rw [hk2.block (by omega) (by simp)]; exact heap_alloc_last w1 _
  have HK2 : Hid (Kx g w w2) := HK1.out.trans ((Kx.of (keep w1 _) (by omega)).trans hk2)
  have HTY : Hid (nums ty = ((trimQ (nums t)).takeWhile tokC).map smallZ) := by unfold Hid; rw [hty, HT1.out]
  have HT2 : Hid (nums t2 = headR (nums t)) := by unfold Hid headR; rw [ht2, HT1.out]
  have hzt : ty.size ≤ 1000000 := by rw [← nums_len, hty, List.length_map]; have := takeWhile_le tokC (nums t1); rw [nums_len] at this; omega
  have hs2 : t2.size ≤ 1000000 := by rw [← nums_len, ht2]; have := dropWhile_le tokC (nums t1); rw [nums_len] at this; omega
  clear hty hr2 ht2 hk2 HK1 HX1 HR1
  have x0 : w2.cell? ⟨w1.heap.size, 0, none⟩ = some (.string ⟨#[]⟩) := by rw [cell_of_row _ _ _ _ _ _ HD2.out.kind]; rfl
  have y0 : w2.frozen? ⟨w1.heap.size, 0, none⟩ = false := frozen_of_row _ _ _ _ _ HD2.out.kind
  have HD3 : Hid (Kd (w2.setCell ⟨w1.heap.size, 0, none⟩ (.string ty)) g w.heap.size w1.heap.size t2 ty ⟨#[]⟩ (.slice none 0 0) []) := HD2.out.set0 ty
  have HK3 : Hid (Kx g w (w2.setCell ⟨w1.heap.size, 0, none⟩ (.string ty))) := HK2.out.res _ _ _ _ hgw (by omega)
  go_wp2_with fail
  generalize w2.setCell ⟨w1.heap.size, 0, none⟩ (.string ty) = w3 at HD3 HK3 ⊢
  clear x0 y0 HD2 HK2
  refine (sign_any g 47 t2 _ HD3.out.text).mono ?_
  rintro e w4 ⟨rfl, t4, hr4, ht4, hk4⟩
  have HD4 : Hid (Kd w4 g w.heap.size w1.heap.size t4 ty ⟨#[]⟩ (.slice none 0 0) []) := HD3.out.kx hk4 hr4
  have HK4 : Hid (Kx g w w4) := HK3.out.trans hk4
  have HT4 : Hid (nums t4 = signR 47 (nums t2)) := ht4
  have hs4 : t4.size ≤ 1000000 := by rw [← nums_len, ht4]; have := sign_le 47 (nums t2); rw [nums_len] at this; omega
  clear hr4 ht4 hk4 HD3 HK3
  cases hb : signB 47 (nums t2) with
  | false =>
    have HA : Hid (KAns false (kindR (nums t)) ty ⟨#[]⟩ []) := by
      refine ⟨fun q => (by cases q), fun _ z hz => ?_⟩
      unfold kindR at hz
      rw [← HT2.out, if_neg (by rw [hb]; simp)] at hz
      cases hz
    have x0 : w4.cell? ⟨w1.heap.size, 0, none⟩ = some (.string ty) := by rw [cell_of_row _ _ _ _ _ _ HD4.out.kind]; rfl
    have x1 : w4.cell? ⟨w1.heap.size, 1, none⟩ = some (.string ⟨#[]⟩) := by rw [cell_of_row _ _ _ _ _ _ HD4.out.kind]; rfl
    have x2 : w4.cell? ⟨w1.heap.size, 2, none⟩ = some (.slice none 0 0) := by rw [cell_of_row _ _ _ _ _ _ HD4.out.kind]; rfl
    have r0 : w4.cell? ⟨w.heap.size, 0, none⟩ = some (.string ⟨#[]⟩) := by rw [cell_of_row _ _ _ _ _ _ HD4.out.res]; rfl
    have r1 : w4.cell? ⟨w.heap.size, 1, none⟩ = some (.string ⟨#[]⟩) := by rw [cell_of_row _ _ _ _ _ _ HD4.out.res]; rfl
    have r2 : w4.cell? ⟨w.heap.size, 2, none⟩ = some (.slice none 0 0) := by rw [cell_of_row _ _ _ _ _ _ HD4.out.res]; rfl
    have f0 : w4.frozen? ⟨w.heap.size, 0, none⟩ = false := frozen_of_row _ _ _ _ _ HD4.out.res
    have f1 : w4.frozen? ⟨w.heap.size, 1, none⟩ = false := frozen_of_row _ _ _ _ _ HD4.out.res
    have f2 : w4.frozen? ⟨w.heap.size, 2, none⟩ = false := frozen_of_row _ _ _ _ _ HD4.out.res
    go_wp2
    (try simp only [Exit.inBlock, Exit.then])
    exact kind_fin HD4.out HK4.out hgw (Nat.le_refl _) ⟨by unfold Small; omega, by unfold Small; decide, by intro f hf; cases hf⟩ HA.out rfl rfl rfl
  | true =>
    have HS : Hid (nums t4 = subR (nums t)) := by unfold Hid subR; rw [HT4.out, HT2.out]
    have HQ : Hid (kindR (nums t) = (parsR (nums t).length [] (trimQ ((nums t4).dropWhile tokC))).map fun ps => (nums ty, ((nums t4).takeWhile tokC).map smallZ, ps)) := by
      unfold Hid kindR; rw [← HT2.out, if_pos hb, HS.out, HTY.out]
    clear HT4
    go_wp2_with fail
    refine (name_any g t4 _ HD4.out.text (by omega)).mono ?_
    rintro e w5 ⟨sub, t5, rfl, hsub, hr5, ht5, hk5⟩
    have HD5 : Hid (Kd w5 g w.heap.size w1.heap.size t5 ty ⟨#[]⟩ (.slice none 0 0) []) := HD4.out.kx hk5 hr5
    have HK5 : Hid (Kx g w w5) := HK4.out.trans hk5
    have hzs : sub.size ≤ 1000000 := by rw [← nums_len, hsub, List.length_map]; have := takeWhile_le tokC (nums t4); rw [nums_len] at this; omega
    have hs5 : t5.size ≤ 1000000 := by rw [← nums_len, ht5]; have := dropWhile_le tokC (nums t4); rw [nums_len] at this; omega
    have HQ5 : Hid (kindR (nums t) = (parsR (nums t).length [] (trimQ (nums t5))).map fun ps => (nums ty, nums sub, ps)) := by unfold Hid; rw [HQ.out, hsub, ht5]
    have HL5 : Hid ((nums t5).length ≤ (nums t).length) := by
      unfold Hid; rw [ht5]
      have q1 := dropWhile_le tokC (nums t4)
      have q2 := sign_le 47 (headR (nums t))
      have q3 := dropWhile_le tokC (trimQ (nums t))
      have q4 := trim_len (nums t)
      have q5 := congrArg List.length HS.out
      unfold subR headR at q5
      unfold headR at q2
      omega
    clear hsub hr5 ht5 hk5 HD4 HK4 HQ HS hb
    have x1 : w5.cell? ⟨w1.heap.size, 1, none⟩ = some (.string ⟨#[]⟩) := by rw [cell_of_row _ _ _ _ _ _ HD5.out.kind]; rfl
    have y1 : w5.frozen? ⟨w1.heap.size, 1, none⟩ = false := frozen_of_row _ _ _ _ _ HD5.out.kind
    have HD6 : Hid (Kd (w5.setCell ⟨w1.heap.size, 1, none⟩ (.string sub)) g w.heap.size w1.heap.size t5 ty sub (.slice none 0 0) []) := HD5.out.set1 sub
    have HK6 : Hid (Kx g w (w5.setCell ⟨w1.heap.size, 1, none⟩ (.string sub))) := HK5.out.res _ _ _ _ hgw (by omega)
    go_wp2_with fail
    generalize w5.setCell ⟨w1.heap.size, 1, none⟩ (.string sub) = w6 at HD6 HK6 ⊢
    clear x1 y1 HD5 HK5
    refine (blanks_any g t5 _ HD6.out.text).mono ?_
    rintro e w7 ⟨rfl, t7, hr7, ht7, hk7⟩
    have HD7 : Hid (Kd w7 g w.heap.size w1.heap.size t7 ty sub (.slice none 0 0) []) := HD6.out.kx hk7 hr7
    have HK7 : Hid (Kx g w w7) := HK6.out.trans hk7
    have HQ7 : Hid (kindR (nums t) = (parsR (nums t).length [] (nums t7)).map fun ps => (nums ty, nums sub, ps)) := by unfold Hid; rw [HQ5.out, ht7]
    have HL7 : Hid ((nums t7).length ≤ (nums t).length) := by unfold Hid; rw [ht7]; have := trim_len (nums t5); have := HL5.out; omega
    clear hr7 ht7 hk7 HD6 HK6 HQ5 HL5 hs5 hs4 hs2 hs1 HT1 HT2 HTY
    go_wp2
    go_loopw [5] (fun _ wr => ∃ (tr : ByteArray) (vf : Value) (fs : List (ByteArray × ByteArray)) (m : Nat), Kd wr g w.heap.size w1.heap.size tr ty sub vf fs ∧ Kx g w wr ∧ (nums tr).length ≤ m ∧ (nums tr).length ≤ (nums t).length ∧ kindR (nums t) = (parsR m (numsP fs) (nums tr)).map (fun ps => (nums ty, nums sub, ps)) ∧ fs.length ≤ 16 ∧ SmallF fs) (fun _ wr => restLen wr g)
    case atStart => exact ⟨t7, _, [], _, HD7.out, HK7.out, HL7.out, HL7.out, HQ7.out, by simp, by intro f hf; cases hf⟩
    case round =>
      clear HD7 HK7 HQ7 HL7
      obtain ⟨tr, vf, fs, m, hkd, hkx, hm, hl, hq, hf16, hsf⟩ := hrel
      have HD : Hid (Kd wr g w.heap.size w1.heap.size tr ty sub vf fs) := hkd
      have HK : Hid (Kx g w wr) := hkx
      have HQ : Hid (kindR (nums t) = (parsR m (numsP fs) (nums tr)).map (fun ps => (nums ty, nums sub, ps))) := hq
      have HSF : Hid (SmallF fs) := hsf
      have HLN : Hid (restLen wr g = tr.size) := restLen_of hkd.text
      rw [nums_len] at hm hl
      rw [nums_len] at hl
      clear hkd hkx hq hsf
      obtain ⟨af, cap, rfl, hfr⟩ := ownFk_view HD.out.own
      clear hfr
      have x0 : wr.cell? ⟨w1.heap.size, 0, none⟩ = some (.string ty) := by rw [cell_of_row _ _ _ _ _ _ HD.out.kind]; rfl
      have x1 : wr.cell? ⟨w1.heap.size, 1, none⟩ = some (.string sub) := by rw [cell_of_row _ _ _ _ _ _ HD.out.kind]; rfl
      have x2 : wr.cell? ⟨w1.heap.size, 2, none⟩ = some (.slice af fs.length cap) := by rw [cell_of_row _ _ _ _ _ _ HD.out.kind]; rfl
      have r0 : wr.cell? ⟨w.heap.size, 0, none⟩ = some (.string ⟨#[]⟩) := by rw [cell_of_row _ _ _ _ _ _ HD.out.res]; rfl
      have r1 : wr.cell? ⟨w.heap.size, 1, none⟩ = some (.string ⟨#[]⟩) := by rw [cell_of_row _ _ _ _ _ _ HD.out.res]; rfl
      have r2 : wr.cell? ⟨w.heap.size, 2, none⟩ = some (.slice none 0 0) := by rw [cell_of_row _ _ _ _ _ _ HD.out.res]; rfl
      have f0 : wr.frozen? ⟨w.heap.size, 0, none⟩ = false := frozen_of_row _ _ _ _ _ HD.out.res
      have f1 : wr.frozen? ⟨w.heap.size, 1, none⟩ = false := frozen_of_row _ _ _ _ _ HD.out.res
      have f2 : wr.frozen? ⟨w.heap.size, 2, none⟩ = false := frozen_of_row _ _ _ _ _ HD.out.res
      have hc := HD.out.text.cell
      have he := empty_list tr
      by_cases h0 : tr.size = 0
      · rw [decide_eq_true h0] at he
        have he2 : tr.toList = [] := by simpa using he
        have HA : Hid (KAns true (kindR (nums t)) ty sub fs) := by
          refine ⟨fun _ => ?_, fun q => (by cases q)⟩
          rw [HQ.out, List.eq_nil_of_length_eq_zero (show (nums tr).length = 0 by rw [nums_len]; exact h0)]
          cases m <;> rfl
        go_wp2
        (try simp only [Exit.inBlock, Exit.then])
        exact kind_fin HD.out HK.out hgw (Nat.le_refl _) ⟨by unfold Small; omega, by unfold Small; omega, HSF.out⟩ HA.out rfl rfl rfl
      · rw [decide_eq_false h0] at he
        have he2 : ¬ tr.toList = [] := by simpa using he
        obtain ⟨m', rfl⟩ : ∃ m', m = m' + 1 := ⟨m - 1, by omega⟩
        obtain ⟨c, r, hcr⟩ : ∃ c r, nums tr = c :: r := by
          cases hx : nums tr with
          | nil => have := congrArg List.length hx; rw [nums_len, List.length_nil] at this; omega
          | cons c r => exact ⟨c, r, rfl⟩
        have HC : Hid (nums tr = c :: r) := hcr
        have hrl : r.length + 1 = tr.size := by rw [← nums_len, hcr]; simp
        clear hcr
        by_cases h59 : c = 59
        · subst h59
          have hsb : signB 59 (nums tr) = true := by rw [HC.out]; simp [signB]
          go_wp2_with fail
          refine (sign_any g 59 tr _ HD.out.text).mono ?_
          rintro e w8 ⟨rfl, t8, hr8, ht8, hk8⟩
          rw [hsb]
          have HD8 : Hid (Kd w8 g w.heap.size w1.heap.size t8 ty sub (.slice af fs.length cap) fs) := HD.out.kx hk8 hr8
          have HK8 : Hid (Kx g w w8) := HK.out.trans hk8
          have HT8 : Hid (nums t8 = r) := by unfold Hid; rw [ht8, signR, if_pos hsb, HC.out]; rfl
          clear hr8 ht8 hk8 x0 x1 x2 r0 r1 r2 f0 f1 f2 hc hsb
          go_wp2_with fail
          refine (blanks_any g t8 _ HD8.out.text).mono ?_
          rintro e w9 ⟨rfl, t9, hr9, ht9, hk9⟩
          have HD9 : Hid (Kd w9 g w.heap.size w1.heap.size t9 ty sub (.slice af fs.length cap) fs) := HD8.out.kx hk9 hr9
          have HK9 : Hid (Kx g w w9) := HK8.out.trans hk9
          have HT9 : Hid (nums t9 = trimQ r) := by unfold Hid; rw [ht9, HT8.out]
          have hs9 : t9.size ≤ r.length := by rw [← nums_len, HT9.out]; exact trim_len r
          clear hr9 ht9 hk9 HD8 HK8 HT8
          have x0 : w9.cell? ⟨w1.heap.size, 0, none⟩ = some (.string ty) := by rw [cell_of_row _ _ _ _ _ _ HD9.out.kind]; rfl
          have x1 : w9.cell? ⟨w1.heap.size, 1, none⟩ = some (.string sub) := by rw [cell_of_row _ _ _ _ _ _ HD9.out.kind]; rfl
          have x2 : w9.cell? ⟨w1.heap.size, 2, none⟩ = some (.slice af fs.length cap) := by rw [cell_of_row _ _ _ _ _ _ HD9.out.kind]; rfl
          have r0 : w9.cell? ⟨w.heap.size, 0, none⟩ = some (.string ⟨#[]⟩) := by rw [cell_of_row _ _ _ _ _ _ HD9.out.res]; rfl
          have r1 : w9.cell? ⟨w.heap.size, 1, none⟩ = some (.string ⟨#[]⟩) := by rw [cell_of_row _ _ _ _ _ _ HD9.out.res]; rfl
          have r2 : w9.cell? ⟨w.heap.size, 2, none⟩ = some (.slice none 0 0) := by rw [cell_of_row _ _ _ _ _ _ HD9.out.res]; rfl
          have f0 : w9.frozen? ⟨w.heap.size, 0, none⟩ = false := frozen_of_row _ _ _ _ _ HD9.out.res
          have f1 : w9.frozen? ⟨w.heap.size, 1, none⟩ = false := frozen_of_row _ _ _ _ _ HD9.out.res
          have f2 : w9.frozen? ⟨w.heap.size, 2, none⟩ = false := frozen_of_row _ _ _ _ _ HD9.out.res
          have hc9 := HD9.out.text.cell
          have he9 := empty_list t9
          by_cases h9 : t9.size = 0
          · rw [decide_eq_true h9] at he9
            have he92 : t9.toList = [] := by simpa using he9
            have HA : Hid (KAns true (kindR (nums t)) ty sub fs) := by
              refine ⟨fun _ => ?_, fun q => (by cases q)⟩
              rw [HQ.out, HC.out, parsR, if_pos rfl, if_pos]
              · rfl
              · rw [← HT9.out]; exact List.eq_nil_of_length_eq_zero (by rw [nums_len]; exact h9)
            go_wp2
            (try simp only [Exit.inBlock, Exit.then])
            exact kind_fin HD9.out HK9.out hgw (Nat.le_refl _) ⟨by unfold Small; omega, by unfold Small; omega, HSF.out⟩ HA.out rfl rfl rfl
          · rw [decide_eq_false h9] at he9
            have he92 : ¬ t9.toList = [] := by simpa using he9
            have HTN : Hid (¬ trimQ r = []) := by
              intro q; rw [← HT9.out] at q; have := congrArg List.length q; rw [nums_len, List.length_nil] at this; omega
            clear x0 x1 x2 r0 r1 r2 f0 f1 f2
            go_wp2_with fail
            refine (param_any g t9 _ HD9.out.text (by omega)).mono ?_
            rintro e w10 ⟨pn, pv, t10, b, rfl, hr10, hk10, hap⟩
            have HD10 : Hid (Kd w10 g w.heap.size w1.heap.size t10 ty sub (.slice af fs.length cap) fs) := HD9.out.kx hk10 hr10
            have HK10 : Hid (Kx g w w10) := HK9.out.trans hk10
            rw [HT9.out] at hap
            have HAP : Hid (AnsP b (paramR (trimQ r)) (nums pn) (nums pv) (nums t10)) := hap
            clear hr10 hk10 hap hc9
            have hD11 := (HD10.out.kx (Kx.of (keep w10 (.cells #[.string pn, .string pv] 37)) (by have := HD10.out.lt; omega)) (HD10.out.text.below (keep w10 _)))
            have HD11 : Hid (Kd (w10.alloc (.cells #[.string pn, .string pv] 37)) g w.heap.size w1.heap.size t10 ty sub (.slice af fs.length cap) fs) := hD11
            have HK11 : Hid (Kx g w (w10.alloc (.cells #[.string pn, .string pv] 37))) := HK10.out.trans (Kx.of (keep w10 _) (by have := HD10.out.lt; omega))
            have hlt10 := HD10.out.lt
            have hlt0 : w.heap.size < w10.heap.size := by omega
            have x0 : w10.cell? ⟨w1.heap.size, 0, none⟩ = some (.string ty) := by rw [cell_of_row _ _ _ _ _ _ HD10.out.kind]; rfl
            have x1 : w10.cell? ⟨w1.heap.size, 1, none⟩ = some (.string sub) := by rw [cell_of_row _ _ _ _ _ _ HD10.out.kind]; rfl
            have x2 : w10.cell? ⟨w1.heap.size, 2, none⟩ = some (.slice af fs.length cap) := by rw [cell_of_row _ _ _ _ _ _ HD10.out.kind]; rfl
            have r0 : w10.cell? ⟨w.heap.size, 0, none⟩ = some (.string ⟨#[]⟩) := by rw [cell_of_row _ _ _ _ _ _ HD10.out.res]; rfl
            have r1 : w10.cell? ⟨w.heap.size, 1, none⟩ = some (.string ⟨#[]⟩) := by rw [cell_of_row _ _ _ _ _ _ HD10.out.res]; rfl
            have r2 : w10.cell? ⟨w.heap.size, 2, none⟩ = some (.slice none 0 0) := by rw [cell_of_row _ _ _ _ _ _ HD10.out.res]; rfl
            have f0 : w10.frozen? ⟨w.heap.size, 0, none⟩ = false := frozen_of_row _ _ _ _ _ HD10.out.res
            have f1 : w10.frozen? ⟨w.heap.size, 1, none⟩ = false := frozen_of_row _ _ _ _ _ HD10.out.res
            have f2 : w10.frozen? ⟨w.heap.size, 2, none⟩ = false := frozen_of_row _ _ _ _ _ HD10.out.res
            have k2 : w10.frozen? ⟨w1.heap.size, 2, none⟩ = false := frozen_of_row _ _ _ _ _ HD10.out.kind
            clear hD11
            cases b with
            | false =>
              have HA : Hid (KAns false (kindR (nums t)) ty sub fs) := by
                refine ⟨fun q => (by cases q), fun _ z hz => ?_⟩
                rw [HQ.out, HC.out, parsR, if_pos rfl, if_neg HTN.out, HAP.out.2 rfl] at hz
                cases hz
              go_wp2
              (try simp only [Exit.inBlock, Exit.then])
              exact kind_fin2 HD10.out HK10.out hgw (Nat.le_refl _) ⟨by unfold Small; omega, by unfold Small; omega, HSF.out⟩ HA.out rfl rfl rfl
            | true =>
              have hp := HAP.out.1 rfl
              have hpl := param_len hp
              have htl := trim_len r
              have HP : Hid (kindR (nums t) = (parsR m' (numsP (fs ++ [(pn, pv)])) (trimQ (nums t10))).map (fun ps => (nums ty, nums sub, ps))) := by
                unfold Hid; rw [HQ.out, HC.out, parsR, if_pos rfl, if_neg HTN.out, hp]; simp [numsP]
              rw [nums_len, nums_len, nums_len] at hpl
              by_cases h16 : fs.length = 16
              · have hd : ((fs.length : Int) == 16) = true := by simp [h16]
                have HA : Hid (KAns false (kindR (nums t)) ty sub fs) := by
                  refine ⟨fun q => (by cases q), fun _ z hz => ?_⟩
                  rw [HP.out, Option.map_eq_some_iff] at hz
                  obtain ⟨ps, h1, rfl⟩ := hz
                  have := pars_len _ h1
                  simp [numsP] at this ⊢
                  omega
                clear h16
                go_wp2
                (try simp only [Exit.inBlock, Exit.then])
                exact kind_fin2 HD10.out HK10.out hgw (Nat.le_refl _) ⟨by unfold Small; omega, by unfold Small; omega, HSF.out⟩ HA.out rfl rfl rfl
              · have hd : ((fs.length : Int) == 16) = false := by rw [beq_eq_false_iff_ne]; omega
                have hlen : (fs ++ [(pn, pv)]).length = fs.length + 1 := by simp
                go_wp2_with (at_builtin; refine wpList_append_own _ rfl (.tmp 53) (.tmp 55) 22 rfl (w1.heap.size + 1) 37 j0 _ 2 32 Tryd.underlying22 hi hz0 hz1 hz2 rfl (by decide) _ _ _ rfl (own_keep HD11.out.own (keep _ _)) ⟨w10.heap.size + 1, 0, none⟩ 1 1 (cellFk (pn, pv)) rfl rfl ?a0 ?a4 ?a1 ?a2 ?a3 ?_)
                case a0 =>
                  intro j u hu
                  have q := cell_two_new (w10.alloc (.cells #[.string pn, .string pv] 37)) (.string pn) (.string pv) 37 j u hu
                  rwa [show (w10.alloc (.cells #[.string pn, .string pv] 37)).heap.size = w10.heap.size + 1 from by simp] at q
                case a4 => intro u hu; simp [cellFk] at hu; rcases hu with rfl | rfl <;> rfl
                case a1 => unfold maxLen; omega
                case a2 => omega
                case a3 => simp; omega
                intro v' w12 hown12 hgrow12 _
                have hO12 : OwnFk w12 (w1.heap.size + 1) v' (fs ++ [(pn, pv)]) := by
                  unfold OwnFk; rw [hlen, List.flatMap_append]; simpa using hown12
                have hlt11 := HD11.out.lt
                have hD11b := HD11.out.kx (Kx.of (keep (w10.alloc (.cells #[.string pn, .string pv] 37)) (.cells #[.string pn, .string pv] 37)) (by omega)) (HD11.out.text.below (keep _ _))
                have hD12 := hD11b.app hgrow12 hO12
                have hk12 : Kx g w (w12.setCell ⟨w1.heap.size, 2, none⟩ v') := by
                  have q1 := HK11.out.trans (Kx.of (keep (w10.alloc (.cells #[.string pn, .string pv] 37)) (.cells #[.string pn, .string pv] 37)) (by omega))
                  have q2 : Kx g w w12 := by
                    refine ⟨q1.1.grown hgrow12 (by have := q1.1.size; omega) (fun j hj => ?_), fun j h1 h2 => ?_⟩
                    · have := (hD11b.own.lt j hj).1; omega
                    · rw [hgrow12.block j (by have := q1.1.size; omega) (fun hj => by have := (hD11b.own.lt j hj.symm).1; omega)]
                      exact q1.2 j h1 h2
                  exact q2.res _ _ _ _ hgw (by omega)
                have e12 : w12.heap[w1.heap.size]? = some (.cells #[.string ty, .string sub, .slice af fs.length cap] 24 (0, 0)) := (hgrow12.block _ hD11b.lt (ne_type hD11b.own hD11b.kind (by decide))).trans hD11b.kind
                obtain ⟨a12, cap12, hv12, _⟩ := ownFk_view hO12
                rw [hlen] at hv12
                subst hv12
                have HD12 : Hid (Kd (w12.setCell ⟨w1.heap.size, 2, none⟩ (.slice a12 (fs.length + 1) cap12)) g w.heap.size w1.heap.size t10 ty sub (.slice a12 (fs.length + 1) cap12) (fs ++ [(pn, pv)])) := hD12
                have HK12 : Hid (Kx g w (w12.setCell ⟨w1.heap.size, 2, none⟩ (.slice a12 (fs.length + 1) cap12))) := hk12
                have y2 : w12.cell? ⟨w1.heap.size, 2, none⟩ = some (.slice af fs.length cap) := by rw [cell_of_row _ _ _ _ _ _ e12]; rfl
                have z2 : w12.frozen? ⟨w1.heap.size, 2, none⟩ = false := frozen_of_row _ _ _ _ _ e12
                clear hown12 hgrow12 hO12 hD11b hD12 hk12 e12 x0 x1 x2 r0 r1 r2 f0 f1 f2 k2 hd
                go_wp2_with fail
                generalize w12.setCell ⟨w1.heap.size, 2, none⟩ (.slice a12 (fs.length + 1) cap12) = w13 at HD12 HK12 ⊢
                clear y2 z2
                refine (blanks_any g t10 _ HD12.out.text).mono ?_
                rintro e w14 ⟨rfl, t14, hr14, ht14, hk14⟩
                have HD14 : Hid (Kd w14 g w.heap.size w1.heap.size t14 ty sub (.slice a12 (fs.length + 1) cap12) (fs ++ [(pn, pv)])) := HD12.out.kx hk14 hr14
                have HK14 : Hid (Kx g w w14) := HK12.out.trans hk14
                have HT14 : Hid (nums t14 = trimQ (nums t10)) := ht14
                have hs14 : (nums t14).length ≤ t10.size := by rw [ht14, ← nums_len]; exact trim_len _
                have HL14 : Hid (restLen w14 g = t14.size) := restLen_of hr14
                rw [nums_len] at hs14
                clear hr14 ht14 hk14
                go_wp2
                go_roundw
                case rel =>
                  refine ⟨t14, _, fs ++ [(pn, pv)], m', HD14.out, HK14.out, by rw [nums_len]; omega, by rw [nums_len, nums_len]; omega, by rw [HP.out, HT14.out], by rw [hlen]; omega, ?_⟩
                  intro f hf
                  rcases List.mem_append.1 hf with q | q
                  · exact HSF.out f q
                  · simp at q; subst q; exact ⟨by simp; omega, by simp; omega⟩
                case measure => rw [HL14.out, HLN.out]; omega
        · have hsb : signB 59 (nums tr) = false := by rw [HC.out]; simp [signB, h59]
          have HA : Hid (KAns false (kindR (nums t)) ty sub fs) := by
            refine ⟨fun q => (by cases q), fun _ z hz => ?_⟩
            rw [HQ.out, HC.out, parsR, if_neg h59] at hz
            cases hz
          clear x0 x1 x2 r0 r1 r2 f0 f1 f2
          go_wp2_with fail
          refine (sign_any g 59 tr _ HD.out.text).mono ?_
          rintro e w8 ⟨rfl, t8, hr8, ht8, hk8⟩
          rw [hsb]
          have HD8 : Hid (Kd w8 g w.heap.size w1.heap.size t8 ty sub (.slice af fs.length cap) fs) := HD.out.kx hk8 hr8
          have HK8 : Hid (Kx g w w8) := HK.out.trans hk8
          clear hr8 ht8 hk8 hc hsb
          have x0 : w8.cell? ⟨w1.heap.size, 0, none⟩ = some (.string ty) := by rw [cell_of_row _ _ _ _ _ _ HD8.out.kind]; rfl
          have x1 : w8.cell? ⟨w1.heap.size, 1, none⟩ = some (.string sub) := by rw [cell_of_row _ _ _ _ _ _ HD8.out.kind]; rfl
          have x2 : w8.cell? ⟨w1.heap.size, 2, none⟩ = some (.slice af fs.length cap) := by rw [cell_of_row _ _ _ _ _ _ HD8.out.kind]; rfl
          have r0 : w8.cell? ⟨w.heap.size, 0, none⟩ = some (.string ⟨#[]⟩) := by rw [cell_of_row _ _ _ _ _ _ HD8.out.res]; rfl
          have r1 : w8.cell? ⟨w.heap.size, 1, none⟩ = some (.string ⟨#[]⟩) := by rw [cell_of_row _ _ _ _ _ _ HD8.out.res]; rfl
          have r2 : w8.cell? ⟨w.heap.size, 2, none⟩ = some (.slice none 0 0) := by rw [cell_of_row _ _ _ _ _ _ HD8.out.res]; rfl
          have f0 : w8.frozen? ⟨w.heap.size, 0, none⟩ = false := frozen_of_row _ _ _ _ _ HD8.out.res
          have f1 : w8.frozen? ⟨w.heap.size, 1, none⟩ = false := frozen_of_row _ _ _ _ _ HD8.out.res
          have f2 : w8.frozen? ⟨w.heap.size, 2, none⟩ = false := frozen_of_row _ _ _ _ _ HD8.out.res
          go_wp2
          (try simp only [Exit.inBlock, Exit.then])
          exact kind_fin HD8.out HK8.out hgw (Nat.le_refl _) ⟨by unfold Small; omega, by unfold Small; omega, HSF.out⟩ HA.out rfl rfl rfl
end Go.Proofs.YtfhgkkdbkbbpkaaDoor
