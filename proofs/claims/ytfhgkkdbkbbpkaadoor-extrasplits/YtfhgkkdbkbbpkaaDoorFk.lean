/-
  The reference's Split.
-/
import Derived.Test.YtfhgkkdbkbbpkaaDoorFj
import Derived.Test.YtfhgkkdbkbbpkaaDoorFh
import Derived.Test.YtfhgkkdbkbbpkaaDoorRright
import Derived.Deep.RegionLaw
import Derived.Maps.AppendAt
namespace Go.Proofs.YtfhgkkdbkbbpkaaDoor
open Go.RowKit
set_option linter.unusedVariables false
set_option linter.unusedSimpArgs false

theorem chunksF_len : ∀ (n : Nat) (ps : List Int), (chunksF n ps).length ≤ ps.length
  | 0, _ => by simp [chunksF]
  | n + 1, [] => by simp [chunksF]
  | n + 1, p :: ps => by
    have h1 := fit_pos p ps
    have h2 := chunksF_len n ((p :: ps).drop (fitN 45 (p :: ps)))
    simp only [chunksF, List.length_cons]
    rw [List.length_drop, List.length_cons] at h2
    omega
theorem codeL_ge : ∀ l : List Int, l.length ≤ (codeL l).length
  | [] => by simp
  | c :: l => by
    have h := codeL_ge l
    have e : codeL (c :: l) = codeC c ++ codeL l := by simp [codeL]
    rw [e, List.length_append, List.length_cons]
    have : 1 ≤ (codeC c).length := by unfold codeC; split <;> simp
    omega
theorem chunks_le (ps : List Int) : (chunksZ ps).length ≤ (codeL (Cs.Ut.flat ps)).length := by
  have h1 := chunksF_len ps.length ps
  have h2 := Cs.Ut.flat_ge ps
  have h3 := codeL_ge (Cs.Ut.flat ps)
  show (chunksF ps.length ps).length ≤ _
  omega
theorem own_slice {w : World} {B e size n : Nat} {v : Value} {xs : List Value} (h : w.ownsRow B e size v n xs) : ∃ a c, v = .slice a n c := by
  rcases h.2 with ⟨rfl, hn⟩ | ⟨g, cap, cur, rfl, hb, hg, hn, hm, hs, ht⟩
  · exact ⟨none, 0, by rw [hn]⟩
  · exact ⟨some ⟨g, 0, none⟩, cap, rfl⟩
theorem grown_pair {wr w6 : World} {o : Obj} {row : Option Nat} {b i : Nat} {cs : Array Value} {t : TypeId} {v : Value} (hg : (wr.drew.alloc o).grownBy w6 row) (h : wr.heap[b]? = some (.cells cs t)) (hi : cs[i]? = some v) (hne : some b ≠ row) : w6.cell? ⟨b, i, none⟩ = some v ∧ w6.frozen? ⟨b, i, none⟩ = false := by
  have h1 := heap_grown (heap_keep h ((below_drewN (Below.refl _ wr) 1).alloc (Nat.le_refl _) o)) hg hne
  exact ⟨cell_of h1 hi, frozen_of h1⟩
theorem piecesL_app (nm : List Int) : ∀ (a b : List (List Int)) (i : Nat), piecesL nm i (a ++ b) = piecesL nm i a ++ piecesL nm (i + a.length) b
  | [], b, i => by simp [piecesL]
  | c :: r, b, i => by
    simp only [List.cons_append, piecesL, List.length_cons]
    rw [piecesL_app nm r b (i + 1)]
    rw [show i + 1 + r.length = i + (r.length + 1) by omega]
theorem chunksF_mem : ∀ (n : Nat) (ps : List Int) {c : List Int} {x : Int}, c ∈ chunksF n ps → x ∈ c → x ∈ ps
  | 0, _, _, _, h, _ => by simp [chunksF] at h
  | n + 1, [], _, _, h, _ => by simp [chunksF] at h
  | n + 1, p :: ps, c, x, h, hx => by
    simp only [chunksF, List.mem_cons] at h
    rcases h with rfl | h
    · exact List.mem_of_mem_take hx
    · exact List.mem_of_mem_drop (chunksF_mem n _ h hx)
theorem chunks_mem {ps c : List Int} {x : Int} (h : c ∈ chunksZ ps) (hx : x ∈ c) : x ∈ ps := chunksF_mem _ _ h hx
theorem fit_le : ∀ (ps : List Int) (r : Nat), (codeP (ps.take (fitN r ps))).length ≤ r
  | [], r => by simp [fitN, codeP, codeL, Cs.Ut.flat]
  | p :: ps, r => by
    simp only [fitN]
    by_cases h : r < (codeL (Cs.Ut.encZ p)).length
    · rw [if_pos h]; simp [codeP, codeL, Cs.Ut.flat]
    · rw [if_neg h, List.take_succ_cons, ← List.singleton_append, codeP_app, codeP_one, List.length_append]
      have := fit_le ps (r - (codeL (Cs.Ut.encZ p)).length)
      omega
theorem chunksF_45 : ∀ (n : Nat) (ps : List Int) {c : List Int}, c ∈ chunksF n ps → (codeP c).length ≤ 45
  | 0, _, _, h => by simp [chunksF] at h
  | n + 1, [], _, h => by simp [chunksF] at h
  | n + 1, p :: ps, c, h => by
    simp only [chunksF, List.mem_cons] at h
    rcases h with rfl | h
    · exact fit_le _ _
    · exact chunksF_45 n _ h
theorem below_ad {w w7 : World} {o : Obj} (h : Below (w.alloc o).drew.heap.size (w.alloc o).drew w7) : Below w.heap.size w w7 :=
  (below_drewN (keep w o) 1).trans (h.mono (by show w.heap.size ≤ (w.alloc o).heap.size; exact (keep w o).size))
theorem below_set2 {n b : Nat} {w W : World} {u v : Value} (h : Below n w W) (hb : n ≤ b) : Below n w ((W.setCell ⟨b, 0, none⟩ u).setCell ⟨b, 1, none⟩ v) := (h.setCell hb _).setCell hb _
theorem below_dA {w w7 : World} {o : Obj} (h : Below w.drew.heap.size w.drew w7) : Below w.heap.size w (w7.alloc o) := by
  have h1 : Below w.heap.size w w7 := (below_drewN (Below.refl _ w) 1).trans h
  exact h1.alloc h1.size _
theorem heap_set2 {w : World} {b : Nat} {x y : Value} {t : TypeId} (h : w.heap[b]? = some (.cells #[x, y] t)) (u v : Value) : ((w.setCell ⟨b, 0, none⟩ u).setCell ⟨b, 1, none⟩ v).heap[b]? = some (.cells #[u, v] t) := heap_set (i := 1) (heap_set (i := 0) h u) v
def SpX (ty sub : ByteArray) (fs : List (ByteArray × ByteArray)) (w : World) (e : Ending) (w' : World) : Prop :=
  (¬ SplitsP ty sub fs ∧ e = .returned (.tuple #[kindV ⟨#[]⟩ ⟨#[]⟩ none 0 0, .int .i64 70]) ∧ Below w.heap.size w w') ∨ (SplitsP ty sub fs ∧ ∃ qs, PtsOf fs qs ∧ SpR ty sub (splitZ qs) w e w')
theorem spX_no {ty sub : ByteArray} {fs : List (ByteArray × ByteArray)} {w w' : World} (h : ¬ SplitsP ty sub fs) (hb : Below w.heap.size w w') : SpX ty sub fs w (.returned (.tuple #[.agg #[.string ⟨#[]⟩, .string ⟨#[]⟩, .slice none 0 0], .int .i64 70])) w' := .inl ⟨h, rfl, hb⟩
theorem spX_none {ty sub : ByteArray} {fs : List (ByteArray × ByteArray)} {qs : List (List Int × List Int)} {w w' : World} (h : SplitsP ty sub fs) (hq : PtsOf fs qs) (hn : splitZ qs = none) (hb : Below w.heap.size w w') : SpX ty sub fs w (.returned (.tuple #[.agg #[.string ⟨#[]⟩, .string ⟨#[]⟩, .slice none 0 0], .int .i64 3])) w' :=
  .inr ⟨h, qs, hq, by rw [hn]; exact spR_none hb⟩
theorem spX_some {ty sub : ByteArray} {fs gs : List (ByteArray × ByteArray)} {qs : List (List Int × List Int)} {v : Value} {w w' : World} (h : SplitsP ty sub fs) (hq : PtsOf fs qs) (hn : splitZ qs = some (numsP gs)) (hb : Below w.heap.size w w') (ho : OwnF w' w.heap.size v gs) : SpX ty sub fs w (.returned (.tuple #[.agg #[.string ty, .string sub, v], .int .i64 0])) w' :=
  .inr ⟨h, qs, hq, by rw [hn]; exact spR_some hb ho rfl⟩
theorem grown_pair2 {W w6 : World} {o : Obj} {row : Option Nat} {b i : Nat} {cs : Array Value} {t : TypeId} {v : Value} (hg : (W.alloc o).grownBy w6 row) (h : W.heap[b]? = some (.cells cs t)) (hi : cs[i]? = some v) (hne : some b ≠ row) : w6.cell? ⟨b, i, none⟩ = some v ∧ w6.frozen? ⟨b, i, none⟩ = false := by
  have h1 := heap_grown (heap_keep h (keep W o)) hg hne
  exact ⟨cell_of h1 hi, frozen_of h1⟩
set_option maxRecDepth 100000 in
set_option maxHeartbeats 8000000 in
theorem rsplit_any (ty sub : ByteArray) (a : Option Addr) (n c : Nat) (fs : List (ByteArray × ByteArray)) (w : World) (hn : fs.length = n) (hr : FRow w a fs) (h1 : ty.size ≤ 100000000) (h2 : sub.size ≤ 100000000) (hf : ∀ f ∈ fs, f.1.size ≤ 200 ∧ f.2.size ≤ 2100) (hbig : n ≤ 40) :
    Calls Tryd.prog 11 #[kindV ty sub a n c] w (SpX ty sub fs w) := by
  obtain ⟨j0, hi, hj0, hj1, hj2⟩ := info_parts Tryd.info37
  have HR : Hid (FRow w a fs) := hr
  have HF : Hid (∀ f ∈ fs, f.1.size ≤ 200 ∧ f.2.size ≤ 2100) := hf
  have HT : Hid (∀ (V : World) (va : Option Addr) (vc : Nat), FRow V va (bareF fs) → Calls Tryd.prog 24 #[.agg #[.string ty, .string sub, .slice va n vc]] V fun e w' => e = .returned (.bool (rightZ (nums ty) (nums sub) (numsP (bareF fs)))) ∧ Below V.heap.size V w') := fun V va vc h =>
    rright_any ty sub va n vc (bareF fs) V (by simp [bareF, hn]) (by omega) h h1 h2 (by
      intro f hf'
      obtain ⟨g, hg, rfl⟩ := List.mem_map.1 hf'
      exact ⟨by have := (hf g hg).1; show g.1.size ≤ _; omega, Nat.zero_le _⟩)
  clear hr hf
  unfold kindV
  go_enter Tryd.func11, Tryd.ntmps11
  go_wp2
  obtain ⟨V0, hV0⟩ : ∃ V0, ((w.alloc (.cells #[.string ty, .string sub, .slice a n c] 24)).alloc (.cells #[.string ⟨#[]⟩, .string ⟨#[]⟩, .slice none 0 0] 24)).alloc (.cells #[.string ty, .string sub, .slice none 0 0] 24) = V0 := ⟨_, rfl⟩
  have hY : V0.heap[w.heap.size]? = some (.cells #[.string ty, .string sub, .slice a n c] 24) := by
    rw [← hV0, (MapKept.heap_alloc _ _).2 _ (by simp; omega), (MapKept.heap_alloc _ _).2 _ (by simp)]
    exact (MapKept.heap_alloc w _).1
  have hX : V0.heap[w.heap.size + 1]? = some (.cells #[.string ⟨#[]⟩, .string ⟨#[]⟩, .slice none 0 0] 24) := by
    rw [← hV0, (MapKept.heap_alloc _ _).2 _ (by simp)]
    have := (MapKept.heap_alloc (w.alloc (.cells #[.string ty, .string sub, .slice a n c] 24)) (.cells #[.string ⟨#[]⟩, .string ⟨#[]⟩, .slice none 0 0] 24)).1
    simpa using this
  have hO : V0.heap[w.heap.size + 1 + 1]? = some (.cells #[.string ty, .string sub, .slice none 0 0] 24) := by
    have := (MapKept.heap_alloc ((w.alloc (.cells #[.string ty, .string sub, .slice a n c] 24)).alloc (.cells #[.string ⟨#[]⟩, .string ⟨#[]⟩, .slice none 0 0] 24)) (.cells #[.string ty, .string sub, .slice none 0 0] 24)).1
    rw [← hV0]; simpa [Nat.add_assoc] using this
  have HB0 : Hid (Below w.heap.size w V0) := by unfold Hid; rw [← hV0]; exact ((keep w _).alloc (by simp) _).alloc (by simp; omega) _
  have b2 : V0.cell? ⟨w.heap.size, 2, none⟩ = some (.slice a n c) := cell_of hY rfl
  rw [hV0]
  clear hV0
  go_loopw [5] (fun i wr => ∃ (k : Nat) (v : Value), i = .int .i64 k ∧ k ≤ n ∧ Hid (wr.heap[w.heap.size]? = some (.cells #[.string ty, .string sub, .slice a n c] 24)) ∧ Hid (wr.heap[w.heap.size + 1]? = some (.cells #[.string ⟨#[]⟩, .string ⟨#[]⟩, .slice none 0 0] 24)) ∧ Hid (wr.heap[w.heap.size + 1 + 1]? = some (.cells #[.string ty, .string sub, v] 24)) ∧ Hid (OwnF wr (w.heap.size + 3) v (bareF (fs.take k))) ∧ Hid (∀ f ∈ fs.take k, GoodV f.2) ∧ Hid (Below w.heap.size w wr)) (fun i _ => n - (intOf i).toNat)
  case atStart => exact ⟨0, _, rfl, by omega, hY, hX, hO, World.ownsRow_nil _ _ _ _, (by unfold Hid; simp), HB0.out⟩
  case round =>
    clear HB0 hX hY hO b2
    obtain ⟨k, v, rfl, hk, HY, HX, HO, HV, HG, HB⟩ := hrel
    have hso : w.heap.size + 2 < wr.heap.size := (Array.getElem?_eq_some_iff.1 HO.out).1
    have hlt' : (bareF (fs.take k)).length = k := by unfold bareF; rw [List.length_map, List.length_take]; omega
    obtain ⟨va, vc, rfl, hva⟩ := ownF_view HV.out
    rw [hlt'] at HO HV
    have HV' : Hid (wr.ownsRow (w.heap.size + 3) 37 2 (.slice va k vc) k ((bareF (fs.take k)).flatMap cellF)) := by
      have := HV.out
      unfold OwnF at this
      rw [hlt'] at this
      exact this
    have b2 : wr.cell? ⟨w.heap.size, 2, none⟩ = some (.slice a n c) := cell_of HY.out rfl
    have o2 : wr.cell? ⟨w.heap.size + 1 + 1, 2, none⟩ = some (.slice va k vc) := cell_of HO.out rfl
    by_cases hlt : k < n
    · obtain ⟨f, hfk⟩ : ∃ f, fs[k]? = some f := ⟨_, List.getElem?_eq_getElem (by omega)⟩
      have hmem := List.mem_of_getElem? hfk
      have HFK : Hid (fs[k]? = some f) := hfk
      have HTK : Hid (fs.take (k + 1) = fs.take k ++ [f]) := by unfold Hid; rw [List.take_add_one, hfk]; rfl
      have hfz := HF.out f hmem
      obtain ⟨nm, vl⟩ := f
      obtain ⟨hz1, hz2⟩ := hfz
      rcases HR.out.below HB.out with h | ⟨b, off, rfl, h⟩
      · rw [h] at hn; simp at hn; omega
      obtain ⟨hc1, hc2⟩ := h k _ hfk
      clear h hfk hva HV
      simp only at hc1 hc2 hz1 hz2
      have q1 : (k : Int) < (n : Int) := by omega
      have q2 : (0 : Int) ≤ (k : Int) := by omega
      go_wp2
      go_region_law (refine step_append_own rfl (.tmp 25) (.tmp 33) 22 rfl (w.heap.size + 3) 37 j0 (.agg #[.string ⟨#[]⟩, .string ⟨#[]⟩]) 2 32 Tryd.underlying22 hi hj0 hj1 hj2 rfl (by decide) (.slice va k vc) k _ rfl (World.ownsRow.alloc (w := wr.drew) (own_keep HV'.out (below_drewN (Below.refl _ _) 1)) _) ⟨wr.heap.size, 0, none⟩ 1 1 [.string nm, .string ⟨#[]⟩] rfl rfl (fun j u hu => cells_new wr.drew _ 37 j u hu) (by intro u hu; simp at hu; rcases hu with rfl | rfl <;> rfl) ?_ ?_ ?_ ?_; (unfold maxLen; omega); omega; (simp; omega); intro v6 w6 hown6 hgrow6; obtain ⟨u2, g2⟩ := grown_pair hgrow6 HO.out (i := 2) rfl (ne_own HV'.out (by omega)); obtain ⟨xa, xc, rfl⟩ := own_slice hown6)
      all_goals
        have hlk : (bareF (fs.take (k + 1))).length = k + 1 := by unfold bareF; rw [List.length_map, List.length_take]; omega
        have hsw := (below_drewN (Below.refl wr.heap.size wr) 1).alloc (Nat.le_refl _) (.cells #[.string nm, .string ⟨#[]⟩] 37)
        have HV6 : Hid (OwnF w6 (w.heap.size + 3) (.slice xa (k + 1) xc) (bareF (fs.take (k + 1)))) := by
          unfold Hid OwnF
          rw [hlk, HTK.out, bareF_app, List.flatMap_append]; exact hown6
        have HY8 := heap_other (heap_grown (heap_keep HY.out hsw) hgrow6 (ne_own HV'.out (by omega))) (a := ⟨w.heap.size + 1 + 1, 2, none⟩) (by dsimp only; omega) (.slice xa (k + 1) xc)
        have HX8 := heap_other (heap_grown (heap_keep HX.out hsw) hgrow6 (ne_own HV'.out (by omega))) (a := ⟨w.heap.size + 1 + 1, 2, none⟩) (by dsimp only; omega) (.slice xa (k + 1) xc)
        have HO8 := heap_set (i := 2) (heap_grown (heap_keep HO.out hsw) hgrow6 (ne_own HV'.out (by omega))) (.slice xa (k + 1) xc)
        have HV8 : Hid (OwnF (w6.setCell ⟨w.heap.size + 1 + 1, 2, none⟩ (.slice xa (k + 1) xc)) (w.heap.size + 3) (.slice xa (k + 1) xc) (bareF (fs.take (k + 1)))) := ownsRow_setCell_below HV6.out (by show w.heap.size + 1 + 1 < _; omega) _
        have HB6 : Below w.heap.size w w6 := (HB.out.trans (hsw.mono HB.out.size)).grown hgrow6 (by simp; omega) (fun z hz => by have := (HV'.out.lt z hz).1; omega)
        have HB8 : Hid (Below w.heap.size w (w6.setCell ⟨w.heap.size + 1 + 1, 2, none⟩ (.slice xa (k + 1) xc))) := HB6.setCell (by show w.heap.size ≤ w.heap.size + 1 + 1; omega) _
        obtain ⟨W8, hW8⟩ : ∃ W, w6.setCell ⟨w.heap.size + 1 + 1, 2, none⟩ (.slice xa (k + 1) xc) = W := ⟨_, rfl⟩
        rw [hW8] at HY8 HX8 HO8 HV8 HB8 ⊢
        have HYh : Hid _ := HY8
        have HXh : Hid _ := HX8
        have HOh : Hid _ := HO8
        have e2 : W8.cell? ⟨w.heap.size, 2, none⟩ = some (.slice (some ⟨b, off, none⟩) n c) := cell_of HY8 rfl
        obtain ⟨hc1, hc2⟩ : W8.cell? ⟨b, off + k * 2, none⟩ = some (.string nm) ∧ W8.cell? ⟨b, off + k * 2 + 1, none⟩ = some (.string vl) := by
          rcases HR.out.below HB8.out with h | ⟨b', off', hbo, h⟩
          · rw [h] at hn; simp at hn; omega
          · simp only [Option.some.injEq, Addr.mk.injEq] at hbo
            obtain ⟨rfl, rfl, _⟩ := hbo
            have hfk2 : fs[k]? = some (nm, vl) := HFK.out
            exact h k _ hfk2
        clear hown6 hgrow6 u2 g2 hW8 HV6 HB6 hsw HY8 HX8 HO8 HY HX HO HV' HB o2 b2 hlk
        by_cases h2048 : 2048 < vl.size
        · have d2 : decide ((vl.size : Int) > 2048) = true := decide_eq_true (by omega)
          have HNO : Hid (¬ SplitsP ty sub fs) := fun h => by have := (h.2.1 _ hmem).1; simp only at this; omega
          have c0 : W8.cell? ⟨w.heap.size + 1, 0, none⟩ = some (.string ⟨#[]⟩) := cell_of HXh.out rfl
          have c1 : W8.cell? ⟨w.heap.size + 1, 1, none⟩ = some (.string ⟨#[]⟩) := cell_of HXh.out rfl
          have c2 : W8.cell? ⟨w.heap.size + 1, 2, none⟩ = some (.slice none 0 0) := cell_of HXh.out rfl
          have f0 : W8.frozen? ⟨w.heap.size + 1, 0, none⟩ = false := frozen_of HXh.out
          have f1 : W8.frozen? ⟨w.heap.size + 1, 1, none⟩ = false := frozen_of HXh.out
          have f2 : W8.frozen? ⟨w.heap.size + 1, 2, none⟩ = false := frozen_of HXh.out
          clear HTK hmem
          go_wp2
          exact bodyPost_ret (v := .tuple #[.agg #[.string ⟨#[]⟩, .string ⟨#[]⟩, .slice none 0 0], .int .i64 70]) (by simp [results, Tryd.results11, go_sem, c0, c1, c2]) rfl
            (spX_no HNO.out (((HB8.out.setCell (by simp) _).setCell (by simp) _).setCell (by simp) _))
        · have d2 : decide ((vl.size : Int) > 2048) = false := decide_eq_false (by omega)
          obtain ⟨ps, r, hps, hsp, hr⟩ := Cs.Ut.split_ex (nums vl) (nums_byt vl)
          obtain ⟨cap, w4, kc, hcap, hmx, hrow, hb4, hfz4⟩ := conv_bytes vl W8 (by unfold maxLen; omega)
          have hbv := nums_byt vl
          have hlv := nums_len vl
          rw [hsp] at hrow hbv hlv
          have HY9 : Hid _ := heap_keep HYh.out hb4
          have HX9 : Hid _ := heap_keep HXh.out hb4
          have HO9 : Hid _ := heap_keep HOh.out hb4
          have HV9 : Hid (OwnF w4 (w.heap.size + 3) (.slice xa (k + 1) xc) (bareF (fs.take (k + 1)))) := own_keep HV8.out hb4
          have HB9 : Hid (Below w.heap.size w w4) := HB8.out.trans (hb4.mono HB8.out.size)
          clear HYh HXh HOh HV8 HB8 hb4 hfz4
          cases hre : r with
          | cons x y =>
            have HNO : Hid (¬ SplitsP ty sub fs) := fun h => by
              obtain ⟨qs, hq1, hq2⟩ := (h.2.1 _ hmem).2
              simp only at hq2
              have := (Cs.Ut.split_one hps hq1 hr (by rfl) (by rw [← hsp, hq2, List.append_nil] : Cs.Ut.flat ps ++ r = Cs.Ut.flat qs ++ [])).2
              rw [this] at hre; cases hre
            have K := rvalid_no _ vl.size cap ps r w4 hps hr (by rw [hre]; simp) (fun x hx => hbv x (by simp [hx])) hlv hcap (by unfold maxLen; omega) (by omega) hrow
            clear HTK hmem hps hsp hr hrow hbv hlv hre
            go_wp2_with fail
            refine K.mono ?_
            rintro e w5 ⟨rfl, hb5⟩
            have HXa : Hid _ := heap_keep HX9.out hb5
            clear HX9
            have HX9 := HXa
            have c0 : w5.cell? ⟨w.heap.size + 1, 0, none⟩ = some (.string ⟨#[]⟩) := cell_of HX9.out rfl
            have c1 : w5.cell? ⟨w.heap.size + 1, 1, none⟩ = some (.string ⟨#[]⟩) := cell_of HX9.out rfl
            have c2 : w5.cell? ⟨w.heap.size + 1, 2, none⟩ = some (.slice none 0 0) := cell_of HX9.out rfl
            have f0 : w5.frozen? ⟨w.heap.size + 1, 0, none⟩ = false := frozen_of HX9.out
            have f1 : w5.frozen? ⟨w.heap.size + 1, 1, none⟩ = false := frozen_of HX9.out
            have f2 : w5.frozen? ⟨w.heap.size + 1, 2, none⟩ = false := frozen_of HX9.out
            go_wp2
            exact bodyPost_ret (v := .tuple #[.agg #[.string ⟨#[]⟩, .string ⟨#[]⟩, .slice none 0 0], .int .i64 70]) (by simp [results, Tryd.results11, go_sem, c0, c1, c2]) rfl
              (spX_no HNO.out ((((HB9.out.trans (hb5.mono HB9.out.size)).setCell (by simp) _).setCell (by simp) _).setCell (by simp) _))
          | nil =>
            subst hre
            rw [List.append_nil] at hrow hlv hsp
            have HG2 : Hid (∀ f ∈ fs.take (k + 1), GoodV f.2) := by
              unfold Hid
              rw [HTK.out]
              intro f hf
              rcases List.mem_append.1 hf with h | h
              · exact HG.out f h
              · simp at h; subst h
                exact ⟨by show vl.size ≤ 2048; omega, ps, hps, hsp⟩
            have K := rvalid_yes _ vl.size cap ps w4 hps hlv hcap (by unfold maxLen; omega) (by omega) hrow
            clear HG hps hsp hr hmem hrow hbv hlv
            go_wp2_with (go_at_call 23; refine K.mono ?_; rintro e w5 ⟨rfl, hb5⟩)
            go_roundw
            case rel => exact ⟨k + 1, _, by go_num, by omega, heap_keep HY9.out hb5, heap_keep HX9.out hb5, heap_keep HO9.out hb5, own_keep HV9.out hb5, HG2.out, HB9.out.trans (hb5.mono HB9.out.size)⟩
            case measure => simp [intOf]; omega
    · obtain rfl : k = n := by omega
      have HTF : Hid (fs.take k = fs) := List.take_of_length_le (by omega)
      have o0 : wr.cell? ⟨w.heap.size + 1 + 1, 0, none⟩ = some (.string ty) := cell_of HO.out rfl
      have o1 : wr.cell? ⟨w.heap.size + 1 + 1, 1, none⟩ = some (.string sub) := cell_of HO.out rfl
      rw [HTF.out] at hva
      have K := HT.out wr va vc hva
      have HGG : Hid (∀ f ∈ fs, GoodV f.2) := by have := HG.out; rw [HTF.out] at this; exact this
      obtain ⟨z, hzz⟩ : ∃ z, rightZ (nums ty) (nums sub) (numsP (bareF fs)) = z := ⟨_, rfl⟩
      have HZ : Hid (rightZ (nums ty) (nums sub) (numsP (bareF fs)) = z) := hzz
      rw [hzz] at K
      clear hzz hva HTF HG HT HV HV'
      go_wp2_with fail
      refine K.mono ?_
      rintro e w2 ⟨rfl, hb2⟩
      have HX9 : Hid _ := heap_keep HX.out hb2
      have HY9 : Hid _ := heap_keep HY.out hb2
      have HB9 : Hid (Below w.heap.size w w2) := HB.out.trans (hb2.mono HB.out.size)
      have s2 := hb2.size
      clear K HX HY HO HB o0 o1 o2 b2 hb2
      cases z with
      | false =>
        have HNO : Hid (¬ SplitsP ty sub fs) := fun h => by have h3 := h.2.2; rw [HZ.out] at h3; cases h3
        have c0 : w2.cell? ⟨w.heap.size + 1, 0, none⟩ = some (.string ⟨#[]⟩) := cell_of HX9.out rfl
        have c1 : w2.cell? ⟨w.heap.size + 1, 1, none⟩ = some (.string ⟨#[]⟩) := cell_of HX9.out rfl
        have c2 : w2.cell? ⟨w.heap.size + 1, 2, none⟩ = some (.slice none 0 0) := cell_of HX9.out rfl
        have f0 : w2.frozen? ⟨w.heap.size + 1, 0, none⟩ = false := frozen_of HX9.out
        have f1 : w2.frozen? ⟨w.heap.size + 1, 1, none⟩ = false := frozen_of HX9.out
        have f2 : w2.frozen? ⟨w.heap.size + 1, 2, none⟩ = false := frozen_of HX9.out
        go_wp2
        exact bodyPost_ret (v := .tuple #[.agg #[.string ⟨#[]⟩, .string ⟨#[]⟩, .slice none 0 0], .int .i64 70]) (by simp [results, Tryd.results11, go_sem, c0, c1, c2]) rfl
          (spX_no HNO.out (((HB9.out.setCell (by simp) _).setCell (by simp) _).setCell (by simp) _))
      | true =>
        have hsp : SplitsP ty sub fs := ⟨by have := (rightZ_parts HZ.out).2.2.1; simpa [numsP, bareF] using this, HGG.out, HZ.out⟩
        obtain ⟨qs, hqs⟩ := pts_ex HGG.out
        have HQ : Hid (PtsOf fs qs) := hqs
        have HSP : Hid (SplitsP ty sub fs) := hsp
        have hn16 : k ≤ 16 := by have := hsp.1; omega
        have hfz : ∀ f ∈ fs, f.1.size ≤ 64 ∧ f.2.size ≤ 2048 := fun f hf' => by
          have hm : (nums f.1, nums (⟨#[]⟩ : ByteArray)) ∈ numsP (bareF fs) := List.mem_map.2 ⟨(f.1, ⟨#[]⟩), List.mem_map.2 ⟨f, hf', rfl⟩, rfl⟩
          have := name_len (rightL_mem (rightZ_parts hsp.2.2).2.2.2 _ hm).1
          rw [nums_len] at this
          exact ⟨this, (hsp.2.1 f hf').1⟩
        have HF2 : Hid (∀ f ∈ fs, f.1.size ≤ 64 ∧ f.2.size ≤ 2048) := hfz
        clear hsp hqs hfz HF HGG HZ
        have d0 : w2.cell? ⟨w.heap.size, 0, none⟩ = some (.string ty) := cell_of HY9.out rfl
        have d1 : w2.cell? ⟨w.heap.size, 1, none⟩ = some (.string sub) := cell_of HY9.out rfl
        have kx := keep w2 (.cells #[.string ty, .string sub, .slice none 0 0] 24)
        have HYa : Hid _ := heap_keep HY9.out kx
        have HXa : Hid _ := heap_keep HX9.out kx
        have HOa : Hid ((w2.alloc (.cells #[.string ty, .string sub, .slice none 0 0] 24)).heap[w2.heap.size]? = some (.cells #[.string ty, .string sub, .slice none 0 0] 24)) := (MapKept.heap_alloc w2 _).1
        have HBa : Hid (Below w.heap.size w (w2.alloc (.cells #[.string ty, .string sub, .slice none 0 0] 24))) := HB9.out.alloc HB9.out.size _
        have s3 : w.heap.size + 2 < w2.heap.size := by omega
        obtain ⟨n, hkn⟩ : ∃ n, k = n := ⟨_, rfl⟩
        subst hkn
        clear kx HX9 HY9 HB9 hso hlt' hk hlt
        go_wp2
        go_loopw [7] (fun i wr => ∃ (m : Nat) (v : Value) (gs : List (ByteArray × ByteArray)), i = .int .i64 m ∧ m ≤ k ∧ gs.length ≤ 100 * m ∧ Hid (wr.heap[w.heap.size]? = some (.cells #[.string ty, .string sub, .slice a k c] 24)) ∧ Hid (wr.heap[w.heap.size + 1]? = some (.cells #[.string ⟨#[]⟩, .string ⟨#[]⟩, .slice none 0 0] 24)) ∧ Hid (wr.heap[w2.heap.size]? = some (.cells #[.string ty, .string sub, v] 24)) ∧ Hid (OwnF wr (w2.heap.size + 1) v gs) ∧ Hid ((splitZ (qs.drop m)).map (fun y => numsP gs ++ y) = splitZ qs) ∧ Hid (Below w.heap.size w wr)) (fun i _ => k - (intOf i).toNat)
        case atStart => exact ⟨0, _, [], rfl, by omega, by simp, HYa.out, HXa.out, HOa.out, World.ownsRow_nil _ _ _ _, (by unfold Hid; rw [List.drop_zero]; cases splitZ qs <;> simp [numsP]), HBa.out⟩
        case round =>
          clear HYa HXa HOa HBa d0 d1
          obtain ⟨m, v, gs, rfl, hm, hgl, HY, HX, HO, HV, HS, HB⟩ := hrel
          generalize wr = wo at *
          have hso : w2.heap.size < wo.heap.size := (Array.getElem?_eq_some_iff.1 HO.out).1
          have b2 : wo.cell? ⟨w.heap.size, 2, none⟩ = some (.slice a k c) := cell_of HY.out rfl
          obtain ⟨va2, vc2, rfl, _⟩ := ownF_view HV.out
          by_cases hlm : m < k
          · obtain ⟨f, hfk⟩ : ∃ f, fs[m]? = some f := ⟨_, List.getElem?_eq_getElem (by omega)⟩
            have hfz := HF2.out f (List.mem_of_getElem? hfk)
            obtain ⟨ps, hdr, hps, hvf⟩ := pts_at HQ.out hfk
            obtain ⟨nm, vl⟩ := f
            obtain ⟨hz1, hz2⟩ := hfz
            rcases HR.out.below HB.out with h | ⟨b, off, rfl, h⟩
            · rw [h] at hn; simp at hn; omega
            obtain ⟨hc1, hc2⟩ := h m _ hfk
            clear h hfk
            simp only at hc1 hc2 hz1 hz2 hdr hvf
            obtain ⟨o, ho⟩ : ∃ o, partedZ (nums nm) ps = o := ⟨_, rfl⟩
            have HPO : Hid (partedZ (nums nm) ps = o) := ho
            have HST : Hid (splitZ (qs.drop m) = o.bind fun x => (splitZ (qs.drop (m + 1))).map fun y => x ++ y) := by unfold Hid; rw [hdr, splitZ, ho]
            have KS : ∀ V, Calls Tryd.prog 25 #[.string vl] V fun e w' => e = .returned (.bool (staysZ (Cs.Ut.flat ps))) ∧ V = w' := fun V => by
              have := rplain_any vl V (by omega)
              rw [hvf] at this
              exact this
            have kw := keep wo (.cells #[.string nm, .string vl] 37)
            have HYb : Hid _ := heap_keep HY.out kw
            have HXb : Hid _ := heap_keep HX.out kw
            have HOb : Hid _ := heap_keep HO.out kw
            have HVb : Hid ((wo.alloc (.cells #[.string nm, .string vl] 37)).ownsRow (w2.heap.size + 1) 37 2 (.slice va2 gs.length vc2) gs.length (gs.flatMap cellF)) := own_keep HV.out kw
            have HBb : Hid (Below w.heap.size w (wo.alloc (.cells #[.string nm, .string vl] 37))) := HB.out.alloc HB.out.size _
            have hgz : (wo.alloc (.cells #[.string nm, .string vl] 37)).heap.size = wo.heap.size + 1 := by simp
            have HC0 : Hid ((wo.alloc (.cells #[.string nm, .string vl] 37)).heap[wo.heap.size]? = some (.cells #[.string nm, .string vl] 37)) := (MapKept.heap_alloc wo _).1
            have HVF : Hid (nums vl = Cs.Ut.flat ps) := hvf
            have HPS : Hid (Cs.Ut.AllPt ps) := hps
            clear hdr hps hvf ho kw
            cases hst : staysZ (Cs.Ut.flat ps) with
            | true =>
              rw [hst] at KS
              have HON : Hid (o = some [(nums nm, nums vl)]) := by unfold Hid; rw [← HPO.out]; unfold partedZ; rw [if_pos hst, HVF.out]
              have HS2 : Hid ((splitZ (qs.drop (m + 1))).map (fun y => numsP (gs ++ [(nm, vl)]) ++ y) = splitZ qs) := by
                unfold Hid
                rw [← HS.out, HST.out, HON.out]
                cases splitZ (qs.drop (m + 1)) with
                | none => rfl
                | some y => simp [numsP]
              have o2 : (wo.alloc (.cells #[.string nm, .string vl] 37)).cell? ⟨w2.heap.size, 2, none⟩ = some (.slice va2 gs.length vc2) := cell_of HOb.out rfl
              clear HS HST HPO HON hst HY HX HO HV HB
              obtain ⟨X1, hX1⟩ : ∃ X, wo.alloc (.cells #[.string nm, .string vl] 37) = X := ⟨_, rfl⟩
              have t0 : X1.cell? ⟨wo.heap.size, 0, none⟩ = some (.string nm) := by rw [← hX1]; exact cell_of HC0.out rfl
              have t1 : X1.cell? ⟨wo.heap.size, 1, none⟩ = some (.string vl) := by rw [← hX1]; exact cell_of HC0.out rfl
              rw [hX1] at HYb HXb HOb HVb HBb hgz o2 HC0
              have HGZ : Hid (X1.heap.size = wo.heap.size + 1) := hgz
              clear hgz
              go_wp2_with fail
              refine (KS _).mono ?_
              rintro e w' ⟨rfl, rfl⟩
              go_wp2_with (at_builtin; refine wpList_append_own _ rfl _ _ 22 rfl (w2.heap.size + 1) 37 j0 _ 2 32 Tryd.underlying22 hi hj0 hj1 hj2 rfl (by decide) (.slice va2 gs.length vc2) gs.length _ rfl (World.ownsRow.alloc (w := X1) HVb.out _) ⟨X1.heap.size, 0, none⟩ 1 1 [.string nm, .string vl] rfl rfl ?c2 ?c6 ?c3 ?c4 ?c5 ?_)
              case c2 =>
                have := cells_new X1 [.string nm, .string vl] 37
                simpa using this
              case c6 => intro u hu; simp at hu; rcases hu with rfl | rfl <;> rfl
              case c3 => unfold maxLen; omega
              case c4 => omega
              case c5 => have := HGZ.out; simp; omega
              intro v6 w6 hown6 hgrow6 _
              have kv := keep X1 (.cells #[.string nm, .string vl] 37)
              have HY6 : Hid _ := heap_grown (heap_keep HYb.out kv) hgrow6 (ne_own HVb.out (by omega))
              have HX6 : Hid _ := heap_grown (heap_keep HXb.out kv) hgrow6 (ne_own HVb.out (by omega))
              have HO6 : Hid _ := heap_grown (heap_keep HOb.out kv) hgrow6 (ne_own HVb.out (by omega))
              have HB6 : Hid (Below w.heap.size w w6) := (HBb.out.alloc HBb.out.size _).grown hgrow6 (by have := HBb.out.size; simp; omega) (fun z hz => by have := (HVb.out.lt z hz).1; omega)
              have HV6 : Hid (OwnF w6 (w2.heap.size + 1) v6 (gs ++ [(nm, vl)])) := by
                unfold Hid OwnF; rw [List.length_append, List.flatMap_append]; exact hown6
              have u2 : w6.cell? ⟨w2.heap.size, 2, none⟩ = some (.slice va2 gs.length vc2) := cell_of HO6.out rfl
              have g2 : w6.frozen? ⟨w2.heap.size, 2, none⟩ = false := frozen_of HO6.out
              obtain ⟨xa, xc, hv6, _⟩ := ownF_view HV6.out
              rw [List.length_append, List.length_singleton] at hv6
              subst hv6
              clear hown6 hgrow6 kv HYb HXb HOb HVb HBb
              go_wp2
              go_roundw
              case rel => exact ⟨m + 1, _, gs ++ [(nm, vl)], by go_num, by omega, by rw [List.length_append, List.length_singleton]; omega, heap_other HY6.out (by dsimp only; omega) _, heap_other HX6.out (by dsimp only; omega) _, heap_set HO6.out _, ownsRow_setCell_below HV6.out (by show w2.heap.size < _; omega) _, HS2, HB6.out.setCell (by show w.heap.size ≤ w2.heap.size; omega) _⟩
              case measure => simp [intOf]; omega
            | false =>
              rw [hst] at KS
              have hne : ps ≠ [] := by rintro rfl; revert hst; decide
              have HNS : Hid (¬ staysZ (Cs.Ut.flat ps) = true) := by unfold Hid; rw [hst]; simp
              obtain ⟨X1, hX1⟩ : ∃ X, wo.alloc (.cells #[.string nm, .string vl] 37) = X := ⟨_, rfl⟩
              have t0 : X1.cell? ⟨wo.heap.size, 0, none⟩ = some (.string nm) := by rw [← hX1]; exact cell_of HC0.out rfl
              have t1 : X1.cell? ⟨wo.heap.size, 1, none⟩ = some (.string vl) := by rw [← hX1]; exact cell_of HC0.out rfl
              rw [hX1] at HYb HXb HOb HVb HBb hgz HC0
              have HGZ : Hid (X1.heap.size = wo.heap.size + 1) := hgz
              have K26 := pieces_any vl ps X1 HPS.out HVF.out (by omega)
              rw [rp_chunks hne] at K26
              obtain ⟨ds, hds⟩ : ∃ ds, (chunksZ ps).map strP = ds := ⟨_, rfl⟩
              have HDS : Hid ((chunksZ ps).map strP = ds) := hds
              have HDL : Hid (ds.length = (chunksZ ps).length) := by unfold Hid; rw [← hds, List.length_map]
              rw [hds] at K26
              have HNEE : Hid (ps ≠ []) := hne
              have HCB : Hid (∀ c ∈ chunksZ ps, Byt (codeP c)) := fun c hc => codeL_byt (Cs.Ut.flat_byt (fun x hx => HPS.out x (chunks_mem hc hx)))
              have HVLT : Hid (∀ z, (Value.slice va2 gs.length vc2).ownBlock = some z → z < wo.heap.size) := fun z hz => (World.ownsRow.lt HV.out z hz).2
              have HNWC : Hid (some wo.heap.size ≠ (Value.slice va2 gs.length vc2).ownBlock) := fun q => by have := (World.ownsRow.lt HV.out _ q.symm).2; omega
              clear hst HY HX HO HV HB hgz hds hne
              go_wp2_with fail
              refine (KS _).mono ?_
              rintro e w' ⟨rfl, rfl⟩
              go_wp2_with fail
              refine K26.mono ?_
              rintro e w3 ⟨v9, rfl, hown9, hb3⟩
              obtain ⟨da, dc, rfl, hdr⟩ := ownS_view hown9
              have HDR : Hid (SRow w3 da ds) := hdr
              have HDB : Hid (∀ b' o', da = some ⟨b', o', none⟩ → X1.heap.size ≤ b' ∧ b' < w3.heap.size) := fun b' o' hq => World.ownsRow.lt hown9 b' (by rw [hq]; rfl)
              have HYc : Hid _ := heap_keep HYb.out hb3
              have HXc : Hid _ := heap_keep HXb.out hb3
              have HOc : Hid _ := heap_keep HOb.out hb3
              have HCc : Hid _ := heap_keep HC0.out hb3
              have HVc : Hid (w3.ownsRow (w2.heap.size + 1) 37 2 (.slice va2 gs.length vc2) gs.length (gs.flatMap cellF)) := own_keep HVb.out hb3
              have HBc : Hid (Below w.heap.size w w3) := HBb.out.trans (hb3.mono HBb.out.size)
              have hs3 : wo.heap.size + 1 ≤ w3.heap.size := by have := hb3.size; have := HGZ.out; omega
              have t0 : w3.cell? ⟨wo.heap.size, 0, none⟩ = some (.string nm) := cell_of HCc.out rfl
              have t1 : w3.cell? ⟨wo.heap.size, 1, none⟩ = some (.string vl) := cell_of HCc.out rfl
              clear HYb HXb HOb HC0 HVb HBb hown9 hb3 hdr K26 KS
              by_cases h60 : 60 < nm.size
              · have d60 : decide ((nm.size : Int) > 60) = true := decide_eq_true (by omega)
                have HNN : Hid (splitZ qs = none) := by
                  unfold Hid
                  rw [← HS.out, HST.out, ← HPO.out]
                  unfold partedZ
                  rw [if_neg HNS.out, if_pos (by rw [nums_len]; exact h60)]; rfl
                have c0 : w3.cell? ⟨w.heap.size + 1, 0, none⟩ = some (.string ⟨#[]⟩) := cell_of HXc.out rfl
                have c1 : w3.cell? ⟨w.heap.size + 1, 1, none⟩ = some (.string ⟨#[]⟩) := cell_of HXc.out rfl
                have c2 : w3.cell? ⟨w.heap.size + 1, 2, none⟩ = some (.slice none 0 0) := cell_of HXc.out rfl
                have f0 : w3.frozen? ⟨w.heap.size + 1, 0, none⟩ = false := frozen_of HXc.out
                have f1 : w3.frozen? ⟨w.heap.size + 1, 1, none⟩ = false := frozen_of HXc.out
                have f2 : w3.frozen? ⟨w.heap.size + 1, 2, none⟩ = false := frozen_of HXc.out
                go_wp2
                exact bodyPost_ret (v := .tuple #[.agg #[.string ⟨#[]⟩, .string ⟨#[]⟩, .slice none 0 0], .int .i64 3]) (by simp [results, Tryd.results11, go_sem, c0, c1, c2]) rfl
                  (spX_none HSP.out HQ.out HNN.out (((HBc.out.setCell (by simp) _).setCell (by simp) _).setCell (by simp) _))
              · have d60 : decide ((nm.size : Int) > 60) = false := decide_eq_false (by omega)
                by_cases h100 : 100 < ds.length
                · have d100 : decide ((ds.length : Int) > 100) = true := decide_eq_true (by omega)
                  have HNN : Hid (splitZ qs = none) := by
                    unfold Hid
                    have hcl := chunks_le ps
                    have hdl := HDL.out
                    rw [← HS.out, HST.out, ← HPO.out]
                    unfold partedZ
                    rw [if_neg HNS.out, if_neg (by rw [nums_len]; exact h60), if_neg (by omega), if_pos (by omega)]; rfl
                  have c0 : w3.cell? ⟨w.heap.size + 1, 0, none⟩ = some (.string ⟨#[]⟩) := cell_of HXc.out rfl
                  have c1 : w3.cell? ⟨w.heap.size + 1, 1, none⟩ = some (.string ⟨#[]⟩) := cell_of HXc.out rfl
                  have c2 : w3.cell? ⟨w.heap.size + 1, 2, none⟩ = some (.slice none 0 0) := cell_of HXc.out rfl
                  have f0 : w3.frozen? ⟨w.heap.size + 1, 0, none⟩ = false := frozen_of HXc.out
                  have f1 : w3.frozen? ⟨w.heap.size + 1, 1, none⟩ = false := frozen_of HXc.out
                  have f2 : w3.frozen? ⟨w.heap.size + 1, 2, none⟩ = false := frozen_of HXc.out
                  go_wp2
                  exact bodyPost_ret (v := .tuple #[.agg #[.string ⟨#[]⟩, .string ⟨#[]⟩, .slice none 0 0], .int .i64 3]) (by simp [results, Tryd.results11, go_sem, c0, c1, c2]) rfl
                    (spX_none HSP.out HQ.out HNN.out (((HBc.out.setCell (by simp) _).setCell (by simp) _).setCell (by simp) _))
                · have d100 : decide ((ds.length : Int) > 100) = false := decide_eq_false (by omega)
                  obtain ⟨cap4, w4, kc4, hcap4, hmx4, hrow4, hb4, hfz4⟩ := conv_bytes vl w3 (by unfold maxLen; omega)
                  rw [HVF.out] at hrow4
                  have hbt := Cs.Ut.flat_byt HPS.out
                  have hvl2 := utf_flat HVF.out
                  have KC4 : Calls Tryd.prog 16 #[.slice (some ⟨w3.heap.size, 0, none⟩) vl.size cap4] w4 fun e w' => e = .returned (.string (strOfNums (codeL (Cs.Ut.flat ps)))) ∧ Below w4.heap.size w4 w' := rcode_any _ _ _ (Cs.Ut.flat ps) w4 hvl2.symm hbt (by omega) hcap4 (by unfold maxLen; omega) hrow4
                  have hss := size_strM (codeL (Cs.Ut.flat ps))
                  have hq3 := codeL_len (Cs.Ut.flat ps)
                  rw [← hvl2] at hq3
                  have hap : (⟨#[117, 116, 102, 45, 56, 39, 39]⟩ : ByteArray) ++ strOfNums (codeL (Cs.Ut.flat ps)) = strOfNums (utfP ++ codeL (Cs.Ut.flat ps)) := by
                    rw [show (⟨#[117, 116, 102, 45, 56, 39, 39]⟩ : ByteArray) = strOfNums utfP from rfl, str_append]
                  have hnx : nums (strOfNums (utfP ++ codeL (Cs.Ut.flat ps))) = utfP ++ codeL (Cs.Ut.flat ps) := nums_str (by
                    intro x hx
                    rcases List.mem_append.1 hx with h | h
                    · exact (by decide : ∀ x ∈ utfP, 0 ≤ x ∧ x < 256) x h
                    · exact codeL_byt hbt x h)
                  have KCV : Hid (∀ V a2 c2, vl.size ≤ c2 → c2 ≤ 9223372036854775807 → Row V a2 (Cs.Ut.flat ps) → Calls Tryd.prog 16 #[.slice a2 vl.size c2] V fun e w' => e = .returned (.string (strOfNums (codeL (Cs.Ut.flat ps)))) ∧ Below V.heap.size V w') := fun V a2 c2 x1 x2 x3 => rcode_any _ _ _ (Cs.Ut.flat ps) V hvl2.symm hbt (by omega) x1 (by unfold maxLen; omega) x3
                  obtain ⟨q, hq2⟩ : ∃ q, (codeL (Cs.Ut.flat ps)).length = q := ⟨_, rfl⟩
                  have HQL : Hid ((codeL (Cs.Ut.flat ps)).length = q) := hq2
                  obtain ⟨t, ht⟩ : ∃ t, strOfNums (codeL (Cs.Ut.flat ps)) = t := ⟨_, rfl⟩
                  obtain ⟨u, hu⟩ : ∃ u, strOfNums (utfP ++ codeL (Cs.Ut.flat ps)) = u := ⟨_, rfl⟩
                  rw [hq2] at hss hq3
                  rw [ht] at KC4 hap hss KCV
                  rw [hu] at hap hnx
                  have HN : Hid (nums u = utfP ++ codeL (Cs.Ut.flat ps)) := hnx
                  have HYd : Hid _ := heap_keep HYc.out hb4
                  have HXd : Hid _ := heap_keep HXc.out hb4
                  have HOd : Hid _ := heap_keep HOc.out hb4
                  have HCd : Hid _ := heap_keep HCc.out hb4
                  have HVd : Hid (w4.ownsRow (w2.heap.size + 1) 37 2 (.slice va2 gs.length vc2) gs.length (gs.flatMap cellF)) := own_keep HVc.out hb4
                  have HBd : Hid (Below w.heap.size w w4) := HBc.out.trans (hb4.mono HBc.out.size)
                  have HDd : Hid (SRow w4 da ds) := HDR.out.below hb4
                  have hs4 := hb4.size
                  clear ht hu hq2 hnx hrow4 hb4 hfz4 hbt hvl2 HYc HXc HOc HCc HVc HBc HDR
                  go_wp2_with fail
                  refine KC4.mono ?_
                  rintro e w5 ⟨rfl, hb5⟩
                  have HYe : Hid _ := heap_keep HYd.out hb5
                  have HXe : Hid _ := heap_keep HXd.out hb5
                  have HOe : Hid _ := heap_keep HOd.out hb5
                  have HCe : Hid _ := heap_keep HCd.out hb5
                  have HVe : Hid (w5.ownsRow (w2.heap.size + 1) 37 2 (.slice va2 gs.length vc2) gs.length (gs.flatMap cellF)) := own_keep HVd.out hb5
                  have HBe : Hid (Below w.heap.size w w5) := HBd.out.trans (hb5.mono HBd.out.size)
                  have HDe : Hid (SRow w5 da ds) := HDd.out.below hb5
                  have hs5 := hb5.size
                  have t0 : w5.cell? ⟨wo.heap.size, 0, none⟩ = some (.string nm) := cell_of HCe.out rfl
                  have t1 : w5.cell? ⟨wo.heap.size, 1, none⟩ = some (.string vl) := cell_of HCe.out rfl
                  have o2 : w5.cell? ⟨w2.heap.size, 2, none⟩ = some (.slice va2 gs.length vc2) := cell_of HOe.out rfl
                  clear KC4 kc4 hb5 HYd HXd HOd HCd HVd HBd HDd
                  by_cases h53 : q ≤ 53
                  · have d53 : decide ((q : Int) ≤ 53) = true := decide_eq_true (by omega)
                    have HON : Hid (o = some [(nums (nm ++ ⟨#[42]⟩), nums u)]) := by
                      unfold Hid
                      rw [← HPO.out]
                      unfold partedZ
                      rw [if_neg HNS.out, if_neg (by rw [nums_len]; exact h60), if_pos (by rw [HQL.out]; exact h53), HN.out, nums_append]; rfl
                    have HS2 : Hid ((splitZ (qs.drop (m + 1))).map (fun y => numsP (gs ++ [(nm ++ ⟨#[42]⟩, u)]) ++ y) = splitZ qs) := by
                      unfold Hid
                      rw [← HS.out, HST.out, HON.out]
                      cases splitZ (qs.drop (m + 1)) with
                      | none => rfl
                      | some y => simp [numsP]
                    obtain ⟨cap6, w6, kc6, hcap6, hmx6, hrow6, hb6, hfz6⟩ := conv_bytes vl w5.drew (by unfold maxLen; omega)
                    rw [HVF.out] at hrow6
                    have KC6 := KCV.out w6 _ cap6 hcap6 hmx6 hrow6
                    have hgd : w5.drew.heap.size = w5.heap.size := rfl
                    rw [hgd] at kc6 KC6 hb6
                    have hbd : Below w5.heap.size w5 w6 := (below_drewN (Below.refl _ _) 1).trans hb6
                    have HYf : Hid _ := heap_keep HYe.out hbd
                    have HXf : Hid _ := heap_keep HXe.out hbd
                    have HOf : Hid _ := heap_keep HOe.out hbd
                    have HCf : Hid _ := heap_keep HCe.out hbd
                    have HVf : Hid (w6.ownsRow (w2.heap.size + 1) 37 2 (.slice va2 gs.length vc2) gs.length (gs.flatMap cellF)) := own_keep HVe.out hbd
                    have HBf : Hid (Below w.heap.size w w6) := HBe.out.trans (hbd.mono HBe.out.size)
                    have hs6 := hbd.size
                    have y1 : ¬ 9223372036854775807 < nm.size + 1 := by omega
                    have y2 : ¬ 9223372036854775807 ≤ nm.size := by omega
                    have y3 : ¬ 9223372036854775807 < 7 + t.size := by omega
                    have y4 : ¬ 9223372036854775807 < 7 + q := by omega
                    clear HS HST HPO HON HNS HQL HN hrow6 hb6 hfz6 hgd hbd HYe HXe HOe HVe HBe HDe HDS HDL HNEE KCV
                    go_wp2
                    have x0 : w6.cell? ⟨wo.heap.size, 0, none⟩ = some (.string nm) := cell_of HCf.out rfl
                    have x1 : w6.cell? ⟨wo.heap.size, 1, none⟩ = some (.string vl) := cell_of HCf.out rfl
                    have x2 : w6.cell? ⟨w2.heap.size, 2, none⟩ = some (.slice va2 gs.length vc2) := cell_of HOf.out rfl
                    refine wp_region_held_drew (S := (fun V => V.cell? ⟨wo.heap.size, 0, none⟩ = some (.string nm) ∧ V.cell? ⟨wo.heap.size, 1, none⟩ = some (.string vl))) (by kernel_rfl) (by exact ⟨t0, t1⟩) (fun hHeld => ?_)
                    refine takeD (some 105) (i := 0) (v := .pointer (some ⟨w2.heap.size, 2, none⟩)) rfl rfl (by kernel_rfl) (by kernel_rfl) (by kernel_rfl) (fun _ _ _ h => h) (Or.inl ⟨by kernel_rfl, ?_⟩) (by assumption) ?_
                    · (intro w hSw; (try dsimp only at hSw); go_simp)
                    (try simp only [Act.put, List.setIfInBounds_toArray, List.set_cons_zero, List.set_cons_succ])
                    refine takeD (some 107) (i := 2) (v := .pointer (some ⟨wo.heap.size, 0, none⟩)) rfl rfl (by kernel_rfl) (by kernel_rfl) (by kernel_rfl) (fun _ _ _ h => h) (Or.inl ⟨by kernel_rfl, ?_⟩) (by assumption) ?_
                    · (intro w hSw; (try dsimp only at hSw); go_simp)
                    (try simp only [Act.put, List.setIfInBounds_toArray, List.set_cons_zero, List.set_cons_succ])
                    refine takeD (some 108) (i := 3) (v := .string nm) rfl rfl (by kernel_rfl) (by kernel_rfl) (by kernel_rfl) (fun _ _ _ h => h) (Or.inl ⟨by kernel_rfl, ?_⟩) (by assumption) ?_
                    · (intro w hSw; (try dsimp only at hSw); go_simp)
                    (try simp only [Act.put, List.setIfInBounds_toArray, List.set_cons_zero, List.set_cons_succ])
                    refine takeD (some 109) (i := 4) (v := .string (nm ++ ⟨#[42]⟩)) rfl rfl (by kernel_rfl) (by kernel_rfl) (by kernel_rfl) (fun _ _ _ h => h) (Or.inl ⟨by kernel_rfl, ?_⟩) (by assumption) ?_
                    · (intro w hSw; (try dsimp only at hSw); go_simp)
                    (try simp only [Act.put, List.setIfInBounds_toArray, List.set_cons_zero, List.set_cons_succ])
                    refine takeD (some 110) (i := 5) (v := .pointer (some ⟨wo.heap.size, 1, none⟩)) rfl rfl (by kernel_rfl) (by kernel_rfl) (by kernel_rfl) (fun _ _ _ h => h) (Or.inl ⟨by kernel_rfl, ?_⟩) (by assumption) ?_
                    · (intro w hSw; (try dsimp only at hSw); go_simp)
                    (try simp only [Act.put, List.setIfInBounds_toArray, List.set_cons_zero, List.set_cons_succ])
                    refine takeD (some 111) (i := 6) (v := .string vl) rfl rfl (by kernel_rfl) (by kernel_rfl) (by kernel_rfl) (fun _ _ _ h => h) (Or.inl ⟨by kernel_rfl, ?_⟩) (by assumption) ?_
                    · (intro w hSw; (try dsimp only at hSw); go_simp)
                    (try simp only [Act.put, List.setIfInBounds_toArray, List.set_cons_zero, List.set_cons_succ])
                    refine wpAnyH_ready (rs := [1, 7]) (by kernel_rfl) (by simp) ?_
                    refine (AllReadyH.cons rfl (fun K hK => ?_) (AllReadyH.cons rfl (fun K hK => ?_) AllReadyH.nil))
                    · go_simp
                      refine hK.out _ _ (by exact ⟨t0, t1⟩) (fun hHeld => ?_)
                      clear hK K
                      refine wpAnyH_ready (rs := [7]) (by kernel_rfl) (by simp) ?_
                      refine (AllReadyH.cons rfl (fun K hK => ?_) AllReadyH.nil)
                      go_simp
                      refine hK.out _ _ (by exact ⟨x0, x1⟩) (fun hHeld => ?_)
                      clear hK K
                      refine wpAnyH_ready (rs := [8]) (by kernel_rfl) (by simp) ?_
                      refine (AllReadyH.cons rfl (fun K hK => ?_) AllReadyH.nil)
                      go_simp
                      refine KC6.mono ?_
                      rintro e w7 ⟨rfl, hb7⟩
                      have z0 := (hb7.cell (p := ⟨wo.heap.size, 0, none⟩) (by dsimp only; omega)).trans x0
                      have z1 := (hb7.cell (p := ⟨wo.heap.size, 1, none⟩) (by dsimp only; omega)).trans x1
                      have z2 := (hb7.cell (p := ⟨w2.heap.size, 2, none⟩) (by dsimp only; omega)).trans x2
                      have zs := hb7.size
                      refine hK.out _ _ (by exact ⟨z0, z1⟩) (fun hHeld => ?_)
                      clear hK K
                      refine takeD (some 114) (i := 9) (v := .string u) rfl rfl (by kernel_rfl) (by kernel_rfl) (by kernel_rfl) (fun _ _ _ h => h) (Or.inl ⟨by kernel_rfl, ?_⟩) (by assumption) ?_
                      · (intro w hSw; (try dsimp only at hSw); go_simp)
                      (try simp only [Act.put, List.setIfInBounds_toArray, List.set_cons_zero, List.set_cons_succ])
                      refine takeD (some 115) (i := 10) (v := .agg #[.string (nm ++ ⟨#[42]⟩), .string u]) rfl rfl (by kernel_rfl) (by kernel_rfl) (by kernel_rfl) (fun _ _ _ h => h) (Or.inl ⟨by kernel_rfl, ?_⟩) (by assumption) ?_
                      · (intro w hSw; (try dsimp only at hSw); go_simp)
                      (try simp only [Act.put, List.setIfInBounds_toArray, List.set_cons_zero, List.set_cons_succ])
                      refine wpAnyH_ready (rs := [11]) (by kernel_rfl) (by simp) ?_
                      refine (AllReadyH.cons rfl (fun K hK => ?_) AllReadyH.nil)
                      go_simp
                      have kv := keep w7 (.cells #[.string (nm ++ ⟨#[42]⟩), .string u] 37)
                      have a0 := (kv.cell (p := ⟨wo.heap.size, 0, none⟩) (by dsimp only; omega)).trans z0
                      have a1 := (kv.cell (p := ⟨wo.heap.size, 1, none⟩) (by dsimp only; omega)).trans z1
                      have a2 := (kv.cell (p := ⟨w2.heap.size, 2, none⟩) (by dsimp only; omega)).trans z2
                      refine hK.out _ _ (by exact ⟨a0, a1⟩) (fun hHeld => ?_)
                      clear hK K
                      refine wpAnyH_ready (rs := [12]) (by kernel_rfl) (by simp) ?_
                      refine (AllReadyH.cons rfl (fun K hK => ?_) AllReadyH.nil)
                      refine step_append_own rfl (.tmp 106) (.tmp 116) 22 rfl (w2.heap.size + 1) 37 j0 (.agg #[.string ⟨#[]⟩, .string ⟨#[]⟩]) 2 32 Tryd.underlying22 hi hj0 hj1 hj2 rfl (by decide) (.slice va2 gs.length vc2) gs.length _ rfl (World.ownsRow.alloc (w := w7) (own_keep HVf.out hb7) _) ⟨w7.heap.size, 0, none⟩ 1 1 [.string (nm ++ ⟨#[42]⟩), .string u] rfl rfl (fun j u hu => cells_new w7 _ 37 j u hu) (by intro u hu; simp at hu; rcases hu with rfl | rfl <;> rfl) ?_ ?_ ?_ ?_
                      · unfold maxLen; omega
                      · omega
                      · (have := hb7.size; simp at this ⊢; omega)
                      intro v8 w8 hown8 hgrow8
                      obtain ⟨u2, g2⟩ := grown_pair2 hgrow8 (heap_keep HOf.out hb7) (i := 2) rfl (ne_own HVf.out (by omega))
                      obtain ⟨xa, xc, rfl⟩ := own_slice hown8
                      have v0 := (grown_pair2 hgrow8 (heap_keep HCf.out hb7) (i := 0) rfl (HNWC.out)).1
                      have v1 := (grown_pair2 hgrow8 (heap_keep HCf.out hb7) (i := 1) rfl (HNWC.out)).1
                      refine hK.out _ _ (by exact ⟨v0, v1⟩) (fun hHeld => ?_)
                      clear hK K
                      refine takeD (some 118) (i := 13) (v := .pointer (some ⟨w2.heap.size, 2, none⟩)) rfl rfl (by kernel_rfl) (by kernel_rfl) (by kernel_rfl) (fun _ _ _ h => h) (Or.inl ⟨by kernel_rfl, ?_⟩) (by assumption) ?_
                      · (intro w hSw; (try dsimp only at hSw); go_simp)
                      (try simp only [Act.put, List.setIfInBounds_toArray, List.set_cons_zero, List.set_cons_succ])
                      refine wpAnyH_ready (rs := [14]) (by kernel_rfl) (by simp) ?_
                      refine (AllReadyH.cons rfl (fun K hK => ?_) AllReadyH.nil)
                      go_simp
                      refine hK.out _ _ (by exact ⟨by rw [World.cell?_setCell_other _ _ _ _ (fun q => by injection q with q1 _ _; omega)]; exact v0, by rw [World.cell?_setCell_other _ _ _ _ (fun q => by injection q with q1 _ _; omega)]; exact v1⟩) (fun hHeld => ?_)
                      clear hK K
                      refine wpAnyH_done (by kernel_rfl) ?_ _
                      have HY8 : Hid _ := heap_other (heap_grown (heap_keep (heap_keep HYf.out hb7) (keep w7 (.cells #[.string (nm ++ ⟨#[42]⟩), .string u] 37))) hgrow8 (ne_own HVf.out (by omega))) (a := ⟨w2.heap.size, 2, none⟩) (by dsimp only; omega) (.slice xa (gs.length + 1) xc)
                      have HX8 : Hid _ := heap_other (heap_grown (heap_keep (heap_keep HXf.out hb7) (keep w7 (.cells #[.string (nm ++ ⟨#[42]⟩), .string u] 37))) hgrow8 (ne_own HVf.out (by omega))) (a := ⟨w2.heap.size, 2, none⟩) (by dsimp only; omega) (.slice xa (gs.length + 1) xc)
                      have HO8 : Hid _ := heap_set (i := 2) (heap_grown (heap_keep (heap_keep HOf.out hb7) (keep w7 (.cells #[.string (nm ++ ⟨#[42]⟩), .string u] 37))) hgrow8 (ne_own HVf.out (by omega))) (.slice xa (gs.length + 1) xc)
                      have HV8 : Hid (OwnF w8 (w2.heap.size + 1) (.slice xa (gs.length + 1) xc) (gs ++ [(nm ++ ⟨#[42]⟩, u)])) := by
                        unfold Hid OwnF; rw [List.length_append, List.flatMap_append]; exact hown8
                      have hbf7 : Below w.heap.size w w7 := HBf.out.trans (hb7.mono HBf.out.size)
                      have HB8 : Hid (Below w.heap.size w w8) := (hbf7.alloc hbf7.size _).grown hgrow8 (by have := hbf7.size; simp; omega) (fun z hz => by have := (HVf.out.lt z hz).1; omega)
                      clear hown8 hgrow8 hbf7 HYf HXf HOf HVf HBf hb7
                      go_wp2
                      go_roundw
                      case rel => exact ⟨m + 1, _, gs ++ [(nm ++ ⟨#[42]⟩, u)], by go_num, by omega, by rw [List.length_append, List.length_singleton]; omega, HY8.out, HX8.out, HO8.out, ownsRow_setCell_below HV8.out (by show w2.heap.size < _; omega) _, HS2, HB8.out.setCell (by show w.heap.size ≤ w2.heap.size; omega) _⟩
                      case measure => simp [intOf]; omega
                    · go_simp
                      refine hK.out _ _ (by exact ⟨x0, x1⟩) (fun hHeld => ?_)
                      clear hK K
                      refine wpAnyH_ready (rs := [1, 8]) (by kernel_rfl) (by simp) ?_
                      refine (AllReadyH.cons rfl (fun K hK => ?_) (AllReadyH.cons rfl (fun K hK => ?_) AllReadyH.nil))
                      · go_simp
                        refine hK.out _ _ (by exact ⟨x0, x1⟩) (fun hHeld => ?_)
                        clear hK K
                        refine wpAnyH_ready (rs := [8]) (by kernel_rfl) (by simp) ?_
                        refine (AllReadyH.cons rfl (fun K hK => ?_) AllReadyH.nil)
                        go_simp
                        refine KC6.mono ?_
                        rintro e w7 ⟨rfl, hb7⟩
                        have z0 := (hb7.cell (p := ⟨wo.heap.size, 0, none⟩) (by dsimp only; omega)).trans x0
                        have z1 := (hb7.cell (p := ⟨wo.heap.size, 1, none⟩) (by dsimp only; omega)).trans x1
                        have z2 := (hb7.cell (p := ⟨w2.heap.size, 2, none⟩) (by dsimp only; omega)).trans x2
                        have zs := hb7.size
                        refine hK.out _ _ (by exact ⟨z0, z1⟩) (fun hHeld => ?_)
                        clear hK K
                        refine takeD (some 114) (i := 9) (v := .string u) rfl rfl (by kernel_rfl) (by kernel_rfl) (by kernel_rfl) (fun _ _ _ h => h) (Or.inl ⟨by kernel_rfl, ?_⟩) (by assumption) ?_
                        · (intro w hSw; (try dsimp only at hSw); go_simp)
                        (try simp only [Act.put, List.setIfInBounds_toArray, List.set_cons_zero, List.set_cons_succ])
                        refine takeD (some 115) (i := 10) (v := .agg #[.string (nm ++ ⟨#[42]⟩), .string u]) rfl rfl (by kernel_rfl) (by kernel_rfl) (by kernel_rfl) (fun _ _ _ h => h) (Or.inl ⟨by kernel_rfl, ?_⟩) (by assumption) ?_
                        · (intro w hSw; (try dsimp only at hSw); go_simp)
                        (try simp only [Act.put, List.setIfInBounds_toArray, List.set_cons_zero, List.set_cons_succ])
                        refine wpAnyH_ready (rs := [11]) (by kernel_rfl) (by simp) ?_
                        refine (AllReadyH.cons rfl (fun K hK => ?_) AllReadyH.nil)
                        go_simp
                        have kv := keep w7 (.cells #[.string (nm ++ ⟨#[42]⟩), .string u] 37)
                        have a0 := (kv.cell (p := ⟨wo.heap.size, 0, none⟩) (by dsimp only; omega)).trans z0
                        have a1 := (kv.cell (p := ⟨wo.heap.size, 1, none⟩) (by dsimp only; omega)).trans z1
                        have a2 := (kv.cell (p := ⟨w2.heap.size, 2, none⟩) (by dsimp only; omega)).trans z2
                        refine hK.out _ _ (by exact ⟨a0, a1⟩) (fun hHeld => ?_)
                        clear hK K
                        refine wpAnyH_ready (rs := [12]) (by kernel_rfl) (by simp) ?_
                        refine (AllReadyH.cons rfl (fun K hK => ?_) AllReadyH.nil)
                        refine step_append_own rfl (.tmp 106) (.tmp 116) 22 rfl (w2.heap.size + 1) 37 j0 (.agg #[.string ⟨#[]⟩, .string ⟨#[]⟩]) 2 32 Tryd.underlying22 hi hj0 hj1 hj2 rfl (by decide) (.slice va2 gs.length vc2) gs.length _ rfl (World.ownsRow.alloc (w := w7) (own_keep HVf.out hb7) _) ⟨w7.heap.size, 0, none⟩ 1 1 [.string (nm ++ ⟨#[42]⟩), .string u] rfl rfl (fun j u hu => cells_new w7 _ 37 j u hu) (by intro u hu; simp at hu; rcases hu with rfl | rfl <;> rfl) ?_ ?_ ?_ ?_
                        · unfold maxLen; omega
                        · omega
                        · (have := hb7.size; simp at this ⊢; omega)
                        intro v8 w8 hown8 hgrow8
                        obtain ⟨u2, g2⟩ := grown_pair2 hgrow8 (heap_keep HOf.out hb7) (i := 2) rfl (ne_own HVf.out (by omega))
                        obtain ⟨xa, xc, rfl⟩ := own_slice hown8
                        have v0 := (grown_pair2 hgrow8 (heap_keep HCf.out hb7) (i := 0) rfl (HNWC.out)).1
                        have v1 := (grown_pair2 hgrow8 (heap_keep HCf.out hb7) (i := 1) rfl (HNWC.out)).1
                        refine hK.out _ _ (by exact ⟨v0, v1⟩) (fun hHeld => ?_)
                        clear hK K
                        refine takeD (some 118) (i := 13) (v := .pointer (some ⟨w2.heap.size, 2, none⟩)) rfl rfl (by kernel_rfl) (by kernel_rfl) (by kernel_rfl) (fun _ _ _ h => h) (Or.inl ⟨by kernel_rfl, ?_⟩) (by assumption) ?_
                        · (intro w hSw; (try dsimp only at hSw); go_simp)
                        (try simp only [Act.put, List.setIfInBounds_toArray, List.set_cons_zero, List.set_cons_succ])
                        refine wpAnyH_ready (rs := [14]) (by kernel_rfl) (by simp) ?_
                        refine (AllReadyH.cons rfl (fun K hK => ?_) AllReadyH.nil)
                        go_simp
                        refine hK.out _ _ (by exact ⟨by rw [World.cell?_setCell_other _ _ _ _ (fun q => by injection q with q1 _ _; omega)]; exact v0, by rw [World.cell?_setCell_other _ _ _ _ (fun q => by injection q with q1 _ _; omega)]; exact v1⟩) (fun hHeld => ?_)
                        clear hK K
                        refine wpAnyH_done (by kernel_rfl) ?_ _
                        have HY8 : Hid _ := heap_other (heap_grown (heap_keep (heap_keep HYf.out hb7) (keep w7 (.cells #[.string (nm ++ ⟨#[42]⟩), .string u] 37))) hgrow8 (ne_own HVf.out (by omega))) (a := ⟨w2.heap.size, 2, none⟩) (by dsimp only; omega) (.slice xa (gs.length + 1) xc)
                        have HX8 : Hid _ := heap_other (heap_grown (heap_keep (heap_keep HXf.out hb7) (keep w7 (.cells #[.string (nm ++ ⟨#[42]⟩), .string u] 37))) hgrow8 (ne_own HVf.out (by omega))) (a := ⟨w2.heap.size, 2, none⟩) (by dsimp only; omega) (.slice xa (gs.length + 1) xc)
                        have HO8 : Hid _ := heap_set (i := 2) (heap_grown (heap_keep (heap_keep HOf.out hb7) (keep w7 (.cells #[.string (nm ++ ⟨#[42]⟩), .string u] 37))) hgrow8 (ne_own HVf.out (by omega))) (.slice xa (gs.length + 1) xc)
                        have HV8 : Hid (OwnF w8 (w2.heap.size + 1) (.slice xa (gs.length + 1) xc) (gs ++ [(nm ++ ⟨#[42]⟩, u)])) := by
                          unfold Hid OwnF; rw [List.length_append, List.flatMap_append]; exact hown8
                        have hbf7 : Below w.heap.size w w7 := HBf.out.trans (hb7.mono HBf.out.size)
                        have HB8 : Hid (Below w.heap.size w w8) := (hbf7.alloc hbf7.size _).grown hgrow8 (by have := hbf7.size; simp; omega) (fun z hz => by have := (HVf.out.lt z hz).1; omega)
                        clear hown8 hgrow8 hbf7 HYf HXf HOf HVf HBf hb7
                        go_wp2
                        go_roundw
                        case rel => exact ⟨m + 1, _, gs ++ [(nm ++ ⟨#[42]⟩, u)], by go_num, by omega, by rw [List.length_append, List.length_singleton]; omega, HY8.out, HX8.out, HO8.out, ownsRow_setCell_below HV8.out (by show w2.heap.size < _; omega) _, HS2, HB8.out.setCell (by show w.heap.size ≤ w2.heap.size; omega) _⟩
                        case measure => simp [intOf]; omega
                      · go_simp
                        refine KC6.mono ?_
                        rintro e w7 ⟨rfl, hb7⟩
                        have z0 := (hb7.cell (p := ⟨wo.heap.size, 0, none⟩) (by dsimp only; omega)).trans x0
                        have z1 := (hb7.cell (p := ⟨wo.heap.size, 1, none⟩) (by dsimp only; omega)).trans x1
                        have z2 := (hb7.cell (p := ⟨w2.heap.size, 2, none⟩) (by dsimp only; omega)).trans x2
                        have zs := hb7.size
                        refine hK.out _ _ (by exact ⟨z0, z1⟩) (fun hHeld => ?_)
                        clear hK K
                        refine takeD (some 114) (i := 9) (v := .string u) rfl rfl (by kernel_rfl) (by kernel_rfl) (by kernel_rfl) (fun _ _ _ h => h) (Or.inl ⟨by kernel_rfl, ?_⟩) (by assumption) ?_
                        · (intro w hSw; (try dsimp only at hSw); go_simp)
                        (try simp only [Act.put, List.setIfInBounds_toArray, List.set_cons_zero, List.set_cons_succ])
                        refine takeD (some 115) (i := 10) (v := .agg #[.string (nm ++ ⟨#[42]⟩), .string u]) rfl rfl (by kernel_rfl) (by kernel_rfl) (by kernel_rfl) (fun _ _ _ h => h) (Or.inl ⟨by kernel_rfl, ?_⟩) (by assumption) ?_
                        · (intro w hSw; (try dsimp only at hSw); go_simp)
                        (try simp only [Act.put, List.setIfInBounds_toArray, List.set_cons_zero, List.set_cons_succ])
                        refine wpAnyH_ready (rs := [1, 11]) (by kernel_rfl) (by simp) ?_
                        refine (AllReadyH.cons rfl (fun K hK => ?_) (AllReadyH.cons rfl (fun K hK => ?_) AllReadyH.nil))
                        · go_simp
                          refine hK.out _ _ (by exact ⟨z0, z1⟩) (fun hHeld => ?_)
                          clear hK K
                          refine wpAnyH_ready (rs := [11]) (by kernel_rfl) (by simp) ?_
                          refine (AllReadyH.cons rfl (fun K hK => ?_) AllReadyH.nil)
                          go_simp
                          have kv := keep w7 (.cells #[.string (nm ++ ⟨#[42]⟩), .string u] 37)
                          have a0 := (kv.cell (p := ⟨wo.heap.size, 0, none⟩) (by dsimp only; omega)).trans z0
                          have a1 := (kv.cell (p := ⟨wo.heap.size, 1, none⟩) (by dsimp only; omega)).trans z1
                          have a2 := (kv.cell (p := ⟨w2.heap.size, 2, none⟩) (by dsimp only; omega)).trans z2
                          refine hK.out _ _ (by exact ⟨a0, a1⟩) (fun hHeld => ?_)
                          clear hK K
                          refine wpAnyH_ready (rs := [12]) (by kernel_rfl) (by simp) ?_
                          refine (AllReadyH.cons rfl (fun K hK => ?_) AllReadyH.nil)
                          refine step_append_own rfl (.tmp 106) (.tmp 116) 22 rfl (w2.heap.size + 1) 37 j0 (.agg #[.string ⟨#[]⟩, .string ⟨#[]⟩]) 2 32 Tryd.underlying22 hi hj0 hj1 hj2 rfl (by decide) (.slice va2 gs.length vc2) gs.length _ rfl (World.ownsRow.alloc (w := w7) (own_keep HVf.out hb7) _) ⟨w7.heap.size, 0, none⟩ 1 1 [.string (nm ++ ⟨#[42]⟩), .string u] rfl rfl (fun j u hu => cells_new w7 _ 37 j u hu) (by intro u hu; simp at hu; rcases hu with rfl | rfl <;> rfl) ?_ ?_ ?_ ?_
                          · unfold maxLen; omega
                          · omega
                          · (have := hb7.size; simp at this ⊢; omega)
                          intro v8 w8 hown8 hgrow8
                          obtain ⟨u2, g2⟩ := grown_pair2 hgrow8 (heap_keep HOf.out hb7) (i := 2) rfl (ne_own HVf.out (by omega))
                          obtain ⟨xa, xc, rfl⟩ := own_slice hown8
                          have v0 := (grown_pair2 hgrow8 (heap_keep HCf.out hb7) (i := 0) rfl (HNWC.out)).1
                          have v1 := (grown_pair2 hgrow8 (heap_keep HCf.out hb7) (i := 1) rfl (HNWC.out)).1
                          refine hK.out _ _ (by exact ⟨v0, v1⟩) (fun hHeld => ?_)
                          clear hK K
                          refine takeD (some 118) (i := 13) (v := .pointer (some ⟨w2.heap.size, 2, none⟩)) rfl rfl (by kernel_rfl) (by kernel_rfl) (by kernel_rfl) (fun _ _ _ h => h) (Or.inl ⟨by kernel_rfl, ?_⟩) (by assumption) ?_
                          · (intro w hSw; (try dsimp only at hSw); go_simp)
                          (try simp only [Act.put, List.setIfInBounds_toArray, List.set_cons_zero, List.set_cons_succ])
                          refine wpAnyH_ready (rs := [14]) (by kernel_rfl) (by simp) ?_
                          refine (AllReadyH.cons rfl (fun K hK => ?_) AllReadyH.nil)
                          go_simp
                          refine hK.out _ _ (by exact ⟨by rw [World.cell?_setCell_other _ _ _ _ (fun q => by injection q with q1 _ _; omega)]; exact v0, by rw [World.cell?_setCell_other _ _ _ _ (fun q => by injection q with q1 _ _; omega)]; exact v1⟩) (fun hHeld => ?_)
                          clear hK K
                          refine wpAnyH_done (by kernel_rfl) ?_ _
                          have HY8 : Hid _ := heap_other (heap_grown (heap_keep (heap_keep HYf.out hb7) (keep w7 (.cells #[.string (nm ++ ⟨#[42]⟩), .string u] 37))) hgrow8 (ne_own HVf.out (by omega))) (a := ⟨w2.heap.size, 2, none⟩) (by dsimp only; omega) (.slice xa (gs.length + 1) xc)
                          have HX8 : Hid _ := heap_other (heap_grown (heap_keep (heap_keep HXf.out hb7) (keep w7 (.cells #[.string (nm ++ ⟨#[42]⟩), .string u] 37))) hgrow8 (ne_own HVf.out (by omega))) (a := ⟨w2.heap.size, 2, none⟩) (by dsimp only; omega) (.slice xa (gs.length + 1) xc)
                          have HO8 : Hid _ := heap_set (i := 2) (heap_grown (heap_keep (heap_keep HOf.out hb7) (keep w7 (.cells #[.string (nm ++ ⟨#[42]⟩), .string u] 37))) hgrow8 (ne_own HVf.out (by omega))) (.slice xa (gs.length + 1) xc)
                          have HV8 : Hid (OwnF w8 (w2.heap.size + 1) (.slice xa (gs.length + 1) xc) (gs ++ [(nm ++ ⟨#[42]⟩, u)])) := by
                            unfold Hid OwnF; rw [List.length_append, List.flatMap_append]; exact hown8
                          have hbf7 : Below w.heap.size w w7 := HBf.out.trans (hb7.mono HBf.out.size)
                          have HB8 : Hid (Below w.heap.size w w8) := (hbf7.alloc hbf7.size _).grown hgrow8 (by have := hbf7.size; simp; omega) (fun z hz => by have := (HVf.out.lt z hz).1; omega)
                          clear hown8 hgrow8 hbf7 HYf HXf HOf HVf HBf hb7
                          go_wp2
                          go_roundw
                          case rel => exact ⟨m + 1, _, gs ++ [(nm ++ ⟨#[42]⟩, u)], by go_num, by omega, by rw [List.length_append, List.length_singleton]; omega, HY8.out, HX8.out, HO8.out, ownsRow_setCell_below HV8.out (by show w2.heap.size < _; omega) _, HS2, HB8.out.setCell (by show w.heap.size ≤ w2.heap.size; omega) _⟩
                          case measure => simp [intOf]; omega
                        · go_simp
                          have kv := keep w7 (.cells #[.string (nm ++ ⟨#[42]⟩), .string u] 37)
                          have a0 := (kv.cell (p := ⟨wo.heap.size, 0, none⟩) (by dsimp only; omega)).trans z0
                          have a1 := (kv.cell (p := ⟨wo.heap.size, 1, none⟩) (by dsimp only; omega)).trans z1
                          have a2 := (kv.cell (p := ⟨w2.heap.size, 2, none⟩) (by dsimp only; omega)).trans z2
                          refine hK.out _ _ (by exact ⟨a0, a1⟩) (fun hHeld => ?_)
                          clear hK K
                          refine wpAnyH_ready (rs := [1]) (by kernel_rfl) (by simp) ?_
                          refine (AllReadyH.cons rfl (fun K hK => ?_) AllReadyH.nil)
                          go_simp
                          refine hK.out _ _ (by exact ⟨a0, a1⟩) (fun hHeld => ?_)
                          clear hK K
                          refine wpAnyH_ready (rs := [12]) (by kernel_rfl) (by simp) ?_
                          refine (AllReadyH.cons rfl (fun K hK => ?_) AllReadyH.nil)
                          refine step_append_own rfl (.tmp 106) (.tmp 116) 22 rfl (w2.heap.size + 1) 37 j0 (.agg #[.string ⟨#[]⟩, .string ⟨#[]⟩]) 2 32 Tryd.underlying22 hi hj0 hj1 hj2 rfl (by decide) (.slice va2 gs.length vc2) gs.length _ rfl (World.ownsRow.alloc (w := w7) (own_keep HVf.out hb7) _) ⟨w7.heap.size, 0, none⟩ 1 1 [.string (nm ++ ⟨#[42]⟩), .string u] rfl rfl (fun j u hu => cells_new w7 _ 37 j u hu) (by intro u hu; simp at hu; rcases hu with rfl | rfl <;> rfl) ?_ ?_ ?_ ?_
                          · unfold maxLen; omega
                          · omega
                          · (have := hb7.size; simp at this ⊢; omega)
                          intro v8 w8 hown8 hgrow8
                          obtain ⟨u2, g2⟩ := grown_pair2 hgrow8 (heap_keep HOf.out hb7) (i := 2) rfl (ne_own HVf.out (by omega))
                          obtain ⟨xa, xc, rfl⟩ := own_slice hown8
                          have v0 := (grown_pair2 hgrow8 (heap_keep HCf.out hb7) (i := 0) rfl (HNWC.out)).1
                          have v1 := (grown_pair2 hgrow8 (heap_keep HCf.out hb7) (i := 1) rfl (HNWC.out)).1
                          refine hK.out _ _ (by exact ⟨v0, v1⟩) (fun hHeld => ?_)
                          clear hK K
                          refine takeD (some 118) (i := 13) (v := .pointer (some ⟨w2.heap.size, 2, none⟩)) rfl rfl (by kernel_rfl) (by kernel_rfl) (by kernel_rfl) (fun _ _ _ h => h) (Or.inl ⟨by kernel_rfl, ?_⟩) (by assumption) ?_
                          · (intro w hSw; (try dsimp only at hSw); go_simp)
                          (try simp only [Act.put, List.setIfInBounds_toArray, List.set_cons_zero, List.set_cons_succ])
                          refine wpAnyH_ready (rs := [14]) (by kernel_rfl) (by simp) ?_
                          refine (AllReadyH.cons rfl (fun K hK => ?_) AllReadyH.nil)
                          go_simp
                          refine hK.out _ _ (by exact ⟨by rw [World.cell?_setCell_other _ _ _ _ (fun q => by injection q with q1 _ _; omega)]; exact v0, by rw [World.cell?_setCell_other _ _ _ _ (fun q => by injection q with q1 _ _; omega)]; exact v1⟩) (fun hHeld => ?_)
                          clear hK K
                          refine wpAnyH_done (by kernel_rfl) ?_ _
                          have HY8 : Hid _ := heap_other (heap_grown (heap_keep (heap_keep HYf.out hb7) (keep w7 (.cells #[.string (nm ++ ⟨#[42]⟩), .string u] 37))) hgrow8 (ne_own HVf.out (by omega))) (a := ⟨w2.heap.size, 2, none⟩) (by dsimp only; omega) (.slice xa (gs.length + 1) xc)
                          have HX8 : Hid _ := heap_other (heap_grown (heap_keep (heap_keep HXf.out hb7) (keep w7 (.cells #[.string (nm ++ ⟨#[42]⟩), .string u] 37))) hgrow8 (ne_own HVf.out (by omega))) (a := ⟨w2.heap.size, 2, none⟩) (by dsimp only; omega) (.slice xa (gs.length + 1) xc)
                          have HO8 : Hid _ := heap_set (i := 2) (heap_grown (heap_keep (heap_keep HOf.out hb7) (keep w7 (.cells #[.string (nm ++ ⟨#[42]⟩), .string u] 37))) hgrow8 (ne_own HVf.out (by omega))) (.slice xa (gs.length + 1) xc)
                          have HV8 : Hid (OwnF w8 (w2.heap.size + 1) (.slice xa (gs.length + 1) xc) (gs ++ [(nm ++ ⟨#[42]⟩, u)])) := by
                            unfold Hid OwnF; rw [List.length_append, List.flatMap_append]; exact hown8
                          have hbf7 : Below w.heap.size w w7 := HBf.out.trans (hb7.mono HBf.out.size)
                          have HB8 : Hid (Below w.heap.size w w8) := (hbf7.alloc hbf7.size _).grown hgrow8 (by have := hbf7.size; simp; omega) (fun z hz => by have := (HVf.out.lt z hz).1; omega)
                          clear hown8 hgrow8 hbf7 HYf HXf HOf HVf HBf hb7
                          go_wp2
                          go_roundw
                          case rel => exact ⟨m + 1, _, gs ++ [(nm ++ ⟨#[42]⟩, u)], by go_num, by omega, by rw [List.length_append, List.length_singleton]; omega, HY8.out, HX8.out, HO8.out, ownsRow_setCell_below HV8.out (by show w2.heap.size < _; omega) _, HS2, HB8.out.setCell (by show w.heap.size ≤ w2.heap.size; omega) _⟩
                          case measure => simp [intOf]; omega
                  · have d53 : decide ((q : Int) ≤ 53) = false := decide_eq_false (by omega)
                    have HON : Hid (o = some (piecesL (nums nm) 0 (chunksZ ps))) := by
                      unfold Hid
                      have hdl := HDL.out
                      rw [← HPO.out]
                      unfold partedZ
                      rw [if_neg HNS.out, if_neg (by rw [nums_len]; exact h60), if_neg (by rw [HQL.out]; exact h53), if_neg (by omega)]
                    have HSE : Hid ((splitZ (qs.drop (m + 1))).map (fun y => (numsP gs ++ piecesL (nums nm) 0 (chunksZ ps)) ++ y) = splitZ qs) := by
                      unfold Hid
                      rw [← HS.out, HST.out, HON.out]
                      cases splitZ (qs.drop (m + 1)) with
                      | none => rfl
                      | some y => simp
                    obtain ⟨nd, hnd⟩ : ∃ nd, ds.length = nd := ⟨_, rfl⟩
                    have HND : Hid (ds.length = nd) := hnd
                    have hchb : Hid (∀ c ∈ chunksZ ps, Byt (codeP c)) := HCB
                    rw [hnd] at h100 d100 ⊢
                    clear HS HST HPO HON HQL HN HNS KCV hap hnd t0 t1 o2
                    go_wp2
                    obtain ⟨db, doff, rfl, hdcell⟩ : ∃ db doff, da = some ⟨db, doff, none⟩ ∧ ∀ i d, ds[i]? = some d → w5.cell? ⟨db, doff + i, none⟩ = some (.string d) := by
                      rcases HDe.out with h | h
                      · have h2 := HDL.out
                        rw [h, chunks_cons HNEE.out] at h2
                        simp at h2
                      · exact h
                    have hdb := HDB.out db doff rfl
                    have HDC : Hid (∀ i d, ds[i]? = some d → w5.cell? ⟨db, doff + i, none⟩ = some (.string d)) := hdcell
                    have hdb1 : wo.heap.size < db := by have := HGZ.out; omega
                    have hdb2 : db < w5.heap.size := by omega
                    have HNB : Hid (∀ z, (Value.slice va2 gs.length vc2).ownBlock = some z → z ≠ wo.heap.size ∧ z ≠ db) := fun z hz => by have := HVLT.out z hz; omega
                    clear HDe hdb hdcell HDB HVLT HNWC HGZ
                    go_loopw [10] (fun i wx => ∃ (j : Nat) (v : Value) (hs : List (ByteArray × ByteArray)), i = .int .i64 j ∧ j ≤ nd ∧ hs.length = gs.length + j ∧ Hid (wx.heap[w.heap.size]? = some (.cells #[.string ty, .string sub, .slice (some ⟨b, off, none⟩) k c] 24)) ∧ Hid (wx.heap[w.heap.size + 1]? = some (.cells #[.string ⟨#[]⟩, .string ⟨#[]⟩, .slice none 0 0] 24)) ∧ Hid (wx.heap[w2.heap.size]? = some (.cells #[.string ty, .string sub, v] 24)) ∧ Hid (wx.heap[wo.heap.size]? = some (.cells #[.string nm, .string vl] 37)) ∧ Hid (OwnF wx (w2.heap.size + 1) v hs) ∧ Hid (∀ z, v.ownBlock = some z → z ≠ wo.heap.size ∧ z ≠ db) ∧ Hid (∀ i d, ds[i]? = some d → wx.cell? ⟨db, doff + i, none⟩ = some (.string d)) ∧ Hid (numsP hs = numsP gs ++ piecesL (nums nm) 0 ((chunksZ ps).take j)) ∧ Hid (Below w.heap.size w wx) ∧ Hid (Below w5.heap.size w5 w5 → w5.heap.size ≤ wx.heap.size)) (fun i _ => nd - (intOf i).toNat)
                    case atStart => exact ⟨0, _, gs, rfl, by omega, rfl, HYe.out, HXe.out, HOe.out, HCe.out, HVe.out, HNB.out, HDC.out, by simp [Hid, piecesL], HBe.out, fun _ => Nat.le_refl _⟩
                    case round =>
                      clear HYe HXe HOe HCe HVe HNB HDC HBe
                      obtain ⟨j, v, hs, rfl, hj, hhl, HYx, HXx, HOx, HCx, HVx, HNBx, HDx, HEx, HBx, HSZ⟩ := hrel
                      have hszx := HSZ.out (Below.refl _ _)
                      have HHL : Hid (hs.length = gs.length + j) := hhl
                      have hh2 : hs.length ≤ 2000 := by omega
                      clear hhl
                      obtain ⟨va3, vc3, rfl, _⟩ := ownF_view HVx.out
                      by_cases hlj : j < nd
                      · obtain ⟨d, hdj⟩ : ∃ d, ds[j]? = some d := ⟨_, List.getElem?_eq_getElem (by have := HND.out; omega)⟩
                        have hdc := HDx.out j d hdj
                        obtain ⟨cj, hcj, hdcj⟩ : ∃ cj, (chunksZ ps)[j]? = some cj ∧ d = strP cj := by
                          have h1 := hdj
                          rw [← HDS.out, List.getElem?_map] at h1
                          cases hc : (chunksZ ps)[j]? with
                          | none => rw [hc] at h1; cases h1
                          | some cj => rw [hc] at h1; simp only [Option.map_some, Option.some.injEq] at h1; exact ⟨cj, rfl, h1.symm⟩
                        have HTJ : Hid ((chunksZ ps).take (j + 1) = (chunksZ ps).take j ++ [cj]) := by unfold Hid; rw [List.take_add_one, hcj]; rfl
                        have HTL : Hid (((chunksZ ps).take j).length = j) := by
                          unfold Hid
                          have h1 := HDL.out
                          have h2 := HND.out
                          rw [List.length_take]; omega
                        have hcb := hchb.out cj (List.mem_of_getElem? hcj)
                        have hnd2 : nums d = codeP cj := by rw [hdcj]; exact nums_str hcb
                        have hj100 : j < 100 := by omega
                        have KN := fun V : World => number_any j V hj100
                        have hsi := size_strM (itoaZ j)
                        have hi2 : (itoaZ j).length ≤ 2 := by unfold itoaZ; split <;> simp
                        have hni : nums (strOfNums (itoaZ j)) = itoaZ j := nums_str (by
                          intro x hx; unfold itoaZ at hx; split at hx <;> simp at hx <;> omega)
                        obtain ⟨it, hit⟩ : ∃ it, strOfNums (itoaZ j) = it := ⟨_, rfl⟩
                        rw [hit] at KN hsi hni
                        have hit2 : it.size ≤ 2 := by omega
                        have HNI : Hid (nums it = itoaZ j) := hni
                        have HND2 : Hid (nums d = codeP cj) := hnd2
                        have hdz : d.size ≤ 45 := by
                          have h45 := chunksF_45 _ _ (List.mem_of_getElem? hcj)
                          rw [← nums_len, hnd2]; exact h45
                        have t0 : wr.cell? ⟨wo.heap.size, 0, none⟩ = some (.string nm) := cell_of HCx.out rfl
                        have y1 : ¬ 9223372036854775807 < nm.size + 1 := by omega
                        have y2 : ¬ 9223372036854775807 ≤ nm.size := by omega
                        have y3 : ¬ 9223372036854775807 < nm.size + 1 + it.size := by omega
                        have y4 : ¬ 9223372036854775807 ≤ nm.size + 1 + it.size := by omega
                        have y5 : ¬ 9223372036854775807 < nm.size + 1 + it.size + 1 := by omega
                        have y6 : (j : Int) < (nd : Int) := by omega
                        have y7 : (0 : Int) ≤ (j : Int) := by omega
                        clear hdj hcj hdcj hcb hnd2 hsi hi2 hni hit
                        go_wp2
                        go_region_held3 (fun V => V.cell? ⟨wo.heap.size, 0, none⟩ = some (.string nm) ∧ V.cell? ⟨db, doff + j, none⟩ = some (.string d)) (refine ⟨?_, ?_⟩ <;> first
                            | assumption | exact t0 | exact hdc
                            | (refine ((keep _ _).cell (by first | (show wo.heap.size < wr.heap.size; omega) | (show db < wr.heap.size; omega) | (dsimp only; omega))).trans ?_; first | assumption | exact t0 | exact hdc)
                            | (rw [World.cell?_setCell_other _ _ _ _ (fun q => by injection q with q1 _ _; omega), World.cell?_setCell_other _ _ _ _ (fun q => by injection q with q1 _ _; omega)]; first | assumption | exact z0 | exact z1)) (first
                          | (go_at_call 27; refine (KN _).mono ?_; rintro e w7 ⟨rfl, hb7⟩; have hs7 := hb7.size; have z0 := (hb7.cell (p := ⟨wo.heap.size, 0, none⟩) (by first | (show wo.heap.size < wr.heap.size; omega) | (simp; omega))).trans (by first | exact t0 | exact ((keep _ _).cell (by show wo.heap.size < wr.heap.size; omega)).trans t0); have z1 := (hb7.cell (p := ⟨db, doff + j, none⟩) (by first | (show db < wr.heap.size; omega) | (simp; omega))).trans (by first | exact hdc | exact ((keep _ _).cell (by show db < wr.heap.size; omega)).trans hdc); have hz7 : wr.heap.size ≤ w7.heap.size := (by first | exact hs7 | (simp at hs7; omega)); first | (have hn7 : w7.heap[wr.heap.size]? = some (.cells #[.string ⟨#[]⟩, .string ⟨#[]⟩] 37) := heap_keep (MapKept.heap_alloc wr.drew _).1 hb7; have n0 : w7.cell? ⟨wr.heap.size, 0, none⟩ = some (.string ⟨#[]⟩) := cell_of hn7 rfl; have n1 : w7.cell? ⟨wr.heap.size, 1, none⟩ = some (.string ⟨#[]⟩) := cell_of hn7 rfl; have m0 : w7.frozen? ⟨wr.heap.size, 0, none⟩ = false := frozen_of hn7; have m1 : w7.frozen? ⟨wr.heap.size, 1, none⟩ = false := frozen_of hn7) | skip))
                        · obtain ⟨W9, hW9⟩ : ∃ W, (w7.alloc (.cells #[.string ((nm ++ ⟨#[42]⟩ : ByteArray) ++ it ++ ⟨#[42]⟩), .string d] 37)) = W := ⟨_, rfl⟩
                          have HG9 : Hid (W9.heap[w7.heap.size]? = some (.cells #[.string ((nm ++ ⟨#[42]⟩ : ByteArray) ++ it ++ ⟨#[42]⟩), .string d] 37)) := by rw [← hW9]; exact (MapKept.heap_alloc w7 _).1
                          have HW9 : Hid (Below wr.heap.size wr W9) := by rw [← hW9]; exact below_dA hb7
                          have hg1 : wr.heap.size ≤ w7.heap.size := hz7
                          have HNBg : Hid (∀ z, (Value.slice va3 hs.length vc3).ownBlock = some z → z ≠ w7.heap.size) := fun z hz => by have := (World.ownsRow.lt HVx.out z hz).2; omega
                          rw [hW9]
                          generalize w7.heap.size = g at *
                          clear hW9 hb7 hs7 z0 z1 hz7
                          have HYz : Hid _ := heap_keep HYx.out HW9.out
                          have HXz : Hid _ := heap_keep HXx.out HW9.out
                          have HOz : Hid _ := heap_keep HOx.out HW9.out
                          have HCz : Hid _ := heap_keep HCx.out HW9.out
                          have HVz : Hid (W9.ownsRow (w2.heap.size + 1) 37 2 (.slice va3 hs.length vc3) hs.length (hs.flatMap cellF)) := own_keep HVx.out HW9.out
                          have HBz : Hid (Below w.heap.size w W9) := HBx.out.trans (HW9.out.mono HBx.out.size)
                          have HDz : Hid (∀ i d', ds[i]? = some d' → W9.cell? ⟨db, doff + i, none⟩ = some (.string d')) := fun i d' hd' => (HW9.out.cell (p := ⟨db, doff + i, none⟩) (by show db < wr.heap.size; omega)).trans (HDx.out i d' hd')
                          have dcz : W9.cell? ⟨db, doff + j, none⟩ = some (.string d) := (HW9.out.cell (p := ⟨db, doff + j, none⟩) (by show db < wr.heap.size; omega)).trans hdc
                          have HS9 : Hid (wr.heap.size ≤ W9.heap.size ∧ g < W9.heap.size) := ⟨HW9.out.size, (Array.getElem?_eq_some_iff.1 HG9.out).1⟩
                          have HNN0 : Hid (nums ((nm ++ ⟨#[42]⟩ : ByteArray) ++ it ++ ⟨#[42]⟩) = nums nm ++ 42 :: (itoaZ j ++ [42])) := by unfold Hid; rw [nums_append, nums_append, nums_append, HNI.out, show nums (⟨#[42]⟩ : ByteArray) = [42] from rfl]; simp
                          obtain ⟨nn, hnn⟩ : ∃ nn, ((nm ++ ⟨#[42]⟩ : ByteArray) ++ it ++ ⟨#[42]⟩) = nn := ⟨_, rfl⟩
                          have HNN : Hid (nums nn = nums nm ++ 42 :: (itoaZ j ++ [42])) := by unfold Hid; rw [← hnn]; exact HNN0.out
                          rw [hnn] at HG9
                          have hwo : w2.heap.size < wr.heap.size := (Array.getElem?_eq_some_iff.1 HOx.out).1
                          have hw9 : wr.heap.size ≤ W9.heap.size := HS9.out.1
                          have z1 : W9.cell? ⟨g, 1, none⟩ = some (.string d) := cell_of HG9.out rfl
                          have f1 : W9.frozen? ⟨g, 1, none⟩ = false := frozen_of HG9.out
                          have z0 : W9.cell? ⟨g, 0, none⟩ = some (.string nn) := cell_of HG9.out rfl
                          clear hnn HNN0 t0 hdc HYx HXx HOx HCx HVx HBx HDx HW9 HSZ
                          by_cases hj0' : j = 0
                          · have e0 : ((j : Int) == 0) = true := by rw [hj0']; rfl
                            obtain ⟨u0, hu0⟩ : ∃ u0, (⟨#[117, 116, 102, 45, 56, 39, 39]⟩ : ByteArray) ++ d = u0 := ⟨_, rfl⟩
                            have HVAL : Hid (nums u0 = hdZ j ++ codeL (Cs.Ut.flat cj)) := by unfold Hid; rw [← hu0, nums_append, HND2.out, hj0']; rfl
                            clear hj0'
                            have HY10 : Hid _ := heap_other HYz.out (a := ⟨g, 1, none⟩) (by dsimp only; omega) (.string u0)
                            have HX10 : Hid _ := heap_other HXz.out (a := ⟨g, 1, none⟩) (by dsimp only; omega) (.string u0)
                            have HO10 : Hid _ := heap_other HOz.out (a := ⟨g, 1, none⟩) (by dsimp only; omega) (.string u0)
                            have HC10 : Hid _ := heap_other HCz.out (a := ⟨g, 1, none⟩) (by dsimp only; omega) (.string u0)
                            have HV10 : Hid ((W9.setCell ⟨g, 1, none⟩ (.string u0)).ownsRow (w2.heap.size + 1) 37 2 (.slice va3 hs.length vc3) hs.length (hs.flatMap cellF)) := ownsRow_setCell_other HVz.out (a := ⟨g, 1, none⟩) (fun q => HNBg.out g q rfl) _
                            have HD10 : Hid (∀ i d', ds[i]? = some d' → (W9.setCell ⟨g, 1, none⟩ (.string u0)).cell? ⟨db, doff + i, none⟩ = some (.string d')) := fun i d' hd' => by rw [World.cell?_setCell_other _ _ _ _ (fun q => by injection q with q1 _ _; omega)]; exact HDz.out i d' hd'
                            have HB10 : Hid (Below w.heap.size w (W9.setCell ⟨g, 1, none⟩ (.string u0))) := HBz.out.setCell (by show w.heap.size ≤ g; omega) _
                            have HG10 : Hid ((W9.setCell ⟨g, 1, none⟩ (.string u0)).heap[g]? = some (.cells #[.string nn, .string u0] 37)) := heap_set (i := 1) HG9.out (.string u0)
                            have HS10 : Hid (wr.heap.size ≤ (W9.setCell ⟨g, 1, none⟩ (.string u0)).heap.size) := by unfold Hid; simpa using hw9
                            have o2 : (W9.setCell ⟨g, 1, none⟩ (.string u0)).cell? ⟨w2.heap.size, 2, none⟩ = some (.slice va3 hs.length vc3) := cell_of HO10.out rfl
                            have k0 : (W9.setCell ⟨g, 1, none⟩ (.string u0)).cell? ⟨g, 0, none⟩ = some (.string nn) := cell_of HG10.out rfl
                            have k1 : (W9.setCell ⟨g, 1, none⟩ (.string u0)).cell? ⟨g, 1, none⟩ = some (.string u0) := cell_of HG10.out rfl
                            clear HYz HXz HOz HCz HVz HDz HBz HG9 HS9
                            go_wp2_with (at_builtin; refine wpList_append_own_at _ rfl _ _ 22 rfl (w2.heap.size + 1) 37 j0 _ 2 32 Tryd.underlying22 hi hj0 hj1 hj2 rfl (by decide) (.slice va3 hs.length vc3) hs.length _ rfl (World.ownsRow.alloc (w := (W9.setCell ⟨g, 1, none⟩ (.string u0))) HV10.out _) ⟨W9.heap.size, 0, none⟩ 1 1 [.string nn, .string u0] rfl rfl ?c2 ?c6 ?c3 ?c4 ?c5 ?_)
                            case c2 =>
                              have := cells_new (W9.setCell ⟨g, 1, none⟩ (.string u0)) [.string nn, .string u0] 37
                              simpa using this
                            case c6 => intro u hu; simp at hu; rcases hu with rfl | rfl <;> rfl
                            case c3 => unfold maxLen; omega
                            case c4 => omega
                            case c5 => simp; omega
                            intro v6 w6 hown6 hgrow6 _ hat6
                            have kv := keep (W9.setCell ⟨g, 1, none⟩ (.string u0)) (.cells #[.string nn, .string u0] 37)
                            have HY6 : Hid _ := heap_grown (heap_keep HY10.out kv) hgrow6 (ne_own HV10.out (by omega))
                            have HX6 : Hid _ := heap_grown (heap_keep HX10.out kv) hgrow6 (ne_own HV10.out (by omega))
                            have HO6 : Hid _ := heap_grown (heap_keep HO10.out kv) hgrow6 (ne_own HV10.out (by omega))
                            have HC6 : Hid _ := heap_grown (heap_keep HC10.out kv) hgrow6 (fun q => (HNBx.out _ q.symm).1 rfl)
                            have HD6 : Hid (∀ i d', ds[i]? = some d' → w6.cell? ⟨db, doff + i, none⟩ = some (.string d')) := fun i d' hd' =>
                              hgrow6.cell ((kv.cell (p := ⟨db, doff + i, none⟩) (by have := HS10.out; show db < ((W9.setCell ⟨g, 1, none⟩ (.string u0))).heap.size; omega)).trans (HD10.out i d' hd')) (fun q => (HNBx.out _ q.symm).2 rfl)
                            have HB6 : Hid (Below w.heap.size w w6) := (HB10.out.alloc HB10.out.size _).grown hgrow6 (by have := HB10.out.size; simp at this ⊢; omega) (fun z hz => by have := (HV10.out.lt z hz).1; omega)
                            have HNB6 : Hid (∀ z, v6.ownBlock = some z → z ≠ wo.heap.size ∧ z ≠ db) := fun z hz => by
                              rcases hat6 with h | h
                              · rw [h] at hz; exact HNBx.out z hz
                              · rw [h] at hz
                                have := HS10.out
                                simp at hz
                                omega
                            have HS6 : Hid (Below w5.heap.size w5 w5 → w5.heap.size ≤ w6.heap.size) := fun _ => by
                              have := hgrow6.size
                              have := HS10.out
                              simp at *
                              omega
                            have HV6 : Hid (OwnF w6 (w2.heap.size + 1) v6 (hs ++ [(nn, u0)])) := by
                              unfold Hid OwnF; rw [List.length_append, List.flatMap_append]; exact hown6
                            have HE6 : Hid (numsP (hs ++ [(nn, u0)]) = numsP gs ++ piecesL (nums nm) 0 ((chunksZ ps).take (j + 1))) := by
                              unfold Hid
                              rw [HTJ.out, piecesL_app, HTL.out, Nat.zero_add]
                              have h1 := HEx.out
                              simp only [numsP, List.map_append] at h1 ⊢
                              rw [h1]
                              simp only [List.map_cons, List.map_nil, piecesL, pieceL, HNN.out, HVAL.out]
                              rw [List.append_assoc]
                            have u2 : w6.cell? ⟨w2.heap.size, 2, none⟩ = some (.slice va3 hs.length vc3) := cell_of HO6.out rfl
                            have g2 : w6.frozen? ⟨w2.heap.size, 2, none⟩ = false := frozen_of HO6.out
                            obtain ⟨xa, xc, rfl⟩ := own_slice hown6
                            clear hown6 hgrow6 kv hat6 HY10 HX10 HO10 HC10 HV10 HD10 HB10 HG10 HS10
                            go_wp2
                            go_roundw
                            case rel => exact ⟨j + 1, _, hs ++ [(nn, u0)], by go_num, by omega, by rw [List.length_append, List.length_singleton, HHL.out]; omega, heap_other HY6.out (by dsimp only; omega) _, heap_other HX6.out (by dsimp only; omega) _, heap_set HO6.out _, heap_other HC6.out (by dsimp only; omega) _, ownsRow_setCell_below HV6.out (by show w2.heap.size < _; omega) _, HNB6.out, (fun i d' hd' => by rw [World.cell?_setCell_other _ _ _ _ (fun q => by injection q with q1 _ _; omega)]; exact HD6.out i d' hd'), HE6.out, HB6.out.setCell (by show w.heap.size ≤ w2.heap.size; omega) _, (fun hh => by have := HS6.out hh; simpa using this)⟩
                            case measure => simp [intOf]; try omega

                          · have e0 : ((j : Int) == 0) = false := by simp; omega
                            have HVAL : Hid (nums d = hdZ j ++ codeL (Cs.Ut.flat cj)) := by unfold Hid; rw [HND2.out]; unfold hdZ; rw [if_neg hj0']; rfl
                            have HS10 : Hid (wr.heap.size ≤ W9.heap.size) := hw9
                            have HY10 := HYz
                            have HX10 := HXz
                            have HO10 := HOz
                            have HC10 := HCz
                            have HV10 := HVz
                            have HD10 := HDz
                            have HB10 := HBz
                            have HG10 := HG9
                            have o2 : W9.cell? ⟨w2.heap.size, 2, none⟩ = some (.slice va3 hs.length vc3) := cell_of HO10.out rfl
                            clear HYz HXz HOz HCz HVz HDz HBz HG9 HS9 f1
                            go_wp2_with (at_builtin; refine wpList_append_own_at _ rfl _ _ 22 rfl (w2.heap.size + 1) 37 j0 _ 2 32 Tryd.underlying22 hi hj0 hj1 hj2 rfl (by decide) (.slice va3 hs.length vc3) hs.length _ rfl (World.ownsRow.alloc (w := W9) HV10.out _) ⟨W9.heap.size, 0, none⟩ 1 1 [.string nn, .string d] rfl rfl ?c2 ?c6 ?c3 ?c4 ?c5 ?_)
                            case c2 =>
                              have := cells_new W9 [.string nn, .string d] 37
                              simpa using this
                            case c6 => intro u hu; simp at hu; rcases hu with rfl | rfl <;> rfl
                            case c3 => unfold maxLen; omega
                            case c4 => omega
                            case c5 => simp; omega
                            intro v6 w6 hown6 hgrow6 _ hat6
                            have kv := keep W9 (.cells #[.string nn, .string d] 37)
                            have HY6 : Hid _ := heap_grown (heap_keep HY10.out kv) hgrow6 (ne_own HV10.out (by omega))
                            have HX6 : Hid _ := heap_grown (heap_keep HX10.out kv) hgrow6 (ne_own HV10.out (by omega))
                            have HO6 : Hid _ := heap_grown (heap_keep HO10.out kv) hgrow6 (ne_own HV10.out (by omega))
                            have HC6 : Hid _ := heap_grown (heap_keep HC10.out kv) hgrow6 (fun q => (HNBx.out _ q.symm).1 rfl)
                            have HD6 : Hid (∀ i d', ds[i]? = some d' → w6.cell? ⟨db, doff + i, none⟩ = some (.string d')) := fun i d' hd' =>
                              hgrow6.cell ((kv.cell (p := ⟨db, doff + i, none⟩) (by have := HS10.out; show db < (W9).heap.size; omega)).trans (HD10.out i d' hd')) (fun q => (HNBx.out _ q.symm).2 rfl)
                            have HB6 : Hid (Below w.heap.size w w6) := (HB10.out.alloc HB10.out.size _).grown hgrow6 (by have := HB10.out.size; simp at this ⊢; omega) (fun z hz => by have := (HV10.out.lt z hz).1; omega)
                            have HNB6 : Hid (∀ z, v6.ownBlock = some z → z ≠ wo.heap.size ∧ z ≠ db) := fun z hz => by
                              rcases hat6 with h | h
                              · rw [h] at hz; exact HNBx.out z hz
                              · rw [h] at hz
                                have := HS10.out
                                simp at hz
                                omega
                            have HS6 : Hid (Below w5.heap.size w5 w5 → w5.heap.size ≤ w6.heap.size) := fun _ => by
                              have := hgrow6.size
                              have := HS10.out
                              simp at *
                              omega
                            have HV6 : Hid (OwnF w6 (w2.heap.size + 1) v6 (hs ++ [(nn, d)])) := by
                              unfold Hid OwnF; rw [List.length_append, List.flatMap_append]; exact hown6
                            have HE6 : Hid (numsP (hs ++ [(nn, d)]) = numsP gs ++ piecesL (nums nm) 0 ((chunksZ ps).take (j + 1))) := by
                              unfold Hid
                              rw [HTJ.out, piecesL_app, HTL.out, Nat.zero_add]
                              have h1 := HEx.out
                              simp only [numsP, List.map_append] at h1 ⊢
                              rw [h1]
                              simp only [List.map_cons, List.map_nil, piecesL, pieceL, HNN.out, HVAL.out]
                              rw [List.append_assoc]
                            have u2 : w6.cell? ⟨w2.heap.size, 2, none⟩ = some (.slice va3 hs.length vc3) := cell_of HO6.out rfl
                            have g2 : w6.frozen? ⟨w2.heap.size, 2, none⟩ = false := frozen_of HO6.out
                            obtain ⟨xa, xc, rfl⟩ := own_slice hown6
                            clear hown6 hgrow6 kv hat6 HY10 HX10 HO10 HC10 HV10 HD10 HB10 HG10 HS10
                            go_wp2
                            go_roundw
                            case rel => exact ⟨j + 1, _, hs ++ [(nn, d)], by go_num, by omega, by rw [List.length_append, List.length_singleton, HHL.out]; omega, heap_other HY6.out (by dsimp only; omega) _, heap_other HX6.out (by dsimp only; omega) _, heap_set HO6.out _, heap_other HC6.out (by dsimp only; omega) _, ownsRow_setCell_below HV6.out (by show w2.heap.size < _; omega) _, HNB6.out, (fun i d' hd' => by rw [World.cell?_setCell_other _ _ _ _ (fun q => by injection q with q1 _ _; omega)]; exact HD6.out i d' hd'), HE6.out, HB6.out.setCell (by show w.heap.size ≤ w2.heap.size; omega) _, (fun hh => by have := HS6.out hh; simpa using this)⟩
                            case measure => simp [intOf]; try omega
                        · obtain ⟨W9, hW9⟩ : ∃ W, ((w7.setCell ⟨wr.heap.size, 0, none⟩ (.string ((nm ++ ⟨#[42]⟩ : ByteArray) ++ it ++ ⟨#[42]⟩))).setCell ⟨wr.heap.size, 1, none⟩ (.string d)) = W := ⟨_, rfl⟩
                          have HG9 : Hid (W9.heap[wr.heap.size]? = some (.cells #[.string ((nm ++ ⟨#[42]⟩ : ByteArray) ++ it ++ ⟨#[42]⟩), .string d] 37)) := by rw [← hW9]; exact heap_set2 hn7 _ _
                          have HW9 : Hid (Below wr.heap.size wr W9) := by rw [← hW9]; exact below_set2 (below_ad hb7) (Nat.le_refl _)
                          rw [hW9]
                          obtain ⟨g, hgg⟩ : ∃ g, wr.heap.size = g := ⟨_, rfl⟩
                          have hg1 : wr.heap.size ≤ g := by omega
                          have HNBg : Hid (∀ z, (Value.slice va3 hs.length vc3).ownBlock = some z → z ≠ g) := fun z hz => by have := (World.ownsRow.lt HVx.out z hz).2; omega
                          rw [hgg] at HG9
                          simp only [hgg]
                          clear hW9 hb7 hs7 z0 z1 hz7 n0 n1 m0 m1 hn7
                          have HYz : Hid _ := heap_keep HYx.out HW9.out
                          have HXz : Hid _ := heap_keep HXx.out HW9.out
                          have HOz : Hid _ := heap_keep HOx.out HW9.out
                          have HCz : Hid _ := heap_keep HCx.out HW9.out
                          have HVz : Hid (W9.ownsRow (w2.heap.size + 1) 37 2 (.slice va3 hs.length vc3) hs.length (hs.flatMap cellF)) := own_keep HVx.out HW9.out
                          have HBz : Hid (Below w.heap.size w W9) := HBx.out.trans (HW9.out.mono HBx.out.size)
                          have HDz : Hid (∀ i d', ds[i]? = some d' → W9.cell? ⟨db, doff + i, none⟩ = some (.string d')) := fun i d' hd' => (HW9.out.cell (p := ⟨db, doff + i, none⟩) (by show db < wr.heap.size; omega)).trans (HDx.out i d' hd')
                          have dcz : W9.cell? ⟨db, doff + j, none⟩ = some (.string d) := (HW9.out.cell (p := ⟨db, doff + j, none⟩) (by show db < wr.heap.size; omega)).trans hdc
                          have HS9 : Hid (wr.heap.size ≤ W9.heap.size ∧ g < W9.heap.size) := ⟨HW9.out.size, (Array.getElem?_eq_some_iff.1 HG9.out).1⟩
                          have HNN0 : Hid (nums ((nm ++ ⟨#[42]⟩ : ByteArray) ++ it ++ ⟨#[42]⟩) = nums nm ++ 42 :: (itoaZ j ++ [42])) := by unfold Hid; rw [nums_append, nums_append, nums_append, HNI.out, show nums (⟨#[42]⟩ : ByteArray) = [42] from rfl]; simp
                          obtain ⟨nn, hnn⟩ : ∃ nn, ((nm ++ ⟨#[42]⟩ : ByteArray) ++ it ++ ⟨#[42]⟩) = nn := ⟨_, rfl⟩
                          have HNN : Hid (nums nn = nums nm ++ 42 :: (itoaZ j ++ [42])) := by unfold Hid; rw [← hnn]; exact HNN0.out
                          rw [hnn] at HG9
                          have hwo : w2.heap.size < wr.heap.size := (Array.getElem?_eq_some_iff.1 HOx.out).1
                          have hw9 : wr.heap.size ≤ W9.heap.size := HS9.out.1
                          have z1 : W9.cell? ⟨g, 1, none⟩ = some (.string d) := cell_of HG9.out rfl
                          have f1 : W9.frozen? ⟨g, 1, none⟩ = false := frozen_of HG9.out
                          have z0 : W9.cell? ⟨g, 0, none⟩ = some (.string nn) := cell_of HG9.out rfl
                          clear hnn HNN0 t0 hdc HYx HXx HOx HCx HVx HBx HDx HW9 HSZ
                          by_cases hj0' : j = 0
                          · have e0 : ((j : Int) == 0) = true := by rw [hj0']; rfl
                            obtain ⟨u0, hu0⟩ : ∃ u0, (⟨#[117, 116, 102, 45, 56, 39, 39]⟩ : ByteArray) ++ d = u0 := ⟨_, rfl⟩
                            have HVAL : Hid (nums u0 = hdZ j ++ codeL (Cs.Ut.flat cj)) := by unfold Hid; rw [← hu0, nums_append, HND2.out, hj0']; rfl
                            clear hj0'
                            have HY10 : Hid _ := heap_other HYz.out (a := ⟨g, 1, none⟩) (by dsimp only; omega) (.string u0)
                            have HX10 : Hid _ := heap_other HXz.out (a := ⟨g, 1, none⟩) (by dsimp only; omega) (.string u0)
                            have HO10 : Hid _ := heap_other HOz.out (a := ⟨g, 1, none⟩) (by dsimp only; omega) (.string u0)
                            have HC10 : Hid _ := heap_other HCz.out (a := ⟨g, 1, none⟩) (by dsimp only; omega) (.string u0)
                            have HV10 : Hid ((W9.setCell ⟨g, 1, none⟩ (.string u0)).ownsRow (w2.heap.size + 1) 37 2 (.slice va3 hs.length vc3) hs.length (hs.flatMap cellF)) := ownsRow_setCell_other HVz.out (a := ⟨g, 1, none⟩) (fun q => HNBg.out g q rfl) _
                            have HD10 : Hid (∀ i d', ds[i]? = some d' → (W9.setCell ⟨g, 1, none⟩ (.string u0)).cell? ⟨db, doff + i, none⟩ = some (.string d')) := fun i d' hd' => by rw [World.cell?_setCell_other _ _ _ _ (fun q => by injection q with q1 _ _; omega)]; exact HDz.out i d' hd'
                            have HB10 : Hid (Below w.heap.size w (W9.setCell ⟨g, 1, none⟩ (.string u0))) := HBz.out.setCell (by show w.heap.size ≤ g; omega) _
                            have HG10 : Hid ((W9.setCell ⟨g, 1, none⟩ (.string u0)).heap[g]? = some (.cells #[.string nn, .string u0] 37)) := heap_set (i := 1) HG9.out (.string u0)
                            have HS10 : Hid (wr.heap.size ≤ (W9.setCell ⟨g, 1, none⟩ (.string u0)).heap.size) := by unfold Hid; simpa using hw9
                            have o2 : (W9.setCell ⟨g, 1, none⟩ (.string u0)).cell? ⟨w2.heap.size, 2, none⟩ = some (.slice va3 hs.length vc3) := cell_of HO10.out rfl
                            have k0 : (W9.setCell ⟨g, 1, none⟩ (.string u0)).cell? ⟨g, 0, none⟩ = some (.string nn) := cell_of HG10.out rfl
                            have k1 : (W9.setCell ⟨g, 1, none⟩ (.string u0)).cell? ⟨g, 1, none⟩ = some (.string u0) := cell_of HG10.out rfl
                            clear HYz HXz HOz HCz HVz HDz HBz HG9 HS9
                            go_wp2_with (at_builtin; refine wpList_append_own_at _ rfl _ _ 22 rfl (w2.heap.size + 1) 37 j0 _ 2 32 Tryd.underlying22 hi hj0 hj1 hj2 rfl (by decide) (.slice va3 hs.length vc3) hs.length _ rfl (World.ownsRow.alloc (w := (W9.setCell ⟨g, 1, none⟩ (.string u0))) HV10.out _) ⟨W9.heap.size, 0, none⟩ 1 1 [.string nn, .string u0] rfl rfl ?c2 ?c6 ?c3 ?c4 ?c5 ?_)
                            case c2 =>
                              have := cells_new (W9.setCell ⟨g, 1, none⟩ (.string u0)) [.string nn, .string u0] 37
                              simpa using this
                            case c6 => intro u hu; simp at hu; rcases hu with rfl | rfl <;> rfl
                            case c3 => unfold maxLen; omega
                            case c4 => omega
                            case c5 => simp; omega
                            intro v6 w6 hown6 hgrow6 _ hat6
                            have kv := keep (W9.setCell ⟨g, 1, none⟩ (.string u0)) (.cells #[.string nn, .string u0] 37)
                            have HY6 : Hid _ := heap_grown (heap_keep HY10.out kv) hgrow6 (ne_own HV10.out (by omega))
                            have HX6 : Hid _ := heap_grown (heap_keep HX10.out kv) hgrow6 (ne_own HV10.out (by omega))
                            have HO6 : Hid _ := heap_grown (heap_keep HO10.out kv) hgrow6 (ne_own HV10.out (by omega))
                            have HC6 : Hid _ := heap_grown (heap_keep HC10.out kv) hgrow6 (fun q => (HNBx.out _ q.symm).1 rfl)
                            have HD6 : Hid (∀ i d', ds[i]? = some d' → w6.cell? ⟨db, doff + i, none⟩ = some (.string d')) := fun i d' hd' =>
                              hgrow6.cell ((kv.cell (p := ⟨db, doff + i, none⟩) (by have := HS10.out; show db < ((W9.setCell ⟨g, 1, none⟩ (.string u0))).heap.size; omega)).trans (HD10.out i d' hd')) (fun q => (HNBx.out _ q.symm).2 rfl)
                            have HB6 : Hid (Below w.heap.size w w6) := (HB10.out.alloc HB10.out.size _).grown hgrow6 (by have := HB10.out.size; simp at this ⊢; omega) (fun z hz => by have := (HV10.out.lt z hz).1; omega)
                            have HNB6 : Hid (∀ z, v6.ownBlock = some z → z ≠ wo.heap.size ∧ z ≠ db) := fun z hz => by
                              rcases hat6 with h | h
                              · rw [h] at hz; exact HNBx.out z hz
                              · rw [h] at hz
                                have := HS10.out
                                simp at hz
                                omega
                            have HS6 : Hid (Below w5.heap.size w5 w5 → w5.heap.size ≤ w6.heap.size) := fun _ => by
                              have := hgrow6.size
                              have := HS10.out
                              simp at *
                              omega
                            have HV6 : Hid (OwnF w6 (w2.heap.size + 1) v6 (hs ++ [(nn, u0)])) := by
                              unfold Hid OwnF; rw [List.length_append, List.flatMap_append]; exact hown6
                            have HE6 : Hid (numsP (hs ++ [(nn, u0)]) = numsP gs ++ piecesL (nums nm) 0 ((chunksZ ps).take (j + 1))) := by
                              unfold Hid
                              rw [HTJ.out, piecesL_app, HTL.out, Nat.zero_add]
                              have h1 := HEx.out
                              simp only [numsP, List.map_append] at h1 ⊢
                              rw [h1]
                              simp only [List.map_cons, List.map_nil, piecesL, pieceL, HNN.out, HVAL.out]
                              rw [List.append_assoc]
                            have u2 : w6.cell? ⟨w2.heap.size, 2, none⟩ = some (.slice va3 hs.length vc3) := cell_of HO6.out rfl
                            have g2 : w6.frozen? ⟨w2.heap.size, 2, none⟩ = false := frozen_of HO6.out
                            obtain ⟨xa, xc, rfl⟩ := own_slice hown6
                            clear hown6 hgrow6 kv hat6 HY10 HX10 HO10 HC10 HV10 HD10 HB10 HG10 HS10
                            go_wp2
                            go_roundw
                            case rel => exact ⟨j + 1, _, hs ++ [(nn, u0)], by go_num, by omega, by rw [List.length_append, List.length_singleton, HHL.out]; omega, heap_other HY6.out (by dsimp only; omega) _, heap_other HX6.out (by dsimp only; omega) _, heap_set HO6.out _, heap_other HC6.out (by dsimp only; omega) _, ownsRow_setCell_below HV6.out (by show w2.heap.size < _; omega) _, HNB6.out, (fun i d' hd' => by rw [World.cell?_setCell_other _ _ _ _ (fun q => by injection q with q1 _ _; omega)]; exact HD6.out i d' hd'), HE6.out, HB6.out.setCell (by show w.heap.size ≤ w2.heap.size; omega) _, (fun hh => by have := HS6.out hh; simpa using this)⟩
                            case measure => simp [intOf]; try omega

                          · have e0 : ((j : Int) == 0) = false := by simp; omega
                            have HVAL : Hid (nums d = hdZ j ++ codeL (Cs.Ut.flat cj)) := by unfold Hid; rw [HND2.out]; unfold hdZ; rw [if_neg hj0']; rfl
                            have HS10 : Hid (wr.heap.size ≤ W9.heap.size) := hw9
                            have HY10 := HYz
                            have HX10 := HXz
                            have HO10 := HOz
                            have HC10 := HCz
                            have HV10 := HVz
                            have HD10 := HDz
                            have HB10 := HBz
                            have HG10 := HG9
                            have o2 : W9.cell? ⟨w2.heap.size, 2, none⟩ = some (.slice va3 hs.length vc3) := cell_of HO10.out rfl
                            clear HYz HXz HOz HCz HVz HDz HBz HG9 HS9 f1
                            go_wp2_with (at_builtin; refine wpList_append_own_at _ rfl _ _ 22 rfl (w2.heap.size + 1) 37 j0 _ 2 32 Tryd.underlying22 hi hj0 hj1 hj2 rfl (by decide) (.slice va3 hs.length vc3) hs.length _ rfl (World.ownsRow.alloc (w := W9) HV10.out _) ⟨W9.heap.size, 0, none⟩ 1 1 [.string nn, .string d] rfl rfl ?c2 ?c6 ?c3 ?c4 ?c5 ?_)
                            case c2 =>
                              have := cells_new W9 [.string nn, .string d] 37
                              simpa using this
                            case c6 => intro u hu; simp at hu; rcases hu with rfl | rfl <;> rfl
                            case c3 => unfold maxLen; omega
                            case c4 => omega
                            case c5 => simp; omega
                            intro v6 w6 hown6 hgrow6 _ hat6
                            have kv := keep W9 (.cells #[.string nn, .string d] 37)
                            have HY6 : Hid _ := heap_grown (heap_keep HY10.out kv) hgrow6 (ne_own HV10.out (by omega))
                            have HX6 : Hid _ := heap_grown (heap_keep HX10.out kv) hgrow6 (ne_own HV10.out (by omega))
                            have HO6 : Hid _ := heap_grown (heap_keep HO10.out kv) hgrow6 (ne_own HV10.out (by omega))
                            have HC6 : Hid _ := heap_grown (heap_keep HC10.out kv) hgrow6 (fun q => (HNBx.out _ q.symm).1 rfl)
                            have HD6 : Hid (∀ i d', ds[i]? = some d' → w6.cell? ⟨db, doff + i, none⟩ = some (.string d')) := fun i d' hd' =>
                              hgrow6.cell ((kv.cell (p := ⟨db, doff + i, none⟩) (by have := HS10.out; show db < (W9).heap.size; omega)).trans (HD10.out i d' hd')) (fun q => (HNBx.out _ q.symm).2 rfl)
                            have HB6 : Hid (Below w.heap.size w w6) := (HB10.out.alloc HB10.out.size _).grown hgrow6 (by have := HB10.out.size; simp at this ⊢; omega) (fun z hz => by have := (HV10.out.lt z hz).1; omega)
                            have HNB6 : Hid (∀ z, v6.ownBlock = some z → z ≠ wo.heap.size ∧ z ≠ db) := fun z hz => by
                              rcases hat6 with h | h
                              · rw [h] at hz; exact HNBx.out z hz
                              · rw [h] at hz
                                have := HS10.out
                                simp at hz
                                omega
                            have HS6 : Hid (Below w5.heap.size w5 w5 → w5.heap.size ≤ w6.heap.size) := fun _ => by
                              have := hgrow6.size
                              have := HS10.out
                              simp at *
                              omega
                            have HV6 : Hid (OwnF w6 (w2.heap.size + 1) v6 (hs ++ [(nn, d)])) := by
                              unfold Hid OwnF; rw [List.length_append, List.flatMap_append]; exact hown6
                            have HE6 : Hid (numsP (hs ++ [(nn, d)]) = numsP gs ++ piecesL (nums nm) 0 ((chunksZ ps).take (j + 1))) := by
                              unfold Hid
                              rw [HTJ.out, piecesL_app, HTL.out, Nat.zero_add]
                              have h1 := HEx.out
                              simp only [numsP, List.map_append] at h1 ⊢
                              rw [h1]
                              simp only [List.map_cons, List.map_nil, piecesL, pieceL, HNN.out, HVAL.out]
                              rw [List.append_assoc]
                            have u2 : w6.cell? ⟨w2.heap.size, 2, none⟩ = some (.slice va3 hs.length vc3) := cell_of HO6.out rfl
                            have g2 : w6.frozen? ⟨w2.heap.size, 2, none⟩ = false := frozen_of HO6.out
                            obtain ⟨xa, xc, rfl⟩ := own_slice hown6
                            clear hown6 hgrow6 kv hat6 HY10 HX10 HO10 HC10 HV10 HD10 HB10 HG10 HS10
                            go_wp2
                            go_roundw
                            case rel => exact ⟨j + 1, _, hs ++ [(nn, d)], by go_num, by omega, by rw [List.length_append, List.length_singleton, HHL.out]; omega, heap_other HY6.out (by dsimp only; omega) _, heap_other HX6.out (by dsimp only; omega) _, heap_set HO6.out _, heap_other HC6.out (by dsimp only; omega) _, ownsRow_setCell_below HV6.out (by show w2.heap.size < _; omega) _, HNB6.out, (fun i d' hd' => by rw [World.cell?_setCell_other _ _ _ _ (fun q => by injection q with q1 _ _; omega)]; exact HD6.out i d' hd'), HE6.out, HB6.out.setCell (by show w.heap.size ≤ w2.heap.size; omega) _, (fun hh => by have := HS6.out hh; simpa using this)⟩
                            case measure => simp [intOf]; try omega
                      · obtain rfl : j = nd := by omega
                        have HS2 : Hid ((splitZ (qs.drop (m + 1))).map (fun y => numsP hs ++ y) = splitZ qs) := by
                          have h1 := HEx.out
                          rw [List.take_of_length_le (by have := HDL.out; have := HND.out; omega)] at h1
                          unfold Hid
                          rw [h1]; exact HSE.out
                        clear HEx HSE
                        go_wp2
                        go_roundw
                        case rel => exact ⟨m + 1, _, hs, by go_num, by omega, by have := HHL.out; omega, HYx.out, HXx.out, HOx.out, HVx.out, HS2, HBx.out⟩
                        case measure => simp [intOf]; omega
          · obtain rfl : m = k := by omega
            have HNN : Hid (splitZ qs = some (numsP gs)) := by
              have := HS.out
              rw [List.drop_of_length_le (by rw [pts_len HQ.out]; omega)] at this
              unfold Hid
              rw [← this, splitZ]; simp
            have c0 : wo.cell? ⟨w.heap.size + 1, 0, none⟩ = some (.string ⟨#[]⟩) := cell_of HX.out rfl
            have c1 : wo.cell? ⟨w.heap.size + 1, 1, none⟩ = some (.string ⟨#[]⟩) := cell_of HX.out rfl
            have c2 : wo.cell? ⟨w.heap.size + 1, 2, none⟩ = some (.slice none 0 0) := cell_of HX.out rfl
            have f0 : wo.frozen? ⟨w.heap.size + 1, 0, none⟩ = false := frozen_of HX.out
            have f1 : wo.frozen? ⟨w.heap.size + 1, 1, none⟩ = false := frozen_of HX.out
            have f2 : wo.frozen? ⟨w.heap.size + 1, 2, none⟩ = false := frozen_of HX.out
            have o0 : wo.cell? ⟨w2.heap.size, 0, none⟩ = some (.string ty) := cell_of HO.out rfl
            have o1 : wo.cell? ⟨w2.heap.size, 1, none⟩ = some (.string sub) := cell_of HO.out rfl
            have o2 : wo.cell? ⟨w2.heap.size, 2, none⟩ = some (.slice va2 gs.length vc2) := cell_of HO.out rfl
            clear HS
            go_wp2
            exact bodyPost_ret (v := .tuple #[.agg #[.string ty, .string sub, .slice va2 gs.length vc2], .int .i64 0]) (by simp [results, Tryd.results11, go_sem, c0, c1, c2]) rfl
              (spX_some HSP.out HQ.out HNN.out (((HB.out.setCell (by simp) _).setCell (by simp) _).setCell (by simp) _) (ownB (by omega) (ownsRow_setCell_below (ownsRow_setCell_below (ownsRow_setCell_below HV.out (by show w.heap.size + 1 < _; omega) _) (by show w.heap.size + 1 < _; omega) _) (by show w.heap.size + 1 < _; omega) _)))
end Go.Proofs.YtfhgkkdbkbbpkaaDoor
