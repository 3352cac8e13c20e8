/-
  Long parameters written: the contract of Split of what may be split.
-/
import Derived.Test.YtfhgkkdbkbbpkaaDoorFf
namespace Go.Proofs.YtfhgkkdbkbbpkaaDoor
open Go.RowKit
set_option linter.unusedVariables false
set_option linter.unusedSimpArgs false

def SpR (ty sub : ByteArray) (o : Option (List (List Int × List Int))) (w : World) (e : Ending) (w' : World) : Prop :=
  (o = none → e = .returned (.tuple #[kindV ⟨#[]⟩ ⟨#[]⟩ none 0 0, .int .i64 3])) ∧ (∀ l, o = some l → ∃ v gs, e = .returned (.tuple #[.agg #[.string ty, .string sub, v], .int .i64 0]) ∧ OwnF w' w.heap.size v gs ∧ numsP gs = l) ∧ Below w.heap.size w w'
theorem spR_none {ty sub : ByteArray} {w w' : World} (hb : Below w.heap.size w w') : SpR ty sub none w (.returned (.tuple #[.agg #[.string ⟨#[]⟩, .string ⟨#[]⟩, .slice none 0 0], .int .i64 3])) w' := ⟨fun _ => rfl, fun l h => (by cases h), hb⟩
theorem spR_some {ty sub : ByteArray} {w w' : World} {l : List (List Int × List Int)} {gs : List (ByteArray × ByteArray)} {v : Value} (hb : Below w.heap.size w w') (ho : OwnF w' w.heap.size v gs) (hg : numsP gs = l) : SpR ty sub (some l) w (.returned (.tuple #[.agg #[.string ty, .string sub, v], .int .i64 0])) w' :=
  ⟨fun h => (by cases h), fun m h => (by cases h; exact ⟨v, gs, rfl, ho, hg⟩), hb⟩
theorem ownF_cells {w : World} {B : Nat} {v : Value} {fs : List (ByteArray × ByteArray)} (h : OwnF w B v fs) (hne : fs ≠ []) : ∃ ad cap, v = .slice (some ad) fs.length cap ∧ ∀ j u, (fs.flatMap cellF)[j]? = some u → w.cell? (ad.add j) = some u := by
  have h0 := h
  rcases h.2 with ⟨rfl, hn⟩ | ⟨g, cap, cur, rfl, hb, hg, hn, hm, hs, ht⟩
  · exact absurd (List.eq_nil_of_length_eq_zero hn) hne
  · exact ⟨⟨g, 0, none⟩, cap, rfl, fun j u hu => h0.cells (g := g) rfl j u hu⟩
theorem cellF_len (fs : List (ByteArray × ByteArray)) : (fs.flatMap cellF).length = fs.length * 2 := by
  induction fs with
  | nil => rfl
  | cons f r ih => rw [List.flatMap_cons, List.length_append, ih]; simp [cellF]; omega
theorem cellF_one (fs : List (ByteArray × ByteArray)) : ∀ u ∈ fs.flatMap cellF, u.oneCell' = true := by
  intro u hu
  obtain ⟨f, _, hf⟩ := List.mem_flatMap.1 hu
  simp [cellF] at hf
  rcases hf with rfl | rfl <;> rfl
set_option maxRecDepth 100000 in
set_option maxHeartbeats 8000000 in
theorem split_ok (ty sub : ByteArray) (a : Option Addr) (n c : Nat) (fs : List (ByteArray × ByteArray)) (qs : List (List Int × List Int)) (w : World) (hn : fs.length = n) (hr : FRow w a fs) (h1 : ty.size ≤ 1000000000) (h2 : sub.size ≤ 1000000000) (hf : ∀ f ∈ fs, f.1.size ≤ 1000000000 ∧ f.2.size ≤ 1000000000)
    (hz : SplitsP ty sub fs) (hq : PtsOf fs qs) :
    Calls Tryd.prog 10 #[kindV ty sub a n c] w (SpR ty sub (splitZ qs) w) := by
  obtain ⟨j0, hi, hj0, hj1, hj2⟩ := info_parts Tryd.info37
  have hn16 : n ≤ 16 := by have := hz.1; omega
  have hfz : ∀ f ∈ fs, f.1.size ≤ 100 ∧ f.2.size ≤ 2048 := fun f hf' => by
    have hm : (nums f.1, nums (⟨#[]⟩ : ByteArray)) ∈ numsP (bareF fs) := List.mem_map.2 ⟨(f.1, ⟨#[]⟩), List.mem_map.2 ⟨f, hf', rfl⟩, rfl⟩
    have := name_len (rightL_mem (rightZ_parts hz.2.2).2.2.2 _ hm).1
    rw [nums_len] at this
    exact ⟨by omega, (hz.2.1 f hf').1⟩
  have K : ∀ V, Below w.heap.size w V → Calls Tryd.prog 21 #[kindV ty sub a n c] V fun e w' => e = .returned (.bool true) ∧ Below V.heap.size V w' := fun V hV => by
    refine (splits_any ty sub a n c fs V hn (hr.below hV) h1 h2 hf (by omega)).mono ?_
    rintro e w' ⟨b, rfl, hb, h⟩
    exact ⟨by rw [hb.2 hz], h⟩
  have HR : Hid (FRow w a fs) := hr
  have HF : Hid (∀ f ∈ fs, f.1.size ≤ 100 ∧ f.2.size ≤ 2048) := hfz
  have HQ : Hid (PtsOf fs qs) := hq
  clear hr hf hz hfz hq
  unfold kindV at K ⊢
  go_enter Tryd.func10, Tryd.ntmps10
  go_wp2_with fail
  refine (K _ ((keep w _).alloc (by simp) _)).mono ?_
  rintro e w1 ⟨rfl, hb1⟩
  have hs1 := hb1.size
  have hX : ((w.alloc (.cells #[.string ty, .string sub, .slice a n c] 24)).alloc (.cells #[.string ⟨#[]⟩, .string ⟨#[]⟩, .slice none 0 0] 24)).heap[w.heap.size + 1]? = some (.cells #[.string ⟨#[]⟩, .string ⟨#[]⟩, .slice none 0 0] 24) := by
    have := (MapKept.heap_alloc (w.alloc (.cells #[.string ty, .string sub, .slice a n c] 24)) (.cells #[.string ⟨#[]⟩, .string ⟨#[]⟩, .slice none 0 0] 24)).1
    simpa using this
  have hY : ((w.alloc (.cells #[.string ty, .string sub, .slice a n c] 24)).alloc (.cells #[.string ⟨#[]⟩, .string ⟨#[]⟩, .slice none 0 0] 24)).heap[w.heap.size]? = some (.cells #[.string ty, .string sub, .slice a n c] 24) := by
    rw [(MapKept.heap_alloc _ _).2 _ (by simp)]
    exact (MapKept.heap_alloc w _).1
  have s1 : w.heap.size + 2 ≤ w1.heap.size := by simp at hs1; omega
  have HB1 : Hid (Below w.heap.size w w1) := ((keep w _).alloc (by simp) _).trans (hb1.mono (by simp; omega))
  have hY1 : w1.heap[w.heap.size]? = some (.cells #[.string ty, .string sub, .slice a n c] 24) := by rw [hb1.block _ (by simp; omega)]; exact hY
  have hX1 : w1.heap[w.heap.size + 1]? = some (.cells #[.string ⟨#[]⟩, .string ⟨#[]⟩, .slice none 0 0] 24) := by rw [hb1.block _ (by simp)]; exact hX
  have b0 : w1.cell? ⟨w.heap.size, 0, none⟩ = some (.string ty) := cell_of hY1 rfl
  have b1 : w1.cell? ⟨w.heap.size, 1, none⟩ = some (.string sub) := cell_of hY1 rfl
  have k1 := keep w1 (.cells #[.string ty, .string sub, .slice none 0 0] 24)
  have HY2 : Hid ((w1.alloc (.cells #[.string ty, .string sub, .slice none 0 0] 24)).heap[w.heap.size]? = some (.cells #[.string ty, .string sub, .slice a n c] 24)) := heap_keep hY1 k1
  have HX2 : Hid ((w1.alloc (.cells #[.string ty, .string sub, .slice none 0 0] 24)).heap[w.heap.size + 1]? = some (.cells #[.string ⟨#[]⟩, .string ⟨#[]⟩, .slice none 0 0] 24)) := heap_keep hX1 k1
  have HO2 : Hid ((w1.alloc (.cells #[.string ty, .string sub, .slice none 0 0] 24)).heap[w1.heap.size]? = some (.cells #[.string ty, .string sub, .slice none 0 0] 24)) := (MapKept.heap_alloc w1 _).1
  have HB2 : Hid (Below w.heap.size w (w1.alloc (.cells #[.string ty, .string sub, .slice none 0 0] 24))) := HB1.out.alloc (by omega) _
  have b2 : (w1.alloc (.cells #[.string ty, .string sub, .slice none 0 0] 24)).cell? ⟨w.heap.size, 2, none⟩ = some (.slice a n c) := cell_of HY2.out rfl
  clear hX hY hb1 K hY1 hX1 k1
  go_wp2
  go_loopw [21] (fun i wr => ∃ (k : Nat) (v : Value) (gs : List (ByteArray × ByteArray)), i = .int .i64 k ∧ k ≤ n ∧ gs.length ≤ 100 * k ∧ Hid (wr.heap[w.heap.size]? = some (.cells #[.string ty, .string sub, .slice a n c] 24)) ∧ Hid (wr.heap[w.heap.size + 1]? = some (.cells #[.string ⟨#[]⟩, .string ⟨#[]⟩, .slice none 0 0] 24)) ∧ Hid (wr.heap[w1.heap.size]? = some (.cells #[.string ty, .string sub, v] 24)) ∧ Hid (OwnF wr (w1.heap.size + 1) v gs) ∧ Hid ((splitZ (qs.drop k)).map (fun y => numsP gs ++ y) = splitZ qs) ∧ Hid (Below w.heap.size w wr)) (fun i _ => n - (intOf i).toNat)
  case atStart => exact ⟨0, _, [], rfl, by omega, by simp, HY2.out, HX2.out, HO2.out, World.ownsRow_nil _ _ _ _, (by unfold Hid; rw [List.drop_zero]; cases splitZ qs <;> simp [numsP]), HB2.out⟩
  case round =>
    clear HY2 HX2 HO2 HB2 HB1 b0 b1 b2
    obtain ⟨k, v, gs, rfl, hk, hgl, HY, HX, HO, HV, HS, HB⟩ := hrel
    have hso : w1.heap.size < wr.heap.size := (Array.getElem?_eq_some_iff.1 HO.out).1
    have hrw := HR.out.below HB.out
    by_cases hlt : k < n
    · obtain ⟨f, hfk⟩ : ∃ f, fs[k]? = some f := ⟨_, List.getElem?_eq_getElem (by omega)⟩
      have hfz := HF.out f (List.mem_of_getElem? hfk)
      obtain ⟨ps, hdr, hps, hvf⟩ := pts_at HQ.out hfk
      obtain ⟨nm, vl⟩ := f
      obtain ⟨hz1, hz2⟩ := hfz
      rcases hrw with h | ⟨b, off, rfl, h⟩
      · rw [h] at hn; simp at hn; omega
      obtain ⟨hc1, hc2⟩ := h k _ hfk
      clear h hfk
      simp only at hc1 hc2 hz1 hz2 hdr hvf
      obtain ⟨o, ho⟩ : ∃ o, partedZ (nums nm) ps = o := ⟨_, rfl⟩
      have HST : Hid (splitZ (qs.drop k) = o.bind fun x => (splitZ (qs.drop (k + 1))).map fun y => x ++ y) := by unfold Hid; rw [hdr, splitZ, ho]
      have KP : ∀ V, Calls Tryd.prog 22 #[.agg #[.string nm, .string vl]] V (PartA V o) := fun V => by
        have := parted_any nm vl ps V hps hvf hz1 hz2
        rw [ho] at this
        exact this
      have hol : ∀ l, o = some l → l.length ≤ 100 := fun l h => parted_len (ho.trans h)
      obtain ⟨va, vc, rfl, _⟩ := ownF_view HV.out
      have hgz : (wr.alloc (.cells #[.string nm, .string vl] 37)).heap.size = wr.heap.size + 1 := by simp
      have kw := keep wr (.cells #[.string nm, .string vl] 37)
      clear hdr hps hvf ho
      go_wp2_with fail
      refine (KP _).mono ?_
      rintro e w3 ⟨hP1, hP2, hb3⟩
      have hbw : Below wr.heap.size wr w3 := kw.trans (hb3.mono (by simp))
      have HY3 : Hid (w3.heap[w.heap.size]? = some (.cells #[.string ty, .string sub, .slice (some ⟨b, off, none⟩) n c] 24)) := heap_keep HY.out hbw
      have HX3 : Hid (w3.heap[w.heap.size + 1]? = some (.cells #[.string ⟨#[]⟩, .string ⟨#[]⟩, .slice none 0 0] 24)) := heap_keep HX.out hbw
      have HO3 : Hid (w3.heap[w1.heap.size]? = some (.cells #[.string ty, .string sub, .slice va gs.length vc] 24)) := heap_keep HO.out hbw
      have HV3 : Hid (w3.ownsRow (w1.heap.size + 1) 37 2 (.slice va gs.length vc) gs.length (gs.flatMap cellF)) := own_keep HV.out hbw
      have HB3 : Hid (Below w.heap.size w w3) := HB.out.trans (hbw.mono HB.out.size)
      have hs3 := hbw.size
      clear KP kw hgz hbw HY HX HO HV HB
      cases o with
      | none =>
        rw [hP1 rfl]
        have HN : Hid (splitZ qs = none) := by unfold Hid; rw [← HS.out, HST.out]; rfl
        have c0 : w3.cell? ⟨w.heap.size + 1, 0, none⟩ = some (.string ⟨#[]⟩) := cell_of HX3.out rfl
        have c1 : w3.cell? ⟨w.heap.size + 1, 1, none⟩ = some (.string ⟨#[]⟩) := cell_of HX3.out rfl
        have c2 : w3.cell? ⟨w.heap.size + 1, 2, none⟩ = some (.slice none 0 0) := cell_of HX3.out rfl
        have f0 : w3.frozen? ⟨w.heap.size + 1, 0, none⟩ = false := frozen_of HX3.out
        have f1 : w3.frozen? ⟨w.heap.size + 1, 1, none⟩ = false := frozen_of HX3.out
        have f2 : w3.frozen? ⟨w.heap.size + 1, 2, none⟩ = false := frozen_of HX3.out
        clear hP1 hP2 HS HST hb3
        go_wp2
        rw [HN.out]
        exact bodyPost_ret (v := .tuple #[.agg #[.string ⟨#[]⟩, .string ⟨#[]⟩, .slice none 0 0], .int .i64 3]) (by simp [results, Tryd.results10, go_sem, c0, c1, c2]) rfl
          (spR_none (((HB3.out.setCell (by simp) _).setCell (by simp) _).setCell (by simp) _))
      | some l =>
        obtain ⟨v3, ls, rfl, hown3, hls, hlne⟩ := hP2 l rfl
        have hll : ls.length ≤ 100 := by have := hol l rfl; rw [← hls] at this; simpa [numsP] using this
        have hlnn : ls ≠ [] := by rintro rfl; exact hlne (by rw [← hls]; rfl)
        obtain ⟨ad, cap3, rfl, hcells⟩ := ownF_cells hown3 hlnn
        have o2 : w3.cell? ⟨w1.heap.size, 2, none⟩ = some (.slice va gs.length vc) := cell_of HO3.out rfl
        have HS2 : Hid ((splitZ (qs.drop (k + 1))).map (fun y => numsP (gs ++ ls) ++ y) = splitZ qs) := by
          unfold Hid
          rw [← HS.out, HST.out]
          cases splitZ (qs.drop (k + 1)) with
          | none => rfl
          | some y => simp [numsP, ← hls]
        have HLC : Hid (∀ j u, (ls.flatMap cellF)[j]? = some u → w3.cell? (ad.add j) = some u) := hcells
        clear hP1 hP2 HS HST hb3 hls hlne hown3 hcells hol
        go_wp2_with (at_builtin; refine wpList_append_own _ rfl _ _ 22 rfl (w1.heap.size + 1) 37 j0 _ 2 32 Tryd.underlying22 hi hj0 hj1 hj2 rfl (by decide) (.slice va gs.length vc) gs.length (gs.flatMap cellF) rfl HV3.out ad ls.length cap3 (ls.flatMap cellF) rfl (cellF_len ls) HLC.out (cellF_one ls) ?c3 ?c4 ?c5 ?_)
        case c3 => unfold maxLen; omega
        case c4 => omega
        case c5 => omega
        intro v' w5 hown5 hgrow5 _
        have HY5 : Hid (w5.heap[w.heap.size]? = some (.cells #[.string ty, .string sub, .slice (some ⟨b, off, none⟩) n c] 24)) := heap_grown HY3.out hgrow5 (ne_own HV3.out (by omega))
        have HX5 : Hid (w5.heap[w.heap.size + 1]? = some (.cells #[.string ⟨#[]⟩, .string ⟨#[]⟩, .slice none 0 0] 24)) := heap_grown HX3.out hgrow5 (ne_own HV3.out (by omega))
        have HO5 : Hid (w5.heap[w1.heap.size]? = some (.cells #[.string ty, .string sub, .slice va gs.length vc] 24)) := heap_grown HO3.out hgrow5 (ne_own HV3.out (by omega))
        have HB5 : Hid (Below w.heap.size w w5) := HB3.out.grown hgrow5 (by omega) (fun z hz => by have := (HV3.out.lt z hz).1; omega)
        have HV5 : Hid (OwnF w5 (w1.heap.size + 1) v' (gs ++ ls)) := by
          unfold Hid OwnF; rw [List.length_append, List.flatMap_append]; exact hown5
        have u2 : w5.cell? ⟨w1.heap.size, 2, none⟩ = some (.slice va gs.length vc) := cell_of HO5.out rfl
        have g2 : w5.frozen? ⟨w1.heap.size, 2, none⟩ = false := frozen_of HO5.out
        obtain ⟨xa, xc, hv', _⟩ := ownF_view HV5.out
        rw [List.length_append] at hv'
        subst hv'
        clear hown5 hgrow5 HY3 HX3 HO3 HV3 HB3 o2 HLC
        go_wp2
        go_roundw
        case rel => exact ⟨k + 1, _, gs ++ ls, by go_num, by omega, by rw [List.length_append]; omega, heap_other HY5.out (by dsimp only; omega) _, heap_other HX5.out (by dsimp only; omega) _, heap_set HO5.out _, ownsRow_setCell_below HV5.out (by show w1.heap.size < _; omega) _, HS2, HB5.out.setCell (by show w.heap.size ≤ w1.heap.size; omega) _⟩
        case measure => simp [intOf]; omega
    · obtain rfl : k = n := by omega
      have HN : Hid (splitZ qs = some (numsP gs)) := by
        have := HS.out
        rw [List.drop_of_length_le (by rw [pts_len HQ.out]; omega)] at this
        unfold Hid
        rw [← this, splitZ]; simp
      have c0 : wr.cell? ⟨w.heap.size + 1, 0, none⟩ = some (.string ⟨#[]⟩) := cell_of HX.out rfl
      have c1 : wr.cell? ⟨w.heap.size + 1, 1, none⟩ = some (.string ⟨#[]⟩) := cell_of HX.out rfl
      have c2 : wr.cell? ⟨w.heap.size + 1, 2, none⟩ = some (.slice none 0 0) := cell_of HX.out rfl
      have f0 : wr.frozen? ⟨w.heap.size + 1, 0, none⟩ = false := frozen_of HX.out
      have f1 : wr.frozen? ⟨w.heap.size + 1, 1, none⟩ = false := frozen_of HX.out
      have f2 : wr.frozen? ⟨w.heap.size + 1, 2, none⟩ = false := frozen_of HX.out
      have o0 : wr.cell? ⟨w1.heap.size, 0, none⟩ = some (.string ty) := cell_of HO.out rfl
      have o1 : wr.cell? ⟨w1.heap.size, 1, none⟩ = some (.string sub) := cell_of HO.out rfl
      have o2 : wr.cell? ⟨w1.heap.size, 2, none⟩ = some v := cell_of HO.out rfl
      obtain ⟨va, vc, rfl, _⟩ := ownF_view HV.out
      clear HS
      go_wp2
      rw [HN.out]
      exact bodyPost_ret (v := .tuple #[.agg #[.string ty, .string sub, .slice va gs.length vc], .int .i64 0]) (by simp [results, Tryd.results10, go_sem, c0, c1, c2]) rfl
        (spR_some (((HB.out.setCell (by simp) _).setCell (by simp) _).setCell (by simp) _) (ownB (by omega) (ownsRow_setCell_below (ownsRow_setCell_below (ownsRow_setCell_below HV.out (by show w.heap.size + 1 < _; omega) _) (by show w.heap.size + 1 < _; omega) _) (by show w.heap.size + 1 < _; omega) _)) rfl)
end Go.Proofs.YtfhgkkdbkbbpkaaDoor
