/-
  May a kind be split: the contract of splits.
-/
import Derived.Test.YtfhgkkdbkbbpkaaDoorFd
import Derived.Test.YtfhgkkdbkbbpkaaDoorCUValid
namespace Go.Proofs.YtfhgkkdbkbbpkaaDoor
open Go.RowKit
set_option linter.unusedVariables false
set_option linter.unusedSimpArgs false

def bareF (fs : List (ByteArray × ByteArray)) : List (ByteArray × ByteArray) := fs.map fun f => (f.1, ⟨#[]⟩)
def GoodV (s : ByteArray) : Prop := s.size ≤ 2048 ∧ ∃ ps, Cs.Ut.AllPt ps ∧ nums s = Cs.Ut.flat ps
def SplitsP (ty sub : ByteArray) (fs : List (ByteArray × ByteArray)) : Prop :=
  fs.length ≤ 16 ∧ (∀ f ∈ fs, GoodV f.2) ∧ rightZ (nums ty) (nums sub) (numsP (bareF fs)) = true
theorem bareF_app (fs gs : List (ByteArray × ByteArray)) : bareF (fs ++ gs) = bareF fs ++ bareF gs := by simp [bareF]
theorem below_up {w wr w' : World} (h : Below w.heap.size w wr) (g : Below wr.heap.size wr w') : Below w.heap.size wr w' := g.mono h.size
def SpA (ty sub : ByteArray) (fs : List (ByteArray × ByteArray)) (w : World) (e : Ending) (w' : World) : Prop :=
  ∃ b : Bool, e = .returned (.bool b) ∧ (b = true ↔ SplitsP ty sub fs) ∧ Below w.heap.size w w'
theorem spA_no {ty sub : ByteArray} {fs : List (ByteArray × ByteArray)} {w w' : World} (h : ¬ SplitsP ty sub fs) (hb : Below w.heap.size w w') : SpA ty sub fs w (.returned (.bool false)) w' :=
  ⟨false, rfl, ⟨fun q => (by cases q), fun q => absurd q h⟩, hb⟩
set_option maxRecDepth 100000 in
set_option maxHeartbeats 8000000 in
theorem splits_any (ty sub : ByteArray) (a : Option Addr) (n c : Nat) (fs : List (ByteArray × ByteArray)) (w : World) (hn : fs.length = n) (hr : FRow w a fs) (h1 : ty.size ≤ 1000000000) (h2 : sub.size ≤ 1000000000) (hf : ∀ f ∈ fs, f.1.size ≤ 1000000000 ∧ f.2.size ≤ 1000000000) (hbig : n ≤ 1000000000) :
    Calls Tryd.prog 21 #[kindV ty sub a n c] w (SpA ty sub fs w) := by
  obtain ⟨j0, hi, hj0, hj1, hj2⟩ := info_parts Tryd.info37
  have HR : Hid (FRow w a fs) := hr
  have HF : Hid (∀ f ∈ fs, f.1.size ≤ 1000000000 ∧ f.2.size ≤ 1000000000) := hf
  have kb := keep w (.cells #[.string ty, .string sub, .slice a n c] 24)
  have HT : Hid (∀ (V : World) (va : Option Addr) (vc : Nat), FRow V va (bareF fs) → Calls Tryd.prog 17 #[.agg #[.string ty, .string sub, .slice va n vc]] V fun e w' => e = .returned (.bool (rightZ (nums ty) (nums sub) (numsP (bareF fs)))) ∧ Below V.heap.size V w') := fun V va vc h =>
    right_any ty sub va n vc (bareF fs) V (by simp [bareF, hn]) h h1 h2 (by
      intro f hf'
      obtain ⟨g, hg, rfl⟩ := List.mem_map.1 hf'
      exact ⟨(hf g hg).1, Nat.zero_le _⟩)
  clear hr hf
  unfold kindV
  go_enter Tryd.func21, Tryd.ntmps21
  by_cases h16 : 16 < n
  · have d1 : decide ((n : Int) > 16) = true := decide_eq_true (by omega)
    go_wp2
    go_ret
    exact spA_no (fun h => by have := h.1; omega) kb
  · have d1 : decide ((n : Int) > 16) = false := decide_eq_false (by omega)
    have hY : ((w.alloc (.cells #[.string ty, .string sub, .slice a n c] 24)).alloc (.cells #[.string ty, .string sub, .slice none 0 0] 24)).heap[w.heap.size]? = some (.cells #[.string ty, .string sub, .slice a n c] 24) := by
      rw [(MapKept.heap_alloc _ _).2 _ (by simp)]
      exact (MapKept.heap_alloc w _).1
    have hX : ((w.alloc (.cells #[.string ty, .string sub, .slice a n c] 24)).alloc (.cells #[.string ty, .string sub, .slice none 0 0] 24)).heap[w.heap.size + 1]? = some (.cells #[.string ty, .string sub, .slice none 0 0] 24) := by
      have := (MapKept.heap_alloc (w.alloc (.cells #[.string ty, .string sub, .slice a n c] 24)) (.cells #[.string ty, .string sub, .slice none 0 0] 24)).1
      simpa using this
    have HB1 : Hid (Below w.heap.size w ((w.alloc (.cells #[.string ty, .string sub, .slice a n c] 24)).alloc (.cells #[.string ty, .string sub, .slice none 0 0] 24))) := kb.alloc (by simp) _
    go_wp2
    go_loopw [18] (fun i wr => ∃ (k : Nat) (v : Value), i = .int .i64 k ∧ k ≤ n ∧ Hid (wr.heap[w.heap.size]? = some (.cells #[.string ty, .string sub, .slice a n c] 24)) ∧ Hid (wr.heap[w.heap.size + 1]? = some (.cells #[.string ty, .string sub, v] 24)) ∧ Hid (OwnF wr (w.heap.size + 2) v (bareF (fs.take k))) ∧ Hid (∀ f ∈ fs.take k, GoodV f.2) ∧ Hid (Below w.heap.size w wr)) (fun i _ => n - (intOf i).toNat)
    case atStart => exact ⟨0, _, rfl, by omega, hY, hX, World.ownsRow_nil _ _ _ _, (by unfold Hid; simp), HB1.out⟩
    case round =>
      clear HB1 hX hY kb
      obtain ⟨k, v, rfl, hk, HY, HX, HO, HG, HB⟩ := hrel
      have hso : w.heap.size + 1 < wr.heap.size := (Array.getElem?_eq_some_iff.1 HX.out).1
      have hlt' : (bareF (fs.take k)).length = k := by unfold bareF; rw [List.length_map, List.length_take]; omega
      obtain ⟨va, vc, rfl, hva⟩ := ownF_view HO.out
      rw [hlt'] at HX HO
      by_cases hlt : k < n
      · obtain ⟨f, hfk⟩ : ∃ f, fs[k]? = some f := ⟨_, List.getElem?_eq_getElem (by omega)⟩
        have hmem := List.mem_of_getElem? hfk
        have HTK : Hid (fs.take (k + 1) = fs.take k ++ [f]) := by unfold Hid; rw [List.take_add_one, hfk]; rfl
        have hfz := HF.out f hmem
        obtain ⟨nm, vl⟩ := f
        obtain ⟨hz1, hz2⟩ := hfz
        rcases HR.out.below HB.out with h | ⟨b, off, rfl, h⟩
        · rw [h] at hn; simp at hn; omega
        obtain ⟨hc1, hc2⟩ := h k _ hfk
        clear h hfk hva
        simp only at hc1 hc2 hz1 hz2
        by_cases h2048 : 2048 < vl.size
        · have d2 : decide ((vl.size : Int) > 2048) = true := decide_eq_true (by omega)
          have HNO : Hid (¬ SplitsP ty sub fs) := fun h => by have := (h.2.1 _ hmem).1; simp only at this; omega
          clear HTK hmem
          go_wp2
          go_ret
          exact spA_no HNO.out (HB.out.trans (below_up HB.out (keep wr _)))
        · have d2 : decide ((vl.size : Int) > 2048) = false := decide_eq_false (by omega)
          obtain ⟨ps, r, hps, hsp, hr⟩ := Cs.Ut.split_ex (nums vl) (nums_byt vl)
          obtain ⟨cap, w4, kc, hcap, hmx, hrow, hb4, hfz4⟩ := conv_bytes vl (wr.alloc (.cells #[.string nm, .string vl] 37)) (by unfold maxLen; omega)
          have hgz : (wr.alloc (.cells #[.string nm, .string vl] 37)).heap.size = wr.heap.size + 1 := by simp
          have hbv := nums_byt vl
          have hlv := nums_len vl
          have p0 : w4.cell? ⟨wr.heap.size, 0, none⟩ = some (.string nm) := by rw [hb4.cell (p := ⟨wr.heap.size, 0, none⟩) (by simp)]; rw [World.cell?_alloc_mark]; rfl
          rw [hsp] at hrow hbv hlv
          have KV : Calls Tryd.prog 42 #[.slice (some ⟨wr.heap.size + 1, 0, none⟩) vl.size cap] w4 fun e w' => e = .returned (.bool r.isEmpty) ∧ w4 = w' := by
            rw [hgz] at hrow
            exact Cs.Ut.valid_any _ _ _ ps r w4 hlv hps hr (fun x hx => hbv x (by simp [hx])) hcap (by unfold maxLen; omega) hrow
          have hs4 := hb4.size
          have hbw : Below wr.heap.size wr w4 := (keep wr _).trans (hb4.mono (by simp))
          rw [hgz] at kc hs4
          clear hrow hbv hlv hfz4 hgz hb4
          cases hre : r with
          | cons x y =>
            have HNO : Hid (¬ SplitsP ty sub fs) := fun h => by
              obtain ⟨qs, hq1, hq2⟩ := (h.2.1 _ hmem).2
              simp only at hq2
              have := (Cs.Ut.split_one hps hq1 hr (by rfl) (by rw [← hsp, hq2, List.append_nil] : Cs.Ut.flat ps ++ r = Cs.Ut.flat qs ++ [])).2
              rw [this] at hre; cases hre
            rw [hre] at KV
            clear HTK hmem hps hsp hr
            go_wp2_with (go_at_call 42; refine KV.mono ?_; rintro e w5 ⟨rfl, rfl⟩)
            go_ret
            exact spA_no HNO.out (HB.out.trans (below_up HB.out hbw))
          | nil =>
            subst hre
            have HG2 : Hid (∀ f ∈ fs.take (k + 1), GoodV f.2) := by
              unfold Hid
              rw [HTK.out]
              intro f hf
              rcases List.mem_append.1 hf with h | h
              · exact HG.out f h
              · simp at h; subst h
                exact ⟨by show vl.size ≤ 2048; omega, ps, hps, by show nums vl = _; rw [hsp, List.append_nil]⟩
            have HY4 := heap_keep HY.out hbw
            have HX4 := heap_keep HX.out hbw
            have HO4 : Hid (w4.ownsRow (w.heap.size + 2) 37 2 (.slice va k vc) k ((bareF (fs.take k)).flatMap cellF)) := by
              have := own_keep HO.out hbw
              rw [hlt'] at this
              exact this
            have HB4 : Hid (Below w.heap.size w w4) := HB.out.trans (below_up HB.out hbw)
            have o2 : w4.cell? ⟨w.heap.size + 1, 2, none⟩ = some (.slice va k vc) := cell_of HX4 rfl
            have HY5 : Hid (w4.heap[w.heap.size]? = some (.cells #[.string ty, .string sub, .slice (some ⟨b, off, none⟩) n c] 24)) := HY4
            have HX5 : Hid (w4.heap[w.heap.size + 1]? = some (.cells #[.string ty, .string sub, .slice va k vc] 24)) := HX4
            clear HY HX HO HG HB HY4 HX4 hbw hps hsp hr hmem
            go_wp2_with (first
              | (go_at_call 42; refine KV.mono ?_; rintro e w5 ⟨rfl, rfl⟩)
              | (at_builtin; refine wpList_append_own _ rfl _ _ 22 rfl (w.heap.size + 2) 37 j0 _ 2 32 Tryd.underlying22 hi hj0 hj1 hj2 rfl (by decide) (.slice va k vc) k _ rfl (World.ownsRow.alloc (w := w4) HO4.out _) ⟨w4.heap.size, 0, none⟩ 1 1 [.string nm, .string ⟨#[]⟩] rfl rfl ?c2 ?c6 ?c3 ?c4 ?c5 ?_))
            case c2 =>
              have := cells_new w4 [.string nm, .string ⟨#[]⟩] 37
              simpa using this
            case c6 => intro u hu; simp at hu; rcases hu with rfl | rfl <;> rfl
            case c3 => unfold maxLen; omega
            case c4 => omega
            case c5 => simp; omega
            intro v' w5 hown5 hgrow5 _
            have kv := keep w4 (.cells #[.string nm, .string ⟨#[]⟩] 37)
            have HY6 : Hid (w5.heap[w.heap.size]? = some (.cells #[.string ty, .string sub, .slice (some ⟨b, off, none⟩) n c] 24)) := heap_grown (heap_keep HY5.out kv) hgrow5 (ne_own HO4.out (by omega))
            have HX6 : Hid (w5.heap[w.heap.size + 1]? = some (.cells #[.string ty, .string sub, .slice va k vc] 24)) := heap_grown (heap_keep HX5.out kv) hgrow5 (ne_own HO4.out (by omega))
            have HB5 : Hid (Below w.heap.size w w5) := (HB4.out.alloc (by omega) _).grown hgrow5 (by simp; omega) (fun z hz => by have := (HO4.out.lt z hz).1; omega)
            have hlk : (bareF (fs.take (k + 1))).length = k + 1 := by unfold bareF; rw [List.length_map, List.length_take]; omega
            have HO5 : Hid (OwnF w5 (w.heap.size + 2) v' (bareF (fs.take (k + 1)))) := by
              unfold Hid OwnF
              rw [hlk, HTK.out, bareF_app, List.flatMap_append]; exact hown5
            have u2 : w5.cell? ⟨w.heap.size + 1, 2, none⟩ = some (.slice va k vc) := cell_of HX6.out rfl
            have g2 : w5.frozen? ⟨w.heap.size + 1, 2, none⟩ = false := frozen_of HX6.out
            obtain ⟨xa, xc, hv', _⟩ := ownF_view HO5.out
            rw [hlk] at hv'
            subst hv'
            clear hown5 hgrow5 kv HY5 HX5 HO4 HB4 o2 p0 hlk
            go_wp2
            go_roundw
            case rel => exact ⟨k + 1, _, by go_num, by omega, heap_other HY6.out (by dsimp only; omega) _, heap_set HX6.out _, ownsRow_setCell_below HO5.out (by show w.heap.size + 1 < _; omega) _, HG2.out, HB5.out.setCell (by show w.heap.size ≤ w.heap.size + 1; omega) _⟩
            case measure => simp [intOf]; omega
      · obtain rfl : k = n := by omega
        have HTF : Hid (fs.take k = fs) := List.take_of_length_le (by omega)
        have o0 : wr.cell? ⟨w.heap.size + 1, 0, none⟩ = some (.string ty) := cell_of HX.out rfl
        have o1 : wr.cell? ⟨w.heap.size + 1, 1, none⟩ = some (.string sub) := cell_of HX.out rfl
        have o2 : wr.cell? ⟨w.heap.size + 1, 2, none⟩ = some (.slice va k vc) := cell_of HX.out rfl
        rw [HTF.out] at hva
        have K := HT.out wr va vc hva
        have HGG : Hid (∀ f ∈ fs, GoodV f.2) := by have := HG.out; rw [HTF.out] at this; exact this
        obtain ⟨z, hzz⟩ : ∃ z, rightZ (nums ty) (nums sub) (numsP (bareF fs)) = z := ⟨_, rfl⟩
        have HZ : Hid (rightZ (nums ty) (nums sub) (numsP (bareF fs)) = z) := hzz
        rw [hzz] at K
        clear hzz hva HTF HG HT
        go_wp2_with (go_at_call 17; refine K.mono ?_; rintro e w5 ⟨rfl, hb5⟩)
        go_ret
        exact ⟨z, rfl, ⟨fun h => ⟨by omega, HGG.out, by rw [HZ.out, h]⟩, fun h => by rw [← HZ.out, h.2.2]⟩, HB.out.trans (below_up HB.out hb5)⟩
end Go.Proofs.YtfhgkkdbkbbpkaaDoor
