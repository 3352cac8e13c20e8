/-
  For every two addresses: the normal form is one for letters of all sizes, and is the normal form of what it says; no condition but what the row lists.
-/
import Derived.Test.YtedbgjpjipblcaaDoorCards
import Derived.Test.YtedbgjpjipblcaaDoorTie
import Derived.Test.YtedbgjpjipblcaaDoorNmath
import Derived.Deep.RegionHeld3
import Derived.WalkKit
import Derived.ProofKit
import Derived.OpenShut
import Derived.ShutString
import Derived.ChangeOld
import Derived.Below
import Derived.LaidMore
import Derived.Lay
import Derived.SevenTiedAt
import Derived.Stop.Joined
namespace Go.Proofs.YtedbgjpjipblcaaDoor.addrNormal
open Go.ChangeShapes Go.WideShapes Go.ChangeAt Go.RowKit
open Go.ChangeMaps (open_string shut_string)
set_option linter.unusedVariables false

theorem norm_ans {n l d : ByteArray} (h1 : n.size ≤ 100000000) (h2 : l.size ≤ 100000000) (h3 : d.size ≤ 100000000) (hr : rightZ (nums n) (nums l) (nums d) = true) : ∃ x, (∀ V, Calls Tryd.prog 15 #[.agg #[.string n, .string l, .string d]] V fun e w' => e = .returned (.string x) ∧ Below V.heap.size V w') ∧ nums x = normL (nums l) (nums d) := by
  have hd : Byt (64 :: nums d) := by
    intro x hx
    rcases List.mem_cons.1 hx with rfl | hx
    · omega
    · exact nums_byt d x hx
  have hb : Byt (normL (nums l) (nums d)) := map_small_byt ((nums_byt l).append hd)
  refine ⟨strOfNums (normL (nums l) (nums d)), fun V => ?_, nums_str hb⟩
  refine (normal_any n l d V h1 h2 h3).mono ?_
  rintro e w' ⟨x, rfl, hbb, hna⟩
  obtain rfl : x = strOfNums (normL (nums l) (nums d)) := nums_inj ((hna.1 hr).trans (nums_str hb).symm)
  exact ⟨rfl, hbb⟩
theorem low_ans (s : ByteArray) (hs : s.size ≤ 100000000) : ∃ x, (∀ V, Calls Tryd.prog 16 #[.string s] V fun e w' => e = .returned (.string x) ∧ Below V.heap.size V w') ∧ nums x = (nums s).map smallZ :=
  ⟨_, fun V => lower_any s V hs, nums_str (map_small_byt (nums_byt s))⟩
theorem ne_list {s t : ByteArray} (h : nums s ≠ nums t) : ¬ s.toList = t.toList ∧ (s.toList == t.toList) = false := by
  have := eq_nums s t
  rw [decide_eq_false h] at this
  exact ⟨by simpa using this, this⟩
set_option maxHeartbeats 8000000 in
set_option maxRecDepth 100000 in
theorem walk (n l d n2 l2 d2 : ByteArray) (w : World) (ha : IsA n l d) (hb : IsA n2 l2 d2) :
    Calls Tryd.prog 5 #[.agg #[.string n, .string l, .string d], .agg #[.string n2, .string l2, .string d2]] w fun e w' => e = .returned (.bool true) ∧ Below w.heap.size w w' := by
  obtain ⟨z1, z2, z3⟩ := ha
  obtain ⟨z4, z5, z6⟩ := hb
  have HA0 : Hid (AAt ((w.alloc (.cells #[.string n, .string l, .string d] 24)).alloc (.cells #[.string n2, .string l2, .string d2] 24)) w.heap.size n l d) := (aat_new w n l d).below (keep _ _)
  have HA20 : Hid (AAt ((w.alloc (.cells #[.string n, .string l, .string d] 24)).alloc (.cells #[.string n2, .string l2, .string d2] 24)) (w.heap.size + 1) n2 l2 d2) := by
    have := aat_new (w.alloc (.cells #[.string n, .string l, .string d] 24)) n2 l2 d2
    rwa [show (w.alloc (.cells #[.string n, .string l, .string d] 24)).heap.size = w.heap.size + 1 from by simp] at this
  have HB0 : Hid (Below w.heap.size w ((w.alloc (.cells #[.string n, .string l, .string d] 24)).alloc (.cells #[.string n2, .string l2, .string d2] 24))) := (keep w _).alloc (by simp) _
  have hlong := fun V => long_any n l d V z1 z2 z3
  have hlong2 := fun V => long_any n2 l2 d2 V z4 z5 z6
  unfold addrV at hlong hlong2
  go_enter Tryd.func5, Tryd.ntmps5
  go_wp2_with fail
  generalize ((w.alloc (.cells #[.string n, .string l, .string d] 24)).alloc (.cells #[.string n2, .string l2, .string d2] 24)) = W0 at HA0 HA20 HB0 ⊢
  refine (hlong _).mono ?_
  rintro e w1 ⟨rfl, hb1⟩
  have HA1 : Hid (AAt w1 w.heap.size n l d) := HA0.out.below hb1
  have HA21 : Hid (AAt w1 (w.heap.size + 1) n2 l2 d2) := HA20.out.below hb1
  have HB1 : Hid (Below w.heap.size w w1) := HB0.out.trans (hb1.mono HB0.out.size)
  clear hb1 HA0 HA20 HB0 hlong
  cases hq1 : (decide (1000 < n.size + l.size) || decide (1000 < d.size)) with
  | true =>
    go_wp2_with (go_at_call 7; refine (alive_any _).mono ?_; rintro e w2 ⟨rfl, hb2⟩)
    go_ret
    exact ⟨rfl, HB1.out.trans (hb2.mono HB1.out.size)⟩
  | false =>
  obtain ⟨_, x3, x4, x5⟩ := HA21.out
  go_wp2_with fail
  refine (hlong2 _).mono ?_
  rintro e w2 ⟨rfl, hb2⟩
  have HA2 : Hid (AAt w2 w.heap.size n l d) := HA1.out.below hb2
  have HA22 : Hid (AAt w2 (w.heap.size + 1) n2 l2 d2) := HA21.out.below hb2
  have HB2 : Hid (Below w.heap.size w w2) := HB1.out.trans (hb2.mono HB1.out.size)
  clear hb2 HA1 HA21 HB1 hlong2 x3 x4 x5
  cases hq2 : (decide (1000 < n2.size + l2.size) || decide (1000 < d2.size)) with
  | true =>
    go_wp2_with (go_at_call 7; refine (alive_any _).mono ?_; rintro e w3 ⟨rfl, hb3⟩)
    go_ret
    exact ⟨rfl, HB2.out.trans (hb3.mono HB2.out.size)⟩
  | false =>
  simp only [Bool.or_eq_false_iff, decide_eq_false_iff_not] at hq1 hq2
  have hri := fun V => right_any n l d V (by omega) (by omega) (by omega)
  have hri2 := fun V => right_any n2 l2 d2 V (by omega) (by omega) (by omega)
  unfold addrV at hri hri2
  obtain ⟨_, x0, x1, x2⟩ := HA2.out
  go_wp2_with fail
  refine (hri _).mono ?_
  rintro e w3 ⟨rfl, hb3⟩
  have HA3 : Hid (AAt w3 w.heap.size n l d) := HA2.out.below hb3
  have HA23 : Hid (AAt w3 (w.heap.size + 1) n2 l2 d2) := HA22.out.below hb3
  have HB3 : Hid (Below w.heap.size w w3) := HB2.out.trans (hb3.mono HB2.out.size)
  clear hb3 HA2 HA22 HB2 hri x0 x1 x2
  cases hr1 : rightZ (nums n) (nums l) (nums d) with
  | false =>
    go_wp2_with (go_at_call 7; refine (alive_any _).mono ?_; rintro e w4 ⟨rfl, hb4⟩)
    go_ret
    exact ⟨rfl, HB3.out.trans (hb4.mono HB3.out.size)⟩
  | true =>
  obtain ⟨_, x3, x4, x5⟩ := HA23.out
  go_wp2_with fail
  refine (hri2 _).mono ?_
  rintro e W ⟨rfl, hb4⟩
  have HA : Hid (AAt W w.heap.size n l d) := HA3.out.below hb4
  have HA2 : Hid (AAt W (w.heap.size + 1) n2 l2 d2) := HA23.out.below hb4
  have HB : Hid (Below w.heap.size w W) := HB3.out.trans (hb4.mono HB3.out.size)
  clear hb4 HA3 HA23 HB3 hri2 x3 x4 x5
  cases hr2 : rightZ (nums n2) (nums l2) (nums d2) with
  | false =>
    go_wp2_with (go_at_call 7; refine (alive_any _).mono ?_; rintro e w5 ⟨rfl, hb5⟩)
    go_ret
    exact ⟨rfl, HB.out.trans (hb5.mono HB.out.size)⟩
  | true =>
  have HR1 : Hid (rightZ (nums n) (nums l) (nums d) = true) := hr1
  obtain ⟨xa, hn1, hxa⟩ := norm_ans (n := n) (l := l) (d := d) (by omega) (by omega) (by omega) hr1
  obtain ⟨xb, hn2, hxb⟩ := norm_ans (n := n2) (l := l2) (d := d2) (by omega) (by omega) (by omega) hr2
  obtain ⟨la, hl1, hla⟩ := low_ans l (by omega)
  obtain ⟨lb, hl2, hlb⟩ := low_ans l2 (by omega)
  obtain ⟨da, hd1, hda⟩ := low_ans d (by omega)
  obtain ⟨db, hd2, hdb⟩ := low_ans d2 (by omega)
  have HXA : Hid (nums xa = normL (nums l) (nums d)) := hxa
  have hxz : xa.size ≤ 10000 := by rw [← nums_len, hxa, norm_eq]; simp [nums_len]; omega
  have hinj := norm_inj hr1 hr2
  rw [← hxa, ← hxb, ← hla, ← hlb, ← hda, ← hdb] at hinj
  obtain ⟨_, x0, x1, x2⟩ := HA.out
  obtain ⟨_, x3, x4, x5⟩ := HA2.out
  clear hr1 hr2 hxa hxb hla hlb hda hdb
  by_cases hL : nums la = nums lb
  · obtain rfl := nums_inj hL
    by_cases hD : nums da = nums db
    · obtain rfl := nums_inj hD
      obtain rfl := nums_inj (hinj.2 ⟨rfl, rfl⟩)
      clear hinj hL hD
      go_wp2_with fail
      refine wp_region_held_drew (S := (fun V => Below W.heap.size W V ∧ V.cell? ⟨w.heap.size, 0, none⟩ = some (.string n) ∧ V.cell? ⟨w.heap.size, 1, none⟩ = some (.string l) ∧ V.cell? ⟨w.heap.size, 2, none⟩ = some (.string d) ∧ V.cell? ⟨w.heap.size + 1, 0, none⟩ = some (.string n2) ∧ V.cell? ⟨w.heap.size + 1, 1, none⟩ = some (.string l2) ∧ V.cell? ⟨w.heap.size + 1, 2, none⟩ = some (.string d2))) (by kernel_rfl) (by (refine ⟨?_, ?_, ?_, ?_, ?_, ?_, ?_⟩ <;> first | assumption | exact below_drew (Below.refl _ _) | simp [*])) (fun hHeld => ?_)
      refine takeD (some 27) (i := 0) (v := .agg #[.string n, .string l, .string d]) rfl rfl (by kernel_rfl) (by kernel_rfl) (by kernel_rfl) (fun _ _ _ h => h) (Or.inl ⟨by kernel_rfl, ?_⟩) (by assumption) ?_
      · (intro w hSw; (try dsimp only at hSw); go_simp)
      (try simp only [Act.put, List.setIfInBounds_toArray, List.set_cons_zero, List.set_cons_succ])
      refine takeD (some 29) (i := 2) (v := .agg #[.string n2, .string l2, .string d2]) rfl rfl (by kernel_rfl) (by kernel_rfl) (by kernel_rfl) (fun _ _ _ h => h) (Or.inl ⟨by kernel_rfl, ?_⟩) (by assumption) ?_
      · (intro w hSw; (try dsimp only at hSw); go_simp)
      (try simp only [Act.put, List.setIfInBounds_toArray, List.set_cons_zero, List.set_cons_succ])
      refine wpAnyH_ready (rs := [1]) (by kernel_rfl) (by simp) ?_
      refine AllReadyH.cons rfl (fun K hK => ?_) AllReadyH.nil
      go_simp
      refine (hn1 _).mono ?_
      rintro e v1 ⟨rfl, hb1⟩
      have hV1 : Below W.heap.size W v1 := hHeld.1.trans (hb1.mono hHeld.1.size)
      have hS0 := cell_keep hV1 x0
      have hS1 := cell_keep hV1 x1
      have hS2 := cell_keep hV1 x2
      have hS3 := cell_keep hV1 x3
      have hS4 := cell_keep hV1 x4
      have hS5 := cell_keep hV1 x5
      clear hb1
      refine hK.out _ _ (by (refine ⟨?_, ?_, ?_, ?_, ?_, ?_, ?_⟩ <;> first | assumption | exact below_drew (Below.refl _ _) | simp [*])) (fun hHeld => ?_)
      clear hK K
      refine wpAnyH_ready (rs := [3]) (by kernel_rfl) (by simp) ?_
      refine AllReadyH.cons rfl (fun K hK => ?_) AllReadyH.nil
      go_simp
      refine (hn2 _).mono ?_
      rintro e v2 ⟨rfl, hb2⟩
      have hV2 : Below W.heap.size W v2 := hHeld.1.trans (hb2.mono hHeld.1.size)
      have hS0 := cell_keep hV2 x0
      have hS1 := cell_keep hV2 x1
      have hS2 := cell_keep hV2 x2
      have hS3 := cell_keep hV2 x3
      have hS4 := cell_keep hV2 x4
      have hS5 := cell_keep hV2 x5
      clear hb2
      refine hK.out _ _ (by (refine ⟨?_, ?_, ?_, ?_, ?_, ?_, ?_⟩ <;> first | assumption | exact below_drew (Below.refl _ _) | simp [*])) (fun hHeld => ?_)
      clear hK K
      refine takeD (some 5) (i := 4) (v := .string xa) rfl rfl (by kernel_rfl) (by kernel_rfl) (by kernel_rfl) (fun _ _ _ h => h) (Or.inl ⟨by kernel_rfl, ?_⟩) (by assumption) ?_
      · (intro w hSw; (try dsimp only at hSw); go_simp)
      (try simp only [Act.put, List.setIfInBounds_toArray, List.set_cons_zero, List.set_cons_succ])
      refine takeD (some 6) (i := 5) (v := .string xa) rfl rfl (by kernel_rfl) (by kernel_rfl) (by kernel_rfl) (fun _ _ _ h => h) (Or.inl ⟨by kernel_rfl, ?_⟩) (by assumption) ?_
      · (intro w hSw; (try dsimp only at hSw); go_simp)
      (try simp only [Act.put, List.setIfInBounds_toArray, List.set_cons_zero, List.set_cons_succ])
      refine wpAnyH_done (by kernel_rfl) ?_ _
      have HBX : Hid (Below w.heap.size w v2) := HB.out.trans (hV2.mono HB.out.size)
      have HAX : Hid (AAt v2 w.heap.size n l d) := HA.out.below hV2
      have HAY : Hid (AAt v2 (w.heap.size + 1) n2 l2 d2) := HA2.out.below hV2
      clear hV1 hV2 hS0 hS1 hS2 hS3 hS4 hS5 x0 x1 x2 x3 x4 x5
      obtain ⟨_, x0, x1, x2⟩ := HAX.out
      obtain ⟨_, x3, x4, x5⟩ := HAY.out
      clear HA HA2 HB
      go_wp2_with fail
      generalize v2 = W at HBX HAX HAY x0 x1 x2 x3 x4 x5 ⊢
      clear hHeld
      refine wp_region_held_drew (S := (fun V => Below W.heap.size W V ∧ V.cell? ⟨w.heap.size, 0, none⟩ = some (.string n) ∧ V.cell? ⟨w.heap.size, 1, none⟩ = some (.string l) ∧ V.cell? ⟨w.heap.size, 2, none⟩ = some (.string d) ∧ V.cell? ⟨w.heap.size + 1, 0, none⟩ = some (.string n2) ∧ V.cell? ⟨w.heap.size + 1, 1, none⟩ = some (.string l2) ∧ V.cell? ⟨w.heap.size + 1, 2, none⟩ = some (.string d2))) (by kernel_rfl) (by (refine ⟨?_, ?_, ?_, ?_, ?_, ?_, ?_⟩ <;> first | assumption | exact below_drew (Below.refl _ _) | simp [*])) (fun hHeld => ?_)
      refine takeD (some 31) (i := 0) (v := .pointer (some ⟨w.heap.size, 1, none⟩)) rfl rfl (by kernel_rfl) (by kernel_rfl) (by kernel_rfl) (fun _ _ _ h => h) (Or.inl ⟨by kernel_rfl, ?_⟩) (by assumption) ?_
      · (intro w hSw; (try dsimp only at hSw); go_simp)
      (try simp only [Act.put, List.setIfInBounds_toArray, List.set_cons_zero, List.set_cons_succ])
      refine takeD (some 32) (i := 1) (v := .string l) rfl rfl (by kernel_rfl) (by kernel_rfl) (by kernel_rfl) (fun _ _ _ h => h) (Or.inl ⟨by kernel_rfl, ?_⟩) (by assumption) ?_
      · (intro w hSw; (try dsimp only at hSw); go_simp)
      (try simp only [Act.put, List.setIfInBounds_toArray, List.set_cons_zero, List.set_cons_succ])
      refine takeD (some 34) (i := 3) (v := .pointer (some ⟨w.heap.size + 1, 1, none⟩)) rfl rfl (by kernel_rfl) (by kernel_rfl) (by kernel_rfl) (fun _ _ _ h => h) (Or.inl ⟨by kernel_rfl, ?_⟩) (by assumption) ?_
      · (intro w hSw; (try dsimp only at hSw); go_simp)
      (try simp only [Act.put, List.setIfInBounds_toArray, List.set_cons_zero, List.set_cons_succ])
      refine takeD (some 35) (i := 4) (v := .string l2) rfl rfl (by kernel_rfl) (by kernel_rfl) (by kernel_rfl) (fun _ _ _ h => h) (Or.inl ⟨by kernel_rfl, ?_⟩) (by assumption) ?_
      · (intro w hSw; (try dsimp only at hSw); go_simp)
      (try simp only [Act.put, List.setIfInBounds_toArray, List.set_cons_zero, List.set_cons_succ])
      refine wpAnyH_ready (rs := [2]) (by kernel_rfl) (by simp) ?_
      refine AllReadyH.cons rfl (fun K hK => ?_) AllReadyH.nil
      go_simp
      refine (hl1 _).mono ?_
      rintro e v3 ⟨rfl, hb3⟩
      have hV3 : Below W.heap.size W v3 := hHeld.1.trans (hb3.mono hHeld.1.size)
      have hS0 := cell_keep hV3 x0
      have hS1 := cell_keep hV3 x1
      have hS2 := cell_keep hV3 x2
      have hS3 := cell_keep hV3 x3
      have hS4 := cell_keep hV3 x4
      have hS5 := cell_keep hV3 x5
      clear hb3
      refine hK.out _ _ (by (refine ⟨?_, ?_, ?_, ?_, ?_, ?_, ?_⟩ <;> first | assumption | exact below_drew (Below.refl _ _) | simp [*])) (fun hHeld => ?_)
      clear hK K
      refine wpAnyH_ready (rs := [5]) (by kernel_rfl) (by simp) ?_
      refine AllReadyH.cons rfl (fun K hK => ?_) AllReadyH.nil
      go_simp
      refine (hl2 _).mono ?_
      rintro e v4 ⟨rfl, hb4⟩
      have hV4 : Below W.heap.size W v4 := hHeld.1.trans (hb4.mono hHeld.1.size)
      have hS0 := cell_keep hV4 x0
      have hS1 := cell_keep hV4 x1
      have hS2 := cell_keep hV4 x2
      have hS3 := cell_keep hV4 x3
      have hS4 := cell_keep hV4 x4
      have hS5 := cell_keep hV4 x5
      clear hb4
      refine hK.out _ _ (by (refine ⟨?_, ?_, ?_, ?_, ?_, ?_, ?_⟩ <;> first | assumption | exact below_drew (Below.refl _ _) | simp [*])) (fun hHeld => ?_)
      clear hK K
      refine takeD (some 37) (i := 6) (v := .bool true) rfl rfl (by kernel_rfl) (by kernel_rfl) (by kernel_rfl) (fun _ _ _ h => h) (Or.inl ⟨by kernel_rfl, ?_⟩) (by assumption) ?_
      · (intro w hSw; (try dsimp only at hSw); go_simp)
      (try simp only [Act.put, List.setIfInBounds_toArray, List.set_cons_zero, List.set_cons_succ])
      refine takeD (some 38) (i := 7) (v := .bool true) rfl rfl (by kernel_rfl) (by kernel_rfl) (by kernel_rfl) (fun _ _ _ h => h) (Or.inl ⟨by kernel_rfl, ?_⟩) (by assumption) ?_
      · (intro w hSw; (try dsimp only at hSw); go_simp)
      (try simp only [Act.put, List.setIfInBounds_toArray, List.set_cons_zero, List.set_cons_succ])
      refine takeD (some 39) (i := 8) (v := .pointer (some ⟨w.heap.size, 2, none⟩)) rfl rfl (by kernel_rfl) (by kernel_rfl) (by kernel_rfl) (fun _ _ _ h => h) (Or.inl ⟨by kernel_rfl, ?_⟩) (by assumption) ?_
      · (intro w hSw; (try dsimp only at hSw); go_simp)
      (try simp only [Act.put, List.setIfInBounds_toArray, List.set_cons_zero, List.set_cons_succ])
      refine takeD (some 40) (i := 9) (v := .string d) rfl rfl (by kernel_rfl) (by kernel_rfl) (by kernel_rfl) (fun _ _ _ h => h) (Or.inl ⟨by kernel_rfl, ?_⟩) (by assumption) ?_
      · (intro w hSw; (try dsimp only at hSw); go_simp)
      (try simp only [Act.put, List.setIfInBounds_toArray, List.set_cons_zero, List.set_cons_succ])
      refine takeD (some 42) (i := 11) (v := .pointer (some ⟨w.heap.size + 1, 2, none⟩)) rfl rfl (by kernel_rfl) (by kernel_rfl) (by kernel_rfl) (fun _ _ _ h => h) (Or.inl ⟨by kernel_rfl, ?_⟩) (by assumption) ?_
      · (intro w hSw; (try dsimp only at hSw); go_simp)
      (try simp only [Act.put, List.setIfInBounds_toArray, List.set_cons_zero, List.set_cons_succ])
      refine takeD (some 43) (i := 12) (v := .string d2) rfl rfl (by kernel_rfl) (by kernel_rfl) (by kernel_rfl) (fun _ _ _ h => h) (Or.inl ⟨by kernel_rfl, ?_⟩) (by assumption) ?_
      · (intro w hSw; (try dsimp only at hSw); go_simp)
      (try simp only [Act.put, List.setIfInBounds_toArray, List.set_cons_zero, List.set_cons_succ])
      refine wpAnyH_ready (rs := [10]) (by kernel_rfl) (by simp) ?_
      refine AllReadyH.cons rfl (fun K hK => ?_) AllReadyH.nil
      go_simp
      refine (hd1 _).mono ?_
      rintro e v5 ⟨rfl, hb5⟩
      have hV5 : Below W.heap.size W v5 := hHeld.1.trans (hb5.mono hHeld.1.size)
      have hS0 := cell_keep hV5 x0
      have hS1 := cell_keep hV5 x1
      have hS2 := cell_keep hV5 x2
      have hS3 := cell_keep hV5 x3
      have hS4 := cell_keep hV5 x4
      have hS5 := cell_keep hV5 x5
      clear hb5
      refine hK.out _ _ (by (refine ⟨?_, ?_, ?_, ?_, ?_, ?_, ?_⟩ <;> first | assumption | exact below_drew (Below.refl _ _) | simp [*])) (fun hHeld => ?_)
      clear hK K
      refine wpAnyH_ready (rs := [13]) (by kernel_rfl) (by simp) ?_
      refine AllReadyH.cons rfl (fun K hK => ?_) AllReadyH.nil
      go_simp
      refine (hd2 _).mono ?_
      rintro e v6 ⟨rfl, hb6⟩
      have hV6 : Below W.heap.size W v6 := hHeld.1.trans (hb6.mono hHeld.1.size)
      have hS0 := cell_keep hV6 x0
      have hS1 := cell_keep hV6 x1
      have hS2 := cell_keep hV6 x2
      have hS3 := cell_keep hV6 x3
      have hS4 := cell_keep hV6 x4
      have hS5 := cell_keep hV6 x5
      clear hb6
      refine hK.out _ _ (by (refine ⟨?_, ?_, ?_, ?_, ?_, ?_, ?_⟩ <;> first | assumption | exact below_drew (Below.refl _ _) | simp [*])) (fun hHeld => ?_)
      clear hK K
      refine takeD (some 45) (i := 14) (v := .bool true) rfl rfl (by kernel_rfl) (by kernel_rfl) (by kernel_rfl) (fun _ _ _ h => h) (Or.inl ⟨by kernel_rfl, ?_⟩) (by assumption) ?_
      · (intro w hSw; (try dsimp only at hSw); go_simp)
      (try simp only [Act.put, List.setIfInBounds_toArray, List.set_cons_zero, List.set_cons_succ])
      refine takeD (some 46) (i := 15) (v := .bool true) rfl rfl (by kernel_rfl) (by kernel_rfl) (by kernel_rfl) (fun _ _ _ h => h) (Or.inl ⟨by kernel_rfl, ?_⟩) (by assumption) ?_
      · (intro w hSw; (try dsimp only at hSw); go_simp)
      (try simp only [Act.put, List.setIfInBounds_toArray, List.set_cons_zero, List.set_cons_succ])
      refine takeD (some 7) (i := 16) (v := .bool true) rfl rfl (by kernel_rfl) (by kernel_rfl) (by kernel_rfl) (fun _ _ _ h => h) (Or.inl ⟨by kernel_rfl, ?_⟩) (by assumption) ?_
      · (intro w hSw; (try dsimp only at hSw); go_simp)
      (try simp only [Act.put, List.setIfInBounds_toArray, List.set_cons_zero, List.set_cons_succ])
      refine wpAnyH_done (by kernel_rfl) ?_ _
      have HBZ : Hid (Below w.heap.size w v6) := HBX.out.trans (hV6.mono HBX.out.size)
      clear hV3 hV4 hV5 hV6 hS0 hS1 hS2 hS3 hS4 hS5 x0 x1 x2 x3 x4 x5 hHeld
      go_wp2_with fail
      refine (plain_any xa v6 (by omega)).mono ?_
      rintro e u2 ⟨nc, lc, dc, cc, rfl, hb2, hpa⟩
      obtain ⟨rfl, hpr⟩ := plain_R hpa
      rw [HXA.out, norm_plain HR1.out] at hpr
      rcases hpr with ⟨rfl, hpr, q1, q2⟩ | ⟨_, _, _, hpr⟩
      case inr => cases hpr
      simp only [Option.some.injEq, Prod.mk.injEq] at hpr
      obtain ⟨e1, e2⟩ := hpr
      have HL : Hid (nums lc = (nums l).map smallZ) := e1.symm
      have HD : Hid (nums dc = (nums d).map smallZ) := e2.symm
      have HBU : Hid (Below w.heap.size w u2) := HBZ.out.trans (hb2.mono HBZ.out.size)
      have HAU : Hid (AAt (u2.alloc (.cells #[.string ⟨#[]⟩, .string lc, .string dc] 24)) u2.heap.size ⟨#[]⟩ lc dc) := aat_new u2 _ _ _
      clear e1 e2 hpa hb2
      unfold addrV
      have hsu := HBU.out.size
      go_wp2_with fail
      refine (alive_any _).mono ?_
      rintro e u3 ⟨rfl, hb3⟩
      obtain ⟨_, y0, y1, y2⟩ := HAU.out.below hb3
      have HBV : Hid (Below w.heap.size w u3) := (HBU.out.alloc hsu _).trans (hb3.mono (by simp; omega))
      clear hb3
      have hnc := normal_any ⟨#[]⟩ lc dc u3 (by decide) (by omega) (by omega)
      rw [HL.out, HD.out, show rightZ (nums (⟨#[]⟩ : ByteArray)) ((nums l).map smallZ) ((nums d).map smallZ) = true from right_small HR1.out] at hnc
      unfold addrV at hnc
      go_wp2_with (go_at_call 15; refine hnc.mono ?_; rintro e u4 ⟨x, rfl, hb4, hna⟩; obtain rfl : x = xa := nums_inj ((hna.1 rfl).trans ((norm_norm _ _).trans HXA.out.symm)))
      go_ret
      exact ⟨rfl, HBV.out.trans (hb4.mono HBV.out.size)⟩
    · obtain ⟨hnd, hnd2⟩ := ne_list hD
      obtain ⟨hnx, hnx2⟩ := ne_list (s := xa) (t := xb) (fun q => hD (hinj.1 q).2)
      clear hinj hL hD
      go_wp2_with fail
      refine wp_region_held_drew (S := (fun V => Below W.heap.size W V ∧ V.cell? ⟨w.heap.size, 0, none⟩ = some (.string n) ∧ V.cell? ⟨w.heap.size, 1, none⟩ = some (.string l) ∧ V.cell? ⟨w.heap.size, 2, none⟩ = some (.string d) ∧ V.cell? ⟨w.heap.size + 1, 0, none⟩ = some (.string n2) ∧ V.cell? ⟨w.heap.size + 1, 1, none⟩ = some (.string l2) ∧ V.cell? ⟨w.heap.size + 1, 2, none⟩ = some (.string d2))) (by kernel_rfl) (by (refine ⟨?_, ?_, ?_, ?_, ?_, ?_, ?_⟩ <;> first | assumption | exact below_drew (Below.refl _ _) | simp [*])) (fun hHeld => ?_)
      refine takeD (some 27) (i := 0) (v := .agg #[.string n, .string l, .string d]) rfl rfl (by kernel_rfl) (by kernel_rfl) (by kernel_rfl) (fun _ _ _ h => h) (Or.inl ⟨by kernel_rfl, ?_⟩) (by assumption) ?_
      · (intro w hSw; (try dsimp only at hSw); go_simp)
      (try simp only [Act.put, List.setIfInBounds_toArray, List.set_cons_zero, List.set_cons_succ])
      refine takeD (some 29) (i := 2) (v := .agg #[.string n2, .string l2, .string d2]) rfl rfl (by kernel_rfl) (by kernel_rfl) (by kernel_rfl) (fun _ _ _ h => h) (Or.inl ⟨by kernel_rfl, ?_⟩) (by assumption) ?_
      · (intro w hSw; (try dsimp only at hSw); go_simp)
      (try simp only [Act.put, List.setIfInBounds_toArray, List.set_cons_zero, List.set_cons_succ])
      refine wpAnyH_ready (rs := [1]) (by kernel_rfl) (by simp) ?_
      refine AllReadyH.cons rfl (fun K hK => ?_) AllReadyH.nil
      go_simp
      refine (hn1 _).mono ?_
      rintro e v1 ⟨rfl, hb1⟩
      have hV1 : Below W.heap.size W v1 := hHeld.1.trans (hb1.mono hHeld.1.size)
      have hS0 := cell_keep hV1 x0
      have hS1 := cell_keep hV1 x1
      have hS2 := cell_keep hV1 x2
      have hS3 := cell_keep hV1 x3
      have hS4 := cell_keep hV1 x4
      have hS5 := cell_keep hV1 x5
      clear hb1
      refine hK.out _ _ (by (refine ⟨?_, ?_, ?_, ?_, ?_, ?_, ?_⟩ <;> first | assumption | exact below_drew (Below.refl _ _) | simp [*])) (fun hHeld => ?_)
      clear hK K
      refine wpAnyH_ready (rs := [3]) (by kernel_rfl) (by simp) ?_
      refine AllReadyH.cons rfl (fun K hK => ?_) AllReadyH.nil
      go_simp
      refine (hn2 _).mono ?_
      rintro e v2 ⟨rfl, hb2⟩
      have hV2 : Below W.heap.size W v2 := hHeld.1.trans (hb2.mono hHeld.1.size)
      have hS0 := cell_keep hV2 x0
      have hS1 := cell_keep hV2 x1
      have hS2 := cell_keep hV2 x2
      have hS3 := cell_keep hV2 x3
      have hS4 := cell_keep hV2 x4
      have hS5 := cell_keep hV2 x5
      clear hb2
      refine hK.out _ _ (by (refine ⟨?_, ?_, ?_, ?_, ?_, ?_, ?_⟩ <;> first | assumption | exact below_drew (Below.refl _ _) | simp [*])) (fun hHeld => ?_)
      clear hK K
      refine takeD (some 5) (i := 4) (v := .string xa) rfl rfl (by kernel_rfl) (by kernel_rfl) (by kernel_rfl) (fun _ _ _ h => h) (Or.inl ⟨by kernel_rfl, ?_⟩) (by assumption) ?_
      · (intro w hSw; (try dsimp only at hSw); go_simp)
      (try simp only [Act.put, List.setIfInBounds_toArray, List.set_cons_zero, List.set_cons_succ])
      refine takeD (some 6) (i := 5) (v := .string xb) rfl rfl (by kernel_rfl) (by kernel_rfl) (by kernel_rfl) (fun _ _ _ h => h) (Or.inl ⟨by kernel_rfl, ?_⟩) (by assumption) ?_
      · (intro w hSw; (try dsimp only at hSw); go_simp)
      (try simp only [Act.put, List.setIfInBounds_toArray, List.set_cons_zero, List.set_cons_succ])
      refine wpAnyH_done (by kernel_rfl) ?_ _
      have HBX : Hid (Below w.heap.size w v2) := HB.out.trans (hV2.mono HB.out.size)
      have HAX : Hid (AAt v2 w.heap.size n l d) := HA.out.below hV2
      have HAY : Hid (AAt v2 (w.heap.size + 1) n2 l2 d2) := HA2.out.below hV2
      clear hV1 hV2 hS0 hS1 hS2 hS3 hS4 hS5 x0 x1 x2 x3 x4 x5
      obtain ⟨_, x0, x1, x2⟩ := HAX.out
      obtain ⟨_, x3, x4, x5⟩ := HAY.out
      clear HA HA2 HB
      go_wp2_with fail
      generalize v2 = W at HBX HAX HAY x0 x1 x2 x3 x4 x5 ⊢
      clear hHeld
      refine wp_region_held_drew (S := (fun V => Below W.heap.size W V ∧ V.cell? ⟨w.heap.size, 0, none⟩ = some (.string n) ∧ V.cell? ⟨w.heap.size, 1, none⟩ = some (.string l) ∧ V.cell? ⟨w.heap.size, 2, none⟩ = some (.string d) ∧ V.cell? ⟨w.heap.size + 1, 0, none⟩ = some (.string n2) ∧ V.cell? ⟨w.heap.size + 1, 1, none⟩ = some (.string l2) ∧ V.cell? ⟨w.heap.size + 1, 2, none⟩ = some (.string d2))) (by kernel_rfl) (by (refine ⟨?_, ?_, ?_, ?_, ?_, ?_, ?_⟩ <;> first | assumption | exact below_drew (Below.refl _ _) | simp [*])) (fun hHeld => ?_)
      refine takeD (some 31) (i := 0) (v := .pointer (some ⟨w.heap.size, 1, none⟩)) rfl rfl (by kernel_rfl) (by kernel_rfl) (by kernel_rfl) (fun _ _ _ h => h) (Or.inl ⟨by kernel_rfl, ?_⟩) (by assumption) ?_
      · (intro w hSw; (try dsimp only at hSw); go_simp)
      (try simp only [Act.put, List.setIfInBounds_toArray, List.set_cons_zero, List.set_cons_succ])
      refine takeD (some 32) (i := 1) (v := .string l) rfl rfl (by kernel_rfl) (by kernel_rfl) (by kernel_rfl) (fun _ _ _ h => h) (Or.inl ⟨by kernel_rfl, ?_⟩) (by assumption) ?_
      · (intro w hSw; (try dsimp only at hSw); go_simp)
      (try simp only [Act.put, List.setIfInBounds_toArray, List.set_cons_zero, List.set_cons_succ])
      refine takeD (some 34) (i := 3) (v := .pointer (some ⟨w.heap.size + 1, 1, none⟩)) rfl rfl (by kernel_rfl) (by kernel_rfl) (by kernel_rfl) (fun _ _ _ h => h) (Or.inl ⟨by kernel_rfl, ?_⟩) (by assumption) ?_
      · (intro w hSw; (try dsimp only at hSw); go_simp)
      (try simp only [Act.put, List.setIfInBounds_toArray, List.set_cons_zero, List.set_cons_succ])
      refine takeD (some 35) (i := 4) (v := .string l2) rfl rfl (by kernel_rfl) (by kernel_rfl) (by kernel_rfl) (fun _ _ _ h => h) (Or.inl ⟨by kernel_rfl, ?_⟩) (by assumption) ?_
      · (intro w hSw; (try dsimp only at hSw); go_simp)
      (try simp only [Act.put, List.setIfInBounds_toArray, List.set_cons_zero, List.set_cons_succ])
      refine wpAnyH_ready (rs := [2]) (by kernel_rfl) (by simp) ?_
      refine AllReadyH.cons rfl (fun K hK => ?_) AllReadyH.nil
      go_simp
      refine (hl1 _).mono ?_
      rintro e v3 ⟨rfl, hb3⟩
      have hV3 : Below W.heap.size W v3 := hHeld.1.trans (hb3.mono hHeld.1.size)
      have hS0 := cell_keep hV3 x0
      have hS1 := cell_keep hV3 x1
      have hS2 := cell_keep hV3 x2
      have hS3 := cell_keep hV3 x3
      have hS4 := cell_keep hV3 x4
      have hS5 := cell_keep hV3 x5
      clear hb3
      refine hK.out _ _ (by (refine ⟨?_, ?_, ?_, ?_, ?_, ?_, ?_⟩ <;> first | assumption | exact below_drew (Below.refl _ _) | simp [*])) (fun hHeld => ?_)
      clear hK K
      refine wpAnyH_ready (rs := [5]) (by kernel_rfl) (by simp) ?_
      refine AllReadyH.cons rfl (fun K hK => ?_) AllReadyH.nil
      go_simp
      refine (hl2 _).mono ?_
      rintro e v4 ⟨rfl, hb4⟩
      have hV4 : Below W.heap.size W v4 := hHeld.1.trans (hb4.mono hHeld.1.size)
      have hS0 := cell_keep hV4 x0
      have hS1 := cell_keep hV4 x1
      have hS2 := cell_keep hV4 x2
      have hS3 := cell_keep hV4 x3
      have hS4 := cell_keep hV4 x4
      have hS5 := cell_keep hV4 x5
      clear hb4
      refine hK.out _ _ (by (refine ⟨?_, ?_, ?_, ?_, ?_, ?_, ?_⟩ <;> first | assumption | exact below_drew (Below.refl _ _) | simp [*])) (fun hHeld => ?_)
      clear hK K
      refine takeD (some 37) (i := 6) (v := .bool true) rfl rfl (by kernel_rfl) (by kernel_rfl) (by kernel_rfl) (fun _ _ _ h => h) (Or.inl ⟨by kernel_rfl, ?_⟩) (by assumption) ?_
      · (intro w hSw; (try dsimp only at hSw); go_simp)
      (try simp only [Act.put, List.setIfInBounds_toArray, List.set_cons_zero, List.set_cons_succ])
      refine takeD (some 38) (i := 7) (v := .bool true) rfl rfl (by kernel_rfl) (by kernel_rfl) (by kernel_rfl) (fun _ _ _ h => h) (Or.inl ⟨by kernel_rfl, ?_⟩) (by assumption) ?_
      · (intro w hSw; (try dsimp only at hSw); go_simp)
      (try simp only [Act.put, List.setIfInBounds_toArray, List.set_cons_zero, List.set_cons_succ])
      refine takeD (some 39) (i := 8) (v := .pointer (some ⟨w.heap.size, 2, none⟩)) rfl rfl (by kernel_rfl) (by kernel_rfl) (by kernel_rfl) (fun _ _ _ h => h) (Or.inl ⟨by kernel_rfl, ?_⟩) (by assumption) ?_
      · (intro w hSw; (try dsimp only at hSw); go_simp)
      (try simp only [Act.put, List.setIfInBounds_toArray, List.set_cons_zero, List.set_cons_succ])
      refine takeD (some 40) (i := 9) (v := .string d) rfl rfl (by kernel_rfl) (by kernel_rfl) (by kernel_rfl) (fun _ _ _ h => h) (Or.inl ⟨by kernel_rfl, ?_⟩) (by assumption) ?_
      · (intro w hSw; (try dsimp only at hSw); go_simp)
      (try simp only [Act.put, List.setIfInBounds_toArray, List.set_cons_zero, List.set_cons_succ])
      refine takeD (some 42) (i := 11) (v := .pointer (some ⟨w.heap.size + 1, 2, none⟩)) rfl rfl (by kernel_rfl) (by kernel_rfl) (by kernel_rfl) (fun _ _ _ h => h) (Or.inl ⟨by kernel_rfl, ?_⟩) (by assumption) ?_
      · (intro w hSw; (try dsimp only at hSw); go_simp)
      (try simp only [Act.put, List.setIfInBounds_toArray, List.set_cons_zero, List.set_cons_succ])
      refine takeD (some 43) (i := 12) (v := .string d2) rfl rfl (by kernel_rfl) (by kernel_rfl) (by kernel_rfl) (fun _ _ _ h => h) (Or.inl ⟨by kernel_rfl, ?_⟩) (by assumption) ?_
      · (intro w hSw; (try dsimp only at hSw); go_simp)
      (try simp only [Act.put, List.setIfInBounds_toArray, List.set_cons_zero, List.set_cons_succ])
      refine wpAnyH_ready (rs := [10]) (by kernel_rfl) (by simp) ?_
      refine AllReadyH.cons rfl (fun K hK => ?_) AllReadyH.nil
      go_simp
      refine (hd1 _).mono ?_
      rintro e v5 ⟨rfl, hb5⟩
      have hV5 : Below W.heap.size W v5 := hHeld.1.trans (hb5.mono hHeld.1.size)
      have hS0 := cell_keep hV5 x0
      have hS1 := cell_keep hV5 x1
      have hS2 := cell_keep hV5 x2
      have hS3 := cell_keep hV5 x3
      have hS4 := cell_keep hV5 x4
      have hS5 := cell_keep hV5 x5
      clear hb5
      refine hK.out _ _ (by (refine ⟨?_, ?_, ?_, ?_, ?_, ?_, ?_⟩ <;> first | assumption | exact below_drew (Below.refl _ _) | simp [*])) (fun hHeld => ?_)
      clear hK K
      refine wpAnyH_ready (rs := [13]) (by kernel_rfl) (by simp) ?_
      refine AllReadyH.cons rfl (fun K hK => ?_) AllReadyH.nil
      go_simp
      refine (hd2 _).mono ?_
      rintro e v6 ⟨rfl, hb6⟩
      have hV6 : Below W.heap.size W v6 := hHeld.1.trans (hb6.mono hHeld.1.size)
      have hS0 := cell_keep hV6 x0
      have hS1 := cell_keep hV6 x1
      have hS2 := cell_keep hV6 x2
      have hS3 := cell_keep hV6 x3
      have hS4 := cell_keep hV6 x4
      have hS5 := cell_keep hV6 x5
      clear hb6
      refine hK.out _ _ (by (refine ⟨?_, ?_, ?_, ?_, ?_, ?_, ?_⟩ <;> first | assumption | exact below_drew (Below.refl _ _) | simp [*])) (fun hHeld => ?_)
      clear hK K
      refine takeD (some 45) (i := 14) (v := .bool false) rfl rfl (by kernel_rfl) (by kernel_rfl) (by kernel_rfl) (fun _ _ _ h => h) (Or.inl ⟨by kernel_rfl, ?_⟩) (by assumption) ?_
      · (intro w hSw; (try dsimp only at hSw); go_simp)
      (try simp only [Act.put, List.setIfInBounds_toArray, List.set_cons_zero, List.set_cons_succ])
      refine takeD (some 46) (i := 15) (v := .bool false) rfl rfl (by kernel_rfl) (by kernel_rfl) (by kernel_rfl) (fun _ _ _ h => h) (Or.inl ⟨by kernel_rfl, ?_⟩) (by assumption) ?_
      · (intro w hSw; (try dsimp only at hSw); go_simp)
      (try simp only [Act.put, List.setIfInBounds_toArray, List.set_cons_zero, List.set_cons_succ])
      refine takeD (some 7) (i := 16) (v := .bool false) rfl rfl (by kernel_rfl) (by kernel_rfl) (by kernel_rfl) (fun _ _ _ h => h) (Or.inl ⟨by kernel_rfl, ?_⟩) (by assumption) ?_
      · (intro w hSw; (try dsimp only at hSw); go_simp)
      (try simp only [Act.put, List.setIfInBounds_toArray, List.set_cons_zero, List.set_cons_succ])
      refine wpAnyH_done (by kernel_rfl) ?_ _
      have HBZ : Hid (Below w.heap.size w v6) := HBX.out.trans (hV6.mono HBX.out.size)
      clear hV3 hV4 hV5 hV6 hS0 hS1 hS2 hS3 hS4 hS5 x0 x1 x2 x3 x4 x5 hHeld
      go_wp2_with fail
      refine (plain_any xa v6 (by omega)).mono ?_
      rintro e u2 ⟨nc, lc, dc, cc, rfl, hb2, hpa⟩
      obtain ⟨rfl, hpr⟩ := plain_R hpa
      rw [HXA.out, norm_plain HR1.out] at hpr
      rcases hpr with ⟨rfl, hpr, q1, q2⟩ | ⟨_, _, _, hpr⟩
      case inr => cases hpr
      simp only [Option.some.injEq, Prod.mk.injEq] at hpr
      obtain ⟨e1, e2⟩ := hpr
      have HL : Hid (nums lc = (nums l).map smallZ) := e1.symm
      have HD : Hid (nums dc = (nums d).map smallZ) := e2.symm
      have HBU : Hid (Below w.heap.size w u2) := HBZ.out.trans (hb2.mono HBZ.out.size)
      have HAU : Hid (AAt (u2.alloc (.cells #[.string ⟨#[]⟩, .string lc, .string dc] 24)) u2.heap.size ⟨#[]⟩ lc dc) := aat_new u2 _ _ _
      clear e1 e2 hpa hb2
      unfold addrV
      have hsu := HBU.out.size
      go_wp2_with fail
      refine (alive_any _).mono ?_
      rintro e u3 ⟨rfl, hb3⟩
      obtain ⟨_, y0, y1, y2⟩ := HAU.out.below hb3
      have HBV : Hid (Below w.heap.size w u3) := (HBU.out.alloc hsu _).trans (hb3.mono (by simp; omega))
      clear hb3
      have hnc := normal_any ⟨#[]⟩ lc dc u3 (by decide) (by omega) (by omega)
      rw [HL.out, HD.out, show rightZ (nums (⟨#[]⟩ : ByteArray)) ((nums l).map smallZ) ((nums d).map smallZ) = true from right_small HR1.out] at hnc
      unfold addrV at hnc
      go_wp2_with (go_at_call 15; refine hnc.mono ?_; rintro e u4 ⟨x, rfl, hb4, hna⟩; obtain rfl : x = xa := nums_inj ((hna.1 rfl).trans ((norm_norm _ _).trans HXA.out.symm)))
      go_ret
      exact ⟨rfl, HBV.out.trans (hb4.mono HBV.out.size)⟩
  · obtain ⟨hnl, hnl2⟩ := ne_list hL
    obtain ⟨hnx, hnx2⟩ := ne_list (s := xa) (t := xb) (fun q => hL (hinj.1 q).1)
    clear hinj hL
    go_wp2_with fail
    refine wp_region_held_drew (S := (fun V => Below W.heap.size W V ∧ V.cell? ⟨w.heap.size, 0, none⟩ = some (.string n) ∧ V.cell? ⟨w.heap.size, 1, none⟩ = some (.string l) ∧ V.cell? ⟨w.heap.size, 2, none⟩ = some (.string d) ∧ V.cell? ⟨w.heap.size + 1, 0, none⟩ = some (.string n2) ∧ V.cell? ⟨w.heap.size + 1, 1, none⟩ = some (.string l2) ∧ V.cell? ⟨w.heap.size + 1, 2, none⟩ = some (.string d2))) (by kernel_rfl) (by (refine ⟨?_, ?_, ?_, ?_, ?_, ?_, ?_⟩ <;> first | assumption | exact below_drew (Below.refl _ _) | simp [*])) (fun hHeld => ?_)
    refine takeD (some 27) (i := 0) (v := .agg #[.string n, .string l, .string d]) rfl rfl (by kernel_rfl) (by kernel_rfl) (by kernel_rfl) (fun _ _ _ h => h) (Or.inl ⟨by kernel_rfl, ?_⟩) (by assumption) ?_
    · (intro w hSw; (try dsimp only at hSw); go_simp)
    (try simp only [Act.put, List.setIfInBounds_toArray, List.set_cons_zero, List.set_cons_succ])
    refine takeD (some 29) (i := 2) (v := .agg #[.string n2, .string l2, .string d2]) rfl rfl (by kernel_rfl) (by kernel_rfl) (by kernel_rfl) (fun _ _ _ h => h) (Or.inl ⟨by kernel_rfl, ?_⟩) (by assumption) ?_
    · (intro w hSw; (try dsimp only at hSw); go_simp)
    (try simp only [Act.put, List.setIfInBounds_toArray, List.set_cons_zero, List.set_cons_succ])
    refine wpAnyH_ready (rs := [1]) (by kernel_rfl) (by simp) ?_
    refine AllReadyH.cons rfl (fun K hK => ?_) AllReadyH.nil
    go_simp
    refine (hn1 _).mono ?_
    rintro e v1 ⟨rfl, hb1⟩
    have hV1 : Below W.heap.size W v1 := hHeld.1.trans (hb1.mono hHeld.1.size)
    have hS0 := cell_keep hV1 x0
    have hS1 := cell_keep hV1 x1
    have hS2 := cell_keep hV1 x2
    have hS3 := cell_keep hV1 x3
    have hS4 := cell_keep hV1 x4
    have hS5 := cell_keep hV1 x5
    clear hb1
    refine hK.out _ _ (by (refine ⟨?_, ?_, ?_, ?_, ?_, ?_, ?_⟩ <;> first | assumption | exact below_drew (Below.refl _ _) | simp [*])) (fun hHeld => ?_)
    clear hK K
    refine wpAnyH_ready (rs := [3]) (by kernel_rfl) (by simp) ?_
    refine AllReadyH.cons rfl (fun K hK => ?_) AllReadyH.nil
    go_simp
    refine (hn2 _).mono ?_
    rintro e v2 ⟨rfl, hb2⟩
    have hV2 : Below W.heap.size W v2 := hHeld.1.trans (hb2.mono hHeld.1.size)
    have hS0 := cell_keep hV2 x0
    have hS1 := cell_keep hV2 x1
    have hS2 := cell_keep hV2 x2
    have hS3 := cell_keep hV2 x3
    have hS4 := cell_keep hV2 x4
    have hS5 := cell_keep hV2 x5
    clear hb2
    refine hK.out _ _ (by (refine ⟨?_, ?_, ?_, ?_, ?_, ?_, ?_⟩ <;> first | assumption | exact below_drew (Below.refl _ _) | simp [*])) (fun hHeld => ?_)
    clear hK K
    refine takeD (some 5) (i := 4) (v := .string xa) rfl rfl (by kernel_rfl) (by kernel_rfl) (by kernel_rfl) (fun _ _ _ h => h) (Or.inl ⟨by kernel_rfl, ?_⟩) (by assumption) ?_
    · (intro w hSw; (try dsimp only at hSw); go_simp)
    (try simp only [Act.put, List.setIfInBounds_toArray, List.set_cons_zero, List.set_cons_succ])
    refine takeD (some 6) (i := 5) (v := .string xb) rfl rfl (by kernel_rfl) (by kernel_rfl) (by kernel_rfl) (fun _ _ _ h => h) (Or.inl ⟨by kernel_rfl, ?_⟩) (by assumption) ?_
    · (intro w hSw; (try dsimp only at hSw); go_simp)
    (try simp only [Act.put, List.setIfInBounds_toArray, List.set_cons_zero, List.set_cons_succ])
    refine wpAnyH_done (by kernel_rfl) ?_ _
    have HBX : Hid (Below w.heap.size w v2) := HB.out.trans (hV2.mono HB.out.size)
    have HAX : Hid (AAt v2 w.heap.size n l d) := HA.out.below hV2
    have HAY : Hid (AAt v2 (w.heap.size + 1) n2 l2 d2) := HA2.out.below hV2
    clear hV1 hV2 hS0 hS1 hS2 hS3 hS4 hS5 x0 x1 x2 x3 x4 x5
    obtain ⟨_, x0, x1, x2⟩ := HAX.out
    obtain ⟨_, x3, x4, x5⟩ := HAY.out
    clear HA HA2 HB
    go_wp2_with fail
    generalize v2 = W at HBX HAX HAY x0 x1 x2 x3 x4 x5 ⊢
    clear hHeld
    refine wp_region_held_drew (S := (fun V => Below W.heap.size W V ∧ V.cell? ⟨w.heap.size, 0, none⟩ = some (.string n) ∧ V.cell? ⟨w.heap.size, 1, none⟩ = some (.string l) ∧ V.cell? ⟨w.heap.size, 2, none⟩ = some (.string d) ∧ V.cell? ⟨w.heap.size + 1, 0, none⟩ = some (.string n2) ∧ V.cell? ⟨w.heap.size + 1, 1, none⟩ = some (.string l2) ∧ V.cell? ⟨w.heap.size + 1, 2, none⟩ = some (.string d2))) (by kernel_rfl) (by (refine ⟨?_, ?_, ?_, ?_, ?_, ?_, ?_⟩ <;> first | assumption | exact below_drew (Below.refl _ _) | simp [*])) (fun hHeld => ?_)
    refine takeD (some 31) (i := 0) (v := .pointer (some ⟨w.heap.size, 1, none⟩)) rfl rfl (by kernel_rfl) (by kernel_rfl) (by kernel_rfl) (fun _ _ _ h => h) (Or.inl ⟨by kernel_rfl, ?_⟩) (by assumption) ?_
    · (intro w hSw; (try dsimp only at hSw); go_simp)
    (try simp only [Act.put, List.setIfInBounds_toArray, List.set_cons_zero, List.set_cons_succ])
    refine takeD (some 32) (i := 1) (v := .string l) rfl rfl (by kernel_rfl) (by kernel_rfl) (by kernel_rfl) (fun _ _ _ h => h) (Or.inl ⟨by kernel_rfl, ?_⟩) (by assumption) ?_
    · (intro w hSw; (try dsimp only at hSw); go_simp)
    (try simp only [Act.put, List.setIfInBounds_toArray, List.set_cons_zero, List.set_cons_succ])
    refine takeD (some 34) (i := 3) (v := .pointer (some ⟨w.heap.size + 1, 1, none⟩)) rfl rfl (by kernel_rfl) (by kernel_rfl) (by kernel_rfl) (fun _ _ _ h => h) (Or.inl ⟨by kernel_rfl, ?_⟩) (by assumption) ?_
    · (intro w hSw; (try dsimp only at hSw); go_simp)
    (try simp only [Act.put, List.setIfInBounds_toArray, List.set_cons_zero, List.set_cons_succ])
    refine takeD (some 35) (i := 4) (v := .string l2) rfl rfl (by kernel_rfl) (by kernel_rfl) (by kernel_rfl) (fun _ _ _ h => h) (Or.inl ⟨by kernel_rfl, ?_⟩) (by assumption) ?_
    · (intro w hSw; (try dsimp only at hSw); go_simp)
    (try simp only [Act.put, List.setIfInBounds_toArray, List.set_cons_zero, List.set_cons_succ])
    refine wpAnyH_ready (rs := [2]) (by kernel_rfl) (by simp) ?_
    refine AllReadyH.cons rfl (fun K hK => ?_) AllReadyH.nil
    go_simp
    refine (hl1 _).mono ?_
    rintro e v3 ⟨rfl, hb3⟩
    have hV3 : Below W.heap.size W v3 := hHeld.1.trans (hb3.mono hHeld.1.size)
    have hS0 := cell_keep hV3 x0
    have hS1 := cell_keep hV3 x1
    have hS2 := cell_keep hV3 x2
    have hS3 := cell_keep hV3 x3
    have hS4 := cell_keep hV3 x4
    have hS5 := cell_keep hV3 x5
    clear hb3
    refine hK.out _ _ (by (refine ⟨?_, ?_, ?_, ?_, ?_, ?_, ?_⟩ <;> first | assumption | exact below_drew (Below.refl _ _) | simp [*])) (fun hHeld => ?_)
    clear hK K
    refine wpAnyH_ready (rs := [5]) (by kernel_rfl) (by simp) ?_
    refine AllReadyH.cons rfl (fun K hK => ?_) AllReadyH.nil
    go_simp
    refine (hl2 _).mono ?_
    rintro e v4 ⟨rfl, hb4⟩
    have hV4 : Below W.heap.size W v4 := hHeld.1.trans (hb4.mono hHeld.1.size)
    have hS0 := cell_keep hV4 x0
    have hS1 := cell_keep hV4 x1
    have hS2 := cell_keep hV4 x2
    have hS3 := cell_keep hV4 x3
    have hS4 := cell_keep hV4 x4
    have hS5 := cell_keep hV4 x5
    clear hb4
    refine hK.out _ _ (by (refine ⟨?_, ?_, ?_, ?_, ?_, ?_, ?_⟩ <;> first | assumption | exact below_drew (Below.refl _ _) | simp [*])) (fun hHeld => ?_)
    clear hK K
    refine takeD (some 37) (i := 6) (v := .bool false) rfl rfl (by kernel_rfl) (by kernel_rfl) (by kernel_rfl) (fun _ _ _ h => h) (Or.inl ⟨by kernel_rfl, ?_⟩) (by assumption) ?_
    · (intro w hSw; (try dsimp only at hSw); go_simp)
    (try simp only [Act.put, List.setIfInBounds_toArray, List.set_cons_zero, List.set_cons_succ])
    refine takeD (some 38) (i := 7) (v := .bool false) rfl rfl (by kernel_rfl) (by kernel_rfl) (by kernel_rfl) (fun _ _ _ h => h) (Or.inl ⟨by kernel_rfl, ?_⟩) (by assumption) ?_
    · (intro w hSw; (try dsimp only at hSw); go_simp)
    (try simp only [Act.put, List.setIfInBounds_toArray, List.set_cons_zero, List.set_cons_succ])
    refine takeD (some 39) (i := 8) (v := undef) rfl rfl (by kernel_rfl) (by kernel_rfl) (by kernel_rfl) (fun _ _ _ h => h) (Or.inr ⟨by kernel_rfl, rfl⟩) (by assumption) ?_
    (try simp only [Act.put, List.setIfInBounds_toArray, List.set_cons_zero, List.set_cons_succ])
    refine takeD (some 40) (i := 9) (v := undef) rfl rfl (by kernel_rfl) (by kernel_rfl) (by kernel_rfl) (fun _ _ _ h => h) (Or.inr ⟨by kernel_rfl, rfl⟩) (by assumption) ?_
    (try simp only [Act.put, List.setIfInBounds_toArray, List.set_cons_zero, List.set_cons_succ])
    refine takeD (some 41) (i := 10) (v := undef) rfl rfl (by kernel_rfl) (by kernel_rfl) (by kernel_rfl) (fun _ _ _ h => h) (Or.inr ⟨by kernel_rfl, rfl⟩) (by assumption) ?_
    (try simp only [Act.put, List.setIfInBounds_toArray, List.set_cons_zero, List.set_cons_succ])
    refine takeD (some 42) (i := 11) (v := undef) rfl rfl (by kernel_rfl) (by kernel_rfl) (by kernel_rfl) (fun _ _ _ h => h) (Or.inr ⟨by kernel_rfl, rfl⟩) (by assumption) ?_
    (try simp only [Act.put, List.setIfInBounds_toArray, List.set_cons_zero, List.set_cons_succ])
    refine takeD (some 43) (i := 12) (v := undef) rfl rfl (by kernel_rfl) (by kernel_rfl) (by kernel_rfl) (fun _ _ _ h => h) (Or.inr ⟨by kernel_rfl, rfl⟩) (by assumption) ?_
    (try simp only [Act.put, List.setIfInBounds_toArray, List.set_cons_zero, List.set_cons_succ])
    refine takeD (some 44) (i := 13) (v := undef) rfl rfl (by kernel_rfl) (by kernel_rfl) (by kernel_rfl) (fun _ _ _ h => h) (Or.inr ⟨by kernel_rfl, rfl⟩) (by assumption) ?_
    (try simp only [Act.put, List.setIfInBounds_toArray, List.set_cons_zero, List.set_cons_succ])
    refine takeD (some 45) (i := 14) (v := undef) rfl rfl (by kernel_rfl) (by kernel_rfl) (by kernel_rfl) (fun _ _ _ h => h) (Or.inr ⟨by kernel_rfl, rfl⟩) (by assumption) ?_
    (try simp only [Act.put, List.setIfInBounds_toArray, List.set_cons_zero, List.set_cons_succ])
    refine takeD (some 46) (i := 15) (v := .bool false) rfl rfl (by kernel_rfl) (by kernel_rfl) (by kernel_rfl) (fun _ _ _ h => h) (Or.inl ⟨by kernel_rfl, ?_⟩) (by assumption) ?_
    · (intro w hSw; (try dsimp only at hSw); go_simp)
    (try simp only [Act.put, List.setIfInBounds_toArray, List.set_cons_zero, List.set_cons_succ])
    refine takeD (some 7) (i := 16) (v := .bool false) rfl rfl (by kernel_rfl) (by kernel_rfl) (by kernel_rfl) (fun _ _ _ h => h) (Or.inl ⟨by kernel_rfl, ?_⟩) (by assumption) ?_
    · (intro w hSw; (try dsimp only at hSw); go_simp)
    (try simp only [Act.put, List.setIfInBounds_toArray, List.set_cons_zero, List.set_cons_succ])
    refine wpAnyH_done (by kernel_rfl) ?_ _
    have HBZ : Hid (Below w.heap.size w v4) := HBX.out.trans (hV4.mono HBX.out.size)
    clear hV3 hV4 hS0 hS1 hS2 hS3 hS4 hS5 x0 x1 x2 x3 x4 x5 hHeld
    go_wp2_with fail
    refine (plain_any xa v4 (by omega)).mono ?_
    rintro e u2 ⟨nc, lc, dc, cc, rfl, hb2, hpa⟩
    obtain ⟨rfl, hpr⟩ := plain_R hpa
    rw [HXA.out, norm_plain HR1.out] at hpr
    rcases hpr with ⟨rfl, hpr, q1, q2⟩ | ⟨_, _, _, hpr⟩
    case inr => cases hpr
    simp only [Option.some.injEq, Prod.mk.injEq] at hpr
    obtain ⟨e1, e2⟩ := hpr
    have HL : Hid (nums lc = (nums l).map smallZ) := e1.symm
    have HD : Hid (nums dc = (nums d).map smallZ) := e2.symm
    have HBU : Hid (Below w.heap.size w u2) := HBZ.out.trans (hb2.mono HBZ.out.size)
    have HAU : Hid (AAt (u2.alloc (.cells #[.string ⟨#[]⟩, .string lc, .string dc] 24)) u2.heap.size ⟨#[]⟩ lc dc) := aat_new u2 _ _ _
    clear e1 e2 hpa hb2
    unfold addrV
    have hsu := HBU.out.size
    go_wp2_with fail
    refine (alive_any _).mono ?_
    rintro e u3 ⟨rfl, hb3⟩
    obtain ⟨_, y0, y1, y2⟩ := HAU.out.below hb3
    have HBV : Hid (Below w.heap.size w u3) := (HBU.out.alloc hsu _).trans (hb3.mono (by simp; omega))
    clear hb3
    have hnc := normal_any ⟨#[]⟩ lc dc u3 (by decide) (by omega) (by omega)
    rw [HL.out, HD.out, show rightZ (nums (⟨#[]⟩ : ByteArray)) ((nums l).map smallZ) ((nums d).map smallZ) = true from right_small HR1.out] at hnc
    unfold addrV at hnc
    go_wp2_with (go_at_call 15; refine hnc.mono ?_; rintro e u4 ⟨x, rfl, hb4, hna⟩; obtain rfl : x = xa := nums_inj ((hna.1 rfl).trans ((norm_norm _ _).trans HXA.out.symm)))
    go_ret
    exact ⟨rfl, HBV.out.trans (hb4.mono HBV.out.size)⟩

set_option maxRecDepth 100000 in
theorem lifted (os : Os) (started : os.Started) (H : Type) (enc : TypeId × Value → H) :
    ReturnsInHanded {} Tryd.checked os 5 .any (fun w args => (Rows.addrNormalSpec.pre enc Tryd.prog Tryd.f5 Rows.addrNormalRow.domain false w args ∧ laidMetH Tryd.prog Rows.addrNormalRow.laid w) ∧ sizedMet enc Tryd.prog Tryd.f5 (OpenSpec.ofChange Rows.addrNormalSpec) false w args)
      (Rows.addrNormalSpec.post enc Tryd.prog Tryd.f5 false true false false) := by
  refine returnsInHanded_of_change_and (C := Tryd.checked) (X := fun w _ => laidMetH Tryd.prog Rows.addrNormalRow.laid w) (fun _ _ _ hh h => h.of_heap hh) own started (by kernel_rfl) Tryd.func5
    (ChangeSpec.witness_shaped (enc := enc) (C := Tryd.checked) (os := os) (X := fun w _ => laidMetH Tryd.prog Rows.addrNormalRow.laid w) false (World.laidAll Tryd.prog os Rows.addrNormalRow.laid) #[.agg #[.string ⟨#[]⟩, .string ⟨#[]⟩, .string ⟨#[]⟩], .agg #[.string ⟨#[]⟩, .string ⟨#[]⟩, .string ⟨#[]⟩]] 8 (World.laidAll_os _ _ _)
      (World.shaped_of_ZipB (by kernel_rfl) (by kernel_rfl)) (by kernel_rfl) (by kernel_rfl) (by kernel_rfl)
      (by rw [MakeChecks.laidMetH_plain _ _ _ (by kernel_rfl)]; exact laidMet_laidAll _ (by kernel_rfl) (by kernel_rfl))) ?_
  intro W base args ds gs before hval0 hW hcnd hsz0 hL _
  have hval : ∀ (j : Nat) t v, Tryd.f5.params[j]? = some t → args[j]? = some v → Value.okWide Tryd.prog W .any base t v := hval0
  have hsz : (DataW.weightsEach Tryd.prog (Tryd.f5.params.toList ++ Rows.addrNormalSpec.plain.varTypes Tryd.prog) (ds ++ gs)).all (· ≤ reachBytes) = true := hsz0
  have hW' := hW
  obtain ⟨p, q, hA0, hV, rfl, hfz, hnd⟩ := hW
  have hA : DataW.TrodAll enc Tryd.prog W 0 (fun _ => true) true Tryd.f5.params.toList args.toList ds p := hA0
  rw [Tryd.params5] at hA hval hsz
  obtain ⟨v0, vs0, d0, ds0, p0, q0, hargs, rfl, rfl, h0, r0⟩ := trodAll_cons hA
  obtain ⟨v1, vs1, d1, ds1, p1, q1, rfl, rfl, rfl, h1, r1⟩ := trodAll_cons r0
  obtain ⟨rfl, rfl, rfl⟩ := trodAll_nil r1
  obtain rfl : args = #[v0, v1] := by cases args; simp_all
  obtain ⟨rfl, rfl⟩ := trodVars_none hV
  have k0 := h0
  have lt0 : ∀ x ∈ p0, x.block < W.heap.size := by obtain ⟨m, hm⟩ := k0; exact DataW.trod_lt m _ _ _ hm
  obtain ⟨n0, l0, e0, rfl, w0⟩ := addr_arg (hval 0 24 v0 rfl rfl) h0 (fun n hn => by simpa using List.all_eq_true.1 hsz n (DataW.weights_mem_each (j := 0) rfl rfl n hn))
  have k1 := h1
  have lt1 : ∀ x ∈ p1, x.block < W.heap.size := by obtain ⟨m, hm⟩ := k1; exact DataW.trod_lt m _ _ _ hm
  obtain ⟨n1, l1, e1, rfl, w1⟩ := addr_arg (hval 1 24 v1 rfl rfl) h1 (fun n hn => by simpa using List.all_eq_true.1 hsz n (DataW.weights_mem_each (j := 1) rfl rfl n hn))
  clear hA0 hval0
  refine (walk n0 l0 e0 n1 l1 e1 W w0 w1).mono fun e W' ⟨he, bel⟩ => ?_
  subst he
  exact ⟨_, rfl, _, _, _, [], _, [], hW', trodAll_mk1 (shut_bool Tryd.underlying4 _), (trodAll_cons_mk (Below.trod laidOut (by kernel_rfl) (of_decide_eq_true (by kernel_rfl)) k0 bel lt0) (trodAll_cons_mk (Below.trod laidOut (by kernel_rfl) (of_decide_eq_true (by kernel_rfl)) k1 bel lt1) trodAll_mk0)), rfl, bel.frame _, fun h => by cases h⟩

theorem over : Rows.AddrNormalSaid :=
  OpenClaim.holds_of_wide 5 Tryd.f5 rfl rfl rfl rfl rfl rfl rfl ⟨rfl, rfl, rfl, rfl, rfl⟩ rfl rfl rfl rfl rfl (by kernel_rfl) Tryd.func5 (by kernel_rfl)
    (of_decide_eq_true (by kernel_rfl)) (by unfold Func.isWrapper; first | (rw [if_pos (by decide +kernel)]; kernel_rfl) | (rw [if_neg (by decide +kernel)]; exact ⟨rfl, rfl⟩))
    (fun os started H enc _ => lifted os started H enc)
end Go.Proofs.YtedbgjpjipblcaaDoor.addrNormal
namespace Go.Proofs.YtedbgjpjipblcaaDoor
theorem addrNormal_card : Rows.AddrNormalCardSaid :=
  Claim7.holds_tied_plain_at .later [] _ _ _ _ addrNormal.over (fun _ h => by cases h) (by kernel_rfl) (fun _ h => by cases h) addrNormal_row_tie rfl ⟨rfl, rfl⟩ (by kernel_rfl) rfl
    (fun f fn hf hfn => by
      obtain rfl : f = 5 := Option.some.inj ((show Tryd.prog.funcNamed Rows.addrNormalRow.func = some 5 by kernel_rfl).symm.trans hf) |>.symm
      obtain rfl : fn = Tryd.f5 := (Option.some.inj (Tryd.func5.symm.trans hfn)).symm
      exact ⟨by kernel_rfl, fun j t ht => by
        rw [Tryd.params5] at ht
        have hm : t ∈ [24, 24] := by simpa using Array.mem_of_getElem? ht
        have hall : ([24, 24].all fun u => !Tryd.prog.wantsStandIn u) = true := by kernel_rfl
        exact (show Tryd.prog.wantsStandIn t = false by simpa using List.all_eq_true.1 hall t hm)⟩)
    (by kernel_rfl)
#print axioms addrNormal_card
end Go.Proofs.YtedbgjpjipblcaaDoor
