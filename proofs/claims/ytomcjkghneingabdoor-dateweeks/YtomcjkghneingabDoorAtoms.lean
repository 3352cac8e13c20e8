/-
  The contracts of strings.SplitSeq, isAtoms and isDomain.
-/
import Derived.Test.YtomcjkghneingabDoorSplit
namespace Go.Proofs.YtomcjkghneingabDoor
open Go.RowKit Go.Shelf
set_option linter.unusedVariables false
attribute [local go_sem] Oper.semAt_some

/-- The world behind SplitSeq. -/
def spW (w : World) (s b : ByteArray) : World := ((w.alloc (.cells #[.string s] 9)).alloc (.cells #[.string b] 9)).alloc (.cells #[.int .i64 0] 3)
set_option maxRecDepth 100000 in
theorem splitSeq_any (s b : ByteArray) (w : World) : Calls Tryd.prog 53 #[.string s, .string b] w fun e w' => e = .returned (.func (.func 71) #[] #[.pointer (some ⟨w.heap.size + 1, 0, none⟩), .pointer (some ⟨w.heap.size, 0, none⟩), .pointer (some ⟨w.heap.size + 2, 0, none⟩)]) ∧ w' = spW w s b := by
  have hin : Calls Tryd.prog 65 #[.string s, .string b, .int .i64 0] w fun e w' => e = .returned (.func (.func 71) #[] #[.pointer (some ⟨w.heap.size + 1, 0, none⟩), .pointer (some ⟨w.heap.size, 0, none⟩), .pointer (some ⟨w.heap.size + 2, 0, none⟩)]) ∧ w' = spW w s b := by
    go_enter Tryd.func65, Tryd.ntmps65
    go_wp2
    go_ret
    exact ⟨rfl, rfl⟩
  go_enter Tryd.func53, Tryd.ntmps53
  go_wp2_with (go_at_call 65; refine hin.mono ?_; rintro e w' ⟨rfl, rfl⟩)
  go_ret
  exact ⟨rfl, rfl⟩
theorem sp_facts (w : World) (s b : ByteArray) : Below w.heap.size w (spW w s b) ∧ (spW w s b).heap.size = w.heap.size + 3 ∧ Sx (spW w s b) w.heap.size s ∧ (spW w s b).cell? ⟨w.heap.size + 1, 0, none⟩ = some (.string b) ∧ (spW w s b).cell? ⟨w.heap.size + 2, 0, none⟩ = some (.int .i64 0) := by
  have e1 : (w.alloc (.cells #[.string s] 9)).heap.size = w.heap.size + 1 := by simp
  have e2 : ((w.alloc (.cells #[.string s] 9)).alloc (.cells #[.string b] 9)).heap.size = w.heap.size + 2 := by simp
  refine ⟨((keep w _).alloc (by simp) _).alloc (by simp; omega) _, by unfold spW; simp, ?_, ?_, ?_⟩
  · unfold Sx spW
    rw [Below.heap_alloc _ _ _ (by simp; omega), Below.heap_alloc _ _ _ (by simp)]
    exact World.alloc_heap_new w _
  · have h := (keep ((w.alloc (.cells #[.string s] 9)).alloc (.cells #[.string b] 9)) (.cells #[.int .i64 0] 3)).cell (p := ⟨w.heap.size + 1, 0, none⟩) (by simp)
    unfold spW
    rw [h, ← e1, World.cell?_alloc_mark]; rfl
  · unfold spW
    rw [← e2, World.cell?_alloc_mark]; rfl
/-- Is a text one atom? -/
def atomZ (l : List Int) : Bool := !l.isEmpty && l.all atomC
def atomsZ (c : Int) (l : List Int) : Bool := (pieces c l).all atomZ
set_option maxHeartbeats 4000000 in
set_option maxRecDepth 100000 in
theorem isAtoms_any (s : ByteArray) (u : UInt8) (w : World) (hs : s.size ≤ 1000000000) :
    Calls Tryd.prog 52 #[.string s, .string ⟨#[u]⟩] w fun e w' => e = .returned (.bool (atomsZ (u.toNat : Int) (nums s))) ∧ Below w.heap.size w w' := by
  obtain ⟨hB0, hz, hS, hp, hzz⟩ := sp_facts (w.alloc (.cells #[.bool false] 4)) s ⟨#[u]⟩
  have hR : (spW (w.alloc (.cells #[.bool false] 4)) s ⟨#[u]⟩).heap[w.heap.size]? = some (.cells #[.bool false] 4 (0, 0)) := (hB0.block _ (by simp)).trans (World.alloc_heap_new w _)
  have hB1 : Below w.heap.size w (spW (w.alloc (.cells #[.bool false] 4)) s ⟨#[u]⟩) := (keep w _).trans (hB0.mono (by simp))
  rw [show (w.alloc (.cells #[.bool false] 4)).heap.size = w.heap.size + 1 from by simp] at hz hS hp hzz
  refine (callsIn_wide (n := 20)).1 ?_
  refine callsIn_of_wp_marks Tryd.func52 rfl trivial ?_ rfl
  simp only [Tryd.ntmps52, List.size_toArray, List.length_cons, List.length_nil, Nat.reduceAdd, Nat.reduceSub, Array.replicate_succ, Array.replicate_zero, List.push_toArray, List.append_toArray, List.nil_append, List.cons_append]
  gi_wp2_with (refine ⟨trivial, ?_⟩; gi_at_call 53; refine (callsIn_wide.2 (splitSeq_any s ⟨#[u]⟩ _)).mono ?_; rintro e w' ⟨rfl, rfl⟩)
  generalize spW (w.alloc (.cells #[.bool false] 4)) s ⟨#[u]⟩ = W0 at hz hS hp hzz hR hB1 ⊢
  refine range_split 20 (by omega) (w.heap.size + 1 + 1) (w.heap.size + 1) (w.heap.size + 1 + 2) w.heap.size u s atomZ hs rfl hS hp hzz (by omega) (by omega) hR (by omega)
    (fun x => { tmps := #[.string s, .string ⟨#[u]⟩, undef, undef, .pointer (some ⟨w.heap.size, 0, none⟩), .string x, .string s, .string ⟨#[u]⟩, .func (.func 71) #[] #[.pointer (some ⟨w.heap.size + 1 + 1, 0, none⟩), .pointer (some ⟨w.heap.size + 1, 0, none⟩), .pointer (some ⟨w.heap.size + 1 + 2, 0, none⟩)], .string x, undef, undef, undef, undef, undef, undef, undef], defers := [] }) ?assign ?body ?done ?stop
  case assign =>
    intro l x W K hK
    gi_wp2
    exact hK
  case body =>
    intro l x W hx hk
    have hWR : W.heap[w.heap.size]? = some (.cells #[.bool false] 4 (0, 0)) := (hk.block (by omega) (Array.getElem?_eq_some_iff.1 hR).1).trans hR
    have c0 : W.cell? ⟨w.heap.size, 0, none⟩ = some (.bool false) := by rw [cell_of_row _ _ _ _ _ _ hWR]; rfl
    have f0 : W.frozen? ⟨w.heap.size, 0, none⟩ = false := frozen_of_row _ _ _ _ _ hWR
    have he := empty_list x
    have hstand := CallsIn.inRound l ((callsIn_wide (n := 17)).2 (stand_any x 1 atomC place1 W hx))
    by_cases h0 : x.size = 0
    · have HA : Hid (atomZ (nums x) = false) := by unfold Hid atomZ; rw [empty_nums, decide_eq_true h0]; rfl
      rw [decide_eq_true h0] at he
      have he2 : x.toList = [] := by simpa using he
      gi_wp2
      refine ⟨trivial, ?_⟩
      gi_wp2
      exact ⟨HA.out, rfl⟩
    · rw [decide_eq_false h0] at he
      have he2 : ¬ x.toList = [] := by simpa using he
      cases hal : (nums x).all atomC with
      | true =>
        have HA : Hid (atomZ (nums x) = true) := by unfold Hid atomZ; rw [empty_nums, decide_eq_false h0, hal]; rfl
        rw [hal] at hstand
        gi_wp2_with (refine ⟨trivial, ?_⟩; gi_at_call 64; refine hstand.mono ?_; rintro e w' ⟨rfl, rfl⟩)
        exact ⟨HA.out, rfl⟩
      | false =>
        have HA : Hid (atomZ (nums x) = false) := by unfold Hid atomZ; rw [hal]; simp
        rw [hal] at hstand
        gi_wp2_with (refine ⟨trivial, ?_⟩; gi_at_call 64; refine hstand.mono ?_; rintro e w' ⟨rfl, rfl⟩)
        exact ⟨HA.out, rfl⟩
  case done =>
    intro D W hD hk hall hK
    have hWR : W.heap[w.heap.size]? = some (.cells #[.bool false] 4 (0, 0)) := (hk.block (by omega) (Array.getElem?_eq_some_iff.1 hR).1).trans hR
    have c0 : W.cell? ⟨w.heap.size, 0, none⟩ = some (.bool false) := by rw [cell_of_row _ _ _ _ _ _ hWR]; rfl
    have f0 : W.frozen? ⟨w.heap.size, 0, none⟩ = false := frozen_of_row _ _ _ _ _ hWR
    gi_wp2
    have hW2 : (W.setCell ⟨w.heap.size, 0, none⟩ (.bool true)).heap[w.heap.size]? = some (.cells #[.bool true] 4 (0, 0)) := heap_setCell_same _ _ 0 _ 4 _ hWR
    have hK2 : (W.setCell ⟨w.heap.size, 0, none⟩ (.bool true)).heap[D]? = some (.deferred (some [])) := (heap_setCell_other _ _ _ _ (by simp; omega)).trans hK
    have hW3 : ((W.setCell ⟨w.heap.size, 0, none⟩ (.bool true)).putObj D (.deferred none)).heap[w.heap.size]? = some (.cells #[.bool true] 4 (0, 0)) := (World.putObj_heap_other (by omega)).trans hW2
    have d0 := cell_of_row _ _ 0 _ _ _ hW3
    simp only [List.getElem?_toArray, List.getElem?_cons_zero] at d0
    refine ⟨by simp, .inl ⟨_, _, rfl, run_takeDeferred hK2, ?_⟩⟩
    refine ⟨.bool true, by simp [results, Tryd.results52, go_sem, d0], by rw [show atomsZ (u.toNat : Int) (nums s) = true from hall], ?_⟩
    have hBW : Below w.heap.size w W := hB1.trans (hk.1.mono (by omega))
    exact (hBW.setCell (p := ⟨w.heap.size, 0, none⟩) (by simp) _).trans (belowK_b (w := w) (Nat.le_refl _) _ D _ _ (by omega) hK2 rfl rfl)
  case stop =>
    intro D W hD hk hall hK
    have hWR : W.heap[w.heap.size]? = some (.cells #[.bool false] 4 (0, 0)) := (hk.block (by omega) (Array.getElem?_eq_some_iff.1 hR).1).trans hR
    gi_wp2
    have hW3 : (W.putObj D (.deferred none)).heap[w.heap.size]? = some (.cells #[.bool false] 4 (0, 0)) := (World.putObj_heap_other (by omega)).trans hWR
    have d0 := cell_of_row _ _ 0 _ _ _ hW3
    simp only [List.getElem?_toArray, List.getElem?_cons_zero] at d0
    refine ⟨by simp, .inl ⟨_, _, rfl, run_takeDeferred hK, ?_⟩⟩
    refine ⟨.bool false, by simp [results, Tryd.results52, go_sem, d0], by rw [show atomsZ (u.toNat : Int) (nums s) = false from hall], ?_⟩
    have hBW : Below w.heap.size w W := hB1.trans (hk.1.mono (by omega))
    exact hBW.trans (belowK_b (w := w) (Nat.le_refl _) _ D _ _ (by omega) hK rfl rfl)
def domainZ (l : List Int) : Bool := decide (l.length ≤ 253) && (pieces 46 l).all labelZ
set_option maxHeartbeats 4000000 in
set_option maxRecDepth 100000 in
theorem isDomain_any (s : ByteArray) (w : World) (hs : s.size ≤ 1000000000) :
    Calls Tryd.prog 36 #[.string s] w fun e w' => e = .returned (.bool (domainZ (nums s))) ∧ Below w.heap.size w w' := by
  by_cases h253 : 253 < s.size
  · have hd : decide ((s.size : Int) > 253) = true := decide_eq_true (by omega)
    have HZ : Hid (domainZ (nums s) = false) := by unfold Hid domainZ; rw [nums_len, decide_eq_false (by omega)]; rfl
    have c0 : (w.alloc (.cells #[.bool false] 4)).cell? ⟨w.heap.size, 0, none⟩ = some (.bool false) := by rw [World.cell?_alloc_mark]; rfl
    go_enter Tryd.func36, Tryd.ntmps36
    go_wp2
    (try simp only [Exit.inBlock, Exit.then])
    refine bodyPost_ret (v := .bool false) (by simp [results, Tryd.results36, go_sem, c0]) rfl ⟨by rw [HZ.out], keep w _⟩
  have hd : decide ((s.size : Int) > 253) = false := decide_eq_false (by omega)
  have HZ : Hid (domainZ (nums s) = (pieces (((46 : UInt8).toNat : Nat) : Int) (nums s)).all labelZ) := by unfold Hid domainZ; rw [nums_len, decide_eq_true (by omega)]; rfl
  obtain ⟨hB0, hz, hS, hp, hzz⟩ := sp_facts (w.alloc (.cells #[.bool false] 4)) s ⟨#[46]⟩
  have hR : (spW (w.alloc (.cells #[.bool false] 4)) s ⟨#[46]⟩).heap[w.heap.size]? = some (.cells #[.bool false] 4 (0, 0)) := (hB0.block _ (by simp)).trans (World.alloc_heap_new w _)
  have hB1 : Below w.heap.size w (spW (w.alloc (.cells #[.bool false] 4)) s ⟨#[46]⟩) := (keep w _).trans (hB0.mono (by simp))
  rw [show (w.alloc (.cells #[.bool false] 4)).heap.size = w.heap.size + 1 from by simp] at hz hS hp hzz
  refine (callsIn_wide (n := 20)).1 ?_
  refine callsIn_of_wp_marks Tryd.func36 rfl trivial ?_ rfl
  simp only [Tryd.ntmps36, List.size_toArray, List.length_cons, List.length_nil, Nat.reduceAdd, Nat.reduceSub, Array.replicate_succ, Array.replicate_zero, List.push_toArray, List.append_toArray, List.nil_append, List.cons_append]
  gi_wp2_with (refine ⟨trivial, ?_⟩; gi_at_call 53; refine (callsIn_wide.2 (splitSeq_any s ⟨#[46]⟩ _)).mono ?_; rintro e w' ⟨rfl, rfl⟩)
  generalize spW (w.alloc (.cells #[.bool false] 4)) s ⟨#[46]⟩ = W0 at hz hS hp hzz hR hB1 ⊢
  refine range_split 20 (by omega) (w.heap.size + 1 + 1) (w.heap.size + 1) (w.heap.size + 1 + 2) w.heap.size 46 s labelZ hs rfl hS hp hzz (by omega) (by omega) hR (by omega)
    (fun x => { tmps := #[.string s, undef, .pointer (some ⟨w.heap.size, 0, none⟩), .string x, .string s, .int .i64 s.size, .bool false, .string s, .func (.func 71) #[] #[.pointer (some ⟨w.heap.size + 1 + 1, 0, none⟩), .pointer (some ⟨w.heap.size + 1, 0, none⟩), .pointer (some ⟨w.heap.size + 1 + 2, 0, none⟩)], .string x, undef, undef, undef], defers := [] }) ?assign ?body ?done ?stop
  case assign =>
    intro l x W K hK
    gi_wp2
    exact hK
  case body =>
    intro l x W hx hk
    have hWR : W.heap[w.heap.size]? = some (.cells #[.bool false] 4 (0, 0)) := (hk.block (by omega) (Array.getElem?_eq_some_iff.1 hR).1).trans hR
    have c0 : W.cell? ⟨w.heap.size, 0, none⟩ = some (.bool false) := by rw [cell_of_row _ _ _ _ _ _ hWR]; rfl
    have f0 : W.frozen? ⟨w.heap.size, 0, none⟩ = false := frozen_of_row _ _ _ _ _ hWR
    have hlab := CallsIn.inRound l ((callsIn_wide (n := 17)).2 (isLabel_any x W hx))
    cases hal : labelZ (nums x) with
    | true =>
      have HA : Hid (labelZ (nums x) = true) := hal
      rw [hal] at hlab
      gi_wp2_with (refine ⟨trivial, ?_⟩; gi_at_call 54; refine hlab.mono ?_; rintro e w' ⟨rfl, rfl⟩)
      exact ⟨HA.out, rfl⟩
    | false =>
      have HA : Hid (labelZ (nums x) = false) := hal
      rw [hal] at hlab
      gi_wp2_with (refine ⟨trivial, ?_⟩; gi_at_call 54; refine hlab.mono ?_; rintro e w' ⟨rfl, rfl⟩)
      exact ⟨HA.out, rfl⟩
  case done =>
    intro D W hD hk hall hK
    have hWR : W.heap[w.heap.size]? = some (.cells #[.bool false] 4 (0, 0)) := (hk.block (by omega) (Array.getElem?_eq_some_iff.1 hR).1).trans hR
    have c0 : W.cell? ⟨w.heap.size, 0, none⟩ = some (.bool false) := by rw [cell_of_row _ _ _ _ _ _ hWR]; rfl
    have f0 : W.frozen? ⟨w.heap.size, 0, none⟩ = false := frozen_of_row _ _ _ _ _ hWR
    gi_wp2
    have hW2 : (W.setCell ⟨w.heap.size, 0, none⟩ (.bool true)).heap[w.heap.size]? = some (.cells #[.bool true] 4 (0, 0)) := heap_setCell_same _ _ 0 _ 4 _ hWR
    have hK2 : (W.setCell ⟨w.heap.size, 0, none⟩ (.bool true)).heap[D]? = some (.deferred (some [])) := (heap_setCell_other _ _ _ _ (by simp; omega)).trans hK
    have hW3 : ((W.setCell ⟨w.heap.size, 0, none⟩ (.bool true)).putObj D (.deferred none)).heap[w.heap.size]? = some (.cells #[.bool true] 4 (0, 0)) := (World.putObj_heap_other (by omega)).trans hW2
    have d0 := cell_of_row _ _ 0 _ _ _ hW3
    simp only [List.getElem?_toArray, List.getElem?_cons_zero] at d0
    refine ⟨by simp, .inl ⟨_, _, rfl, run_takeDeferred hK2, ?_⟩⟩
    refine ⟨.bool true, by simp [results, Tryd.results36, go_sem, d0], by rw [HZ.out, hall], ?_⟩
    have hBW : Below w.heap.size w W := hB1.trans (hk.1.mono (by omega))
    exact (hBW.setCell (p := ⟨w.heap.size, 0, none⟩) (by simp) _).trans (belowK_b (w := w) (Nat.le_refl _) _ D _ _ (by omega) hK2 rfl rfl)
  case stop =>
    intro D W hD hk hall hK
    have hWR : W.heap[w.heap.size]? = some (.cells #[.bool false] 4 (0, 0)) := (hk.block (by omega) (Array.getElem?_eq_some_iff.1 hR).1).trans hR
    gi_wp2
    have hW3 : (W.putObj D (.deferred none)).heap[w.heap.size]? = some (.cells #[.bool false] 4 (0, 0)) := (World.putObj_heap_other (by omega)).trans hWR
    have d0 := cell_of_row _ _ 0 _ _ _ hW3
    simp only [List.getElem?_toArray, List.getElem?_cons_zero] at d0
    refine ⟨by simp, .inl ⟨_, _, rfl, run_takeDeferred hK, ?_⟩⟩
    refine ⟨.bool false, by simp [results, Tryd.results36, go_sem, d0], by rw [HZ.out, hall], ?_⟩
    have hBW : Below w.heap.size w W := hB1.trans (hk.1.mono (by omega))
    exact hBW.trans (belowK_b (w := w) (Nat.le_refl _) _ D _ _ (by omega) hK rfl rfl)
end Go.Proofs.YtomcjkghneingabDoor
