/-
  Names of days and months: the contracts of weekdayOf and monthOf.
-/
import Derived.Test.YtomcjkghneingabDoorTd
namespace Go.Proofs.YtomcjkghneingabDoor
open Go.RowKit
set_option linter.unusedVariables false
set_option linter.unusedSimpArgs false

theorem dayL_byt (n : Int) : Byt (dayL n) := by
  unfold dayL
  repeat' split
  all_goals (unfold Byt; decide)
theorem monL_byt (n : Int) : Byt (monL n) := by
  unfold monL
  repeat' split
  all_goals (unfold Byt; decide)
def wofZ (l : List Int) : Int := match (List.range 7).find? (fun i : Nat => sameZ l (dayL (i))) with | some i => (i : Int) | none => -1
theorem wof_hit {l : List Int} {k : Nat} (hk : k < 7) (h : sameZ l (dayL (k)) = true) (hn : ∀ i : Nat, i < k → sameZ l (dayL (i)) = false) : wofZ l = (k : Int) := by
  unfold wofZ
  rw [List.find?_range_eq_some.2 ⟨h, List.mem_range.2 hk, fun j hj => by rw [hn j hj]; rfl⟩]
theorem wof_miss {l : List Int} (hn : ∀ i : Nat, i < 7 → sameZ l (dayL (i)) = false) : wofZ l = -1 := by
  unfold wofZ
  rw [List.find?_range_eq_none.2 (fun i hi => by rw [hn i hi]; rfl)]
set_option maxHeartbeats 16000000 in
set_option maxRecDepth 100000 in
theorem wof_any (s : ByteArray) (w : World) (hs : s.size ≤ 100000000) (hg : Gl w) : Calls Tryd.prog 28 #[.string s] w fun e w' => e = .returned (.int .i64 (wofZ (nums s))) ∧ Below w.heap.size w w' := by
  obtain ⟨D0, hD0⟩ : ∃ x, strOfNums (dayL (((0 : Nat) : Int))) = x := ⟨_, rfl⟩
  have x0 : w.cell? ⟨0, 0, none⟩ = some (.string D0) := by rw [← hD0]; exact hg.dn 0 (by decide)
  have H0 : Hid (nums D0 = dayL (((0 : Nat) : Int))) := by unfold Hid; rw [← hD0]; exact nums_str (dayL_byt _)
  obtain ⟨D1, hD1⟩ : ∃ x, strOfNums (dayL (((1 : Nat) : Int))) = x := ⟨_, rfl⟩
  have x1 : w.cell? ⟨0, 1, none⟩ = some (.string D1) := by rw [← hD1]; exact hg.dn 1 (by decide)
  have H1 : Hid (nums D1 = dayL (((1 : Nat) : Int))) := by unfold Hid; rw [← hD1]; exact nums_str (dayL_byt _)
  obtain ⟨D2, hD2⟩ : ∃ x, strOfNums (dayL (((2 : Nat) : Int))) = x := ⟨_, rfl⟩
  have x2 : w.cell? ⟨0, 2, none⟩ = some (.string D2) := by rw [← hD2]; exact hg.dn 2 (by decide)
  have H2 : Hid (nums D2 = dayL (((2 : Nat) : Int))) := by unfold Hid; rw [← hD2]; exact nums_str (dayL_byt _)
  obtain ⟨D3, hD3⟩ : ∃ x, strOfNums (dayL (((3 : Nat) : Int))) = x := ⟨_, rfl⟩
  have x3 : w.cell? ⟨0, 3, none⟩ = some (.string D3) := by rw [← hD3]; exact hg.dn 3 (by decide)
  have H3 : Hid (nums D3 = dayL (((3 : Nat) : Int))) := by unfold Hid; rw [← hD3]; exact nums_str (dayL_byt _)
  obtain ⟨D4, hD4⟩ : ∃ x, strOfNums (dayL (((4 : Nat) : Int))) = x := ⟨_, rfl⟩
  have x4 : w.cell? ⟨0, 4, none⟩ = some (.string D4) := by rw [← hD4]; exact hg.dn 4 (by decide)
  have H4 : Hid (nums D4 = dayL (((4 : Nat) : Int))) := by unfold Hid; rw [← hD4]; exact nums_str (dayL_byt _)
  obtain ⟨D5, hD5⟩ : ∃ x, strOfNums (dayL (((5 : Nat) : Int))) = x := ⟨_, rfl⟩
  have x5 : w.cell? ⟨0, 5, none⟩ = some (.string D5) := by rw [← hD5]; exact hg.dn 5 (by decide)
  have H5 : Hid (nums D5 = dayL (((5 : Nat) : Int))) := by unfold Hid; rw [← hD5]; exact nums_str (dayL_byt _)
  obtain ⟨D6, hD6⟩ : ∃ x, strOfNums (dayL (((6 : Nat) : Int))) = x := ⟨_, rfl⟩
  have x6 : w.cell? ⟨0, 6, none⟩ = some (.string D6) := by rw [← hD6]; exact hg.dn 6 (by decide)
  have H6 : Hid (nums D6 = dayL (((6 : Nat) : Int))) := by unfold Hid; rw [← hD6]; exact nums_str (dayL_byt _)
  have j0 : ∀ V : World, (Instr.index 38 (.agg #[.string D0, .string D1, .string D2, .string D3, .string D4, .string D5, .string D6]) (.int .i64 0)).run Tryd.prog V = .ok (.string D0) V := fun _ => by kernel_rfl
  have j1 : ∀ V : World, (Instr.index 38 (.agg #[.string D0, .string D1, .string D2, .string D3, .string D4, .string D5, .string D6]) (.int .i64 1)).run Tryd.prog V = .ok (.string D1) V := fun _ => by kernel_rfl
  have j2 : ∀ V : World, (Instr.index 38 (.agg #[.string D0, .string D1, .string D2, .string D3, .string D4, .string D5, .string D6]) (.int .i64 2)).run Tryd.prog V = .ok (.string D2) V := fun _ => by kernel_rfl
  have j3 : ∀ V : World, (Instr.index 38 (.agg #[.string D0, .string D1, .string D2, .string D3, .string D4, .string D5, .string D6]) (.int .i64 3)).run Tryd.prog V = .ok (.string D3) V := fun _ => by kernel_rfl
  have j4 : ∀ V : World, (Instr.index 38 (.agg #[.string D0, .string D1, .string D2, .string D3, .string D4, .string D5, .string D6]) (.int .i64 4)).run Tryd.prog V = .ok (.string D4) V := fun _ => by kernel_rfl
  have j5 : ∀ V : World, (Instr.index 38 (.agg #[.string D0, .string D1, .string D2, .string D3, .string D4, .string D5, .string D6]) (.int .i64 5)).run Tryd.prog V = .ok (.string D5) V := fun _ => by kernel_rfl
  have j6 : ∀ V : World, (Instr.index 38 (.agg #[.string D0, .string D1, .string D2, .string D3, .string D4, .string D5, .string D6]) (.int .i64 6)).run Tryd.prog V = .ok (.string D6) V := fun _ => by kernel_rfl
  clear hg hD0 hD1 hD2 hD3 hD4 hD5 hD6
  have HSM : Hid (∀ (t : ByteArray) (V : World), Calls Tryd.prog 34 #[.string s, .string t] V fun e w' => e = .returned (.bool (sameZ (nums s) (nums t))) ∧ Below V.heap.size V w') := fun t V => same_any s t V hs
  go_enter Tryd.func28, Tryd.ntmps28
  go_wp2
  go_loopw [6, 3, 4] (fun v _ _ wr => ∃ k : Nat, v = .int .i64 k ∧ k ≤ 7 ∧ Hid (Below w.heap.size w wr) ∧ Hid (∀ i : Nat, i < k → sameZ (nums s) (dayL (i)) = false)) (fun v _ _ _ => 7 - (intOf v).toNat)
  case atStart => exact ⟨0, rfl, by omega, Below.refl _ _, fun i hi => by omega⟩
  case round =>
    obtain ⟨k, rfl, hk, HB, HN⟩ := hrel
    by_cases hlt : k < 7
    rotate_left
    · obtain rfl : k = 7 := by omega
      have HZ : Hid (wofZ (nums s) = -1) := wof_miss HN.out
      go_wp2
      go_ret
      exact ⟨by rw [HZ.out] <;> rfl, HB.out⟩
    have hcs : k = 0 ∨ k = 1 ∨ k = 2 ∨ k = 3 ∨ k = 4 ∨ k = 5 ∨ k = 6 := by omega
    rcases hcs with rfl | rfl | rfl | rfl | rfl | rfl | rfl
    · have hc := HSM.out D0 wr
      rw [H0.out] at hc
      cases hq : sameZ (nums s) (dayL (((0 : Nat) : Int))) with
      | true =>
        rw [hq] at hc
        have HZ : Hid (wofZ (nums s) = ((0 : Nat) : Int)) := wof_hit (by decide) hq HN.out
        clear hq
        go_wp2_with fail
        refine hc.mono ?_
        rintro e w2 ⟨rfl, hb⟩
        have hb2 := HB.out.trans (hb.mono HB.out.size)
        go_wp2
        go_ret
        exact ⟨by rw [HZ.out] <;> rfl, hb2⟩
      | false =>
        rw [hq] at hc
        have HN2 : Hid (∀ i : Nat, i < 1 → sameZ (nums s) (dayL (i)) = false) := fun i hi => by
          by_cases e : i = 0
          · subst e; exact hq
          · exact HN.out i (by omega)
        clear hq
        go_wp2_with fail
        refine hc.mono ?_
        rintro e w2 ⟨rfl, hb⟩
        have HB2 : Hid (Below w.heap.size w w2) := HB.out.trans (hb.mono HB.out.size)
        clear hb
        go_wp2
        go_roundw
        case rel => exact ⟨1, rfl, by omega, HB2, HN2⟩
        case measure => simp [intOf]
    · have hc := HSM.out D1 wr
      rw [H1.out] at hc
      cases hq : sameZ (nums s) (dayL (((1 : Nat) : Int))) with
      | true =>
        rw [hq] at hc
        have HZ : Hid (wofZ (nums s) = ((1 : Nat) : Int)) := wof_hit (by decide) hq HN.out
        clear hq
        go_wp2_with fail
        refine hc.mono ?_
        rintro e w2 ⟨rfl, hb⟩
        have hb2 := HB.out.trans (hb.mono HB.out.size)
        go_wp2
        go_ret
        exact ⟨by rw [HZ.out] <;> rfl, hb2⟩
      | false =>
        rw [hq] at hc
        have HN2 : Hid (∀ i : Nat, i < 2 → sameZ (nums s) (dayL (i)) = false) := fun i hi => by
          by_cases e : i = 1
          · subst e; exact hq
          · exact HN.out i (by omega)
        clear hq
        go_wp2_with fail
        refine hc.mono ?_
        rintro e w2 ⟨rfl, hb⟩
        have HB2 : Hid (Below w.heap.size w w2) := HB.out.trans (hb.mono HB.out.size)
        clear hb
        go_wp2
        go_roundw
        case rel => exact ⟨2, rfl, by omega, HB2, HN2⟩
        case measure => simp [intOf]
    · have hc := HSM.out D2 wr
      rw [H2.out] at hc
      cases hq : sameZ (nums s) (dayL (((2 : Nat) : Int))) with
      | true =>
        rw [hq] at hc
        have HZ : Hid (wofZ (nums s) = ((2 : Nat) : Int)) := wof_hit (by decide) hq HN.out
        clear hq
        go_wp2_with fail
        refine hc.mono ?_
        rintro e w2 ⟨rfl, hb⟩
        have hb2 := HB.out.trans (hb.mono HB.out.size)
        go_wp2
        go_ret
        exact ⟨by rw [HZ.out] <;> rfl, hb2⟩
      | false =>
        rw [hq] at hc
        have HN2 : Hid (∀ i : Nat, i < 3 → sameZ (nums s) (dayL (i)) = false) := fun i hi => by
          by_cases e : i = 2
          · subst e; exact hq
          · exact HN.out i (by omega)
        clear hq
        go_wp2_with fail
        refine hc.mono ?_
        rintro e w2 ⟨rfl, hb⟩
        have HB2 : Hid (Below w.heap.size w w2) := HB.out.trans (hb.mono HB.out.size)
        clear hb
        go_wp2
        go_roundw
        case rel => exact ⟨3, rfl, by omega, HB2, HN2⟩
        case measure => simp [intOf]
    · have hc := HSM.out D3 wr
      rw [H3.out] at hc
      cases hq : sameZ (nums s) (dayL (((3 : Nat) : Int))) with
      | true =>
        rw [hq] at hc
        have HZ : Hid (wofZ (nums s) = ((3 : Nat) : Int)) := wof_hit (by decide) hq HN.out
        clear hq
        go_wp2_with fail
        refine hc.mono ?_
        rintro e w2 ⟨rfl, hb⟩
        have hb2 := HB.out.trans (hb.mono HB.out.size)
        go_wp2
        go_ret
        exact ⟨by rw [HZ.out] <;> rfl, hb2⟩
      | false =>
        rw [hq] at hc
        have HN2 : Hid (∀ i : Nat, i < 4 → sameZ (nums s) (dayL (i)) = false) := fun i hi => by
          by_cases e : i = 3
          · subst e; exact hq
          · exact HN.out i (by omega)
        clear hq
        go_wp2_with fail
        refine hc.mono ?_
        rintro e w2 ⟨rfl, hb⟩
        have HB2 : Hid (Below w.heap.size w w2) := HB.out.trans (hb.mono HB.out.size)
        clear hb
        go_wp2
        go_roundw
        case rel => exact ⟨4, rfl, by omega, HB2, HN2⟩
        case measure => simp [intOf]
    · have hc := HSM.out D4 wr
      rw [H4.out] at hc
      cases hq : sameZ (nums s) (dayL (((4 : Nat) : Int))) with
      | true =>
        rw [hq] at hc
        have HZ : Hid (wofZ (nums s) = ((4 : Nat) : Int)) := wof_hit (by decide) hq HN.out
        clear hq
        go_wp2_with fail
        refine hc.mono ?_
        rintro e w2 ⟨rfl, hb⟩
        have hb2 := HB.out.trans (hb.mono HB.out.size)
        go_wp2
        go_ret
        exact ⟨by rw [HZ.out] <;> rfl, hb2⟩
      | false =>
        rw [hq] at hc
        have HN2 : Hid (∀ i : Nat, i < 5 → sameZ (nums s) (dayL (i)) = false) := fun i hi => by
          by_cases e : i = 4
          · subst e; exact hq
          · exact HN.out i (by omega)
        clear hq
        go_wp2_with fail
        refine hc.mono ?_
        rintro e w2 ⟨rfl, hb⟩
        have HB2 : Hid (Below w.heap.size w w2) := HB.out.trans (hb.mono HB.out.size)
        clear hb
        go_wp2
        go_roundw
        case rel => exact ⟨5, rfl, by omega, HB2, HN2⟩
        case measure => simp [intOf]
    · have hc := HSM.out D5 wr
      rw [H5.out] at hc
      cases hq : sameZ (nums s) (dayL (((5 : Nat) : Int))) with
      | true =>
        rw [hq] at hc
        have HZ : Hid (wofZ (nums s) = ((5 : Nat) : Int)) := wof_hit (by decide) hq HN.out
        clear hq
        go_wp2_with fail
        refine hc.mono ?_
        rintro e w2 ⟨rfl, hb⟩
        have hb2 := HB.out.trans (hb.mono HB.out.size)
        go_wp2
        go_ret
        exact ⟨by rw [HZ.out] <;> rfl, hb2⟩
      | false =>
        rw [hq] at hc
        have HN2 : Hid (∀ i : Nat, i < 6 → sameZ (nums s) (dayL (i)) = false) := fun i hi => by
          by_cases e : i = 5
          · subst e; exact hq
          · exact HN.out i (by omega)
        clear hq
        go_wp2_with fail
        refine hc.mono ?_
        rintro e w2 ⟨rfl, hb⟩
        have HB2 : Hid (Below w.heap.size w w2) := HB.out.trans (hb.mono HB.out.size)
        clear hb
        go_wp2
        go_roundw
        case rel => exact ⟨6, rfl, by omega, HB2, HN2⟩
        case measure => simp [intOf]
    · have hc := HSM.out D6 wr
      rw [H6.out] at hc
      cases hq : sameZ (nums s) (dayL (((6 : Nat) : Int))) with
      | true =>
        rw [hq] at hc
        have HZ : Hid (wofZ (nums s) = ((6 : Nat) : Int)) := wof_hit (by decide) hq HN.out
        clear hq
        go_wp2_with fail
        refine hc.mono ?_
        rintro e w2 ⟨rfl, hb⟩
        have hb2 := HB.out.trans (hb.mono HB.out.size)
        go_wp2
        go_ret
        exact ⟨by rw [HZ.out] <;> rfl, hb2⟩
      | false =>
        rw [hq] at hc
        have HN2 : Hid (∀ i : Nat, i < 7 → sameZ (nums s) (dayL (i)) = false) := fun i hi => by
          by_cases e : i = 6
          · subst e; exact hq
          · exact HN.out i (by omega)
        clear hq
        go_wp2_with fail
        refine hc.mono ?_
        rintro e w2 ⟨rfl, hb⟩
        have HB2 : Hid (Below w.heap.size w w2) := HB.out.trans (hb.mono HB.out.size)
        clear hb
        go_wp2
        go_roundw
        case rel => exact ⟨7, rfl, by omega, HB2, HN2⟩
        case measure => simp [intOf]
def mofZ (l : List Int) : Int := match (List.range 12).find? (fun i : Nat => sameZ l (monL (i + 1))) with | some i => (i : Int) + 1 | none => 0
theorem mof_hit {l : List Int} {k : Nat} (hk : k < 12) (h : sameZ l (monL (k + 1)) = true) (hn : ∀ i : Nat, i < k → sameZ l (monL (i + 1)) = false) : mofZ l = (k : Int) + 1 := by
  unfold mofZ
  rw [List.find?_range_eq_some.2 ⟨h, List.mem_range.2 hk, fun j hj => by rw [hn j hj]; rfl⟩]
theorem mof_miss {l : List Int} (hn : ∀ i : Nat, i < 12 → sameZ l (monL (i + 1)) = false) : mofZ l = 0 := by
  unfold mofZ
  rw [List.find?_range_eq_none.2 (fun i hi => by rw [hn i hi]; rfl)]
set_option maxHeartbeats 16000000 in
set_option maxRecDepth 100000 in
theorem mof_any (s : ByteArray) (w : World) (hs : s.size ≤ 100000000) (hg : Gl w) : Calls Tryd.prog 33 #[.string s] w fun e w' => e = .returned (.int .i64 (mofZ (nums s))) ∧ Below w.heap.size w w' := by
  obtain ⟨D0, hD0⟩ : ∃ x, strOfNums (monL (((0 : Nat) : Int) + 1)) = x := ⟨_, rfl⟩
  have x0 : w.cell? ⟨1, 0, none⟩ = some (.string D0) := by rw [← hD0]; exact hg.mn 0 (by decide)
  have H0 : Hid (nums D0 = monL (((0 : Nat) : Int) + 1)) := by unfold Hid; rw [← hD0]; exact nums_str (monL_byt _)
  obtain ⟨D1, hD1⟩ : ∃ x, strOfNums (monL (((1 : Nat) : Int) + 1)) = x := ⟨_, rfl⟩
  have x1 : w.cell? ⟨1, 1, none⟩ = some (.string D1) := by rw [← hD1]; exact hg.mn 1 (by decide)
  have H1 : Hid (nums D1 = monL (((1 : Nat) : Int) + 1)) := by unfold Hid; rw [← hD1]; exact nums_str (monL_byt _)
  obtain ⟨D2, hD2⟩ : ∃ x, strOfNums (monL (((2 : Nat) : Int) + 1)) = x := ⟨_, rfl⟩
  have x2 : w.cell? ⟨1, 2, none⟩ = some (.string D2) := by rw [← hD2]; exact hg.mn 2 (by decide)
  have H2 : Hid (nums D2 = monL (((2 : Nat) : Int) + 1)) := by unfold Hid; rw [← hD2]; exact nums_str (monL_byt _)
  obtain ⟨D3, hD3⟩ : ∃ x, strOfNums (monL (((3 : Nat) : Int) + 1)) = x := ⟨_, rfl⟩
  have x3 : w.cell? ⟨1, 3, none⟩ = some (.string D3) := by rw [← hD3]; exact hg.mn 3 (by decide)
  have H3 : Hid (nums D3 = monL (((3 : Nat) : Int) + 1)) := by unfold Hid; rw [← hD3]; exact nums_str (monL_byt _)
  obtain ⟨D4, hD4⟩ : ∃ x, strOfNums (monL (((4 : Nat) : Int) + 1)) = x := ⟨_, rfl⟩
  have x4 : w.cell? ⟨1, 4, none⟩ = some (.string D4) := by rw [← hD4]; exact hg.mn 4 (by decide)
  have H4 : Hid (nums D4 = monL (((4 : Nat) : Int) + 1)) := by unfold Hid; rw [← hD4]; exact nums_str (monL_byt _)
  obtain ⟨D5, hD5⟩ : ∃ x, strOfNums (monL (((5 : Nat) : Int) + 1)) = x := ⟨_, rfl⟩
  have x5 : w.cell? ⟨1, 5, none⟩ = some (.string D5) := by rw [← hD5]; exact hg.mn 5 (by decide)
  have H5 : Hid (nums D5 = monL (((5 : Nat) : Int) + 1)) := by unfold Hid; rw [← hD5]; exact nums_str (monL_byt _)
  obtain ⟨D6, hD6⟩ : ∃ x, strOfNums (monL (((6 : Nat) : Int) + 1)) = x := ⟨_, rfl⟩
  have x6 : w.cell? ⟨1, 6, none⟩ = some (.string D6) := by rw [← hD6]; exact hg.mn 6 (by decide)
  have H6 : Hid (nums D6 = monL (((6 : Nat) : Int) + 1)) := by unfold Hid; rw [← hD6]; exact nums_str (monL_byt _)
  obtain ⟨D7, hD7⟩ : ∃ x, strOfNums (monL (((7 : Nat) : Int) + 1)) = x := ⟨_, rfl⟩
  have x7 : w.cell? ⟨1, 7, none⟩ = some (.string D7) := by rw [← hD7]; exact hg.mn 7 (by decide)
  have H7 : Hid (nums D7 = monL (((7 : Nat) : Int) + 1)) := by unfold Hid; rw [← hD7]; exact nums_str (monL_byt _)
  obtain ⟨D8, hD8⟩ : ∃ x, strOfNums (monL (((8 : Nat) : Int) + 1)) = x := ⟨_, rfl⟩
  have x8 : w.cell? ⟨1, 8, none⟩ = some (.string D8) := by rw [← hD8]; exact hg.mn 8 (by decide)
  have H8 : Hid (nums D8 = monL (((8 : Nat) : Int) + 1)) := by unfold Hid; rw [← hD8]; exact nums_str (monL_byt _)
  obtain ⟨D9, hD9⟩ : ∃ x, strOfNums (monL (((9 : Nat) : Int) + 1)) = x := ⟨_, rfl⟩
  have x9 : w.cell? ⟨1, 9, none⟩ = some (.string D9) := by rw [← hD9]; exact hg.mn 9 (by decide)
  have H9 : Hid (nums D9 = monL (((9 : Nat) : Int) + 1)) := by unfold Hid; rw [← hD9]; exact nums_str (monL_byt _)
  obtain ⟨D10, hD10⟩ : ∃ x, strOfNums (monL (((10 : Nat) : Int) + 1)) = x := ⟨_, rfl⟩
  have x10 : w.cell? ⟨1, 10, none⟩ = some (.string D10) := by rw [← hD10]; exact hg.mn 10 (by decide)
  have H10 : Hid (nums D10 = monL (((10 : Nat) : Int) + 1)) := by unfold Hid; rw [← hD10]; exact nums_str (monL_byt _)
  obtain ⟨D11, hD11⟩ : ∃ x, strOfNums (monL (((11 : Nat) : Int) + 1)) = x := ⟨_, rfl⟩
  have x11 : w.cell? ⟨1, 11, none⟩ = some (.string D11) := by rw [← hD11]; exact hg.mn 11 (by decide)
  have H11 : Hid (nums D11 = monL (((11 : Nat) : Int) + 1)) := by unfold Hid; rw [← hD11]; exact nums_str (monL_byt _)
  have j0 : ∀ V : World, (Instr.index 40 (.agg #[.string D0, .string D1, .string D2, .string D3, .string D4, .string D5, .string D6, .string D7, .string D8, .string D9, .string D10, .string D11]) (.int .i64 0)).run Tryd.prog V = .ok (.string D0) V := fun _ => by kernel_rfl
  have j1 : ∀ V : World, (Instr.index 40 (.agg #[.string D0, .string D1, .string D2, .string D3, .string D4, .string D5, .string D6, .string D7, .string D8, .string D9, .string D10, .string D11]) (.int .i64 1)).run Tryd.prog V = .ok (.string D1) V := fun _ => by kernel_rfl
  have j2 : ∀ V : World, (Instr.index 40 (.agg #[.string D0, .string D1, .string D2, .string D3, .string D4, .string D5, .string D6, .string D7, .string D8, .string D9, .string D10, .string D11]) (.int .i64 2)).run Tryd.prog V = .ok (.string D2) V := fun _ => by kernel_rfl
  have j3 : ∀ V : World, (Instr.index 40 (.agg #[.string D0, .string D1, .string D2, .string D3, .string D4, .string D5, .string D6, .string D7, .string D8, .string D9, .string D10, .string D11]) (.int .i64 3)).run Tryd.prog V = .ok (.string D3) V := fun _ => by kernel_rfl
  have j4 : ∀ V : World, (Instr.index 40 (.agg #[.string D0, .string D1, .string D2, .string D3, .string D4, .string D5, .string D6, .string D7, .string D8, .string D9, .string D10, .string D11]) (.int .i64 4)).run Tryd.prog V = .ok (.string D4) V := fun _ => by kernel_rfl
  have j5 : ∀ V : World, (Instr.index 40 (.agg #[.string D0, .string D1, .string D2, .string D3, .string D4, .string D5, .string D6, .string D7, .string D8, .string D9, .string D10, .string D11]) (.int .i64 5)).run Tryd.prog V = .ok (.string D5) V := fun _ => by kernel_rfl
  have j6 : ∀ V : World, (Instr.index 40 (.agg #[.string D0, .string D1, .string D2, .string D3, .string D4, .string D5, .string D6, .string D7, .string D8, .string D9, .string D10, .string D11]) (.int .i64 6)).run Tryd.prog V = .ok (.string D6) V := fun _ => by kernel_rfl
  have j7 : ∀ V : World, (Instr.index 40 (.agg #[.string D0, .string D1, .string D2, .string D3, .string D4, .string D5, .string D6, .string D7, .string D8, .string D9, .string D10, .string D11]) (.int .i64 7)).run Tryd.prog V = .ok (.string D7) V := fun _ => by kernel_rfl
  have j8 : ∀ V : World, (Instr.index 40 (.agg #[.string D0, .string D1, .string D2, .string D3, .string D4, .string D5, .string D6, .string D7, .string D8, .string D9, .string D10, .string D11]) (.int .i64 8)).run Tryd.prog V = .ok (.string D8) V := fun _ => by kernel_rfl
  have j9 : ∀ V : World, (Instr.index 40 (.agg #[.string D0, .string D1, .string D2, .string D3, .string D4, .string D5, .string D6, .string D7, .string D8, .string D9, .string D10, .string D11]) (.int .i64 9)).run Tryd.prog V = .ok (.string D9) V := fun _ => by kernel_rfl
  have j10 : ∀ V : World, (Instr.index 40 (.agg #[.string D0, .string D1, .string D2, .string D3, .string D4, .string D5, .string D6, .string D7, .string D8, .string D9, .string D10, .string D11]) (.int .i64 10)).run Tryd.prog V = .ok (.string D10) V := fun _ => by kernel_rfl
  have j11 : ∀ V : World, (Instr.index 40 (.agg #[.string D0, .string D1, .string D2, .string D3, .string D4, .string D5, .string D6, .string D7, .string D8, .string D9, .string D10, .string D11]) (.int .i64 11)).run Tryd.prog V = .ok (.string D11) V := fun _ => by kernel_rfl
  clear hg hD0 hD1 hD2 hD3 hD4 hD5 hD6 hD7 hD8 hD9 hD10 hD11
  have HSM : Hid (∀ (t : ByteArray) (V : World), Calls Tryd.prog 34 #[.string s, .string t] V fun e w' => e = .returned (.bool (sameZ (nums s) (nums t))) ∧ Below V.heap.size V w') := fun t V => same_any s t V hs
  go_enter Tryd.func33, Tryd.ntmps33
  go_wp2
  go_loopw [6, 3, 4] (fun v _ _ wr => ∃ k : Nat, v = .int .i64 k ∧ k ≤ 12 ∧ Hid (Below w.heap.size w wr) ∧ Hid (∀ i : Nat, i < k → sameZ (nums s) (monL (i + 1)) = false)) (fun v _ _ _ => 12 - (intOf v).toNat)
  case atStart => exact ⟨0, rfl, by omega, Below.refl _ _, fun i hi => by omega⟩
  case round =>
    obtain ⟨k, rfl, hk, HB, HN⟩ := hrel
    by_cases hlt : k < 12
    rotate_left
    · obtain rfl : k = 12 := by omega
      have HZ : Hid (mofZ (nums s) = 0) := mof_miss HN.out
      go_wp2
      go_ret
      exact ⟨by rw [HZ.out] <;> rfl, HB.out⟩
    have hcs : k = 0 ∨ k = 1 ∨ k = 2 ∨ k = 3 ∨ k = 4 ∨ k = 5 ∨ k = 6 ∨ k = 7 ∨ k = 8 ∨ k = 9 ∨ k = 10 ∨ k = 11 := by omega
    rcases hcs with rfl | rfl | rfl | rfl | rfl | rfl | rfl | rfl | rfl | rfl | rfl | rfl
    · have hc := HSM.out D0 wr
      rw [H0.out] at hc
      cases hq : sameZ (nums s) (monL (((0 : Nat) : Int) + 1)) with
      | true =>
        rw [hq] at hc
        have HZ : Hid (mofZ (nums s) = ((0 : Nat) : Int) + 1) := mof_hit (by decide) hq HN.out
        clear hq
        go_wp2_with fail
        refine hc.mono ?_
        rintro e w2 ⟨rfl, hb⟩
        have hb2 := HB.out.trans (hb.mono HB.out.size)
        go_wp2
        go_ret
        exact ⟨by rw [HZ.out] <;> rfl, hb2⟩
      | false =>
        rw [hq] at hc
        have HN2 : Hid (∀ i : Nat, i < 1 → sameZ (nums s) (monL (i + 1)) = false) := fun i hi => by
          by_cases e : i = 0
          · subst e; exact hq
          · exact HN.out i (by omega)
        clear hq
        go_wp2_with fail
        refine hc.mono ?_
        rintro e w2 ⟨rfl, hb⟩
        have HB2 : Hid (Below w.heap.size w w2) := HB.out.trans (hb.mono HB.out.size)
        clear hb
        go_wp2
        go_roundw
        case rel => exact ⟨1, rfl, by omega, HB2, HN2⟩
        case measure => simp [intOf]
    · have hc := HSM.out D1 wr
      rw [H1.out] at hc
      cases hq : sameZ (nums s) (monL (((1 : Nat) : Int) + 1)) with
      | true =>
        rw [hq] at hc
        have HZ : Hid (mofZ (nums s) = ((1 : Nat) : Int) + 1) := mof_hit (by decide) hq HN.out
        clear hq
        go_wp2_with fail
        refine hc.mono ?_
        rintro e w2 ⟨rfl, hb⟩
        have hb2 := HB.out.trans (hb.mono HB.out.size)
        go_wp2
        go_ret
        exact ⟨by rw [HZ.out] <;> rfl, hb2⟩
      | false =>
        rw [hq] at hc
        have HN2 : Hid (∀ i : Nat, i < 2 → sameZ (nums s) (monL (i + 1)) = false) := fun i hi => by
          by_cases e : i = 1
          · subst e; exact hq
          · exact HN.out i (by omega)
        clear hq
        go_wp2_with fail
        refine hc.mono ?_
        rintro e w2 ⟨rfl, hb⟩
        have HB2 : Hid (Below w.heap.size w w2) := HB.out.trans (hb.mono HB.out.size)
        clear hb
        go_wp2
        go_roundw
        case rel => exact ⟨2, rfl, by omega, HB2, HN2⟩
        case measure => simp [intOf]
    · have hc := HSM.out D2 wr
      rw [H2.out] at hc
      cases hq : sameZ (nums s) (monL (((2 : Nat) : Int) + 1)) with
      | true =>
        rw [hq] at hc
        have HZ : Hid (mofZ (nums s) = ((2 : Nat) : Int) + 1) := mof_hit (by decide) hq HN.out
        clear hq
        go_wp2_with fail
        refine hc.mono ?_
        rintro e w2 ⟨rfl, hb⟩
        have hb2 := HB.out.trans (hb.mono HB.out.size)
        go_wp2
        go_ret
        exact ⟨by rw [HZ.out] <;> rfl, hb2⟩
      | false =>
        rw [hq] at hc
        have HN2 : Hid (∀ i : Nat, i < 3 → sameZ (nums s) (monL (i + 1)) = false) := fun i hi => by
          by_cases e : i = 2
          · subst e; exact hq
          · exact HN.out i (by omega)
        clear hq
        go_wp2_with fail
        refine hc.mono ?_
        rintro e w2 ⟨rfl, hb⟩
        have HB2 : Hid (Below w.heap.size w w2) := HB.out.trans (hb.mono HB.out.size)
        clear hb
        go_wp2
        go_roundw
        case rel => exact ⟨3, rfl, by omega, HB2, HN2⟩
        case measure => simp [intOf]
    · have hc := HSM.out D3 wr
      rw [H3.out] at hc
      cases hq : sameZ (nums s) (monL (((3 : Nat) : Int) + 1)) with
      | true =>
        rw [hq] at hc
        have HZ : Hid (mofZ (nums s) = ((3 : Nat) : Int) + 1) := mof_hit (by decide) hq HN.out
        clear hq
        go_wp2_with fail
        refine hc.mono ?_
        rintro e w2 ⟨rfl, hb⟩
        have hb2 := HB.out.trans (hb.mono HB.out.size)
        go_wp2
        go_ret
        exact ⟨by rw [HZ.out] <;> rfl, hb2⟩
      | false =>
        rw [hq] at hc
        have HN2 : Hid (∀ i : Nat, i < 4 → sameZ (nums s) (monL (i + 1)) = false) := fun i hi => by
          by_cases e : i = 3
          · subst e; exact hq
          · exact HN.out i (by omega)
        clear hq
        go_wp2_with fail
        refine hc.mono ?_
        rintro e w2 ⟨rfl, hb⟩
        have HB2 : Hid (Below w.heap.size w w2) := HB.out.trans (hb.mono HB.out.size)
        clear hb
        go_wp2
        go_roundw
        case rel => exact ⟨4, rfl, by omega, HB2, HN2⟩
        case measure => simp [intOf]
    · have hc := HSM.out D4 wr
      rw [H4.out] at hc
      cases hq : sameZ (nums s) (monL (((4 : Nat) : Int) + 1)) with
      | true =>
        rw [hq] at hc
        have HZ : Hid (mofZ (nums s) = ((4 : Nat) : Int) + 1) := mof_hit (by decide) hq HN.out
        clear hq
        go_wp2_with fail
        refine hc.mono ?_
        rintro e w2 ⟨rfl, hb⟩
        have hb2 := HB.out.trans (hb.mono HB.out.size)
        go_wp2
        go_ret
        exact ⟨by rw [HZ.out] <;> rfl, hb2⟩
      | false =>
        rw [hq] at hc
        have HN2 : Hid (∀ i : Nat, i < 5 → sameZ (nums s) (monL (i + 1)) = false) := fun i hi => by
          by_cases e : i = 4
          · subst e; exact hq
          · exact HN.out i (by omega)
        clear hq
        go_wp2_with fail
        refine hc.mono ?_
        rintro e w2 ⟨rfl, hb⟩
        have HB2 : Hid (Below w.heap.size w w2) := HB.out.trans (hb.mono HB.out.size)
        clear hb
        go_wp2
        go_roundw
        case rel => exact ⟨5, rfl, by omega, HB2, HN2⟩
        case measure => simp [intOf]
    · have hc := HSM.out D5 wr
      rw [H5.out] at hc
      cases hq : sameZ (nums s) (monL (((5 : Nat) : Int) + 1)) with
      | true =>
        rw [hq] at hc
        have HZ : Hid (mofZ (nums s) = ((5 : Nat) : Int) + 1) := mof_hit (by decide) hq HN.out
        clear hq
        go_wp2_with fail
        refine hc.mono ?_
        rintro e w2 ⟨rfl, hb⟩
        have hb2 := HB.out.trans (hb.mono HB.out.size)
        go_wp2
        go_ret
        exact ⟨by rw [HZ.out] <;> rfl, hb2⟩
      | false =>
        rw [hq] at hc
        have HN2 : Hid (∀ i : Nat, i < 6 → sameZ (nums s) (monL (i + 1)) = false) := fun i hi => by
          by_cases e : i = 5
          · subst e; exact hq
          · exact HN.out i (by omega)
        clear hq
        go_wp2_with fail
        refine hc.mono ?_
        rintro e w2 ⟨rfl, hb⟩
        have HB2 : Hid (Below w.heap.size w w2) := HB.out.trans (hb.mono HB.out.size)
        clear hb
        go_wp2
        go_roundw
        case rel => exact ⟨6, rfl, by omega, HB2, HN2⟩
        case measure => simp [intOf]
    · have hc := HSM.out D6 wr
      rw [H6.out] at hc
      cases hq : sameZ (nums s) (monL (((6 : Nat) : Int) + 1)) with
      | true =>
        rw [hq] at hc
        have HZ : Hid (mofZ (nums s) = ((6 : Nat) : Int) + 1) := mof_hit (by decide) hq HN.out
        clear hq
        go_wp2_with fail
        refine hc.mono ?_
        rintro e w2 ⟨rfl, hb⟩
        have hb2 := HB.out.trans (hb.mono HB.out.size)
        go_wp2
        go_ret
        exact ⟨by rw [HZ.out] <;> rfl, hb2⟩
      | false =>
        rw [hq] at hc
        have HN2 : Hid (∀ i : Nat, i < 7 → sameZ (nums s) (monL (i + 1)) = false) := fun i hi => by
          by_cases e : i = 6
          · subst e; exact hq
          · exact HN.out i (by omega)
        clear hq
        go_wp2_with fail
        refine hc.mono ?_
        rintro e w2 ⟨rfl, hb⟩
        have HB2 : Hid (Below w.heap.size w w2) := HB.out.trans (hb.mono HB.out.size)
        clear hb
        go_wp2
        go_roundw
        case rel => exact ⟨7, rfl, by omega, HB2, HN2⟩
        case measure => simp [intOf]
    · have hc := HSM.out D7 wr
      rw [H7.out] at hc
      cases hq : sameZ (nums s) (monL (((7 : Nat) : Int) + 1)) with
      | true =>
        rw [hq] at hc
        have HZ : Hid (mofZ (nums s) = ((7 : Nat) : Int) + 1) := mof_hit (by decide) hq HN.out
        clear hq
        go_wp2_with fail
        refine hc.mono ?_
        rintro e w2 ⟨rfl, hb⟩
        have hb2 := HB.out.trans (hb.mono HB.out.size)
        go_wp2
        go_ret
        exact ⟨by rw [HZ.out] <;> rfl, hb2⟩
      | false =>
        rw [hq] at hc
        have HN2 : Hid (∀ i : Nat, i < 8 → sameZ (nums s) (monL (i + 1)) = false) := fun i hi => by
          by_cases e : i = 7
          · subst e; exact hq
          · exact HN.out i (by omega)
        clear hq
        go_wp2_with fail
        refine hc.mono ?_
        rintro e w2 ⟨rfl, hb⟩
        have HB2 : Hid (Below w.heap.size w w2) := HB.out.trans (hb.mono HB.out.size)
        clear hb
        go_wp2
        go_roundw
        case rel => exact ⟨8, rfl, by omega, HB2, HN2⟩
        case measure => simp [intOf]
    · have hc := HSM.out D8 wr
      rw [H8.out] at hc
      cases hq : sameZ (nums s) (monL (((8 : Nat) : Int) + 1)) with
      | true =>
        rw [hq] at hc
        have HZ : Hid (mofZ (nums s) = ((8 : Nat) : Int) + 1) := mof_hit (by decide) hq HN.out
        clear hq
        go_wp2_with fail
        refine hc.mono ?_
        rintro e w2 ⟨rfl, hb⟩
        have hb2 := HB.out.trans (hb.mono HB.out.size)
        go_wp2
        go_ret
        exact ⟨by rw [HZ.out] <;> rfl, hb2⟩
      | false =>
        rw [hq] at hc
        have HN2 : Hid (∀ i : Nat, i < 9 → sameZ (nums s) (monL (i + 1)) = false) := fun i hi => by
          by_cases e : i = 8
          · subst e; exact hq
          · exact HN.out i (by omega)
        clear hq
        go_wp2_with fail
        refine hc.mono ?_
        rintro e w2 ⟨rfl, hb⟩
        have HB2 : Hid (Below w.heap.size w w2) := HB.out.trans (hb.mono HB.out.size)
        clear hb
        go_wp2
        go_roundw
        case rel => exact ⟨9, rfl, by omega, HB2, HN2⟩
        case measure => simp [intOf]
    · have hc := HSM.out D9 wr
      rw [H9.out] at hc
      cases hq : sameZ (nums s) (monL (((9 : Nat) : Int) + 1)) with
      | true =>
        rw [hq] at hc
        have HZ : Hid (mofZ (nums s) = ((9 : Nat) : Int) + 1) := mof_hit (by decide) hq HN.out
        clear hq
        go_wp2_with fail
        refine hc.mono ?_
        rintro e w2 ⟨rfl, hb⟩
        have hb2 := HB.out.trans (hb.mono HB.out.size)
        go_wp2
        go_ret
        exact ⟨by rw [HZ.out] <;> rfl, hb2⟩
      | false =>
        rw [hq] at hc
        have HN2 : Hid (∀ i : Nat, i < 10 → sameZ (nums s) (monL (i + 1)) = false) := fun i hi => by
          by_cases e : i = 9
          · subst e; exact hq
          · exact HN.out i (by omega)
        clear hq
        go_wp2_with fail
        refine hc.mono ?_
        rintro e w2 ⟨rfl, hb⟩
        have HB2 : Hid (Below w.heap.size w w2) := HB.out.trans (hb.mono HB.out.size)
        clear hb
        go_wp2
        go_roundw
        case rel => exact ⟨10, rfl, by omega, HB2, HN2⟩
        case measure => simp [intOf]
    · have hc := HSM.out D10 wr
      rw [H10.out] at hc
      cases hq : sameZ (nums s) (monL (((10 : Nat) : Int) + 1)) with
      | true =>
        rw [hq] at hc
        have HZ : Hid (mofZ (nums s) = ((10 : Nat) : Int) + 1) := mof_hit (by decide) hq HN.out
        clear hq
        go_wp2_with fail
        refine hc.mono ?_
        rintro e w2 ⟨rfl, hb⟩
        have hb2 := HB.out.trans (hb.mono HB.out.size)
        go_wp2
        go_ret
        exact ⟨by rw [HZ.out] <;> rfl, hb2⟩
      | false =>
        rw [hq] at hc
        have HN2 : Hid (∀ i : Nat, i < 11 → sameZ (nums s) (monL (i + 1)) = false) := fun i hi => by
          by_cases e : i = 10
          · subst e; exact hq
          · exact HN.out i (by omega)
        clear hq
        go_wp2_with fail
        refine hc.mono ?_
        rintro e w2 ⟨rfl, hb⟩
        have HB2 : Hid (Below w.heap.size w w2) := HB.out.trans (hb.mono HB.out.size)
        clear hb
        go_wp2
        go_roundw
        case rel => exact ⟨11, rfl, by omega, HB2, HN2⟩
        case measure => simp [intOf]
    · have hc := HSM.out D11 wr
      rw [H11.out] at hc
      cases hq : sameZ (nums s) (monL (((11 : Nat) : Int) + 1)) with
      | true =>
        rw [hq] at hc
        have HZ : Hid (mofZ (nums s) = ((11 : Nat) : Int) + 1) := mof_hit (by decide) hq HN.out
        clear hq
        go_wp2_with fail
        refine hc.mono ?_
        rintro e w2 ⟨rfl, hb⟩
        have hb2 := HB.out.trans (hb.mono HB.out.size)
        go_wp2
        go_ret
        exact ⟨by rw [HZ.out] <;> rfl, hb2⟩
      | false =>
        rw [hq] at hc
        have HN2 : Hid (∀ i : Nat, i < 12 → sameZ (nums s) (monL (i + 1)) = false) := fun i hi => by
          by_cases e : i = 11
          · subst e; exact hq
          · exact HN.out i (by omega)
        clear hq
        go_wp2_with fail
        refine hc.mono ?_
        rintro e w2 ⟨rfl, hb⟩
        have HB2 : Hid (Below w.heap.size w w2) := HB.out.trans (hb.mono HB.out.size)
        clear hb
        go_wp2
        go_roundw
        case rel => exact ⟨12, rfl, by omega, HB2, HN2⟩
        case measure => simp [intOf]
end Go.Proofs.YtomcjkghneingabDoor
