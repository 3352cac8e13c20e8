/-
  Zones: the contract of shiftOf.
-/
import Derived.Test.YtomcjkghneingabDoorTf
namespace Go.Proofs.YtomcjkghneingabDoor
open Go.RowKit
set_option linter.unusedVariables false
set_option linter.unusedSimpArgs false

def zoneL (n : Nat) : List Int := match n with
  | 0 => [85, 84]
  | 1 => [71, 77, 84]
  | 2 => [90]
  | 3 => [69, 83, 84]
  | 4 => [67, 83, 84]
  | 5 => [77, 83, 84]
  | 6 => [80, 83, 84]
  | 7 => [69, 68, 84]
  | 8 => [67, 68, 84]
  | 9 => [77, 68, 84]
  | _ => [80, 68, 84]
def hourL (n : Nat) : Int := match n with
  | 0 => 0
  | 1 => 0
  | 2 => 0
  | 3 => -5
  | 4 => -6
  | 5 => -7
  | 6 => -8
  | 7 => -4
  | 8 => -5
  | 9 => -6
  | _ => -7
theorem zoneL_byt (n : Nat) : Byt (zoneL n) := by
  unfold zoneL
  split <;> (unfold Byt; decide)
/-- What lies of the tables, the zones' among them. -/
structure Gz (w : World) : Prop extends Gl w where
  zn : ∀ i : Nat, i < 11 → w.cell? ⟨2, i, none⟩ = some (.string (strOfNums (zoneL i)))
  zh : ∀ i : Nat, i < 11 → w.cell? ⟨3, i, none⟩ = some (.int .i64 (hourL i))
theorem Gz.below {w w' : World} (h : Gz w) (b : Below w.heap.size w w') : Gz w' := ⟨h.toGl.below b, fun i hi => cell_keep b (h.zn i hi), fun i hi => cell_keep b (h.zh i hi)⟩
def zofZ (l : List Int) : Option Nat := (List.range 11).find? (fun i : Nat => sameZ l (zoneL i))
theorem zof_hit {l : List Int} {k : Nat} (hk : k < 11) (h : sameZ l (zoneL k) = true) (hn : ∀ i : Nat, i < k → sameZ l (zoneL i) = false) : zofZ l = some k := by
  unfold zofZ
  rw [List.find?_range_eq_some.2 ⟨h, List.mem_range.2 hk, fun j hj => by rw [hn j hj]; rfl⟩]
theorem zof_miss {l : List Int} (hn : ∀ i : Nat, i < 11 → sameZ l (zoneL i) = false) : zofZ l = none := by
  unfold zofZ
  rw [List.find?_range_eq_none.2 (fun i hi => by rw [hn i hi]; rfl)]
/-- What a zone says: its shift, and whether it is one. -/
def offN (c : Int) (p : Int × Bool) : Int × Bool :=
  if c ≠ 43 ∧ c ≠ 45 then (0, false) else if p.2 = false ∨ 24 ≤ p.1 / 100 ∨ 60 ≤ p.1 % 100 then (0, false)
  else (if c = 45 then -(p.1 / 100 * 3600 + p.1 % 100 * 60) else p.1 / 100 * 3600 + p.1 % 100 * 60, true)
def shiftN (l : List Int) : Int × Bool := match zofZ l with
  | some i => (hourL i * 3600, true)
  | none => offN (l.getD 0 0) (numD (l.drop 1) 4 4)
set_option maxHeartbeats 16000000 in
set_option maxRecDepth 100000 in
theorem shiftOf_any (s : ByteArray) (w : World) (h0 : 0 < s.size) (hs : s.size ≤ 100000000) (hg : Gz w) : Calls Tryd.prog 17 #[.string s] w fun e w' => e = .returned (.tuple #[.int .i64 (shiftN (nums s)).1, .bool (shiftN (nums s)).2]) ∧ Below w.heap.size w w' := by
  have HG : Hid (Gz w) := hg
  obtain ⟨D0, hD0⟩ : ∃ x, strOfNums (zoneL 0) = x := ⟨_, rfl⟩
  have x0 : w.cell? ⟨2, 0, none⟩ = some (.string D0) := by rw [← hD0]; exact hg.zn 0 (by decide)
  have H0 : Hid (nums D0 = zoneL 0) := by unfold Hid; rw [← hD0]; exact nums_str (zoneL_byt _)
  obtain ⟨D1, hD1⟩ : ∃ x, strOfNums (zoneL 1) = x := ⟨_, rfl⟩
  have x1 : w.cell? ⟨2, 1, none⟩ = some (.string D1) := by rw [← hD1]; exact hg.zn 1 (by decide)
  have H1 : Hid (nums D1 = zoneL 1) := by unfold Hid; rw [← hD1]; exact nums_str (zoneL_byt _)
  obtain ⟨D2, hD2⟩ : ∃ x, strOfNums (zoneL 2) = x := ⟨_, rfl⟩
  have x2 : w.cell? ⟨2, 2, none⟩ = some (.string D2) := by rw [← hD2]; exact hg.zn 2 (by decide)
  have H2 : Hid (nums D2 = zoneL 2) := by unfold Hid; rw [← hD2]; exact nums_str (zoneL_byt _)
  obtain ⟨D3, hD3⟩ : ∃ x, strOfNums (zoneL 3) = x := ⟨_, rfl⟩
  have x3 : w.cell? ⟨2, 3, none⟩ = some (.string D3) := by rw [← hD3]; exact hg.zn 3 (by decide)
  have H3 : Hid (nums D3 = zoneL 3) := by unfold Hid; rw [← hD3]; exact nums_str (zoneL_byt _)
  obtain ⟨D4, hD4⟩ : ∃ x, strOfNums (zoneL 4) = x := ⟨_, rfl⟩
  have x4 : w.cell? ⟨2, 4, none⟩ = some (.string D4) := by rw [← hD4]; exact hg.zn 4 (by decide)
  have H4 : Hid (nums D4 = zoneL 4) := by unfold Hid; rw [← hD4]; exact nums_str (zoneL_byt _)
  obtain ⟨D5, hD5⟩ : ∃ x, strOfNums (zoneL 5) = x := ⟨_, rfl⟩
  have x5 : w.cell? ⟨2, 5, none⟩ = some (.string D5) := by rw [← hD5]; exact hg.zn 5 (by decide)
  have H5 : Hid (nums D5 = zoneL 5) := by unfold Hid; rw [← hD5]; exact nums_str (zoneL_byt _)
  obtain ⟨D6, hD6⟩ : ∃ x, strOfNums (zoneL 6) = x := ⟨_, rfl⟩
  have x6 : w.cell? ⟨2, 6, none⟩ = some (.string D6) := by rw [← hD6]; exact hg.zn 6 (by decide)
  have H6 : Hid (nums D6 = zoneL 6) := by unfold Hid; rw [← hD6]; exact nums_str (zoneL_byt _)
  obtain ⟨D7, hD7⟩ : ∃ x, strOfNums (zoneL 7) = x := ⟨_, rfl⟩
  have x7 : w.cell? ⟨2, 7, none⟩ = some (.string D7) := by rw [← hD7]; exact hg.zn 7 (by decide)
  have H7 : Hid (nums D7 = zoneL 7) := by unfold Hid; rw [← hD7]; exact nums_str (zoneL_byt _)
  obtain ⟨D8, hD8⟩ : ∃ x, strOfNums (zoneL 8) = x := ⟨_, rfl⟩
  have x8 : w.cell? ⟨2, 8, none⟩ = some (.string D8) := by rw [← hD8]; exact hg.zn 8 (by decide)
  have H8 : Hid (nums D8 = zoneL 8) := by unfold Hid; rw [← hD8]; exact nums_str (zoneL_byt _)
  obtain ⟨D9, hD9⟩ : ∃ x, strOfNums (zoneL 9) = x := ⟨_, rfl⟩
  have x9 : w.cell? ⟨2, 9, none⟩ = some (.string D9) := by rw [← hD9]; exact hg.zn 9 (by decide)
  have H9 : Hid (nums D9 = zoneL 9) := by unfold Hid; rw [← hD9]; exact nums_str (zoneL_byt _)
  obtain ⟨D10, hD10⟩ : ∃ x, strOfNums (zoneL 10) = x := ⟨_, rfl⟩
  have x10 : w.cell? ⟨2, 10, none⟩ = some (.string D10) := by rw [← hD10]; exact hg.zn 10 (by decide)
  have H10 : Hid (nums D10 = zoneL 10) := by unfold Hid; rw [← hD10]; exact nums_str (zoneL_byt _)
  have j0 : ∀ V : World, (Instr.index 68 (.agg #[.string D0, .string D1, .string D2, .string D3, .string D4, .string D5, .string D6, .string D7, .string D8, .string D9, .string D10]) (.int .i64 0)).run Tryd.prog V = .ok (.string D0) V := fun _ => by kernel_rfl
  have j1 : ∀ V : World, (Instr.index 68 (.agg #[.string D0, .string D1, .string D2, .string D3, .string D4, .string D5, .string D6, .string D7, .string D8, .string D9, .string D10]) (.int .i64 1)).run Tryd.prog V = .ok (.string D1) V := fun _ => by kernel_rfl
  have j2 : ∀ V : World, (Instr.index 68 (.agg #[.string D0, .string D1, .string D2, .string D3, .string D4, .string D5, .string D6, .string D7, .string D8, .string D9, .string D10]) (.int .i64 2)).run Tryd.prog V = .ok (.string D2) V := fun _ => by kernel_rfl
  have j3 : ∀ V : World, (Instr.index 68 (.agg #[.string D0, .string D1, .string D2, .string D3, .string D4, .string D5, .string D6, .string D7, .string D8, .string D9, .string D10]) (.int .i64 3)).run Tryd.prog V = .ok (.string D3) V := fun _ => by kernel_rfl
  have j4 : ∀ V : World, (Instr.index 68 (.agg #[.string D0, .string D1, .string D2, .string D3, .string D4, .string D5, .string D6, .string D7, .string D8, .string D9, .string D10]) (.int .i64 4)).run Tryd.prog V = .ok (.string D4) V := fun _ => by kernel_rfl
  have j5 : ∀ V : World, (Instr.index 68 (.agg #[.string D0, .string D1, .string D2, .string D3, .string D4, .string D5, .string D6, .string D7, .string D8, .string D9, .string D10]) (.int .i64 5)).run Tryd.prog V = .ok (.string D5) V := fun _ => by kernel_rfl
  have j6 : ∀ V : World, (Instr.index 68 (.agg #[.string D0, .string D1, .string D2, .string D3, .string D4, .string D5, .string D6, .string D7, .string D8, .string D9, .string D10]) (.int .i64 6)).run Tryd.prog V = .ok (.string D6) V := fun _ => by kernel_rfl
  have j7 : ∀ V : World, (Instr.index 68 (.agg #[.string D0, .string D1, .string D2, .string D3, .string D4, .string D5, .string D6, .string D7, .string D8, .string D9, .string D10]) (.int .i64 7)).run Tryd.prog V = .ok (.string D7) V := fun _ => by kernel_rfl
  have j8 : ∀ V : World, (Instr.index 68 (.agg #[.string D0, .string D1, .string D2, .string D3, .string D4, .string D5, .string D6, .string D7, .string D8, .string D9, .string D10]) (.int .i64 8)).run Tryd.prog V = .ok (.string D8) V := fun _ => by kernel_rfl
  have j9 : ∀ V : World, (Instr.index 68 (.agg #[.string D0, .string D1, .string D2, .string D3, .string D4, .string D5, .string D6, .string D7, .string D8, .string D9, .string D10]) (.int .i64 9)).run Tryd.prog V = .ok (.string D9) V := fun _ => by kernel_rfl
  have j10 : ∀ V : World, (Instr.index 68 (.agg #[.string D0, .string D1, .string D2, .string D3, .string D4, .string D5, .string D6, .string D7, .string D8, .string D9, .string D10]) (.int .i64 10)).run Tryd.prog V = .ok (.string D10) V := fun _ => by kernel_rfl
  clear hg hD0 hD1 hD2 hD3 hD4 hD5 hD6 hD7 hD8 hD9 hD10
  have HSM : Hid (∀ (t : ByteArray) (V : World), Calls Tryd.prog 34 #[.string s, .string t] V fun e w' => e = .returned (.bool (sameZ (nums s) (nums t))) ∧ Below V.heap.size V w') := fun t V => same_any s t V hs
  go_enter Tryd.func17, Tryd.ntmps17
  go_wp2
  go_loopw [10, 4, 5] (fun v _ _ wr => ∃ k : Nat, v = .int .i64 k ∧ k ≤ 11 ∧ Hid (Below w.heap.size w wr) ∧ Hid (∀ i : Nat, i < k → sameZ (nums s) (zoneL i) = false)) (fun v _ _ _ => 11 - (intOf v).toNat)
  case atStart => exact ⟨0, rfl, by omega, Below.refl _ _, fun i hi => by omega⟩
  case round =>
    obtain ⟨k, rfl, hk, HB, HN⟩ := hrel
    by_cases hlt : k < 11
    rotate_left
    · obtain rfl : k = 11 := by omega
      clear x0 j0 x1 j1 x2 j2 x3 j3 x4 j4 x5 j5 x6 j6 x7 j7 x8 j8 x9 j9 x10 j10
      have HZ : Hid (shiftN (nums s) = offN ((nums s).getD 0 0) (numD ((nums s).drop 1) 4 4)) := by
        unfold Hid shiftN
        rw [zof_miss HN.out]
      have h00 : (0 : Int) < (s.size : Int) := by omega
      have h01 : (1 : Int) ≤ (s.size : Int) := by omega
      have hat : (nums s).getD 0 0 = ((s[0]'h0).toNat : Int) := by rw [List.getD_eq_getElem?_getD, nums_at s 0 h0]; rfl
      have hcb : ((s[0]'h0).toNat : Int) < 256 := by have := (s[0]'h0).toNat_lt; omega
      obtain ⟨c, hc⟩ : ∃ c : Int, ((s[0]'h0).toNat : Int) = c := ⟨_, rfl⟩
      rw [hat, hc] at HZ
      rw [hc] at hcb
      clear hat
      have hn4 := fun V => number_any (s.extract 1 s.size) 4 4 V (by decide)
      rw [show nums (s.extract 1 s.size) = (nums s).drop 1 from nums_from s 1] at hn4
      have b4 := numD_bound ((nums s).drop 1) 4 4
      have e4 : (10 : Int) ^ 4 = 10000 := by decide
      rw [e4] at b4
      obtain ⟨⟨v, r⟩, hv⟩ : ∃ p, numD ((nums s).drop 1) 4 4 = p := ⟨_, rfl⟩
      rw [hv] at hn4 b4 HZ
      have HN4 : Hid (∀ V, Calls Tryd.prog 30 #[.string (s.extract 1 s.size), .int .i64 4, .int .i64 4] V fun e w' => e = .returned (.tuple #[.int .i64 v, .bool r]) ∧ V = w') := hn4
      have v0 : 0 ≤ v := b4.1
      have v1 : v < 10000 := b4.2
      clear hn4 b4 hv e4
      have q1 : Int.tdiv v 100 = v / 100 := Int.tdiv_eq_ediv_of_nonneg v0
      have q2 : Int.tmod v 100 = v % 100 := Int.tmod_eq_emod_of_nonneg v0
      obtain ⟨vq, hvq⟩ : ∃ x, v / 100 = x := ⟨_, rfl⟩
      obtain ⟨vr, hvr⟩ : ∃ x, v % 100 = x := ⟨_, rfl⟩
      rw [hvq] at q1
      rw [hvr] at q2
      have w0 : 0 ≤ vq := by omega
      have w1 : vq < 100 := by omega
      have w2' : 0 ≤ vr := by omega
      have w3 : vr < 100 := by omega
      have HO : Hid (offN c (v, r) = if c ≠ 43 ∧ c ≠ 45 then (0, false) else if r = false ∨ 24 ≤ vq ∨ 60 ≤ vr then (0, false) else (if c = 45 then -(vq * 3600 + vr * 60) else vq * 3600 + vr * 60, true)) := by
        unfold Hid offN
        rw [hvq, hvr]
      rw [HO.out] at HZ
      clear hvq hvr HO
      by_cases pc : c ≠ 43 ∧ c ≠ 45
      · have d1 : (c != 43) = true := by simpa using pc.1
        have d2 : (c != 45) = true := by simpa using pc.2
        rw [if_pos pc] at HZ
        clear pc
        go_wp2
        go_ret2
        exact ⟨by rw [HZ.out] <;> rfl, HB.out⟩
      rw [if_neg pc] at HZ
      by_cases p43 : c = 43
      · have d1 : (c != 43) = false := by simpa using p43
        have d5 : (c == 45) = false := by rw [beq_eq_false_iff_ne]; omega
        rw [if_neg (show ¬ c = 45 by omega)] at HZ
        clear pc p43
        cases r with
        | false =>
          rw [if_pos (.inl rfl)] at HZ
          go_wp2_with fail
          refine (HN4.out _).mono ?_
          rintro e w2 ⟨rfl, rfl⟩
          go_wp2
          go_ret2
          exact ⟨by rw [HZ.out] <;> rfl, HB.out⟩
        | true =>
          by_cases p24 : 24 ≤ vq
          · have d3 : decide (vq ≥ 24) = true := by simpa using p24
            rw [if_pos (.inr (.inl p24))] at HZ
            go_wp2_with fail
            refine (HN4.out _).mono ?_
            rintro e w2 ⟨rfl, rfl⟩
            go_wp2
            go_ret2
            exact ⟨by rw [HZ.out] <;> rfl, HB.out⟩
          have d3 : decide (vq ≥ 24) = false := by simpa using p24
          by_cases p60 : 60 ≤ vr
          · have d4 : decide (vr ≥ 60) = true := by simpa using p60
            rw [if_pos (.inr (.inr p60))] at HZ
            go_wp2_with fail
            refine (HN4.out _).mono ?_
            rintro e w2 ⟨rfl, rfl⟩
            go_wp2
            go_ret2
            exact ⟨by rw [HZ.out] <;> rfl, HB.out⟩
          have d4 : decide (vr ≥ 60) = false := by simpa using p60
          rw [if_neg (by simp; omega)] at HZ
          go_wp2_with fail
          refine (HN4.out _).mono ?_
          rintro e w2 ⟨rfl, rfl⟩
          go_wp2
          go_ret2
          exact ⟨by rw [HZ.out] <;> rfl, HB.out⟩
      · have p45 : c = 45 := by omega
        have d1 : (c != 43) = true := by simpa using p43
        have d2 : (c != 45) = false := by simpa using p45
        have d5 : (c == 45) = true := by simpa using p45
        rw [if_pos p45] at HZ
        clear pc p43 p45
        cases r with
        | false =>
          rw [if_pos (.inl rfl)] at HZ
          go_wp2_with fail
          refine (HN4.out _).mono ?_
          rintro e w2 ⟨rfl, rfl⟩
          go_wp2
          go_ret2
          exact ⟨by rw [HZ.out] <;> rfl, HB.out⟩
        | true =>
          by_cases p24 : 24 ≤ vq
          · have d3 : decide (vq ≥ 24) = true := by simpa using p24
            rw [if_pos (.inr (.inl p24))] at HZ
            go_wp2_with fail
            refine (HN4.out _).mono ?_
            rintro e w2 ⟨rfl, rfl⟩
            go_wp2
            go_ret2
            exact ⟨by rw [HZ.out] <;> rfl, HB.out⟩
          have d3 : decide (vq ≥ 24) = false := by simpa using p24
          by_cases p60 : 60 ≤ vr
          · have d4 : decide (vr ≥ 60) = true := by simpa using p60
            rw [if_pos (.inr (.inr p60))] at HZ
            go_wp2_with fail
            refine (HN4.out _).mono ?_
            rintro e w2 ⟨rfl, rfl⟩
            go_wp2
            go_ret2
            exact ⟨by rw [HZ.out] <;> rfl, HB.out⟩
          have d4 : decide (vr ≥ 60) = false := by simpa using p60
          rw [if_neg (by simp; omega)] at HZ
          go_wp2_with fail
          refine (HN4.out _).mono ?_
          rintro e w2 ⟨rfl, rfl⟩
          go_wp2
          go_ret2
          exact ⟨by rw [HZ.out] <;> rfl, HB.out⟩
    have hcs : k = 0 ∨ k = 1 ∨ k = 2 ∨ k = 3 ∨ k = 4 ∨ k = 5 ∨ k = 6 ∨ k = 7 ∨ k = 8 ∨ k = 9 ∨ k = 10 := by omega
    rcases hcs with rfl | rfl | rfl | rfl | rfl | rfl | rfl | rfl | rfl | rfl | rfl
    · have hc := HSM.out D0 wr
      rw [H0.out] at hc
      cases hq : sameZ (nums s) (zoneL 0) with
      | true =>
        rw [hq] at hc
        have HZ : Hid (shiftN (nums s) = (hourL 0 * 3600, true)) := by
          unfold Hid shiftN
          rw [zof_hit (by decide) hq HN.out]
        clear hq
        go_wp2_with fail
        refine hc.mono ?_
        rintro e w2 ⟨rfl, hb⟩
        have hb2 := HB.out.trans (hb.mono HB.out.size)
        have y0 : w2.cell? ⟨3, 0, none⟩ = some (.int .i64 (0)) := (HG.out.below hb2).zh 0 (by decide)
        go_wp2
        go_ret2
        exact ⟨by rw [HZ.out] <;> rfl, hb2⟩
      | false =>
        rw [hq] at hc
        have HN2 : Hid (∀ i : Nat, i < 1 → sameZ (nums s) (zoneL i) = false) := fun i hi => by
          by_cases e : i = 0
          · subst e; exact hq
          · exact HN.out i (by omega)
        clear hq
        go_wp2_with fail
        refine hc.mono ?_
        rintro e w2 ⟨rfl, hb⟩
        have HB2 : Hid (Below w.heap.size w w2) := HB.out.trans (hb.mono HB.out.size)
        clear hb
        go_wp2
        go_roundw
        case rel => exact ⟨1, rfl, by omega, HB2, HN2⟩
        case measure => simp [intOf]
    · have hc := HSM.out D1 wr
      rw [H1.out] at hc
      cases hq : sameZ (nums s) (zoneL 1) with
      | true =>
        rw [hq] at hc
        have HZ : Hid (shiftN (nums s) = (hourL 1 * 3600, true)) := by
          unfold Hid shiftN
          rw [zof_hit (by decide) hq HN.out]
        clear hq
        go_wp2_with fail
        refine hc.mono ?_
        rintro e w2 ⟨rfl, hb⟩
        have hb2 := HB.out.trans (hb.mono HB.out.size)
        have y0 : w2.cell? ⟨3, 1, none⟩ = some (.int .i64 (0)) := (HG.out.below hb2).zh 1 (by decide)
        go_wp2
        go_ret2
        exact ⟨by rw [HZ.out] <;> rfl, hb2⟩
      | false =>
        rw [hq] at hc
        have HN2 : Hid (∀ i : Nat, i < 2 → sameZ (nums s) (zoneL i) = false) := fun i hi => by
          by_cases e : i = 1
          · subst e; exact hq
          · exact HN.out i (by omega)
        clear hq
        go_wp2_with fail
        refine hc.mono ?_
        rintro e w2 ⟨rfl, hb⟩
        have HB2 : Hid (Below w.heap.size w w2) := HB.out.trans (hb.mono HB.out.size)
        clear hb
        go_wp2
        go_roundw
        case rel => exact ⟨2, rfl, by omega, HB2, HN2⟩
        case measure => simp [intOf]
    · have hc := HSM.out D2 wr
      rw [H2.out] at hc
      cases hq : sameZ (nums s) (zoneL 2) with
      | true =>
        rw [hq] at hc
        have HZ : Hid (shiftN (nums s) = (hourL 2 * 3600, true)) := by
          unfold Hid shiftN
          rw [zof_hit (by decide) hq HN.out]
        clear hq
        go_wp2_with fail
        refine hc.mono ?_
        rintro e w2 ⟨rfl, hb⟩
        have hb2 := HB.out.trans (hb.mono HB.out.size)
        have y0 : w2.cell? ⟨3, 2, none⟩ = some (.int .i64 (0)) := (HG.out.below hb2).zh 2 (by decide)
        go_wp2
        go_ret2
        exact ⟨by rw [HZ.out] <;> rfl, hb2⟩
      | false =>
        rw [hq] at hc
        have HN2 : Hid (∀ i : Nat, i < 3 → sameZ (nums s) (zoneL i) = false) := fun i hi => by
          by_cases e : i = 2
          · subst e; exact hq
          · exact HN.out i (by omega)
        clear hq
        go_wp2_with fail
        refine hc.mono ?_
        rintro e w2 ⟨rfl, hb⟩
        have HB2 : Hid (Below w.heap.size w w2) := HB.out.trans (hb.mono HB.out.size)
        clear hb
        go_wp2
        go_roundw
        case rel => exact ⟨3, rfl, by omega, HB2, HN2⟩
        case measure => simp [intOf]
    · have hc := HSM.out D3 wr
      rw [H3.out] at hc
      cases hq : sameZ (nums s) (zoneL 3) with
      | true =>
        rw [hq] at hc
        have HZ : Hid (shiftN (nums s) = (hourL 3 * 3600, true)) := by
          unfold Hid shiftN
          rw [zof_hit (by decide) hq HN.out]
        clear hq
        go_wp2_with fail
        refine hc.mono ?_
        rintro e w2 ⟨rfl, hb⟩
        have hb2 := HB.out.trans (hb.mono HB.out.size)
        have y0 : w2.cell? ⟨3, 3, none⟩ = some (.int .i64 (-5)) := (HG.out.below hb2).zh 3 (by decide)
        go_wp2
        go_ret2
        exact ⟨by rw [HZ.out] <;> rfl, hb2⟩
      | false =>
        rw [hq] at hc
        have HN2 : Hid (∀ i : Nat, i < 4 → sameZ (nums s) (zoneL i) = false) := fun i hi => by
          by_cases e : i = 3
          · subst e; exact hq
          · exact HN.out i (by omega)
        clear hq
        go_wp2_with fail
        refine hc.mono ?_
        rintro e w2 ⟨rfl, hb⟩
        have HB2 : Hid (Below w.heap.size w w2) := HB.out.trans (hb.mono HB.out.size)
        clear hb
        go_wp2
        go_roundw
        case rel => exact ⟨4, rfl, by omega, HB2, HN2⟩
        case measure => simp [intOf]
    · have hc := HSM.out D4 wr
      rw [H4.out] at hc
      cases hq : sameZ (nums s) (zoneL 4) with
      | true =>
        rw [hq] at hc
        have HZ : Hid (shiftN (nums s) = (hourL 4 * 3600, true)) := by
          unfold Hid shiftN
          rw [zof_hit (by decide) hq HN.out]
        clear hq
        go_wp2_with fail
        refine hc.mono ?_
        rintro e w2 ⟨rfl, hb⟩
        have hb2 := HB.out.trans (hb.mono HB.out.size)
        have y0 : w2.cell? ⟨3, 4, none⟩ = some (.int .i64 (-6)) := (HG.out.below hb2).zh 4 (by decide)
        go_wp2
        go_ret2
        exact ⟨by rw [HZ.out] <;> rfl, hb2⟩
      | false =>
        rw [hq] at hc
        have HN2 : Hid (∀ i : Nat, i < 5 → sameZ (nums s) (zoneL i) = false) := fun i hi => by
          by_cases e : i = 4
          · subst e; exact hq
          · exact HN.out i (by omega)
        clear hq
        go_wp2_with fail
        refine hc.mono ?_
        rintro e w2 ⟨rfl, hb⟩
        have HB2 : Hid (Below w.heap.size w w2) := HB.out.trans (hb.mono HB.out.size)
        clear hb
        go_wp2
        go_roundw
        case rel => exact ⟨5, rfl, by omega, HB2, HN2⟩
        case measure => simp [intOf]
    · have hc := HSM.out D5 wr
      rw [H5.out] at hc
      cases hq : sameZ (nums s) (zoneL 5) with
      | true =>
        rw [hq] at hc
        have HZ : Hid (shiftN (nums s) = (hourL 5 * 3600, true)) := by
          unfold Hid shiftN
          rw [zof_hit (by decide) hq HN.out]
        clear hq
        go_wp2_with fail
        refine hc.mono ?_
        rintro e w2 ⟨rfl, hb⟩
        have hb2 := HB.out.trans (hb.mono HB.out.size)
        have y0 : w2.cell? ⟨3, 5, none⟩ = some (.int .i64 (-7)) := (HG.out.below hb2).zh 5 (by decide)
        go_wp2
        go_ret2
        exact ⟨by rw [HZ.out] <;> rfl, hb2⟩
      | false =>
        rw [hq] at hc
        have HN2 : Hid (∀ i : Nat, i < 6 → sameZ (nums s) (zoneL i) = false) := fun i hi => by
          by_cases e : i = 5
          · subst e; exact hq
          · exact HN.out i (by omega)
        clear hq
        go_wp2_with fail
        refine hc.mono ?_
        rintro e w2 ⟨rfl, hb⟩
        have HB2 : Hid (Below w.heap.size w w2) := HB.out.trans (hb.mono HB.out.size)
        clear hb
        go_wp2
        go_roundw
        case rel => exact ⟨6, rfl, by omega, HB2, HN2⟩
        case measure => simp [intOf]
    · have hc := HSM.out D6 wr
      rw [H6.out] at hc
      cases hq : sameZ (nums s) (zoneL 6) with
      | true =>
        rw [hq] at hc
        have HZ : Hid (shiftN (nums s) = (hourL 6 * 3600, true)) := by
          unfold Hid shiftN
          rw [zof_hit (by decide) hq HN.out]
        clear hq
        go_wp2_with fail
        refine hc.mono ?_
        rintro e w2 ⟨rfl, hb⟩
        have hb2 := HB.out.trans (hb.mono HB.out.size)
        have y0 : w2.cell? ⟨3, 6, none⟩ = some (.int .i64 (-8)) := (HG.out.below hb2).zh 6 (by decide)
        go_wp2
        go_ret2
        exact ⟨by rw [HZ.out] <;> rfl, hb2⟩
      | false =>
        rw [hq] at hc
        have HN2 : Hid (∀ i : Nat, i < 7 → sameZ (nums s) (zoneL i) = false) := fun i hi => by
          by_cases e : i = 6
          · subst e; exact hq
          · exact HN.out i (by omega)
        clear hq
        go_wp2_with fail
        refine hc.mono ?_
        rintro e w2 ⟨rfl, hb⟩
        have HB2 : Hid (Below w.heap.size w w2) := HB.out.trans (hb.mono HB.out.size)
        clear hb
        go_wp2
        go_roundw
        case rel => exact ⟨7, rfl, by omega, HB2, HN2⟩
        case measure => simp [intOf]
    · have hc := HSM.out D7 wr
      rw [H7.out] at hc
      cases hq : sameZ (nums s) (zoneL 7) with
      | true =>
        rw [hq] at hc
        have HZ : Hid (shiftN (nums s) = (hourL 7 * 3600, true)) := by
          unfold Hid shiftN
          rw [zof_hit (by decide) hq HN.out]
        clear hq
        go_wp2_with fail
        refine hc.mono ?_
        rintro e w2 ⟨rfl, hb⟩
        have hb2 := HB.out.trans (hb.mono HB.out.size)
        have y0 : w2.cell? ⟨3, 7, none⟩ = some (.int .i64 (-4)) := (HG.out.below hb2).zh 7 (by decide)
        go_wp2
        go_ret2
        exact ⟨by rw [HZ.out] <;> rfl, hb2⟩
      | false =>
        rw [hq] at hc
        have HN2 : Hid (∀ i : Nat, i < 8 → sameZ (nums s) (zoneL i) = false) := fun i hi => by
          by_cases e : i = 7
          · subst e; exact hq
          · exact HN.out i (by omega)
        clear hq
        go_wp2_with fail
        refine hc.mono ?_
        rintro e w2 ⟨rfl, hb⟩
        have HB2 : Hid (Below w.heap.size w w2) := HB.out.trans (hb.mono HB.out.size)
        clear hb
        go_wp2
        go_roundw
        case rel => exact ⟨8, rfl, by omega, HB2, HN2⟩
        case measure => simp [intOf]
    · have hc := HSM.out D8 wr
      rw [H8.out] at hc
      cases hq : sameZ (nums s) (zoneL 8) with
      | true =>
        rw [hq] at hc
        have HZ : Hid (shiftN (nums s) = (hourL 8 * 3600, true)) := by
          unfold Hid shiftN
          rw [zof_hit (by decide) hq HN.out]
        clear hq
        go_wp2_with fail
        refine hc.mono ?_
        rintro e w2 ⟨rfl, hb⟩
        have hb2 := HB.out.trans (hb.mono HB.out.size)
        have y0 : w2.cell? ⟨3, 8, none⟩ = some (.int .i64 (-5)) := (HG.out.below hb2).zh 8 (by decide)
        go_wp2
        go_ret2
        exact ⟨by rw [HZ.out] <;> rfl, hb2⟩
      | false =>
        rw [hq] at hc
        have HN2 : Hid (∀ i : Nat, i < 9 → sameZ (nums s) (zoneL i) = false) := fun i hi => by
          by_cases e : i = 8
          · subst e; exact hq
          · exact HN.out i (by omega)
        clear hq
        go_wp2_with fail
        refine hc.mono ?_
        rintro e w2 ⟨rfl, hb⟩
        have HB2 : Hid (Below w.heap.size w w2) := HB.out.trans (hb.mono HB.out.size)
        clear hb
        go_wp2
        go_roundw
        case rel => exact ⟨9, rfl, by omega, HB2, HN2⟩
        case measure => simp [intOf]
    · have hc := HSM.out D9 wr
      rw [H9.out] at hc
      cases hq : sameZ (nums s) (zoneL 9) with
      | true =>
        rw [hq] at hc
        have HZ : Hid (shiftN (nums s) = (hourL 9 * 3600, true)) := by
          unfold Hid shiftN
          rw [zof_hit (by decide) hq HN.out]
        clear hq
        go_wp2_with fail
        refine hc.mono ?_
        rintro e w2 ⟨rfl, hb⟩
        have hb2 := HB.out.trans (hb.mono HB.out.size)
        have y0 : w2.cell? ⟨3, 9, none⟩ = some (.int .i64 (-6)) := (HG.out.below hb2).zh 9 (by decide)
        go_wp2
        go_ret2
        exact ⟨by rw [HZ.out] <;> rfl, hb2⟩
      | false =>
        rw [hq] at hc
        have HN2 : Hid (∀ i : Nat, i < 10 → sameZ (nums s) (zoneL i) = false) := fun i hi => by
          by_cases e : i = 9
          · subst e; exact hq
          · exact HN.out i (by omega)
        clear hq
        go_wp2_with fail
        refine hc.mono ?_
        rintro e w2 ⟨rfl, hb⟩
        have HB2 : Hid (Below w.heap.size w w2) := HB.out.trans (hb.mono HB.out.size)
        clear hb
        go_wp2
        go_roundw
        case rel => exact ⟨10, rfl, by omega, HB2, HN2⟩
        case measure => simp [intOf]
    · have hc := HSM.out D10 wr
      rw [H10.out] at hc
      cases hq : sameZ (nums s) (zoneL 10) with
      | true =>
        rw [hq] at hc
        have HZ : Hid (shiftN (nums s) = (hourL 10 * 3600, true)) := by
          unfold Hid shiftN
          rw [zof_hit (by decide) hq HN.out]
        clear hq
        go_wp2_with fail
        refine hc.mono ?_
        rintro e w2 ⟨rfl, hb⟩
        have hb2 := HB.out.trans (hb.mono HB.out.size)
        have y0 : w2.cell? ⟨3, 10, none⟩ = some (.int .i64 (-7)) := (HG.out.below hb2).zh 10 (by decide)
        go_wp2
        go_ret2
        exact ⟨by rw [HZ.out] <;> rfl, hb2⟩
      | false =>
        rw [hq] at hc
        have HN2 : Hid (∀ i : Nat, i < 11 → sameZ (nums s) (zoneL i) = false) := fun i hi => by
          by_cases e : i = 10
          · subst e; exact hq
          · exact HN.out i (by omega)
        clear hq
        go_wp2_with fail
        refine hc.mono ?_
        rintro e w2 ⟨rfl, hb⟩
        have HB2 : Hid (Below w.heap.size w w2) := HB.out.trans (hb.mono HB.out.size)
        clear hb
        go_wp2
        go_roundw
        case rel => exact ⟨11, rfl, by omega, HB2, HN2⟩
        case measure => simp [intOf]
end Go.Proofs.YtomcjkghneingabDoor
