/-
  The contract of Parse.
-/
import Derived.Test.YtomcjkghneingabDoorTo
namespace Go.Proofs.YtomcjkghneingabDoor
open Go.RowKit Go.Shelf
set_option linter.unusedVariables false
set_option linter.unusedSimpArgs false

def parseE : Option (Int × Int) → Ending
  | some (t, z) => .returned (.tuple #[.int .i64 t, .int .i64 z, .int .i64 0])
  | none => .returned (.tuple #[.int .i64 0, .int .i64 0, .int .i64 110])
/-- No word behind the first that opens with a comma and says more. -/
def NoL : List (List Int) → Prop
  | a :: b :: _ => NoD a b
  | _ => True
set_option maxRecDepth 100000 in
theorem take_any (a : Option Addr) (cap : Nat) (xs : List ByteArray) (W : World) (hz : ∀ x ∈ xs, x.size ≤ 100000000) (hn : xs.length ≤ 100) (hc : xs.length ≤ cap) (hD : NoL (xs.map nums)) (hr : SRow W a xs) (hg : Gl W) : Calls Tryd.prog 13 #[.slice a xs.length cap] W (TakeP W (xs.map nums)) := by
  match xs, hz, hn, hc, hD, hr with
  | [], _, _, hc, _, hr => exact take_short a cap [] W (by decide) hc hr
  | [x], _, _, hc, _, hr => exact take_short a cap [x] W (by simp) hc hr
  | x :: y :: r, hz, hn, hc, hD, hr =>
    rcases hr with h | ⟨g, off, rfl, h⟩
    · cases h
    · exact take_long g off cap x y r W (hz x (by simp)) (hz y (by simp)) (by simp at hn; omega) (by simp at hc; omega) hD h hg
theorem results_tmp3 {fn : Func} {t u v : Tmp} (h : fn.results = #[.tmp t, .tmp u, .tmp v]) (tmps : Array Value) (P : Program) (w : World) :
    (results fn tmps).run P w = .ok (.tuple #[tmps.getD t undef, tmps.getD u undef, tmps.getD v undef]) w := by
  simp [results, h]
set_option maxHeartbeats 16000000 in
set_option maxRecDepth 100000 in
theorem parse_any (s : ByteArray) (w : World) (hs : s.size ≤ 100000000) (hD : NoL (listZ (nums s))) (hg : Gz w) : Calls Tryd.prog 7 #[.string s] w fun e w' => e = parseE (parseZ (nums s)) ∧ Below w.heap.size w w' := by
  have HG : Hid (Gz w) := hg
  have HD : Hid (NoL (listZ (nums s))) := hD
  have hli := listed_any s w hs
  go_enter Tryd.func7, Tryd.ntmps7
  go_wp2_with fail
  refine hli.mono ?_
  clear hli
  rintro e w1 ⟨a1, cap1, xs, rfl, hcap1, hr1, hx1, hb1⟩
  have hwd := list_wds (nums s)
  have hln := list_len (nums s)
  rw [← hx1] at hwd hln
  rw [List.length_map] at hln
  have htk := take_any a1 cap1 xs w1 (fun x hx => by have := (hwd (nums x) (List.mem_map_of_mem hx)).2; rw [nums_len, nums_len] at this; omega) (by omega) hcap1 (by rw [hx1]; exact HD.out) hr1 (HG.out.below hb1).toGl
  have htw := take_wds hwd
  have HB1 : Hid (Below w.heap.size w w1) := hb1
  obtain ⟨TK, hTK⟩ : ∃ TK, takeZ (xs.map nums) = TK := ⟨_, rfl⟩
  have HPZ : Hid (parseZ (nums s) = partsZ TK.1 TK.2) := by unfold Hid parseZ; rw [← hx1, hTK]
  unfold TakeP at htk
  rw [hTK] at htk htw
  clear hx1 hwd hTK hr1 hb1 hD hg
  go_wp2_with fail
  refine htk.mono ?_
  clear htk
  rintro e w2 ⟨a, cap, ys, rfl, hyz, hcap, hr, hb2⟩
  obtain ⟨wd, L⟩ := TK
  simp only at hyz htw ⊢
  have HB2 : Hid (Below w.heap.size w w2) := HB1.out.trans (hb2.mono HB1.out.size)
  have HG2 : Hid (Gz w2) := HG.out.below HB2.out
  rw [← hyz] at htw
  have hPZ2 := HPZ.out
  simp only at hPZ2
  rw [← hyz] at hPZ2
  have HPZ2 : Hid (parseZ (nums s) = partsZ wd (ys.map nums)) := hPZ2
  clear hPZ2 HPZ hyz hb2 HB1 HD
  have HS : Hid (∀ y ∈ ys, 0 < y.size ∧ y.size ≤ 100000000) := fun y hy => by
    have := htw (nums y) (List.mem_map_of_mem hy)
    rw [nums_len, nums_len] at this
    omega
  clear htw
  by_cases hn4 : ys.length = 4
  · obtain ⟨A, B, C, D, rfl⟩ : ∃ A B C D, ys = [A, B, C, D] := by
      match ys, hn4 with
      | [A, B, C, D], _ => exact ⟨A, B, C, D, rfl⟩
    obtain ⟨g, off, rfl, h⟩ : ∃ g off, a = some ⟨g, off, none⟩ ∧ ∀ i x, ([A, B, C, D] : List ByteArray)[i]? = some x → w2.cell? ⟨g, off + i, none⟩ = some (.string x) := by
      rcases hr with h | h
      · cases h
      · exact h
    simp only [List.length_cons, List.length_nil, Nat.reduceAdd, Nat.zero_add] at hcap ⊢
    have qA : w2.cell? ⟨g, off, none⟩ = some (.string A) := h 0 A rfl
    have zA := HS.out A (by simp)
    have qB : w2.cell? ⟨g, off + 1, none⟩ = some (.string B) := h 1 B rfl
    have zB := HS.out B (by simp)
    have qC : w2.cell? ⟨g, off + 2, none⟩ = some (.string C) := h 2 C rfl
    have zC := HS.out C (by simp)
    have qD : w2.cell? ⟨g, off + 3, none⟩ = some (.string D) := h 3 D rfl
    have zD := HS.out D (by simp)
    have HP3 : Hid (parseZ (nums s) = partsZ wd [nums A, nums B, nums C, nums D]) := HPZ2.out
    clear HPZ2 hr h HS hln hn4  hcap1
    have hdb := day_bound (nums A) (nums B) (nums C)
    obtain ⟨⟨dv, dq⟩, hdn⟩ : ∃ p, dayN (nums A) (nums B) (nums C) = p := ⟨_, rfl⟩
    have HDAY : Hid (∀ V, Below w2.heap.size w2 V → Calls Tryd.prog 15 #[.string A, .string B, .string C] V fun e w' => e = .returned (.tuple #[.int .i64 dv, .bool dq]) ∧ Below V.heap.size V w') := fun V hV => by
      have := dayOf_any A B C V zB.2 (HG2.out.below hV).toGl
      rw [hdn] at this
      exact this
    rw [hdn] at hdb
    simp only at hdb
    obtain ⟨d0, d1⟩ := hdb
    have hcb := clock_bound (nums D)
    obtain ⟨⟨cv, cq⟩, hcn⟩ : ∃ p, clockL (nums D) = p := ⟨_, rfl⟩
    have HCLK : Hid (∀ V, Calls Tryd.prog 16 #[.string D] V fun e w' => e = .returned (.tuple #[.int .i64 cv, .bool cq]) ∧ Below V.heap.size V w') := fun V => by
      have := clockOf_any D V
      rw [clock_list, hcn] at this
      exact this
    rw [hcn] at hcb
    simp only at hcb
    obtain ⟨k0, k1⟩ := hcb
    have HP4 : Hid (parseZ (nums s) = clockF wd (dv, dq) (cv, cq) (0, true)) := by
      unfold Hid
      rw [HP3.out, partsZ, hdn, hcn]
    clear hdn hcn HP3
    have HWD : Hid (∀ V, Below w2.heap.size w2 V → Calls Tryd.prog 5 #[.int .i64 dv] V fun e w' => e = .returned (.tuple #[.int .i64 (wdZ dv), .int .i64 0]) ∧ V = w') := fun V hV => wd_yes dv V d0 d1 (HG2.out.below hV).ah
    obtain ⟨nd, hnd⟩ : ∃ nd, wdZ dv = nd := ⟨_, rfl⟩
    rw [hnd] at HWD
    have HND : Hid (wdZ dv = nd) := hnd
    clear hnd
    have l4 : (4 : Int) ≤ 4 := by decide
    go_wp2
    go_region_held3 (fun V => Below w2.heap.size w2 V ∧ V.cell? ⟨g, off, none⟩ = some (.string A) ∧ V.cell? ⟨g, off + 1, none⟩ = some (.string B) ∧ V.cell? ⟨g, off + 2, none⟩ = some (.string C) ∧ V.cell? ⟨g, off + 3, none⟩ = some (.string D)) (refine ⟨?_, ?_, ?_, ?_, ?_⟩ <;> first | assumption | exact Below.refl _ _ | exact (below_drewN (Below.refl _ _) 1) | simp [*]) (first
      | (go_at_call 15; refine (HDAY.out _ (show Below w2.heap.size w2 _ by first | assumption | exact Below.refl _ _ | exact (below_drewN (Below.refl _ _) 1))).mono ?_; rintro e w3 ⟨rfl, hb3⟩; have hB3 : Below w2.heap.size w2 w3 := (show Below w2.heap.size w2 _ by first | assumption | exact Below.refl _ _ | exact (below_drewN (Below.refl _ _) 1)).trans (hb3.mono (show Below w2.heap.size w2 _ by first | assumption | exact Below.refl _ _ | exact (below_drewN (Below.refl _ _) 1)).size); have rA := cell_keep hB3 qA; have rB := cell_keep hB3 qB; have rC := cell_keep hB3 qC; have rD := cell_keep hB3 qD; clear hb3))
    have HB3 : Hid (Below w2.heap.size w2 w3) := hB3
    clear qA qB qC qD HDAY rA rB rC zA zB zC
    by_cases hbad : dq = false ∨ (wd ≠ -1 ∧ wd ≠ nd)
    · have HE : Hid (parseZ (nums s) = none ∧ Below w.heap.size w w3) := by
        refine ⟨?_, HB2.out.trans (hB3.mono HB2.out.size)⟩
        rw [HP4.out, clockF, if_pos]
        rw [HND.out]; exact hbad
      clear hB3
      cases dq with
      | false =>
        go_wp2_with fail
        refine (HWD.out w3 HB3.out).mono ?_
        rintro e w' ⟨rfl, rfl⟩
        go_wp2
        refine bodyPost_ret (results_tmp3 rfl _ _ _) rfl ?_
        exact ⟨by rw [HE.out.1] <;> rfl, HE.out.2⟩
      | true =>
        obtain ⟨h1, h2⟩ : wd ≠ -1 ∧ wd ≠ nd := by rcases hbad with h | h; cases h; exact h
        have h3 : (wd != -1) = true := by simpa using h1
        have h4 : (wd != nd) = true := by simpa using h2
        go_wp2_with fail
        refine (HWD.out w3 HB3.out).mono ?_
        rintro e w' ⟨rfl, rfl⟩
        go_wp2
        refine bodyPost_ret (results_tmp3 rfl _ _ _) rfl ?_
        exact ⟨by rw [HE.out.1] <;> rfl, HE.out.2⟩
    · have hdq : dq = true := by cases dq with | true => rfl | false => exact absurd (.inl rfl) hbad
      subst hdq
      have HP5 : Hid (parseZ (nums s) = if cq = true ∧ true = true ∧ dateB (dv * 86400 + cv) 0 = true then some (dv * 86400 + cv, 0) else none) := by
        unfold Hid
        rw [HP4.out, clockF, if_neg (show ¬ ((dv, true).2 = false ∨ (wd ≠ -1 ∧ wd ≠ wdZ dv)) by rw [HND.out]; exact hbad)]
        simp only [Int.sub_zero]
      have hDT : ∀ V, Calls Tryd.prog 11 #[.int .i64 (dv * 86400 + cv), .int .i64 0] V fun e w' => e = .returned (.bool (dateB (dv * 86400 + cv) 0)) ∧ V = w' := fun V => isDate_any (dv * 86400 + cv) 0 V (by omega) (by omega) (by omega) (by omega)
      obtain ⟨db, hdb⟩ : ∃ db, dateB (dv * 86400 + cv) 0 = db := ⟨_, rfl⟩
      rw [hdb] at HP5
      simp only [hdb] at hDT
      have HDT : Hid _ := hDT
      clear hDT hdb HP4
      have hw : wd = -1 ∨ wd = nd := by
        by_cases h : wd = -1
        · exact .inl h
        · exact .inr (Decidable.byContradiction fun q => hbad (.inr ⟨h, q⟩))
      clear hB3 hbad
      rcases Decidable.em (wd = -1) with rfl | hw1
      · go_wp2_with fail
        refine (HWD.out w3 HB3.out).mono ?_
        rintro e w' ⟨rfl, rfl⟩
        go_wp2_with fail
        refine (HCLK.out w3).mono ?_
        rintro e w4 ⟨rfl, hb4⟩
        have hB4 : Below w2.heap.size w2 w4 := HB3.out.trans (hb4.mono HB3.out.size)
        clear hb4 rD
        have HB5 : Hid (Below w.heap.size w w4) := HB2.out.trans (hB4.mono HB2.out.size)
        clear hB4
        cases cq with
        | false =>
          have HE : Hid (parseZ (nums s) = none) := by unfold Hid; rw [HP5.out, if_neg (by simp)]
          go_wp2
          refine bodyPost_ret (results_tmp3 rfl _ _ _) rfl ?_
          exact ⟨by rw [HE.out] <;> rfl, HB5.out⟩
        | true =>
          cases db with
          | false =>
            have HE : Hid (parseZ (nums s) = none) := by unfold Hid; rw [HP5.out, if_neg (by simp)]
            go_wp2_with fail
            refine (HDT.out _).mono ?_
            rintro e w' ⟨rfl, rfl⟩
            go_wp2
            refine bodyPost_ret (results_tmp3 rfl _ _ _) rfl ?_
            exact ⟨by rw [HE.out] <;> rfl, HB5.out⟩
          | true =>
            have HE : Hid (parseZ (nums s) = some (dv * 86400 + cv, 0)) := by unfold Hid; rw [HP5.out, if_pos (by simp)]
            go_wp2_with fail
            refine (HDT.out _).mono ?_
            rintro e w' ⟨rfl, rfl⟩
            go_wp2
            refine bodyPost_ret (results_tmp3 rfl _ _ _) rfl ?_
            exact ⟨by rw [HE.out] <;> rfl, HB5.out⟩
      · obtain rfl : wd = nd := hw.resolve_left hw1
        have hw2 : (wd != -1) = true := by simpa using hw1
        clear hw hw1
        go_wp2_with fail
        refine (HWD.out w3 HB3.out).mono ?_
        rintro e w' ⟨rfl, rfl⟩
        go_wp2_with fail
        refine (HCLK.out w3).mono ?_
        rintro e w4 ⟨rfl, hb4⟩
        have hB4 : Below w2.heap.size w2 w4 := HB3.out.trans (hb4.mono HB3.out.size)
        clear hb4 rD
        have HB5 : Hid (Below w.heap.size w w4) := HB2.out.trans (hB4.mono HB2.out.size)
        clear hB4
        cases cq with
        | false =>
          have HE : Hid (parseZ (nums s) = none) := by unfold Hid; rw [HP5.out, if_neg (by simp)]
          go_wp2
          refine bodyPost_ret (results_tmp3 rfl _ _ _) rfl ?_
          exact ⟨by rw [HE.out] <;> rfl, HB5.out⟩
        | true =>
          cases db with
          | false =>
            have HE : Hid (parseZ (nums s) = none) := by unfold Hid; rw [HP5.out, if_neg (by simp)]
            go_wp2_with fail
            refine (HDT.out _).mono ?_
            rintro e w' ⟨rfl, rfl⟩
            go_wp2
            refine bodyPost_ret (results_tmp3 rfl _ _ _) rfl ?_
            exact ⟨by rw [HE.out] <;> rfl, HB5.out⟩
          | true =>
            have HE : Hid (parseZ (nums s) = some (dv * 86400 + cv, 0)) := by unfold Hid; rw [HP5.out, if_pos (by simp)]
            go_wp2_with fail
            refine (HDT.out _).mono ?_
            rintro e w' ⟨rfl, rfl⟩
            go_wp2
            refine bodyPost_ret (results_tmp3 rfl _ _ _) rfl ?_
            exact ⟨by rw [HE.out] <;> rfl, HB5.out⟩
  · by_cases hn5 : ys.length = 5
    · obtain ⟨A, B, C, D, E, rfl⟩ : ∃ A B C D E, ys = [A, B, C, D, E] := by
        match ys, hn5 with
        | [A, B, C, D, E], _ => exact ⟨A, B, C, D, E, rfl⟩
      obtain ⟨g, off, rfl, h⟩ : ∃ g off, a = some ⟨g, off, none⟩ ∧ ∀ i x, ([A, B, C, D, E] : List ByteArray)[i]? = some x → w2.cell? ⟨g, off + i, none⟩ = some (.string x) := by
        rcases hr with h | h
        · cases h
        · exact h
      simp only [List.length_cons, List.length_nil, Nat.reduceAdd, Nat.zero_add] at hcap ⊢
      have qA : w2.cell? ⟨g, off, none⟩ = some (.string A) := h 0 A rfl
      have zA := HS.out A (by simp)
      have qB : w2.cell? ⟨g, off + 1, none⟩ = some (.string B) := h 1 B rfl
      have zB := HS.out B (by simp)
      have qC : w2.cell? ⟨g, off + 2, none⟩ = some (.string C) := h 2 C rfl
      have zC := HS.out C (by simp)
      have qD : w2.cell? ⟨g, off + 3, none⟩ = some (.string D) := h 3 D rfl
      have zD := HS.out D (by simp)
      have qE : w2.cell? ⟨g, off + 4, none⟩ = some (.string E) := h 4 E rfl
      have zE := HS.out E (by simp)
      have HP3 : Hid (parseZ (nums s) = partsZ wd [nums A, nums B, nums C, nums D, nums E]) := HPZ2.out
      clear HPZ2 hr h HS hln hn4 hn5 hcap1
      have hdb := day_bound (nums A) (nums B) (nums C)
      obtain ⟨⟨dv, dq⟩, hdn⟩ : ∃ p, dayN (nums A) (nums B) (nums C) = p := ⟨_, rfl⟩
      have HDAY : Hid (∀ V, Below w2.heap.size w2 V → Calls Tryd.prog 15 #[.string A, .string B, .string C] V fun e w' => e = .returned (.tuple #[.int .i64 dv, .bool dq]) ∧ Below V.heap.size V w') := fun V hV => by
        have := dayOf_any A B C V zB.2 (HG2.out.below hV).toGl
        rw [hdn] at this
        exact this
      rw [hdn] at hdb
      simp only at hdb
      obtain ⟨d0, d1⟩ := hdb
      have hcb := clock_bound (nums D)
      obtain ⟨⟨cv, cq⟩, hcn⟩ : ∃ p, clockL (nums D) = p := ⟨_, rfl⟩
      have HCLK : Hid (∀ V, Calls Tryd.prog 16 #[.string D] V fun e w' => e = .returned (.tuple #[.int .i64 cv, .bool cq]) ∧ Below V.heap.size V w') := fun V => by
        have := clockOf_any D V
        rw [clock_list, hcn] at this
        exact this
      rw [hcn] at hcb
      simp only at hcb
      obtain ⟨k0, k1⟩ := hcb
      have hsb := shift_bound (nums E)
      obtain ⟨⟨sv, sq⟩, hsn⟩ : ∃ p, shiftN (nums E) = p := ⟨_, rfl⟩
      have HSHF : Hid (∀ V, Below w2.heap.size w2 V → Calls Tryd.prog 17 #[.string E] V fun e w' => e = .returned (.tuple #[.int .i64 sv, .bool sq]) ∧ Below V.heap.size V w') := fun V hV => by
        have := shiftOf_any E V zE.1 zE.2 (HG2.out.below hV)
        rw [hsn] at this
        exact this
      rw [hsn] at hsb
      simp only at hsb
      obtain ⟨s0, s1⟩ := hsb
      have HP4 : Hid (parseZ (nums s) = clockF wd (dv, dq) (cv, cq) (sv, sq)) := by
        unfold Hid
        rw [HP3.out, partsZ, hdn, hcn, hsn]
      clear hdn hcn hsn HP3
      have HWD : Hid (∀ V, Below w2.heap.size w2 V → Calls Tryd.prog 5 #[.int .i64 dv] V fun e w' => e = .returned (.tuple #[.int .i64 (wdZ dv), .int .i64 0]) ∧ V = w') := fun V hV => wd_yes dv V d0 d1 (HG2.out.below hV).ah
      obtain ⟨nd, hnd⟩ : ∃ nd, wdZ dv = nd := ⟨_, rfl⟩
      rw [hnd] at HWD
      have HND : Hid (wdZ dv = nd) := hnd
      clear hnd
      have l4 : (4 : Int) ≤ 5 := by decide
      go_wp2
      go_region_held3 (fun V => Below w2.heap.size w2 V ∧ V.cell? ⟨g, off, none⟩ = some (.string A) ∧ V.cell? ⟨g, off + 1, none⟩ = some (.string B) ∧ V.cell? ⟨g, off + 2, none⟩ = some (.string C) ∧ V.cell? ⟨g, off + 3, none⟩ = some (.string D) ∧ V.cell? ⟨g, off + 4, none⟩ = some (.string E)) (refine ⟨?_, ?_, ?_, ?_, ?_, ?_⟩ <;> first | assumption | exact Below.refl _ _ | exact (below_drewN (Below.refl _ _) 1) | simp [*]) (first
        | (go_at_call 15; refine (HDAY.out _ (show Below w2.heap.size w2 _ by first | assumption | exact Below.refl _ _ | exact (below_drewN (Below.refl _ _) 1))).mono ?_; rintro e w3 ⟨rfl, hb3⟩; have hB3 : Below w2.heap.size w2 w3 := (show Below w2.heap.size w2 _ by first | assumption | exact Below.refl _ _ | exact (below_drewN (Below.refl _ _) 1)).trans (hb3.mono (show Below w2.heap.size w2 _ by first | assumption | exact Below.refl _ _ | exact (below_drewN (Below.refl _ _) 1)).size); have rA := cell_keep hB3 qA; have rB := cell_keep hB3 qB; have rC := cell_keep hB3 qC; have rD := cell_keep hB3 qD; have rE := cell_keep hB3 qE; clear hb3))
      have HB3 : Hid (Below w2.heap.size w2 w3) := hB3
      clear qA qB qC qD qE HDAY rA rB rC zA zB zC
      by_cases hbad : dq = false ∨ (wd ≠ -1 ∧ wd ≠ nd)
      · have HE : Hid (parseZ (nums s) = none ∧ Below w.heap.size w w3) := by
          refine ⟨?_, HB2.out.trans (hB3.mono HB2.out.size)⟩
          rw [HP4.out, clockF, if_pos]
          rw [HND.out]; exact hbad
        clear hB3
        cases dq with
        | false =>
          go_wp2_with fail
          refine (HWD.out w3 HB3.out).mono ?_
          rintro e w' ⟨rfl, rfl⟩
          go_wp2
          refine bodyPost_ret (results_tmp3 rfl _ _ _) rfl ?_
          exact ⟨by rw [HE.out.1] <;> rfl, HE.out.2⟩
        | true =>
          obtain ⟨h1, h2⟩ : wd ≠ -1 ∧ wd ≠ nd := by rcases hbad with h | h; cases h; exact h
          have h3 : (wd != -1) = true := by simpa using h1
          have h4 : (wd != nd) = true := by simpa using h2
          go_wp2_with fail
          refine (HWD.out w3 HB3.out).mono ?_
          rintro e w' ⟨rfl, rfl⟩
          go_wp2
          refine bodyPost_ret (results_tmp3 rfl _ _ _) rfl ?_
          exact ⟨by rw [HE.out.1] <;> rfl, HE.out.2⟩
      · have hdq : dq = true := by cases dq with | true => rfl | false => exact absurd (.inl rfl) hbad
        subst hdq
        have HP5 : Hid (parseZ (nums s) = if cq = true ∧ sq = true ∧ dateB (dv * 86400 + cv - sv) sv = true then some (dv * 86400 + cv - sv, sv) else none) := by
          unfold Hid
          rw [HP4.out, clockF, if_neg (show ¬ ((dv, true).2 = false ∨ (wd ≠ -1 ∧ wd ≠ wdZ dv)) by rw [HND.out]; exact hbad)]
          
        have hDT : ∀ V, Calls Tryd.prog 11 #[.int .i64 (dv * 86400 + cv - sv), .int .i64 sv] V fun e w' => e = .returned (.bool (dateB (dv * 86400 + cv - sv) sv)) ∧ V = w' := fun V => isDate_any (dv * 86400 + cv - sv) sv V (by omega) (by omega) (by omega) (by omega)
        obtain ⟨db, hdb⟩ : ∃ db, dateB (dv * 86400 + cv - sv) sv = db := ⟨_, rfl⟩
        rw [hdb] at HP5
        simp only [hdb] at hDT
        have HDT : Hid _ := hDT
        clear hDT hdb HP4
        have hw : wd = -1 ∨ wd = nd := by
          by_cases h : wd = -1
          · exact .inl h
          · exact .inr (Decidable.byContradiction fun q => hbad (.inr ⟨h, q⟩))
        clear hB3 hbad
        rcases Decidable.em (wd = -1) with rfl | hw1
        · go_wp2_with fail
          refine (HWD.out w3 HB3.out).mono ?_
          rintro e w' ⟨rfl, rfl⟩
          go_wp2_with fail
          refine (HCLK.out w3).mono ?_
          rintro e w4 ⟨rfl, hb4⟩
          have hB4 : Below w2.heap.size w2 w4 := HB3.out.trans (hb4.mono HB3.out.size)
          have rE4 := cell_keep hb4 rE
          clear hb4 rD rE
          go_wp2_with fail
          refine (HSHF.out w4 hB4).mono ?_
          rintro e w5 ⟨rfl, hb5⟩
          have HB5 : Hid (Below w.heap.size w w5) := HB2.out.trans ((hB4.trans (hb5.mono hB4.size)).mono HB2.out.size)
          clear hb5 hB4 rE4
          cases cq with
          | false =>
            have HE : Hid (parseZ (nums s) = none) := by unfold Hid; rw [HP5.out, if_neg (by simp)]
            go_wp2
            refine bodyPost_ret (results_tmp3 rfl _ _ _) rfl ?_
            exact ⟨by rw [HE.out] <;> rfl, HB5.out⟩
          | true =>
            cases sq with
            | false =>
              have HE : Hid (parseZ (nums s) = none) := by unfold Hid; rw [HP5.out, if_neg (by simp)]
              go_wp2
              refine bodyPost_ret (results_tmp3 rfl _ _ _) rfl ?_
              exact ⟨by rw [HE.out] <;> rfl, HB5.out⟩
            | true =>
              cases db with
              | false =>
                have HE : Hid (parseZ (nums s) = none) := by unfold Hid; rw [HP5.out, if_neg (by simp)]
                go_wp2_with fail
                refine (HDT.out _).mono ?_
                rintro e w' ⟨rfl, rfl⟩
                go_wp2
                refine bodyPost_ret (results_tmp3 rfl _ _ _) rfl ?_
                exact ⟨by rw [HE.out] <;> rfl, HB5.out⟩
              | true =>
                have HE : Hid (parseZ (nums s) = some (dv * 86400 + cv - sv, sv)) := by unfold Hid; rw [HP5.out, if_pos (by simp)]
                go_wp2_with fail
                refine (HDT.out _).mono ?_
                rintro e w' ⟨rfl, rfl⟩
                go_wp2
                refine bodyPost_ret (results_tmp3 rfl _ _ _) rfl ?_
                exact ⟨by rw [HE.out] <;> rfl, HB5.out⟩
        · obtain rfl : wd = nd := hw.resolve_left hw1
          have hw2 : (wd != -1) = true := by simpa using hw1
          clear hw hw1
          go_wp2_with fail
          refine (HWD.out w3 HB3.out).mono ?_
          rintro e w' ⟨rfl, rfl⟩
          go_wp2_with fail
          refine (HCLK.out w3).mono ?_
          rintro e w4 ⟨rfl, hb4⟩
          have hB4 : Below w2.heap.size w2 w4 := HB3.out.trans (hb4.mono HB3.out.size)
          have rE4 := cell_keep hb4 rE
          clear hb4 rD rE
          go_wp2_with fail
          refine (HSHF.out w4 hB4).mono ?_
          rintro e w5 ⟨rfl, hb5⟩
          have HB5 : Hid (Below w.heap.size w w5) := HB2.out.trans ((hB4.trans (hb5.mono hB4.size)).mono HB2.out.size)
          clear hb5 hB4 rE4
          cases cq with
          | false =>
            have HE : Hid (parseZ (nums s) = none) := by unfold Hid; rw [HP5.out, if_neg (by simp)]
            go_wp2
            refine bodyPost_ret (results_tmp3 rfl _ _ _) rfl ?_
            exact ⟨by rw [HE.out] <;> rfl, HB5.out⟩
          | true =>
            cases sq with
            | false =>
              have HE : Hid (parseZ (nums s) = none) := by unfold Hid; rw [HP5.out, if_neg (by simp)]
              go_wp2
              refine bodyPost_ret (results_tmp3 rfl _ _ _) rfl ?_
              exact ⟨by rw [HE.out] <;> rfl, HB5.out⟩
            | true =>
              cases db with
              | false =>
                have HE : Hid (parseZ (nums s) = none) := by unfold Hid; rw [HP5.out, if_neg (by simp)]
                go_wp2_with fail
                refine (HDT.out _).mono ?_
                rintro e w' ⟨rfl, rfl⟩
                go_wp2
                refine bodyPost_ret (results_tmp3 rfl _ _ _) rfl ?_
                exact ⟨by rw [HE.out] <;> rfl, HB5.out⟩
              | true =>
                have HE : Hid (parseZ (nums s) = some (dv * 86400 + cv - sv, sv)) := by unfold Hid; rw [HP5.out, if_pos (by simp)]
                go_wp2_with fail
                refine (HDT.out _).mono ?_
                rintro e w' ⟨rfl, rfl⟩
                go_wp2
                refine bodyPost_ret (results_tmp3 rfl _ _ _) rfl ?_
                exact ⟨by rw [HE.out] <;> rfl, HB5.out⟩
    · have h4 : ((ys.length : Int) != 4) = true := by simp; omega
      have h5 : ((ys.length : Int) != 5) = true := by simp; omega
      have HE : Hid (parseZ (nums s) = none) := by
        unfold Hid
        rw [HPZ2.out]
        match ys, hn4, hn5 with
        | [], _, _ => rfl
        | [_], _, _ => rfl
        | [_, _], _, _ => rfl
        | [_, _, _], _, _ => rfl
        | [_, _, _, _], h, _ => exact absurd rfl h
        | [_, _, _, _, _], _, h => exact absurd rfl h
        | _ :: _ :: _ :: _ :: _ :: _ :: _, _, _ => rfl
      go_wp2
      refine bodyPost_ret (results_tmp3 rfl _ _ _) rfl ?_
      exact ⟨by rw [HE.out] <;> rfl, HB2.out⟩
end Go.Proofs.YtomcjkghneingabDoor
