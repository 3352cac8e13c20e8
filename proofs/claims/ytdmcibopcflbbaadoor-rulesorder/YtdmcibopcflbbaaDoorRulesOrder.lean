/-
  For every three marks the statement RulesOrder of the given rows holds: of two marks that are unlike just one is newer, and what is newer than a newer one is newer (a tied card: the listed tables are tied to the program; no other condition).
-/
import Derived.Test.YtdmcibopcflbbaaDoorCards
import Derived.Test.YtdmcibopcflbbaaDoorTie
import Derived.Test.YtdmcibopcflbbaaDoorAr
import Derived.Deep.RegionHeld3
import Derived.WalkKit
import Derived.ProofKit
import Derived.OpenShut
import Derived.ShutString
import Derived.ChangeOld
import Derived.Below
import Derived.LaidMore
import Derived.Lay
import Derived.SevenTiedAt
import Derived.Stop.Joined
import Derived.SizedLaws
namespace Go.Proofs.YtdmcibopcflbbaaDoor.rulesOrder
open Go.ChangeShapes Go.WideShapes Go.ChangeAt Go.RowKit
open Go.ChangeMaps (open_string shut_string)
set_option linter.unusedVariables false

theorem new_not {a b c d : Int} : newZ a b c d = true → newZ c d a b = false := by unfold newZ; simp; omega
theorem new_same (a b : Int) : newZ a b a b = false := by unfold newZ; simp
theorem new_or {a b c d : Int} (h : newZ a b c d = false) (k : newZ c d a b = false) : a = c ∧ b = d := by
  unfold newZ at h k; simp at h k; omega
theorem new_ne {a b c d : Int} (h : newZ a b c d = true) : ¬ (a = c ∧ b = d) := by unfold newZ at h; simp at h; omega
theorem new_trans {a b c d e f : Int} (h : newZ a b c d = true) (k : newZ c d e f = true) : newZ a b e f = true := by unfold newZ at *; simp at *; omega
theorem below_drew {n : Nat} {w w' : World} (h : Below n w w') : Below n w w'.drew := below_drewN h 1
set_option maxHeartbeats 8000000 in
set_option maxRecDepth 100000 in
theorem walk (a0 a1 b0 b1 c0 c1 : Int) (w : World) :
    Calls Tryd.prog 5 #[.agg #[.int .i64 a0, .int .i64 a1], .agg #[.int .i64 b0, .int .i64 b1], .agg #[.int .i64 c0, .int .i64 c1]] w fun e w' => e = .returned (.bool true) ∧ Below w.heap.size w w' := by
  have HB : Hid (Below w.heap.size w (((w.alloc (.cells #[.int .i64 a0, .int .i64 a1] 36)).alloc (.cells #[.int .i64 b0, .int .i64 b1] 36)).alloc (.cells #[.int .i64 c0, .int .i64 c1] 36))) := ((keep w _).alloc (by simp) _).alloc (by simp; omega) _
  have u0 : (((w.alloc (.cells #[.int .i64 a0, .int .i64 a1] 36)).alloc (.cells #[.int .i64 b0, .int .i64 b1] 36)).alloc (.cells #[.int .i64 c0, .int .i64 c1] 36)).cell? ⟨w.heap.size, 0, none⟩ = some (.int .i64 a0) := by simp [go_sem]
  have u1 : (((w.alloc (.cells #[.int .i64 a0, .int .i64 a1] 36)).alloc (.cells #[.int .i64 b0, .int .i64 b1] 36)).alloc (.cells #[.int .i64 c0, .int .i64 c1] 36)).cell? ⟨w.heap.size, 1, none⟩ = some (.int .i64 a1) := by simp [go_sem]
  have u2 : (((w.alloc (.cells #[.int .i64 a0, .int .i64 a1] 36)).alloc (.cells #[.int .i64 b0, .int .i64 b1] 36)).alloc (.cells #[.int .i64 c0, .int .i64 c1] 36)).cell? ⟨w.heap.size + 1, 0, none⟩ = some (.int .i64 b0) := by simp [go_sem]
  have u3 : (((w.alloc (.cells #[.int .i64 a0, .int .i64 a1] 36)).alloc (.cells #[.int .i64 b0, .int .i64 b1] 36)).alloc (.cells #[.int .i64 c0, .int .i64 c1] 36)).cell? ⟨w.heap.size + 1, 1, none⟩ = some (.int .i64 b1) := by simp [go_sem]
  have u4 : (((w.alloc (.cells #[.int .i64 a0, .int .i64 a1] 36)).alloc (.cells #[.int .i64 b0, .int .i64 b1] 36)).alloc (.cells #[.int .i64 c0, .int .i64 c1] 36)).cell? ⟨w.heap.size + 1 + 1, 0, none⟩ = some (.int .i64 c0) := by simp [go_sem]
  have u5 : (((w.alloc (.cells #[.int .i64 a0, .int .i64 a1] 36)).alloc (.cells #[.int .i64 b0, .int .i64 b1] 36)).alloc (.cells #[.int .i64 c0, .int .i64 c1] 36)).cell? ⟨w.heap.size + 1 + 1, 1, none⟩ = some (.int .i64 c1) := by simp [go_sem]
  go_enter Tryd.func5, Tryd.ntmps5
  go_wp2_with fail
  generalize (((w.alloc (.cells #[.int .i64 a0, .int .i64 a1] 36)).alloc (.cells #[.int .i64 b0, .int .i64 b1] 36)).alloc (.cells #[.int .i64 c0, .int .i64 c1] 36)) = W at HB u0 u1 u2 u3 u4 u5 ⊢
  go_region_held3 (fun V => Below W.heap.size W V ∧ V.cell? ⟨w.heap.size, 0, none⟩ = some (.int .i64 a0) ∧ V.cell? ⟨w.heap.size, 1, none⟩ = some (.int .i64 a1) ∧ V.cell? ⟨w.heap.size + 1, 0, none⟩ = some (.int .i64 b0) ∧ V.cell? ⟨w.heap.size + 1, 1, none⟩ = some (.int .i64 b1) ∧ V.cell? ⟨w.heap.size + 1 + 1, 0, none⟩ = some (.int .i64 c0) ∧ V.cell? ⟨w.heap.size + 1 + 1, 1, none⟩ = some (.int .i64 c1)) (refine ⟨?_, ?_, ?_, ?_, ?_, ?_, ?_⟩ <;> first | assumption | exact below_drew (Below.refl _ _) | simp [*]) (first | (go_at_call 19; refine (newer_any _ _ _ _ _).mono ?_; rintro e w5 ⟨rfl, hb5⟩; have hB5 : Below W.heap.size W w5 := (show Below W.heap.size W _ by first | assumption | exact below_drew (Below.refl _ _)).trans (hb5.mono (show Below W.heap.size W _ by first | assumption | exact below_drew (Below.refl _ _)).size); have hS0 := cell_keep hB5 u0; have hS1 := cell_keep hB5 u1; have hS2 := cell_keep hB5 u2; have hS3 := cell_keep hB5 u3; have hS4 := cell_keep hB5 u4; have hS5 := cell_keep hB5 u5; clear hb5))
  replace HB : Hid (Below w.heap.size w w5) := HB.out.trans (hB5.mono HB.out.size)
  replace u0 := hS0
  replace u1 := hS1
  replace u2 := hS2
  replace u3 := hS3
  replace u4 := hS4
  replace u5 := hS5
  clear hB5 hS0 hS1 hS2 hS3 hS4 hS5
  cases hx : newZ a0 a1 b0 b1 with
  | true =>
    have hy := new_not hx
    have HX : Hid (newZ a0 a1 b0 b1 = true) := hx
    rw [hy]
    have hne := new_ne hx
    clear hx hy
    by_cases q0 : a0 = b0
    · have q1 : (a1 == b1) = false := by simp; intro h; exact hne ⟨q0, h⟩
      clear hne
      have e0 : (a0 == b0) = true := by simpa using q0
      clear q0
      go_wp2_with fail
      refine (alive_any _).mono ?_
      rintro e V1 ⟨rfl, hb⟩
      replace HB : Hid (Below w.heap.size w V1) := HB.out.trans (hb.mono HB.out.size)
      replace u0 := cell_keep hb u0
      replace u1 := cell_keep hb u1
      replace u2 := cell_keep hb u2
      replace u3 := cell_keep hb u3
      replace u4 := cell_keep hb u4
      replace u5 := cell_keep hb u5
      clear hb
      go_wp2_with fail
      refine (newer_any a0 a1 a0 a1 _).mono ?_
      rintro e V2 ⟨rfl, hb⟩
      rw [new_same]
      replace HB : Hid (Below w.heap.size w V2) := HB.out.trans (hb.mono HB.out.size)
      replace u0 := cell_keep hb u0
      replace u1 := cell_keep hb u1
      replace u2 := cell_keep hb u2
      replace u3 := cell_keep hb u3
      replace u4 := cell_keep hb u4
      replace u5 := cell_keep hb u5
      clear hb
      go_wp2_with fail
      refine (newer_any b0 b1 c0 c1 _).mono ?_
      rintro e V3 ⟨rfl, hb⟩
      replace HB : Hid (Below w.heap.size w V3) := HB.out.trans (hb.mono HB.out.size)
      replace u0 := cell_keep hb u0
      replace u1 := cell_keep hb u1
      replace u2 := cell_keep hb u2
      replace u3 := cell_keep hb u3
      replace u4 := cell_keep hb u4
      replace u5 := cell_keep hb u5
      clear hb
      cases hz : newZ b0 b1 c0 c1 with
      | false =>
        go_wp2
        go_ret
        exact ⟨rfl, HB.out⟩
      | true =>
        have ht := new_trans HX.out hz
        go_wp2_with fail
        refine (newer_any a0 a1 c0 c1 _).mono ?_
        rintro e V4 ⟨rfl, hb⟩
        rw [ht]
        replace HB : Hid (Below w.heap.size w V4) := HB.out.trans (hb.mono HB.out.size)
        replace u0 := cell_keep hb u0
        replace u1 := cell_keep hb u1
        replace u2 := cell_keep hb u2
        replace u3 := cell_keep hb u3
        replace u4 := cell_keep hb u4
        replace u5 := cell_keep hb u5
        clear hb
        go_wp2
        go_ret
        exact ⟨rfl, HB.out⟩
    · have e0 : (a0 == b0) = false := by simpa using q0
      clear hne q0
      go_wp2_with fail
      refine (alive_any _).mono ?_
      rintro e V1 ⟨rfl, hb⟩
      replace HB : Hid (Below w.heap.size w V1) := HB.out.trans (hb.mono HB.out.size)
      replace u0 := cell_keep hb u0
      replace u1 := cell_keep hb u1
      replace u2 := cell_keep hb u2
      replace u3 := cell_keep hb u3
      replace u4 := cell_keep hb u4
      replace u5 := cell_keep hb u5
      clear hb
      go_wp2_with fail
      refine (newer_any a0 a1 a0 a1 _).mono ?_
      rintro e V2 ⟨rfl, hb⟩
      rw [new_same]
      replace HB : Hid (Below w.heap.size w V2) := HB.out.trans (hb.mono HB.out.size)
      replace u0 := cell_keep hb u0
      replace u1 := cell_keep hb u1
      replace u2 := cell_keep hb u2
      replace u3 := cell_keep hb u3
      replace u4 := cell_keep hb u4
      replace u5 := cell_keep hb u5
      clear hb
      go_wp2_with fail
      refine (newer_any b0 b1 c0 c1 _).mono ?_
      rintro e V3 ⟨rfl, hb⟩
      replace HB : Hid (Below w.heap.size w V3) := HB.out.trans (hb.mono HB.out.size)
      replace u0 := cell_keep hb u0
      replace u1 := cell_keep hb u1
      replace u2 := cell_keep hb u2
      replace u3 := cell_keep hb u3
      replace u4 := cell_keep hb u4
      replace u5 := cell_keep hb u5
      clear hb
      cases hz : newZ b0 b1 c0 c1 with
      | false =>
        go_wp2
        go_ret
        exact ⟨rfl, HB.out⟩
      | true =>
        have ht := new_trans HX.out hz
        go_wp2_with fail
        refine (newer_any a0 a1 c0 c1 _).mono ?_
        rintro e V4 ⟨rfl, hb⟩
        rw [ht]
        replace HB : Hid (Below w.heap.size w V4) := HB.out.trans (hb.mono HB.out.size)
        replace u0 := cell_keep hb u0
        replace u1 := cell_keep hb u1
        replace u2 := cell_keep hb u2
        replace u3 := cell_keep hb u3
        replace u4 := cell_keep hb u4
        replace u5 := cell_keep hb u5
        clear hb
        go_wp2
        go_ret
        exact ⟨rfl, HB.out⟩
  | false =>
    cases hy : newZ b0 b1 a0 a1 with
    | true =>
      have hne := new_ne hy
      clear hx hy
      by_cases q0 : a0 = b0
      · have q1 : (a1 == b1) = false := by simp; intro h; exact hne ⟨q0.symm, h.symm⟩
        clear hne
        have e0 : (a0 == b0) = true := by simpa using q0
        clear q0
        go_wp2_with fail
        refine (alive_any _).mono ?_
        rintro e V1 ⟨rfl, hb⟩
        replace HB : Hid (Below w.heap.size w V1) := HB.out.trans (hb.mono HB.out.size)
        replace u0 := cell_keep hb u0
        replace u1 := cell_keep hb u1
        replace u2 := cell_keep hb u2
        replace u3 := cell_keep hb u3
        replace u4 := cell_keep hb u4
        replace u5 := cell_keep hb u5
        clear hb
        go_wp2_with fail
        refine (newer_any a0 a1 a0 a1 _).mono ?_
        rintro e V2 ⟨rfl, hb⟩
        rw [new_same]
        replace HB : Hid (Below w.heap.size w V2) := HB.out.trans (hb.mono HB.out.size)
        replace u0 := cell_keep hb u0
        replace u1 := cell_keep hb u1
        replace u2 := cell_keep hb u2
        replace u3 := cell_keep hb u3
        replace u4 := cell_keep hb u4
        replace u5 := cell_keep hb u5
        clear hb
        go_wp2
        go_ret
        exact ⟨rfl, HB.out⟩
      · have e0 : (a0 == b0) = false := by simpa using q0
        clear hne q0
        go_wp2_with fail
        refine (alive_any _).mono ?_
        rintro e V1 ⟨rfl, hb⟩
        replace HB : Hid (Below w.heap.size w V1) := HB.out.trans (hb.mono HB.out.size)
        replace u0 := cell_keep hb u0
        replace u1 := cell_keep hb u1
        replace u2 := cell_keep hb u2
        replace u3 := cell_keep hb u3
        replace u4 := cell_keep hb u4
        replace u5 := cell_keep hb u5
        clear hb
        go_wp2_with fail
        refine (newer_any a0 a1 a0 a1 _).mono ?_
        rintro e V2 ⟨rfl, hb⟩
        rw [new_same]
        replace HB : Hid (Below w.heap.size w V2) := HB.out.trans (hb.mono HB.out.size)
        replace u0 := cell_keep hb u0
        replace u1 := cell_keep hb u1
        replace u2 := cell_keep hb u2
        replace u3 := cell_keep hb u3
        replace u4 := cell_keep hb u4
        replace u5 := cell_keep hb u5
        clear hb
        go_wp2
        go_ret
        exact ⟨rfl, HB.out⟩
    | false =>
      obtain ⟨rfl, rfl⟩ := new_or hx hy
      clear hx hy
      go_wp2_with fail
      refine (alive_any _).mono ?_
      rintro e V1 ⟨rfl, hb⟩
      replace HB : Hid (Below w.heap.size w V1) := HB.out.trans (hb.mono HB.out.size)
      replace u0 := cell_keep hb u0
      replace u1 := cell_keep hb u1
      replace u2 := cell_keep hb u2
      replace u3 := cell_keep hb u3
      replace u4 := cell_keep hb u4
      replace u5 := cell_keep hb u5
      clear hb
      go_wp2_with fail
      refine (newer_any a0 a1 a0 a1 _).mono ?_
      rintro e V2 ⟨rfl, hb⟩
      rw [new_same]
      replace HB : Hid (Below w.heap.size w V2) := HB.out.trans (hb.mono HB.out.size)
      replace u0 := cell_keep hb u0
      replace u1 := cell_keep hb u1
      replace u2 := cell_keep hb u2
      replace u3 := cell_keep hb u3
      replace u4 := cell_keep hb u4
      replace u5 := cell_keep hb u5
      clear hb
      go_wp2
      go_ret
      exact ⟨rfl, HB.out⟩

set_option maxRecDepth 100000 in
theorem lifted (os : Os) (started : os.Started) (H : Type) (enc : TypeId × Value → H) :
    ReturnsInHanded {} Tryd.checked os 5 .any (fun w args => (Rows.rulesOrderSpec.pre enc Tryd.prog Tryd.f5 Rows.rulesOrderRow.domain false w args ∧ laidMetH Tryd.prog Rows.rulesOrderRow.laid w) ∧ sizedMet enc Tryd.prog Tryd.f5 (OpenSpec.ofChange Rows.rulesOrderSpec) false w args)
      (Rows.rulesOrderSpec.post enc Tryd.prog Tryd.f5 false true false false) := by
  refine returnsInHanded_of_change_and (C := Tryd.checked) (X := fun w _ => laidMetH Tryd.prog Rows.rulesOrderRow.laid w) (fun _ _ _ hh h => h.of_heap hh) own started (by kernel_rfl) Tryd.func5
    (ChangeSpec.witness_shaped (enc := enc) (C := Tryd.checked) (os := os) (X := fun w _ => laidMetH Tryd.prog Rows.rulesOrderRow.laid w) false (World.laidAll Tryd.prog os Rows.rulesOrderRow.laid) #[.agg #[.int .i64 0, .int .i64 0], .agg #[.int .i64 0, .int .i64 0], .agg #[.int .i64 0, .int .i64 0]] 8 (World.laidAll_os _ _ _)
      (World.shaped_of_ZipB (by kernel_rfl) (by kernel_rfl)) (by kernel_rfl) (by kernel_rfl) (by kernel_rfl)
      (by rw [MakeChecks.laidMetH_plain _ _ _ (by kernel_rfl)]; exact laidMet_laidAll _ (by kernel_rfl) (by kernel_rfl))) ?_
  intro W base args ds gs before hval0 hW hcnd hsz0 hL _
  have hval : ∀ (j : Nat) t v, Tryd.f5.params[j]? = some t → args[j]? = some v → Value.okWide Tryd.prog W .any base t v := hval0
  have hsz : (DataW.weightsEach Tryd.prog (Tryd.f5.params.toList ++ Rows.rulesOrderSpec.plain.varTypes Tryd.prog) (ds ++ gs)).all (· ≤ reachBytes) = true := hsz0
  have hW' := hW
  obtain ⟨p, q, hA0, hV, rfl, hfz, hnd⟩ := hW
  have hA : DataW.TrodAll enc Tryd.prog W 0 (fun _ => true) true Tryd.f5.params.toList args.toList ds p := hA0
  rw [Tryd.params5] at hA hval hsz
  obtain ⟨v0, vs0, d0, ds0, p0, q0, hargs, rfl, rfl, h0, r0⟩ := trodAll_cons hA
  obtain ⟨v1, vs1, d1, ds1, p1, q1, rfl, rfl, rfl, h1, r1⟩ := trodAll_cons r0
  obtain ⟨v2, vs2, d2, ds2, p2, q2, rfl, rfl, rfl, h2, r2⟩ := trodAll_cons r1
  obtain ⟨rfl, rfl, rfl⟩ := trodAll_nil r2
  obtain rfl : args = #[v0, v1, v2] := by cases args; simp_all
  obtain ⟨rfl, rfl⟩ := trodVars_none hV
  have k0 := h0
  have lt0 : ∀ x ∈ p0, x.block < W.heap.size := by obtain ⟨m, hm⟩ := k0; exact DataW.trod_lt m _ _ _ hm
  obtain ⟨s0, t0, rfl⟩ := mark_arg (hval 0 36 v0 rfl rfl) h0
  have k1 := h1
  have lt1 : ∀ x ∈ p1, x.block < W.heap.size := by obtain ⟨m, hm⟩ := k1; exact DataW.trod_lt m _ _ _ hm
  obtain ⟨s1, t1, rfl⟩ := mark_arg (hval 1 36 v1 rfl rfl) h1
  have k2 := h2
  have lt2 : ∀ x ∈ p2, x.block < W.heap.size := by obtain ⟨m, hm⟩ := k2; exact DataW.trod_lt m _ _ _ hm
  obtain ⟨s2, t2, rfl⟩ := mark_arg (hval 2 36 v2 rfl rfl) h2
  clear hA0 hval0
  refine (walk s0 t0 s1 t1 s2 t2 W   ).mono fun e W' ⟨he, bel⟩ => ?_
  subst he
  exact ⟨_, rfl, _, _, _, [], _, [], hW', trodAll_mk1 (shut_bool Tryd.underlying4 _), (trodAll_cons_mk (Below.trod laidOut (by kernel_rfl) (of_decide_eq_true (by kernel_rfl)) k0 bel lt0) (trodAll_cons_mk (Below.trod laidOut (by kernel_rfl) (of_decide_eq_true (by kernel_rfl)) k1 bel lt1) (trodAll_cons_mk (Below.trod laidOut (by kernel_rfl) (of_decide_eq_true (by kernel_rfl)) k2 bel lt2) trodAll_mk0))), rfl, bel.frame _, fun h => by cases h⟩

theorem over : Rows.RulesOrderSaid :=
  OpenClaim.holds_of_wide 5 Tryd.f5 rfl rfl rfl rfl rfl rfl rfl ⟨rfl, rfl, rfl, rfl, rfl⟩ rfl rfl rfl rfl rfl (by kernel_rfl) Tryd.func5 (by kernel_rfl)
    (of_decide_eq_true (by kernel_rfl)) (by unfold Func.isWrapper; first | (rw [if_pos (by decide +kernel)]; kernel_rfl) | (rw [if_neg (by decide +kernel)]; exact ⟨rfl, rfl⟩))
    (fun os started H enc _ => lifted os started H enc)
end Go.Proofs.YtdmcibopcflbbaaDoor.rulesOrder
namespace Go.Proofs.YtdmcibopcflbbaaDoor
theorem rulesOrder_card : Rows.RulesOrderCardSaid :=
  Claim7.holds_tied_plain_at .later [] _ _ _ _ rulesOrder.over (fun _ h => by cases h) (by kernel_rfl) (fun _ h => by cases h) rulesOrder_row_tie rfl ⟨rfl, rfl⟩ (by kernel_rfl) rfl
    (fun f fn hf hfn => by
      obtain rfl : f = 5 := Option.some.inj ((show Tryd.prog.funcNamed Rows.rulesOrderRow.func = some 5 by kernel_rfl).symm.trans hf) |>.symm
      obtain rfl : fn = Tryd.f5 := (Option.some.inj (Tryd.func5.symm.trans hfn)).symm
      exact ⟨by kernel_rfl, fun j t ht => by
        rw [Tryd.params5] at ht
        have hm : t ∈ [36, 36, 36] := by simpa using Array.mem_of_getElem? ht
        have hall : ([36, 36, 36].all fun u => !Tryd.prog.wantsStandIn u) = true := by kernel_rfl
        exact (show Tryd.prog.wantsStandIn t = false by simpa using List.all_eq_true.1 hall t hm)⟩)
    (by kernel_rfl)
#print axioms rulesOrder_card
end Go.Proofs.YtdmcibopcflbbaaDoor
