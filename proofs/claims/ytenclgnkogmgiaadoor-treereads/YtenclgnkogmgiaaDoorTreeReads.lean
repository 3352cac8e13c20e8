/-
  TreeReads: whatever bytes come, at most 6000 of them, the program reads of them the component that the document reads, or both tell the same error.
-/
import Derived.Test.YtenclgnkogmgiaaDoorCards
import Derived.Test.YtenclgnkogmgiaaDoorTie
import Derived.Test.YtenclgnkogmgiaaDoorXw
import Derived.Test.YtenclgnkogmgiaaDoorXs
import Derived.Test.YtenclgnkogmgiaaDoorXd
import Derived.Test.YtenclgnkogmgiaaDoorXc
import Derived.WalkKit
import Derived.ProofKit
import Derived.OpenShut
import Derived.ShutString
import Derived.ChangeOld
import Derived.Below
import Derived.HandedShaped
import Derived.LaidMore
import Derived.Lay
import Derived.SevenTiedAt
import Derived.Stop.Joined
namespace Go.Proofs.YtenclgnkogmgiaaDoor.treeReads
open Go.ChangeShapes Go.WideShapes Go.ChangeAt Go.RowKit
open Go.ChangeMaps (open_string shut_string)
set_option linter.unusedVariables false
set_option linter.unusedSimpArgs false

theorem same_ln {ls ks : List Lm} (h : SameL ls ks) : ls.map Lm.ln = ks.map Lm.ln := by
  apply List.ext_getElem?
  intro i
  rw [List.getElem?_map, List.getElem?_map]
  cases h1 : ls[i]? with
  | none =>
    have : ks[i]? = none := by rw [List.getElem?_eq_none_iff] at h1 ⊢; have := h.1; omega
    first | (rw [this]; rfl) | rw [this]
  | some m =>
    obtain ⟨m', h2⟩ : ∃ m', ks[i]? = some m' := ⟨_, List.getElem?_eq_getElem (by have := (List.getElem?_eq_some_iff.1 h1).1; have := h.1; omega)⟩
    rw [h2]
    obtain ⟨e1, e2, e3⟩ := h.2 i m m' h1 h2
    simp only [Option.map_some, Lm.ln, e1, e2, e3]

theorem both {l : List Int} {W V : World} {x y z x' y' z' : Value} {c c' : Int} (h : TrAns l W x y z c) (h' : RvAns l V x' y' z' c') : c = c' ∧ ∃ t, CpAt 80000 W t x y z ∧ CpAt 80000 V t x' y' z' := by
  rcases h with ⟨p, h1, rfl, rfl, rfl⟩ | ⟨ms, h1, h2⟩
  · rcases h' with ⟨p', k1, rfl, rfl, rfl⟩ | ⟨ks, k1, _⟩
    · exact ⟨(rf_rf h1 k1).2, ⟨[], [], []⟩, CpAt.up 1 _ _ _ _ _ (by omega) (zero_at W), CpAt.up 1 _ _ _ _ _ (by omega) (zero_at V)⟩
    · exact (rf_rok h1 k1).elim
  · rcases h' with ⟨p', k1, _⟩ | ⟨ks, k1, k2⟩
    · exact (rf_rok k1 h1).elim
    · have e := same_ln (rok_rok h1 k1)
      rcases h2 with ⟨a1, rfl, rfl, rfl, rfl⟩ | ⟨t, a1, rfl, _, a3⟩
      · rcases k2 with ⟨b1, rfl, rfl, rfl, rfl⟩ | ⟨t', b1, _⟩
        · exact ⟨rfl, ⟨[], [], []⟩, CpAt.up 1 _ _ _ _ _ (by omega) (zero_at W), CpAt.up 1 _ _ _ _ _ (by omega) (zero_at V)⟩
        · rw [← e, a1] at b1; cases b1
      · rcases k2 with ⟨b1, _⟩ | ⟨t', b1, rfl, b2⟩
        · rw [← e, a1] at b1; cases b1
        · rw [← e, a1] at b1
          simp only [Option.some.injEq] at b1
          subst b1
          exact ⟨rfl, t, CpAt.up 4097 _ _ _ _ _ (by omega) a3, b2⟩
set_option maxHeartbeats 8000000 in
set_option maxRecDepth 100000 in
theorem walk (a : Option Addr) (len cap : Nat) (z0 : List Int) (w : World) (h : IsRow .u8 w a len cap z0) (mx : Int) (hm : w.cell? ⟨0, 0, none⟩ = some (.int .i64 mx)) : Calls Tryd.prog 4 #[.slice a len cap] w fun e w' => e = .returned (.bool true) ∧ Below w.heap.size w w' := by
  obtain ⟨zs, hl, hcap, hcm, hb, hr⟩ := byte_view h
  have HM : Hid (w.cell? ⟨0, 0, none⟩ = some (.int .i64 mx)) := hm
  have HL : Hid (zs.length = len) := hl
  have hbig : len ≤ 9223372036854775807 := by have : maxLen = 9223372036854775807 := rfl; omega
  have HR : Hid (Row w a zs) := hr
  have HB : Hid (Byt zs) := hb
  clear hm h hl
  by_cases h6 : 6000 < len
  · go_enter Tryd.func4, Tryd.ntmps4
    go_wp2_with (go_at_call 11; refine (alive_any _ mx HM.out).mono ?_; rintro e w1 ⟨rfl, hb1⟩)
    go_ret
    exact ⟨rfl, hb1⟩
  have hrd := read_tree a len cap zs w HL.out hb hcap hcm hr mx HM.out
  clear hb hr
  go_enter Tryd.func4, Tryd.ntmps4
  go_wp2_with fail
  refine hrd.mono ?_
  rintro e w1 ⟨x1, y1, z1, c1, rfl, hb1, hans⟩
  clear hrd
  obtain ⟨⟨n1, rfl⟩, ⟨a1, m1, k1, rfl⟩, ⟨a2, m2, k2, rfl⟩⟩ : (∃ s, x1 = .string s) ∧ (∃ a n c, y1 = .slice a n c) ∧ (∃ a n c, z1 = .slice a n c) := by
    rcases hans with ⟨_, _, rfl, rfl, rfl⟩ | ⟨_, _, ⟨_, _, rfl, rfl, rfl⟩ | ⟨t, _, _, _, hc⟩⟩
    · exact ⟨⟨_, rfl⟩, ⟨_, _, _, rfl⟩, ⟨_, _, _, rfl⟩⟩
    · exact ⟨⟨_, rfl⟩, ⟨_, _, _, rfl⟩, ⟨_, _, _, rfl⟩⟩
    · obtain ⟨⟨s, e, _⟩, h2, h3⟩ := cp_form hc
      exact ⟨⟨s, e⟩, h2, h3⟩
  have HB1 : Hid (Below w.heap.size w w1) := hb1
  have HA1 : Hid (TrAns zs w1 (.string n1) (.slice a1 m1 k1) (.slice a2 m2 k2) c1) := hans
  have hkx := keep w1 (.cells #[.string n1, .slice a1 m1 k1, .slice a2 m2 k2] 25)
  have HX1 : Hid (Blk (w1.alloc (.cells #[.string n1, .slice a1 m1 k1, .slice a2 m2 k2] 25)) w1.heap.size #[.string n1, .slice a1 m1 k1, .slice a2 m2 k2] 25) := Blk.new _ _ _
  have HKX : Hid (Below w1.heap.size w1 (w1.alloc (.cells #[.string n1, .slice a1 m1 k1, .slice a2 m2 k2] 25))) := hkx
  have hbx : Below w.heap.size w (w1.alloc (.cells #[.string n1, .slice a1 m1 k1, .slice a2 m2 k2] 25)) := hb1.trans (hkx.mono hb1.size)
  have HBX : Hid (Below w.heap.size w (w1.alloc (.cells #[.string n1, .slice a1 m1 k1, .slice a2 m2 k2] 25))) := hbx
  have hrd := rread_tree a len cap zs (w1.alloc (.cells #[.string n1, .slice a1 m1 k1, .slice a2 m2 k2] 25)) HL.out HB.out hcap hcm (row_below HR.out hbx)
  unfold compV
  clear hb1 hans hkx hbx
  go_wp2_with fail
  refine hrd.mono ?_
  rintro e w2 ⟨x2, y2, z2, c2, rfl, hb2, hans⟩
  clear hrd
  obtain ⟨⟨n3, rfl⟩, ⟨a3, m3, k3, rfl⟩, ⟨a4, m4, k4, rfl⟩⟩ : (∃ s, x2 = .string s) ∧ (∃ a n c, y2 = .slice a n c) ∧ (∃ a n c, z2 = .slice a n c) := by
    rcases hans with ⟨_, _, rfl, rfl, rfl⟩ | ⟨_, _, ⟨_, _, rfl, rfl, rfl⟩ | ⟨t, _, _, hc⟩⟩
    · exact ⟨⟨_, rfl⟩, ⟨_, _, _, rfl⟩, ⟨_, _, _, rfl⟩⟩
    · exact ⟨⟨_, rfl⟩, ⟨_, _, _, rfl⟩, ⟨_, _, _, rfl⟩⟩
    · obtain ⟨⟨s, e, _⟩, h2, h3⟩ := cp_form hc
      exact ⟨⟨s, e⟩, h2, h3⟩
  obtain ⟨hcc, t, hp1, hp2⟩ := both HA1.out hans
  subst hcc
  have hb12 : Below w1.heap.size w1 w2 := HKX.out.trans (hb2.mono HKX.out.size)
  have HP1 : Hid (CpAt 80000 w2 t (.string n1) (.slice a1 m1 k1) (.slice a2 m2 k2)) := CpAt.below hb12 _ _ _ _ _ hp1
  have HP2 : Hid (CpAt 80000 w2 t (.string n3) (.slice a3 m3 k3) (.slice a4 m4 k4)) := hp2
  have HB2 : Hid (Below w.heap.size w w2) := HB1.out.trans (hb12.mono HB1.out.size)
  have hky := keep w2 (.cells #[.string n3, .slice a3 m3 k3, .slice a4 m4 k4] 25)
  have HKY : Hid (Below w2.heap.size w2 (w2.alloc (.cells #[.string n3, .slice a3 m3 k3, .slice a4 m4 k4] 25))) := hky
  have HX2 : Hid (Blk (w2.alloc (.cells #[.string n3, .slice a3 m3 k3, .slice a4 m4 k4] 25)) w1.heap.size #[.string n1, .slice a1 m1 k1, .slice a2 m2 k2] 25) := (HX1.out.below hb2 HX1.out.lt).alloc _
  have HY2 : Hid (Blk (w2.alloc (.cells #[.string n3, .slice a3 m3 k3, .slice a4 m4 k4] 25)) w2.heap.size #[.string n3, .slice a3 m3 k3, .slice a4 m4 k4] 25) := Blk.new _ _ _
  have hal := alive_any (w2.alloc (.cells #[.string n3, .slice a3 m3 k3, .slice a4 m4 k4] 25)) mx (cell_keep hky (cell_keep HB2.out HM.out))
  unfold compV
  clear hb2 hans hb12 hp1 hp2 hky
  go_wp2_with fail
  refine hal.mono ?_
  rintro e w3 ⟨rfl, hb3⟩
  clear hal
  have hb23 : Below w2.heap.size w2 w3 := HKY.out.trans (hb3.mono HKY.out.size)
  have HB3 : Hid (Below w.heap.size w w3) := HB2.out.trans (hb23.mono HB2.out.size)
  obtain ⟨g0, g1, g2⟩ := cells3 (HX2.out.below hb3 HX2.out.lt)
  obtain ⟨q0, q1, q2⟩ := cells3 (HY2.out.below hb3 HY2.out.lt)
  have hsm := same_all 80000 t _ _ _ _ _ _ w3 (CpAt.below hb23 _ _ _ _ _ HP1.out) (CpAt.below hb23 _ _ _ _ _ HP2.out)
  unfold compV at hsm
  clear hb3 hb23
  go_wp2_with (go_at_call 18; refine hsm.mono ?_; rintro e w4 ⟨rfl, hb4⟩)
  go_ret
  exact ⟨by first | rfl | simp, HB3.out.trans (hb4.mono HB3.out.size)⟩

set_option maxRecDepth 100000 in
theorem lifted (os : Os) (started : os.Started) (H : Type) (enc : TypeId × Value → H) :
    ReturnsInHanded {} Tryd.checked os 4 .any (fun w args => (Rows.treeReadsSpec.pre enc Tryd.prog Tryd.f4 Rows.treeReadsRow.domain false w args ∧ laidMetH Tryd.prog Rows.treeReadsRow.laid w) ∧ sizedMet enc Tryd.prog Tryd.f4 (OpenSpec.ofChange Rows.treeReadsSpec) false w args)
      (Rows.treeReadsSpec.post enc Tryd.prog Tryd.f4 false true false false) := by
  refine step_all (C := Tryd.checked) (X := fun w _ => laidMetH Tryd.prog Rows.treeReadsRow.laid w) (fun _ _ _ hh h => h.of_heap hh) own started (by kernel_rfl) Tryd.func4
    (ChangeSpec.witness_shaped (enc := enc) (C := Tryd.checked) (os := os) (X := fun w _ => laidMetH Tryd.prog Rows.treeReadsRow.laid w) false (World.laidAll Tryd.prog os Rows.treeReadsRow.laid) #[.slice none 0 0] 8 (World.laidAll_os _ _ _)
      (World.shaped_of_ZipB (by kernel_rfl) (by kernel_rfl)) (by kernel_rfl) (by kernel_rfl) (by kernel_rfl)
      (by rw [MakeChecks.laidMetH_plain _ _ _ (by kernel_rfl)]; exact laidMet_laidAll _ (by kernel_rfl) (by kernel_rfl))) ?_
  intro W base args ds gs before hval0 hW hcnd hsz0 hsh hL
  have hval : ∀ (j : Nat) t v, Tryd.f4.params[j]? = some t → args[j]? = some v → Value.okWide Tryd.prog W .any base t v := hval0
  have hsz : (DataW.weightsEach Tryd.prog (Tryd.f4.params.toList ++ Rows.treeReadsSpec.plain.varTypes Tryd.prog) (ds ++ gs)).all (· ≤ reachBytes) = true := hsz0
  have hW' := hW
  obtain ⟨p, q, hA0, hV, rfl, hfz, hnd⟩ := hW
  have hA : DataW.TrodAll enc Tryd.prog W 0 (fun _ => true) true Tryd.f4.params.toList args.toList ds p := hA0
  rw [Tryd.params4] at hA hval hsz
  obtain ⟨v0, vs0, d0, ds0, p0, q0, hargs0, rfl, rfl, h0, r0⟩ := trodAll_cons hA
  obtain ⟨rfl, rfl, rfl⟩ := trodAll_nil r0
  obtain rfl : args = #[v0] := by cases args; simp_all
  obtain ⟨rfl, rfl⟩ := trodVars_none hV
  have k0 := h0
  have lt0 : ∀ x ∈ p0, x.block < W.heap.size := by obtain ⟨m, hm⟩ := k0; exact DataW.trod_lt m _ _ _ hm
  obtain ⟨a0, len0, cap0, rfl⟩ := okWide_slice Tryd.underlying29 (hval 0 29 v0 rfl rfl)
  obtain ⟨z0, w0⟩ : ∃ zs, IsRow .u8 W a0 len0 cap0 zs := by
    obtain ⟨fuel, hf⟩ := h0
    rcases open_ints Tryd.underlying29 Tryd.underlying5 (by kernel_rfl) hf with ⟨hcs, _⟩ | ⟨x, l, c, zs, hcs, _, hl, hm, hz, _, hcell, hwz⟩
    · simp [Value.cells] at hcs
      obtain ⟨rfl, rfl, rfl⟩ := hcs
      exact ⟨[], .inl ⟨rfl, rfl, rfl, rfl⟩⟩
    · simp [Value.cells] at hcs
      obtain ⟨rfl, rfl, rfl⟩ := hcs
      exact ⟨zs, .inr ⟨_, rfl, hl, hm, by simpa using hz, hcell, hwz⟩⟩
  clear hA0 hval0
  obtain ⟨m, hm⟩ := shape_cell W hsh
  refine (walk a0 len0 cap0 z0 W w0 m hm).mono fun e W' ⟨he, bel⟩ => ?_
  subst he
  exact ⟨_, rfl, _, _, _, [], _, [], hW', trodAll_mk1 (shut_bool Tryd.underlying4 _), (trodAll_cons_mk (Below.trod laidOut (by kernel_rfl) (of_decide_eq_true (by kernel_rfl)) k0 bel lt0) trodAll_mk0), rfl, bel.frame _, fun h => by cases h⟩

theorem over : Rows.TreeReadsSaid :=
  OpenClaim.holds_of_wide 4 Tryd.f4 rfl rfl rfl rfl rfl rfl rfl ⟨rfl, rfl, rfl, rfl, rfl⟩ rfl rfl rfl rfl rfl (by kernel_rfl) Tryd.func4 (by kernel_rfl)
    (of_decide_eq_true (by kernel_rfl)) (by unfold Func.isWrapper; first | (rw [if_pos (by decide +kernel)]; kernel_rfl) | (rw [if_neg (by decide +kernel)]; exact ⟨rfl, rfl⟩))
    (fun os started H enc _ => lifted os started H enc)
end Go.Proofs.YtenclgnkogmgiaaDoor.treeReads
namespace Go.Proofs.YtenclgnkogmgiaaDoor
theorem treeReads_card : Rows.TreeReadsCardSaid :=
  Claim7.holds_tied_plain_at .later [] _ _ _ _ treeReads.over (fun _ h => by cases h) (by kernel_rfl) (fun _ h => by cases h) treeReads_row_tie rfl ⟨rfl, rfl⟩ (by kernel_rfl) rfl
    (fun f fn hf hfn => by
      obtain rfl : f = 4 := Option.some.inj ((show Tryd.prog.funcNamed Rows.treeReadsRow.func = some 4 by kernel_rfl).symm.trans hf) |>.symm
      obtain rfl : fn = Tryd.f4 := (Option.some.inj (Tryd.func4.symm.trans hfn)).symm
      exact ⟨by kernel_rfl, fun j t ht => by
        rw [Tryd.params4] at ht
        have hm : t ∈ [29] := by simpa using Array.mem_of_getElem? ht
        have hall : ([29].all fun u => !Tryd.prog.wantsStandIn u) = true := by kernel_rfl
        exact (show Tryd.prog.wantsStandIn t = false by simpa using List.all_eq_true.1 hall t hm)⟩)
    (by kernel_rfl)
#print axioms treeReads_card
end Go.Proofs.YtenclgnkogmgiaaDoor
