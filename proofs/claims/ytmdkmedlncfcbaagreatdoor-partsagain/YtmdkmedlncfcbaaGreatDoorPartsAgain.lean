/-
  What is read, if it can be written, is read as the same (P9.5): for all bytes the statement PartsAgain answers true, and leaves its argument as it was.
-/
import Derived.Test.YtmdkmedlncfcbaaGreatDoorCards
import Derived.Test.YtmdkmedlncfcbaaGreatDoorTie
import Derived.Test.YtmdkmedlncfcbaaGreatDoorZz
import Derived.HandedShaped
import Derived.WalkKit
import Derived.ProofKit
import Derived.OpenShut
import Derived.ShutString
import Derived.ChangeOld
import Derived.Below
import Derived.LaidMore
import Derived.Lay
import Derived.SevenTiedAt
import Derived.Stop.Joined
namespace Go.Proofs.YtmdkmedlncfcbaaGreatDoor.partsAgain
open Go.ChangeShapes Go.WideShapes Go.ChangeAt Go.RowKit
open Go.ChangeMaps (open_string shut_string)
set_option linter.unusedVariables false

/-- A row's step: its listed variables and the world's shape are handed on. -/
theorem step_both {H : Type} {enc : TypeId × Value → H} {a : Assume} {C : Checked} {os : Os} {f : FuncId} {fn : Func} {s : ChangeSpec} {conds : List PathCond} {apart fresh handsOn again : Bool} {X : World → Array Value → Prop}
    (hX : ∀ (w w' : World) (args : Array Value), w.heap = w'.heap → X w args → X w' args)
    (own : ownKnob C.prog.godebug = none) (started : os.Started) (noInit : C.prog.inits.idxOf? f = none) (hfn : C.prog.funcs[f]? = some fn)
    (witness : ∃ (w : World) (tape : Tape) (i : Input), w.os = os ∧ (w.forCall tape i).Shaped C.prog ∧ i.vars = [] ∧ Input.okWide C.prog (w.forCall tape i) .any w.heap.size f i ∧
      ((s.pre enc C.prog fn conds apart (w.forCall tape i).memory i.args ∧ X (w.forCall tape i).memory i.args) ∧ sizedMet enc C.prog fn (OpenSpec.ofChange s) apart (w.forCall tape i).memory i.args) ∧ a.holds C.prog (lone (Frame.enter C.prog f i.args .normal) [] (w.forCall tape i)))
    (contract : ∀ (W : World) (base : Nat) (args : Array Value) (ds gs : List (DataW H)) (before : List MemPlace), (∀ (j : Nat) t v, fn.params[j]? = some t → args[j]? = some v → Value.okWide C.prog W .any base t v) →
      DataW.Whole enc C.prog fn.params.toList s.vars apart W args.toList ds gs before → conds.all (PathCond.test C.prog ⟨fn.params.toList, ds, s.plain.varTypes C.prog, gs⟩) = true → W.ShapedOpen C.prog → X W args →
      Calls C.prog f args W fun e W' => ∃ v, e = .returned v ∧ s.post enc C.prog fn apart fresh handsOn again W args v W') :
    ReturnsInHanded a C os f .any (fun w args => (s.pre enc C.prog fn conds apart w args ∧ X w args) ∧ sizedMet enc C.prog fn (OpenSpec.ofChange s) apart w args) (s.post enc C.prog fn apart fresh handsOn again) := by
  refine returnsInHanded_of_calls own started noInit witness ?_
  intro w tape i _ hsh _ hok hpre _
  obtain ⟨_, _, _, fn', hfn', _, _, _, _, hval⟩ := hok
  obtain rfl : fn' = fn := Option.some.inj (hfn'.symm.trans hfn)
  obtain ⟨⟨⟨ds, gs, before, hw, hc⟩, hx⟩, _⟩ := hpre
  refine (contract (w.forCall tape i) w.heap.size i.args ds gs before hval (DataW.Whole.of_heap (w' := w.forCall tape i) (by rfl) hw) hc hsh (hX _ _ _ (by rfl) hx)).mono ?_
  rintro e W' ⟨v, rfl, hp⟩
  exact ChangeSpec.post_blind hp
theorem own : ownKnob Tryz.prog.godebug = none := by kernel_rfl
theorem laidOut : laidOutB Tryz.prog = true := by kernel_rfl
theorem nil_tree (w : World) : PtAt 8 w ⟨[], [], []⟩ (.slice none 0 0) (.slice none 0 0) (.slice none 0 0) :=
  ⟨⟨none, 0, rfl, .inl rfl, Nat.zero_le _⟩, ⟨none, 0, rfl, Nat.le_refl _, Nat.zero_le _, fun _ => rfl, fun y hy => by simp at hy, .inl rfl⟩, ⟨Nat.zero_le _, none, 0, rfl, .inl rfl⟩⟩
set_option maxRecDepth 100000 in
set_option maxHeartbeats 8000000 in
theorem walk (a0 : Option Addr) (len0 cap0 : Nat) (z0 : List Int) (w : World) (w0 : IsRow .u8 w a0 len0 cap0 z0) (hm : Mx w) :
    Calls Tryz.prog 7 #[.slice a0 len0 cap0] w fun e w' => e = .returned (.bool true) ∧ Below w.heap.size w w' := by
  have hnil := isRow_nil w0
  obtain ⟨zs, hl, hc, hcm, hb, hr⟩ := byte_view w0
  have HM : Hid (Mx w) := hm
  have hcm2 := hcm
  unfold maxLen at hcm
  by_cases h6 : 8000 < len0
  · have hd : decide ((len0 : Int) > 8000) = true := by simp; omega
    clear hm hr hb w0
    go_enter Tryz.func7, Tryz.ntmps7
    go_wp2_with fail
    refine (alive_any w HM.out).mono ?_
    rintro e w2 ⟨rfl, hb2⟩
    go_wp2
    go_ret
    exact ⟨rfl, hb2⟩
  have hd : decide ((len0 : Int) > 8000) = false := by simp; omega
  have hP := parse_top a0 len0 cap0 zs w hl hc hcm2 hnil (by omega) hb hr hm
  have HBY : Hid (Byt zs) := hb
  have HLE : Hid (zs.length ≤ 1048576) := by unfold Hid; omega
  clear hm hr hb w0 hcm2
  go_enter Tryz.func7, Tryz.ntmps7
  go_wp2_with fail
  refine hP.mono ?_
  clear hP
  rintro e w1 ⟨vf, vb, vp, c1, rfl, hb1, hans⟩
  rcases hans with ⟨t, h1, rfl, h3⟩ | ⟨er, h1, rfl, h0, rfl, rfl, rfl⟩
  · have hpt := h3.now
    have HFT : Hid (FitT 8 t) := fit_read 7 0 zs (prP 7 0 zs).1 t (by rw [← h1]) HBY.out HLE.out
    obtain ⟨⟨f1, f2, f3, rfl⟩, ⟨b1, b2, b3, rfl⟩, ⟨p1, p2, p3, rfl⟩⟩ := pt_slices hpt
    have hk1 := keep w1 (.cells #[.slice f1 f2 f3, .slice b1 b2 b3, .slice p1 p2 p3] 28)
    have hG := Blk.new w1 #[.slice f1 f2 f3, .slice b1 b2 b3, .slice p1 p2 p3] 28
    obtain ⟨g, hg⟩ : ∃ g, w1.heap.size = g := ⟨_, rfl⟩
    obtain ⟨u1, hu1⟩ : ∃ u, w1.alloc (.cells #[.slice f1 f2 f3, .slice b1 b2 b3, .slice p1 p2 p3] 28) = u := ⟨_, rfl⟩
    have HB1 : Hid (Below w.heap.size w u1) := by rw [← hu1]; exact hb1.trans (hk1.mono hb1.size)
    have HP1 : Hid (PtAt 8 u1 t (.slice f1 f2 f3) (.slice b1 b2 b3) (.slice p1 p2 p3)) := by rw [← hu1]; exact PtAt.below hk1 _ _ _ _ _ hpt
    have HG1 : Hid (Blk u1 g #[.slice f1 f2 f3, .slice b1 b2 b3, .slice p1 p2 p3] 28) := by rw [← hu1, ← hg]; exact hG
    have hwt := write_top 8 t _ _ _ u1 HP1.out HFT.out (HM.out.keep HB1.out)
    obtain ⟨g0, g1, g2⟩ := cells3 HG1.out
    unfold partV at hwt ⊢
    clear h3 hpt hk1 hG hb1 h1
    go_wp2_with fail
    refine hwt.mono ?_
    clear hwt
    rintro e w2 ⟨v, c2, rfl, hb2, hans⟩
    have HB2 : Hid (Below w.heap.size w w2) := HB1.out.trans (hb2.mono HB1.out.size)
    rcases hans with ⟨o, h4, rfl, hown, hol, hob⟩ | ⟨h4, rfl, rfl⟩
    · obtain ⟨hbk, _⟩ := wr_top h4
      obtain ⟨ba, bc, rfl, k1, k2, k3, k4, hrow⟩ := own_bat hown hob (by unfold maxLen; omega)
      have hps := parse_top ba o.length bc o w2 rfl k1 k2 k3 hol k4 hrow (HM.out.keep HB2.out)
      have hG2 := HG1.out.below hb2 HG1.out.lt
      have HG2 : Hid (Blk w2 g #[.slice f1 f2 f3, .slice b1 b2 b3, .slice p1 p2 p3] 28) := hG2
      have HP2 : Hid (PtAt 8 w2 t (.slice f1 f2 f3) (.slice b1 b2 b3) (.slice p1 p2 p3)) := PtAt.below hb2 _ _ _ _ _ HP1.out
      have HBK : Hid ((prP 7 0 o).2 = .ok t) := hbk
      clear hown hrow k1 k2 k3 k4 hol hob hbk h4 hb2 hG2 g0 g1 g2
      go_wp2_with fail
      refine hps.mono ?_
      clear hps
      rintro e w3 ⟨vf, vb, vp, c3, rfl, hb3, hans⟩
      obtain ⟨hc3, hpt⟩ : c3 = 0 ∧ PtAt 8 w3 t vf vb vp := by
        rcases hans with ⟨t', h1, h2, h3⟩ | ⟨er, h1, _⟩
        · rw [HBK.out] at h1; cases h1; exact ⟨h2, h3.now⟩
        · rw [HBK.out] at h1; cases h1
      subst hc3
      obtain ⟨⟨d1, d2, d3, rfl⟩, ⟨e1, e2, e3, rfl⟩, ⟨q1, q2, q3, rfl⟩⟩ := pt_slices hpt
      have hk3 := keep w3 (.cells #[.slice d1 d2 d3, .slice e1 e2 e3, .slice q1 q2 q3] 28)
      have hQ := Blk.new w3 #[.slice d1 d2 d3, .slice e1 e2 e3, .slice q1 q2 q3] 28
      obtain ⟨g', hg'⟩ : ∃ g, w3.heap.size = g := ⟨_, rfl⟩
      obtain ⟨u3, hu3⟩ : ∃ u, w3.alloc (.cells #[.slice d1 d2 d3, .slice e1 e2 e3, .slice q1 q2 q3] 28) = u := ⟨_, rfl⟩
      have h23 : Below w2.heap.size w2 u3 := by rw [← hu3]; exact hb3.trans (hk3.mono hb3.size)
      have HB3 : Hid (Below w.heap.size w u3) := HB2.out.trans (h23.mono HB2.out.size)
      have HP3 : Hid (PtAt 8 u3 t (.slice f1 f2 f3) (.slice b1 b2 b3) (.slice p1 p2 p3)) := PtAt.below h23 _ _ _ _ _ HP2.out
      have HG3 : Hid (Blk u3 g #[.slice f1 f2 f3, .slice b1 b2 b3, .slice p1 p2 p3] 28) := HG2.out.below h23 HG2.out.lt
      have HQ3 : Hid (PtAt 8 u3 t (.slice d1 d2 d3) (.slice e1 e2 e3) (.slice q1 q2 q3)) := by rw [← hu3]; exact PtAt.below hk3 _ _ _ _ _ hpt
      have HR3 : Hid (Blk u3 g' #[.slice d1 d2 d3, .slice e1 e2 e3, .slice q1 q2 q3] 28) := by rw [← hu3, ← hg']; exact hQ
      unfold partV
      clear hans hpt hk3 hQ h23 hb3
      go_wp2_with fail
      refine (alive_any u3 (HM.out.keep HB3.out)).mono ?_
      rintro e w4 ⟨rfl, hb4⟩
      obtain ⟨g0, g1, g2⟩ := cells3 (HG3.out.below hb4 HG3.out.lt)
      obtain ⟨l0, l1, l2⟩ := cells3 (HR3.out.below hb4 HR3.out.lt)
      have hsm := same_all 8 t _ _ _ _ _ _ w4 (PtAt.below hb4 _ _ _ _ _ HP3.out) (PtAt.below hb4 _ _ _ _ _ HQ3.out)
      unfold partV at hsm
      have HB4 : Hid (Below w.heap.size w w4) := HB3.out.trans (hb4.mono HB3.out.size)
      clear hb4
      go_wp2_with fail
      refine hsm.mono ?_
      rintro e w5 ⟨rfl, hb5⟩
      clear hsm g0 g1 g2 l0 l1 l2
      have HB5 : Hid (Below w.heap.size w w5) := HB4.out.trans (hb5.mono HB4.out.size)
      clear hb5
      go_wp2
      go_ret
      exact ⟨rfl, HB5.out⟩
    · clear hb2 g0 g1 g2
      go_wp2_with fail
      refine (alive_any w2 (HM.out.keep HB2.out)).mono ?_
      rintro e w4 ⟨rfl, hb4⟩
      have HB4 : Hid (Below w.heap.size w w4) := HB2.out.trans (hb4.mono HB2.out.size)
      clear hb4
      go_wp2
      go_ret
      exact ⟨rfl, HB4.out⟩
  · have hk1 := keep w1 (.cells #[.slice none 0 0, .slice none 0 0, .slice none 0 0] 28)
    have hG := Blk.new w1 #[.slice none 0 0, .slice none 0 0, .slice none 0 0] 28
    have HB1 : Hid (Below w.heap.size w (w1.alloc (.cells #[.slice none 0 0, .slice none 0 0, .slice none 0 0] 28))) := hb1.trans (hk1.mono hb1.size)
    have HG1 : Hid (Blk (w1.alloc (.cells #[.slice none 0 0, .slice none 0 0, .slice none 0 0] 28)) w1.heap.size #[.slice none 0 0, .slice none 0 0, .slice none 0 0] 28) := hG
    unfold partV
    clear hk1 hG hb1 h1
    go_wp2_with fail
    refine (alive_any _ (HM.out.keep HB1.out)).mono ?_
    rintro e w4 ⟨rfl, hb4⟩
    obtain ⟨g0, g1, g2⟩ := cells3 (HG1.out.below hb4 HG1.out.lt)
    have hsm := same_all 8 ⟨[], [], []⟩ _ _ _ _ _ _ w4 (nil_tree w4) (nil_tree w4)
    unfold partV at hsm
    have HB4 : Hid (Below w.heap.size w w4) := HB1.out.trans (hb4.mono HB1.out.size)
    clear hb4
    go_wp2_with fail
    refine hsm.mono ?_
    rintro e w5 ⟨rfl, hb5⟩
    clear hsm g0 g1 g2
    have HB5 : Hid (Below w.heap.size w w5) := HB4.out.trans (hb5.mono HB4.out.size)
    clear hb5
    go_wp2
    go_ret
    exact ⟨rfl, HB5.out⟩

set_option maxRecDepth 100000 in
theorem lifted (os : Os) (started : os.Started) (H : Type) (enc : TypeId × Value → H) :
    ReturnsInHanded {} Tryz.checked os 7 .any (fun w args => (Rows.partsAgainSpec.pre enc Tryz.prog Tryz.f7 Rows.partsAgainRow.domain false w args ∧ laidMetH Tryz.prog Rows.partsAgainRow.laid w) ∧ sizedMet enc Tryz.prog Tryz.f7 (OpenSpec.ofChange Rows.partsAgainSpec) false w args)
      (Rows.partsAgainSpec.post enc Tryz.prog Tryz.f7 false true false false) := by
  refine step_both (C := Tryz.checked) (X := fun w _ => laidMetH Tryz.prog Rows.partsAgainRow.laid w) (fun _ _ _ hh h => h.of_heap hh) own started (by kernel_rfl) Tryz.func7
    (ChangeSpec.witness_shaped (enc := enc) (C := Tryz.checked) (os := os) (X := fun w _ => laidMetH Tryz.prog Rows.partsAgainRow.laid w) false (World.laidAll Tryz.prog os Rows.partsAgainRow.laid) #[.slice none 0 0] 8 (World.laidAll_os _ _ _)
      (World.shaped_of_ZipB (by kernel_rfl) (by kernel_rfl)) (by kernel_rfl) (by kernel_rfl) (by kernel_rfl)
      (by rw [MakeChecks.laidMetH_plain _ _ _ (by kernel_rfl)]; exact laidMet_laidAll _ (by kernel_rfl) (by kernel_rfl))) ?_
  intro W base args ds gs before hval0 hW hcnd hsh hL
  have hval : ∀ (j : Nat) t v, Tryz.f7.params[j]? = some t → args[j]? = some v → Value.okWide Tryz.prog W .any base t v := hval0
  have hW' := hW
  obtain ⟨p, q, hA0, hV, rfl, hfz, hnd⟩ := hW
  have hA : DataW.TrodAll enc Tryz.prog W 0 (fun _ => true) true Tryz.f7.params.toList args.toList ds p := hA0
  rw [Tryz.params7] at hA hval
  obtain ⟨v0, vs0, d0, ds0, p0, q0, hargs, rfl, rfl, h0, r0⟩ := trodAll_cons hA
  obtain ⟨rfl, rfl, rfl⟩ := trodAll_nil r0
  obtain rfl : args = #[v0] := by cases args; simp_all
  obtain ⟨rfl, rfl⟩ := trodVars_none hV
  have k0 := h0
  have lt0 : ∀ x ∈ p0, x.block < W.heap.size := by obtain ⟨m, hm⟩ := k0; exact DataW.trod_lt m _ _ _ hm
  obtain ⟨a0, len0, cap0, rfl⟩ := okWide_slice Tryz.underlying22 (hval 0 22 v0 rfl rfl)
  obtain ⟨z0, w0⟩ : ∃ zs, IsRow .u8 W a0 len0 cap0 zs := by
    obtain ⟨fuel, hf⟩ := h0
    rcases open_ints Tryz.underlying22 Tryz.underlying5 (by kernel_rfl) hf with ⟨hcs, _⟩ | ⟨x, l, c, zs, hcs, _, hl, hm, hz, _, hcell, hwz⟩
    · simp [Value.cells] at hcs
      obtain ⟨rfl, rfl, rfl⟩ := hcs
      exact ⟨[], .inl ⟨rfl, rfl, rfl, rfl⟩⟩
    · simp [Value.cells] at hcs
      obtain ⟨rfl, rfl, rfl⟩ := hcs
      exact ⟨zs, .inr ⟨_, rfl, hl, hm, by simpa using hz, hcell, hwz⟩⟩
  clear hA0 hval0
  refine (walk a0 len0 cap0 z0 W w0 (laysM185.s1_3 W hsh)).mono fun e W' ⟨he, bel⟩ => ?_
  subst he
  exact ⟨_, rfl, _, _, _, [], _, [], hW', trodAll_mk1 (shut_bool Tryz.underlying4 _), (trodAll_cons_mk (Below.trod laidOut (by kernel_rfl) (of_decide_eq_true (by kernel_rfl)) k0 bel lt0) trodAll_mk0), rfl, bel.frame _, fun h => by cases h⟩

theorem over : Rows.PartsAgainSaid :=
  OpenClaim.holds_of_wide 7 Tryz.f7 rfl rfl rfl rfl rfl rfl rfl ⟨rfl, rfl, rfl, rfl, rfl⟩ rfl rfl rfl rfl rfl (by kernel_rfl) Tryz.func7 (by kernel_rfl)
    (of_decide_eq_true (by kernel_rfl)) (by unfold Func.isWrapper; first | (rw [if_pos (by decide +kernel)]; kernel_rfl) | (rw [if_neg (by decide +kernel)]; exact ⟨rfl, rfl⟩))
    (fun os started H enc _ => lifted os started H enc)
end Go.Proofs.YtmdkmedlncfcbaaGreatDoor.partsAgain
namespace Go.Proofs.YtmdkmedlncfcbaaGreatDoor
theorem partsAgain_card : Rows.PartsAgainCardSaid :=
  Claim7.holds_tied_plain_at .later [] _ _ _ _ partsAgain.over (fun _ h => by cases h) (by kernel_rfl) (fun _ h => by cases h) partsAgain_row_tie rfl ⟨rfl, rfl⟩ (by kernel_rfl) rfl
    (fun f fn hf hfn => by
      obtain rfl : f = 7 := Option.some.inj ((show Tryz.prog.funcNamed Rows.partsAgainRow.func = some 7 by kernel_rfl).symm.trans hf) |>.symm
      obtain rfl : fn = Tryz.f7 := (Option.some.inj (Tryz.func7.symm.trans hfn)).symm
      exact ⟨by kernel_rfl, fun j t ht => by
        rw [Tryz.params7] at ht
        have hm : t ∈ [22] := by simpa using Array.mem_of_getElem? ht
        have hall : ([22].all fun u => !Tryz.prog.wantsStandIn u) = true := by kernel_rfl
        exact (show Tryz.prog.wantsStandIn t = false by simpa using List.all_eq_true.1 hall t hm)⟩)
    (by kernel_rfl)
#print axioms partsAgain_card
end Go.Proofs.YtmdkmedlncfcbaaGreatDoor
