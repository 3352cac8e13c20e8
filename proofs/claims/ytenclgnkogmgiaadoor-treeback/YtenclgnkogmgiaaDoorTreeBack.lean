/-
  TreeBack: whatever component comes, if it can be written, what is written is read as it was; if not, nothing is written.
-/
import Derived.Test.YtenclgnkogmgiaaDoorCards
import Derived.Test.YtenclgnkogmgiaaDoorTie
import Derived.Test.YtenclgnkogmgiaaDoorXd
import Derived.Test.YtenclgnkogmgiaaDoorTs
import Derived.WalkKit
import Derived.ProofKit
import Derived.OpenShut
import Derived.ShutString
import Derived.ChangeOld
import Derived.Below
import Derived.HandedShaped
import Derived.LaidMore
import Derived.Lay
import Derived.SevenTiedAt
import Derived.Stop.Joined
namespace Go.Proofs.YtenclgnkogmgiaaDoor.treeBack
open Go.ChangeShapes Go.WideShapes Go.ChangeAt Go.RowKit
open Go.ChangeMaps (open_string shut_string)
set_option linter.unusedVariables false
set_option linter.unusedSimpArgs false

theorem small_len : ∀ (k f h : Nat) (s : Nat × Nat) (t : Cp), smallT k t → (rtP f s t).1 = true → (wlP h t).length + 62 * s.1 ≤ 62 * (rtP f s t).2.1
  | k, 0, h, s, t, _, hr => by simp [rtP] at hr
  | 0, f + 1, h, s, t, hs, hr => hs.elim
  | k + 1, f + 1, h, s, t, hs, hr => by
    obtain ⟨_, h2, _, _, h5⟩ := hs
    have aux : ∀ (g : Nat) (l : List Cp) (s : Nat × Nat), (∀ q ∈ l, smallT k q) → (rtL (rtP f) s l).1 = true → (l.flatMap (wlP g)).length + 62 * s.1 ≤ 62 * (rtL (rtP f) s l).2.1 := by
      intro g l
      induction l with
      | nil => intro s _ _; simp [rtL]
      | cons q r ihl =>
        intro s hq h
        unfold rtL at h ⊢
        split at h
        · rename_i h1
          rw [if_pos h1]
          have a1 := small_len k f g s q (hq q (List.mem_cons_self ..)) h1
          have a2 := ihl _ (fun x hx => hq x (List.mem_cons_of_mem _ hx)) h
          rw [List.flatMap_cons, List.length_append]
          omega
        · cases h
    unfold rtP at hr ⊢
    split at hr
    · cases hr
    · rename_i hn
      rw [if_neg hn]
      split at hr
      · rename_i hq
        rw [if_pos hq]
        cases h with
        | zero =>
          have := aux 0 t.cs _ h5 hr
          simp only [wlP, List.length_nil] at this ⊢
          omega
        | succ h =>
          have := aux h t.cs _ h5 hr
          simp only [wlP, List.length_append, List.length_cons, List.length_nil] at this ⊢
          omega
      · cases hr
theorem small_most {h k : Nat} {t : Cp} (hs : smallT k t) (hr : rightT t = true) : (wlP h t).length ≤ 3968 := by
  have h1 := small_len k 8 h (0, 0) t hs hr
  have h2 := rtP_most 8 (0, 0) t (by simp) hr
  simp only at h1
  omega
set_option maxHeartbeats 8000000 in
set_option maxRecDepth 100000 in
theorem walk (x y z : Value) (t : Cp) (k : Nat) (w : World) (hp : CpAt k w t x y z) (hwd : WdC k t) (mx : Int) (hm : w.cell? ⟨0, 0, none⟩ = some (.int .i64 mx)) : Calls Tryd.prog 6 #[compV x y z] w fun e w' => e = .returned (.bool true) ∧ Below w.heap.size w w' := by
  obtain ⟨⟨nm, rfl, _⟩, ⟨ya, yn, yc, rfl⟩, ⟨za, zn, zc, rfl⟩⟩ := cp_form hp
  have HM : Hid (w.cell? ⟨0, 0, none⟩ = some (.int .i64 mx)) := hm
  have HP : Hid (CpAt k w t (.string nm) (.slice ya yn yc) (.slice za zn zc)) := hp
  have hk0 := keep w (.cells #[.string nm, .slice ya yn yc, .slice za zn zc] 25)
  have HG0 : Hid (Blk (w.alloc (.cells #[.string nm, .slice ya yn yc, .slice za zn zc] 25)) w.heap.size #[.string nm, .slice ya yn yc, .slice za zn zc] 25) := Blk.new _ _ _
  have hgr := great_tree 12 (by omega) k t _ _ _ (w.alloc (.cells #[.string nm, .slice ya yn yc, .slice za zn zc] 25)) (CpAt.below hk0 _ _ _ _ _ hp) hwd
  have HK0 : Hid (Below w.heap.size w (w.alloc (.cells #[.string nm, .slice ya yn yc, .slice za zn zc] 25))) := hk0
  unfold compV at hgr ⊢
  clear hk0 hp hm hwd
  go_enter Tryd.func6, Tryd.ntmps6
  go_wp2_with fail
  refine hgr.mono ?_
  rintro e w1 ⟨gb, rfl, hb1, hgs⟩
  clear hgr
  have HGS : Hid (gb = false → smallT 12 t) := hgs
  have HB1 : Hid (Below w.heap.size w w1) := HK0.out.trans (hb1.mono HK0.out.size)
  have HG1 : Hid (Blk w1 w.heap.size #[.string nm, .slice ya yn yc, .slice za zn zc] 25) := HG0.out.below hb1 HG0.out.lt
  obtain ⟨c0, c1, c2⟩ := cells3 HG1.out
  clear hb1 hgs
  cases gb with
  | true =>
    go_wp2_with (go_at_call 11; refine (alive_any _ mx (cell_keep HB1.out HM.out)).mono ?_; rintro e w2 ⟨rfl, hb2⟩)
    go_ret
    exact ⟨rfl, HB1.out.trans (hb2.mono HB1.out.size)⟩
  | false =>
    have HSM : Hid (smallT 12 t) := HGS.out rfl
    have hfw := few_any k t _ _ _ w1 (CpAt.below HB1.out _ _ _ _ _ HP.out)
    unfold compV at hfw
    clear HGS
    go_wp2_with fail
    refine hfw.mono ?_
    rintro e w2 ⟨n2, rfl, hb2⟩
    clear hfw c0 c1 c2
    have HB2 : Hid (Below w.heap.size w w2) := HB1.out.trans (hb2.mono HB1.out.size)
    have HG2 : Hid (Blk w2 w.heap.size #[.string nm, .slice ya yn yc, .slice za zn zc] 25) := HG1.out.below hb2 HG1.out.lt
    obtain ⟨c0, c1, c2⟩ := cells3 HG2.out
    clear hb2
    obtain ⟨fb, hfb⟩ : ∃ b, decide (n2 ≤ 80) = b := ⟨_, rfl⟩
    rw [hfb]
    clear hfb
    cases fb with
    | false =>
      go_wp2_with (go_at_call 11; refine (alive_any _ mx (cell_keep HB2.out HM.out)).mono ?_; rintro e w3 ⟨rfl, hb3⟩)
      go_ret
      exact ⟨rfl, HB2.out.trans (hb3.mono HB2.out.size)⟩
    | true =>
      have hwr := write_tree k t _ _ _ w2 (CpAt.below HB2.out _ _ _ _ _ HP.out) (small_fit 12 k t HSM.out)
      unfold compV at hwr
      go_wp2_with fail
      refine hwr.mono ?_
      rintro e w3 ⟨v3, c3, rfl, hb3, hans⟩
      clear hwr c0 c1 c2
      have HB3 : Hid (Below w.heap.size w w3) := HB2.out.trans (hb3.mono HB2.out.size)
      have HG3 : Hid (Blk w3 w.heap.size #[.string nm, .slice ya yn yc, .slice za zn zc] 25) := HG2.out.below hb3 HG2.out.lt
      clear hb3
      have hal := alive_any w3 mx (cell_keep HB3.out HM.out)
      rcases hans with ⟨rfl, hrt, hl1, hl2, hown⟩ | ⟨rfl, hno⟩
      rotate_left
      · have hne : (c3 != 0) = true := by
          rcases hno with ⟨_, rfl⟩ | ⟨_, rfl, _⟩ <;> decide
        clear hno
        go_wp2_with fail
        refine hal.mono ?_
        rintro e w4 ⟨rfl, hb4⟩
        have HB4 : Hid (Below w.heap.size w w4) := HB3.out.trans (hb4.mono HB3.out.size)
        clear hal hb4
        go_wp2
        go_ret
        exact ⟨by first | rfl | simp, HB4.out⟩
      · clear hal
        obtain ⟨ks, hks⟩ := cp_ms k t _ _ _ HP.out
        have hl3 := small_most (h := k) HSM.out hrt
        have hrw := read_written hks hrt (dep_cp k t _ _ _ HP.out) (by omega) hl2 v3 _ w3 hown mx (cell_keep HB3.out HM.out)
        obtain ⟨va, vn, vc, rfl⟩ : ∃ a n c, v3 = .slice a n c := by obtain ⟨a, c, h1, _⟩ := row_of_own hown; exact ⟨_, _, _, h1⟩
        clear hown hl1 hl2 hl3 hks hrt
        go_wp2_with fail
        refine hrw.mono ?_
        rintro e w4 ⟨x4, y4, z4, rfl, hb4, _, hcp4⟩
        clear hrw
        obtain ⟨⟨nm4, rfl, _⟩, ⟨ua, un, uc, rfl⟩, ⟨ta, tn, tc, rfl⟩⟩ := cp_form hcp4
        have HB4 : Hid (Below w.heap.size w w4) := HB3.out.trans (hb4.mono HB3.out.size)
        have HG4 : Hid (Blk w4 w.heap.size #[.string nm, .slice ya yn yc, .slice za zn zc] 25) := HG3.out.below hb4 HG3.out.lt
        have HQ4 : Hid (Blk (w4.alloc (.cells #[.string nm4, .slice ua un uc, .slice ta tn tc] 25)) w4.heap.size #[.string nm4, .slice ua un uc, .slice ta tn tc] 25) := Blk.new _ _ _
        have HC4 : Hid (CpAt 4097 w4 t (.string nm4) (.slice ua un uc) (.slice ta tn tc)) := hcp4
        have hk4 := keep w4 (.cells #[.string nm4, .slice ua un uc, .slice ta tn tc] 25)
        have HK4 : Hid (Below w4.heap.size w4 (w4.alloc (.cells #[.string nm4, .slice ua un uc, .slice ta tn tc] 25))) := hk4
        have hal := alive_any (w4.alloc (.cells #[.string nm4, .slice ua un uc, .slice ta tn tc] 25)) mx (cell_keep hk4 (cell_keep HB4.out HM.out))
        unfold compV
        clear hb4 hcp4 hk4
        go_wp2_with fail
        refine hal.mono ?_
        rintro e w5 ⟨rfl, hb5⟩
        clear hal
        have hb45 : Below w4.heap.size w4 w5 := HK4.out.trans (hb5.mono HK4.out.size)
        have HB5 : Hid (Below w.heap.size w w5) := HB4.out.trans (hb45.mono HB4.out.size)
        obtain ⟨g0, g1, g2⟩ := cells3 (HG4.out.below hb45 HG4.out.lt)
        obtain ⟨q0, q1, q2⟩ := cells3 (HQ4.out.below hb5 HQ4.out.lt)
        have hsm := same_all (k + 4097) t _ _ _ _ _ _ w5 (CpAt.up k (k + 4097) _ _ _ _ (by omega) (CpAt.below HB5.out _ _ _ _ _ HP.out)) (CpAt.up 4097 (k + 4097) _ _ _ _ (by omega) (CpAt.below hb45 _ _ _ _ _ HC4.out))
        unfold compV at hsm
        clear hb5 hb45
        go_wp2_with (go_at_call 18; refine hsm.mono ?_; rintro e w6 ⟨rfl, hb6⟩)
        go_ret
        exact ⟨by first | rfl | simp, HB5.out.trans (hb6.mono HB5.out.size)⟩

set_option maxRecDepth 100000 in
theorem lifted (os : Os) (started : os.Started) (H : Type) (enc : TypeId × Value → H) :
    ReturnsInHanded {} Tryd.checked os 6 .any (fun w args => (Rows.treeBackSpec.pre enc Tryd.prog Tryd.f6 Rows.treeBackRow.domain false w args ∧ laidMetH Tryd.prog Rows.treeBackRow.laid w) ∧ sizedMet enc Tryd.prog Tryd.f6 (OpenSpec.ofChange Rows.treeBackSpec) false w args)
      (Rows.treeBackSpec.post enc Tryd.prog Tryd.f6 false true false false) := by
  refine step_all (C := Tryd.checked) (X := fun w _ => laidMetH Tryd.prog Rows.treeBackRow.laid w) (fun _ _ _ hh h => h.of_heap hh) own started (by kernel_rfl) Tryd.func6
    (ChangeSpec.witness_shaped (enc := enc) (C := Tryd.checked) (os := os) (X := fun w _ => laidMetH Tryd.prog Rows.treeBackRow.laid w) false (World.laidAll Tryd.prog os Rows.treeBackRow.laid) #[compV (.string ⟨#[]⟩) (.slice none 0 0) (.slice none 0 0)] 8 (World.laidAll_os _ _ _)
      (World.shaped_of_ZipB (by kernel_rfl) (by kernel_rfl)) (by kernel_rfl) (by kernel_rfl) (by kernel_rfl)
      (by rw [MakeChecks.laidMetH_plain _ _ _ (by kernel_rfl)]; exact laidMet_laidAll _ (by kernel_rfl) (by kernel_rfl))) ?_
  intro W base args ds gs before hval0 hW hcnd hsz0 hsh hL
  have hval : ∀ (j : Nat) t v, Tryd.f6.params[j]? = some t → args[j]? = some v → Value.okWide Tryd.prog W .any base t v := hval0
  have hsz : (DataW.weightsEach Tryd.prog (Tryd.f6.params.toList ++ Rows.treeBackSpec.plain.varTypes Tryd.prog) (ds ++ gs)).all (· ≤ reachBytes) = true := hsz0
  have hW' := hW
  obtain ⟨p, q, hA0, hV, rfl, hfz, hnd⟩ := hW
  have hA : DataW.TrodAll enc Tryd.prog W 0 (fun _ => true) true Tryd.f6.params.toList args.toList ds p := hA0
  rw [Tryd.params6] at hA hval hsz
  obtain ⟨v0, vs0, d0, ds0, p0, q0, hargs0, rfl, rfl, h0, r0⟩ := trodAll_cons hA
  obtain ⟨rfl, rfl, rfl⟩ := trodAll_nil r0
  obtain rfl : args = #[v0] := by cases args; simp_all
  obtain ⟨rfl, rfl⟩ := trodVars_none hV
  have hwt0 : ∀ n, n ∈ DataW.weights Tryd.prog 25 d0 → n ≤ reachBytes := by
    intro n hn
    have hh := List.all_eq_true.1 hsz n (by simp [DataW.weightsEach, hn])
    simpa using hh
  have k0 := h0
  have lt0 : ∀ x ∈ p0, x.block < W.heap.size := by obtain ⟨m, hm⟩ := k0; exact DataW.trod_lt m _ _ _ hm
  obtain ⟨x0, y0, z0, t0, kk0, rfl, w0, wd0⟩ := comp_arg (hval 0 25 v0 rfl rfl) h0 (fun n hn => hwt0 n hn)
  clear hA0 hval0
  obtain ⟨m, hm⟩ := shape_cell W hsh
  refine (walk x0 y0 z0 t0 kk0 W w0 wd0 m hm).mono fun e W' ⟨he, bel⟩ => ?_
  subst he
  exact ⟨_, rfl, _, _, _, [], _, [], hW', trodAll_mk1 (shut_bool Tryd.underlying4 _), (trodAll_cons_mk (Below.trod laidOut (by kernel_rfl) (of_decide_eq_true (by kernel_rfl)) k0 bel lt0) trodAll_mk0), rfl, bel.frame _, fun h => by cases h⟩

theorem over : Rows.TreeBackSaid :=
  OpenClaim.holds_of_wide 6 Tryd.f6 rfl rfl rfl rfl rfl rfl rfl ⟨rfl, rfl, rfl, rfl, rfl⟩ rfl rfl rfl rfl rfl (by kernel_rfl) Tryd.func6 (by kernel_rfl)
    (of_decide_eq_true (by kernel_rfl)) (by unfold Func.isWrapper; first | (rw [if_pos (by decide +kernel)]; kernel_rfl) | (rw [if_neg (by decide +kernel)]; exact ⟨rfl, rfl⟩))
    (fun os started H enc _ => lifted os started H enc)
end Go.Proofs.YtenclgnkogmgiaaDoor.treeBack
namespace Go.Proofs.YtenclgnkogmgiaaDoor
theorem treeBack_card : Rows.TreeBackCardSaid :=
  Claim7.holds_tied_plain_at .later [] _ _ _ _ treeBack.over (fun _ h => by cases h) (by kernel_rfl) (fun _ h => by cases h) treeBack_row_tie rfl ⟨rfl, rfl⟩ (by kernel_rfl) rfl
    (fun f fn hf hfn => by
      obtain rfl : f = 6 := Option.some.inj ((show Tryd.prog.funcNamed Rows.treeBackRow.func = some 6 by kernel_rfl).symm.trans hf) |>.symm
      obtain rfl : fn = Tryd.f6 := (Option.some.inj (Tryd.func6.symm.trans hfn)).symm
      exact ⟨by kernel_rfl, fun j t ht => by
        rw [Tryd.params6] at ht
        have hm : t ∈ [25] := by simpa using Array.mem_of_getElem? ht
        have hall : ([25].all fun u => !Tryd.prog.wantsStandIn u) = true := by kernel_rfl
        exact (show Tryd.prog.wantsStandIn t = false by simpa using List.all_eq_true.1 hall t hm)⟩)
    (by kernel_rfl)
#print axioms treeBack_card
end Go.Proofs.YtenclgnkogmgiaaDoor
