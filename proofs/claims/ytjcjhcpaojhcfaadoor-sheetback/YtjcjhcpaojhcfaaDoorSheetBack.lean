/-
  SheetBack: whatever lines come, what is written of them is read as they were.
-/
import Derived.Test.YtjcjhcpaojhcfaaDoorCards
import Derived.Test.YtjcjhcpaojhcfaaDoorTie
import Derived.Test.YtjcjhcpaojhcfaaDoorSz
import Derived.Test.YtjcjhcpaojhcfaaDoorRd
import Derived.Test.YtjcjhcpaojhcfaaDoorSt
import Derived.WalkKit
import Derived.ProofKit
import Derived.OpenShut
import Derived.ShutString
import Derived.ChangeOld
import Derived.Below
import Derived.HandedShaped
import Derived.LaidMore
import Derived.Lay
import Derived.SevenTiedAt
import Derived.Stop.Joined
namespace Go.Proofs.YtjcjhcpaojhcfaaDoor.sheetBack
open Go.ChangeShapes Go.WideShapes Go.ChangeAt Go.RowKit
open Go.ChangeMaps (open_string shut_string)
set_option linter.unusedVariables false

theorem out_byt (ls : List Lm) : Byt (outM ls) := by
  intro x hx
  unfold outM endW at hx
  obtain ⟨p, hp, hx⟩ := List.mem_flatMap.1 hx
  obtain ⟨m, hm, hp⟩ := List.mem_flatMap.1 hp
  have hpb : Byt p := fold_byt _ _ _ (by intro y hy; cases hy) (written_byt m.nm m.vl m.fs) p hp
  rcases List.mem_append.1 hx with h | h
  · exact hpb x h
  · simp at h; omega
set_option maxHeartbeats 8000000 in
set_option maxRecDepth 100000 in
theorem walk (a : Option Addr) (len cap : Nat) (ls : List Lm) (w : World) (h : IsLs w a len ls) (m : Int) (hm : w.cell? ⟨2, 0, none⟩ = some (.int .i64 m)) : Calls Tryd.prog 4 #[.slice a len cap] w fun e w' => e = .returned (.bool true) ∧ Below w.heap.size w w' := by
  have hgr := great_any a len cap ls w h
  obtain ⟨hn, hbig, hr, hwide⟩ := h
  have HR : Hid (LRow w a ls) := hr
  have HM : Hid (w.cell? ⟨2, 0, none⟩ = some (.int .i64 m)) := hm
  clear hr hwide hm
  go_enter Tryd.func4, Tryd.ntmps4
  go_wp2_with fail
  refine hgr.mono ?_
  rintro e w0 ⟨b0, q0, rfl, rfl, hgf⟩
  cases b0 with
  | true =>
    go_wp2_with (go_at_call 6; refine (alive_any _).mono ?_; rintro e w1 ⟨rfl, hb1⟩)
    go_ret
    exact ⟨rfl, (below_drewN (Below.refl _ _) q0).trans (hb1.mono (by simp))⟩
  | false =>
    obtain ⟨h60, hsm⟩ := hgf rfl
    have HSM : Hid (∀ m ∈ ls, Smally m) := hsm
    have hwr := write_any a len cap ls (w.drewN q0) hn (by omega) HR.out (fun m hm => (hsm m hm).fit)
    unfold WPost at hwr
    clear hgf hgr hsm
    go_wp2_with fail
    refine hwr.mono ?_
    rintro e w1 ⟨v, rfl, hown, hb1⟩
    have HB1 : Hid (Below w.heap.size w w1) := (below_drewN (Below.refl _ _) q0).trans hb1
    clear hb1 hwr
    by_cases hc0 : writeC ls = 0
    case neg =>
      have hne : (writeC ls != 0) = true := by simp [hc0]
      have hwb : writeB ls = [] := by unfold writeB; rw [if_neg hc0]
      rw [hwb] at hown
      obtain ⟨a1, c1, rfl, _⟩ := own_row' hown
      obtain ⟨c, hc⟩ : ∃ c, writeC ls = c := ⟨_, rfl⟩
      rw [hc] at hne ⊢
      clear hown hc0 hc hwb
      go_wp2_with (go_at_call 6; refine (alive_any _).mono ?_; rintro e w2 ⟨rfl, hb2⟩)
      go_ret
      exact ⟨by first | rfl | simp, HB1.out.trans (hb2.mono HB1.out.size)⟩
    have hok : ls.all okM = true := by
      unfold writeC at hc0
      split at hc0
      · cases hc0
      · split at hc0
        · cases hc0
        · rename_i h; simpa using h
    have hwb : writeB ls = outM ls := by unfold writeB; rw [if_pos hc0]
    have hol : (outM ls).length ≤ 630000 := by
      have h1 := out_len ls hok
      have : 10500 * ls.length ≤ 10500 * 60 := Nat.mul_le_mul_left _ (by omega)
      omega
    obtain ⟨hno, hyes⟩ := read_back ls hok (by omega) (by omega)
    have HNO : Hid (∀ p code, ¬ RF (outM ls) p code) := hno
    have HYES : Hid (∀ ks, ROk (outM ls) ks → SameL ls ks) := hyes
    rw [hwb] at hown
    rw [hc0]
    obtain ⟨a1, c1, rfl, hcl, hcm, hrow, _⟩ := own_row' hown
    have hrd := read_any a1 _ c1 (outM ls) w1 rfl (out_byt ls) hcl hcm hrow m ((HB1.out.cell (World.block_lt_of_cell? w _ HM.out)).trans HM.out)
    unfold RPost at hrd
    clear hown hno hyes hc0 hwb hrow
    obtain ⟨ol, hole⟩ : ∃ ol, (outM ls).length = ol := ⟨_, rfl⟩
    rw [hole] at hrd ⊢
    clear hole hcl
    go_wp2_with fail
    refine hrd.mono ?_
    rintro e w2 ⟨v2, p, code, rfl, hb2, hans⟩
    rcases hans with ⟨hRF, _⟩ | ⟨rfl, rfl, a2, c2, ks, rfl, hLR, hRO⟩
    · exact absurd hRF (HNO.out _ _)
    have hsame := HYES.out ks hRO
    have HB2 : Hid (Below w.heap.size w w2) := HB1.out.trans (hb2.mono HB1.out.size)
    have HL2 : Hid (LRow w2 a2 ks) := hLR
    have HS : Hid (SameL ls ks) := hsame
    clear hb2 hrd hLR hRO hsame
    have hsm := fun V (hb : Below w2.heap.size w2 V) => same_any a a2 len ks.length cap c2 ls ks V hn rfl (by omega) (fun m hm => by have := (HSM.out m hm).2.2.1; omega) (HR.out.below (HB2.out.trans (hb.mono HB2.out.size))) (HL2.out.below hb) HS.out
    obtain ⟨kl, hkl⟩ : ∃ kl, ks.length = kl := ⟨_, rfl⟩
    rw [hkl] at hsm ⊢
    clear hkl
    have hc2 : (w2.alloc (.cells #[.int .i64 0, .int .i64 0] 27)).cell? ⟨w2.heap.size, 0, none⟩ = some (.int .i64 0) := (Blk.new w2 #[.int .i64 0, .int .i64 0] 27).cell 0
    have hal := alive_any (w2.alloc (.cells #[.int .i64 0, .int .i64 0] 27))
    go_wp2_with fail
    refine hal.mono ?_
    rintro e w3 ⟨rfl, hb3⟩
    have B3 : Blk w3 w2.heap.size #[.int .i64 0, .int .i64 0] 27 := (Blk.new w2 _ 27).below hb3 (by simp)
    have m1 := B3.cell 0
    have m2 := B3.cell 1
    simp only [List.getElem?_toArray, List.getElem?_cons_zero, List.getElem?_cons_succ] at m1 m2
    have hb23 : Below w2.heap.size w2 w3 := (keep w2 _).trans (hb3.mono (by simp))
    have HB3 : Hid (Below w.heap.size w w3) := HB2.out.trans (hb23.mono HB2.out.size)
    have hsm3 := hsm w3 hb23
    clear hsm hal hb3 B3 hc2
    go_wp2_with (go_at_call 11; refine hsm3.mono ?_; rintro e w4 ⟨rfl, hb4⟩)
    go_ret
    exact ⟨by first | rfl | simp, HB3.out.trans (hb4.mono HB3.out.size)⟩

set_option maxRecDepth 100000 in
theorem lifted (os : Os) (started : os.Started) (H : Type) (enc : TypeId × Value → H) :
    ReturnsInHanded {} Tryd.checked os 4 .any (fun w args => (Rows.sheetBackSpec.pre enc Tryd.prog Tryd.f4 Rows.sheetBackRow.domain false w args ∧ laidMetH Tryd.prog Rows.sheetBackRow.laid w) ∧ sizedMet enc Tryd.prog Tryd.f4 (OpenSpec.ofChange Rows.sheetBackSpec) false w args)
      (Rows.sheetBackSpec.post enc Tryd.prog Tryd.f4 false true false false) := by
  refine step_all (C := Tryd.checked) (X := fun w _ => laidMetH Tryd.prog Rows.sheetBackRow.laid w) (fun _ _ _ hh h => h.of_heap hh) own started (by kernel_rfl) Tryd.func4
    (ChangeSpec.witness_shaped (enc := enc) (C := Tryd.checked) (os := os) (X := fun w _ => laidMetH Tryd.prog Rows.sheetBackRow.laid w) false (World.laidAll Tryd.prog os Rows.sheetBackRow.laid) #[.slice none 0 0] 8 (World.laidAll_os _ _ _)
      (World.shaped_of_ZipB (by kernel_rfl) (by kernel_rfl)) (by kernel_rfl) (by kernel_rfl) (by kernel_rfl)
      (by rw [MakeChecks.laidMetH_plain _ _ _ (by kernel_rfl)]; exact laidMet_laidAll _ (by kernel_rfl) (by kernel_rfl))) ?_
  intro W base args ds gs before hval0 hW hcnd hsz0 hsh hL
  have hval : ∀ (j : Nat) t v, Tryd.f4.params[j]? = some t → args[j]? = some v → Value.okWide Tryd.prog W .any base t v := hval0
  have hsz : (DataW.weightsEach Tryd.prog (Tryd.f4.params.toList ++ Rows.sheetBackSpec.plain.varTypes Tryd.prog) (ds ++ gs)).all (· ≤ reachBytes) = true := hsz0
  have hW' := hW
  obtain ⟨p, q, hA0, hV, rfl, hfz, hnd⟩ := hW
  have hA : DataW.TrodAll enc Tryd.prog W 0 (fun _ => true) true Tryd.f4.params.toList args.toList ds p := hA0
  rw [Tryd.params4] at hA hval hsz
  obtain ⟨v0, vs0, d0, ds0, p0, q0, hargs, rfl, rfl, h0, r0⟩ := trodAll_cons hA
  obtain ⟨rfl, rfl, rfl⟩ := trodAll_nil r0
  obtain rfl : args = #[v0] := by cases args; simp_all
  obtain ⟨rfl, rfl⟩ := trodVars_none hV
  obtain ⟨a0, len0, cap0, rfl⟩ := okWide_slice Tryd.underlying24 (hval 0 24 v0 rfl rfl)
  have k0 := h0
  have lt0 : ∀ x ∈ p0, x.block < W.heap.size := by obtain ⟨m, hm⟩ := k0; exact DataW.trod_lt m _ _ _ hm
  obtain ⟨L0, g0⟩ := lines_arg h0 (fun n hn => by simpa using List.all_eq_true.1 hsz n (DataW.weights_mem_each (j := 0) rfl rfl n hn))
  clear hA0 hval0
  obtain ⟨m, hm⟩ := shape_cell W hsh
  refine (walk a0 len0 cap0 L0 W g0 m hm).mono fun e W' ⟨he, bel⟩ => ?_
  subst he
  exact ⟨_, rfl, _, _, _, [], _, [], hW', trodAll_mk1 (shut_bool Tryd.underlying4 _), (trodAll_cons_mk (Below.trod laidOut (by kernel_rfl) (of_decide_eq_true (by kernel_rfl)) k0 bel lt0) trodAll_mk0), rfl, bel.frame _, fun h => by cases h⟩

theorem over : Rows.SheetBackSaid :=
  OpenClaim.holds_of_wide 4 Tryd.f4 rfl rfl rfl rfl rfl rfl rfl ⟨rfl, rfl, rfl, rfl, rfl⟩ rfl rfl rfl rfl rfl (by kernel_rfl) Tryd.func4 (by kernel_rfl)
    (of_decide_eq_true (by kernel_rfl)) (by unfold Func.isWrapper; first | (rw [if_pos (by decide +kernel)]; kernel_rfl) | (rw [if_neg (by decide +kernel)]; exact ⟨rfl, rfl⟩))
    (fun os started H enc _ => lifted os started H enc)
end Go.Proofs.YtjcjhcpaojhcfaaDoor.sheetBack
namespace Go.Proofs.YtjcjhcpaojhcfaaDoor
theorem sheetBack_card : Rows.SheetBackCardSaid :=
  Claim7.holds_tied_plain_at .later [] _ _ _ _ sheetBack.over (fun _ h => by cases h) (by kernel_rfl) (fun _ h => by cases h) sheetBack_row_tie rfl ⟨rfl, rfl⟩ (by kernel_rfl) rfl
    (fun f fn hf hfn => by
      obtain rfl : f = 4 := Option.some.inj ((show Tryd.prog.funcNamed Rows.sheetBackRow.func = some 4 by kernel_rfl).symm.trans hf) |>.symm
      obtain rfl : fn = Tryd.f4 := (Option.some.inj (Tryd.func4.symm.trans hfn)).symm
      exact ⟨by kernel_rfl, fun j t ht => by
        rw [Tryd.params4] at ht
        have hm : t ∈ [24] := by simpa using Array.mem_of_getElem? ht
        have hall : ([24].all fun u => !Tryd.prog.wantsStandIn u) = true := by kernel_rfl
        exact (show Tryd.prog.wantsStandIn t = false by simpa using List.all_eq_true.1 hall t hm)⟩)
    (by kernel_rfl)
#print axioms sheetBack_card
end Go.Proofs.YtjcjhcpaojhcfaaDoor
