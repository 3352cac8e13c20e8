/-
  SheetReads: whatever bytes and text come, what is read of them is what the document says, or what is wrong is told, and where, as it says.
-/
import Derived.Test.YtjcjhcpaojhcfaaDoorCards
import Derived.Test.YtjcjhcpaojhcfaaDoorTie
import Derived.Test.YtjcjhcpaojhcfaaDoorRu
import Derived.Test.YtjcjhcpaojhcfaaDoorRd
import Derived.Test.YtjcjhcpaojhcfaaDoorSt
import Derived.WalkKit
import Derived.ProofKit
import Derived.OpenShut
import Derived.ShutString
import Derived.ChangeOld
import Derived.Below
import Derived.HandedShaped
import Derived.LaidMore
import Derived.Lay
import Derived.SevenTiedAt
import Derived.Stop.Joined
namespace Go.Proofs.YtjcjhcpaojhcfaaDoor.sheetReads
open Go.ChangeShapes Go.WideShapes Go.ChangeAt Go.RowKit
open Go.ChangeMaps (open_string shut_string)
set_option linter.unusedVariables false

set_option maxHeartbeats 8000000 in
set_option maxRecDepth 100000 in
theorem walk (a : Option Addr) (len cap : Nat) (z0 : List Int) (s : ByteArray) (w : World) (h : IsRow .u8 w a len cap z0) (hs : s.size ≤ maxLen) (m : Int) (hm : w.cell? ⟨2, 0, none⟩ = some (.int .i64 m)) : Calls Tryd.prog 3 #[.slice a len cap, .string s] w fun e w' => e = .returned (.bool true) ∧ Below w.heap.size w w' := by
  obtain ⟨zs, hl, hcap, hcm, hb, hr⟩ := byte_view h
  have HM : Hid (w.cell? ⟨2, 0, none⟩ = some (.int .i64 m)) := hm
  have HL : Hid (zs.length = len) := hl
  have hbig : len ≤ 9223372036854775807 := by have : maxLen = 9223372036854775807 := rfl; omega
  have hsbig : s.size ≤ 9223372036854775807 := by have : maxLen = 9223372036854775807 := rfl; omega
  clear hm h hl
  by_cases h6 : 6000 < len
  · go_enter Tryd.func3, Tryd.ntmps3
    go_wp2_with (go_at_call 6; refine (alive_any _).mono ?_; rintro e w1 ⟨rfl, hb1⟩)
    go_ret
    exact ⟨rfl, hb1⟩
  by_cases h2 : 2000 < s.size
  · go_enter Tryd.func3, Tryd.ntmps3
    go_wp2_with (go_at_call 6; refine (alive_any _).mono ?_; rintro e w1 ⟨rfl, hb1⟩)
    go_ret
    exact ⟨rfl, hb1⟩
  have hrd := read_any a len cap zs w HL.out hb hcap hcm hr m HM.out
  unfold RPost at hrd
  go_enter Tryd.func3, Tryd.ntmps3
  go_wp2_with fail
  refine hrd.mono ?_
  rintro e w1 ⟨v1, p1, c1, rfl, hb1, hans1⟩
  have HB1 : Hid (Below w.heap.size w w1) := hb1
  have hk1 := keep w1 (.cells #[.int .i64 (p1 : Nat), .int .i64 c1] 27)
  have HB1a : Hid (Below w.heap.size w (w1.alloc (.cells #[.int .i64 (p1 : Nat), .int .i64 c1] 27))) := HB1.out.trans (hk1.mono HB1.out.size)
  have hrr := rread_any a len cap zs (w1.alloc (.cells #[.int .i64 (p1 : Nat), .int .i64 c1] 27)) HL.out hb hcap hcm (row_below hr HB1a.out)
  unfold RPost at hrr
  clear hb1 hrd
  go_wp2_with fail
  refine hrr.mono ?_
  rintro e w2 ⟨v2, p2, c2, rfl, hb2, hans2⟩
  obtain ⟨rfl, rfl, a1, a2, n1, n2, k1, k2, ls, ks, rfl, rfl, hn1, hn2, hn5, hfs, hLR1, hLR2, hSL⟩ := both_read hans1 hans2
  have hF1 : Blk w2 w1.heap.size #[.int .i64 (p1 : Nat), .int .i64 c1] 27 := (Blk.new w1 _ 27).below hb2 (by simp)
  have HLA : Hid (LRow w2 a1 ls) := (hLR1.below hk1).below hb2
  have HLB : Hid (LRow w2 a2 ks) := hLR2
  have HS : Hid (SameL ls ks) := hSL
  have HFS : Hid (∀ m ∈ ls, m.fs.length ≤ 1000) := hfs
  have HN1 : Hid (ls.length = n1) := hn1
  have HN2 : Hid (ks.length = n2) := hn2
  have HB2 : Hid (Below w.heap.size w w2) := HB1a.out.trans (hb2.mono HB1a.out.size)
  have HF1 : Hid (Blk w2 w1.heap.size #[.int .i64 (p1 : Nat), .int .i64 c1] 27) := hF1
  clear hans1 hans2 hLR1 hLR2 hSL hb2 hk1 hrr hn1 hn2 hfs hF1 HB1a
  have hk2 := keep w2 (.cells #[.int .i64 (p1 : Nat), .int .i64 c1] 27)
  go_wp2_with fail
  refine (one_any s _ (by omega)).mono ?_
  rintro e w3 ⟨nm, vl, fa, fc, fs, code, rfl, hans3, hln3, hb3⟩
  unfold lineV
  have hk3 := keep w3 (.cells #[.string nm, .slice fa fs.length fc, .string vl] 32)
  have hF2 : Blk w3 w2.heap.size #[.int .i64 (p1 : Nat), .int .i64 c1] 27 := (Blk.new w2 _ 27).below hb3 (by simp)
  have HB23 : Hid (Below w2.heap.size w2 w3) := hk2.trans (hb3.mono (by simp))
  have HF2 : Hid (Blk w3 w2.heap.size #[.int .i64 (p1 : Nat), .int .i64 c1] 27) := hF2
  have HFA : Hid (FRow w3 fa fs) := hln3.1
  clear hb3 hln3 hF2 hk2
  go_wp2_with fail
  refine (rone_any s _ (by omega)).mono ?_
  rintro e w4 ⟨nm', vl', fa', fc', fs', code', rfl, hans4, hln4, hb4⟩
  obtain ⟨rfl, rfl, rfl, rfl, hfl⟩ := both_one rfl hans3 hans4
  unfold lineV
  have hX : Blk w4 w3.heap.size #[.string nm', .slice fa fs'.length fc, .string vl'] 32 := (Blk.new w3 _ 32).below hb4 (by simp)
  have HB34 : Hid (Below w3.heap.size w3 w4) := hk3.trans (hb4.mono (by simp))
  have HX : Hid (Blk w4 w3.heap.size #[.string nm', .slice fa fs'.length fc, .string vl'] 32) := hX
  have HFB : Hid (FRow w4 fa' fs') := hln4.1
  have hk4 := keep w4 (.cells #[.string nm', .slice fa' fs'.length fc', .string vl'] 32)
  clear hb4 hln4 hans3 hans4 hX hk3
  obtain ⟨fl, hfle⟩ : ∃ fl, fs'.length = fl := ⟨_, rfl⟩
  rw [hfle] at HX hk4 hfl ⊢
  have HFL : Hid (fs'.length = fl) := hfle
  clear hfle
  go_wp2_with fail
  refine (alive_any _).mono ?_
  rintro e w5 ⟨rfl, hb5⟩
  have hY : Blk w5 w4.heap.size #[.string nm', .slice fa' fl fc', .string vl'] 32 := (Blk.new w4 _ 32).below hb5 (by simp)
  have HB45 : Hid (Below w4.heap.size w4 w5) := hk4.trans (hb5.mono (by simp))
  have HY : Hid (Blk w5 w4.heap.size #[.string nm', .slice fa' fl fc', .string vl'] 32) := hY
  have HB24 : Hid (Below w2.heap.size w2 w4) := HB23.out.trans (HB34.out.mono HB23.out.size)
  have HB25 : Hid (Below w2.heap.size w2 w5) := HB24.out.trans (HB45.out.mono HB24.out.size)
  have HB35 : Hid (Below w3.heap.size w3 w5) := HB34.out.trans (HB45.out.mono HB34.out.size)
  clear hb5 hk4 hY
  have hsame1 := same_any a1 a2 n1 n2 k1 k2 ls ks w5 HN1.out HN2.out (by omega) (fun m hm => by have := HFS.out m hm; omega) (HLA.out.below HB25.out) (HLB.out.below HB25.out) HS.out
  go_wp2_with fail
  refine hsame1.mono ?_
  rintro e w6 ⟨rfl, hb6⟩
  have HB6 : Hid (Below w.heap.size w w6) := (HB2.out.trans (HB25.out.mono HB2.out.size)).trans (hb6.mono (by have := HB2.out.size; have := HB25.out.size; omega))
  have s2 := HB23.out.size
  have s3 := HB34.out.size
  have s4 := HB45.out.size
  have t1 := HF1.out.lt
  have t2 := HF2.out.lt
  have t3 := HX.out.lt
  have t4 := HY.out.lt
  have HB26 : Hid (Below w2.heap.size w2 w6) := HB25.out.trans (hb6.mono (by omega))
  have HB36 : Hid (Below w3.heap.size w3 w6) := HB35.out.trans (hb6.mono (by omega))
  have HB46 : Hid (Below w4.heap.size w4 w6) := HB45.out.trans (hb6.mono (by omega))
  obtain ⟨q0, q1, _, _⟩ := two_facts (HF1.out.below HB26.out t1)
  obtain ⟨q2, q3, _, _⟩ := two_facts (HF2.out.below HB36.out t2)
  obtain ⟨x0, x1, x2, _, _, _⟩ := three_cells (HX.out.below HB46.out t3)
  have hY6 := HY.out.below hb6 t4
  obtain ⟨y0, y1, y2, _, _, _⟩ := three_cells hY6
  have ka := keep w6 (.cells #[.string nm', .slice fa fl fc, .string vl'] 32)
  have kb := keep (w6.alloc (.cells #[.string nm', .slice fa fl fc, .string vl'] 32)) (.cells #[.string nm', .slice fa' fl fc', .string vl'] 32)
  have kab : Below w6.heap.size w6 ((w6.alloc (.cells #[.string nm', .slice fa fl fc, .string vl'] 32)).alloc (.cells #[.string nm', .slice fa' fl fc', .string vl'] 32)) := ka.trans (kb.mono (by simp))
  obtain ⟨yy0, yy1, yy2, _, _, _⟩ := three_cells (hY6.below ka hY6.lt)
  have b1 : Blk ((w6.alloc (.cells #[.string nm', .slice fa fl fc, .string vl'] 32)).alloc (.cells #[.string nm', .slice fa' fl fc', .string vl'] 32)) w6.heap.size #[.string nm', .slice fa fl fc, .string vl'] 32 := (Blk.new w6 _ 32).below kb (by simp)
  have b2 : Blk ((w6.alloc (.cells #[.string nm', .slice fa fl fc, .string vl'] 32)).alloc (.cells #[.string nm', .slice fa' fl fc', .string vl'] 32)) (w6.heap.size + 1) #[.string nm', .slice fa' fl fc', .string vl'] 32 := by
    have := Blk.new (w6.alloc (.cells #[.string nm', .slice fa fl fc, .string vl'] 32)) #[.string nm', .slice fa' fl fc', .string vl'] 32
    rwa [World.size_alloc] at this
  have hsame2 := same_any (some ⟨w6.heap.size, 0, none⟩) (some ⟨w6.heap.size + 1, 0, none⟩) 1 1 1 1 [⟨nm', vl', fa, fc, fs'⟩] [⟨nm', vl', fa', fc', fs'⟩] _ rfl rfl (by omega) (fun m hm => by simp at hm; subst hm; have := HFL.out; show fs'.length ≤ _; omega)
    (one_row b1 HFL.out ((HFA.out.below HB36.out).below kab)) (one_row b2 HFL.out ((HFB.out.below HB46.out).below kab)) ⟨rfl, fun i m m' hm hm' => by
      cases i with
      | zero => simp at hm hm'; subst hm hm'; exact ⟨rfl, rfl, rfl⟩
      | succ i => simp at hm⟩
  clear b1 b2 hb6 hsame1
  have HKAB : Hid (Below w6.heap.size w6 ((w6.alloc (.cells #[.string nm', .slice fa fl fc, .string vl'] 32)).alloc (.cells #[.string nm', .slice fa' fl fc', .string vl'] 32))) := kab
  clear ka kb kab hY6
  go_wp2_with fail
  refine hsame2.mono ?_
  rintro e w7 ⟨rfl, hb7⟩
  go_wp2
  go_ret
  exact ⟨by first | rfl | simp, HB6.out.trans ((HKAB.out.trans (hb7.mono (by simp; omega))).mono HB6.out.size)⟩

set_option maxRecDepth 100000 in
theorem lifted (os : Os) (started : os.Started) (H : Type) (enc : TypeId × Value → H) :
    ReturnsInHanded {} Tryd.checked os 3 .any (fun w args => (Rows.sheetReadsSpec.pre enc Tryd.prog Tryd.f3 Rows.sheetReadsRow.domain false w args ∧ laidMetH Tryd.prog Rows.sheetReadsRow.laid w) ∧ sizedMet enc Tryd.prog Tryd.f3 (OpenSpec.ofChange Rows.sheetReadsSpec) false w args)
      (Rows.sheetReadsSpec.post enc Tryd.prog Tryd.f3 false true false false) := by
  refine step_all (C := Tryd.checked) (X := fun w _ => laidMetH Tryd.prog Rows.sheetReadsRow.laid w) (fun _ _ _ hh h => h.of_heap hh) own started (by kernel_rfl) Tryd.func3
    (ChangeSpec.witness_shaped (enc := enc) (C := Tryd.checked) (os := os) (X := fun w _ => laidMetH Tryd.prog Rows.sheetReadsRow.laid w) false (World.laidAll Tryd.prog os Rows.sheetReadsRow.laid) #[.slice none 0 0, .string ⟨#[]⟩] 8 (World.laidAll_os _ _ _)
      (World.shaped_of_ZipB (by kernel_rfl) (by kernel_rfl)) (by kernel_rfl) (by kernel_rfl) (by kernel_rfl)
      (by rw [MakeChecks.laidMetH_plain _ _ _ (by kernel_rfl)]; exact laidMet_laidAll _ (by kernel_rfl) (by kernel_rfl))) ?_
  intro W base args ds gs before hval0 hW hcnd hsz0 hsh hL
  have hval : ∀ (j : Nat) t v, Tryd.f3.params[j]? = some t → args[j]? = some v → Value.okWide Tryd.prog W .any base t v := hval0
  have hsz : (DataW.weightsEach Tryd.prog (Tryd.f3.params.toList ++ Rows.sheetReadsSpec.plain.varTypes Tryd.prog) (ds ++ gs)).all (· ≤ reachBytes) = true := hsz0
  have hW' := hW
  obtain ⟨p, q, hA0, hV, rfl, hfz, hnd⟩ := hW
  have hA : DataW.TrodAll enc Tryd.prog W 0 (fun _ => true) true Tryd.f3.params.toList args.toList ds p := hA0
  rw [Tryd.params3] at hA hval hsz
  obtain ⟨v0, vs0, d0, ds0, p0, q0, hargs, rfl, rfl, h0, r0⟩ := trodAll_cons hA
  obtain ⟨v1, vs1, d1, ds1, p1, q1, rfl, rfl, rfl, h1, r1⟩ := trodAll_cons r0
  obtain ⟨rfl, rfl, rfl⟩ := trodAll_nil r1
  obtain rfl : args = #[v0, v1] := by cases args; simp_all
  obtain ⟨rfl, rfl⟩ := trodVars_none hV
  obtain ⟨a0, len0, cap0, rfl⟩ := okWide_slice Tryd.underlying22 (hval 0 22 v0 rfl rfl)
  have k0 := h0
  have lt0 : ∀ x ∈ p0, x.block < W.heap.size := by obtain ⟨m, hm⟩ := k0; exact DataW.trod_lt m _ _ _ hm
  obtain ⟨z0, w0⟩ : ∃ zs, IsRow .u8 W a0 len0 cap0 zs := by
    obtain ⟨fuel, hf⟩ := h0
    rcases open_ints Tryd.underlying22 Tryd.underlying5 (by kernel_rfl) hf with ⟨hcs, _⟩ | ⟨x, l, c, zs, hcs, _, hl, hm, hz, _, hcell, hwz⟩
    · simp [Value.cells] at hcs
      obtain ⟨rfl, rfl, rfl⟩ := hcs
      exact ⟨[], .inl ⟨rfl, rfl, rfl, rfl⟩⟩
    · simp [Value.cells] at hcs
      obtain ⟨rfl, rfl, rfl⟩ := hcs
      exact ⟨zs, .inr ⟨_, rfl, hl, hm, by simpa using hz, hcell, hwz⟩⟩
  have k1 := h1
  have lt1 : ∀ x ∈ p1, x.block < W.heap.size := by obtain ⟨m, hm⟩ := k1; exact DataW.trod_lt m _ _ _ hm
  obtain ⟨s1, rfl, _, _, hs1⟩ := open_string Tryd.underlying9 (hval 1 9 v1 rfl rfl) h1
  clear hA0 hval0
  obtain ⟨m, hm⟩ := shape_cell W hsh
  refine (walk a0 len0 cap0 z0 s1 W w0 hs1 m hm).mono fun e W' ⟨he, bel⟩ => ?_
  subst he
  exact ⟨_, rfl, _, _, _, [], _, [], hW', trodAll_mk1 (shut_bool Tryd.underlying4 _), (trodAll_cons_mk (Below.trod laidOut (by kernel_rfl) (of_decide_eq_true (by kernel_rfl)) k0 bel lt0) (trodAll_cons_mk (Below.trod laidOut (by kernel_rfl) (of_decide_eq_true (by kernel_rfl)) k1 bel lt1) trodAll_mk0)), rfl, bel.frame _, fun h => by cases h⟩

theorem over : Rows.SheetReadsSaid :=
  OpenClaim.holds_of_wide 3 Tryd.f3 rfl rfl rfl rfl rfl rfl rfl ⟨rfl, rfl, rfl, rfl, rfl⟩ rfl rfl rfl rfl rfl (by kernel_rfl) Tryd.func3 (by kernel_rfl)
    (of_decide_eq_true (by kernel_rfl)) (by unfold Func.isWrapper; first | (rw [if_pos (by decide +kernel)]; kernel_rfl) | (rw [if_neg (by decide +kernel)]; exact ⟨rfl, rfl⟩))
    (fun os started H enc _ => lifted os started H enc)
end Go.Proofs.YtjcjhcpaojhcfaaDoor.sheetReads
namespace Go.Proofs.YtjcjhcpaojhcfaaDoor
theorem sheetReads_card : Rows.SheetReadsCardSaid :=
  Claim7.holds_tied_plain_at .later [] _ _ _ _ sheetReads.over (fun _ h => by cases h) (by kernel_rfl) (fun _ h => by cases h) sheetReads_row_tie rfl ⟨rfl, rfl⟩ (by kernel_rfl) rfl
    (fun f fn hf hfn => by
      obtain rfl : f = 3 := Option.some.inj ((show Tryd.prog.funcNamed Rows.sheetReadsRow.func = some 3 by kernel_rfl).symm.trans hf) |>.symm
      obtain rfl : fn = Tryd.f3 := (Option.some.inj (Tryd.func3.symm.trans hfn)).symm
      exact ⟨by kernel_rfl, fun j t ht => by
        rw [Tryd.params3] at ht
        have hm : t ∈ [22, 9] := by simpa using Array.mem_of_getElem? ht
        have hall : ([22, 9].all fun u => !Tryd.prog.wantsStandIn u) = true := by kernel_rfl
        exact (show Tryd.prog.wantsStandIn t = false by simpa using List.all_eq_true.1 hall t hm)⟩)
    (by kernel_rfl)
#print axioms sheetReads_card
end Go.Proofs.YtjcjhcpaojhcfaaDoor
