/-
  For every kind that is not too great for the statement: what is written of it in long parameters, or what is wrong, is what the plain answer by definition says; for all others fixed calls answer as they must. Conditions: the listed tables of the library are tied to the pruned copy of the project that the seat holds, and say nothing of its other packages, commands or tests.
-/
import Derived.Test.YtfhgkkdbkbbpkaaDoorCards
import Derived.Test.YtfhgkkdbkbbpkaaDoorTie
import Derived.Test.YtfhgkkdbkbbpkaaDoorArgs
import Derived.Test.YtfhgkkdbkbbpkaaDoorFb
import Derived.Test.YtfhgkkdbkbbpkaaDoorFk
import Derived.WalkKit
import Derived.ProofKit
import Derived.OpenShut
import Derived.ShutString
import Derived.ChangeOld
import Derived.Below
import Derived.LaidMore
import Derived.Lay
import Derived.SevenTiedAt
import Derived.Stop.Joined
namespace Go.Proofs.YtfhgkkdbkbbpkaaDoor.extraSplits
open Go.ChangeShapes Go.WideShapes Go.ChangeAt Go.RowKit
open Go.ChangeMaps (open_string shut_string)
set_option linter.unusedVariables false

theorem pts_unique : ∀ {qs rs : List (List Int × List Int)}, qs.map flatQ = rs.map flatQ → (∀ q ∈ qs, Cs.Ut.AllPt q.2) → (∀ q ∈ rs, Cs.Ut.AllPt q.2) → qs = rs
  | [], [], _, _, _ => rfl
  | [], r :: rs, h, _, _ => by cases h
  | q :: qs, [], h, _, _ => by cases h
  | (q1, q2) :: qs, (r1, r2) :: rs, h, hq, hr => by
    simp only [List.map_cons, List.cons.injEq, flatQ, Prod.mk.injEq] at h
    have h2 : q2 = r2 := (Cs.Ut.split_one (r := []) (s := []) (hq (q1, q2) (by simp)) (hr (r1, r2) (by simp)) (by rfl) (by rfl) (by rw [List.append_nil, List.append_nil]; exact h.1.2 : Cs.Ut.flat q2 ++ [] = Cs.Ut.flat r2 ++ [])).1
    rw [h.1.1, h2, pts_unique h.2 (fun x hx => hq x (by simp [hx])) (fun x hx => hr x (by simp [hx]))]
def AnsP (T S : ByteArray) (E : Int) (l : List (List Int × List Int)) (w : World) (e : Ending) (w' : World) : Prop :=
  ∃ va vc gs, e = .returned (.tuple #[.agg #[.string T, .string S, .slice va (List.length gs) vc], .int .i64 E]) ∧ FRow w' va gs ∧ numsP gs = l ∧ gs.length ≤ 9223372036854775807 ∧ Below w.heap.size w w'
theorem own_le {w : World} {B e size n : Nat} {v : Value} {xs : List Value} (h : w.ownsRow B e size v n xs) : n ≤ 9223372036854775807 := by
  rcases h.2 with ⟨_, hn⟩ | ⟨g, cap, cur, rfl, hb, hg, hn, hm, hs, ht⟩
  · omega
  · unfold maxLen at hm; omega
theorem ans_empty {w w' : World} {E : Int} (hb : Below w.heap.size w w') : AnsP ⟨#[]⟩ ⟨#[]⟩ E [] w (.returned (.tuple #[kindV ⟨#[]⟩ ⟨#[]⟩ none 0 0, .int .i64 E])) w' := ⟨none, 0, [], rfl, .inl rfl, rfl, by simp, hb⟩
theorem ans_spR {ty sub : ByteArray} {o : Option (List (List Int × List Int))} {w w' : World} {e : Ending} (h : SpR ty sub o w e w') : AnsP (if o.isSome then ty else ⟨#[]⟩) (if o.isSome then sub else ⟨#[]⟩) (if o.isSome then 0 else 3) (o.getD []) w e w' := by
  obtain ⟨h1, h2, h3⟩ := h
  cases o with
  | none => rw [h1 rfl]; exact ans_empty h3
  | some l =>
    obtain ⟨v, gs, rfl, hown, hgs⟩ := h2 l rfl
    obtain ⟨va, vc, rfl, hr⟩ := ownF_view hown
    exact ⟨va, vc, gs, rfl, hr, hgs, own_le hown, h3⟩
theorem both (ty sub : ByteArray) (a : Option Addr) (n c : Nat) (fs : List (ByteArray × ByteArray)) (w : World) (hn : fs.length = n) (hr : FRow w a fs) (h1 : ty.size ≤ 1000) (h2 : sub.size ≤ 1000) (hf : ∀ f ∈ fs, f.1.size ≤ 200 ∧ f.2.size ≤ 2100) (hbig : n ≤ 40) :
    ∃ T S E l, (∀ V, Below w.heap.size w V → Calls Tryd.prog 10 #[kindV ty sub a n c] V (AnsP T S E l V)) ∧ (∀ V, Below w.heap.size w V → Calls Tryd.prog 11 #[kindV ty sub a n c] V (AnsP T S E l V)) := by
  have hf9 : ∀ f ∈ fs, f.1.size ≤ 1000000000 ∧ f.2.size ≤ 1000000000 := fun f hf' => by have := hf f hf'; omega
  by_cases hs : SplitsP ty sub fs
  · obtain ⟨qs, hq⟩ := pts_ex hs.2.1
    refine ⟨_, _, _, _, fun V hV => (split_ok ty sub a n c fs qs V hn (hr.below hV) (by omega) (by omega) hf9 hs hq).mono fun e w' h => ans_spR h, fun V hV => (rsplit_any ty sub a n c fs V hn (hr.below hV) (by omega) (by omega) hf hbig).mono fun e w' h => ?_⟩
    rcases h with ⟨hx, _⟩ | ⟨_, rs, hr2, h3⟩
    · exact absurd hs hx
    · obtain rfl : qs = rs := pts_unique (hq.1.symm.trans hr2.1) hq.2 hr2.2
      exact ans_spR h3
  · refine ⟨⟨#[]⟩, ⟨#[]⟩, 70, [], fun V hV => (split_bad ty sub a n c fs V hn (hr.below hV) (by omega) (by omega) hf9 (by omega) hs).mono fun e w' h => ?_, fun V hV => (rsplit_any ty sub a n c fs V hn (hr.below hV) (by omega) (by omega) hf hbig).mono fun e w' h => ?_⟩
    · obtain ⟨rfl, hb⟩ := h
      exact ans_empty hb
    · rcases h with ⟨_, rfl, hb⟩ | ⟨hx, _⟩
      · exact ans_empty hb
      · exact absurd hx hs
set_option maxRecDepth 100000 in
set_option maxHeartbeats 8000000 in
theorem walk (ty sub : ByteArray) (a : Option Addr) (n c : Nat) (fs : List (ByteArray × ByteArray)) (w : World) (w0 : IsK w ty sub a n fs) : Calls Tryd.prog 3 #[.agg #[.string ty, .string sub, .slice a n c]] w fun e w' => e = .returned (.bool true) ∧ Below w.heap.size w w' := by
  obtain ⟨hn, hnb, hrow, hty, hsub, hfz⟩ := w0
  have KA := fun V : World => alive_any V
  have KG := fun (V : World) (hV : Below w.heap.size w V) => great_any ty sub a n c fs V hn hnb (hrow.below hV) hty hsub hfz
  have HR : Hid (FRow w a fs) := hrow
  have kb := keep w (.cells #[.string ty, .string sub, .slice a n c] 24)
  clear hrow hfz hty hsub
  unfold kindV at KG
  go_enter Tryd.func3, Tryd.ntmps3
  go_wp2_with fail
  refine (KG _ kb).mono ?_
  rintro e w1 ⟨g, rfl, hg, hb1⟩
  have b0 : w1.cell? ⟨w.heap.size, 0, none⟩ = some (.string ty) := by rw [hb1.cell (p := ⟨w.heap.size, 0, none⟩) (by simp)]; rw [World.cell?_alloc_mark]; rfl
  have b1 : w1.cell? ⟨w.heap.size, 1, none⟩ = some (.string sub) := by rw [hb1.cell (p := ⟨w.heap.size, 1, none⟩) (by simp)]; rw [World.cell?_alloc_mark]; rfl
  have b2 : w1.cell? ⟨w.heap.size, 2, none⟩ = some (.slice a n c) := by rw [hb1.cell (p := ⟨w.heap.size, 2, none⟩) (by simp)]; rw [World.cell?_alloc_mark]; rfl
  have s1 : w.heap.size < w1.heap.size := by have := hb1.size; simp at this; omega
  have hbw : Below w.heap.size w w1 := kb.trans (hb1.mono (by simp))
  clear hb1 KG
  cases g with
  | true =>
    clear hg
    go_wp2_with (go_at_call 9; refine (KA _).mono ?_; rintro e w' ⟨rfl, hb⟩)
    go_ret
    exact ⟨rfl, hbw.trans (hb.mono (by omega))⟩
  | false =>
    obtain ⟨hn40, hts, hfz⟩ := hg rfl
    clear hg
    obtain ⟨T, S, E, l, K1, K2⟩ := both ty sub a n c fs w hn HR.out (by omega) (by omega) hfz hn40
    unfold kindV at K1 K2
    clear hfz
    go_wp2_with fail
    refine (K1 _ hbw).mono ?_
    rintro e w2 ⟨va, vc, gs, rfl, hr2, hl2, hgl, hb2⟩
    have s2 := hb2.size
    have c0 := (hb2.cell (p := ⟨w.heap.size, 0, none⟩) s1).trans b0
    have c1 := (hb2.cell (p := ⟨w.heap.size, 1, none⟩) s1).trans b1
    have c2 := (hb2.cell (p := ⟨w.heap.size, 2, none⟩) s1).trans b2
    have kx := keep w2 (.cells #[.string T, .string S, .slice va gs.length vc] 24)
    have d0 := (kx.cell (p := ⟨w.heap.size, 0, none⟩) (by dsimp only; omega)).trans c0
    have d1 := (kx.cell (p := ⟨w.heap.size, 1, none⟩) (by dsimp only; omega)).trans c1
    have d2 := (kx.cell (p := ⟨w.heap.size, 2, none⟩) (by dsimp only; omega)).trans c2
    have z0 : (w2.alloc (.cells #[.string T, .string S, .slice va gs.length vc] 24)).cell? ⟨w2.heap.size, 0, none⟩ = some (.string T) := by rw [World.cell?_alloc_mark]; rfl
    have z1 : (w2.alloc (.cells #[.string T, .string S, .slice va gs.length vc] 24)).cell? ⟨w2.heap.size, 1, none⟩ = some (.string S) := by rw [World.cell?_alloc_mark]; rfl
    have z2 : (w2.alloc (.cells #[.string T, .string S, .slice va gs.length vc] 24)).cell? ⟨w2.heap.size, 2, none⟩ = some (.slice va gs.length vc) := by rw [World.cell?_alloc_mark]; rfl
    have hbx : Below w.heap.size w w2 := hbw.trans (hb2.mono (by omega))
    have hby : Below w.heap.size w (w2.alloc (.cells #[.string T, .string S, .slice va gs.length vc] 24)) := hbx.alloc hbx.size _
    have HG : Hid (FRow (w2.alloc (.cells #[.string T, .string S, .slice va gs.length vc] 24)) va gs) := hr2.below kx
    have hgz : (w2.alloc (.cells #[.string T, .string S, .slice va gs.length vc] 24)).heap.size = w2.heap.size + 1 := by simp
    have HL2 : Hid (numsP gs = l) := hl2
    clear b0 b1 b2 c0 c1 c2 hb2 hbw hbx kx hr2 hl2 K1
    have KY := K2 _ hby
    clear K2
    go_wp2_with fail
    refine KY.mono ?_
    rintro e w4 ⟨vd, vf, hs, rfl, hr4, hl4, _, hb4⟩
    have s4 := hb4.size
    rw [hgz] at s4
    have e0 := (hb4.cell (p := ⟨w2.heap.size, 0, none⟩) (by simp)).trans z0
    have e1 := (hb4.cell (p := ⟨w2.heap.size, 1, none⟩) (by simp)).trans z1
    have e2 := (hb4.cell (p := ⟨w2.heap.size, 2, none⟩) (by simp)).trans z2
    have ky := keep w4 (.cells #[.string T, .string S, .slice vd hs.length vf] 24)
    have f0 := (ky.cell (p := ⟨w2.heap.size, 0, none⟩) (by dsimp only; omega)).trans e0
    have f1 := (ky.cell (p := ⟨w2.heap.size, 1, none⟩) (by dsimp only; omega)).trans e1
    have f2 := (ky.cell (p := ⟨w2.heap.size, 2, none⟩) (by dsimp only; omega)).trans e2
    have x0 : (w4.alloc (.cells #[.string T, .string S, .slice vd hs.length vf] 24)).cell? ⟨w4.heap.size, 0, none⟩ = some (.string T) := by rw [World.cell?_alloc_mark]; rfl
    have x1 : (w4.alloc (.cells #[.string T, .string S, .slice vd hs.length vf] 24)).cell? ⟨w4.heap.size, 1, none⟩ = some (.string S) := by rw [World.cell?_alloc_mark]; rfl
    have x2 : (w4.alloc (.cells #[.string T, .string S, .slice vd hs.length vf] 24)).cell? ⟨w4.heap.size, 2, none⟩ = some (.slice vd hs.length vf) := by rw [World.cell?_alloc_mark]; rfl
    have hbz : Below w.heap.size w w4 := hby.trans (hb4.mono hby.size)
    have HB5 : Hid (Below w.heap.size w (w4.alloc (.cells #[.string T, .string S, .slice vd hs.length vf] 24))) := hbz.alloc hbz.size _
    have HG5 : Hid (FRow (w4.alloc (.cells #[.string T, .string S, .slice vd hs.length vf] 24)) va gs) := (HG.out.below hb4).below ky
    have HH5 : Hid (FRow (w4.alloc (.cells #[.string T, .string S, .slice vd hs.length vf] 24)) vd hs) := hr4.below ky
    have HL4 : Hid (numsP hs = l) := hl4
    have s6 : (w4.alloc (.cells #[.string T, .string S, .slice vd hs.length vf] 24)).heap.size = w4.heap.size + 1 := by simp
    clear d0 d1 d2 z0 z1 z2 e0 e1 e2 hb4 hby hbz ky HG hr4 hl4 hgz KY
    go_wp2_with fail
    refine (KA _).mono ?_
    rintro e w6 ⟨rfl, hb6⟩
    have g0 := (hb6.cell (p := ⟨w2.heap.size, 0, none⟩) (by simp; omega)).trans f0
    have g1 := (hb6.cell (p := ⟨w2.heap.size, 1, none⟩) (by simp; omega)).trans f1
    have g2 := (hb6.cell (p := ⟨w2.heap.size, 2, none⟩) (by simp; omega)).trans f2
    have v0 := (hb6.cell (p := ⟨w4.heap.size, 0, none⟩) (by simp)).trans x0
    have v1 := (hb6.cell (p := ⟨w4.heap.size, 1, none⟩) (by simp)).trans x1
    have v2 := (hb6.cell (p := ⟨w4.heap.size, 2, none⟩) (by simp)).trans x2
    have HB6 : Hid (Below w.heap.size w w6) := HB5.out.trans (hb6.mono HB5.out.size)
    have KM : Calls Tryd.prog 12 #[.agg #[.string T, .string S, .slice va gs.length vc], .agg #[.string T, .string S, .slice vd hs.length vf]] w6 fun e w' => e = .returned (.bool true) ∧ Below w6.heap.size w6 w' :=
      same_any T S T S va vd vc vf gs hs w6 rfl rfl (HL2.out.trans HL4.out.symm) hgl (HG5.out.below hb6) (HH5.out.below hb6)
    clear f0 f1 f2 x0 x1 x2 HG5 HH5 HB5 hb6 hgl KA HL2 HL4
    go_wp2_with fail
    refine KM.mono ?_
    rintro e w8 ⟨rfl, hb8⟩
    go_wp2
    go_ret
    exact ⟨by simp, HB6.out.trans (hb8.mono HB6.out.size)⟩

set_option maxRecDepth 100000 in
theorem lifted (os : Os) (started : os.Started) (H : Type) (enc : TypeId × Value → H) :
    ReturnsInHanded {} Tryd.checked os 3 .any (fun w args => (Rows.extraSplitsSpec.pre enc Tryd.prog Tryd.f3 Rows.extraSplitsRow.domain false w args ∧ laidMetH Tryd.prog Rows.extraSplitsRow.laid w) ∧ sizedMet enc Tryd.prog Tryd.f3 (OpenSpec.ofChange Rows.extraSplitsSpec) false w args)
      (Rows.extraSplitsSpec.post enc Tryd.prog Tryd.f3 false true false false) := by
  refine returnsInHanded_of_change_and (C := Tryd.checked) (X := fun w _ => laidMetH Tryd.prog Rows.extraSplitsRow.laid w) (fun _ _ _ hh h => h.of_heap hh) own started (by kernel_rfl) Tryd.func3
    (ChangeSpec.witness_shaped (enc := enc) (C := Tryd.checked) (os := os) (X := fun w _ => laidMetH Tryd.prog Rows.extraSplitsRow.laid w) false (World.laidAll Tryd.prog os Rows.extraSplitsRow.laid) #[.agg #[.string ⟨#[]⟩, .string ⟨#[]⟩, .slice none 0 0]] 8 (World.laidAll_os _ _ _)
      (World.shaped_of_ZipB (by kernel_rfl) (by kernel_rfl)) (by kernel_rfl) (by kernel_rfl) (by kernel_rfl)
      (by rw [MakeChecks.laidMetH_plain _ _ _ (by kernel_rfl)]; exact laidMet_laidAll _ (by kernel_rfl) (by kernel_rfl))) ?_
  intro W base args ds gs before hval0 hW hcnd hsz0 hL0 _
  have hsz : (DataW.weightsEach Tryd.prog (Tryd.f3.params.toList ++ Rows.extraSplitsSpec.plain.varTypes Tryd.prog) (ds ++ gs)).all (· ≤ reachBytes) = true := hsz0
  have hval : ∀ (j : Nat) t v, Tryd.f3.params[j]? = some t → args[j]? = some v → Value.okWide Tryd.prog W .any base t v := hval0
  have hW' := hW
  obtain ⟨p, q, hA0, hV, rfl, hfz, hnd⟩ := hW
  have hA : DataW.TrodAll enc Tryd.prog W 0 (fun _ => true) true Tryd.f3.params.toList args.toList ds p := hA0
  rw [Tryd.params3] at hA hval hsz
  obtain ⟨v0, vs0, d0, ds0, p0, q0, hargs, rfl, rfl, h0, r0⟩ := trodAll_cons hA
  obtain ⟨rfl, rfl, rfl⟩ := trodAll_nil r0
  obtain rfl : args = #[v0] := by cases args; simp_all
  obtain ⟨rfl, rfl⟩ := trodVars_none hV
  have k0 := h0
  have lt0 : ∀ x ∈ p0, x.block < W.heap.size := by obtain ⟨m, hm⟩ := k0; exact DataW.trod_lt m _ _ _ hm
  obtain ⟨t0, s0, a0, len0, cap0, z0, rfl, w0⟩ := kind_arg (hval 0 24 v0 rfl rfl) h0 (fun n hn => by simpa using List.all_eq_true.1 hsz n (DataW.weights_mem_each (j := 0) rfl rfl n hn))
  clear hA0 hval0
  simp only [List.append_nil] at hW'
  refine (walk t0 s0 a0 len0 cap0 z0 W w0).mono fun e W' ⟨he, bel⟩ => ?_
  subst he
  exact ⟨_, rfl, _, _, _, [], _, [], hW', trodAll_mk1 (shut_bool Tryd.underlying4 _), (trodAll_cons_mk (Below.trod laidOut (by kernel_rfl) (of_decide_eq_true (by kernel_rfl)) k0 bel lt0) trodAll_mk0), rfl, bel.frame _, fun h => by cases h⟩

theorem over : Rows.ExtraSplitsSaid :=
  OpenClaim.holds_of_wide 3 Tryd.f3 rfl rfl rfl rfl rfl rfl rfl ⟨rfl, rfl, rfl, rfl, rfl⟩ rfl rfl rfl rfl rfl (by kernel_rfl) Tryd.func3 (by kernel_rfl)
    (of_decide_eq_true (by kernel_rfl)) (by unfold Func.isWrapper; first | (rw [if_pos (by decide +kernel)]; kernel_rfl) | (rw [if_neg (by decide +kernel)]; exact ⟨rfl, rfl⟩))
    (fun os started H enc _ => lifted os started H enc)
end Go.Proofs.YtfhgkkdbkbbpkaaDoor.extraSplits
namespace Go.Proofs.YtfhgkkdbkbbpkaaDoor
theorem extraSplits_card : Rows.ExtraSplitsCardSaid :=
  Claim7.holds_tied_plain_at .later [] _ _ _ _ extraSplits.over (fun _ h => by cases h) (by kernel_rfl) (fun _ h => by cases h) extraSplits_row_tie rfl ⟨rfl, rfl⟩ (by kernel_rfl) rfl
    (fun f fn hf hfn => by
      obtain rfl : f = 3 := Option.some.inj ((show Tryd.prog.funcNamed Rows.extraSplitsRow.func = some 3 by kernel_rfl).symm.trans hf) |>.symm
      obtain rfl : fn = Tryd.f3 := (Option.some.inj (Tryd.func3.symm.trans hfn)).symm
      exact ⟨by kernel_rfl, fun j t ht => by
        rw [Tryd.params3] at ht
        have hm : t ∈ [24] := by simpa using Array.mem_of_getElem? ht
        have hall : ([24].all fun u => !Tryd.prog.wantsStandIn u) = true := by kernel_rfl
        exact (show Tryd.prog.wantsStandIn t = false by simpa using List.all_eq_true.1 hall t hm)⟩)
    (by kernel_rfl)
#print axioms extraSplits_card
end Go.Proofs.YtfhgkkdbkbbpkaaDoor
