/-
  A header is written, and the fields of a name are told (P6.1, P6.3): for every list of fields and every name the statement FieldsWrites, which holds Write and Get against the document's answer, answers true, and leaves its arguments as they were.
-/
import Derived.Test.YtnpjffpioimcdaaDoorCards
import Derived.Test.YtnpjffpioimcdaaDoorTie
import Derived.Test.YtnpjffpioimcdaaDoorArgs
import Derived.Test.YtnpjffpioimcdaaDoorAlive
import Derived.Test.YtnpjffpioimcdaaDoorRwrite
import Derived.WalkKit
import Derived.ProofKit
import Derived.OpenShut
import Derived.ShutString
import Derived.ChangeOld
import Derived.Below
import Derived.LaidMore
import Derived.Lay
import Derived.SevenTiedAt
import Derived.Stop.Joined
namespace Go.Proofs.YtnpjffpioimcdaaDoor.fieldsWrites
open Go.ChangeShapes Go.WideShapes Go.ChangeAt Go.RowKit
open Go.ChangeMaps (open_string shut_string)
set_option linter.unusedVariables false

theorem getZ_le (nm : List Int) : ∀ (fs : List (ByteArray × ByteArray)) (v : ByteArray) (n : Nat), (getZ nm fs v n).2 ≤ n + fs.length
  | [], v, n => by simp [getZ]
  | g :: fs, v, n => by
    simp only [getZ]
    split
    · have := getZ_le nm fs (if n = 0 then g.2 else v) (n + 1); simp only [List.length_cons]; omega
    · have := getZ_le nm fs v n; simp only [List.length_cons]; omega
set_option maxRecDepth 100000 in
set_option maxHeartbeats 4000000 in
theorem walk (a0 : Option Addr) (len0 cap0 : Nat) (fs : List (ByteArray × ByteArray)) (s : ByteArray) (w : World) (w0 : IsFs w a0 len0 cap0 fs) (hs : s.size ≤ maxLen) (hm : Mx w) :
    Calls Tryd.prog 4 #[.slice a0 len0 cap0, .string s] w fun e w' => e = .returned (.bool true) ∧ Below w.heap.size w w' := by
  obtain ⟨hn, hlc, hcm, hfr, hnil, _⟩ := w0
  unfold maxLen at hcm hs
  have HM : Hid (Mx w) := hm
  have HF : Hid (FRow w a0 fs) := hfr
  clear hm hfr
  go_enter Tryd.func4, Tryd.ntmps4
  go_wp2_with fail
  refine (great_any a0 len0 cap0 fs w hn (by omega) HF.out).mono ?_
  rintro e w' ⟨rfl, rfl⟩
  cases hg1 : greatZ fs with
  | true =>
    go_wp2_with fail
    refine (alive_any w HM.out).mono ?_
    rintro e w2 ⟨rfl, hb2⟩
    go_wp2
    go_ret
    exact ⟨rfl, hb2⟩
  | false =>
  obtain ⟨g1, g2⟩ := great_mem hg1
  have HG2 : Hid (∀ f ∈ fs, f.1.size ≤ 200 ∧ f.2.size ≤ 5000) := g2
  clear hg1 g2
  by_cases h2 : 200 < s.size
  · have hd : decide ((s.size : Int) > 200) = true := by simp; omega
    go_wp2_with fail
    refine (alive_any w HM.out).mono ?_
    rintro e w2 ⟨rfl, hb2⟩
    go_wp2
    go_ret
    exact ⟨rfl, hb2⟩
  have hd : decide ((s.size : Int) > 200) = false := by simp; omega
  have hW := write_any a0 len0 cap0 fs w hn (by omega) HF.out (fun f hf => by have := HG2.out f hf; omega)
  have HW2 : Hid (∀ X, Below w.heap.size w X → Calls Tryd.prog 15 #[.slice a0 len0 cap0] X fun e w' => ∃ v, e = .returned (.tuple #[v, .int .i64 (writeC fs)]) ∧ Own w' X.heap.size v (writeB fs) ∧ Below X.heap.size X w') := fun X hX =>
    rwrite_any a0 len0 cap0 fs X hn (by omega) (HF.out.below hX) (fun f hf => by have := HG2.out f hf; omega) _ rfl
  have HG : Hid (∀ X, Below w.heap.size w X → Calls Tryd.prog 16 #[.slice a0 len0 cap0, .string s] X fun e w' => e = .returned (.tuple #[.string (getZ (nums s) fs ⟨#[]⟩ 0).1, .int .i64 (getZ (nums s) fs ⟨#[]⟩ 0).2]) ∧ Below X.heap.size X w') := fun X hX =>
    get_any a0 len0 cap0 s fs X hn (by omega) (HF.out.below hX) (fun f hf => by have := HG2.out f hf; omega)
  have HG3 : Hid (∀ X, Below w.heap.size w X → Calls Tryd.prog 17 #[.slice a0 len0 cap0, .string s] X fun e w' => e = .returned (.tuple #[.string (getZ (nums s) fs ⟨#[]⟩ 0).1, .int .i64 (getZ (nums s) fs ⟨#[]⟩ 0).2]) ∧ Below X.heap.size X w') := fun X hX =>
    rget_any a0 len0 cap0 s fs X hn (by omega) (HF.out.below hX) (fun f hf => by have := HG2.out f hf; omega) (by omega) _ _ rfl
  have hgn := getZ_le (nums s) fs ⟨#[]⟩ 0
  obtain ⟨⟨gv, gn⟩, hgv⟩ : ∃ p, getZ (nums s) fs ⟨#[]⟩ 0 = p := ⟨_, rfl⟩
  obtain ⟨wc, hwc⟩ : ∃ wc, writeC fs = wc := ⟨_, rfl⟩
  rw [hgv] at HG HG3 hgn
  rw [hwc] at hW HW2
  simp only at hgn
  have HWB : Hid ((writeB fs).length ≤ 1600000) := by
    unfold Hid
    by_cases h : writeC fs = 0
    · exact writeB_len h
    · unfold writeB; rw [if_neg h]; simp
  clear hgv hwc
  go_wp2_with fail
  refine hW.mono ?_
  clear hW
  rintro e w1 ⟨v1, rfl, ho1, hb1⟩
  obtain ⟨a1, c1, rfl, _, _, hr1, _⟩ := own_row' ho1
  have HB1 : Hid (Below w.heap.size w w1) := hb1
  have hs1 : w.heap.size ≤ w1.heap.size := hb1.size
  have HR1 : Hid (Row w1 a1 (writeB fs)) := hr1
  clear ho1 hb1 hr1
  go_wp2_with fail
  refine (HW2.out w1 HB1.out).mono ?_
  rintro e w2 ⟨v2, rfl, ho2, hb2⟩
  obtain ⟨a2, c2, rfl, _, _, hr2, _⟩ := own_row' ho2
  have HB2 : Hid (Below w.heap.size w w2) := HB1.out.trans (hb2.mono hs1)
  have hs2 : w.heap.size ≤ w2.heap.size := HB2.out.size
  have HR12 : Hid (Row w2 a1 (writeB fs)) := row_below HR1.out hb2
  have HR2 : Hid (Row w2 a2 (writeB fs)) := hr2
  clear ho2 hb2 hr2
  go_wp2_with fail
  refine (HG.out w2 HB2.out).mono ?_
  rintro e w3 ⟨rfl, hb3⟩
  have HB3 : Hid (Below w.heap.size w w3) := HB2.out.trans (hb3.mono hs2)
  have hs3 : w.heap.size ≤ w3.heap.size := HB3.out.size
  have HR13 : Hid (Row w3 a1 (writeB fs)) := row_below HR12.out hb3
  have HR23 : Hid (Row w3 a2 (writeB fs)) := row_below HR2.out hb3
  clear hb3
  go_wp2_with fail
  refine (HG3.out w3 HB3.out).mono ?_
  rintro e w4 ⟨rfl, hb4⟩
  have HB4 : Hid (Below w.heap.size w w4) := HB3.out.trans (hb4.mono hs3)
  have hs4 : w.heap.size ≤ w4.heap.size := HB4.out.size
  have HR14 : Hid (Row w4 a1 (writeB fs)) := row_below HR13.out hb4
  have HR24 : Hid (Row w4 a2 (writeB fs)) := row_below HR23.out hb4
  clear hb4
  go_wp2_with fail
  refine (alive_any w4 (HM.out.keep HB4.out)).mono ?_
  rintro e w5 ⟨rfl, hb5⟩
  have HB5 : Hid (Below w.heap.size w w5) := HB4.out.trans (hb5.mono hs4)
  have hR15 := row_below HR14.out hb5
  have hR25 := row_below HR24.out hb5
  clear hb5
  obtain ⟨ob, hob⟩ : ∃ ob, writeB fs = ob := ⟨_, rfl⟩
  rw [hob] at hR15 hR25 ⊢
  obtain ⟨ol, hol⟩ : ∃ ol, ob.length = ol := ⟨_, rfl⟩
  have k1 := conv_row ol c1 hol hR15
  have k2 := conv_row ol c2 hol hR25
  rw [hol]
  clear hR15 hR25 hol hob
  go_wp2
  go_ret
  exact ⟨rfl, HB5.out⟩

set_option maxRecDepth 100000 in
theorem lifted (os : Os) (started : os.Started) (H : Type) (enc : TypeId × Value → H) :
    ReturnsInHanded {} Tryd.checked os 4 .any (fun w args => (Rows.fieldsWritesSpec.pre enc Tryd.prog Tryd.f4 Rows.fieldsWritesRow.domain false w args ∧ laidMetH Tryd.prog Rows.fieldsWritesRow.laid w) ∧ sizedMet enc Tryd.prog Tryd.f4 (OpenSpec.ofChange Rows.fieldsWritesSpec) false w args)
      (Rows.fieldsWritesSpec.post enc Tryd.prog Tryd.f4 false true false false) := by
  refine step_both (C := Tryd.checked) (X := fun w _ => laidMetH Tryd.prog Rows.fieldsWritesRow.laid w) (fun _ _ _ hh h => h.of_heap hh) own started (by kernel_rfl) Tryd.func4
    (ChangeSpec.witness_shaped (enc := enc) (C := Tryd.checked) (os := os) (X := fun w _ => laidMetH Tryd.prog Rows.fieldsWritesRow.laid w) false (World.laidAll Tryd.prog os Rows.fieldsWritesRow.laid) #[.slice none 0 0, .string ⟨#[]⟩] 8 (World.laidAll_os _ _ _)
      (World.shaped_of_ZipB (by kernel_rfl) (by kernel_rfl)) (by kernel_rfl) (by kernel_rfl) (by kernel_rfl)
      (by rw [MakeChecks.laidMetH_plain _ _ _ (by kernel_rfl)]; exact laidMet_laidAll _ (by kernel_rfl) (by kernel_rfl))) ?_
  intro W base args ds gs before hval0 hW hcnd hsh hL
  have hval : ∀ (j : Nat) t v, Tryd.f4.params[j]? = some t → args[j]? = some v → Value.okWide Tryd.prog W .any base t v := hval0
  have hW' := hW
  obtain ⟨p, q, hA0, hV, rfl, hfz, hnd⟩ := hW
  have hA : DataW.TrodAll enc Tryd.prog W 0 (fun _ => true) true Tryd.f4.params.toList args.toList ds p := hA0
  rw [Tryd.params4] at hA hval
  obtain ⟨v0, vs0, d0, ds0, p0, q0, hargs, rfl, rfl, h0, r0⟩ := trodAll_cons hA
  obtain ⟨v1, vs1, d1, ds1, p1, q1, rfl, rfl, rfl, h1, r1⟩ := trodAll_cons r0
  obtain ⟨rfl, rfl, rfl⟩ := trodAll_nil r1
  obtain rfl : args = #[v0, v1] := by cases args; simp_all
  obtain ⟨rfl, rfl⟩ := trodVars_none hV
  have k0 := h0
  have lt0 : ∀ x ∈ p0, x.block < W.heap.size := by obtain ⟨m, hm⟩ := k0; exact DataW.trod_lt m _ _ _ hm
  obtain ⟨a0, len0, cap0, rfl⟩ := okWide_slice Tryd.underlying24 (hval 0 24 v0 rfl rfl)
  obtain ⟨z0, w0⟩ := fields_arg h0
  have k1 := h1
  have lt1 : ∀ x ∈ p1, x.block < W.heap.size := by obtain ⟨m, hm⟩ := k1; exact DataW.trod_lt m _ _ _ hm
  obtain ⟨s1, rfl, _, _, hs1⟩ := open_string Tryd.underlying9 (hval 1 9 v1 rfl rfl) h1
  clear hA0 hval0
  refine (walk a0 len0 cap0 z0 s1 W w0 hs1 (laysM185.s1_3 W hsh)).mono fun e W' ⟨he, bel⟩ => ?_
  subst he
  exact ⟨_, rfl, _, _, _, [], _, [], hW', trodAll_mk1 (shut_bool Tryd.underlying4 _), (trodAll_cons_mk (Below.trod laidOut (by kernel_rfl) (of_decide_eq_true (by kernel_rfl)) k0 bel lt0) (trodAll_cons_mk (Below.trod laidOut (by kernel_rfl) (of_decide_eq_true (by kernel_rfl)) k1 bel lt1) trodAll_mk0)), rfl, bel.frame _, fun h => by cases h⟩

theorem over : Rows.FieldsWritesSaid :=
  OpenClaim.holds_of_wide 4 Tryd.f4 rfl rfl rfl rfl rfl rfl rfl ⟨rfl, rfl, rfl, rfl, rfl⟩ rfl rfl rfl rfl rfl (by kernel_rfl) Tryd.func4 (by kernel_rfl)
    (of_decide_eq_true (by kernel_rfl)) (by unfold Func.isWrapper; first | (rw [if_pos (by decide +kernel)]; kernel_rfl) | (rw [if_neg (by decide +kernel)]; exact ⟨rfl, rfl⟩))
    (fun os started H enc _ => lifted os started H enc)
end Go.Proofs.YtnpjffpioimcdaaDoor.fieldsWrites
namespace Go.Proofs.YtnpjffpioimcdaaDoor
theorem fieldsWrites_card : Rows.FieldsWritesCardSaid :=
  Claim7.holds_tied_plain_at .later [] _ _ _ _ fieldsWrites.over (fun _ h => by cases h) (by kernel_rfl) (fun _ h => by cases h) fieldsWrites_row_tie rfl ⟨rfl, rfl⟩ (by kernel_rfl) rfl
    (fun f fn hf hfn => by
      obtain rfl : f = 4 := Option.some.inj ((show Tryd.prog.funcNamed Rows.fieldsWritesRow.func = some 4 by kernel_rfl).symm.trans hf) |>.symm
      obtain rfl : fn = Tryd.f4 := (Option.some.inj (Tryd.func4.symm.trans hfn)).symm
      exact ⟨by kernel_rfl, fun j t ht => by
        rw [Tryd.params4] at ht
        have hm : t ∈ [24, 9] := by simpa using Array.mem_of_getElem? ht
        have hall : ([24, 9].all fun u => !Tryd.prog.wantsStandIn u) = true := by kernel_rfl
        exact (show Tryd.prog.wantsStandIn t = false by simpa using List.all_eq_true.1 hall t hm)⟩)
    (by kernel_rfl)
#print axioms fieldsWrites_card
end Go.Proofs.YtnpjffpioimcdaaDoor
