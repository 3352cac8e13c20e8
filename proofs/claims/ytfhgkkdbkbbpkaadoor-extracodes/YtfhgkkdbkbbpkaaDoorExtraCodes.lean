/-
  For all bytes and every text: the coded text of the bytes, and the bytes that the text says, or that it can't be read, are what the plain answer by definition says, if the bytes are at most 1000 and the text at most 2000; else fixed calls answer as they must. Conditions: the listed tables of the library are tied to the pruned copy of the project that the seat holds, and say nothing of its other packages, commands or tests.
-/
import Derived.Test.YtfhgkkdbkbbpkaaDoorCards
import Derived.Test.YtfhgkkdbkbbpkaaDoorTie
import Derived.Test.YtfhgkkdbkbbpkaaDoorArgs
import Derived.Test.YtfhgkkdbkbbpkaaDoorEk
import Derived.Test.YtfhgkkdbkbbpkaaDoorFa
import Derived.WalkKit
import Derived.ProofKit
import Derived.OpenShut
import Derived.ShutString
import Derived.ChangeOld
import Derived.Below
import Derived.LaidMore
import Derived.Lay
import Derived.SevenTiedAt
import Derived.Stop.Joined
namespace Go.Proofs.YtfhgkkdbkbbpkaaDoor.extraCodes
open Go.ChangeShapes Go.WideShapes Go.ChangeAt Go.RowKit
open Go.ChangeMaps (open_string shut_string)
set_option linter.unusedVariables false

theorem codeL_byt : ∀ {l : List Int}, Byt l → Byt (codeL l)
  | [], _ => by intro x hx; simp [codeL] at hx
  | c :: l, h => by
    have ih := codeL_byt h.tail
    intro x hx
    have e : codeL (c :: l) = codeC c ++ codeL l := by simp [codeL]
    rw [e] at hx
    rcases List.mem_append.1 hx with q | q
    · exact codeC_byt h.head.1 h.head.2 x q
    · exact ih x q
set_option maxRecDepth 100000 in
set_option maxHeartbeats 8000000 in
theorem walk (a : Option Addr) (len cap : Nat) (z : List Int) (s : ByteArray) (w : World) (hw : IsRow .u8 w a len cap z) (hsz : s.size ≤ maxLen) : Calls Tryd.prog 4 #[.slice a len cap, .string s] w fun e w' => e = .returned (.bool true) ∧ Below w.heap.size w w' := by
  obtain ⟨l, hl, hcap, hm, hb, hrow⟩ := byte_view hw
  clear hw
  have KA := fun V : World => alive_any V
  by_cases h1 : 1000 < len
  · clear hrow
    go_enter Tryd.func4, Tryd.ntmps4
    go_wp2_with (go_at_call 9; refine (KA _).mono ?_; rintro e w' ⟨rfl, hb⟩)
    go_ret
    exact ⟨rfl, hb⟩
  by_cases h2 : 2000 < s.size
  · clear hrow
    go_enter Tryd.func4, Tryd.ntmps4
    go_wp2_with (go_at_call 9; refine (KA _).mono ?_; rintro e w' ⟨rfl, hb⟩)
    go_ret
    exact ⟨rfl, hb⟩
  have HR : Hid (Row w a l) := hrow
  have KC : ∀ V, Below w.heap.size w V → Calls Tryd.prog 15 #[.slice a len cap] V fun e w' => e = .returned (.string (strOfNums (codeL l))) ∧ Below V.heap.size V w' := fun V hV => code_any a len cap l V hl hb (by omega) hcap hm (row_below HR.out hV)
  have KR : ∀ V, Below w.heap.size w V → Calls Tryd.prog 16 #[.slice a len cap] V fun e w' => e = .returned (.string (strOfNums (codeL l))) ∧ Below V.heap.size V w' := fun V hV => rcode_any a len cap l V hl hb (by omega) hcap hm (row_below HR.out hV)
  have KD := fun V : World => decode_any s V (by omega)
  have KE := fun V : World => rdecode_any s V (by omega)
  obtain ⟨t, ht⟩ : ∃ t, strOfNums (codeL l) = t := ⟨_, rfl⟩
  rw [ht] at KC KR
  clear ht hl hb hrow hcap hm
  go_enter Tryd.func4, Tryd.ntmps4
  cases hd : decZ (nums s) with
  | none =>
    rw [hd] at KD KE
    go_wp2_with fail
    refine (KD _).mono ?_
    rintro e w1 ⟨q1, _, hb1⟩
    obtain rfl := q1 rfl
    go_wp2_with fail
    refine (KE _).mono ?_
    rintro e w2 ⟨q2, _, hb2⟩
    obtain rfl := q2 rfl
    have B2 : Below w.heap.size w w2 := hb1.trans (hb2.mono hb1.size)
    go_wp2_with fail
    refine (KA _).mono ?_
    rintro e w3 ⟨rfl, hb3⟩
    have B3 : Below w.heap.size w w3 := B2.trans (hb3.mono B2.size)
    go_wp2_with fail
    refine (KC _ B3).mono ?_
    rintro e w4 ⟨rfl, hb4⟩
    have B4 : Below w.heap.size w w4 := B3.trans (hb4.mono B3.size)
    go_wp2_with fail
    refine (KR _ B4).mono ?_
    rintro e w5 ⟨rfl, hb5⟩
    have B5 : Hid (Below w.heap.size w w5) := B4.trans (hb5.mono B4.size)
    have kc := conv_row (w := w5) (a := none) (l := []) 0 0 rfl (.inl rfl)
    clear hb1 hb2 hb3 hb4 hb5 B2 B3 B4 KA KC KR KD KE
    go_wp2
    go_ret
    exact ⟨rfl, B5.out⟩
  | some x =>
    rw [hd] at KD KE
    go_wp2_with fail
    refine (KD _).mono ?_
    rintro e w1 ⟨_, q1, hb1⟩
    obtain ⟨v1, rfl, hown1⟩ := q1 x rfl
    obtain ⟨a1, c1, rfl, _, _, r1, _⟩ := own_row' hown1
    go_wp2_with fail
    refine (KE _).mono ?_
    rintro e w2 ⟨_, q2, hb2⟩
    obtain ⟨v2, rfl, hown2⟩ := q2 x rfl
    obtain ⟨a2, c2, rfl, _, _, r2, _⟩ := own_row' hown2
    have B2 : Below w.heap.size w w2 := hb1.trans (hb2.mono hb1.size)
    have X2 : Below w1.heap.size w1 w2 := hb2
    go_wp2_with fail
    refine (KA _).mono ?_
    rintro e w3 ⟨rfl, hb3⟩
    have B3 : Below w.heap.size w w3 := B2.trans (hb3.mono B2.size)
    have X3 : Below w1.heap.size w1 w3 := X2.trans (hb3.mono X2.size)
    go_wp2_with fail
    refine (KC _ B3).mono ?_
    rintro e w4 ⟨rfl, hb4⟩
    have B4 : Below w.heap.size w w4 := B3.trans (hb4.mono B3.size)
    have X4 : Below w1.heap.size w1 w4 := X3.trans (hb4.mono X3.size)
    have Y4 : Below w2.heap.size w2 w4 := hb3.trans (hb4.mono hb3.size)
    go_wp2_with fail
    refine (KR _ B4).mono ?_
    rintro e w5 ⟨rfl, hb5⟩
    have B5 : Hid (Below w.heap.size w w5) := B4.trans (hb5.mono B4.size)
    have X5 : Below w1.heap.size w1 w5 := X4.trans (hb5.mono X4.size)
    have Y5 : Below w2.heap.size w2 w5 := Y4.trans (hb5.mono Y4.size)
    have kc := conv_row (w := w5) (a := a1) (l := x) x.length c1 rfl (row_below r1 X5)
    have kd := conv_row (w := w5) (a := a2) (l := x) x.length c2 rfl (row_below r2 Y5)
    clear hb1 hb2 hb3 hb4 hb5 B2 B3 B4 X2 X3 X4 X5 Y4 Y5 KA KC KR KD KE hown1 hown2 r1 r2
    go_wp2
    go_ret
    exact ⟨rfl, B5.out⟩

set_option maxRecDepth 100000 in
theorem lifted (os : Os) (started : os.Started) (H : Type) (enc : TypeId × Value → H) :
    ReturnsInHanded {} Tryd.checked os 4 .any (fun w args => (Rows.extraCodesSpec.pre enc Tryd.prog Tryd.f4 Rows.extraCodesRow.domain false w args ∧ laidMetH Tryd.prog Rows.extraCodesRow.laid w) ∧ sizedMet enc Tryd.prog Tryd.f4 (OpenSpec.ofChange Rows.extraCodesSpec) false w args)
      (Rows.extraCodesSpec.post enc Tryd.prog Tryd.f4 false true false false) := by
  refine returnsInHanded_of_change_and (C := Tryd.checked) (X := fun w _ => laidMetH Tryd.prog Rows.extraCodesRow.laid w) (fun _ _ _ hh h => h.of_heap hh) own started (by kernel_rfl) Tryd.func4
    (ChangeSpec.witness_shaped (enc := enc) (C := Tryd.checked) (os := os) (X := fun w _ => laidMetH Tryd.prog Rows.extraCodesRow.laid w) false (World.laidAll Tryd.prog os Rows.extraCodesRow.laid) #[.slice none 0 0, .string ⟨#[]⟩] 8 (World.laidAll_os _ _ _)
      (World.shaped_of_ZipB (by kernel_rfl) (by kernel_rfl)) (by kernel_rfl) (by kernel_rfl) (by kernel_rfl)
      (by rw [MakeChecks.laidMetH_plain _ _ _ (by kernel_rfl)]; exact laidMet_laidAll _ (by kernel_rfl) (by kernel_rfl))) ?_
  intro W base args ds gs before hval0 hW hcnd hsz0 hL0 _
  have hsz : (DataW.weightsEach Tryd.prog (Tryd.f4.params.toList ++ Rows.extraCodesSpec.plain.varTypes Tryd.prog) (ds ++ gs)).all (· ≤ reachBytes) = true := hsz0
  have hval : ∀ (j : Nat) t v, Tryd.f4.params[j]? = some t → args[j]? = some v → Value.okWide Tryd.prog W .any base t v := hval0
  have hW' := hW
  obtain ⟨p, q, hA0, hV, rfl, hfz, hnd⟩ := hW
  have hA : DataW.TrodAll enc Tryd.prog W 0 (fun _ => true) true Tryd.f4.params.toList args.toList ds p := hA0
  rw [Tryd.params4] at hA hval hsz
  obtain ⟨v0, vs0, d0, ds0, p0, q0, hargs, rfl, rfl, h0, r0⟩ := trodAll_cons hA
  obtain ⟨v1, vs1, d1, ds1, p1, q1, rfl, rfl, rfl, h1, r1⟩ := trodAll_cons r0
  obtain ⟨rfl, rfl, rfl⟩ := trodAll_nil r1
  obtain rfl : args = #[v0, v1] := by cases args; simp_all
  obtain ⟨rfl, rfl⟩ := trodVars_none hV
  have k0 := h0
  have lt0 : ∀ x ∈ p0, x.block < W.heap.size := by obtain ⟨m, hm⟩ := k0; exact DataW.trod_lt m _ _ _ hm
  obtain ⟨a0, len0, cap0, rfl⟩ := okWide_slice Tryd.underlying31 (hval 0 31 v0 rfl rfl)
  obtain ⟨z0, w0⟩ : ∃ zs, IsRow .u8 W a0 len0 cap0 zs := by
    obtain ⟨fuel, hf⟩ := h0
    rcases open_ints Tryd.underlying31 Tryd.underlying5 (by kernel_rfl) hf with ⟨hcs, _⟩ | ⟨x, l, c, zs, hcs, _, hl, hm, hz, _, hcell, hwz⟩
    · simp [Value.cells] at hcs
      obtain ⟨rfl, rfl, rfl⟩ := hcs
      exact ⟨[], .inl ⟨rfl, rfl, rfl, rfl⟩⟩
    · simp [Value.cells] at hcs
      obtain ⟨rfl, rfl, rfl⟩ := hcs
      exact ⟨zs, .inr ⟨_, rfl, hl, hm, by simpa using hz, hcell, hwz⟩⟩
  have k1 := h1
  have lt1 : ∀ x ∈ p1, x.block < W.heap.size := by obtain ⟨m, hm⟩ := k1; exact DataW.trod_lt m _ _ _ hm
  obtain ⟨s1, rfl, _, _, hs1⟩ := open_string Tryd.underlying9 (hval 1 9 v1 rfl rfl) h1
  clear hA0 hval0
  simp only [List.append_nil] at hW'
  refine (walk a0 len0 cap0 z0 s1 W w0 hs1).mono fun e W' ⟨he, bel⟩ => ?_
  subst he
  exact ⟨_, rfl, _, _, _, [], _, [], hW', trodAll_mk1 (shut_bool Tryd.underlying4 _), (trodAll_cons_mk (Below.trod laidOut (by kernel_rfl) (of_decide_eq_true (by kernel_rfl)) k0 bel lt0) (trodAll_cons_mk (Below.trod laidOut (by kernel_rfl) (of_decide_eq_true (by kernel_rfl)) k1 bel lt1) trodAll_mk0)), rfl, bel.frame _, fun h => by cases h⟩

theorem over : Rows.ExtraCodesSaid :=
  OpenClaim.holds_of_wide 4 Tryd.f4 rfl rfl rfl rfl rfl rfl rfl ⟨rfl, rfl, rfl, rfl, rfl⟩ rfl rfl rfl rfl rfl (by kernel_rfl) Tryd.func4 (by kernel_rfl)
    (of_decide_eq_true (by kernel_rfl)) (by unfold Func.isWrapper; first | (rw [if_pos (by decide +kernel)]; kernel_rfl) | (rw [if_neg (by decide +kernel)]; exact ⟨rfl, rfl⟩))
    (fun os started H enc _ => lifted os started H enc)
end Go.Proofs.YtfhgkkdbkbbpkaaDoor.extraCodes
namespace Go.Proofs.YtfhgkkdbkbbpkaaDoor
theorem extraCodes_card : Rows.ExtraCodesCardSaid :=
  Claim7.holds_tied_plain_at .later [] _ _ _ _ extraCodes.over (fun _ h => by cases h) (by kernel_rfl) (fun _ h => by cases h) extraCodes_row_tie rfl ⟨rfl, rfl⟩ (by kernel_rfl) rfl
    (fun f fn hf hfn => by
      obtain rfl : f = 4 := Option.some.inj ((show Tryd.prog.funcNamed Rows.extraCodesRow.func = some 4 by kernel_rfl).symm.trans hf) |>.symm
      obtain rfl : fn = Tryd.f4 := (Option.some.inj (Tryd.func4.symm.trans hfn)).symm
      exact ⟨by kernel_rfl, fun j t ht => by
        rw [Tryd.params4] at ht
        have hm : t ∈ [31, 9] := by simpa using Array.mem_of_getElem? ht
        have hall : ([31, 9].all fun u => !Tryd.prog.wantsStandIn u) = true := by kernel_rfl
        exact (show Tryd.prog.wantsStandIn t = false by simpa using List.all_eq_true.1 hall t hm)⟩)
    (by kernel_rfl)
#print axioms extraCodes_card
end Go.Proofs.YtfhgkkdbkbbpkaaDoor
