/-
  For every address and every byte: what is written is read as it was, also with blanks around it, and it is a plain one if it has no name; no condition but what the row lists.
-/
import Derived.Test.YtedbgjpjipblcaaDoorCards
import Derived.Test.YtedbgjpjipblcaaDoorTie
import Derived.Test.YtedbgjpjipblcaaDoorBmath
import Derived.WalkKit
import Derived.ProofKit
import Derived.OpenShut
import Derived.ShutString
import Derived.ChangeOld
import Derived.Below
import Derived.LaidMore
import Derived.Lay
import Derived.SevenTiedAt
import Derived.Stop.Joined
namespace Go.Proofs.YtedbgjpjipblcaaDoor.addrBack
open Go.ChangeShapes Go.WideShapes Go.ChangeAt Go.RowKit
open Go.ChangeMaps (open_string shut_string)
set_option linter.unusedVariables false

theorem and3_all : ∀ c : Fin 256, 0 ≤ bits BinOp.and .u8 (c.val : Int) 3 ∧ bits BinOp.and .u8 (c.val : Int) 3 ≤ 3 := by decide +kernel
theorem and3 {c : Int} (h0 : 0 ≤ c) (h1 : c < 256) : 0 ≤ bits BinOp.and .u8 c 3 ∧ bits BinOp.and .u8 c 3 ≤ 3 := by
  have := and3_all ⟨c.toNat, by omega⟩
  simpa [Int.toNat_of_nonneg h0] using this
theorem pad_blank (p : Nat) : Blk (nums ((⟨#[32, 32, 32]⟩ : ByteArray).extract 0 p)) := by
  intro x hx
  rw [nums_to] at hx
  have : x ∈ nums (⟨#[32, 32, 32]⟩ : ByteArray) := List.mem_of_mem_take hx
  have e : nums (⟨#[32, 32, 32]⟩ : ByteArray) = [32, 32, 32] := rfl
  rw [e] at this
  simp at this
  omega
set_option maxHeartbeats 8000000 in
set_option maxRecDepth 100000 in
theorem walk (n l d : ByteArray) (bl : Int) (w : World) (ha : IsA n l d) (hwf : (Lit.int .u8 bl).wf = true) :
    Calls Tryd.prog 4 #[.agg #[.string n, .string l, .string d], .int .u8 bl] w fun e w' => e = .returned (.bool true) ∧ Below w.heap.size w w' := by
  obtain ⟨z1, z2, z3⟩ := ha
  have hbl := bounds_u8 hwf
  obtain ⟨hp0, hp3⟩ := and3 (c := bl) (by omega) (by omega)
  have HP : Hid (0 ≤ bits BinOp.and .u8 bl 3 ∧ bits BinOp.and .u8 bl 3 ≤ 3) := ⟨hp0, hp3⟩
  clear hp0 hp3
  have hlong := long_any n l d (w.alloc (.cells #[.string n, .string l, .string d] 24)) z1 z2 z3
  unfold addrV at hlong
  go_enter Tryd.func4, Tryd.ntmps4
  go_wp2_with fail
  refine hlong.mono ?_
  clear hlong
  rintro e w1 ⟨rfl, hb1⟩
  have HA1 : Hid (AAt w1 w.heap.size n l d) := (aat_new w n l d).below hb1
  have HB1 : Hid (Below w.heap.size w w1) := (keep w _).trans (hb1.mono (by simp))
  clear hb1
  cases hq1 : (decide (1000 < n.size + l.size) || decide (1000 < d.size)) with
  | true =>
    go_wp2_with (go_at_call 7; refine (alive_any _).mono ?_; rintro e w2 ⟨rfl, hb2⟩)
    go_ret
    exact ⟨rfl, HB1.out.trans (hb2.mono HB1.out.size)⟩
  | false =>
  simp only [Bool.or_eq_false_iff, decide_eq_false_iff_not] at hq1
  have hwr := write_any n l d w1 (by omega) (by omega) (by omega)
  unfold addrV at hwr
  obtain ⟨_, x0, x1, x2⟩ := HA1.out
  go_wp2_with fail
  refine hwr.mono ?_
  clear hwr x0 x1 x2
  rintro e w2 ⟨x, cc, rfl, hb2, hwa⟩
  have HA2 : Hid (AAt w2 w.heap.size n l d) := HA1.out.below hb2
  have HB2 : Hid (Below w.heap.size w w2) := HB1.out.trans (hb2.mono HB1.out.size)
  clear hb2 HA1
  cases hrz : rightZ (nums n) (nums l) (nums d) with
  | false =>
    obtain ⟨rfl, rfl⟩ := hwa.2 hrz
    clear hwa
    go_wp2_with fail
    refine (alive_any _).mono ?_
    rintro e w3 ⟨rfl, hb3⟩
    have HB3 : Hid (Below w.heap.size w w3) := HB2.out.trans (hb3.mono HB2.out.size)
    have hright := right_any n l d w3 (by omega) (by omega) (by omega)
    rw [hrz] at hright
    unfold addrV at hright
    obtain ⟨_, x0, x1, x2⟩ := HA2.out.below hb3
    clear hb3
    go_wp2_with (go_at_call 14; refine hright.mono ?_; rintro e w4 ⟨rfl, hb4⟩)
    go_ret
    exact ⟨rfl, HB3.out.trans (hb4.mono HB3.out.size)⟩
  | true =>
    obtain ⟨hx, rfl⟩ := hwa.1 hrz
    have HRZ : Hid (rightZ (nums n) (nums l) (nums d) = true) := hrz
    have hxl := write_len hrz
    rw [← hx, nums_len] at hxl
    have HX : Hid (nums x = writeL (nums n) (nums l) (nums d)) := hx
    obtain ⟨p, hp⟩ : ∃ p : Int, bits BinOp.and .u8 bl 3 = p := ⟨_, rfl⟩
    obtain ⟨hp0, hp3⟩ := HP.out
    rw [hp] at hp0 hp3
    have HPB : Hid (Blk (nums ((⟨#[32, 32, 32]⟩ : ByteArray).extract 0 p.toNat))) := pad_blank _
    have hps : ((⟨#[32, 32, 32]⟩ : ByteArray).extract 0 p.toNat).size ≤ 3 := by
      rw [← nums_len, nums_to, List.length_take]; have : (nums (⟨#[32, 32, 32]⟩ : ByteArray)).length = 3 := rfl; omega
    clear hx hrz hwa HP
    go_wp2_with fail
    generalize (⟨#[32, 32, 32]⟩ : ByteArray).extract 0 p.toNat = pd at HPB hps ⊢
    have hread := read_any (pd ++ x ++ pd) w2 (by simp only [ByteArray.size_append]; omega)
    unfold RPost at hread
    have he : nums (pd ++ x ++ pd) = nums pd ++ writeL (nums n) (nums l) (nums d) ++ nums pd := by rw [nums_append, nums_append, HX.out]
    rw [he, read_back HPB.out HRZ.out] at hread
    clear he hp
    (try go_wp2_with fail)
    refine hread.mono ?_
    clear hread
    rintro e w3 ⟨n3, l3, d3, c3, rfl, hb3, hans, _⟩
    rcases hans with ⟨rfl, h⟩ | ⟨_, _, _, _, h⟩
    case inr => cases h
    simp only [Option.some.injEq, Prod.mk.injEq] at h
    obtain ⟨e1, e2, e3⟩ := h
    obtain rfl := nums_inj e1
    obtain rfl := nums_inj e2
    obtain rfl := nums_inj e3
    have HA3 : Hid (AAt (w3.alloc (.cells #[.string n, .string l, .string d] 24)) w.heap.size n l d) := (HA2.out.below hb3).below (keep w3 _)
    have HC3 : Hid (AAt (w3.alloc (.cells #[.string n, .string l, .string d] 24)) w3.heap.size n l d) := aat_new w3 n l d
    have HB3 : Hid (Below w.heap.size w (w3.alloc (.cells #[.string n, .string l, .string d] 24))) := (HB2.out.trans (hb3.mono HB2.out.size)).alloc (HB2.out.trans (hb3.mono HB2.out.size)).size _
    clear e1 e2 e3 hb3 HA2
    unfold addrV
    obtain ⟨_, x0, x1, x2⟩ := HA3.out
    obtain ⟨_, y0, y1, y2⟩ := HC3.out
    go_wp2_with fail
    generalize w3.alloc (.cells #[.string n, .string l, .string d] 24) = W at HA3 HC3 HB3 x0 x1 x2 y0 y1 y2 ⊢
    refine (plain_any x W (by omega)).mono ?_
    clear x0 x1 x2 y0 y1 y2 HC3
    rintro e w4 ⟨n4, l4, d4, c4, rfl, hb4, hpa⟩
    obtain ⟨rfl, hpr⟩ := plain_R hpa
    have HA4 : Hid (AAt w4 w.heap.size n l d) := HA3.out.below hb4
    have HB4 : Hid (Below w.heap.size w w4) := HB3.out.trans (hb4.mono HB3.out.size)
    have hs4 := HB4.out.size
    have he := empty_list n
    clear hpa hb4
    unfold addrV
    by_cases h0 : n.size = 0
    · obtain rfl : n = ⟨#[]⟩ := nums_inj (nums_e h0)
      have hw : plainR (nums x) = some (nums l, nums d) := by
        rw [HX.out]; exact write_nil HRZ.out
      rw [hw] at hpr
      rcases hpr with ⟨rfl, hpr, _⟩ | ⟨_, _, _, hpr⟩
      case inr => cases hpr
      simp only [Option.some.injEq, Prod.mk.injEq] at hpr
      obtain ⟨e1, e2⟩ := hpr
      obtain rfl := nums_inj e1
      obtain rfl := nums_inj e2
      have HC4 : Hid (AAt (w4.alloc (.cells #[.string ⟨#[]⟩, .string l, .string d] 24)) w4.heap.size ⟨#[]⟩ l d) := aat_new w4 _ l d
      clear e1 e2 hw he h0
      go_wp2_with fail
      refine (alive_any _).mono ?_
      rintro e w5 ⟨rfl, hb5⟩
      obtain ⟨_, x0, x1, x2⟩ := (HA4.out.below (keep w4 _)).below hb5
      obtain ⟨_, y0, y1, y2⟩ := HC4.out.below hb5
      have HB5 : Hid (Below w.heap.size w w5) := (HB4.out.alloc hs4 _).trans (hb5.mono (by simp; omega))
      clear hb5
      go_wp2
      go_ret
      exact ⟨rfl, HB5.out⟩
    · rw [decide_eq_false h0] at he
      have he2 : ¬ n.toList = [] := by simpa using he
      have hw : plainR (nums x) = none := by
        rw [HX.out]; exact write_plain HRZ.out (fun q => h0 (by rw [← nums_len, q]; rfl))
      rw [hw] at hpr
      rcases hpr with ⟨_, hpr, _⟩ | ⟨rfl, rfl, rfl, _⟩
      · cases hpr
      clear hw
      go_wp2_with fail
      refine (alive_any _).mono ?_
      rintro e w5 ⟨rfl, hb5⟩
      obtain ⟨_, x0, x1, x2⟩ := (HA4.out.below (keep w4 _)).below hb5
      have HB5 : Hid (Below w.heap.size w w5) := (HB4.out.alloc hs4 _).trans (hb5.mono (by simp; omega))
      clear hb5
      go_wp2
      go_ret
      exact ⟨rfl, HB5.out⟩

set_option maxRecDepth 100000 in
theorem lifted (os : Os) (started : os.Started) (H : Type) (enc : TypeId × Value → H) :
    ReturnsInHanded {} Tryd.checked os 4 .any (fun w args => (Rows.addrBackSpec.pre enc Tryd.prog Tryd.f4 Rows.addrBackRow.domain false w args ∧ laidMetH Tryd.prog Rows.addrBackRow.laid w) ∧ sizedMet enc Tryd.prog Tryd.f4 (OpenSpec.ofChange Rows.addrBackSpec) false w args)
      (Rows.addrBackSpec.post enc Tryd.prog Tryd.f4 false true false false) := by
  refine returnsInHanded_of_change_and (C := Tryd.checked) (X := fun w _ => laidMetH Tryd.prog Rows.addrBackRow.laid w) (fun _ _ _ hh h => h.of_heap hh) own started (by kernel_rfl) Tryd.func4
    (ChangeSpec.witness_shaped (enc := enc) (C := Tryd.checked) (os := os) (X := fun w _ => laidMetH Tryd.prog Rows.addrBackRow.laid w) false (World.laidAll Tryd.prog os Rows.addrBackRow.laid) #[.agg #[.string ⟨#[]⟩, .string ⟨#[]⟩, .string ⟨#[]⟩], .int .u8 0] 8 (World.laidAll_os _ _ _)
      (World.shaped_of_ZipB (by kernel_rfl) (by kernel_rfl)) (by kernel_rfl) (by kernel_rfl) (by kernel_rfl)
      (by rw [MakeChecks.laidMetH_plain _ _ _ (by kernel_rfl)]; exact laidMet_laidAll _ (by kernel_rfl) (by kernel_rfl))) ?_
  intro W base args ds gs before hval0 hW hcnd hsz0 hL _
  have hval : ∀ (j : Nat) t v, Tryd.f4.params[j]? = some t → args[j]? = some v → Value.okWide Tryd.prog W .any base t v := hval0
  have hsz : (DataW.weightsEach Tryd.prog (Tryd.f4.params.toList ++ Rows.addrBackSpec.plain.varTypes Tryd.prog) (ds ++ gs)).all (· ≤ reachBytes) = true := hsz0
  have hW' := hW
  obtain ⟨p, q, hA0, hV, rfl, hfz, hnd⟩ := hW
  have hA : DataW.TrodAll enc Tryd.prog W 0 (fun _ => true) true Tryd.f4.params.toList args.toList ds p := hA0
  rw [Tryd.params4] at hA hval hsz
  obtain ⟨v0, vs0, d0, ds0, p0, q0, hargs, rfl, rfl, h0, r0⟩ := trodAll_cons hA
  obtain ⟨v1, vs1, d1, ds1, p1, q1, rfl, rfl, rfl, h1, r1⟩ := trodAll_cons r0
  obtain ⟨rfl, rfl, rfl⟩ := trodAll_nil r1
  obtain rfl : args = #[v0, v1] := by cases args; simp_all
  obtain ⟨rfl, rfl⟩ := trodVars_none hV
  have k0 := h0
  have lt0 : ∀ x ∈ p0, x.block < W.heap.size := by obtain ⟨m, hm⟩ := k0; exact DataW.trod_lt m _ _ _ hm
  obtain ⟨n0, l0, e0, rfl, w0⟩ := addr_arg (hval 0 24 v0 rfl rfl) h0 (fun n hn => by simpa using List.all_eq_true.1 hsz n (DataW.weights_mem_each (j := 0) rfl rfl n hn))
  have k1 := h1
  have lt1 : ∀ x ∈ p1, x.block < W.heap.size := by obtain ⟨m, hm⟩ := k1; exact DataW.trod_lt m _ _ _ hm
  obtain ⟨a1, rfl, _, _, w1⟩ := open_int Tryd.underlying5 (hval 1 5 v1 rfl rfl) h1
  clear hA0 hval0
  refine (walk n0 l0 e0 a1 W w0 w1).mono fun e W' ⟨he, bel⟩ => ?_
  subst he
  exact ⟨_, rfl, _, _, _, [], _, [], hW', trodAll_mk1 (shut_bool Tryd.underlying4 _), (trodAll_cons_mk (Below.trod laidOut (by kernel_rfl) (of_decide_eq_true (by kernel_rfl)) k0 bel lt0) (trodAll_cons_mk (Below.trod laidOut (by kernel_rfl) (of_decide_eq_true (by kernel_rfl)) k1 bel lt1) trodAll_mk0)), rfl, bel.frame _, fun h => by cases h⟩

theorem over : Rows.AddrBackSaid :=
  OpenClaim.holds_of_wide 4 Tryd.f4 rfl rfl rfl rfl rfl rfl rfl ⟨rfl, rfl, rfl, rfl, rfl⟩ rfl rfl rfl rfl rfl (by kernel_rfl) Tryd.func4 (by kernel_rfl)
    (of_decide_eq_true (by kernel_rfl)) (by unfold Func.isWrapper; first | (rw [if_pos (by decide +kernel)]; kernel_rfl) | (rw [if_neg (by decide +kernel)]; exact ⟨rfl, rfl⟩))
    (fun os started H enc _ => lifted os started H enc)
end Go.Proofs.YtedbgjpjipblcaaDoor.addrBack
namespace Go.Proofs.YtedbgjpjipblcaaDoor
theorem addrBack_card : Rows.AddrBackCardSaid :=
  Claim7.holds_tied_plain_at .later [] _ _ _ _ addrBack.over (fun _ h => by cases h) (by kernel_rfl) (fun _ h => by cases h) addrBack_row_tie rfl ⟨rfl, rfl⟩ (by kernel_rfl) rfl
    (fun f fn hf hfn => by
      obtain rfl : f = 4 := Option.some.inj ((show Tryd.prog.funcNamed Rows.addrBackRow.func = some 4 by kernel_rfl).symm.trans hf) |>.symm
      obtain rfl : fn = Tryd.f4 := (Option.some.inj (Tryd.func4.symm.trans hfn)).symm
      exact ⟨by kernel_rfl, fun j t ht => by
        rw [Tryd.params4] at ht
        have hm : t ∈ [24, 5] := by simpa using Array.mem_of_getElem? ht
        have hall : ([24, 5].all fun u => !Tryd.prog.wantsStandIn u) = true := by kernel_rfl
        exact (show Tryd.prog.wantsStandIn t = false by simpa using List.all_eq_true.1 hall t hm)⟩)
    (by kernel_rfl)
#print axioms addrBack_card
end Go.Proofs.YtedbgjpjipblcaaDoor
