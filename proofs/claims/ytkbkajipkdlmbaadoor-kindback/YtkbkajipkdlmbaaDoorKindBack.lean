/-
  For every kind and every byte: what is written of a kind is read as it was, also with blanks and tabs around it and a sign 59 more; no condition but what the row lists.
-/
import Derived.Test.YtkbkajipkdlmbaaDoorCards
import Derived.Test.YtkbkajipkdlmbaaDoorTie
import Derived.Test.YtkbkajipkdlmbaaDoorArgs
import Derived.WalkKit
import Derived.ProofKit
import Derived.OpenShut
import Derived.ShutString
import Derived.ChangeOld
import Derived.Below
import Derived.LaidMore
import Derived.Lay
import Derived.SevenTiedAt
import Derived.Stop.Joined
namespace Go.Proofs.YtkbkajipkdlmbaaDoor.kindBack
open Go.ChangeShapes Go.WideShapes Go.ChangeAt Go.RowKit
open Go.ChangeMaps (open_string shut_string)
set_option linter.unusedVariables false

/-- A kind lies in block g. -/
def At (w : World) (g : Nat) (ty sub : ByteArray) (a : Option Addr) (n c : Nat) : Prop := g < w.heap.size ∧ w.cell? ⟨g, 0, none⟩ = some (.string ty) ∧ w.cell? ⟨g, 1, none⟩ = some (.string sub) ∧ w.cell? ⟨g, 2, none⟩ = some (.slice a n c)
theorem At.below {w w' : World} {g : Nat} {ty sub : ByteArray} {a : Option Addr} {n c : Nat} (h : At w g ty sub a n c) (hb : Below w.heap.size w w') : At w' g ty sub a n c :=
  ⟨Nat.lt_of_lt_of_le h.1 hb.size, (hb.cell (p := ⟨g, 0, none⟩) h.1).trans h.2.1, (hb.cell (p := ⟨g, 1, none⟩) h.1).trans h.2.2.1, (hb.cell (p := ⟨g, 2, none⟩) h.1).trans h.2.2.2⟩
theorem at_new (w : World) (ty sub : ByteArray) (a : Option Addr) (n c : Nat) : At (w.alloc (.cells #[.string ty, .string sub, .slice a n c] 24)) w.heap.size ty sub a n c := by
  refine ⟨by simp, ?_, ?_, ?_⟩ <;> (rw [World.cell?_alloc_mark]; rfl)
theorem and3_all : ∀ c : Fin 256, 0 ≤ bits BinOp.and .u8 (c.val : Int) 3 ∧ bits BinOp.and .u8 (c.val : Int) 3 ≤ 3 := by decide +kernel
theorem and3 {c : Int} (h0 : 0 ≤ c) (h1 : c < 256) : 0 ≤ bits BinOp.and .u8 c 3 ∧ bits BinOp.and .u8 c 3 ≤ 3 := by
  have := and3_all ⟨c.toNat, by omega⟩
  simpa [Int.toNat_of_nonneg h0] using this
theorem pad_blank (p : Nat) : Blank (nums ((⟨#[32, 9, 32]⟩ : ByteArray).extract 0 p)) := by
  intro x hx
  rw [nums_to] at hx
  have : x ∈ nums (⟨#[32, 9, 32]⟩ : ByteArray) := List.mem_of_mem_take hx
  have e : nums (⟨#[32, 9, 32]⟩ : ByteArray) = [32, 9, 32] := rfl
  rw [e] at this
  simp at this
  omega
set_option maxHeartbeats 4000000 in
set_option maxRecDepth 100000 in
theorem walk (t s : ByteArray) (a : Option Addr) (len cap : Nat) (z : List (ByteArray × ByteArray)) (bl : Int) (w : World) (hk : IsK w t s a len z) (hwf : (Lit.int .u8 bl).wf = true) :
    Calls Tryd.prog 5 #[.agg #[.string t, .string s, .slice a len cap], .int .u8 bl] w fun e w' => e = .returned (.bool true) ∧ Below w.heap.size w w' := by
  obtain ⟨rfl, hlen, hfr, hz1, hz2, hz3⟩ := hk
  have HF : Hid (FRow w a z) := hfr
  have hbl := bounds_u8 hwf
  obtain ⟨hp0, hp3⟩ := and3 (c := bl) (by omega) (by omega)
  have HP : Hid (0 ≤ bits BinOp.and .u8 bl 3 ∧ bits BinOp.and .u8 bl 3 ≤ 3) := ⟨hp0, hp3⟩
  clear hfr hp0 hp3
  have hgreat := great_any t s a z.length cap z (w.alloc (.cells #[.string t, .string s, .slice a z.length cap] 24)) rfl hlen (HF.out.below (keep w _)) hz1 hz2 hz3
  unfold kindV at hgreat
  go_enter Tryd.func5, Tryd.ntmps5
  go_wp2_with fail
  refine hgreat.mono ?_
  clear hgreat
  rintro e w1 ⟨rfl, hb1⟩
  have HA1 : Hid (At w1 w.heap.size t s a z.length cap) := (at_new w t s a z.length cap).below hb1
  have HB1 : Hid (Below w.heap.size w w1) := (keep w _).trans (hb1.mono (by simp))
  have HF1 : Hid (FRow w1 a z) := (HF.out.below (keep w _)).below hb1
  clear hb1 HF
  cases hg : greatZ t s z with
  | true =>
    go_wp2_with (go_at_call 9; refine (alive_any _).mono ?_; rintro e w2 ⟨rfl, hb2⟩)
    go_ret
    exact ⟨rfl, HB1.out.trans (hb2.mono HB1.out.size)⟩
  | false =>
    obtain ⟨q1, q2, q3⟩ := great_mem hg
    have y1 : t.size ≤ 1000000000 := by omega
    have y2 : s.size ≤ 1000000000 := by omega
    have Y3 : Hid (∀ f ∈ z, f.1.size ≤ 1000000000 ∧ f.2.size ≤ 1000000000) := fun f hf => by have := q3 f hf; omega
    have hwr := write_any t s a z.length cap z w1 rfl HF1.out y1 y2 Y3.out
    unfold kindV at hwr
    obtain ⟨_, x0, x1, x2⟩ := HA1.out
    clear hg q3 hz3
    go_wp2_with fail
    refine hwr.mono ?_
    clear hwr x0 x1 x2
    rintro e w2 ⟨x, cc, rfl, hb2, hwa⟩
    have HA2 : Hid (At w2 w.heap.size t s a z.length cap) := HA1.out.below hb2
    have HB2 : Hid (Below w.heap.size w w2) := HB1.out.trans (hb2.mono HB1.out.size)
    have HF2 : Hid (FRow w2 a z) := HF1.out.below hb2
    clear hb2 HA1 HF1
    cases hrz : rightZ (nums t) (nums s) (numsP z) with
    | false =>
      obtain ⟨rfl, rfl⟩ := hwa.2 hrz
      clear hwa
      go_wp2_with fail
      refine (alive_any _).mono ?_
      rintro e w3 ⟨rfl, hb3⟩
      have HA3 : Hid (At w3 w.heap.size t s a z.length cap) := HA2.out.below hb3
      have HB3 : Hid (Below w.heap.size w w3) := HB2.out.trans (hb3.mono HB2.out.size)
      have hright := right_any t s a z.length cap z w3 rfl (HF2.out.below hb3) y1 y2 Y3.out
      rw [hrz] at hright
      unfold kindV at hright
      obtain ⟨_, x0, x1, x2⟩ := HA3.out
      clear hb3
      go_wp2_with (go_at_call 14; refine hright.mono ?_; rintro e w4 ⟨rfl, hb4⟩)
      go_ret
      exact ⟨rfl, HB3.out.trans (hb4.mono HB3.out.size)⟩
    | true =>
      obtain ⟨hx, rfl⟩ := hwa.1 hrz
      have hxl := write_len hrz
      rw [← hx, nums_len] at hxl
      have HX : Hid (nums x = writeL (nums t) (nums s) (numsP z)) := hx
      have HRZ : Hid (rightZ (nums t) (nums s) (numsP z) = true) := hrz
      have hread := read_any x w2 (by omega)
      have hrb := read_back (P := []) (T := []) (fun _ hq => by cases hq) tail_nil hrz
      rw [List.nil_append, List.append_nil, ← hx] at hrb
      rw [hrb] at hread
      obtain ⟨p, hp⟩ : ∃ p : Int, bits BinOp.and .u8 bl 3 = p := ⟨_, rfl⟩
      obtain ⟨hp0, hp3⟩ := HP.out
      rw [hp] at hp0 hp3
      clear hrb hx hrz hwa HP
      go_wp2_with fail
      refine hread.mono ?_
      clear hread hp
      have HPB : Hid (Blank (nums ((⟨#[32, 9, 32]⟩ : ByteArray).extract 0 p.toNat))) := pad_blank _
      have hps : ((⟨#[32, 9, 32]⟩ : ByteArray).extract 0 p.toNat).size ≤ 3 := by
        rw [← nums_len, nums_to, List.length_take]; have : (nums (⟨#[32, 9, 32]⟩ : ByteArray)).length = 3 := rfl; omega
      generalize (⟨#[32, 9, 32]⟩ : ByteArray).extract 0 p.toNat = pd at HPB hps ⊢
      rintro e w3 ⟨ty3, sub3, a3, cap3, fs3, c3, rfl, hfr3, _, hb3, hans3⟩
      rcases hans3 with ⟨h, _⟩ | ⟨h, rfl⟩
      · cases h
      simp only [Option.some.injEq, Prod.mk.injEq] at h
      obtain ⟨hty, hsub, hqs⟩ := h
      obtain rfl := nums_inj hty
      obtain rfl := nums_inj hsub
      obtain rfl := numsP_inj hqs
      have HA3 : Hid (At (w3.alloc (.cells #[.string t, .string s, .slice a3 z.length cap3] 24)) w.heap.size t s a z.length cap) := (HA2.out.below hb3).below (keep w3 _)
      have HC3 : Hid (At (w3.alloc (.cells #[.string t, .string s, .slice a3 z.length cap3] 24)) w3.heap.size t s a3 z.length cap3) := at_new w3 t s a3 z.length cap3
      have HB3 : Hid (Below w.heap.size w (w3.alloc (.cells #[.string t, .string s, .slice a3 z.length cap3] 24))) := (HB2.out.trans (hb3.mono HB2.out.size)).alloc (HB2.out.trans (hb3.mono HB2.out.size)).size _
      have HF3 : Hid (FRow (w3.alloc (.cells #[.string t, .string s, .slice a3 z.length cap3] 24)) a z) := (HF2.out.below hb3).below (keep w3 _)
      have HG3 : Hid (FRow (w3.alloc (.cells #[.string t, .string s, .slice a3 z.length cap3] 24)) a3 z) := hfr3.below (keep w3 _)
      clear hb3 hty hsub hqs hfr3 HA2 HF2
      have hread := read_any (pd ++ x ++ pd ++ ⟨#[59]⟩ ++ pd) (w3.alloc (.cells #[.string t, .string s, .slice a3 z.length cap3] 24)) (by simp only [ByteArray.size_append]; have : (⟨#[59]⟩ : ByteArray).size = 1 := rfl; omega)
      have hrb := read_back HPB.out (tail_pad HPB.out) HRZ.out
      have he : nums (pd ++ x ++ pd ++ ⟨#[59]⟩ ++ pd) = nums pd ++ (writeL (nums t) (nums s) (numsP z) ++ (nums pd ++ 59 :: nums pd)) := by
        rw [nums_append, nums_append, nums_append, nums_append, HX.out]
        have : nums (⟨#[59]⟩ : ByteArray) = [59] := rfl
        rw [this]; simp
      rw [he, hrb] at hread
      clear hrb he
      unfold kindV
      have h59 : (⟨#[59]⟩ : ByteArray).size = 1 := rfl
      go_wp2_with fail
      refine hread.mono ?_
      clear hread
      rintro e w4 ⟨ty4, sub4, a4, cap4, fs4, c4, rfl, hfr4, _, hb4, hans4⟩
      rcases hans4 with ⟨h, _⟩ | ⟨h, rfl⟩
      · cases h
      simp only [Option.some.injEq, Prod.mk.injEq] at h
      obtain ⟨hty, hsub, hqs⟩ := h
      obtain rfl := nums_inj hty
      obtain rfl := nums_inj hsub
      obtain rfl := numsP_inj hqs
      have HA4 : Hid (At (w4.alloc (.cells #[.string t, .string s, .slice a4 z.length cap4] 24)) w.heap.size t s a z.length cap) := (HA3.out.below hb4).below (keep w4 _)
      have HC4 : Hid (At (w4.alloc (.cells #[.string t, .string s, .slice a4 z.length cap4] 24)) w3.heap.size t s a3 z.length cap3) := (HC3.out.below hb4).below (keep w4 _)
      have HD4 : Hid (At (w4.alloc (.cells #[.string t, .string s, .slice a4 z.length cap4] 24)) w4.heap.size t s a4 z.length cap4) := at_new w4 t s a4 z.length cap4
      have HB4 : Hid (Below w.heap.size w (w4.alloc (.cells #[.string t, .string s, .slice a4 z.length cap4] 24))) := (HB3.out.trans (hb4.mono HB3.out.size)).alloc (HB3.out.trans (hb4.mono HB3.out.size)).size _
      have HF4 : Hid (FRow (w4.alloc (.cells #[.string t, .string s, .slice a4 z.length cap4] 24)) a z) := (HF3.out.below hb4).below (keep w4 _)
      have HG4 : Hid (FRow (w4.alloc (.cells #[.string t, .string s, .slice a4 z.length cap4] 24)) a3 z) := (HG3.out.below hb4).below (keep w4 _)
      have HH4 : Hid (FRow (w4.alloc (.cells #[.string t, .string s, .slice a4 z.length cap4] 24)) a4 z) := hfr4.below (keep w4 _)
      clear hb4 hty hsub hqs hfr4 HA3 HC3 HF3 HG3
      unfold kindV
      go_wp2_with fail
      refine (alive_any _).mono ?_
      rintro e w5 ⟨rfl, hb5⟩
      have hsame := same_any t s t s a3 a cap3 cap z z w5 rfl rfl rfl (by omega) (HG4.out.below hb5) (HF4.out.below hb5)
      have HA5 : Hid (At w5 w.heap.size t s a z.length cap) := HA4.out.below hb5
      have HD5 : Hid (At w5 w4.heap.size t s a4 z.length cap4) := HD4.out.below hb5
      have HF5 : Hid (FRow w5 a z) := HF4.out.below hb5
      have HH5 : Hid (FRow w5 a4 z) := HH4.out.below hb5
      obtain ⟨_, c0, c1, c2⟩ := HC4.out.below hb5
      obtain ⟨_, x0, x1, x2⟩ := HA5.out
      have HB5 : Hid (Below w.heap.size w w5) := HB4.out.trans (hb5.mono HB4.out.size)
      unfold kindV at hsame
      clear hb5 HA4 HC4 HD4 HF4 HG4 HH4
      go_wp2_with fail
      refine hsame.mono ?_
      clear hsame x0 x1 x2 c0 c1 c2
      rintro e w6 ⟨rfl, hb6⟩
      have hsame := same_any t s t s a4 a cap4 cap z z w6 rfl rfl rfl (by omega) (HH5.out.below hb6) (HF5.out.below hb6)
      obtain ⟨_, c0, c1, c2⟩ := HD5.out.below hb6
      obtain ⟨_, x0, x1, x2⟩ := HA5.out.below hb6
      have HB6 : Hid (Below w.heap.size w w6) := HB5.out.trans (hb6.mono HB5.out.size)
      unfold kindV at hsame
      clear hb6
      go_wp2_with (go_at_call 19; refine hsame.mono ?_; rintro e w7 ⟨rfl, hb7⟩)
      go_ret
      exact ⟨rfl, HB6.out.trans (hb7.mono HB6.out.size)⟩

set_option maxRecDepth 100000 in
theorem lifted (os : Os) (started : os.Started) (H : Type) (enc : TypeId × Value → H) :
    ReturnsInHanded {} Tryd.checked os 5 .any (fun w args => (Rows.kindBackSpec.pre enc Tryd.prog Tryd.f5 Rows.kindBackRow.domain false w args ∧ laidMetH Tryd.prog Rows.kindBackRow.laid w) ∧ sizedMet enc Tryd.prog Tryd.f5 (OpenSpec.ofChange Rows.kindBackSpec) false w args)
      (Rows.kindBackSpec.post enc Tryd.prog Tryd.f5 false true false false) := by
  refine returnsInHanded_of_change_and (C := Tryd.checked) (X := fun w _ => laidMetH Tryd.prog Rows.kindBackRow.laid w) (fun _ _ _ hh h => h.of_heap hh) own started (by kernel_rfl) Tryd.func5
    (ChangeSpec.witness_shaped (enc := enc) (C := Tryd.checked) (os := os) (X := fun w _ => laidMetH Tryd.prog Rows.kindBackRow.laid w) false (World.laidAll Tryd.prog os Rows.kindBackRow.laid) #[.agg #[.string ⟨#[]⟩, .string ⟨#[]⟩, .slice none 0 0], .int .u8 0] 8 (World.laidAll_os _ _ _)
      (World.shaped_of_ZipB (by kernel_rfl) (by kernel_rfl)) (by kernel_rfl) (by kernel_rfl) (by kernel_rfl)
      (by rw [MakeChecks.laidMetH_plain _ _ _ (by kernel_rfl)]; exact laidMet_laidAll _ (by kernel_rfl) (by kernel_rfl))) ?_
  intro W base args ds gs before hval0 hW hcnd hsz0 hL _
  have hval : ∀ (j : Nat) t v, Tryd.f5.params[j]? = some t → args[j]? = some v → Value.okWide Tryd.prog W .any base t v := hval0
  have hsz : (DataW.weightsEach Tryd.prog (Tryd.f5.params.toList ++ Rows.kindBackSpec.plain.varTypes Tryd.prog) (ds ++ gs)).all (· ≤ reachBytes) = true := hsz0
  have hW' := hW
  obtain ⟨p, q, hA0, hV, rfl, hfz, hnd⟩ := hW
  have hA : DataW.TrodAll enc Tryd.prog W 0 (fun _ => true) true Tryd.f5.params.toList args.toList ds p := hA0
  rw [Tryd.params5] at hA hval hsz
  obtain ⟨v0, vs0, d0, ds0, p0, q0, hargs, rfl, rfl, h0, r0⟩ := trodAll_cons hA
  obtain ⟨v1, vs1, d1, ds1, p1, q1, rfl, rfl, rfl, h1, r1⟩ := trodAll_cons r0
  obtain ⟨rfl, rfl, rfl⟩ := trodAll_nil r1
  obtain rfl : args = #[v0, v1] := by cases args; simp_all
  obtain ⟨rfl, rfl⟩ := trodVars_none hV
  have k0 := h0
  have lt0 : ∀ x ∈ p0, x.block < W.heap.size := by obtain ⟨m, hm⟩ := k0; exact DataW.trod_lt m _ _ _ hm
  obtain ⟨t0, s0, a0, len0, cap0, z0, rfl, w0⟩ := kind_arg (hval 0 24 v0 rfl rfl) h0 (fun n hn => by simpa using List.all_eq_true.1 hsz n (DataW.weights_mem_each (j := 0) rfl rfl n hn))
  have k1 := h1
  have lt1 : ∀ x ∈ p1, x.block < W.heap.size := by obtain ⟨m, hm⟩ := k1; exact DataW.trod_lt m _ _ _ hm
  obtain ⟨a1, rfl, _, _, w1⟩ := open_int Tryd.underlying5 (hval 1 5 v1 rfl rfl) h1
  clear hA0 hval0
  refine (walk t0 s0 a0 len0 cap0 z0 a1 W w0 w1).mono fun e W' ⟨he, bel⟩ => ?_
  subst he
  exact ⟨_, rfl, _, _, _, [], _, [], hW', trodAll_mk1 (shut_bool Tryd.underlying4 _), (trodAll_cons_mk (Below.trod laidOut (by kernel_rfl) (of_decide_eq_true (by kernel_rfl)) k0 bel lt0) (trodAll_cons_mk (Below.trod laidOut (by kernel_rfl) (of_decide_eq_true (by kernel_rfl)) k1 bel lt1) trodAll_mk0)), rfl, bel.frame _, fun h => by cases h⟩

theorem over : Rows.KindBackSaid :=
  OpenClaim.holds_of_wide 5 Tryd.f5 rfl rfl rfl rfl rfl rfl rfl ⟨rfl, rfl, rfl, rfl, rfl⟩ rfl rfl rfl rfl rfl (by kernel_rfl) Tryd.func5 (by kernel_rfl)
    (of_decide_eq_true (by kernel_rfl)) (by unfold Func.isWrapper; first | (rw [if_pos (by decide +kernel)]; kernel_rfl) | (rw [if_neg (by decide +kernel)]; exact ⟨rfl, rfl⟩))
    (fun os started H enc _ => lifted os started H enc)
end Go.Proofs.YtkbkajipkdlmbaaDoor.kindBack
namespace Go.Proofs.YtkbkajipkdlmbaaDoor
theorem kindBack_card : Rows.KindBackCardSaid :=
  Claim7.holds_tied_plain_at .later [] _ _ _ _ kindBack.over (fun _ h => by cases h) (by kernel_rfl) (fun _ h => by cases h) kindBack_row_tie rfl ⟨rfl, rfl⟩ (by kernel_rfl) rfl
    (fun f fn hf hfn => by
      obtain rfl : f = 5 := Option.some.inj ((show Tryd.prog.funcNamed Rows.kindBackRow.func = some 5 by kernel_rfl).symm.trans hf) |>.symm
      obtain rfl : fn = Tryd.f5 := (Option.some.inj (Tryd.func5.symm.trans hfn)).symm
      exact ⟨by kernel_rfl, fun j t ht => by
        rw [Tryd.params5] at ht
        have hm : t ∈ [24, 5] := by simpa using Array.mem_of_getElem? ht
        have hall : ([24, 5].all fun u => !Tryd.prog.wantsStandIn u) = true := by kernel_rfl
        exact (show Tryd.prog.wantsStandIn t = false by simpa using List.all_eq_true.1 hall t hm)⟩)
    (by kernel_rfl)
#print axioms kindBack_card
end Go.Proofs.YtkbkajipkdlmbaaDoor
