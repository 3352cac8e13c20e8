/-
  For every number and every text the law WhenTimes returns true (times are written, and any text is read as one, or is none, as the document's own answer has it), and both read as before: no condition but the listed tables, which are tied to the program's text.
-/
import Derived.Test.YtkamnphiocoebaaDoorCards
import Derived.Test.YtkamnphiocoebaaDoorTie
import Derived.Test.YtkamnphiocoebaaDoorLa
import Derived.Test.YtkamnphiocoebaaDoorRv
import Derived.WalkKit
import Derived.ProofKit
import Derived.OpenShut
import Derived.ShutString
import Derived.ChangeOld
import Derived.Below
import Derived.LaidMore
import Derived.Lay
import Derived.SevenTiedAt
import Derived.Stop.Joined
namespace Go.Proofs.YtkamnphiocoebaaDoor.whenTimes
open Go.ChangeShapes Go.WideShapes Go.ChangeAt Go.RowKit
open Go.ChangeMaps (open_string shut_string)
set_option linter.unusedVariables false

/-- Every number has its day. -/
theorem year_ex (n : Int) (h0 : 0 ≤ n) (h1 : n ≤ 2932896) : ∃ y, 1970 ≤ y ∧ y ≤ 9999 ∧ ysZ y ≤ n ∧ n < ysZ (y + 1) := by
  have key : ∀ k : Nat, (k : Int) ≤ 8029 → n < ysZ (1970 + k + 1) → ∃ y, 1970 ≤ y ∧ y ≤ 9999 ∧ ysZ y ≤ n ∧ n < ysZ (y + 1) := by
    intro k
    induction k with
    | zero => intro hk h; exact ⟨1970, by omega, by omega, by rw [ys_first]; exact h0, by simpa using h⟩
    | succ k ih =>
      intro hk h
      by_cases c : n < ysZ (1970 + k + 1)
      · exact ih (by omega) c
      · exact ⟨1970 + k + 1, by omega, by omega, by omega, by rw [show (1970 : Int) + k + 1 + 1 = 1970 + ((k + 1 : Nat) : Int) + 1 by omega]; exact h⟩
  exact key 8029 (by omega) (by rw [show (1970 : Int) + ((8029 : Nat) : Int) + 1 = 10000 from rfl, ys_last]; omega)
theorem month_ex (y k : Int) (h0 : 0 ≤ k) (h1 : k < yearZ y) : ∃ m, 1 ≤ m ∧ m ≤ 12 ∧ msZ y m ≤ k ∧ k < msZ y (m + 1) := by
  have key : ∀ j : Nat, (j : Int) ≤ 11 → k < msZ y (1 + j + 1) → ∃ m, 1 ≤ m ∧ m ≤ 12 ∧ msZ y m ≤ k ∧ k < msZ y (m + 1) := by
    intro j
    induction j with
    | zero => intro hj h; exact ⟨1, by omega, by omega, by rw [ms_first]; exact h0, by simpa using h⟩
    | succ j ih =>
      intro hj h
      by_cases c : k < msZ y (1 + j + 1)
      · exact ih (by omega) c
      · exact ⟨1 + j + 1, by omega, by omega, by omega, by rw [show (1 : Int) + j + 1 + 1 = 1 + ((j + 1 : Nat) : Int) + 1 by omega]; exact h⟩
  exact key 11 (by omega) (by rw [show (1 : Int) + ((11 : Nat) : Int) + 1 = 13 from rfl, ms_last]; exact h1)
theorem civ_ex (n : Int) (h0 : 0 ≤ n) (h1 : n ≤ 2932896) : ∃ y m d, Civ n y m d := by
  obtain ⟨y, a, b, c, d⟩ := year_ex n h0 h1
  rw [ys_next] at d
  obtain ⟨m, e, f, g, h⟩ := month_ex y (n - ysZ y) (by omega) (by omega)
  exact ⟨y, m, _, civ_mk n y m a c (by rw [ys_next]; omega) h1 e f g h⟩
/-- Both answers of Print are one. -/
theorem print_both (t : Int) (w : World) (h0 : -9223372036854775808 ≤ t) (h1 : t ≤ 9223372036854775807) (hA : Ah w) (hP : Pl w) :
    ∃ x E, (Calls Tryd.prog 16 #[.int .i64 t] w fun e w' => e = .returned (.tuple #[.string x, .int .i64 E]) ∧ Below w.heap.size w w') ∧
      ∀ v, Calls Tryd.prog 17 #[.int .i64 t] v fun e w' => e = .returned (.tuple #[.string x, .int .i64 E]) ∧ Below v.heap.size v w' := by
  cases ht : rightB t with
  | false =>
    refine ⟨⟨#[]⟩, 110, (print_no t w ht h0 h1).mono ?_, fun v => (rprint_no t v ht h0 h1).mono ?_⟩
    · rintro e w' ⟨rfl, rfl⟩; exact ⟨rfl, Below.refl _ _⟩
    · rintro e w' ⟨rfl, rfl⟩; exact ⟨rfl, Below.refl _ _⟩
  | true =>
    have ht2 : 0 ≤ t ∧ t < 253402300800 := by simpa [rightB] using ht
    obtain ⟨y, m, d, hc⟩ := civ_ex (t / 86400) (by omega) (by omega)
    refine ⟨strOfNums (timeL y m d t), 0, (print_yes t w ht hA hP).mono ?_, fun v => (rprint_yes t v ht).mono ?_⟩
    · rintro e w' ⟨⟨y', m', d', hc', rfl⟩, hb⟩
      obtain ⟨rfl, rfl, rfl⟩ := civ_one hc hc'
      exact ⟨rfl, hb⟩
    · rintro e w' ⟨⟨y', m', d', x, hc', rfl, hx⟩, hb⟩
      obtain ⟨rfl, rfl, rfl⟩ := civ_one hc hc'
      have : x = strOfNums (timeL y m d t) := by rw [← hx, str_nums]
      exact ⟨by rw [this], hb⟩
theorem parse_both (s : ByteArray) (w : World) (hs : s.size ≤ 9223372036854775807) (hA : Ah w) (hP : Pl w) :
    ∃ V E, (Calls Tryd.prog 18 #[.string s] w fun e w' => e = .returned (.tuple #[.int .i64 V, .int .i64 E]) ∧ Below w.heap.size w w') ∧
      ∀ v, Calls Tryd.prog 19 #[.string s] v fun e w' => e = .returned (.tuple #[.int .i64 V, .int .i64 E]) ∧ Below v.heap.size v w' := by
  by_cases hsz : s.size = 16
  · exact ⟨_, _, parse_yes s w hsz hA hP, fun v => rparse_yes s v hsz⟩
  · refine ⟨0, 110, (parse_size s w hsz hs).mono ?_, fun v => (rparse_size s v hsz hs).mono ?_⟩
    · rintro e w' ⟨rfl, rfl⟩; exact ⟨rfl, Below.refl _ _⟩
    · rintro e w' ⟨rfl, rfl⟩; exact ⟨rfl, Below.refl _ _⟩
set_option maxHeartbeats 2000000 in
theorem walk (t : Int) (s : ByteArray) (w : World) (ht0 : -9223372036854775808 ≤ t) (ht1 : t ≤ 9223372036854775807) (hs0 : s.size ≤ maxLen) (hA : Ah w) (hP : Pl w) (hT : Tb w) :
    Calls Tryd.prog 4 #[.int .i64 t, .string s] w fun e w' => e = .returned (.bool true) ∧ Below w.heap.size w w' := by
  have hs : s.size ≤ 9223372036854775807 := by unfold maxLen at hs0; omega
  have HA : Hid (Ah w) := hA
  have HP : Hid (Pl w) := hP
  have HT : Hid (Tb w) := hT
  have AL : Hid (∀ v, Below w.heap.size w v → Calls Tryd.prog 13 #[] v fun e w' => e = .returned (.bool true) ∧ Below w.heap.size w w') := fun v hb => by
    refine (alive_any v (hA.below hb) (hP.below hb) (hT.below hb)).mono ?_
    rintro e w' ⟨rfl, hb'⟩
    exact ⟨rfl, hb.trans (hb'.mono hb.size)⟩
  obtain ⟨x, E, c1, c2⟩ := print_both t w ht0 ht1 hA hP
  have C2 : Hid (∀ v, Calls Tryd.prog 17 #[.int .i64 t] v fun e w' => e = .returned (.tuple #[.string x, .int .i64 E]) ∧ Below v.heap.size v w') := c2
  clear hA hP hT hs0 c2
  go_enter Tryd.func4, Tryd.ntmps4
  go_wp2_with fail
  refine c1.mono ?_
  rintro e w1 ⟨rfl, hb1⟩
  have HB1 : Hid (Below w.heap.size w w1) := hb1
  clear hb1 c1
  go_wp2_with fail
  refine (C2.out w1).mono ?_
  rintro e w2 ⟨rfl, hb2⟩
  have HB2 : Hid (Below w.heap.size w w2) := HB1.out.trans (hb2.mono HB1.out.size)
  clear hb2
  obtain ⟨V, F, p1, p2⟩ := parse_both s w2 hs (HA.out.below HB2.out) (HP.out.below HB2.out)
  have P2 : Hid (∀ v, Calls Tryd.prog 19 #[.string s] v fun e w' => e = .returned (.tuple #[.int .i64 V, .int .i64 F]) ∧ Below v.heap.size v w') := p2
  clear p2
  go_wp2_with fail
  refine p1.mono ?_
  rintro e w3 ⟨rfl, hb3⟩
  have HB3 : Hid (Below w.heap.size w w3) := HB2.out.trans (hb3.mono HB2.out.size)
  clear hb3 p1
  go_wp2_with fail
  refine (P2.out w3).mono ?_
  rintro e w4 ⟨rfl, hb4⟩
  have HB4 : Hid (Below w.heap.size w w4) := HB3.out.trans (hb4.mono HB3.out.size)
  clear hb4
  go_wp2_with fail
  refine (AL.out w4 HB4.out).mono ?_
  rintro e w5 ⟨rfl, hb5⟩
  have HB5 : Hid (Below w.heap.size w w5) := hb5
  clear hb5
  go_wp2
  go_ret
  exact ⟨rfl, HB5.out⟩

set_option maxRecDepth 100000 in
theorem lifted (os : Os) (started : os.Started) (H : Type) (enc : TypeId × Value → H) :
    ReturnsInHanded {} Tryd.checked os 4 .any (fun w args => (Rows.whenTimesSpec.pre enc Tryd.prog Tryd.f4 Rows.whenTimesRow.domain false w args ∧ laidMetH Tryd.prog Rows.whenTimesRow.laid w) ∧ sizedMet enc Tryd.prog Tryd.f4 (OpenSpec.ofChange Rows.whenTimesSpec) false w args)
      (Rows.whenTimesSpec.post enc Tryd.prog Tryd.f4 false true false false) := by
  refine returnsInHanded_of_change_and (C := Tryd.checked) (X := fun w _ => laidMetH Tryd.prog Rows.whenTimesRow.laid w) (fun _ _ _ hh h => h.of_heap hh) own started (by kernel_rfl) Tryd.func4
    (ChangeSpec.witness_shaped (enc := enc) (C := Tryd.checked) (os := os) (X := fun w _ => laidMetH Tryd.prog Rows.whenTimesRow.laid w) false (World.laidAll Tryd.prog os Rows.whenTimesRow.laid) #[.int .i64 0, .string ⟨#[]⟩] 8 (World.laidAll_os _ _ _)
      (World.shaped_of_ZipB (by kernel_rfl) (by kernel_rfl)) (by kernel_rfl) (by kernel_rfl) (by kernel_rfl)
      (by rw [MakeChecks.laidMetH_plain _ _ _ (by kernel_rfl)]; exact laidMet_laidAll _ (by kernel_rfl) (by kernel_rfl))) ?_
  intro W base args ds gs before hval0 hW hcnd _ hL0 _
  have hL : laidMet Tryd.prog Rows.whenTimesRow.laid W := by
    have : laidMetH Tryd.prog Rows.whenTimesRow.laid W := hL0
    rwa [MakeChecks.laidMetH_plain _ _ _ (by kernel_rfl)] at this
  have hval : ∀ (j : Nat) t v, Tryd.f4.params[j]? = some t → args[j]? = some v → Value.okWide Tryd.prog W .any base t v := hval0
  have hW' := hW
  obtain ⟨p, q, hA0, hV, rfl, hfz, hnd⟩ := hW
  have hA : DataW.TrodAll enc Tryd.prog W 0 (fun _ => true) true Tryd.f4.params.toList args.toList ds p := hA0
  rw [Tryd.params4] at hA hval
  obtain ⟨v0, vs0, d0, ds0, p0, q0, hargs, rfl, rfl, h0, r0⟩ := trodAll_cons hA
  obtain ⟨v1, vs1, d1, ds1, p1, q1, rfl, rfl, rfl, h1, r1⟩ := trodAll_cons r0
  obtain ⟨rfl, rfl, rfl⟩ := trodAll_nil r1
  obtain rfl : args = #[v0, v1] := by cases args; simp_all
  obtain ⟨rfl, rfl⟩ := trodVars_none hV
  obtain ⟨a0, rfl, rfl, rfl, w0⟩ := open_int Tryd.underlying2 (hval 0 2 v0 rfl rfl) h0
  have b0 := bounds_i64 w0
  have k1 := h1
  have lt1 : ∀ x ∈ p1, x.block < W.heap.size := by obtain ⟨m, hm⟩ := k1; exact DataW.trod_lt m _ _ _ hm
  obtain ⟨s1, rfl, _, _, hs1⟩ := open_string Tryd.underlying9 (hval 1 9 v1 rfl rfl) h1
  clear hA0 hval0
  have t0 := laidMet.tail (laidMet.tail hL)
  have hT := pow_of t0
  have hAh := ahead_of (laidMet.tail t0)
  have hPl := places_of (laidMet.tail (laidMet.tail t0))

  simp only [List.append_nil] at hW'
  refine (walk a0 s1 W b0.1 b0.2 hs1 hAh hPl hT).mono fun e W' ⟨he, bel⟩ => ?_
  subst he
  exact ⟨_, rfl, _, _, _, [], _, [], hW', trodAll_mk1 (shut_bool Tryd.underlying4 _), (trodAll_cons_mk (shut_int Tryd.underlying2 w0) (trodAll_cons_mk (Below.trod laidOut (by kernel_rfl) (of_decide_eq_true (by kernel_rfl)) k1 bel lt1) trodAll_mk0)), rfl, bel.frame _, fun h => by cases h⟩

theorem over : Rows.WhenTimesSaid :=
  OpenClaim.holds_of_wide 4 Tryd.f4 rfl rfl rfl rfl rfl rfl rfl ⟨rfl, rfl, rfl, rfl, rfl⟩ rfl rfl rfl rfl rfl (by kernel_rfl) Tryd.func4 (by kernel_rfl)
    (of_decide_eq_true (by kernel_rfl)) (by unfold Func.isWrapper; first | (rw [if_pos (by decide +kernel)]; kernel_rfl) | (rw [if_neg (by decide +kernel)]; exact ⟨rfl, rfl⟩))
    (fun os started H enc _ => lifted os started H enc)
end Go.Proofs.YtkamnphiocoebaaDoor.whenTimes
namespace Go.Proofs.YtkamnphiocoebaaDoor
theorem whenTimes_card : Rows.WhenTimesCardSaid :=
  Claim7.holds_tied_plain_at .later [] _ _ _ _ whenTimes.over (fun _ h => by cases h) (by kernel_rfl) (fun _ h => by cases h) whenTimes_row_tie rfl ⟨rfl, rfl⟩ (by kernel_rfl) rfl
    (fun f fn hf hfn => by
      obtain rfl : f = 4 := Option.some.inj ((show Tryd.prog.funcNamed Rows.whenTimesRow.func = some 4 by kernel_rfl).symm.trans hf) |>.symm
      obtain rfl : fn = Tryd.f4 := (Option.some.inj (Tryd.func4.symm.trans hfn)).symm
      exact ⟨by kernel_rfl, fun j t ht => by
        rw [Tryd.params4] at ht
        have hm : t ∈ [2, 9] := by simpa using Array.mem_of_getElem? ht
        have hall : ([2, 9].all fun u => !Tryd.prog.wantsStandIn u) = true := by kernel_rfl
        exact (show Tryd.prog.wantsStandIn t = false by simpa using List.all_eq_true.1 hall t hm)⟩)
    (by kernel_rfl)
#print axioms whenTimes_card
end Go.Proofs.YtkamnphiocoebaaDoor
