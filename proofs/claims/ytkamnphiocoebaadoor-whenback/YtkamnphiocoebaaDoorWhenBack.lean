/-
  For every three numbers the law WhenBack returns true (times, days and lengths go there and back), and the numbers read as before: no condition but the listed tables, which are tied to the program's text.
-/
import Derived.Test.YtkamnphiocoebaaDoorCards
import Derived.Test.YtkamnphiocoebaaDoorTie
import Derived.Test.YtkamnphiocoebaaDoorLa
import Derived.WalkKit
import Derived.ProofKit
import Derived.OpenShut
import Derived.ShutString
import Derived.ChangeOld
import Derived.Below
import Derived.LaidMore
import Derived.Lay
import Derived.SevenTiedAt
import Derived.Stop.Joined
namespace Go.Proofs.YtkamnphiocoebaaDoor.whenBack
open Go.ChangeShapes Go.WideShapes Go.ChangeAt Go.RowKit
open Go.ChangeMaps (open_string shut_string)
set_option linter.unusedVariables false

theorem time_byt (y m d t : Int) : Byt (timeL y m d t) := by
  have h : ∀ n : Int, 0 ≤ 48 + n % 10 ∧ 48 + n % 10 < 256 := fun n => by omega
  intro x hx
  simp only [timeL, four, two, List.cons_append, List.nil_append, List.mem_cons, List.not_mem_nil, or_false] at hx
  rcases hx with rfl | rfl | rfl | rfl | rfl | rfl | rfl | rfl | rfl | rfl | rfl | rfl | rfl | rfl | rfl | rfl <;> first | exact h _ | omega
theorem back_time {t y m d : Int} (h0 : 0 ≤ t) (h : Civ (t / 86400) y m d) : pOK (timeL y m d t) = true ∧ pVal (timeL y m d t) = t := by
  have hcd := (day_iff _ _ _).1 h.hd
  have hm31 := (mon_ge y m hcd.2.2.1 hcd.2.2.2.1).2
  have e0 : numZ (timeL y m d t) 0 4 = y := by rw [num_year]; exact four_val y (by omega) (by omega)
  have e1 : numZ (timeL y m d t) 4 2 = m := by rw [num_month]; exact two_val m (by omega) (by omega)
  have e2 : numZ (timeL y m d t) 6 2 = d := by rw [num_day]; exact two_val d (by omega) (by omega)
  have e3 : numZ (timeL y m d t) 9 2 = t % 86400 / 3600 := by rw [num_hour]; exact two_val _ (by omega) (by omega)
  have e4 : numZ (timeL y m d t) 11 2 = t % 3600 / 60 := by rw [num_minute]; exact two_val _ (by omega) (by omega)
  have e5 : numZ (timeL y m d t) 13 2 = t % 60 := by rw [num_second]; exact two_val _ (by omega) (by omega)
  constructor
  · unfold pOK hourB
    rw [e0, e1, e2, e3, e4, e5, time_shape, h.hd]
    simp only [Bool.true_and, Bool.and_eq_true, decide_eq_true_eq]
    omega
  · unfold pVal
    rw [e0, e1, e2, e3, e4, e5, h.hn]
    omega
/-- The last part: lengths. -/
structure Facts (w : World) : Prop where
  a : Ah w
  p : Pl w
  t : Tb w
  c : Cs w
theorem Facts.below {w w' : World} (h : Facts w) (b : Below w.heap.size w w') : Facts w' := ⟨h.a.below b, h.p.below b, h.t.below b, h.c.below b⟩
theorem mode1 {n : Int} (h : -mostZ ≤ n ∧ n ≤ mostZ) : spanE n = 0 ∧ spanT n = spanL n := by unfold spanE spanT; rw [if_pos h, if_pos h]; exact ⟨rfl, rfl⟩
theorem mode2 {n : Int} (h : ¬ (-mostZ ≤ n ∧ n ≤ mostZ)) : spanE n = 110 := by unfold spanE; rw [if_neg h]
set_option maxHeartbeats 4000000 in
theorem walk (t k n : Int) (w : World) (ht0 : -9223372036854775808 ≤ t) (ht1 : t ≤ 9223372036854775807) (hk0 : -9223372036854775808 ≤ k) (hk1 : k ≤ 9223372036854775807) (hn0 : -9223372036854775808 ≤ n) (hn1 : n ≤ 9223372036854775807) (hA : Ah w) (hP : Pl w) (hT : Tb w) (hC : Cs w) :
    Calls Tryd.prog 6 #[.int .i64 t, .int .i64 k, .int .i64 n] w fun e w' => e = .returned (.bool true) ∧ Below w.heap.size w w' := by
  have HF : Hid (Facts w) := ⟨hA, hP, hT, hC⟩
  clear hA hP hT hC
  have AL : Hid (∀ v, Below w.heap.size w v → Calls Tryd.prog 13 #[] v fun e w' => e = .returned (.bool true) ∧ Below w.heap.size w w') := fun v hb => by
    have hf := HF.out.below hb
    refine (alive_any v hf.a hf.p hf.t).mono ?_
    rintro e w' ⟨rfl, hb'⟩
    exact ⟨rfl, hb.trans (hb'.mono hb.size)⟩
  have SP : Hid (∀ v, Below w.heap.size w v → Calls Tryd.prog 20 #[.int .i64 n] v fun e w' => ∃ x, e = .returned (.tuple #[.string x, .int .i64 (spanE n)]) ∧ (nums x = spanT n ∧ x.size ≤ 2000) ∧ Below w.heap.size w w') := fun v hb => by
    refine (span_any n v hn0 hn1 (HF.out.below hb).t).mono ?_
    rintro e w' ⟨x, rfl, hx, hb'⟩
    exact ⟨x, rfl, hx, hb.trans (hb'.mono hb.size)⟩
  cases ht : rightB t with
  | false =>
    have PT : Hid (Calls Tryd.prog 16 #[.int .i64 t] w fun e w' => e = .returned (.tuple #[.string ⟨#[]⟩, .int .i64 110]) ∧ w = w') := print_no t w ht ht0 ht1
    clear ht
    go_enter Tryd.func6, Tryd.ntmps6
    go_wp2_with fail
    refine PT.out.mono ?_
    rintro e w1 ⟨rfl, rfl⟩
    have HB1 : Hid (Below w.heap.size w w) := Below.refl _ _
    clear PT
    by_cases hd : 0 ≤ k ∧ k ≤ 2932896
    · have CY := civil_yes k w hd.1 hd.2 (HF.out.below HB1.out).a
      go_wp2_with fail
      refine CY.mono ?_
      rintro e w2 ⟨⟨y, m, d, hc, rfl⟩, rfl⟩
      have hcd := (day_iff _ _ _).1 hc.hd
      have hm31 := (mon_ge y m hcd.2.2.1 hcd.2.2.2.1).2
      have HD : Hid (Calls Tryd.prog 9 #[.int .i64 y, .int .i64 m, .int .i64 d] w fun e w' => e = .returned (.tuple #[.int .i64 k, .int .i64 0]) ∧ w = w') := by
        have := days_any y m d w (by omega) (by omega) (by omega) (by omega) (by omega) (by omega) (HF.out.below HB1.out).a
        unfold daysV daysE at this
        rw [if_pos hc.hd, if_pos hc.hd, hc.hn] at this
        exact this
      clear hc hcd hm31 CY hd
      go_wp2_with fail
      refine HD.out.mono ?_
      rintro e w2 ⟨rfl, rfl⟩
      have HB2 := HB1
      go_wp2_with fail
      refine (SP.out _ HB2.out).mono ?_
      rintro e w3 ⟨x, rfl, hx, hb3⟩
      have HB3 : Hid (Below w.heap.size w w3) := hb3
      have HX : Hid (nums x = spanT n ∧ x.size ≤ 2000) := hx
      clear hb3 hx
      by_cases hm : -mostZ ≤ n ∧ n ≤ mostZ
      · have hE := (mode1 hm).1
        have hxs : x.size ≤ 1000000000 := by have := HX.out.2; omega
        have HPS : Hid (Calls Tryd.prog 22 #[.string x] w3 fun e w' => e = .returned (.tuple #[.int .i64 n, .int .i64 0]) ∧ Below w3.heap.size w3 w') := by
          have := parseSpan_any x w3 hxs (HF.out.below HB3.out).c
          have e := span_back n hm.1 hm.2
          rw [HX.out.1, (mode1 hm).2, (ps_some e).1, (ps_some e).2] at this
          exact this
        rw [hE]
        clear hE hm HX
        go_wp2_with fail
        refine HPS.out.mono ?_
        rintro e w4 ⟨rfl, hb4⟩
        have HB4 : Hid (Below w.heap.size w w4) := HB3.out.trans (hb4.mono HB3.out.size)
        clear hb4
        go_wp2_with fail
        refine (AL.out _ HB4.out).mono ?_
        rintro e w5 ⟨rfl, hb5⟩
        have HB5 : Hid (Below w.heap.size w w5) := hb5
        clear hb5
        go_wp2
        go_ret
        exact ⟨rfl, HB5.out⟩
      · have hE := mode2 hm
        rw [hE]
        clear hE hm HX
        go_wp2_with fail
        refine (AL.out _ HB3.out).mono ?_
        rintro e w5 ⟨rfl, hb5⟩
        have HB5 : Hid (Below w.heap.size w w5) := hb5
        clear hb5
        go_wp2
        go_ret
        exact ⟨rfl, HB5.out⟩
    · have CN : Hid (Calls Tryd.prog 11 #[.int .i64 k] w fun e w' => e = .returned (.tuple #[.int .i64 0, .int .i64 0, .int .i64 0, .int .i64 110]) ∧ w = w') := civil_no k w (by omega) hk0 hk1
      clear hd
      go_wp2_with fail
      refine CN.out.mono ?_
      rintro e w2 ⟨rfl, rfl⟩
      have HB2 := HB1
      go_wp2_with fail
      refine (SP.out _ HB2.out).mono ?_
      rintro e w3 ⟨x, rfl, hx, hb3⟩
      have HB3 : Hid (Below w.heap.size w w3) := hb3
      have HX : Hid (nums x = spanT n ∧ x.size ≤ 2000) := hx
      clear hb3 hx
      by_cases hm : -mostZ ≤ n ∧ n ≤ mostZ
      · have hE := (mode1 hm).1
        have hxs : x.size ≤ 1000000000 := by have := HX.out.2; omega
        have HPS : Hid (Calls Tryd.prog 22 #[.string x] w3 fun e w' => e = .returned (.tuple #[.int .i64 n, .int .i64 0]) ∧ Below w3.heap.size w3 w') := by
          have := parseSpan_any x w3 hxs (HF.out.below HB3.out).c
          have e := span_back n hm.1 hm.2
          rw [HX.out.1, (mode1 hm).2, (ps_some e).1, (ps_some e).2] at this
          exact this
        rw [hE]
        clear hE hm HX
        go_wp2_with fail
        refine HPS.out.mono ?_
        rintro e w4 ⟨rfl, hb4⟩
        have HB4 : Hid (Below w.heap.size w w4) := HB3.out.trans (hb4.mono HB3.out.size)
        clear hb4
        go_wp2_with fail
        refine (AL.out _ HB4.out).mono ?_
        rintro e w5 ⟨rfl, hb5⟩
        have HB5 : Hid (Below w.heap.size w w5) := hb5
        clear hb5
        go_wp2
        go_ret
        exact ⟨rfl, HB5.out⟩
      · have hE := mode2 hm
        rw [hE]
        clear hE hm HX
        go_wp2_with fail
        refine (AL.out _ HB3.out).mono ?_
        rintro e w5 ⟨rfl, hb5⟩
        have HB5 : Hid (Below w.heap.size w w5) := hb5
        clear hb5
        go_wp2
        go_ret
        exact ⟨rfl, HB5.out⟩
  | true =>
    have PT := print_yes t w ht HF.out.a HF.out.p
    have ht' : 0 ≤ t := by simp [rightB] at ht; omega
    clear ht
    go_enter Tryd.func6, Tryd.ntmps6
    go_wp2_with fail
    refine PT.mono ?_
    rintro e w0 ⟨⟨y, m, d, hc, rfl⟩, hb0⟩
    have HB0 : Hid (Below w.heap.size w w0) := hb0
    have hbt := back_time ht' hc
    have hnt : nums (strOfNums (timeL y m d t)) = timeL y m d t := nums_str (time_byt y m d t)
    have hsz : (strOfNums (timeL y m d t)).size = 16 := by rw [← nums_len, hnt]; rfl
    have HP2 : Hid (Calls Tryd.prog 18 #[.string (strOfNums (timeL y m d t))] w0 fun e w' => e = .returned (.tuple #[.int .i64 t, .int .i64 0]) ∧ Below w0.heap.size w0 w') := by
      have := parse_yes (strOfNums (timeL y m d t)) w0 hsz (HF.out.below hb0).a (HF.out.below hb0).p
      rw [hnt] at this
      unfold pV pE at this
      rw [if_pos hbt.1, if_pos hbt.1, hbt.2] at this
      exact this
    clear hc hb0 hbt hnt PT
    generalize strOfNums (timeL y m d t) = x0 at hsz HP2
    go_wp2_with fail
    refine HP2.out.mono ?_
    rintro e w1 ⟨rfl, hb1⟩
    have HB1 : Hid (Below w.heap.size w w1) := HB0.out.trans (hb1.mono HB0.out.size)
    clear hb1 HP2 HB0
    by_cases hd : 0 ≤ k ∧ k ≤ 2932896
    · have CY := civil_yes k w1 hd.1 hd.2 (HF.out.below HB1.out).a
      go_wp2_with fail
      refine CY.mono ?_
      rintro e w2 ⟨⟨y, m, d, hc, rfl⟩, rfl⟩
      have hcd := (day_iff _ _ _).1 hc.hd
      have hm31 := (mon_ge y m hcd.2.2.1 hcd.2.2.2.1).2
      have HD : Hid (Calls Tryd.prog 9 #[.int .i64 y, .int .i64 m, .int .i64 d] w1 fun e w' => e = .returned (.tuple #[.int .i64 k, .int .i64 0]) ∧ w1 = w') := by
        have := days_any y m d w1 (by omega) (by omega) (by omega) (by omega) (by omega) (by omega) (HF.out.below HB1.out).a
        unfold daysV daysE at this
        rw [if_pos hc.hd, if_pos hc.hd, hc.hn] at this
        exact this
      clear hc hcd hm31 CY hd
      go_wp2_with fail
      refine HD.out.mono ?_
      rintro e w2 ⟨rfl, rfl⟩
      have HB2 := HB1
      go_wp2_with fail
      refine (SP.out _ HB2.out).mono ?_
      rintro e w3 ⟨x, rfl, hx, hb3⟩
      have HB3 : Hid (Below w.heap.size w w3) := hb3
      have HX : Hid (nums x = spanT n ∧ x.size ≤ 2000) := hx
      clear hb3 hx
      by_cases hm : -mostZ ≤ n ∧ n ≤ mostZ
      · have hE := (mode1 hm).1
        have hxs : x.size ≤ 1000000000 := by have := HX.out.2; omega
        have HPS : Hid (Calls Tryd.prog 22 #[.string x] w3 fun e w' => e = .returned (.tuple #[.int .i64 n, .int .i64 0]) ∧ Below w3.heap.size w3 w') := by
          have := parseSpan_any x w3 hxs (HF.out.below HB3.out).c
          have e := span_back n hm.1 hm.2
          rw [HX.out.1, (mode1 hm).2, (ps_some e).1, (ps_some e).2] at this
          exact this
        rw [hE]
        clear hE hm HX
        go_wp2_with fail
        refine HPS.out.mono ?_
        rintro e w4 ⟨rfl, hb4⟩
        have HB4 : Hid (Below w.heap.size w w4) := HB3.out.trans (hb4.mono HB3.out.size)
        clear hb4
        go_wp2_with fail
        refine (AL.out _ HB4.out).mono ?_
        rintro e w5 ⟨rfl, hb5⟩
        have HB5 : Hid (Below w.heap.size w w5) := hb5
        clear hb5
        go_wp2
        go_ret
        exact ⟨rfl, HB5.out⟩
      · have hE := mode2 hm
        rw [hE]
        clear hE hm HX
        go_wp2_with fail
        refine (AL.out _ HB3.out).mono ?_
        rintro e w5 ⟨rfl, hb5⟩
        have HB5 : Hid (Below w.heap.size w w5) := hb5
        clear hb5
        go_wp2
        go_ret
        exact ⟨rfl, HB5.out⟩
    · have CN : Hid (Calls Tryd.prog 11 #[.int .i64 k] w1 fun e w' => e = .returned (.tuple #[.int .i64 0, .int .i64 0, .int .i64 0, .int .i64 110]) ∧ w1 = w') := civil_no k w1 (by omega) hk0 hk1
      clear hd
      go_wp2_with fail
      refine CN.out.mono ?_
      rintro e w2 ⟨rfl, rfl⟩
      have HB2 := HB1
      go_wp2_with fail
      refine (SP.out _ HB2.out).mono ?_
      rintro e w3 ⟨x, rfl, hx, hb3⟩
      have HB3 : Hid (Below w.heap.size w w3) := hb3
      have HX : Hid (nums x = spanT n ∧ x.size ≤ 2000) := hx
      clear hb3 hx
      by_cases hm : -mostZ ≤ n ∧ n ≤ mostZ
      · have hE := (mode1 hm).1
        have hxs : x.size ≤ 1000000000 := by have := HX.out.2; omega
        have HPS : Hid (Calls Tryd.prog 22 #[.string x] w3 fun e w' => e = .returned (.tuple #[.int .i64 n, .int .i64 0]) ∧ Below w3.heap.size w3 w') := by
          have := parseSpan_any x w3 hxs (HF.out.below HB3.out).c
          have e := span_back n hm.1 hm.2
          rw [HX.out.1, (mode1 hm).2, (ps_some e).1, (ps_some e).2] at this
          exact this
        rw [hE]
        clear hE hm HX
        go_wp2_with fail
        refine HPS.out.mono ?_
        rintro e w4 ⟨rfl, hb4⟩
        have HB4 : Hid (Below w.heap.size w w4) := HB3.out.trans (hb4.mono HB3.out.size)
        clear hb4
        go_wp2_with fail
        refine (AL.out _ HB4.out).mono ?_
        rintro e w5 ⟨rfl, hb5⟩
        have HB5 : Hid (Below w.heap.size w w5) := hb5
        clear hb5
        go_wp2
        go_ret
        exact ⟨rfl, HB5.out⟩
      · have hE := mode2 hm
        rw [hE]
        clear hE hm HX
        go_wp2_with fail
        refine (AL.out _ HB3.out).mono ?_
        rintro e w5 ⟨rfl, hb5⟩
        have HB5 : Hid (Below w.heap.size w w5) := hb5
        clear hb5
        go_wp2
        go_ret
        exact ⟨rfl, HB5.out⟩

set_option maxRecDepth 100000 in
theorem lifted (os : Os) (started : os.Started) (H : Type) (enc : TypeId × Value → H) :
    ReturnsInHanded {} Tryd.checked os 6 .any (fun w args => (Rows.whenBackSpec.pre enc Tryd.prog Tryd.f6 Rows.whenBackRow.domain false w args ∧ laidMetH Tryd.prog Rows.whenBackRow.laid w) ∧ sizedMet enc Tryd.prog Tryd.f6 (OpenSpec.ofChange Rows.whenBackSpec) false w args)
      (Rows.whenBackSpec.post enc Tryd.prog Tryd.f6 false true false false) := by
  refine returnsInHanded_of_change_and (C := Tryd.checked) (X := fun w _ => laidMetH Tryd.prog Rows.whenBackRow.laid w) (fun _ _ _ hh h => h.of_heap hh) own started (by kernel_rfl) Tryd.func6
    (ChangeSpec.witness_shaped (enc := enc) (C := Tryd.checked) (os := os) (X := fun w _ => laidMetH Tryd.prog Rows.whenBackRow.laid w) false (World.laidAll Tryd.prog os Rows.whenBackRow.laid) #[.int .i64 0, .int .i64 0, .int .i64 0] 8 (World.laidAll_os _ _ _)
      (World.shaped_of_ZipB (by kernel_rfl) (by kernel_rfl)) (by kernel_rfl) (by kernel_rfl) (by kernel_rfl)
      (by rw [MakeChecks.laidMetH_plain _ _ _ (by kernel_rfl)]; exact laidMet_laidAll _ (by kernel_rfl) (by kernel_rfl))) ?_
  intro W base args ds gs before hval0 hW hcnd _ hL0 _
  have hL : laidMet Tryd.prog Rows.whenBackRow.laid W := by
    have : laidMetH Tryd.prog Rows.whenBackRow.laid W := hL0
    rwa [MakeChecks.laidMetH_plain _ _ _ (by kernel_rfl)] at this
  have hval : ∀ (j : Nat) t v, Tryd.f6.params[j]? = some t → args[j]? = some v → Value.okWide Tryd.prog W .any base t v := hval0
  have hW' := hW
  obtain ⟨p, q, hA0, hV, rfl, hfz, hnd⟩ := hW
  have hA : DataW.TrodAll enc Tryd.prog W 0 (fun _ => true) true Tryd.f6.params.toList args.toList ds p := hA0
  rw [Tryd.params6] at hA hval
  obtain ⟨v0, vs0, d0, ds0, p0, q0, hargs, rfl, rfl, h0, r0⟩ := trodAll_cons hA
  obtain ⟨v1, vs1, d1, ds1, p1, q1, rfl, rfl, rfl, h1, r1⟩ := trodAll_cons r0
  obtain ⟨v2, vs2, d2, ds2, p2, q2, rfl, rfl, rfl, h2, r2⟩ := trodAll_cons r1
  obtain ⟨rfl, rfl, rfl⟩ := trodAll_nil r2
  obtain rfl : args = #[v0, v1, v2] := by cases args; simp_all
  obtain ⟨rfl, rfl⟩ := trodVars_none hV
  obtain ⟨a0, rfl, rfl, rfl, w0⟩ := open_int Tryd.underlying2 (hval 0 2 v0 rfl rfl) h0
  have b0 := bounds_i64 w0
  obtain ⟨a1, rfl, rfl, rfl, w1⟩ := open_int Tryd.underlying2 (hval 1 2 v1 rfl rfl) h1
  have b1 := bounds_i64 w1
  obtain ⟨a2, rfl, rfl, rfl, w2⟩ := open_int Tryd.underlying2 (hval 2 2 v2 rfl rfl) h2
  have b2 := bounds_i64 w2
  clear hA0 hval0
  have t0 := laidMet.tail (laidMet.tail hL)
  have hT := pow_of t0
  have hAh := ahead_of (laidMet.tail t0)
  have hPl := places_of (laidMet.tail (laidMet.tail t0))
  have hCs := sizes_of (laidMet.tail (laidMet.tail (laidMet.tail t0)))
  simp only [List.append_nil] at hW'
  refine (walk a0 a1 a2 W b0.1 b0.2 b1.1 b1.2 b2.1 b2.2 hAh hPl hT hCs).mono fun e W' ⟨he, bel⟩ => ?_
  subst he
  exact ⟨_, rfl, _, _, _, [], _, [], hW', trodAll_mk1 (shut_bool Tryd.underlying4 _), (trodAll_cons_mk (shut_int Tryd.underlying2 w0) (trodAll_cons_mk (shut_int Tryd.underlying2 w1) (trodAll_cons_mk (shut_int Tryd.underlying2 w2) trodAll_mk0))), rfl, bel.frame _, fun h => by cases h⟩

theorem over : Rows.WhenBackSaid :=
  OpenClaim.holds_of_wide 6 Tryd.f6 rfl rfl rfl rfl rfl rfl rfl ⟨rfl, rfl, rfl, rfl, rfl⟩ rfl rfl rfl rfl rfl (by kernel_rfl) Tryd.func6 (by kernel_rfl)
    (of_decide_eq_true (by kernel_rfl)) (by unfold Func.isWrapper; first | (rw [if_pos (by decide +kernel)]; kernel_rfl) | (rw [if_neg (by decide +kernel)]; exact ⟨rfl, rfl⟩))
    (fun os started H enc _ => lifted os started H enc)
end Go.Proofs.YtkamnphiocoebaaDoor.whenBack
namespace Go.Proofs.YtkamnphiocoebaaDoor
theorem whenBack_card : Rows.WhenBackCardSaid :=
  Claim7.holds_tied_plain_at .later [] _ _ _ _ whenBack.over (fun _ h => by cases h) (by kernel_rfl) (fun _ h => by cases h) whenBack_row_tie rfl ⟨rfl, rfl⟩ (by kernel_rfl) rfl
    (fun f fn hf hfn => by
      obtain rfl : f = 6 := Option.some.inj ((show Tryd.prog.funcNamed Rows.whenBackRow.func = some 6 by kernel_rfl).symm.trans hf) |>.symm
      obtain rfl : fn = Tryd.f6 := (Option.some.inj (Tryd.func6.symm.trans hfn)).symm
      exact ⟨by kernel_rfl, fun j t ht => by
        rw [Tryd.params6] at ht
        have hm : t ∈ [2, 2, 2] := by simpa using Array.mem_of_getElem? ht
        have hall : ([2, 2, 2].all fun u => !Tryd.prog.wantsStandIn u) = true := by kernel_rfl
        exact (show Tryd.prog.wantsStandIn t = false by simpa using List.all_eq_true.1 hall t hm)⟩)
    (by kernel_rfl)
#print axioms whenBack_card
end Go.Proofs.YtkamnphiocoebaaDoor
