/-
  Lengths are read: the contracts of length and ParseSpan.
-/
import Derived.Test.YtkamnphiocoebaaDoorCk
namespace Go.Proofs.YtkamnphiocoebaaDoor
open Go.RowKit
set_option linter.unusedVariables false

theorem sign_yes {c : Int} {l : List Int} (h : signB c l = true) : l = c :: signR c l := by
  cases l with
  | nil => cases h
  | cons d r =>
    have e : d = c := by simpa [signB] using h
    subst e
    unfold signR; rw [if_pos h]; rfl
theorem sign_not {c : Int} {l : List Int} (h : signB c l = false) : (∀ r, l ≠ c :: r) ∧ signR c l = l := by
  refine ⟨fun r e => ?_, ?_⟩
  · rw [e] at h; simp [signB] at h
  · unfold signR; rw [if_neg (by rw [h]; simp)]
/-- What is behind a number. -/
def tailR (n : Int) (d : List Int) : Option (Int × List Int) :=
  match d with
  | 87 :: r => some (n * 604800, r)
  | 68 :: 84 :: r => (clockZ r).map fun k => (n * 86400 + k, [])
  | 68 :: r => some (n * 86400, r)
  | _ => none
theorem lenR_other (l : List Int) (h : ∀ r, l ≠ 84 :: r) : lenR l = if (digR 10 0 l).2 = 0 then none else tailR (digR 10 0 l).1 (l.drop (digR 10 0 l).2) := by
  conv => lhs; unfold lenR
  split
  · rename_i r; exact absurd rfl (h r)
  · rfl
theorem tail_W (n : Int) (r : List Int) : tailR n (87 :: r) = some (n * 604800, r) := rfl
theorem tail_DT (n : Int) (r : List Int) : tailR n (68 :: 84 :: r) = (clockZ r).map fun k => (n * 86400 + k, []) := rfl
theorem tail_D (n : Int) (r : List Int) (h : ∀ q, r ≠ 84 :: q) : tailR n (68 :: r) = some (n * 86400, r) := by
  unfold tailR
  split
  · rename_i e; injection e with a _; omega
  · rename_i q e; injection e with _ b; exact absurd b (h q)
  · rename_i e; injection e with _ b; rw [b]
  · rename_i a b c; exact absurd rfl (c r)
theorem tail_no (n : Int) (d : List Int) (h1 : ∀ q, d ≠ 87 :: q) (h2 : ∀ q, d ≠ 68 :: q) : tailR n d = none := by
  unfold tailR
  split
  · rename_i q; exact absurd rfl (h1 q)
  · rename_i q; exact absurd rfl (h2 _)
  · rename_i q _; exact absurd rfl (h2 q)
  · rfl
/-- What length answers. -/
def LAns (l : List Int) (v : Int) (b : Bool) (t : ByteArray) : Prop := (b = true → lengthR l = some (v, nums t)) ∧ (b = false → lengthR l = none) ∧ 0 ≤ v ∧ v ≤ 10000000000000000
theorem lengthR_P (r : List Int) : lengthR (80 :: r) = lenR r := rfl
theorem lengthR_no (l : List Int) (h : ∀ r, l ≠ 80 :: r) : lengthR l = none := by
  unfold lengthR
  split
  · rename_i r; exact absurd rfl (h r)
  · rfl
set_option maxHeartbeats 4000000 in
theorem length_any (g : Nat) (s : ByteArray) (w : World) (h : Rs w g s) (hs : s.size ≤ 1000000000) (hC : Cs w) (hg : 2 < g) :
    Calls Tryd.prog 37 #[.pointer (some ⟨g, 0, none⟩)] w fun e w' => ∃ v b t', e = .returned (.tuple #[.int .i64 v, .bool b]) ∧ LAns (nums s) v b t' ∧ Rs w' g t' ∧ Kx g w w' := by
  have HC : Hid (Cs w) := hC
  have HP : Hid (Calls Tryd.prog 36 #[.pointer (some ⟨g, 0, none⟩), .int .u8 80] w fun e w' => e = .returned (.bool (signB 80 (nums s))) ∧ ∃ t', Rs w' g t' ∧ nums t' = signR 80 (nums s) ∧ Kx g w w') := sign_any g 80 s w h
  clear hC h
  cases hb0 : signB 80 (nums s) with
  | false =>
    rw [hb0] at HP
    have HN : Hid (lengthR (nums s) = none) := lengthR_no _ (sign_not hb0).1
    clear hb0
    go_enter Tryd.func37, Tryd.ntmps37
    go_wp2_with fail
    refine HP.out.mono ?_
    rintro e w1 ⟨rfl, t1, hr1, ht1, hk1⟩
    have HR1 : Hid (Rs w1 g t1) := hr1
    have HK1 : Hid (Kx g w w1) := hk1
    clear hr1 ht1 hk1
    go_wp2
    go_ret2
    exact ⟨0, false, t1, rfl, ⟨fun q => (by cases q), fun _ => HN.out, by omega, by omega⟩, HR1.out, HK1.out⟩
  | true =>
    rw [hb0] at HP
    have hl0 := sign_yes hb0
    clear hb0
    go_enter Tryd.func37, Tryd.ntmps37
    go_wp2_with fail
    refine HP.out.mono ?_
    rintro e w1 ⟨rfl, t1, hr1, ht1, hk1⟩
    rw [← ht1] at hl0
    have HL0 : Hid (lengthR (nums s) = lenR (nums t1)) := by unfold Hid; rw [hl0]; rfl
    have hz1 : t1.size ≤ 1000000000 := by
      have := congrArg List.length hl0
      rw [List.length_cons, nums_len, nums_len] at this; omega
    have HR1 : Hid (Rs w1 g t1) := hr1
    have HK1 : Hid (Kx g w w1) := hk1
    have HC1 : Hid (Cs w1) := HC.out.kx hk1 hg
    have HT : Hid (Calls Tryd.prog 36 #[.pointer (some ⟨g, 0, none⟩), .int .u8 84] w1 fun e w' => e = .returned (.bool (signB 84 (nums t1))) ∧ ∃ t', Rs w' g t' ∧ nums t' = signR 84 (nums t1) ∧ Kx g w1 w') := sign_any g 84 t1 w1 hr1
    clear hr1 ht1 hk1 hl0 HP HC
    cases hb1 : signB 84 (nums t1) with
    | true =>
      rw [hb1] at HT
      have hl1 := sign_yes hb1
      clear hb1
      go_wp2_with fail
      refine HT.out.mono ?_
      rintro e w2 ⟨rfl, t2, hr2, ht2, hk2⟩
      rw [← ht2] at hl1
      have HL1 : Hid (lengthR (nums s) = (clockZ (nums t2)).map fun n => (n, [])) := by unfold Hid; rw [HL0.out, hl1]; rfl
      have hz2 : t2.size ≤ 1000000000 := by
        have := congrArg List.length hl1
        rw [List.length_cons, nums_len, nums_len] at this; omega
      have HK2 : Hid (Kx g w w2) := HK1.out.trans hk2
      have HCK := rclock_any g t2 w2 hr2 hz2 (HC1.out.kx hk2 hg) hg
      clear hr2 ht2 hk2 hl1
      go_wp2_with fail
      refine HCK.mono ?_
      rintro e w3 ⟨rfl, t3, hr3, ht3, hk3, hv0, hv1⟩
      have HR3 : Hid (Rs w3 g t3) := hr3
      have HK3 : Hid (Kx g w w3) := HK2.out.trans hk3
      have HA : Hid (LAns (nums s) (clockV (nums t2)) (clockB (nums t2)) t3) := by
        refine ⟨fun q => ?_, fun q => ?_, hv0, by omega⟩
        · rw [HL1.out, ht3 q]
          unfold clockB at q; unfold clockV
          cases hh : clockZ (nums t2) with
          | none => rw [hh] at q; cases q
          | some n => rfl
        · rw [HL1.out]
          unfold clockB at q
          cases hh : clockZ (nums t2) with
          | none => rfl
          | some n => rw [hh] at q; cases q
      clear hr3 ht3 hk3 HCK
      generalize clockV (nums t2) = cv at *
      generalize clockB (nums t2) = cb at *
      go_wp2
      go_ret2
      exact ⟨cv, cb, t3, rfl, HA.out, HR3.out, HK3.out⟩
    | false =>
      rw [hb1] at HT
      have hl1 := sign_not hb1
      have hL := lenR_other (nums t1) hl1.1
      clear hb1
      go_wp2_with fail
      refine HT.out.mono ?_
      rintro e w2 ⟨rfl, t2, hr2, ht2, hk2⟩
      rw [hl1.2] at ht2
      have HL1 : Hid (lengthR (nums s) = if (digR 10 0 (nums t2)).2 = 0 then none else tailR (digR 10 0 (nums t2)).1 ((nums t2).drop (digR 10 0 (nums t2)).2)) := by
        unfold Hid; rw [HL0.out, hL, ht2]
      have hz2 : t2.size ≤ 1000000000 := by
        have := congrArg List.length ht2
        rw [nums_len, nums_len] at this; omega
      have HK2 : Hid (Kx g w w2) := HK1.out.trans hk2
      have HC2 : Hid (Cs w2) := HC1.out.kx hk2 hg
      have hnum := number_any g t2 w2 hr2 hz2
      have hv := num_lt (nums t2)
      have hdl : ((nums t2).drop (digR 10 0 (nums t2)).2).length ≤ 1000000000 := by rw [List.length_drop, nums_len]; omega
      clear hr2 ht2 hk2 hl1 hL HT HL0 HC1
      generalize (digR 10 0 (nums t2)).1 = n at *
      generalize (digR 10 0 (nums t2)).2 = k at *
      by_cases hk0 : k = 0
      · subst hk0
        have HN : Hid (lengthR (nums s) = none) := by unfold Hid; rw [HL1.out, if_pos rfl]
        go_wp2_with fail
        refine hnum.mono ?_
        rintro e w3 ⟨rfl, t3, hr3, ht3, hk3⟩
        have HR3 : Hid (Rs w3 g t3) := hr3
        have HK3 : Hid (Kx g w w3) := HK2.out.trans hk3
        clear hr3 ht3 hk3 hnum HL1
        go_wp2
        go_ret2
        exact ⟨0, false, t3, rfl, ⟨fun q => (by cases q), fun _ => HN.out, by omega, by omega⟩, HR3.out, HK3.out⟩
      · have hkd : decide (0 < k) = true := by simp; omega
        rw [hkd] at hnum
        have HL2 : Hid (lengthR (nums s) = tailR n ((nums t2).drop k)) := by unfold Hid; rw [HL1.out, if_neg hk0]
        clear HL1 hkd
        go_wp2_with fail
        refine hnum.mono ?_
        rintro e w3 ⟨rfl, t3, hr3, ht3, hk3⟩
        rw [← ht3] at HL2 hdl
        have hz3 : t3.size ≤ 1000000000 := by rw [nums_len] at hdl; exact hdl
        have HK3 : Hid (Kx g w w3) := HK2.out.trans hk3
        have HC3 : Hid (Cs w3) := HC2.out.kx hk3 hg
        have HW : Hid (Calls Tryd.prog 36 #[.pointer (some ⟨g, 0, none⟩), .int .u8 87] w3 fun e w' => e = .returned (.bool (signB 87 (nums t3))) ∧ ∃ t', Rs w' g t' ∧ nums t' = signR 87 (nums t3) ∧ Kx g w3 w') := sign_any g 87 t3 w3 hr3
        clear hr3 ht3 hk3 hnum hdl HC2
        cases hb3 : signB 87 (nums t3) with
        | true =>
          rw [hb3] at HW
          have hl3 := sign_yes hb3
          clear hb3
          go_wp2_with fail
          refine HW.out.mono ?_
          rintro e w4 ⟨rfl, t4, hr4, ht4, hk4⟩
          rw [← ht4] at hl3
          have HN : Hid (lengthR (nums s) = some (n * 604800, nums t4)) := by unfold Hid; rw [HL2.out, hl3]; rfl
          have HR4 : Hid (Rs w4 g t4) := hr4
          have HK4 : Hid (Kx g w w4) := HK3.out.trans hk4
          clear hr4 ht4 hk4 hl3
          go_wp2
          go_ret2
          exact ⟨n * 604800, true, t4, rfl, ⟨fun _ => HN.out, fun q => (by cases q), by omega, by omega⟩, HR4.out, HK4.out⟩
        | false =>
          rw [hb3] at HW
          have hl3 := sign_not hb3
          clear hb3
          go_wp2_with fail
          refine HW.out.mono ?_
          rintro e w4 ⟨rfl, t4, hr4, ht4, hk4⟩
          rw [hl3.2] at ht4
          have HN4 : Hid (∀ q, nums t4 ≠ 87 :: q) := by unfold Hid; rw [ht4]; exact hl3.1
          have HL4 : Hid (lengthR (nums s) = tailR n (nums t4)) := by unfold Hid; rw [HL2.out, ht4]
          have hz4 : t4.size ≤ 1000000000 := by
            have := congrArg List.length ht4
            rw [nums_len, nums_len] at this; omega
          have HK4 : Hid (Kx g w w4) := HK3.out.trans hk4
          have HC4 : Hid (Cs w4) := HC3.out.kx hk4 hg
          have HD : Hid (Calls Tryd.prog 36 #[.pointer (some ⟨g, 0, none⟩), .int .u8 68] w4 fun e w' => e = .returned (.bool (signB 68 (nums t4))) ∧ ∃ t', Rs w' g t' ∧ nums t' = signR 68 (nums t4) ∧ Kx g w4 w') := sign_any g 68 t4 w4 hr4
          clear hr4 ht4 hk4 hl3 HL2 HC3 HW
          cases hb4 : signB 68 (nums t4) with
          | false =>
            rw [hb4] at HD
            have hl4 := sign_not hb4
            have HN : Hid (lengthR (nums s) = none) := by unfold Hid; rw [HL4.out]; exact tail_no n _ HN4.out hl4.1
            clear hb4 hl4
            go_wp2_with fail
            refine HD.out.mono ?_
            rintro e w5 ⟨rfl, t5, hr5, ht5, hk5⟩
            have HR5 : Hid (Rs w5 g t5) := hr5
            have HK5 : Hid (Kx g w w5) := HK4.out.trans hk5
            clear hr5 ht5 hk5
            go_wp2
            go_ret2
            exact ⟨0, false, t5, rfl, ⟨fun q => (by cases q), fun _ => HN.out, by omega, by omega⟩, HR5.out, HK5.out⟩
          | true =>
            rw [hb4] at HD
            have hl4 := sign_yes hb4
            clear hb4
            go_wp2_with fail
            refine HD.out.mono ?_
            rintro e w5 ⟨rfl, t5, hr5, ht5, hk5⟩
            rw [← ht5] at hl4
            have HL5 : Hid (lengthR (nums s) = tailR n (68 :: nums t5)) := by unfold Hid; rw [HL4.out, hl4]
            have hz5 : t5.size ≤ 1000000000 := by
              have := congrArg List.length hl4
              rw [List.length_cons, nums_len, nums_len] at this; omega
            have HK5 : Hid (Kx g w w5) := HK4.out.trans hk5
            have HC5 : Hid (Cs w5) := HC4.out.kx hk5 hg
            have HT5 : Hid (Calls Tryd.prog 36 #[.pointer (some ⟨g, 0, none⟩), .int .u8 84] w5 fun e w' => e = .returned (.bool (signB 84 (nums t5))) ∧ ∃ t', Rs w' g t' ∧ nums t' = signR 84 (nums t5) ∧ Kx g w5 w') := sign_any g 84 t5 w5 hr5
            clear hr5 ht5 hk5 hl4 HL4 HC4 HD HN4
            cases hb5 : signB 84 (nums t5) with
            | false =>
              rw [hb5] at HT5
              have hl5 := sign_not hb5
              clear hb5
              go_wp2_with fail
              refine HT5.out.mono ?_
              rintro e w6 ⟨rfl, t6, hr6, ht6, hk6⟩
              rw [hl5.2] at ht6
              have HN : Hid (lengthR (nums s) = some (n * 86400, nums t6)) := by unfold Hid; rw [HL5.out, tail_D n _ hl5.1, ht6]
              have HR6 : Hid (Rs w6 g t6) := hr6
              have HK6 : Hid (Kx g w w6) := HK5.out.trans hk6
              clear hr6 ht6 hk6 hl5
              go_wp2
              go_ret2
              exact ⟨n * 86400, true, t6, rfl, ⟨fun _ => HN.out, fun q => (by cases q), by omega, by omega⟩, HR6.out, HK6.out⟩
            | true =>
              rw [hb5] at HT5
              have hl5 := sign_yes hb5
              clear hb5
              go_wp2_with fail
              refine HT5.out.mono ?_
              rintro e w6 ⟨rfl, t6, hr6, ht6, hk6⟩
              rw [← ht6] at hl5
              have HL6 : Hid (lengthR (nums s) = (clockZ (nums t6)).map fun k => (n * 86400 + k, [])) := by unfold Hid; rw [HL5.out, hl5]; rfl
              have hz6 : t6.size ≤ 1000000000 := by
                have := congrArg List.length hl5
                rw [List.length_cons, nums_len, nums_len] at this; omega
              have HK6 : Hid (Kx g w w6) := HK5.out.trans hk6
              have HCK := rclock_any g t6 w6 hr6 hz6 (HC5.out.kx hk6 hg) hg
              clear hr6 ht6 hk6 hl5 HL5 HC5
              go_wp2_with fail
              refine HCK.mono ?_
              rintro e w7 ⟨rfl, t7, hr7, ht7, hk7, hv0, hv1⟩
              have HR7 : Hid (Rs w7 g t7) := hr7
              have HK7 : Hid (Kx g w w7) := HK6.out.trans hk7
              have HA : Hid (LAns (nums s) (n * 86400 + clockV (nums t6)) (clockB (nums t6)) t7) := by
                refine ⟨fun q => ?_, fun q => ?_, by omega, by omega⟩
                · rw [HL6.out, ht7 q]
                  unfold clockB at q; unfold clockV
                  cases hh : clockZ (nums t6) with
                  | none => rw [hh] at q; cases q
                  | some n => rfl
                · rw [HL6.out]
                  unfold clockB at q
                  cases hh : clockZ (nums t6) with
                  | none => rfl
                  | some n => rw [hh] at q; cases q
              clear hr7 ht7 hk7 HCK
              generalize clockV (nums t6) = cv at *
              generalize clockB (nums t6) = cb at *
              go_wp2
              go_ret2
              exact ⟨n * 86400 + cv, cb, t7, rfl, HA.out, HR7.out, HK7.out⟩
/-- What ParseSpan answers. -/
def psV (l : List Int) : Int := (spanR l).getD 0
def psE (l : List Int) : Int := if (spanR l).isSome = true then 0 else 110
theorem rs_new (w : World) (s : ByteArray) : Rs (w.alloc (.cells #[.string s] 53)) w.heap.size s := by
  show (w.heap.push _)[w.heap.size]? = _
  exact Array.getElem?_push_size
theorem spanR_minus (l r : List Int) (h : l = 45 :: r) : spanR l = fullR true r := by rw [h]; rfl
theorem spanR_plus (l r : List Int) (h : l = 43 :: r) : spanR l = fullR false r := by rw [h]; rfl
theorem spanR_bare (l : List Int) (h1 : ∀ r, l ≠ 45 :: r) (h2 : ∀ r, l ≠ 43 :: r) : spanR l = fullR false l := by
  unfold spanR
  split
  · rename_i r; exact absurd rfl (h1 r)
  · exact absurd rfl (h2 _)
  · rfl
theorem full_none {neg : Bool} {l : List Int} (h : lengthR l = none) : fullR neg l = none := by unfold fullR; rw [h]
theorem full_left {neg : Bool} {l : List Int} {v : Int} {t : ByteArray} (h : lengthR l = some (v, nums t)) (hn : t.size ≠ 0) : fullR neg l = none := by
  unfold fullR; rw [h]
  cases e : nums t with
  | nil => exact absurd (by rw [← nums_len, e]; rfl) hn
  | cons a b => rfl
theorem full_long {neg : Bool} {l : List Int} {v : Int} {t : ByteArray} (h : lengthR l = some (v, nums t)) (hv : mostZ < v) : fullR neg l = none := by
  unfold fullR; rw [h]
  cases e : nums t with
  | nil => exact if_pos hv
  | cons a b => rfl
theorem full_ok {neg : Bool} {l : List Int} {v : Int} {t : ByteArray} (h : lengthR l = some (v, nums t)) (hn : t.size = 0) (hv : v ≤ mostZ) : fullR neg l = some (if neg = true then -v else v) := by
  unfold fullR; rw [h, List.eq_nil_of_length_eq_zero (show (nums t).length = 0 by rw [nums_len]; exact hn)]
  exact if_neg (by omega)
theorem ps_none {l : List Int} (h : spanR l = none) : psV l = 0 ∧ psE l = 110 := by unfold psV psE; rw [h]; exact ⟨rfl, rfl⟩
theorem ps_some {l : List Int} {n : Int} (h : spanR l = some n) : psV l = n ∧ psE l = 0 := by unfold psV psE; rw [h]; exact ⟨rfl, rfl⟩
set_option maxHeartbeats 4000000 in
theorem parseSpan_any (s : ByteArray) (w : World) (hs : s.size ≤ 1000000000) (hC : Cs w) :
    Calls Tryd.prog 22 #[.string s] w fun e w' => e = .returned (.tuple #[.int .i64 (psV (nums s)), .int .i64 (psE (nums s))]) ∧ Below w.heap.size w w' := by
  have h2 : 2 < w.heap.size := by have := World.block_lt_of_cell? w _ (hC 0 (by omega)); simpa using this
  obtain ⟨g, hg⟩ : ∃ g, w.heap.size = g := ⟨_, rfl⟩
  obtain ⟨W, hW⟩ : ∃ W, w.alloc (.cells #[.string s] 53) = W := ⟨_, rfl⟩
  have hR0 : Rs W g s := by rw [← hW, ← hg]; exact rs_new w s
  have HB0 : Hid (Below g w W) := by rw [← hW, ← hg]; exact keep w _
  have HC0 : Hid (Cs W) := by rw [← hW]; exact hC.below (keep w _)
  rw [hg] at h2 ⊢
  have HM : Hid (Calls Tryd.prog 36 #[.pointer (some ⟨g, 0, none⟩), .int .u8 45] W fun e w' => e = .returned (.bool (signB 45 (nums s))) ∧ ∃ t', Rs w' g t' ∧ nums t' = signR 45 (nums s) ∧ Kx g W w') := sign_any g 45 s W hR0
  -- the end, alike on all roads
  have HE : Hid (∀ (neg : Bool) (t : ByteArray) (V : World), t.size ≤ 1000000000 → spanR (nums s) = fullR neg (nums t) → Rs V g t → Kx g W V → Calls Tryd.prog 37 #[.pointer (some ⟨g, 0, none⟩)] V fun e w' => ∃ v b t', e = .returned (.tuple #[.int .i64 v, .bool b]) ∧ (LAns (nums t) v b t' ∧ Rs w' g t') ∧ Kx g W w') := by
    intro neg t V hz he hr hk
    refine (length_any g t V hr hz (HC0.out.kx hk h2) h2).mono ?_
    rintro e w' ⟨v, b, t', rfl, ha, hr', hk'⟩
    exact ⟨v, b, t', rfl, ⟨ha, hr'⟩, hk.trans hk'⟩
  clear hR0 hC
  cases hb0 : signB 45 (nums s) with
  | true =>
    rw [hb0] at HM
    have hl0 := sign_yes hb0
    clear hb0
    go_enter Tryd.func22, Tryd.ntmps22
    go_wp2_with fail
    clear hW
    refine HM.out.mono ?_
    rintro e w1 ⟨rfl, t1, hr1, ht1, hk1⟩
    rw [← ht1] at hl0
    have HS : Hid (spanR (nums s) = fullR true (nums t1)) := spanR_minus _ _ hl0
    have hz1 : t1.size ≤ 1000000000 := by
      have := congrArg List.length hl0
      rw [List.length_cons, nums_len, nums_len] at this; omega
    have HL := HE.out true t1 w1 hz1 HS.out hr1 hk1
    clear hr1 ht1 hk1 hl0 HM HE
    go_wp2_with fail
    refine HL.mono ?_
    rintro e w5 ⟨v, b, t5, rfl, ⟨⟨ha, hb, hv0, hv1⟩, hr5⟩, hk5⟩
    have HB5 : Hid (Below g w w5) := HB0.out.trans hk5.1
    have hc5 := hr5.cell
    clear hr5 hk5 HL
    cases b with
    | false =>
      have HV : Hid (psV (nums s) = 0 ∧ psE (nums s) = 110) := ps_none (by rw [HS.out]; exact full_none (hb rfl))
      clear ha hb
      go_wp2
      go_ret2
      exact ⟨by rw [HV.out.1, HV.out.2]; rfl, HB5.out⟩
    | true =>
      have hlen := ha rfl
      clear ha hb
      have he := empty_list t5
      by_cases h0 : t5.size = 0
      · rw [decide_eq_true h0] at he
        have he2 : t5.toList = [] := by simpa using he
        by_cases hm : v ≤ 1099511627776
        · have HV : Hid (psV (nums s) = -v ∧ psE (nums s) = 0) := ps_some (by rw [HS.out, full_ok hlen h0 hm]; rfl)
          clear hlen
          go_wp2
          go_ret2
          exact ⟨by rw [HV.out.1, HV.out.2]; rfl, HB5.out⟩
        · have HV : Hid (psV (nums s) = 0 ∧ psE (nums s) = 110) := ps_none (by rw [HS.out]; exact full_long hlen (by unfold mostZ; omega))
          clear hlen
          go_wp2
          go_ret2
          exact ⟨by rw [HV.out.1, HV.out.2]; rfl, HB5.out⟩
      · rw [decide_eq_false h0] at he
        have he2 : ¬ t5.toList = [] := by simpa using he
        have HV : Hid (psV (nums s) = 0 ∧ psE (nums s) = 110) := ps_none (by rw [HS.out]; exact full_left hlen h0)
        clear hlen
        go_wp2
        go_ret2
        exact ⟨by rw [HV.out.1, HV.out.2]; rfl, HB5.out⟩
  | false =>
    rw [hb0] at HM
    have hl0 := sign_not hb0
    clear hb0
    go_enter Tryd.func22, Tryd.ntmps22
    go_wp2_with fail
    clear hW
    refine HM.out.mono ?_
    rintro e w1 ⟨rfl, t1, hr1, ht1, hk1⟩
    rw [hl0.2] at ht1
    have hz1 : t1.size ≤ 1000000000 := by
      have := congrArg List.length ht1
      rw [nums_len, nums_len] at this; omega
    have HK1 : Hid (Kx g W w1) := hk1
    have HP : Hid (Calls Tryd.prog 36 #[.pointer (some ⟨g, 0, none⟩), .int .u8 43] w1 fun e w' => e = .returned (.bool (signB 43 (nums t1))) ∧ ∃ t', Rs w' g t' ∧ nums t' = signR 43 (nums t1) ∧ Kx g w1 w') := sign_any g 43 t1 w1 hr1
    have HX : Hid (∃ t2, nums t2 = signR 43 (nums t1) → t2.size ≤ 1000000000) := ⟨t1, fun _ => hz1⟩
    have HS : Hid (∀ t2 : ByteArray, nums t2 = signR 43 (nums t1) → spanR (nums s) = fullR false (nums t2) ∧ t2.size ≤ 1000000000) := by
      intro t2 h2
      cases hb : signB 43 (nums t1) with
      | true =>
        have := sign_yes hb
        rw [← h2] at this
        have hlen := congrArg List.length this
        rw [List.length_cons, nums_len, nums_len] at hlen
        exact ⟨by rw [← ht1]; exact spanR_plus _ _ this, by omega⟩
      | false =>
        have := sign_not hb
        rw [this.2] at h2
        have hlen := congrArg List.length h2
        rw [nums_len, nums_len] at hlen
        refine ⟨?_, by omega⟩
        rw [h2, ht1]
        exact spanR_bare _ hl0.1 (by rw [← ht1]; exact this.1)
    clear hr1 ht1 hk1 hl0 HM HX
    generalize signB 43 (nums t1) = pb at HP
    go_wp2_with fail
    refine HP.out.mono ?_
    rintro e w2 ⟨rfl, t2, hr2, ht2, hk2⟩
    have HS2 : Hid (spanR (nums s) = fullR false (nums t2)) := (HS.out t2 ht2).1
    have HL := HE.out false t2 w2 (HS.out t2 ht2).2 HS2.out hr2 (HK1.out.trans hk2)
    clear hr2 ht2 hk2 HP HE HS HK1 hz1
    go_wp2_with fail
    refine HL.mono ?_
    rintro e w5 ⟨v, b, t5, rfl, ⟨⟨ha, hb, hv0, hv1⟩, hr5⟩, hk5⟩
    have HB5 : Hid (Below g w w5) := HB0.out.trans hk5.1
    have hc5 := hr5.cell
    clear hr5 hk5 HL
    cases b with
    | false =>
      have HV : Hid (psV (nums s) = 0 ∧ psE (nums s) = 110) := ps_none (by rw [HS2.out]; exact full_none (hb rfl))
      clear ha hb
      go_wp2
      go_ret2
      exact ⟨by rw [HV.out.1, HV.out.2]; rfl, HB5.out⟩
    | true =>
      have hlen := ha rfl
      clear ha hb
      have he := empty_list t5
      by_cases h0 : t5.size = 0
      · rw [decide_eq_true h0] at he
        have he2 : t5.toList = [] := by simpa using he
        by_cases hm : v ≤ 1099511627776
        · have HV : Hid (psV (nums s) = v ∧ psE (nums s) = 0) := ps_some (by rw [HS2.out, full_ok hlen h0 hm]; rfl)
          clear hlen
          go_wp2
          go_ret2
          exact ⟨by rw [HV.out.1, HV.out.2]; rfl, HB5.out⟩
        · have HV : Hid (psV (nums s) = 0 ∧ psE (nums s) = 110) := ps_none (by rw [HS2.out]; exact full_long hlen (by unfold mostZ; omega))
          clear hlen
          go_wp2
          go_ret2
          exact ⟨by rw [HV.out.1, HV.out.2]; rfl, HB5.out⟩
      · rw [decide_eq_false h0] at he
        have he2 : ¬ t5.toList = [] := by simpa using he
        have HV : Hid (psV (nums s) = 0 ∧ psE (nums s) = 110) := ps_none (by rw [HS2.out]; exact full_left hlen h0)
        clear hlen
        go_wp2
        go_ret2
        exact ⟨by rw [HV.out.1, HV.out.2]; rfl, HB5.out⟩
end Go.Proofs.YtkamnphiocoebaaDoor
