/-
  Hours, minutes and seconds are read: the contract of clock.
-/
import Derived.Test.YtkamnphiocoebaaDoorRe
namespace Go.Proofs.YtkamnphiocoebaaDoor
open Go.RowKit
set_option linter.unusedVariables false

def clockV (l : List Int) : Int := (clockZ l).getD 0
def clockB (l : List Int) : Bool := (clockZ l).isSome
theorem clock_none {l : List Int} (h : clockZ l = none) : clockV l = 0 ∧ clockB l = false := by unfold clockV clockB; rw [h]; exact ⟨rfl, rfl⟩
theorem clock_some {l : List Int} {n : Int} (h : clockZ l = some n) : clockV l = n ∧ clockB l = true := by unfold clockV clockB; rw [h]; exact ⟨rfl, rfl⟩
theorem nums_ne {t : ByteArray} (h : t.size ≠ 0) : nums t ≠ [] := fun e => h (by rw [← nums_len, e]; rfl)
set_option maxHeartbeats 4000000 in
theorem rclock_any (g : Nat) (s : ByteArray) (w : World) (h : Rs w g s) (hs : s.size ≤ 1000000000) (hC : Cs w) (hg : 2 < g) :
    Calls Tryd.prog 43 #[.pointer (some ⟨g, 0, none⟩)] w fun e w' => e = .returned (.tuple #[.int .i64 (clockV (nums s)), .bool (clockB (nums s))]) ∧ ∃ t', Rs w' g t' ∧ (clockB (nums s) = true → nums t' = []) ∧ Kx g w w' ∧ (0 ≤ clockV (nums s) ∧ clockV (nums s) ≤ 108000000000000) := by
  have HR : Hid (Rs w g s) := h
  have HC : Hid (Cs w) := hC
  have HJ : Hid (CJ (nums s) s 0 (-1)) := ⟨⟨(nums s).length + 1, by omega, rfl⟩, by omega, by omega, by omega, by omega, by rw [nums_len]; exact Nat.le_refl _⟩
  have HL : Hid ((nums s).length = s.size) := nums_len s
  clear h hC
  go_enter Tryd.func43, Tryd.ntmps43
  go_wp2
  go_loopw [4, 5] (fun a b wr => ∃ (sum last : Int) (t : ByteArray), a = .int .i64 sum ∧ b = .int .i64 last ∧ CJ (nums s) t sum last ∧ Rs wr g t ∧ Kx g w wr) (fun _ b _ => (3 - intOf b).toNat)
  case atStart => exact ⟨0, -1, s, rfl, rfl, HJ.out, HR.out, Kx.refl _ _⟩
  case round =>
    clear HJ HR
    obtain ⟨sum, last, t, rfl, rfl, hj, hr, hk⟩ := hrel
    have hs0 := hj.s0
    have hs1 := hj.s1
    have hl0 := hj.l0
    have hl1 := hj.l1
    have hts : t.size ≤ 1000000000 := by have a := hj.sz; have b := HL.out; omega
    have HJ : Hid (CJ (nums s) t sum last) := hj
    have HR : Hid (Rs wr g t) := hr
    have HK : Hid (Kx g w wr) := hk
    have hc := hr.cell
    have hf := hr.frozen
    clear hj hr hk
    have he := empty_list t
    by_cases h0 : t.size = 0
    · rw [decide_eq_true h0] at he
      have he2 : t.toList = [] := by simpa using he
      have HN : Hid (nums t = []) := List.eq_nil_of_length_eq_zero (by rw [nums_len]; exact h0)
      have hE := cj_end HJ.out HN.out
      by_cases hl : 0 ≤ last
      · rw [if_pos hl] at hE
        have HV : Hid (clockV (nums s) = sum ∧ clockB (nums s) = true) := clock_some hE
        clear hE
        go_wp2
        go_ret2
        exact ⟨by rw [HV.out.1, HV.out.2]; rfl, t, HR.out, fun _ => HN.out, HK.out, by rw [HV.out.1]; omega⟩
      · rw [if_neg hl] at hE
        have HV : Hid (clockV (nums s) = 0 ∧ clockB (nums s) = false) := clock_none hE
        have hsum : sum = 0 := by omega
        subst hsum
        clear hE
        go_wp2
        go_ret2
        exact ⟨by rw [HV.out.1, HV.out.2]; rfl, t, HR.out, fun _ => HN.out, HK.out, by rw [HV.out.1]; omega⟩
    · rw [decide_eq_false h0] at he
      have he2 : ¬ t.toList = [] := by simpa using he
      have HN : Hid (nums t ≠ []) := nums_ne h0
      have hnum := number_any g t wr HR.out hts
      have hv := num_lt (nums t)
      obtain ⟨n, hn⟩ : ∃ n, (digR 10 0 (nums t)).1 = n := ⟨_, rfl⟩
      obtain ⟨k, hk⟩ : ∃ k, (digR 10 0 (nums t)).2 = k := ⟨_, rfl⟩
      rw [hn, hk] at hnum
      rw [hn] at hv
      have HNN : Hid ((digR 10 0 (nums t)).1 = n) := hn
      have HKK : Hid ((digR 10 0 (nums t)).2 = k) := hk
      clear hn hk
      by_cases hk0 : k = 0
      · have HV : Hid (clockV (nums s) = 0 ∧ clockB (nums s) = false) := clock_none (cj_stop HJ.out HN.out (.inl (by rw [HKK.out]; exact hk0)))
        subst hk0
        go_wp2_with fail
        refine hnum.mono ?_
        rintro e w1 ⟨rfl, t1, hr1, ht1, hk1⟩
        have HR1 : Hid (Rs w1 g t1) := hr1
        have HK1 : Hid (Kx g w w1) := HK.out.trans hk1
        clear hr1 ht1 hk1 hnum
        go_wp2
        go_ret2
        exact ⟨by rw [HV.out.1, HV.out.2]; rfl, t1, HR1.out, fun q => absurd q (by rw [HV.out.2]; simp), HK1.out, by rw [HV.out.1]; omega⟩
      · have hkd : decide (0 < k) = true := by simp; omega
        rw [hkd] at hnum
        go_wp2_with fail
        refine hnum.mono ?_
        rintro e w1 ⟨rfl, t1, hr1, ht1, hk1⟩
        have HR1 : Hid (Rs w1 g t1) := hr1
        have HK1 : Hid (Kx g w w1) := HK.out.trans hk1
        have HT1 : Hid (nums t1 = (nums t).drop k) := ht1
        have hc1 := hr1.cell
        have hf1 := hr1.frozen
        have he1 := empty_list t1
        clear hr1 ht1 hk1 hnum he he2 hc hf hkd
        by_cases h1 : t1.size = 0
        · rw [decide_eq_true h1] at he1
          have he2 : t1.toList = [] := by simpa using he1
          have HV : Hid (clockV (nums s) = 0 ∧ clockB (nums s) = false) := clock_none (cj_stop HJ.out HN.out (.inr (by rw [HKK.out, ← HT1.out]; exact List.eq_nil_of_length_eq_zero (by rw [nums_len]; exact h1))))
          go_wp2
          go_ret2
          exact ⟨by rw [HV.out.1, HV.out.2]; rfl, t1, HR1.out, fun q => absurd q (by rw [HV.out.2]; simp), HK1.out, by rw [HV.out.1]; omega⟩
        · rw [decide_eq_false h1] at he1
          have he2 : ¬ t1.toList = [] := by simpa using he1
          have hlt : 0 < t1.size := by omega
          have HD : Hid (nums t1 = (t1[0].toNat : Int) :: (nums t1).drop 1) := nums_drop t1 0 hlt
          have hu1 : (t1[0].toNat : Int) < 256 := by have := t1[0].toNat_lt; omega
          have hu0 : (0 : Int) ≤ (t1[0].toNat : Int) := by omega
          obtain ⟨u, hu⟩ : ∃ u : Int, ((t1[0]'hlt).toNat : Int) = u := ⟨_, rfl⟩
          rw [hu] at HD hu0 hu1
          have HIX : Hid (Calls Tryd.prog 48 #[.string ⟨#[72, 77, 83]⟩, .int .u8 u] w1 fun e w' => e = .returned (.int .i64 (unitZ u)) ∧ w1 = w') := index_any u w1 hu0 hu1
          have hun := unit_in u
          have HDD : Hid ((nums t).drop (digR 10 0 (nums t)).2 = u :: (nums t1).drop 1) := by
            unfold Hid; rw [HKK.out, ← HT1.out]; exact HD.out
          have hq0 : ∀ i, i < 3 → w1.cell? ⟨2, i, none⟩ = some (.int .i64 (([3600, 60, 1] : List Int).getD i 0)) := HC.out.kx HK1.out hg
          have HB : Hid (unitZ u < 0 ∨ 0 ≤ last ∧ unitZ u ≠ last + 1 → clockV (nums s) = 0 ∧ clockB (nums s) = false) := fun q => clock_none (cj_bad HJ.out HN.out HDD.out q)
          have HX : Hid (∀ t', nums t' = (nums t1).drop 1 → ¬ (unitZ u < 0 ∨ 0 ≤ last ∧ unitZ u ≠ last + 1) → CJ (nums s) t' (sum + n * sizeU (unitZ u)) (unitZ u)) := fun t' a b => by
            have := cj_next HJ.out HN.out (by rw [HKK.out]; exact hk0) HDD.out b a
            rwa [HNN.out] at this
          generalize hU : unitZ u = U at *
          clear hU HD HDD
          have hU4 : U = -1 ∨ U = 0 ∨ U = 1 ∨ U = 2 := by omega
          by_cases hbad : U < 0 ∨ 0 ≤ last ∧ U ≠ last + 1
          · have HV : Hid (clockV (nums s) = 0 ∧ clockB (nums s) = false) := HB.out hbad
            clear HB HX hq0 hU4
            by_cases hn1 : U < 0
            · clear hbad
              go_wp2_with fail
              refine HIX.out.mono ?_
              rintro e w2 ⟨rfl, rfl⟩
              go_wp2
              go_ret2
              exact ⟨by rw [HV.out.1, HV.out.2]; rfl, t1, HR1.out, fun q => absurd q (by rw [HV.out.2]; simp), HK1.out, by rw [HV.out.1]; omega⟩
            · have hb1 : 0 ≤ last := by omega
              have hb2 : (U != last + 1) = true := by simp; omega
              clear hbad
              go_wp2_with fail
              refine HIX.out.mono ?_
              rintro e w2 ⟨rfl, rfl⟩
              go_wp2
              go_ret2
              exact ⟨by rw [HV.out.1, HV.out.2]; rfl, t1, HR1.out, fun q => absurd q (by rw [HV.out.2]; simp), HK1.out, by rw [HV.out.1]; omega⟩
          · have HX2 : Hid (∀ t', nums t' = (nums t1).drop 1 → CJ (nums s) t' (sum + n * sizeU U) U) := fun t' a => HX.out t' a hbad
            have hU0 : 0 ≤ U := by omega
            have hq := hq0 U.toNat (by omega)
            have hqq : ([3600, 60, 1] : List Int).getD U.toNat 0 = sizeU U := by
              rcases hU4 with rfl | rfl | rfl | rfl
              · omega
              · rfl
              · rfl
              · rfl
            rw [hqq] at hq
            have hsz : 0 ≤ sizeU U ∧ sizeU U ≤ 3600 := by unfold sizeU; split <;> (try split) <;> omega
            have hlast : last < U := by omega
            clear hqq hq0 HB HX
            obtain ⟨z, hz⟩ : ∃ z, sizeU U = z := ⟨_, rfl⟩
            rw [hz] at hq hsz HX2
            clear hz
            have hnz : 0 ≤ n * z := Int.mul_nonneg hv.1 hsz.1
            have hnz2 : n * z ≤ 36000000000000 := by
              have a := Int.mul_le_mul_of_nonneg_left hsz.2 hv.1
              omega
            by_cases hb1 : 0 ≤ last
            · have hb2 : (U != last + 1) = false := by simp; omega
              clear hbad hU4
              go_wp2_with fail
              refine HIX.out.mono ?_
              rintro e w2 ⟨rfl, rfl⟩
              go_wp2
              go_roundw
              case rel => exact ⟨sum + n * z, U, _, rfl, rfl, HX2.out _ (by rw [nums_from]), HR1.out.set _, HK1.out.trans (Kx.set _ _ _)⟩
              case measure => simp [intOf]; omega
            · have hbl : decide (0 ≤ last) = false := by simp; omega
              clear hbad hU4
              go_wp2_with fail
              refine HIX.out.mono ?_
              rintro e w2 ⟨rfl, rfl⟩
              go_wp2
              go_roundw
              case rel => exact ⟨sum + n * z, U, _, rfl, rfl, HX2.out _ (by rw [nums_from]), HR1.out.set _, HK1.out.trans (Kx.set _ _ _)⟩
              case measure => simp [intOf]; omega
end Go.Proofs.YtkamnphiocoebaaDoor
