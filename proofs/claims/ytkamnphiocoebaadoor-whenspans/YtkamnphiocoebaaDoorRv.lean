/-
  The document's own times as texts: the contracts of its Value and Parse.
-/
import Derived.Test.YtkamnphiocoebaaDoorRp
import Derived.Test.YtkamnphiocoebaaDoorPa
import Derived.Test.YtkamnphiocoebaaDoorAl
namespace Go.Proofs.YtkamnphiocoebaaDoor
open Go.RowKit
set_option linter.unusedVariables false

theorem time_byt (y m d t : Int) : Byt (timeL y m d t) := by
  have h : ∀ n : Int, 0 ≤ 48 + n % 10 ∧ 48 + n % 10 < 256 := fun n => by omega
  intro x hx
  simp only [timeL, four, two, List.cons_append, List.nil_append, List.mem_cons, List.not_mem_nil, or_false] at hx
  rcases hx with rfl | rfl | rfl | rfl | rfl | rfl | rfl | rfl | rfl | rfl | rfl | rfl | rfl | rfl | rfl | rfl <;> first | exact h _ | omega
theorem back_time {t y m d : Int} (h0 : 0 ≤ t) (h : Civ (t / 86400) y m d) : pOK (timeL y m d t) = true ∧ pVal (timeL y m d t) = t := by
  have hcd := (day_iff _ _ _).1 h.hd
  have hm31 := (mon_ge y m hcd.2.2.1 hcd.2.2.2.1).2
  have e0 : numZ (timeL y m d t) 0 4 = y := by rw [num_year]; exact four_val y (by omega) (by omega)
  have e1 : numZ (timeL y m d t) 4 2 = m := by rw [num_month]; exact two_val m (by omega) (by omega)
  have e2 : numZ (timeL y m d t) 6 2 = d := by rw [num_day]; exact two_val d (by omega) (by omega)
  have e3 : numZ (timeL y m d t) 9 2 = t % 86400 / 3600 := by rw [num_hour]; exact two_val _ (by omega) (by omega)
  have e4 : numZ (timeL y m d t) 11 2 = t % 3600 / 60 := by rw [num_minute]; exact two_val _ (by omega) (by omega)
  have e5 : numZ (timeL y m d t) 13 2 = t % 60 := by rw [num_second]; exact two_val _ (by omega) (by omega)
  constructor
  · unfold pOK hourB
    rw [e0, e1, e2, e3, e4, e5, time_shape, h.hd]
    simp only [Bool.true_and, Bool.and_eq_true, decide_eq_true_eq]
    omega
  · unfold pVal
    rw [e0, e1, e2, e3, e4, e5, h.hn]
    omega

theorem valL_snoc (l : List Int) (c : Int) : valL (l ++ [c]) = valL l * 10 + (c - 48) := by simp [valL]
theorem take_snoc (l : List Int) (k : Nat) (c : Int) (h : l[k]? = some c) : l.take (k + 1) = l.take k ++ [c] := by rw [List.take_add_one, h]; rfl
set_option maxHeartbeats 2000000 in
theorem rvalue_any (s : ByteArray) (w : World) (hs : s.size ≤ 1000000000) :
    Calls Tryd.prog 32 #[.string s] w fun e w' => e = .returned (.int .i64 (valueZ (nums s))) ∧ w = w' := by
  have HL : Hid ((nums s).length = s.size) := nums_len s
  by_cases h0 : s.size = 0
  · have HV : Hid (valueZ (nums s) = -1) := by unfold Hid valueZ; rw [if_pos (.inl (by rw [HL.out]; exact h0))]
    have t0 : ((s.size : Int) == 0) = true := by simp [h0]
    go_enter Tryd.func32, Tryd.ntmps32
    go_wp2
    go_ret
    exact ⟨by rw [HV.out]; rfl, rfl⟩
  · have t0 : ((s.size : Int) == 0) = false := by simp [h0]
    by_cases h10 : 10 < s.size
    · have HV : Hid (valueZ (nums s) = -1) := by unfold Hid valueZ; rw [if_pos (.inr (.inl (by rw [HL.out]; exact h10)))]
      go_enter Tryd.func32, Tryd.ntmps32
      go_wp2
      go_ret
      exact ⟨by rw [HV.out]; rfl, rfl⟩
    · go_enter Tryd.func32, Tryd.ntmps32
      go_wp2
      go_loopw [3, 4] (fun a b wr => ∃ (k : Nat), a = .int .i64 (valL ((nums s).take k)) ∧ b = .int .i64 k ∧ k ≤ s.size ∧ ((nums s).take k).all isD = true ∧ (0 ≤ valL ((nums s).take k) ∧ valL ((nums s).take k) < 10 ^ k) ∧ w = wr) (fun _ b _ => s.size - (intOf b).toNat)
      case atStart => exact ⟨0, rfl, rfl, by omega, rfl, by rw [List.take_zero]; decide, rfl⟩
      case round =>
        obtain ⟨k, rfl, rfl, hk, hall, hv, rfl⟩ := hrel
        have hv0 := hv.1
        have hv1 : valL ((nums s).take k) < 10000000000 := by have a := hv.2; have b := pow_ten k (by omega); omega
        have HA : Hid (((nums s).take k).all isD = true) := hall
        have HV1 : Hid (valL ((nums s).take k) < 10 ^ k) := hv.2
        clear hall hv
        by_cases hlt : k < s.size
        · have HT : Hid ((nums s)[k]? = some (s[k].toNat : Int)) := nums_at s k hlt
          have hc1 : (s[k].toNat : Int) < 256 := by have := s[k].toNat_lt; omega
          have hc0 : (0 : Int) ≤ (s[k].toNat : Int) := by omega
          obtain ⟨c, hc⟩ : ∃ c : Int, ((s[k]'hlt).toNat : Int) = c := ⟨_, rfl⟩
          rw [hc] at HT hc1 hc0
          have HBad : Hid (isD c = false → valueZ (nums s) = -1) := fun q => by
            unfold valueZ; rw [if_pos (.inr (.inr (all_bad isD _ k c HT.out q)))]
          have HS : Hid (valL ((nums s).take (k + 1)) = valL ((nums s).take k) * 10 + (c - 48)) := by
            unfold Hid; rw [take_snoc _ _ _ HT.out, valL_snoc]
          have HAll : Hid (isD c = true → ((nums s).take (k + 1)).all isD = true) := fun q => by
            rw [all_take isD _ k c HT.out, HA.out, q]; rfl
          generalize hX : valL ((nums s).take k) = X at *
          by_cases g1 : c < 48
          · have HV : Hid (valueZ (nums s) = -1) := HBad.out (by simp [isD]; omega)
            clear HBad HS HAll HA HT
            go_wp2
            go_ret
            exact ⟨by rw [HV.out]; rfl, rfl⟩
          · by_cases g2 : c > 57
            · have HV : Hid (valueZ (nums s) = -1) := HBad.out (by simp [isD]; omega)
              clear HBad HS HAll HA HT
              go_wp2
              go_ret
              exact ⟨by rw [HV.out]; rfl, rfl⟩
            · have HAA : Hid (((nums s).take (k + 1)).all isD = true) := HAll.out ((isD_iff c).2 (by omega))
              have HSS : Hid (valL ((nums s).take (k + 1)) = 10 * X + c - 48) := by unfold Hid; rw [HS.out]; omega
              clear HBad HS HAll HA HT
              go_wp2
              go_roundw
              case rel => exact ⟨k + 1, by rw [HSS.out], by go_num, by omega, HAA.out, by rw [HSS.out, Int.pow_succ]; have := HV1.out; omega, trivial⟩
              case measure => simp [intOf]; omega
        · obtain rfl : k = s.size := by omega
          have hfull : (nums s).take s.size = nums s := List.take_of_length_le (by rw [nums_len]; exact Nat.le_refl _)
          rw [hfull] at hv0 hv1 HA ⊢
          have HV : Hid (valueZ (nums s) = valL (nums s)) := by
            unfold Hid valueZ
            rw [if_neg]
            rintro (q | q | q)
            · rw [HL.out] at q; exact h0 q
            · rw [HL.out] at q; exact h10 q
            · rw [HA.out] at q; cases q
          generalize valL (nums s) = X at *
          clear hfull HA HV1
          go_wp2
          go_ret
          exact ⟨by rw [HV.out]; rfl, rfl⟩
/-- A slice's value. -/
def vz (l : List Int) (a n : Nat) : Int := valueZ ((l.drop a).take n)
theorem vz_shape (l : List Int) (h : shapeB l = true) (a n : Nat) (ha : (a = 0 ∧ n = 4) ∨ (a = 4 ∧ n = 2) ∨ (a = 6 ∧ n = 2) ∨ (a = 9 ∧ n = 2) ∨ (a = 11 ∧ n = 2) ∨ (a = 13 ∧ n = 2)) : vz l a n = numZ l a n := by
  obtain ⟨h1, h2⟩ := shape_dig l h a n ha
  unfold vz numZ
  exact value_ok h1 (by intro q; rw [q] at h2; simp at h2; omega) (by omega)
theorem valL_lt : ∀ l : List Int, l.all isD = true → 0 ≤ valL l ∧ valL l < 10 ^ l.length := by
  intro l h
  have key : ∀ (l : List Int) (n : Int), l.all isD = true → 0 ≤ n → 0 ≤ l.foldl (fun n c => n * 10 + (c - 48)) n ∧ l.foldl (fun n c => n * 10 + (c - 48)) n < (n + 1) * 10 ^ l.length := by
    intro l
    induction l with
    | nil => intro n _ hn; simp; omega
    | cons c l ih =>
      intro n hl hn
      simp only [List.all_cons, Bool.and_eq_true] at hl
      have hc := (isD_iff c).1 hl.1
      have := ih (n * 10 + (c - 48)) hl.2 (by omega)
      refine ⟨this.1, Int.lt_of_lt_of_le this.2 ?_⟩
      rw [List.length_cons, Int.pow_succ, show (n + 1) * (10 ^ l.length * 10) = ((n + 1) * 10) * (10 : Int) ^ l.length by rw [Int.mul_comm (10 ^ l.length) 10, Int.mul_assoc]]
      exact Int.mul_le_mul_of_nonneg_right (by omega) (Int.pow_nonneg (by omega))
  have := key l 0 h (by omega)
  simpa [valL] using this
theorem vz_in (l : List Int) (a n : Nat) (hn : n ≤ 4) : -1 ≤ vz l a n ∧ vz l a n ≤ 9999 := by
  unfold vz valueZ
  split
  · omega
  · rename_i h
    have hall : ((l.drop a).take n).all isD = true := by
      cases q : ((l.drop a).take n).all isD with
      | true => rfl
      | false => exact absurd (.inr (.inr q)) h
    have h1 := valL_lt _ hall
    have h2 : ((l.drop a).take n).length ≤ 4 := by rw [List.length_take]; omega
    have h3 : (10 : Int) ^ ((l.drop a).take n).length ≤ 10000 := by
      generalize ((l.drop a).take n).length = k at h2
      have : k = 0 ∨ k = 1 ∨ k = 2 ∨ k = 3 ∨ k = 4 := by omega
      rcases this with rfl | rfl | rfl | rfl | rfl <;> decide
    omega
theorem vz_read (s : ByteArray) (a n b : Nat) (hb : b = a + n) (w : World) (hs : s.size = 16) :
    Calls Tryd.prog 32 #[.string (s.extract a b)] w fun e w' => e = .returned (.int .i64 (vz (nums s) a n)) ∧ w' = w := by
  refine (rvalue_any (s.extract a b) w (by rw [ByteArray.size_extract]; omega)).mono ?_
  rintro e w' ⟨rfl, rfl⟩
  refine ⟨?_, rfl⟩
  rw [nums_extract, show b - a = n by omega]; rfl
theorem rparse_size (s : ByteArray) (w : World) (hs : s.size ≠ 16) (hm : s.size ≤ 9223372036854775807) :
    Calls Tryd.prog 19 #[.string s] w fun e w' => e = .returned (.tuple #[.int .i64 0, .int .i64 110]) ∧ w = w' := by
  have h1 : ((s.size : Int) != 16) = true := by simp; omega
  go_enter Tryd.func19, Tryd.ntmps19
  go_wp2
  go_ret2
  exact ⟨rfl, rfl⟩
set_option maxHeartbeats 4000000 in
theorem rparse_yes (s : ByteArray) (w : World) (hs : s.size = 16) :
    Calls Tryd.prog 19 #[.string s] w fun e w' => e = .returned (.tuple #[.int .i64 (pV (nums s)), .int .i64 (pE (nums s))]) ∧ Below w.heap.size w w' := by
  have i0 := vz_in (nums s) 0 4 (by omega)
  have i1 := vz_in (nums s) 4 2 (by omega)
  have i2 := vz_in (nums s) 6 2 (by omega)
  have i3 := vz_in (nums s) 9 2 (by omega)
  have i4 := vz_in (nums s) 11 2 (by omega)
  have i5 := vz_in (nums s) 13 2 (by omega)
  have c0 : Hid (∀ w, Calls Tryd.prog 32 #[.string (s.extract 0 4)] w fun e w' => e = .returned (.int .i64 (vz (nums s) 0 4)) ∧ w' = w) := fun w => vz_read s 0 4 4 rfl w hs
  have c1 : Hid (∀ w, Calls Tryd.prog 32 #[.string (s.extract 4 6)] w fun e w' => e = .returned (.int .i64 (vz (nums s) 4 2)) ∧ w' = w) := fun w => vz_read s 4 2 6 rfl w hs
  have c2 : Hid (∀ w, Calls Tryd.prog 32 #[.string (s.extract 6 8)] w fun e w' => e = .returned (.int .i64 (vz (nums s) 6 2)) ∧ w' = w) := fun w => vz_read s 6 2 8 rfl w hs
  have c3 : Hid (∀ w, Calls Tryd.prog 32 #[.string (s.extract 9 11)] w fun e w' => e = .returned (.int .i64 (vz (nums s) 9 2)) ∧ w' = w) := fun w => vz_read s 9 2 11 rfl w hs
  have c4 : Hid (∀ w, Calls Tryd.prog 32 #[.string (s.extract 11 13)] w fun e w' => e = .returned (.int .i64 (vz (nums s) 11 2)) ∧ w' = w) := fun w => vz_read s 11 2 13 rfl w hs
  have c5 : Hid (∀ w, Calls Tryd.prog 32 #[.string (s.extract 13 15)] w fun e w' => e = .returned (.int .i64 (vz (nums s) 13 2)) ∧ w' = w) := fun w => vz_read s 13 2 15 rfl w hs
  have cd : Hid (∀ w, Calls Tryd.prog 10 #[.int .i64 (vz (nums s) 0 4), .int .i64 (vz (nums s) 4 2), .int .i64 (vz (nums s) 6 2)] w fun e w' => e = .returned (.tuple #[.int .i64 (daysV (vz (nums s) 0 4) (vz (nums s) 4 2) (vz (nums s) 6 2)), .int .i64 (daysE (vz (nums s) 0 4) (vz (nums s) 4 2) (vz (nums s) 6 2))]) ∧ w' = w) := fun w =>
    (rdays_any (vz (nums s) 0 4) (vz (nums s) 4 2) (vz (nums s) 6 2) w (by omega) (by omega) (by omega) (by omega) (by omega) (by omega)).mono fun e w' h => ⟨h.1, h.2.symm⟩
  have hD : 0 ≤ daysV (vz (nums s) 0 4) (vz (nums s) 4 2) (vz (nums s) 6 2) ∧ daysV (vz (nums s) 0 4) (vz (nums s) 4 2) (vz (nums s) 6 2) ≤ 2932896 := by
    unfold daysV; split
    · rename_i q; exact days_range _ _ _ q
    · omega
  -- what is right is so
  have HY : Hid (pOK (nums s) = true → daysE (vz (nums s) 0 4) (vz (nums s) 4 2) (vz (nums s) 6 2) = 0 ∧ 86400 * daysV (vz (nums s) 0 4) (vz (nums s) 4 2) (vz (nums s) 6 2) + 3600 * vz (nums s) 9 2 + 60 * vz (nums s) 11 2 + vz (nums s) 13 2 = pVal (nums s) ∧ rightB (pVal (nums s)) = true ∧ ∀ y m d, Civ (pVal (nums s) / 86400) y m d → nums s = timeL y m d (pVal (nums s))) := by
    intro hp
    have hp0 := hp
    unfold pOK at hp
    simp only [Bool.and_eq_true] at hp
    obtain ⟨⟨hsh, hdy⟩, hho⟩ := hp
    have hin := num_in (nums s) hsh
    have hho' := hho
    simp only [hourB, Bool.and_eq_true, decide_eq_true_eq] at hho'
    have hdr := days_range _ _ _ hdy
    rw [vz_shape _ hsh 0 4 (by simp), vz_shape _ hsh 4 2 (by simp), vz_shape _ hsh 6 2 (by simp), vz_shape _ hsh 9 2 (by simp), vz_shape _ hsh 11 2 (by simp), vz_shape _ hsh 13 2 (by simp)]
    have hv : daysV (numZ (nums s) 0 4) (numZ (nums s) 4 2) (numZ (nums s) 6 2) = daysZ (numZ (nums s) 0 4) (numZ (nums s) 4 2) (numZ (nums s) 6 2) := by unfold daysV; rw [if_pos hdy]
    have he : daysE (numZ (nums s) 0 4) (numZ (nums s) 4 2) (numZ (nums s) 6 2) = 0 := by unfold daysE; rw [if_pos hdy]
    have hdiv : pVal (nums s) / 86400 = daysZ (numZ (nums s) 0 4) (numZ (nums s) 4 2) (numZ (nums s) 6 2) := by unfold pVal; omega
    refine ⟨he, by rw [hv]; unfold pVal; omega, by unfold rightB; simp; unfold pVal; omega, fun y m d hc => ?_⟩
    have hc2 : Civ (pVal (nums s) / 86400) (numZ (nums s) 0 4) (numZ (nums s) 4 2) (numZ (nums s) 6 2) := ⟨hdy, hdiv.symm⟩
    obtain ⟨rfl, rfl, rfl⟩ := civ_one hc hc2
    have := shape_inv (nums s) hsh hho (daysZ (numZ (nums s) 0 4) (numZ (nums s) 4 2) (numZ (nums s) 6 2)) hdr.1
    exact this
  have HN : Hid (pOK (nums s) = false → ∀ t y m d, 0 ≤ t → Civ (t / 86400) y m d → nums s ≠ timeL y m d t) := by
    intro hp t y m d ht hc e
    have := (back_time ht hc).1
    rw [← e, hp] at this
    cases this
  generalize vz (nums s) 0 4 = v0 at *
  generalize vz (nums s) 4 2 = v1 at *
  generalize vz (nums s) 6 2 = v2 at *
  generalize vz (nums s) 9 2 = v3 at *
  generalize vz (nums s) 11 2 = v4 at *
  generalize vz (nums s) 13 2 = v5 at *
  generalize daysV v0 v1 v2 = D at *
  generalize daysE v0 v1 v2 = E at *
  go_enter Tryd.func19, Tryd.ntmps19
  go_wp2_with fail
  go_quiet (first
    | (go_at_call_of 32 (Value.string (s.extract 0 4)); exact Calls.quiet_of_same (c0.out _))
    | (go_at_call_of 32 (Value.string (s.extract 4 6)); exact Calls.quiet_of_same (c1.out _))
    | (go_at_call_of 32 (Value.string (s.extract 6 8)); exact Calls.quiet_of_same (c2.out _))
    | (go_at_call 10; exact Calls.quiet_of_same (cd.out _)))
  have q1 : IntKind.i64.wrap (86400 * D) = 86400 * D := by rw [IntKind.wrap_i64]; omega
  have q2 : IntKind.i64.wrap (3600 * v3) = 3600 * v3 := by rw [IntKind.wrap_i64]; omega
  have q3 : IntKind.i64.wrap (86400 * D + 3600 * v3) = 86400 * D + 3600 * v3 := by rw [IntKind.wrap_i64]; omega
  have q4 : IntKind.i64.wrap (60 * v4) = 60 * v4 := by rw [IntKind.wrap_i64]; omega
  have q5 : IntKind.i64.wrap (86400 * D + 3600 * v3 + 60 * v4) = 86400 * D + 3600 * v3 + 60 * v4 := by rw [IntKind.wrap_i64]; omega
  have q6 : IntKind.i64.wrap (86400 * D + 3600 * v3 + 60 * v4 + v5) = 86400 * D + 3600 * v3 + 60 * v4 + v5 := by rw [IntKind.wrap_i64]; omega
  obtain ⟨W, hW⟩ : ∃ W, w.drewN nq = W := ⟨_, rfl⟩
  have HBW : Hid (Below w.heap.size w W) := by rw [← hW]; exact below_drewN (Below.refl _ _) nq
  rw [hW]
  clear hW c0 c1 c2 cd
  go_wp2_with fail
  go_quiet (first
    | (go_at_call_of 32 (Value.string (s.extract 9 11)); exact Calls.quiet_of_same (c3.out _))
    | (go_at_call_of 32 (Value.string (s.extract 11 13)); exact Calls.quiet_of_same (c4.out _))
    | (go_at_call_of 32 (Value.string (s.extract 13 15)); exact Calls.quiet_of_same (c5.out _)))
  clear q1 q2 q3 q4 q5 q6 c3 c4 c5
  obtain ⟨V, hV⟩ : ∃ V, W.drewN nq = V := ⟨_, rfl⟩
  have HBV : Hid (Below w.heap.size w V) := by rw [← hV]; exact below_drewN HBW.out nq
  rw [hV]
  clear hV HBW
  obtain ⟨t, ht⟩ : ∃ t, 86400 * D + 3600 * v3 + 60 * v4 + v5 = t := ⟨_, rfl⟩
  rw [ht] at HY ⊢
  have ht0 : -10000000 ≤ t := by omega
  have ht1 : t ≤ 300000000000 := by omega
  clear ht
  cases hp : pOK (nums s) with
  | true =>
    obtain ⟨y1, y2, y3, y4⟩ := HY.out hp
    have HR : Hid (pV (nums s) = t ∧ pE (nums s) = 0) := by
      unfold Hid pV pE; rw [if_pos hp, if_pos hp]; exact ⟨y2.symm, rfl⟩
    rw [← y2] at y3 y4
    subst y1
    have HP := rprint_yes t V y3
    have HX : Hid (∀ y m d, Civ (t / 86400) y m d → nums s = timeL y m d t) := y4
    clear y2 y3 y4 HY HN hp
    go_wp2_with fail
    refine HP.mono ?_
    rintro e w1 ⟨⟨y, m, d, x, hc, rfl, hx⟩, hb⟩
    have hxs : x = s := nums_inj (by rw [hx, ← HX.out y m d hc])
    subst hxs
    have HB1 : Hid (Below w.heap.size w w1) := HBV.out.trans (hb.mono HBV.out.size)
    clear hc hx hb HP HX
    go_wp2
    go_ret2
    exact ⟨by rw [HR.out.1, HR.out.2]; rfl, HB1.out⟩
  | false =>
    have HR : Hid (pV (nums s) = 0 ∧ pE (nums s) = 110) := by
      unfold Hid pV pE; rw [hp]; exact ⟨rfl, rfl⟩
    have HX : Hid (∀ y m d, 0 ≤ t → Civ (t / 86400) y m d → nums s ≠ timeL y m d t) := fun y m d => HN.out hp t y m d
    clear HY HN hp
    cases hr : rightB t with
    | false =>
      have HP : Hid (Calls Tryd.prog 17 #[.int .i64 t] V fun e w' => e = .returned (.tuple #[.string ⟨#[]⟩, .int .i64 110]) ∧ V = w') := rprint_no t V hr (by omega) (by omega)
      clear hr
      by_cases hE : E = 0
      · subst hE
        go_wp2_with fail
        refine HP.out.mono ?_
        rintro e w1 ⟨rfl, rfl⟩
        go_wp2
        go_ret2
        exact ⟨by rw [HR.out.1, HR.out.2]; rfl, HBV.out⟩
      · have hE2 : (E != 0) = true := by simp [hE]
        go_wp2_with fail
        refine HP.out.mono ?_
        rintro e w1 ⟨rfl, rfl⟩
        go_wp2
        go_ret2
        exact ⟨by rw [HR.out.1, HR.out.2]; rfl, HBV.out⟩
    | true =>
      have HP := rprint_yes t V hr
      have htt : 0 ≤ t := by simp [rightB] at hr; omega
      clear hr
      go_wp2_with fail
      refine HP.mono ?_
      rintro e w1 ⟨⟨y, m, d, x, hc, rfl, hx⟩, hb⟩
      have hne : (x.toList == s.toList) = false := by
        rw [eq_nums, decide_eq_false_iff_not, hx]
        exact fun q => HX.out y m d htt hc q.symm
      have HB1 : Hid (Below w.heap.size w w1) := HBV.out.trans (hb.mono HBV.out.size)
      have hne2 : ¬ x.toList = s.toList := by simpa using hne
      clear hc hx hb HP HX
      by_cases hE : E = 0
      · subst hE
        go_wp2
        go_ret2
        exact ⟨by rw [HR.out.1, HR.out.2]; rfl, HB1.out⟩
      · have hE2 : (E != 0) = true := by simp [hE]
        go_wp2
        go_ret2
        exact ⟨by rw [HR.out.1, HR.out.2]; rfl, HB1.out⟩
end Go.Proofs.YtkamnphiocoebaaDoor
