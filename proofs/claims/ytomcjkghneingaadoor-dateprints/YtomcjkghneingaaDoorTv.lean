/-
  The document's own dates as texts: the contract of its Print.
-/
import Derived.Test.YtomcjkghneingaaDoorTu
namespace Go.Proofs.YtomcjkghneingaaDoor
open Go.RowKit
set_option linter.unusedVariables false
set_option linter.unusedSimpArgs false

theorem dateB_eq (t s : Int) : dateB t s = (Wn.rightB t && shiftB s && Wn.rightB (t + s)) := by
  unfold dateB timeB Wn.rightB shiftB
  rw [Bool.eq_iff_iff]
  simp only [Bool.and_eq_true, decide_eq_true_eq]
  omega
set_option maxHeartbeats 4000000 in
set_option maxRecDepth 100000 in
theorem rprint_no (t s : Int) (w : World) (t0 : -9223372036854775808 ≤ t) (t1 : t ≤ 9223372036854775807) (s0 : -9223372036854775808 ≤ s) (s1 : s ≤ 9223372036854775807) (h : dateB t s = false) :
    Calls Tryd.prog 10 #[.int .i64 t, .int .i64 s] w fun e w' => e = .returned (.tuple #[.string ⟨#[]⟩, .int .i64 110]) ∧ w = w' := by
  rw [dateB_eq] at h
  have h1 := Wn.rtime_any t w t0 t1
  have h2 := rshift_any s w s0 s1
  cases ht : Wn.rightB t with
  | false =>
    rw [ht] at h1
    clear h h2 ht
    go_enter Tryd.func10, Tryd.ntmps10
    go_wp2_with fail
    refine h1.mono ?_
    rintro e w' ⟨rfl, rfl⟩
    go_wp2
    go_ret2
    exact ⟨rfl, rfl⟩
  | true =>
    rw [ht] at h1 h
    cases hs : shiftB s with
    | false =>
      rw [hs] at h2
      clear h ht hs
      go_enter Tryd.func10, Tryd.ntmps10
      go_wp2_with fail
      refine h1.mono ?_
      rintro e w' ⟨rfl, rfl⟩
      go_wp2_with fail
      refine h2.mono ?_
      rintro e w' ⟨rfl, rfl⟩
      go_wp2
      go_ret2
      exact ⟨rfl, rfl⟩
    | true =>
      rw [hs] at h2 h
      unfold Wn.rightB at ht
      unfold shiftB at hs
      simp only [Bool.and_eq_true, decide_eq_true_eq] at ht hs
      have h3 := Wn.rtime_any (t + s) w (by omega) (by omega)
      rw [show Wn.rightB (t + s) = false by simpa using h] at h3
      obtain ⟨a1, a2⟩ := ht
      obtain ⟨⟨a3, a4⟩, _⟩ := hs
      clear h
      go_enter Tryd.func10, Tryd.ntmps10
      go_wp2_with fail
      refine h1.mono ?_
      rintro e w' ⟨rfl, rfl⟩
      go_wp2_with fail
      refine h2.mono ?_
      rintro e w' ⟨rfl, rfl⟩
      go_wp2_with fail
      refine h3.mono ?_
      rintro e w' ⟨rfl, rfl⟩
      go_wp2
      go_ret2
      exact ⟨rfl, rfl⟩
set_option maxHeartbeats 16000000 in
set_option maxRecDepth 100000 in
theorem rprint_yes (t s : Int) (w : World) (h : dateB t s = true) :
    Calls Tryd.prog 10 #[.int .i64 t, .int .i64 s] w fun e w' => (∃ y m d, Wn.Civ ((t + s) / 86400) y m d ∧ e = .returned (.tuple #[.string (strOfNums (dateL t s y m d)), .int .i64 0])) ∧ Below w.heap.size w w' := by
  obtain ⟨b1, b2, b3, b4, b5, b6, b7⟩ := dateB_iff h
  rw [dateB_eq] at h
  simp only [Bool.and_eq_true] at h
  obtain ⟨⟨e1, e2⟩, e3⟩ := h
  have h1 := Wn.rtime_any t w (by omega) (by omega)
  have h2 := rshift_any s w (by omega) (by omega)
  have h3 := Wn.rtime_any (t + s) w (by omega) (by omega)
  rw [e1] at h1
  rw [e2] at h2
  rw [e3] at h3
  obtain ⟨T, hT⟩ : ∃ T, t + s = T := ⟨_, rfl⟩
  have q1 : Int.tdiv T 86400 = T / 86400 := Int.tdiv_eq_ediv_of_nonneg (by omega)
  have q2 : Int.tmod T 86400 = T % 86400 := Int.tmod_eq_emod_of_nonneg (by omega)
  obtain ⟨D, hD⟩ : ∃ D, T / 86400 = D := ⟨_, rfl⟩
  obtain ⟨C, hC⟩ : ∃ C, T % 86400 = C := ⟨_, rfl⟩
  have c0 : 0 ≤ C := by omega
  have c1 : C < 86400 := by omega
  have n0 : 0 ≤ D := by omega
  have n1 : D ≤ 2932896 := by omega
  have hcv := Wn.rcivil_yes D w n0 n1
  have hwk := rweek_yes D w n0 n1
  obtain ⟨W, hW⟩ : ∃ W, wdZ D = W := ⟨_, rfl⟩
  have w0 : 0 ≤ W := by rw [← hW]; unfold wdZ; omega
  have w1 : W < 7 := by rw [← hW]; unfold wdZ; omega
  rw [hW] at hwk
  have hda := rday_any W w w0 w1
  have HTS : Hid (t + s = T ∧ wdZ D = W ∧ T % 86400 = C ∧ T / 86400 = D) := ⟨hT, hW, hC, hD⟩
  rw [hT] at h3 b6 b7
  rw [hD] at q1
  rw [hC] at q2
  clear e1 e2 e3 hW
  have hTT : t + s = T := hT
  go_enter Tryd.func10, Tryd.ntmps10
  go_wp2_with fail
  refine h1.mono ?_
  clear h1
  rintro e w' ⟨rfl, hw'⟩
  rw [← hw']
  clear hw' w'
  go_wp2_with fail
  refine h2.mono ?_
  clear h2
  rintro e w' ⟨rfl, hw'⟩
  rw [← hw']
  clear hw' w'
  go_wp2_with fail
  refine h3.mono ?_
  clear h3
  rintro e w' ⟨rfl, hw'⟩
  rw [← hw']
  clear hw' w'
  go_wp2_with fail
  refine hcv.mono ?_
  clear hcv
  rintro e w' ⟨⟨y, m, d, hciv, rfl⟩, hw'⟩
  rw [← hw']
  clear hw' w'
  have hdb := (Wn.day_iff y m d).1 hciv.hd
  obtain ⟨y0, y1, m0, m1, d0, d1⟩ := hdb
  have HCV : Hid (Wn.Civ D y m d) := hciv
  have d2 : d ≤ 31 := Int.le_trans d1 (mon31 m0 m1)
  clear hciv d1
  go_wp2_with fail
  refine hwk.mono ?_
  clear hwk
  rintro e w' ⟨rfl, hw'⟩
  rw [← hw']
  clear hw' w'
  obtain ⟨D1, hD1⟩ : ∃ x, strOfNums (dayL W) = x := ⟨_, rfl⟩
  obtain ⟨M1, hM1⟩ : ∃ x, strOfNums (monL m) = x := ⟨_, rfl⟩
  obtain ⟨S1, hS1⟩ : ∃ x, strOfNums (twoL d) = x := ⟨_, rfl⟩
  obtain ⟨S2, hS2⟩ : ∃ x, strOfNums (twoL (y / 100) ++ twoL (y % 100)) = x := ⟨_, rfl⟩
  have H1 : Hid (∀ V, Calls Tryd.prog 27 #[.int .i64 d, .int .i64 2] V fun e w' => e = .returned (.string S1) ∧ Below V.heap.size V w') := fun V => by rw [← hS1]; exact rtwo_any d V (by omega) (by omega)
  have H2 : Hid (∀ V, Calls Tryd.prog 28 #[.int .i64 m] V fun e w' => e = .returned (.string M1) ∧ V = w') := fun V => by rw [← hM1]; exact rmon_any m V m0 m1
  have H3 : Hid (∀ V, Calls Tryd.prog 27 #[.int .i64 y, .int .i64 4] V fun e w' => e = .returned (.string S2) ∧ Below V.heap.size V w') := fun V => by rw [← hS2]; exact rfour_any y V (by omega) (by omega)
  rw [hD1] at hda
  have z0 : D1.size = 3 := by rw [← hD1, so_size, day_len]
  have z1 : M1.size = 3 := by rw [← hM1, so_size, mon_len]
  have z2 : S1.size = 2 := by rw [← hS1, so_size]; rfl
  have z3 : S2.size = 4 := by rw [← hS2, so_size]; rfl
  have HEQ : Hid (strOfNums (dayL W) = D1 ∧ strOfNums (monL m) = M1 ∧ strOfNums (twoL d) = S1 ∧ strOfNums (twoL (y / 100) ++ twoL (y % 100)) = S2) := ⟨hD1, hM1, hS1, hS2⟩
  clear hD1 hM1 hS1 hS2
  go_wp2_with fail
  refine hda.mono ?_
  clear hda
  rintro e w' ⟨rfl, hw'⟩
  rw [← hw']
  clear hw' w'
  go_wp2_with fail
  refine (H1.out w).mono ?_
  rintro e w2 ⟨rfl, hb2⟩
  go_wp2_with fail
  refine (H2.out w2).mono ?_
  rintro e w' ⟨rfl, rfl⟩
  go_wp2_with fail
  refine (H3.out w2).mono ?_
  rintro e w3 ⟨rfl, hb3⟩
  have HB3 : Hid (Below w.heap.size w w3) := hb2.trans (hb3.mono hb2.size)
  clear hb2 hb3 H1 H2 H3
  obtain ⟨O1, hO1⟩ : ∃ x, D1 ++ ⟨#[44, 32]⟩ ++ S1 ++ ⟨#[32]⟩ ++ M1 ++ ⟨#[32]⟩ ++ S2 = x := ⟨_, rfl⟩
  have zO : O1.size = 16 := by
    rw [← hO1]
    simp only [ByteArray.size_append, z0, z1, z2, z3]
    rfl
  have HO1 : Hid (D1 ++ ⟨#[44, 32]⟩ ++ S1 ++ ⟨#[32]⟩ ++ M1 ++ ⟨#[32]⟩ ++ S2 = O1) := hO1
  have c2 : Int.tdiv C 3600 = C / 3600 := Int.tdiv_eq_ediv_of_nonneg c0
  have c3 : Int.tmod C 3600 = C % 3600 := Int.tmod_eq_emod_of_nonneg c0
  have c4 : Int.tdiv (C % 3600) 60 = C % 3600 / 60 := Int.tdiv_eq_ediv_of_nonneg (by omega)
  have c5 : Int.tmod C 60 = C % 60 := Int.tmod_eq_emod_of_nonneg c0
  clear hO1 zO HO1 hT hD hC hTT q1 q2
  obtain ⟨ch, hch⟩ : ∃ x, C / 3600 = x := ⟨_, rfl⟩
  obtain ⟨cr, hcr⟩ : ∃ x, C % 3600 = x := ⟨_, rfl⟩
  rw [hcr] at c3 c4
  obtain ⟨cm, hcm⟩ : ∃ x, cr / 60 = x := ⟨_, rfl⟩
  obtain ⟨cs, hcs⟩ : ∃ x, C % 60 = x := ⟨_, rfl⟩
  rw [hch] at c2
  rw [hcm] at c4
  rw [hcs] at c5
  have e0 : 0 ≤ ch ∧ ch < 100 ∧ 0 ≤ cr ∧ cr < 3600 ∧ 0 ≤ cm ∧ cm < 100 ∧ 0 ≤ cs ∧ cs < 100 := by omega
  obtain ⟨e1, e2, e3, e4, e5, e6, e7, e8⟩ := e0
  obtain ⟨S4, hS4⟩ : ∃ x, strOfNums (twoL ch) = x := ⟨_, rfl⟩
  obtain ⟨S5, hS5⟩ : ∃ x, strOfNums (twoL cm) = x := ⟨_, rfl⟩
  obtain ⟨S6, hS6⟩ : ∃ x, strOfNums (twoL cs) = x := ⟨_, rfl⟩
  have H4 : Hid (∀ V, Calls Tryd.prog 27 #[.int .i64 ch, .int .i64 2] V fun e w' => e = .returned (.string S4) ∧ Below V.heap.size V w') := fun V => by rw [← hS4]; exact rtwo_any ch V (by omega) (by omega)
  have H5 : Hid (∀ V, Calls Tryd.prog 27 #[.int .i64 cm, .int .i64 2] V fun e w' => e = .returned (.string S5) ∧ Below V.heap.size V w') := fun V => by rw [← hS5]; exact rtwo_any cm V (by omega) (by omega)
  have H6 : Hid (∀ V, Calls Tryd.prog 27 #[.int .i64 cs, .int .i64 2] V fun e w' => e = .returned (.string S6) ∧ Below V.heap.size V w') := fun V => by rw [← hS6]; exact rtwo_any cs V (by omega) (by omega)
  have z4 : S4.size = 2 := by rw [← hS4, so_size]; rfl
  have z5 : S5.size = 2 := by rw [← hS5, so_size]; rfl
  have z6 : S6.size = 2 := by rw [← hS6, so_size]; rfl
  have HE2 : Hid (strOfNums (twoL (C / 3600)) = S4 ∧ strOfNums (twoL (C % 3600 / 60)) = S5 ∧ strOfNums (twoL (C % 60)) = S6) := ⟨by rw [hch]; exact hS4, by rw [hcr, hcm]; exact hS5, by rw [hcs]; exact hS6⟩
  clear hch hcr hcm hcs hS4 hS5 hS6
  go_wp2_with fail
  refine (H4.out _).mono ?_
  rintro e w6 ⟨rfl, hb6⟩
  have HB6 : Hid (Below w.heap.size w w6) := HB3.out.trans (hb6.mono HB3.out.size)
  clear hb6
  go_wp2_with fail
  refine (H5.out _).mono ?_
  rintro e w7 ⟨rfl, hb7⟩
  have HB7 : Hid (Below w.heap.size w w7) := HB6.out.trans (hb7.mono HB6.out.size)
  clear hb7
  go_wp2_with fail
  refine (H6.out _).mono ?_
  rintro e w8 ⟨rfl, hb8⟩
  have HB8 : Hid (Below w.heap.size w w8) := HB7.out.trans (hb8.mono HB7.out.size)
  clear hb8 H4 H5 H6 HB3 HB6 HB7 c2 c3 c4 c5
  by_cases ps : s < 0
  · have dps : decide (s < 0) = true := by simpa using ps
    have g1 : Int.tdiv (-s) 3600 = -s / 3600 := Int.tdiv_eq_ediv_of_nonneg (by omega)
    have g2 : Int.tmod (-s) 3600 = -s % 3600 := Int.tmod_eq_emod_of_nonneg (by omega)
    have g3 : Int.tdiv (-s % 3600) 60 = -s % 3600 / 60 := Int.tdiv_eq_ediv_of_nonneg (by omega)
    obtain ⟨sh, hsh⟩ : ∃ x, -s / 3600 = x := ⟨_, rfl⟩
    obtain ⟨sr, hsr⟩ : ∃ x, -s % 3600 = x := ⟨_, rfl⟩
    rw [hsr] at g2 g3
    obtain ⟨sm, hsm⟩ : ∃ x, sr / 60 = x := ⟨_, rfl⟩
    rw [hsh] at g1
    rw [hsm] at g3
    have f0 : 0 ≤ sh ∧ sh < 100 ∧ 0 ≤ sr ∧ sr < 3600 ∧ 0 ≤ sm ∧ sm < 100 := by omega
    obtain ⟨f1, f2, f3, f4, f5, f6⟩ := f0
    obtain ⟨S7, hS7⟩ : ∃ x, strOfNums (twoL sh) = x := ⟨_, rfl⟩
    obtain ⟨S8, hS8⟩ : ∃ x, strOfNums (twoL sm) = x := ⟨_, rfl⟩
    have H7 : Hid (∀ V, Calls Tryd.prog 27 #[.int .i64 sh, .int .i64 2] V fun e w' => e = .returned (.string S7) ∧ Below V.heap.size V w') := fun V => by rw [← hS7]; exact rtwo_any sh V (by omega) (by omega)
    have H8 : Hid (∀ V, Calls Tryd.prog 27 #[.int .i64 sm, .int .i64 2] V fun e w' => e = .returned (.string S8) ∧ Below V.heap.size V w') := fun V => by rw [← hS8]; exact rtwo_any sm V (by omega) (by omega)
    have z7 : S7.size = 2 := by rw [← hS7, so_size]; rfl
    have z8 : S8.size = 2 := by rw [← hS8, so_size]; rfl
    have HE3 : Hid (strOfNums (twoL (-s / 3600)) = S7 ∧ strOfNums (twoL (-s % 3600 / 60)) = S8) := ⟨by rw [hsh]; exact hS7, by rw [hsr, hsm]; exact hS8⟩
    clear hsh hsr hsm hS7 hS8
    go_wp2_with fail
    refine (H7.out _).mono ?_
    rintro e w9 ⟨rfl, hb9⟩
    have HB9 : Hid (Below w.heap.size w w9) := HB8.out.trans (hb9.mono HB8.out.size)
    clear hb9
    go_wp2_with fail
    refine (H8.out _).mono ?_
    rintro e wa ⟨rfl, hba⟩
    have HBA : Hid (Below w.heap.size w wa) := HB9.out.trans (hba.mono HB9.out.size)
    clear hba
    go_wp2
    go_ret2
    refine ⟨⟨y, m, d, by rw [show (t + s) / 86400 = D by rw [HTS.out.1]; exact HTS.out.2.2.2]; exact HCV.out, ?_⟩, HBA.out⟩
    have HS : strOfNums (dateL t s y m d) = D1 ++ ⟨#[44, 32]⟩ ++ S1 ++ ⟨#[32]⟩ ++ M1 ++ ⟨#[32]⟩ ++ S2 ++ ⟨#[32]⟩ ++ S4 ++ ⟨#[58]⟩ ++ S5 ++ ⟨#[58]⟩ ++ S6 ++ ⟨#[32, 45]⟩ ++ S7 ++ S8 := by
      unfold dateL
      rw [HTS.out.1, HTS.out.2.2.2, HTS.out.2.1, HTS.out.2.2.1, if_pos (show s < 0 by omega), if_pos (show s < 0 by omega)]
      rw [← HEQ.out.1, ← HEQ.out.2.1, ← HEQ.out.2.2.1, ← HEQ.out.2.2.2, ← HE2.out.1, ← HE2.out.2.1, ← HE2.out.2.2, ← HE3.out.1, ← HE3.out.2]
      simp only [← str_append, ByteArray.append_assoc]
      rfl
    rw [HS]
    rfl
  · have dps : decide (s < 0) = false := by simpa using ps
    have g1 : Int.tdiv s 3600 = s / 3600 := Int.tdiv_eq_ediv_of_nonneg (by omega)
    have g2 : Int.tmod s 3600 = s % 3600 := Int.tmod_eq_emod_of_nonneg (by omega)
    have g3 : Int.tdiv (s % 3600) 60 = s % 3600 / 60 := Int.tdiv_eq_ediv_of_nonneg (by omega)
    obtain ⟨sh, hsh⟩ : ∃ x, s / 3600 = x := ⟨_, rfl⟩
    obtain ⟨sr, hsr⟩ : ∃ x, s % 3600 = x := ⟨_, rfl⟩
    rw [hsr] at g2 g3
    obtain ⟨sm, hsm⟩ : ∃ x, sr / 60 = x := ⟨_, rfl⟩
    rw [hsh] at g1
    rw [hsm] at g3
    have f0 : 0 ≤ sh ∧ sh < 100 ∧ 0 ≤ sr ∧ sr < 3600 ∧ 0 ≤ sm ∧ sm < 100 := by omega
    obtain ⟨f1, f2, f3, f4, f5, f6⟩ := f0
    obtain ⟨S7, hS7⟩ : ∃ x, strOfNums (twoL sh) = x := ⟨_, rfl⟩
    obtain ⟨S8, hS8⟩ : ∃ x, strOfNums (twoL sm) = x := ⟨_, rfl⟩
    have H7 : Hid (∀ V, Calls Tryd.prog 27 #[.int .i64 sh, .int .i64 2] V fun e w' => e = .returned (.string S7) ∧ Below V.heap.size V w') := fun V => by rw [← hS7]; exact rtwo_any sh V (by omega) (by omega)
    have H8 : Hid (∀ V, Calls Tryd.prog 27 #[.int .i64 sm, .int .i64 2] V fun e w' => e = .returned (.string S8) ∧ Below V.heap.size V w') := fun V => by rw [← hS8]; exact rtwo_any sm V (by omega) (by omega)
    have z7 : S7.size = 2 := by rw [← hS7, so_size]; rfl
    have z8 : S8.size = 2 := by rw [← hS8, so_size]; rfl
    have HE3 : Hid (strOfNums (twoL (s / 3600)) = S7 ∧ strOfNums (twoL (s % 3600 / 60)) = S8) := ⟨by rw [hsh]; exact hS7, by rw [hsr, hsm]; exact hS8⟩
    clear hsh hsr hsm hS7 hS8
    go_wp2_with fail
    refine (H7.out _).mono ?_
    rintro e w9 ⟨rfl, hb9⟩
    have HB9 : Hid (Below w.heap.size w w9) := HB8.out.trans (hb9.mono HB8.out.size)
    clear hb9
    go_wp2_with fail
    refine (H8.out _).mono ?_
    rintro e wa ⟨rfl, hba⟩
    have HBA : Hid (Below w.heap.size w wa) := HB9.out.trans (hba.mono HB9.out.size)
    clear hba
    go_wp2
    go_ret2
    refine ⟨⟨y, m, d, by rw [show (t + s) / 86400 = D by rw [HTS.out.1]; exact HTS.out.2.2.2]; exact HCV.out, ?_⟩, HBA.out⟩
    have HS : strOfNums (dateL t s y m d) = D1 ++ ⟨#[44, 32]⟩ ++ S1 ++ ⟨#[32]⟩ ++ M1 ++ ⟨#[32]⟩ ++ S2 ++ ⟨#[32]⟩ ++ S4 ++ ⟨#[58]⟩ ++ S5 ++ ⟨#[58]⟩ ++ S6 ++ ⟨#[32, 43]⟩ ++ S7 ++ S8 := by
      unfold dateL
      rw [HTS.out.1, HTS.out.2.2.2, HTS.out.2.1, HTS.out.2.2.1, if_neg (show ¬ s < 0 by omega), if_neg (show ¬ s < 0 by omega)]
      rw [← HEQ.out.1, ← HEQ.out.2.1, ← HEQ.out.2.2.1, ← HEQ.out.2.2.2, ← HE2.out.1, ← HE2.out.2.1, ← HE2.out.2.2, ← HE3.out.1, ← HE3.out.2]
      simp only [← str_append, ByteArray.append_assoc]
      rfl
    rw [HS]
    rfl
end Go.Proofs.YtomcjkghneingaaDoor
