/-
  Dates: the contract of Print.
-/
import Derived.Test.YtomcjkghneingabDoorTa
import Derived.Deep.RegionHeld3
namespace Go.Proofs.YtomcjkghneingabDoor
open Go.RowKit
set_option linter.unusedVariables false
set_option linter.unusedSimpArgs false

theorem so_size (l : List Int) : (strOfNums l).size = l.length := by
  have : (strOfNums l).data.toList.length = l.length := by rw [strOfNums_data, List.length_map]
  rw [← this, Array.length_toList]; rfl
def dayL (n : Int) : List Int := if n = 0 then [77, 111, 110] else if n = 1 then [84, 117, 101] else if n = 2 then [87, 101, 100] else if n = 3 then [84, 104, 117] else if n = 4 then [70, 114, 105] else if n = 5 then [83, 97, 116] else [83, 117, 110]
def monL (n : Int) : List Int := if n = 1 then [74, 97, 110] else if n = 2 then [70, 101, 98] else if n = 3 then [77, 97, 114] else if n = 4 then [65, 112, 114] else if n = 5 then [77, 97, 121] else if n = 6 then [74, 117, 110] else if n = 7 then [74, 117, 108] else if n = 8 then [65, 117, 103] else if n = 9 then [83, 101, 112] else if n = 10 then [79, 99, 116] else if n = 11 then [78, 111, 118] else [68, 101, 99]
theorem day_len (n : Int) : (dayL n).length = 3 := by unfold dayL; repeat' split
                                                      all_goals rfl
theorem mon_len (n : Int) : (monL n).length = 3 := by unfold monL; repeat' split
                                                      all_goals rfl
/-- What lies of the tables. -/
structure Gl (w : World) : Prop where
  ah : Wn.Ah w
  dn : ∀ i : Nat, i < 7 → w.cell? ⟨0, i, none⟩ = some (.string (strOfNums (dayL i)))
  mn : ∀ i : Nat, i < 12 → w.cell? ⟨1, i, none⟩ = some (.string (strOfNums (monL (i + 1))))
theorem cell_keep {w V : World} {a : Addr} {v : Value} (hb : Below w.heap.size w V) (h : w.cell? a = some v) : V.cell? a = some v := (hb.cell (World.block_lt_of_cell? w _ h)).trans h
theorem Gl.below {w w' : World} (h : Gl w) (b : Below w.heap.size w w') : Gl w' := ⟨h.ah.below b, fun i hi => cell_keep b (h.dn i hi), fun i hi => cell_keep b (h.mn i hi)⟩
def dateL (t s y m d : Int) : List Int :=
  (((dayL (wdZ ((t + s) / 86400)) ++ [44, 32] ++ twoL d ++ [32] ++ monL m ++ [32] ++ twoL (y / 100) ++ twoL (y % 100)) ++
    ([32] ++ twoL ((t + s) % 86400 / 3600) ++ [58] ++ twoL ((t + s) % 86400 % 3600 / 60) ++ [58] ++ twoL ((t + s) % 86400 % 60))) ++
    (if s < 0 then [32, 45] else [32, 43])) ++ twoL ((if s < 0 then -s else s) / 3600) ++ twoL ((if s < 0 then -s else s) % 3600 / 60)
set_option maxRecDepth 100000 in
theorem print_no (t s : Int) (w : World) (t0 : -9223372036854775808 ≤ t) (t1 : t ≤ 9223372036854775807) (s0 : -9223372036854775808 ≤ s) (s1 : s ≤ 9223372036854775807) (h : dateB t s = false) :
    Calls Tryd.prog 6 #[.int .i64 t, .int .i64 s] w fun e w' => e = .returned (.tuple #[.string ⟨#[]⟩, .int .i64 110]) ∧ w = w' := by
  have hd := isDate_any t s w t0 t1 s0 s1
  rw [h] at hd
  go_enter Tryd.func6, Tryd.ntmps6
  go_wp2_with fail
  refine hd.mono ?_
  rintro e w' ⟨rfl, rfl⟩
  go_wp2
  go_ret2
  exact ⟨rfl, rfl⟩
theorem dateB_iff {t s : Int} (h : dateB t s = true) : -86340 ≤ s ∧ s ≤ 86340 ∧ s % 60 = 0 ∧ 0 ≤ t ∧ t ≤ 253402300799 ∧ 0 ≤ t + s ∧ t + s ≤ 253402300799 := by
  unfold dateB timeB at h
  simp only [Bool.and_eq_true, decide_eq_true_eq] at h
  omega
theorem wrap_small {x : Int} (h0 : 0 ≤ x) (h1 : x < 1000) : IntKind.i64.wrap x = x := by
  rw [IntKind.wrap_i64]
  omega
theorem mon31 {y m : Int} (h0 : 1 ≤ m) (h1 : m ≤ 12) : Wn.monZ y m ≤ 31 := by
  have h : m = 1 ∨ m = 2 ∨ m = 3 ∨ m = 4 ∨ m = 5 ∨ m = 6 ∨ m = 7 ∨ m = 8 ∨ m = 9 ∨ m = 10 ∨ m = 11 ∨ m = 12 := by omega
  unfold Wn.monZ Wn.msZ
  cases hb : Wn.leapB y <;> rcases h with rfl | rfl | rfl | rfl | rfl | rfl | rfl | rfl | rfl | rfl | rfl | rfl <;> decide
theorem str3 (a b c : List Int) : strOfNums (a ++ b ++ c) = strOfNums a ++ strOfNums b ++ strOfNums c := by rw [← str_append, ← str_append]
set_option maxHeartbeats 16000000 in
set_option maxRecDepth 100000 in
theorem print_yes (t s : Int) (w : World) (h : dateB t s = true) (hg : Gl w) :
    Calls Tryd.prog 6 #[.int .i64 t, .int .i64 s] w fun e w' => (∃ y m d, Wn.Civ ((t + s) / 86400) y m d ∧ e = .returned (.tuple #[.string (strOfNums (dateL t s y m d)), .int .i64 0])) ∧ Below w.heap.size w w' := by
  obtain ⟨b1, b2, b3, b4, b5, b6, b7⟩ := dateB_iff h
  have hd := isDate_any t s w (by omega) (by omega) (by omega) (by omega)
  rw [h] at hd
  obtain ⟨T, hT⟩ : ∃ T, t + s = T := ⟨_, rfl⟩
  have n0 : 0 ≤ T / 86400 := by omega
  have n1 : T / 86400 ≤ 2932896 := by omega
  have HG : Hid (Gl w) := hg
  have hwd := wd_yes (T / 86400) w n0 n1 hg.ah
  have hcv := Wn.civil_yes (T / 86400) w n0 n1 hg.ah
  have hq : Int.tdiv T 86400 = T / 86400 := Int.tdiv_eq_ediv_of_nonneg (by omega)
  have hr : Int.tmod T 86400 = T % 86400 := Int.tmod_eq_emod_of_nonneg (by omega)
  obtain ⟨W, hW⟩ : ∃ W, wdZ (T / 86400) = W := ⟨_, rfl⟩
  have hw0 : 0 ≤ W := by rw [← hW]; unfold wdZ; omega
  have hw7 : W < 7 := by rw [← hW]; unfold wdZ; omega
  obtain ⟨C, hC⟩ : ∃ C, T % 86400 = C := ⟨_, rfl⟩
  have c0 : 0 ≤ C := by omega
  have c1 : C < 86400 := by omega
  obtain ⟨D, hD⟩ : ∃ D, T / 86400 = D := ⟨_, rfl⟩
  have HTS : Hid (t + s = T ∧ wdZ (T / 86400) = W ∧ T % 86400 = C ∧ T / 86400 = D) := ⟨hT, hW, hC, hD⟩
  rw [hW] at hwd
  rw [hD] at hwd hcv hq n0 n1
  rw [hC] at hr
  clear h hg hW
  go_enter Tryd.func6, Tryd.ntmps6
  go_wp2_with fail
  refine hd.mono ?_
  clear hd
  rintro e w' ⟨rfl, hw'⟩
  rw [← hw']
  clear hw' w'
  go_wp2_with fail
  refine hwd.mono ?_
  clear hwd
  rintro e w' ⟨rfl, hw'⟩
  rw [← hw']
  clear hw' w'
  go_wp2_with fail
  refine hcv.mono ?_
  clear hcv
  rintro e w' ⟨⟨y, m, d, hciv, rfl⟩, hw'⟩
  rw [← hw']
  clear hw' w'
  have hdb := hciv.hd
  unfold Wn.dayB at hdb
  simp only [decide_eq_true_eq] at hdb
  obtain ⟨y0, y1, m0, m1, d0, d1⟩ := hdb
  have HCV : Hid (Wn.Civ D y m d) := hciv
  have d2 : d ≤ 31 := Int.le_trans d1 (mon31 m0 m1)
  clear hciv d1
  obtain ⟨wn, hwn⟩ : ∃ wn : Nat, W = wn := ⟨W.toNat, by omega⟩
  obtain ⟨mn, hmn⟩ : ∃ mn : Nat, m = (mn : Int) + 1 := ⟨(m - 1).toNat, by omega⟩
  have hx0 := HG.out.dn wn (by omega)
  have hx1 := HG.out.mn mn (by omega)
  subst hwn
  have hmt : m.toNat - 1 = mn := by omega
  have HMN : Hid (m = (mn : Int) + 1) := hmn
  obtain ⟨D1, hD1⟩ : ∃ x, strOfNums (dayL wn) = x := ⟨_, rfl⟩
  obtain ⟨M1, hM1⟩ : ∃ x, strOfNums (monL (mn + 1)) = x := ⟨_, rfl⟩
  have x0 : w.cell? ⟨0, wn, none⟩ = some (.string D1) := by rw [← hD1]; exact hx0
  have x1 : w.cell? ⟨1, mn, none⟩ = some (.string M1) := by rw [← hM1]; exact hx1
  clear hx0 hx1
  have hyq : Int.tdiv y 100 = y / 100 := Int.tdiv_eq_ediv_of_nonneg (by omega)
  have hyr : Int.tmod y 100 = y % 100 := Int.tmod_eq_emod_of_nonneg (by omega)
  obtain ⟨yq, hYQ⟩ : ∃ x, y / 100 = x := ⟨_, rfl⟩
  obtain ⟨yr, hYR⟩ : ∃ x, y % 100 = x := ⟨_, rfl⟩
  have yq0 : 0 ≤ yq := by omega
  have yq1 : yq < 100 := by omega
  have yr0 : 0 ≤ yr := by omega
  have yr1 : yr < 100 := by omega
  rw [hYQ] at hyq
  rw [hYR] at hyr
  obtain ⟨S1, hS1'⟩ : ∃ x, strOfNums (twoL d) = x := ⟨_, rfl⟩
  obtain ⟨S2, hS2'⟩ : ∃ x, strOfNums (twoL yq) = x := ⟨_, rfl⟩
  obtain ⟨S3, hS3'⟩ : ∃ x, strOfNums (twoL yr) = x := ⟨_, rfl⟩
  have H1 : Hid (∀ V, Calls Tryd.prog 12 #[.int .i64 d] V fun e w' => e = .returned (.string S1) ∧ Below V.heap.size V w') := fun V => by rw [← hS1']; exact two_any d V (by omega) (by omega)
  have H2 : Hid (∀ V, Calls Tryd.prog 12 #[.int .i64 yq] V fun e w' => e = .returned (.string S2) ∧ Below V.heap.size V w') := fun V => by rw [← hS2']; exact two_any yq V (by omega) (by omega)
  have H3 : Hid (∀ V, Calls Tryd.prog 12 #[.int .i64 yr] V fun e w' => e = .returned (.string S3) ∧ Below V.heap.size V w') := fun V => by rw [← hS3']; exact two_any yr V (by omega) (by omega)
  have z0 : D1.size = 3 := by rw [← hD1, so_size, day_len]
  have z1 : M1.size = 3 := by rw [← hM1, so_size, mon_len]
  have z2 : S1.size = 2 := by rw [← hS1', so_size]; rfl
  have z3 : S2.size = 2 := by rw [← hS2', so_size]; rfl
  have z4 : S3.size = 2 := by rw [← hS3', so_size]; rfl
  have HEQ : Hid (strOfNums (dayL wn) = D1 ∧ strOfNums (monL (mn + 1)) = M1 ∧ strOfNums (twoL d) = S1 ∧ strOfNums (twoL (y / 100)) = S2 ∧ strOfNums (twoL (y % 100)) = S3) := ⟨hD1, hM1, hS1', by rw [hYQ]; exact hS2', by rw [hYR]; exact hS3'⟩
  clear hD1 hM1 hS1' hS2' hS3' hYQ hYR
  have i0 : (wn : Int) < 7 := by omega
  have i1 : (mn : Int) < 12 := by omega
  have i2 : (0 : Int) ≤ (wn : Int) := by omega
  have i3 : (0 : Int) ≤ (mn : Int) := by omega
  have hws : IntKind.i64.wrap (m - 1) = (mn : Int) := by rw [show m - 1 = (mn : Int) by omega]; exact wrap_small (by omega) (by omega)
  have hws2 : IntKind.i64.wrap yq = yq := wrap_small (by omega) (by omega)
  have hws3 : IntKind.i64.wrap yr = yr := wrap_small (by omega) (by omega)
  clear hmn hmt
  go_wp2_with fail
  go_region_held3 (fun V => Below w.heap.size w V ∧ V.cell? ⟨0, wn, none⟩ = some (.string D1) ∧ V.cell? ⟨1, mn, none⟩ = some (.string M1)) (refine ⟨?_, ?_, ?_⟩ <;> first | assumption | exact (below_drewN (Below.refl _ _) 1) | simp [*]) (first
    | (go_at_call_of 12 (Value.int IntKind.i64 d); refine (H1.out _).mono ?_; rintro e w5 ⟨rfl, hb5⟩; have hB5 : Below w.heap.size w w5 := (show Below w.heap.size w _ by first | assumption | exact (below_drewN (Below.refl _ _) 1)).trans (hb5.mono (show Below w.heap.size w _ by first | assumption | exact (below_drewN (Below.refl _ _) 1)).size); have hS1 : w5.cell? ⟨0, wn, none⟩ = some (.string D1) := cell_keep hB5 x0; have hS2 : w5.cell? ⟨1, mn, none⟩ = some (.string M1) := cell_keep hB5 x1; clear hb5)
    | (go_at_call_of 12 (Value.int IntKind.i64 yq); refine (H2.out _).mono ?_; rintro e w5 ⟨rfl, hb5⟩; have hB5 : Below w.heap.size w w5 := (show Below w.heap.size w _ by first | assumption | exact (below_drewN (Below.refl _ _) 1)).trans (hb5.mono (show Below w.heap.size w _ by first | assumption | exact (below_drewN (Below.refl _ _) 1)).size); have hS1 : w5.cell? ⟨0, wn, none⟩ = some (.string D1) := cell_keep hB5 x0; have hS2 : w5.cell? ⟨1, mn, none⟩ = some (.string M1) := cell_keep hB5 x1; clear hb5)
    | (go_at_call_of 12 (Value.int IntKind.i64 yr); refine (H3.out _).mono ?_; rintro e w5 ⟨rfl, hb5⟩; have hB5 : Below w.heap.size w w5 := (show Below w.heap.size w _ by first | assumption | exact (below_drewN (Below.refl _ _) 1)).trans (hb5.mono (show Below w.heap.size w _ by first | assumption | exact (below_drewN (Below.refl _ _) 1)).size); have hS1 : w5.cell? ⟨0, wn, none⟩ = some (.string D1) := cell_keep hB5 x0; have hS2 : w5.cell? ⟨1, mn, none⟩ = some (.string M1) := cell_keep hB5 x1; clear hb5))
  have HB5 : Hid (Below w.heap.size w w5) := hB5
  clear hB5 hS1 hS2 x0 x1 H1 H2 H3 hyq hyr hws hws2 hws3 i0 i1 i2 i3 hq hr hT hC hD
  obtain ⟨O1, hO1⟩ : ∃ x, D1 ++ ⟨#[44, 32]⟩ ++ S1 ++ ⟨#[32]⟩ ++ M1 ++ ⟨#[32]⟩ ++ S2 ++ S3 = x := ⟨_, rfl⟩
  have zO : O1.size = 16 := by
    rw [← hO1]
    simp only [ByteArray.size_append, z0, z1, z2, z3, z4]
    rfl
  rw [hO1]
  have HO1 : Hid (D1 ++ ⟨#[44, 32]⟩ ++ S1 ++ ⟨#[32]⟩ ++ M1 ++ ⟨#[32]⟩ ++ S2 ++ S3 = O1) := hO1
  clear hO1 z0 z1 z2 z3 z4
  have c2 : Int.tdiv C 3600 = C / 3600 := Int.tdiv_eq_ediv_of_nonneg c0
  have c3 : Int.tmod C 3600 = C % 3600 := Int.tmod_eq_emod_of_nonneg c0
  have c4 : Int.tdiv (C % 3600) 60 = C % 3600 / 60 := Int.tdiv_eq_ediv_of_nonneg (by omega)
  have c5 : Int.tmod C 60 = C % 60 := Int.tmod_eq_emod_of_nonneg c0
  obtain ⟨ch, hch⟩ : ∃ x, C / 3600 = x := ⟨_, rfl⟩
  obtain ⟨cr, hcr⟩ : ∃ x, C % 3600 = x := ⟨_, rfl⟩
  rw [hcr] at c3 c4
  obtain ⟨cm, hcm⟩ : ∃ x, cr / 60 = x := ⟨_, rfl⟩
  obtain ⟨cs, hcs⟩ : ∃ x, C % 60 = x := ⟨_, rfl⟩
  rw [hch] at c2
  rw [hcm] at c4
  rw [hcs] at c5
  have e0 : 0 ≤ ch ∧ ch < 100 ∧ 0 ≤ cr ∧ cr < 3600 ∧ 0 ≤ cm ∧ cm < 100 ∧ 0 ≤ cs ∧ cs < 100 := by omega
  obtain ⟨e1, e2, e3, e4, e5, e6, e7, e8⟩ := e0
  obtain ⟨S4, hS4⟩ : ∃ x, strOfNums (twoL ch) = x := ⟨_, rfl⟩
  obtain ⟨S5, hS5⟩ : ∃ x, strOfNums (twoL cm) = x := ⟨_, rfl⟩
  obtain ⟨S6, hS6⟩ : ∃ x, strOfNums (twoL cs) = x := ⟨_, rfl⟩
  have H4 : Hid (∀ V, Calls Tryd.prog 12 #[.int .i64 ch] V fun e w' => e = .returned (.string S4) ∧ Below V.heap.size V w') := fun V => by rw [← hS4]; exact two_any ch V (by omega) (by omega)
  have H5 : Hid (∀ V, Calls Tryd.prog 12 #[.int .i64 cm] V fun e w' => e = .returned (.string S5) ∧ Below V.heap.size V w') := fun V => by rw [← hS5]; exact two_any cm V (by omega) (by omega)
  have H6 : Hid (∀ V, Calls Tryd.prog 12 #[.int .i64 cs] V fun e w' => e = .returned (.string S6) ∧ Below V.heap.size V w') := fun V => by rw [← hS6]; exact two_any cs V (by omega) (by omega)
  have z4 : S4.size = 2 := by rw [← hS4, so_size]; rfl
  have z5 : S5.size = 2 := by rw [← hS5, so_size]; rfl
  have z6 : S6.size = 2 := by rw [← hS6, so_size]; rfl
  have HE2 : Hid (strOfNums (twoL (C / 3600)) = S4 ∧ strOfNums (twoL (C % 3600 / 60)) = S5 ∧ strOfNums (twoL (C % 60)) = S6) := ⟨by rw [hch]; exact hS4, by rw [hcr, hcm]; exact hS5, by rw [hcs]; exact hS6⟩
  clear hch hcr hcm hcs hS4 hS5 hS6
  go_wp2_with fail
  refine (H4.out _).mono ?_
  rintro e w6 ⟨rfl, hb6⟩
  have HB6 : Hid (Below w.heap.size w w6) := HB5.out.trans (hb6.mono HB5.out.size)
  clear hb6
  go_wp2_with fail
  refine (H5.out _).mono ?_
  rintro e w7 ⟨rfl, hb7⟩
  have HB7 : Hid (Below w.heap.size w w7) := HB6.out.trans (hb7.mono HB6.out.size)
  clear hb7
  go_wp2_with fail
  refine (H6.out _).mono ?_
  rintro e w8 ⟨rfl, hb8⟩
  have HB8 : Hid (Below w.heap.size w w8) := HB7.out.trans (hb8.mono HB7.out.size)
  clear hb8 H4 H5 H6 HB5 HB6 HB7 c2 c3 c4 c5
  by_cases ps : s < 0
  · have dps : decide (s < 0) = true := by simpa using ps
    have g1 : Int.tdiv (-s) 3600 = -s / 3600 := Int.tdiv_eq_ediv_of_nonneg (by omega)
    have g2 : Int.tmod (-s) 3600 = -s % 3600 := Int.tmod_eq_emod_of_nonneg (by omega)
    have g3 : Int.tdiv (-s % 3600) 60 = -s % 3600 / 60 := Int.tdiv_eq_ediv_of_nonneg (by omega)
    obtain ⟨sh, hsh⟩ : ∃ x, -s / 3600 = x := ⟨_, rfl⟩
    obtain ⟨sr, hsr⟩ : ∃ x, -s % 3600 = x := ⟨_, rfl⟩
    rw [hsr] at g2 g3
    obtain ⟨sm, hsm⟩ : ∃ x, sr / 60 = x := ⟨_, rfl⟩
    rw [hsh] at g1
    rw [hsm] at g3
    have f0 : 0 ≤ sh ∧ sh < 100 ∧ 0 ≤ sr ∧ sr < 3600 ∧ 0 ≤ sm ∧ sm < 100 := by omega
    obtain ⟨f1, f2, f3, f4, f5, f6⟩ := f0
    obtain ⟨S7, hS7⟩ : ∃ x, strOfNums (twoL sh) = x := ⟨_, rfl⟩
    obtain ⟨S8, hS8⟩ : ∃ x, strOfNums (twoL sm) = x := ⟨_, rfl⟩
    have H7 : Hid (∀ V, Calls Tryd.prog 12 #[.int .i64 sh] V fun e w' => e = .returned (.string S7) ∧ Below V.heap.size V w') := fun V => by rw [← hS7]; exact two_any sh V (by omega) (by omega)
    have H8 : Hid (∀ V, Calls Tryd.prog 12 #[.int .i64 sm] V fun e w' => e = .returned (.string S8) ∧ Below V.heap.size V w') := fun V => by rw [← hS8]; exact two_any sm V (by omega) (by omega)
    have z7 : S7.size = 2 := by rw [← hS7, so_size]; rfl
    have z8 : S8.size = 2 := by rw [← hS8, so_size]; rfl
    have HE3 : Hid (strOfNums (twoL (-s / 3600)) = S7 ∧ strOfNums (twoL (-s % 3600 / 60)) = S8) := ⟨by rw [hsh]; exact hS7, by rw [hsr, hsm]; exact hS8⟩
    clear hsh hsr hsm hS7 hS8
    go_wp2_with fail
    refine (H7.out _).mono ?_
    rintro e w9 ⟨rfl, hb9⟩
    have HB9 : Hid (Below w.heap.size w w9) := HB8.out.trans (hb9.mono HB8.out.size)
    clear hb9
    go_wp2_with fail
    refine (H8.out _).mono ?_
    rintro e wa ⟨rfl, hba⟩
    have HBA : Hid (Below w.heap.size w wa) := HB9.out.trans (hba.mono HB9.out.size)
    clear hba
    go_wp2
    go_ret2
    refine ⟨⟨y, m, d, by rw [show (t + s) / 86400 = D by rw [HTS.out.1]; exact HTS.out.2.2.2]; exact HCV.out, ?_⟩, HBA.out⟩
    have HS : strOfNums (dateL t s y m d) = O1 ++ (⟨#[32]⟩ ++ S4 ++ ⟨#[58]⟩ ++ S5 ++ ⟨#[58]⟩ ++ S6) ++ ⟨#[32, 45]⟩ ++ S7 ++ S8 := by
      unfold dateL
      rw [HTS.out.1, HTS.out.2.1, HTS.out.2.2.1, if_pos (show s < 0 by omega), if_pos (show s < 0 by omega)]
      simp only [← str_append]
      rw [HEQ.out.1, HEQ.out.2.2.1, HEQ.out.2.2.2.1, HEQ.out.2.2.2.2, HE2.out.1, HE2.out.2.1, HE2.out.2.2, HE3.out.1, HE3.out.2, HMN.out, HEQ.out.2.1, ← HO1.out]
      rfl
    rw [HS]
    rfl
  · have dps : decide (s < 0) = false := by simpa using ps
    have g1 : Int.tdiv s 3600 = s / 3600 := Int.tdiv_eq_ediv_of_nonneg (by omega)
    have g2 : Int.tmod s 3600 = s % 3600 := Int.tmod_eq_emod_of_nonneg (by omega)
    have g3 : Int.tdiv (s % 3600) 60 = s % 3600 / 60 := Int.tdiv_eq_ediv_of_nonneg (by omega)
    obtain ⟨sh, hsh⟩ : ∃ x, s / 3600 = x := ⟨_, rfl⟩
    obtain ⟨sr, hsr⟩ : ∃ x, s % 3600 = x := ⟨_, rfl⟩
    rw [hsr] at g2 g3
    obtain ⟨sm, hsm⟩ : ∃ x, sr / 60 = x := ⟨_, rfl⟩
    rw [hsh] at g1
    rw [hsm] at g3
    have f0 : 0 ≤ sh ∧ sh < 100 ∧ 0 ≤ sr ∧ sr < 3600 ∧ 0 ≤ sm ∧ sm < 100 := by omega
    obtain ⟨f1, f2, f3, f4, f5, f6⟩ := f0
    obtain ⟨S7, hS7⟩ : ∃ x, strOfNums (twoL sh) = x := ⟨_, rfl⟩
    obtain ⟨S8, hS8⟩ : ∃ x, strOfNums (twoL sm) = x := ⟨_, rfl⟩
    have H7 : Hid (∀ V, Calls Tryd.prog 12 #[.int .i64 sh] V fun e w' => e = .returned (.string S7) ∧ Below V.heap.size V w') := fun V => by rw [← hS7]; exact two_any sh V (by omega) (by omega)
    have H8 : Hid (∀ V, Calls Tryd.prog 12 #[.int .i64 sm] V fun e w' => e = .returned (.string S8) ∧ Below V.heap.size V w') := fun V => by rw [← hS8]; exact two_any sm V (by omega) (by omega)
    have z7 : S7.size = 2 := by rw [← hS7, so_size]; rfl
    have z8 : S8.size = 2 := by rw [← hS8, so_size]; rfl
    have HE3 : Hid (strOfNums (twoL (s / 3600)) = S7 ∧ strOfNums (twoL (s % 3600 / 60)) = S8) := ⟨by rw [hsh]; exact hS7, by rw [hsr, hsm]; exact hS8⟩
    clear hsh hsr hsm hS7 hS8
    go_wp2_with fail
    refine (H7.out _).mono ?_
    rintro e w9 ⟨rfl, hb9⟩
    have HB9 : Hid (Below w.heap.size w w9) := HB8.out.trans (hb9.mono HB8.out.size)
    clear hb9
    go_wp2_with fail
    refine (H8.out _).mono ?_
    rintro e wa ⟨rfl, hba⟩
    have HBA : Hid (Below w.heap.size w wa) := HB9.out.trans (hba.mono HB9.out.size)
    clear hba
    go_wp2
    go_ret2
    refine ⟨⟨y, m, d, by rw [show (t + s) / 86400 = D by rw [HTS.out.1]; exact HTS.out.2.2.2]; exact HCV.out, ?_⟩, HBA.out⟩
    have HS : strOfNums (dateL t s y m d) = O1 ++ (⟨#[32]⟩ ++ S4 ++ ⟨#[58]⟩ ++ S5 ++ ⟨#[58]⟩ ++ S6) ++ ⟨#[32, 43]⟩ ++ S7 ++ S8 := by
      unfold dateL
      rw [HTS.out.1, HTS.out.2.1, HTS.out.2.2.1, if_neg (show ¬ s < 0 by omega), if_neg (show ¬ s < 0 by omega)]
      simp only [← str_append]
      rw [HEQ.out.1, HEQ.out.2.2.1, HEQ.out.2.2.2.1, HEQ.out.2.2.2.2, HE2.out.1, HE2.out.2.1, HE2.out.2.2, HE3.out.1, HE3.out.2, HMN.out, HEQ.out.2.1, ← HO1.out]
      rfl
    rw [HS]
    rfl
end Go.Proofs.YtomcjkghneingabDoor
