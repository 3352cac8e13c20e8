/-
  What a date's text says, and that what is written is read as it was.
-/
import Derived.Test.YtomcjkghneingabDoorTn
namespace Go.Proofs.YtomcjkghneingabDoor
open Go.RowKit Go.Shelf
set_option linter.unusedVariables false
set_option linter.unusedSimpArgs false

def pieceL (l : List Int) (k : Nat) : Int × Bool := numD ((l.drop (3 * k)).take 2) 2 2
/-- What a clock's text says: seconds, and whether it is one. -/
def clockL (l : List Int) : Int × Bool :=
  if l.length ≠ 5 ∧ l.length ≠ 8 then (0, false)
  else if (pieceL l 0).2 = false then (0, false)
  else if (pieceL l 1).2 = false ∨ l.getD 2 0 ≠ 58 then (0, false)
  else if l.length = 5 then finN (pieceL l 0).1 (pieceL l 1).1 0
  else if (pieceL l 2).2 = false ∨ l.getD 5 0 ≠ 58 then (0, false)
  else finN (pieceL l 0).1 (pieceL l 1).1 (pieceL l 2).1
theorem clock_list (s : ByteArray) : clockN s = clockL (nums s) := by
  have e : ∀ k, pieceN s k = pieceL (nums s) k := fun k => by
    unfold pieceN pieceL; rw [nums_extract, show 3 * k + 2 - 3 * k = 2 by omega]
  unfold clockN clockL
  rw [nums_len, e, e, e]
/-- What a clock's text says. -/
def clockF (w : Int) (day clock shift : Int × Bool) : Option (Int × Int) :=
  if day.2 = false ∨ (w ≠ -1 ∧ w ≠ wdZ day.1) then none
  else if clock.2 = true ∧ shift.2 = true ∧ dateB (day.1 * 86400 + clock.1 - shift.1) shift.1 = true then some (day.1 * 86400 + clock.1 - shift.1, shift.1) else none
/-- What four or five words say. -/
def partsZ (w : Int) : List (List Int) → Option (Int × Int)
  | [a, b, c, d] => clockF w (dayN a b c) (clockL d) (0, true)
  | [a, b, c, d, e] => clockF w (dayN a b c) (clockL d) (shiftN e)
  | _ => none
/-- What a text says: a time and a shift, or nothing. -/
def parseZ (l : List Int) : Option (Int × Int) := partsZ (takeZ (listZ l)).1 (takeZ (listZ l)).2
theorem dig_two {n : Int} (h0 : 0 ≤ n) (h1 : n < 100) : (twoL n).all digC = true := by
  have h : ∀ c : Int, 48 ≤ c → c ≤ 57 → digC c = true := fun c q r => by unfold digC; simp [q, r]
  simp only [twoL, List.all_cons, List.all_nil, Bool.and_true, Bool.and_eq_true]
  exact ⟨h _ (by omega) (by omega), h _ (by omega) (by omega)⟩
theorem val_two {n : Int} (h0 : 0 ≤ n) (h1 : n < 100) : valN (twoL n) = n := by
  simp only [valN, twoL, List.foldl_cons, List.foldl_nil]; omega
theorem num_two {n : Int} (a : Nat) (ha : a ≤ 2) (h0 : 0 ≤ n) (h1 : n < 100) : numD (twoL n) a 2 = (n, true) := by
  unfold numD
  rw [if_neg (by simp [twoL]; omega), if_pos (dig_two h0 h1), val_two h0 h1]
theorem num_four {a b : Int} (a0 : 0 ≤ a) (a1 : a < 100) (b0 : 0 ≤ b) (b1 : b < 100) : numD (twoL a ++ twoL b) 4 4 = (100 * a + b, true) := by
  unfold numD
  rw [if_neg (by simp [twoL]), if_pos (by rw [List.all_append, dig_two a0 a1, dig_two b0 b1]; rfl)]
  congr 1
  simp only [valN, twoL, List.foldl_append, List.foldl_cons, List.foldl_nil]
  omega
theorem year_four {y : Int} (h0 : 0 ≤ y) (h1 : y < 10000) : yearN (twoL (y / 100) ++ twoL (y % 100)) = (y, true) := by
  unfold yearN
  have e : numD (twoL (y / 100) ++ twoL (y % 100)) 2 2 = (0, false) := by
    unfold numD; rw [if_pos (by simp [twoL])]
  rw [e, num_four (by omega) (by omega) (by omega) (by omega), if_neg (by decide)]
  congr 1
  omega
theorem mof_mon {m : Int} (h0 : 1 ≤ m) (h1 : m ≤ 12) : mofZ (monL m) = m := by
  have h : m = 1 ∨ m = 2 ∨ m = 3 ∨ m = 4 ∨ m = 5 ∨ m = 6 ∨ m = 7 ∨ m = 8 ∨ m = 9 ∨ m = 10 ∨ m = 11 ∨ m = 12 := by omega
  rcases h with rfl | rfl | rfl | rfl | rfl | rfl | rfl | rfl | rfl | rfl | rfl | rfl <;> decide +kernel
theorem wof_day {n : Int} (h0 : 0 ≤ n) (h1 : n < 7) : wofZ (dayL n) = n := by
  have h : n = 0 ∨ n = 1 ∨ n = 2 ∨ n = 3 ∨ n = 4 ∨ n = 5 ∨ n = 6 := by omega
  rcases h with rfl | rfl | rfl | rfl | rfl | rfl | rfl <;> decide +kernel
theorem shift_back {h m : Int} (c : Int) (hc : c = 43 ∨ c = 45) (h0 : 0 ≤ h) (h1 : h < 24) (m0 : 0 ≤ m) (m1 : m < 60) :
    shiftN (c :: (twoL h ++ twoL m)) = (if c = 45 then -(h * 3600 + m * 60) else h * 3600 + m * 60, true) := by
  unfold shiftN
  have hz : zofZ (c :: (twoL h ++ twoL m)) = none := zof_miss fun i hi => same_len (by
    have : (zoneL i).length ≤ 3 := by unfold zoneL; split <;> decide
    simp [twoL]; omega)
  rw [hz]
  show offN c (numD (twoL h ++ twoL m) 4 4) = _
  rw [num_four h0 (by omega) m0 (by omega)]
  unfold offN
  rw [if_neg (by omega), if_neg (by simp; omega)]
  have e1 : (100 * h + m) / 100 = h := by omega
  have e2 : (100 * h + m) % 100 = m := by omega
  rw [e1, e2]
theorem gd_of {l : List Int} (h : l ≠ []) (k : ∀ x ∈ l, x ≠ 32 ∧ x ≠ 9 ∧ x ≠ 40) : Gd l := ⟨h, fun x hx => by have := k x hx; simp; omega⟩
theorem two_ne {n : Int} (h0 : 0 ≤ n) (h1 : n < 100) : ∀ x ∈ twoL n, x ≠ 32 ∧ x ≠ 9 ∧ x ≠ 40 := by
  intro x hx
  simp [twoL] at hx
  omega
theorem day_ne (n : Int) : ∀ x ∈ dayL n, x ≠ 32 ∧ x ≠ 9 ∧ x ≠ 40 := by
  unfold dayL; repeat' split
  all_goals decide
theorem mon_ne (n : Int) : ∀ x ∈ monL n, x ≠ 32 ∧ x ≠ 9 ∧ x ≠ 40 := by
  unfold monL; repeat' split
  all_goals decide
def sgnC (s : Int) : Int := if s < 0 then 45 else 43
def absZ (s : Int) : Int := if s < 0 then -s else s
def clkL (c : Int) : List Int := twoL (c / 3600) ++ 58 :: (twoL (c % 3600 / 60) ++ 58 :: twoL (c % 60))
/-- The words behind a date's first. -/
def dateW (t s y m d : Int) : List (List Int) :=
  [twoL d, monL m, twoL (y / 100) ++ twoL (y % 100), clkL ((t + s) % 86400), sgnC s :: (twoL (absZ s / 3600) ++ twoL (absZ s % 3600 / 60))]
theorem date_words (t s y m d : Int) (u : List Int) : dateL t s y m d ++ u = (dayL (wdZ ((t + s) / 86400)) ++ [44]) ++ restL (dateW t s y m d) u := by
  have e : (t + s) % 86400 % 3600 % 60 = (t + s) % 86400 % 60 := by omega
  unfold dateL dateW clkL sgnC absZ restL restL restL restL restL restL
  by_cases h : s < 0 <;> simp [h, List.append_assoc] <;> omega
theorem clk_back {c : Int} (h0 : 0 ≤ c) (h1 : c < 86400) : clockL (clkL c) = (c, true) := by
  have p0 : pieceL (clkL c) 0 = (c / 3600, true) := num_two 2 (by omega) (by omega) (by omega)
  have p1 : pieceL (clkL c) 1 = (c % 3600 / 60, true) := num_two 2 (by omega) (by omega) (by omega)
  have p2 : pieceL (clkL c) 2 = (c % 60, true) := num_two 2 (by omega) (by omega) (by omega)
  have g0 : (clkL c).getD 2 0 = 58 := rfl
  have g1 : (clkL c).getD 5 0 = 58 := rfl
  have hl : (clkL c).length = 8 := rfl
  unfold clockL
  rw [hl, p0, p1, p2, g0, g1]
  simp only [ne_eq, not_true_eq_false, and_false, if_false, Bool.true_eq_false, or_self]
  rw [if_neg (by decide)]
  unfold finN
  rw [if_neg (by omega)]
  simp only [Prod.mk.injEq, Bool.and_eq_true, decide_eq_true_eq]
  omega
theorem take_day {n : Int} (h0 : 0 ≤ n) (h1 : n < 7) (b : List Int) (r : List (List Int)) : takeZ ((dayL n ++ [44]) :: b :: r) = (n, b :: r) := by
  have e1 : (dayL n ++ [44]).getLast? = some 44 := by simp
  have e2 : (dayL n ++ [44]).dropLast = dayL n := by simp
  show (if _ = _ ∨ _ then _ else _) = _
  simp only [e1, e2, if_true, wof_day h0 h1]
  rw [if_neg (by simp; omega)]
theorem day_back {y m d : Int} (h0 : 1970 ≤ y) (h1 : y ≤ 9999) (m0 : 1 ≤ m) (m1 : m ≤ 12) (d0 : 1 ≤ d) (d1 : d ≤ Wn.monZ y m) : dayN (twoL d) (monL m) (twoL (y / 100) ++ twoL (y % 100)) = (Wn.daysZ y m d, true) := by
  have := mon31 (y := y) m0 m1
  unfold dayN
  rw [num_two 1 (by omega) (by omega) (by omega), mof_mon m0 m1, year_four (by omega) (by omega)]
  rw [if_pos ⟨rfl, rfl, by unfold Wn.dayB; simp; omega⟩]
theorem date_front {t s y m d : Int} (b : List Int) (u : List Int) (hb : ∀ l, behZ (b ++ l) = behZ l) (hd : 1 ≤ d) (hd1 : d ≤ 31) (hy : 0 ≤ y) (hy1 : y ≤ 9999) (hs : -86340 ≤ s) (hs1 : s ≤ 86340) (hu : Tl u) : listZ (b ++ (dateL t s y m d ++ u)) = (dayL (wdZ ((t + s) / 86400)) ++ [44]) :: dateW t s y m d := by
  have n0 : Gd (dayL (wdZ ((t + s) / 86400)) ++ [44]) := gd_of (by simp) (by
    intro x hx
    rcases List.mem_append.1 hx with h | h
    · exact day_ne _ x h
    · simp at h; omega)
  have nr : ∀ a ∈ dateW t s y m d, Gd a := by
    have hz : 0 ≤ absZ s ∧ absZ s < 86400 := by unfold absZ; split <;> omega
    intro a ha
    simp only [dateW, List.mem_cons, List.not_mem_nil, or_false] at ha
    rcases ha with rfl | rfl | rfl | rfl | rfl
    · exact gd_of (by simp [twoL]) (two_ne (by omega) (by omega))
    · exact gd_of (by have := mon_len m; intro e; rw [e] at this; cases this) (mon_ne m)
    · refine gd_of (by simp [twoL]) fun x hx => ?_
      rcases List.mem_append.1 hx with h | h
      · exact two_ne (by omega) (by omega) x h
      · exact two_ne (by omega) (by omega) x h
    · refine gd_of (by simp [clkL, twoL]) fun x hx => ?_
      unfold clkL at hx
      simp only [List.mem_append, List.mem_cons] at hx
      rcases hx with h | h | h | h | h
      · exact two_ne (by omega) (by omega) x h
      · omega
      · exact two_ne (by omega) (by omega) x h
      · omega
      · exact two_ne (by omega) (by omega) x h
    · refine gd_of (by simp) fun x hx => ?_
      simp only [List.mem_append, List.mem_cons] at hx
      rcases hx with h | h | h
      · unfold sgnC at h; split at h <;> omega
      · exact two_ne (by omega) (by omega) x h
      · exact two_ne (by omega) (by omega) x h
  unfold listZ
  rw [hb, date_words, beh_word _ n0, ws_all n0 nr hu]
  rfl
/-- What is written is read as it was. -/
theorem date_back {t s y m d : Int} (b u : List Int) (hb : ∀ l, behZ (b ++ l) = behZ l) (hu : Tl u) (h : dateB t s = true) (hc : 1970 ≤ y ∧ y ≤ 9999 ∧ 1 ≤ m ∧ m ≤ 12 ∧ 1 ≤ d ∧ d ≤ Wn.monZ y m) (hn : Wn.daysZ y m d = (t + s) / 86400) :
    parseZ (b ++ (dateL t s y m d ++ u)) = some (t, s) := by
  obtain ⟨s0, s1, s2, t0, t1, u0, u1⟩ := dateB_iff h
  have := mon31 (y := y) hc.2.2.1 hc.2.2.2.1
  unfold parseZ
  rw [date_front b u hb (by omega) (by omega) (by omega) (by omega) s0 s1 hu]
  have hw : 0 ≤ wdZ ((t + s) / 86400) ∧ wdZ ((t + s) / 86400) < 7 := by unfold wdZ; omega
  have ht := take_day hw.1 hw.2 (twoL d) [monL m, twoL (y / 100) ++ twoL (y % 100), clkL ((t + s) % 86400), sgnC s :: (twoL (absZ s / 3600) ++ twoL (absZ s % 3600 / 60))]
  show partsZ (takeZ ((dayL (wdZ ((t + s) / 86400)) ++ [44]) :: twoL d :: [monL m, twoL (y / 100) ++ twoL (y % 100), clkL ((t + s) % 86400), sgnC s :: (twoL (absZ s / 3600) ++ twoL (absZ s % 3600 / 60))])).1 (takeZ ((dayL (wdZ ((t + s) / 86400)) ++ [44]) :: twoL d :: [monL m, twoL (y / 100) ++ twoL (y % 100), clkL ((t + s) % 86400), sgnC s :: (twoL (absZ s / 3600) ++ twoL (absZ s % 3600 / 60))])).2 = _
  rw [ht]
  show clockF (wdZ ((t + s) / 86400)) (dayN (twoL d) (monL m) (twoL (y / 100) ++ twoL (y % 100))) (clockL (clkL ((t + s) % 86400))) (shiftN (sgnC s :: (twoL (absZ s / 3600) ++ twoL (absZ s % 3600 / 60)))) = _
  have ha : 0 ≤ absZ s ∧ absZ s ≤ 86340 ∧ absZ s % 60 = 0 := by unfold absZ; split <;> omega
  rw [day_back hc.1 hc.2.1 hc.2.2.1 hc.2.2.2.1 hc.2.2.2.2.1 hc.2.2.2.2.2, clk_back (by omega) (by omega), shift_back _ (by unfold sgnC; split <;> omega) (by omega) (by omega) (by omega) (by omega), hn]
  have hsh : (if sgnC s = 45 then -(absZ s / 3600 * 3600 + absZ s % 3600 / 60 * 60) else absZ s / 3600 * 3600 + absZ s % 3600 / 60 * 60) = s := by
    have e : absZ s / 3600 * 3600 + absZ s % 3600 / 60 * 60 = absZ s := by omega
    rw [e]
    unfold sgnC absZ
    by_cases q : s < 0
    · rw [if_pos q, if_pos q, if_pos rfl]; omega
    · rw [if_neg q, if_neg q, if_neg (by decide)]
  rw [hsh]
  unfold clockF
  have ht2 : (t + s) / 86400 * 86400 + (t + s) % 86400 - s = t := by omega
  simp only [ht2]
  rw [if_neg (by simp), if_pos (by simpa using h)]
theorem tl_end : Tl [32, 40, 97, 32, 98, 41] := .inr ⟨_, rfl, by decide +kernel⟩
theorem lead_two (l : List Int) : behZ ([32, 9] ++ l) = behZ l := by
  show behZ (32 :: 9 :: l) = _
  rw [beh_blank _ _ (.inl rfl), beh_blank _ _ (.inr rfl)]
theorem piece_bound (l : List Int) (k : Nat) : 0 ≤ (pieceL l k).1 ∧ (pieceL l k).1 < 100 := numD_bound _ 2 2
theorem clock_bound (l : List Int) : 0 ≤ (clockL l).1 ∧ (clockL l).1 ≤ 400000 := by
  have h0 := piece_bound l 0
  have h1 := piece_bound l 1
  have h2 := piece_bound l 2
  unfold clockL finN
  repeat' split
  all_goals first | exact ⟨by decide, by decide⟩ | (simp only []; omega)
theorem shift_bound (l : List Int) : -400000 ≤ (shiftN l).1 ∧ (shiftN l).1 ≤ 400000 := by
  have h0 := numD_bound (l.drop 1) 4 4
  have e : (10 : Int) ^ 4 = 10000 := by decide
  rw [e] at h0
  unfold shiftN
  split
  · rename_i i _
    simp only []
    unfold hourL
    split <;> omega
  · unfold offN
    repeat' split
    all_goals first | exact ⟨by decide, by decide⟩ | (simp only []; omega)
theorem day_bound (a b c : List Int) : 0 ≤ (dayN a b c).1 ∧ (dayN a b c).1 ≤ 2932896 := by
  unfold dayN
  split
  · rename_i h; exact Wn.days_range _ _ _ h.2.2
  · exact ⟨by decide, by decide⟩
theorem take_wds {n : Nat} : ∀ {L : List (List Int)}, Wds L n → Wds (takeZ L).2 n
  | [], h => h
  | [_], h => h
  | a :: b :: r, h => by
    rw [take_two]
    generalize wofZ (if a.getLast? = some 44 then a.dropLast else a) = q
    by_cases h1 : q = -1 ∨ (a.getLast? ≠ some 44 ∧ b.head? ≠ some 44)
    · rw [if_pos h1]; exact h
    · rw [if_neg h1]
      by_cases h2 : a.getLast? = some 44
      · rw [if_pos h2]; exact fun x hx => h x (List.mem_cons_of_mem _ hx)
      · rw [if_neg h2]
        by_cases h3 : b.drop 1 = []
        · rw [if_pos h3]; exact fun x hx => h x (List.mem_cons_of_mem _ (List.mem_cons_of_mem _ hx))
        · rw [if_neg h3]
          intro x hx
          rcases List.mem_cons.1 hx with rfl | hx
          · have := List.length_pos_iff.2 h3
            have h2 := h b (by simp)
            rw [List.length_drop] at this ⊢
            omega
          · exact h x (List.mem_cons_of_mem _ (List.mem_cons_of_mem _ hx))
theorem list_wds (l : List Int) : Wds (listZ l) l.length := fun a ha => by
  have h := ws_wds ((behZ l).length + 1) (behZ l) (beh_fr l) (Nat.lt_succ_self _) a (List.mem_of_mem_take ha)
  have := beh_len l
  omega
theorem list_len (l : List Int) : (listZ l).length ≤ 8 := by unfold listZ; rw [List.length_take]; omega
end Go.Proofs.YtomcjkghneingabDoor
