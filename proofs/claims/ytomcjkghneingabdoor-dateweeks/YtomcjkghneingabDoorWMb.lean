/-
  Times as texts.
-/
import Derived.Test.YtomcjkghneingabDoorWMa
namespace Go.Proofs.YtomcjkghneingabDoor.Wn
set_option linter.unusedVariables false

def two (n : Int) : List Int := [48 + n / 10 % 10, 48 + n % 10]
def four (n : Int) : List Int := [48 + n / 10 / 10 / 10 % 10, 48 + n / 10 / 10 % 10, 48 + n / 10 % 10, 48 + n % 10]
theorem lex_two (a b : Int) (x y : List Int) (h0 : 0 ≤ a) (h1 : a < 100) (g0 : 0 ≤ b) (g1 : b < 100) :
    lessZ (two a ++ x) (two b ++ y) = (decide (a < b) || (decide (a = b) && lessZ x y)) := by
  rw [Bool.eq_iff_iff]
  simp only [two, List.cons_append, List.nil_append, lessZ, Bool.or_eq_true, Bool.and_eq_true, decide_eq_true_eq]
  generalize (lessZ x y = true) = P
  by_cases hP : P <;> simp only [hP, and_true, and_false, or_false] <;> omega
theorem lex_four (a b : Int) (x y : List Int) (h0 : 0 ≤ a) (h1 : a < 10000) (g0 : 0 ≤ b) (g1 : b < 10000) :
    lessZ (four a ++ x) (four b ++ y) = (decide (a < b) || (decide (a = b) && lessZ x y)) := by
  rw [Bool.eq_iff_iff]
  simp only [four, List.cons_append, List.nil_append, lessZ, Bool.or_eq_true, Bool.and_eq_true, decide_eq_true_eq]
  generalize (lessZ x y = true) = P
  by_cases hP : P <;> simp only [hP, and_true, and_false, or_false] <;> omega
theorem lex_one (c : Int) (x y : List Int) : lessZ (c :: x) (c :: y) = lessZ x y := by simp [lessZ]
theorem lex_self : ∀ l : List Int, lessZ l l = false
  | [] => rfl
  | a :: l => by simp [lessZ, lex_self l]
/-- A time as it is written. -/
def timeL (y m d t : Int) : List Int := four y ++ (two m ++ (two d ++ (84 :: (two (t % 86400 / 3600) ++ (two (t % 3600 / 60) ++ (two (t % 60) ++ [90]))))))
theorem time_len (y m d t : Int) : (timeL y m d t).length = 16 := rfl
theorem time_order (y m d t y' m' d' u : Int) (hy : 0 ≤ y ∧ y < 10000) (hm : 0 ≤ m ∧ m < 100) (hd : 0 ≤ d ∧ d < 100) (hy' : 0 ≤ y' ∧ y' < 10000) (hm' : 0 ≤ m' ∧ m' < 100) (hd' : 0 ≤ d' ∧ d' < 100)
    (ht : 0 ≤ t) (hu : 0 ≤ u) (hl : t / 86400 < u / 86400 ↔ y < y' ∨ y = y' ∧ (m < m' ∨ m = m' ∧ d < d')) (he : t / 86400 = u / 86400 ↔ y = y' ∧ m = m' ∧ d = d') :
    lessZ (timeL y m d t) (timeL y' m' d' u) = decide (t < u) := by
  unfold timeL
  rw [lex_four _ _ _ _ hy.1 hy.2 hy'.1 hy'.2, lex_two _ _ _ _ hm.1 hm.2 hm'.1 hm'.2, lex_two _ _ _ _ hd.1 hd.2 hd'.1 hd'.2, lex_one,
    lex_two _ _ _ _ (by omega) (by omega) (by omega) (by omega), lex_two _ _ _ _ (by omega) (by omega) (by omega) (by omega), lex_two _ _ _ _ (by omega) (by omega) (by omega) (by omega), lex_one]
  simp only [lessZ, Bool.and_false, Bool.or_false]
  rw [Bool.eq_iff_iff]
  simp only [Bool.or_eq_true, Bool.and_eq_true, decide_eq_true_eq]
  by_cases c : t / 86400 = u / 86400
  · obtain ⟨rfl, rfl, rfl⟩ := he.1 c
    clear he hl
    omega
  · by_cases c2 : t / 86400 < u / 86400
    · have := hl.1 c2
      constructor
      · intro _; omega
      · intro _; omega
    · have := mt hl.2 c2
      constructor
      · intro h
        exfalso
        have e : ¬ (y = y' ∧ m = m' ∧ d = d') := fun h => c (he.2 h)
        omega
      · intro h; omega

def isD (c : Int) : Bool := decide (48 ≤ c) && decide (c ≤ 57)
theorem isD_iff (c : Int) : isD c = true ↔ 48 ≤ c ∧ c ≤ 57 := by simp [isD]
/-- The number that digits are. -/
def valL (l : List Int) : Int := l.foldl (fun n c => n * 10 + (c - 48)) 0
def formL : List Int := [48, 48, 48, 48, 48, 48, 48, 48, 84, 48, 48, 48, 48, 48, 48, 90]
def okC (f c : Int) : Bool := if f = 48 then isD c else decide (c = f)
def shapeB (l : List Int) : Bool := decide (l.length = 16) && (List.zipWith okC formL l).all id
def numZ (l : List Int) (a n : Nat) : Int := valL ((l.drop a).take n)
def hourB (l : List Int) : Bool := decide (numZ l 9 2 < 24) && decide (numZ l 11 2 < 60) && decide (numZ l 13 2 < 60)
theorem val_two (a b : Int) : valL [a, b] = (a - 48) * 10 + (b - 48) := by simp [valL]
theorem val_four (a b c d : Int) : valL [a, b, c, d] = ((a - 48) * 10 + (b - 48)) * 100 + (c - 48) * 10 + (d - 48) := by simp [valL]; omega
theorem two_val (n : Int) (h0 : 0 ≤ n) (h1 : n < 100) : valL (two n) = n := by unfold two; rw [val_two]; omega
theorem four_val (n : Int) (h0 : 0 ≤ n) (h1 : n < 10000) : valL (four n) = n := by unfold four; rw [val_four]; omega
theorem val_back2 (a b : Int) (ha : isD a = true) (hb : isD b = true) : two (valL [a, b]) = [a, b] := by
  rw [isD_iff] at ha hb
  rw [val_two]; unfold two
  congr 1
  · omega
  · congr 1; omega
theorem val_back4 (a b c d : Int) (ha : isD a = true) (hb : isD b = true) (hc : isD c = true) (hd : isD d = true) : four (valL [a, b, c, d]) = [a, b, c, d] := by
  rw [isD_iff] at ha hb hc hd
  rw [val_four]; unfold four
  congr 1
  · omega
  · congr 1
    · omega
    · congr 1
      · omega
      · congr 1; omega
theorem two_dig (n : Int) : isD (48 + n / 10 % 10) = true ∧ isD (48 + n % 10) = true := by simp only [isD_iff]; omega
theorem time_shape (y m d t : Int) : shapeB (timeL y m d t) = true := by
  have h : ∀ n : Int, isD (48 + n % 10) = true := fun n => by rw [isD_iff]; omega
  simp [shapeB, timeL, four, two, formL, okC, h]
theorem num_year (y m d t : Int) : numZ (timeL y m d t) 0 4 = valL (four y) := rfl
theorem num_month (y m d t : Int) : numZ (timeL y m d t) 4 2 = valL (two m) := rfl
theorem num_day (y m d t : Int) : numZ (timeL y m d t) 6 2 = valL (two d) := rfl
theorem num_hour (y m d t : Int) : numZ (timeL y m d t) 9 2 = valL (two (t % 86400 / 3600)) := rfl
theorem num_minute (y m d t : Int) : numZ (timeL y m d t) 11 2 = valL (two (t % 3600 / 60)) := rfl
theorem num_second (y m d t : Int) : numZ (timeL y m d t) 13 2 = valL (two (t % 60)) := rfl
/-- Whatever has the shape is its numbers, written. -/
theorem shape_inv (l : List Int) (h : shapeB l = true) (hh : hourB l = true) (n : Int) (hn : 0 ≤ n) :
    l = timeL (numZ l 0 4) (numZ l 4 2) (numZ l 6 2) (n * 86400 + numZ l 9 2 * 3600 + numZ l 11 2 * 60 + numZ l 13 2) := by
  simp only [shapeB, Bool.and_eq_true, decide_eq_true_eq] at h
  obtain ⟨hl, ha⟩ := h
  match l, hl with
  | [c0, c1, c2, c3, c4, c5, c6, c7, c8, c9, c10, c11, c12, c13, c14, c15], _ =>
    simp [formL, okC] at ha
    simp only [hourB, Bool.and_eq_true, decide_eq_true_eq] at hh
    obtain ⟨⟨h1, h2⟩, h3⟩ := hh
    have e9 : numZ [c0, c1, c2, c3, c4, c5, c6, c7, c8, c9, c10, c11, c12, c13, c14, c15] 9 2 = valL [c9, c10] := rfl
    have e11 : numZ [c0, c1, c2, c3, c4, c5, c6, c7, c8, c9, c10, c11, c12, c13, c14, c15] 11 2 = valL [c11, c12] := rfl
    have e13 : numZ [c0, c1, c2, c3, c4, c5, c6, c7, c8, c9, c10, c11, c12, c13, c14, c15] 13 2 = valL [c13, c14] := rfl
    have e0 : numZ [c0, c1, c2, c3, c4, c5, c6, c7, c8, c9, c10, c11, c12, c13, c14, c15] 0 4 = valL [c0, c1, c2, c3] := rfl
    have e4 : numZ [c0, c1, c2, c3, c4, c5, c6, c7, c8, c9, c10, c11, c12, c13, c14, c15] 4 2 = valL [c4, c5] := rfl
    have e6 : numZ [c0, c1, c2, c3, c4, c5, c6, c7, c8, c9, c10, c11, c12, c13, c14, c15] 6 2 = valL [c6, c7] := rfl
    rw [e9] at h1
    rw [e11] at h2
    rw [e13] at h3
    rw [e0, e4, e6, e9, e11, e13]
    obtain ⟨a0, a1, a2, a3, a4, a5, a6, a7, rfl, a9, a10, a11, a12, a13, a14, rfl⟩ := ha
    have b9 := val_back2 c9 c10 a9 a10
    have b11 := val_back2 c11 c12 a11 a12
    have b13 := val_back2 c13 c14 a13 a14
    have p9 : 0 ≤ valL [c9, c10] := by rw [isD_iff] at a9 a10; rw [val_two]; omega
    have p11 : 0 ≤ valL [c11, c12] := by rw [isD_iff] at a11 a12; rw [val_two]; omega
    have p13 : 0 ≤ valL [c13, c14] := by rw [isD_iff] at a13 a14; rw [val_two]; omega
    unfold timeL
    rw [val_back4 _ _ _ _ a0 a1 a2 a3, val_back2 _ _ a4 a5, val_back2 _ _ a6 a7]
    rw [show (n * 86400 + valL [c9, c10] * 3600 + valL [c11, c12] * 60 + valL [c13, c14]) % 86400 / 3600 = valL [c9, c10] by omega,
      show (n * 86400 + valL [c9, c10] * 3600 + valL [c11, c12] * 60 + valL [c13, c14]) % 3600 / 60 = valL [c11, c12] by omega,
      show (n * 86400 + valL [c9, c10] * 3600 + valL [c11, c12] * 60 + valL [c13, c14]) % 60 = valL [c13, c14] by omega, b9, b11, b13]
    rfl
end Go.Proofs.YtomcjkghneingabDoor.Wn
