/-
  Lengths as texts: numbers, and there and back.
-/
import Derived.Test.YtomcjkghneingabDoorWMb
namespace Go.Proofs.YtomcjkghneingabDoor.Wn
set_option linter.unusedVariables false

/-- The number that digits at the front are, and how many: k at most. -/
def digR : Nat → Int → List Int → Int × Nat
  | 0, n, _ => (n, 0)
  | _ + 1, n, [] => (n, 0)
  | k + 1, n, c :: l => if isD c = true then ((digR k (n * 10 + (c - 48)) l).1, (digR k (n * 10 + (c - 48)) l).2 + 1) else (n, 0)
def decF : Nat → Int → List Int
  | 0, n => [48 + n % 10]
  | k + 1, n => if n < 10 then [48 + n] else decF k (n / 10) ++ [48 + n % 10]
/-- A number's digits. -/
def decL (n : Int) : List Int := decF 20 n
/-- A text whose first sign is no digit. -/
def noD (l : List Int) : Prop := l = [] ∨ ∃ c r, l = c :: r ∧ isD c = false
theorem digR_all : ∀ (k : Nat) (n : Int) (ds r : List Int), (∀ c ∈ ds, isD c = true) → ds.length ≤ k → (noD r ∨ ds.length = k) →
    digR k n (ds ++ r) = (ds.foldl (fun n c => n * 10 + (c - 48)) n, ds.length)
  | 0, n, [], r, _, _, _ => rfl
  | 0, n, d :: ds, r, _, h, _ => by simp at h
  | k + 1, n, [], r, _, _, hr => by
    rcases hr with (rfl | ⟨c, r, rfl, hc⟩) | hr
    · rfl
    · simp [digR, hc]
    · simp at hr
  | k + 1, n, d :: ds, r, hd, hl, hr => by
    have ih := digR_all k (n * 10 + (d - 48)) ds r (fun c hc => hd c (by simp [hc])) (by simpa using hl) (by simpa using hr)
    have hdd := hd d (by simp)
    simp only [List.cons_append, digR, hdd, if_true, ih, List.foldl_cons, List.length_cons]
theorem decF_dig : ∀ (k : Nat) (n : Int), 0 ≤ n → ∀ c ∈ decF k n, isD c = true
  | 0, n, h, c, hc => by simp [decF] at hc; subst hc; rw [isD_iff]; omega
  | k + 1, n, h, c, hc => by
    simp only [decF] at hc
    split at hc
    · simp at hc; subst hc; rw [isD_iff]; omega
    · rcases List.mem_append.1 hc with hc | hc
      · exact decF_dig k (n / 10) (by omega) c hc
      · simp at hc; subst hc; rw [isD_iff]; omega
theorem decF_val : ∀ (k : Nat) (n : Int), 0 ≤ n → n < 10 ^ (k + 1) → valL (decF k n) = n
  | 0, n, h, h1 => by simp [decF, valL]; simp at h1; omega
  | k + 1, n, h, h1 => by
    simp only [decF]
    split
    · simp [valL]; omega
    · have ih := decF_val k (n / 10) (by omega) (by rw [Int.pow_succ] at h1; omega)
      unfold valL at ih ⊢
      rw [List.foldl_append, ih]
      simp; omega
theorem decF_len : ∀ (k j : Nat) (n : Int), 0 ≤ n → n < 10 ^ (j + 1) → (decF k n).length ≤ j + 1
  | 0, j, n, h, h1 => by simp [decF]
  | k + 1, j, n, h, h1 => by
    simp only [decF]
    split
    · simp
    · cases j with
      | zero => simp at h1; omega
      | succ j =>
        have ih := decF_len k j (n / 10) (by omega) (by rw [Int.pow_succ] at h1; omega)
        simp; omega
theorem decF_pos : ∀ (k : Nat) (n : Int), 1 ≤ (decF k n).length
  | 0, n => by simp [decF]
  | k + 1, n => by simp only [decF]; split <;> simp
theorem num_dec (n : Int) (r : List Int) (h0 : 0 ≤ n) (h1 : n < 10000000000) (hr : noD r) : digR 10 0 (decL n ++ r) = (n, (decL n).length) := by
  rw [digR_all 10 0 (decL n) r (decF_dig 20 n h0) (decF_len 20 9 n h0 (by simpa using h1)) (.inl hr)]
  rw [show (decL n).foldl (fun n c => n * 10 + (c - 48)) 0 = n from decF_val 20 n h0 (by simp; omega)]
theorem digR_ge : ∀ (k : Nat) (n : Int) (l : List Int), 0 ≤ n → n ≤ (digR k n l).1
  | 0, n, l, h => by simp [digR]
  | k + 1, n, [], h => by simp [digR]
  | k + 1, n, c :: l, h => by
    simp only [digR]
    split
    · rename_i hc
      rw [isD_iff] at hc
      have := digR_ge k (n * 10 + (c - 48)) l (by omega)
      simp only; omega
    · simp
theorem digR_lt : ∀ (k : Nat) (n : Int) (l : List Int), 0 ≤ n → (digR k n l).1 < (n + 1) * 10 ^ k
  | 0, n, l, h => by simp [digR]; omega
  | k + 1, n, [], h => by
    simp only [digR]
    have : (0 : Int) < 10 ^ (k + 1) := Int.pow_pos (by omega)
    have := Int.mul_le_mul_of_nonneg_left (a := 1) (b := 10 ^ (k + 1)) (c := n + 1) (by omega) (by omega)
    omega
  | k + 1, n, c :: l, h => by
    simp only [digR]
    split
    · rename_i hc
      rw [isD_iff] at hc
      have := digR_lt k (n * 10 + (c - 48)) l (by omega)
      refine Int.lt_of_lt_of_le this ?_
      rw [Int.pow_succ, show (n + 1) * (10 ^ k * 10) = ((n + 1) * 10) * (10 : Int) ^ k by rw [Int.mul_comm (10 ^ k) 10, Int.mul_assoc]]
      exact Int.mul_le_mul_of_nonneg_right (by omega) (Int.pow_nonneg (by omega))
    · have : (0 : Int) < 10 ^ (k + 1) := Int.pow_pos (by omega)
      have := Int.mul_le_mul_of_nonneg_left (a := 1) (b := 10 ^ (k + 1)) (c := n + 1) (by omega) (by omega)
      omega
theorem digR_len : ∀ (k : Nat) (n : Int) (l : List Int), (digR k n l).2 ≤ l.length ∧ (digR k n l).2 ≤ k
  | 0, n, l => by simp [digR]
  | k + 1, n, [] => by simp [digR]
  | k + 1, n, c :: l => by
    simp only [digR]
    split
    · have := digR_len k (n * 10 + (c - 48)) l
      simp only [List.length_cons]; omega
    · simp
theorem num_lt (l : List Int) : 0 ≤ (digR 10 0 l).1 ∧ (digR 10 0 l).1 < 10000000000 := by
  have a := digR_ge 10 0 l (by omega)
  have b := digR_lt 10 0 l (by omega)
  simp at b
  omega
def unitZ (c : Int) : Int := if c = 72 then 0 else if c = 77 then 1 else if c = 83 then 2 else -1
def sizeU (u : Int) : Int := if u = 0 then 3600 else if u = 1 then 60 else 1
/-- Hours, minutes, seconds: what is left of them. -/
def clockR : Nat → Int → Int → List Int → Option Int
  | 0, _, _, _ => none
  | _ + 1, sum, last, [] => if 0 ≤ last then some sum else none
  | f + 1, sum, last, c :: l =>
    if (digR 10 0 (c :: l)).2 = 0 then none else
    match (c :: l).drop (digR 10 0 (c :: l)).2 with
    | [] => none
    | u :: r => if unitZ u < 0 ∨ 0 ≤ last ∧ unitZ u ≠ last + 1 then none else clockR f (sum + (digR 10 0 (c :: l)).1 * sizeU (unitZ u)) (unitZ u) r
def clockZ (l : List Int) : Option Int := clockR (l.length + 1) 0 (-1) l
/-- What is behind a P, and what is left behind it. -/
def lenR (l : List Int) : Option (Int × List Int) :=
  match l with
  | 84 :: r => (clockZ r).map fun n => (n, [])
  | _ =>
    if (digR 10 0 l).2 = 0 then none else
    match l.drop (digR 10 0 l).2 with
    | 87 :: r => some ((digR 10 0 l).1 * 604800, r)
    | 68 :: 84 :: r => (clockZ r).map fun n => ((digR 10 0 l).1 * 86400 + n, [])
    | 68 :: r => some ((digR 10 0 l).1 * 86400, r)
    | _ => none
def lengthR (l : List Int) : Option (Int × List Int) :=
  match l with
  | 80 :: r => lenR r
  | _ => none
def mostZ : Int := 1099511627776
def fullR (neg : Bool) (l : List Int) : Option Int :=
  match lengthR l with
  | some (n, []) => if mostZ < n then none else some (if neg = true then -n else n)
  | _ => none
def spanR (l : List Int) : Option Int :=
  match l with
  | 45 :: r => fullR true r
  | 43 :: r => fullR false r
  | _ => fullR false l
def clockL (n : Int) : List Int :=
  (if n / 3600 ≠ 0 then decL (n / 3600) ++ [72] else []) ++ ((if n % 3600 / 60 ≠ 0 ∨ n / 3600 ≠ 0 ∧ n % 60 ≠ 0 then decL (n % 3600 / 60) ++ [77] else []) ++ (if n % 60 ≠ 0 ∨ n = 0 then decL (n % 60) ++ [83] else []))
def bodyL (n : Int) : List Int :=
  if n ≠ 0 ∧ n % 604800 = 0 then decL (n / 604800) ++ [87]
  else (if 86400 ≤ n then decL (n / 86400) ++ [68] else []) ++ (if n = 0 ∨ n % 86400 ≠ 0 then 84 :: clockL (n % 86400) else [])
def spanL (n : Int) : List Int := if n < 0 then 45 :: 80 :: bodyL (-n) else 80 :: bodyL n

theorem dec_ne (n : Int) : ∃ c l, decL n = c :: l := by
  have := decF_pos 20 n
  cases h : decL n with
  | nil => unfold decL at h; rw [h] at this; simp at this
  | cons c l => exact ⟨c, l, rfl⟩
theorem dec_head (n : Int) (h : 0 ≤ n) : ∃ c l, decL n = c :: l ∧ isD c = true := by
  obtain ⟨c, l, e⟩ := dec_ne n
  exact ⟨c, l, e, decF_dig 20 n h c (by show c ∈ decL n; rw [e]; simp)⟩
theorem drop_dec (n : Int) (r : List Int) : (decL n ++ r).drop (decL n).length = r := by simp
theorem clock_piece (f : Nat) (sum last n u : Int) (r : List Int) (h0 : 0 ≤ n) (h1 : n < 10000000000) (hu : isD u = false) :
    clockR (f + 1) sum last (decL n ++ u :: r) = if unitZ u < 0 ∨ 0 ≤ last ∧ unitZ u ≠ last + 1 then none else clockR f (sum + n * sizeU (unitZ u)) (unitZ u) r := by
  have hd := num_dec n (u :: r) h0 h1 (.inr ⟨u, r, rfl, hu⟩)
  obtain ⟨c, l, e⟩ := dec_ne n
  have hp : (decL n).length ≠ 0 := by rw [e]; simp
  have hdr := drop_dec n (u :: r)
  generalize decL n = D at hd hdr hp e
  subst e
  rw [List.cons_append] at hd hdr ⊢
  simp only [clockR, hd, hdr]
  rw [if_neg hp]
theorem clock_end (f : Nat) (sum last : Int) (h : 0 ≤ last) : clockR (f + 1) sum last [] = some sum := by simp [clockR, h]
theorem u72 : unitZ 72 = 0 := rfl
theorem u77 : unitZ 77 = 1 := rfl
theorem u83 : unitZ 83 = 2 := rfl
theorem s0 : sizeU 0 = 3600 := rfl
theorem s1 : sizeU 1 = 60 := rfl
theorem s2 : sizeU 2 = 1 := rfl
theorem clock_back (f : Nat) (n : Int) (h0 : 0 ≤ n) (h1 : n < 86400) : clockR (f + 4) 0 (-1) (clockL n) = some n := by
  have H : ∀ (f : Nat) (sum : Int) (r : List Int), clockR (f + 1) sum (-1) (decL (n / 3600) ++ 72 :: r) = clockR f (sum + n / 3600 * 3600) 0 r := by
    intro f sum r
    rw [clock_piece f sum (-1) (n / 3600) 72 r (by omega) (by omega) (by rfl), u72, s0, if_neg (by omega)]
  have M : ∀ (f : Nat) (sum last : Int) (r : List Int), (last = -1 ∨ last = 0) → clockR (f + 1) sum last (decL (n % 3600 / 60) ++ 77 :: r) = clockR f (sum + n % 3600 / 60 * 60) 1 r := by
    intro f sum last r hl
    rw [clock_piece f sum last (n % 3600 / 60) 77 r (by omega) (by omega) (by rfl), u77, s1, if_neg (by omega)]
  have S : ∀ (f : Nat) (sum last : Int) (r : List Int), (last = -1 ∨ last = 1) → clockR (f + 1) sum last (decL (n % 60) ++ 83 :: r) = clockR f (sum + n % 60 * 1) 2 r := by
    intro f sum last r hl
    rw [clock_piece f sum last (n % 60) 83 r (by omega) (by omega) (by rfl), u83, s2, if_neg (by omega)]
  unfold clockL
  by_cases b1 : n / 3600 ≠ 0
  · rw [if_pos b1]
    by_cases b3 : n % 60 ≠ 0 ∨ n = 0
    · rw [if_pos (by omega), if_pos b3]
      simp only [List.append_assoc, List.cons_append, List.nil_append]
      rw [H, M _ _ _ _ (by omega), S _ _ _ _ (by omega), clock_end _ _ _ (by omega)]
      congr 1; omega
    · rw [if_neg b3]
      by_cases b2 : n % 3600 / 60 ≠ 0
      · rw [if_pos (by omega)]
        simp only [List.append_assoc, List.cons_append, List.nil_append]
        rw [H, M _ _ _ _ (by omega), clock_end _ _ _ (by omega)]
        congr 1; omega
      · rw [if_neg (by omega)]
        simp only [List.append_nil]
        rw [H, clock_end _ _ _ (by omega)]
        congr 1; omega
  · rw [if_neg b1]
    by_cases b2 : n % 3600 / 60 ≠ 0
    · rw [if_pos (by omega)]
      by_cases b3 : n % 60 ≠ 0 ∨ n = 0
      · rw [if_pos b3]
        simp only [List.append_assoc, List.cons_append, List.nil_append]
        rw [M _ _ _ _ (by omega), S _ _ _ _ (by omega), clock_end _ _ _ (by omega)]
        congr 1; omega
      · rw [if_neg b3]
        simp only [List.nil_append, List.append_nil]
        rw [M _ _ _ _ (by omega), clock_end _ _ _ (by omega)]
        congr 1; omega
    · rw [if_neg (by omega), if_pos (by omega)]
      simp only [List.nil_append]
      rw [S _ _ _ _ (by omega), clock_end _ _ _ (by omega)]
      congr 1; omega
theorem clockL_long (n : Int) (h : 0 ≤ n) : 3 ≤ (clockL n).length + 1 := by
  have p := fun m => decF_pos 20 m
  unfold clockL decL
  by_cases b1 : n / 3600 ≠ 0
  · rw [if_pos b1]; have := p (n / 3600); simp; omega
  · rw [if_neg b1]
    by_cases b2 : n % 3600 / 60 ≠ 0
    · rw [if_pos (by omega)]; have := p (n % 3600 / 60); simp; omega
    · rw [if_neg (by omega), if_pos (by omega)]; have := p (n % 60); simp; omega
/-- More fuel does no harm. -/
theorem clockR_more : ∀ (f g : Nat) (sum last : Int) (l : List Int), l.length < f → l.length < g → clockR f sum last l = clockR g sum last l
  | 0, _, _, _, l, h, _ => by omega
  | _, 0, _, _, l, _, h => by omega
  | f + 1, g + 1, sum, last, [], _, _ => by simp [clockR]
  | f + 1, g + 1, sum, last, c :: l, h, h' => by
    simp only [clockR]
    split
    · rfl
    · rename_i hk
      split
      · rfl
      · rename_i u r e
        split
        · rfl
        · have hl := congrArg List.length e
          rw [List.length_drop, List.length_cons] at hl
          simp only [List.length_cons] at h h' hl
          exact clockR_more f g _ _ r (by omega) (by omega)
theorem clockZ_back (n : Int) (h0 : 0 ≤ n) (h1 : n < 86400) : clockZ (clockL n) = some n := by
  have a := clock_back (clockL n).length n h0 h1
  rw [← a]
  exact clockR_more _ _ _ _ _ (by omega) (by omega)
theorem lenR_T (r : List Int) : lenR (84 :: r) = (clockZ r).map fun n => (n, []) := rfl
theorem lenR_num (n u : Int) (r : List Int) (h0 : 0 ≤ n) (h1 : n < 10000000000) (hu : isD u = false) :
    lenR (decL n ++ u :: r) = match u :: r with
      | 87 :: r => some (n * 604800, r)
      | 68 :: 84 :: r => (clockZ r).map fun k => (n * 86400 + k, [])
      | 68 :: r => some (n * 86400, r)
      | _ => none := by
  have hd := num_dec n (u :: r) h0 h1 (.inr ⟨u, r, rfl, hu⟩)
  obtain ⟨c, l, e, hc⟩ := dec_head n h0
  have hp : (decL n).length ≠ 0 := by rw [e]; simp
  have hdr := drop_dec n (u :: r)
  have h84 : c ≠ 84 := by rintro rfl; revert hc; decide
  generalize decL n = D at hd hdr hp e
  subst e
  rw [List.cons_append] at hd hdr ⊢
  unfold lenR
  split
  · rename_i r' e; injection e with e1 e2; exact absurd e1 h84
  · rw [hd, hdr, if_neg hp]
theorem body_back (n : Int) (h0 : 0 ≤ n) (h1 : n ≤ mostZ) : lenR (bodyL n) = some (n, []) := by
  unfold mostZ at h1
  unfold bodyL
  by_cases b1 : n ≠ 0 ∧ n % 604800 = 0
  · rw [if_pos b1, lenR_num _ _ _ (by omega) (by omega) (by rfl)]
    simp only [Option.some.injEq, Prod.mk.injEq, and_true]; omega
  · rw [if_neg b1]
    by_cases b2 : 86400 ≤ n
    · rw [if_pos b2]
      by_cases b3 : n = 0 ∨ n % 86400 ≠ 0
      · rw [if_pos b3]
        simp only [List.append_assoc, List.cons_append, List.nil_append]
        rw [lenR_num _ _ _ (by omega) (by omega) (by rfl)]
        simp only [clockZ_back (n % 86400) (by omega) (by omega), Option.map_some, Option.some.injEq, Prod.mk.injEq, and_true]; omega
      · rw [if_neg b3]
        simp only [List.append_nil]
        rw [lenR_num _ _ _ (by omega) (by omega) (by rfl)]
        simp only [Option.some.injEq, Prod.mk.injEq, and_true]; omega
    · rw [if_neg b2, if_pos (by omega), List.nil_append, lenR_T, clockZ_back (n % 86400) (by omega) (by omega)]
      simp only [Option.map_some, Option.some.injEq, Prod.mk.injEq, and_true]; omega
theorem span_back (n : Int) (h0 : -mostZ ≤ n) (h1 : n ≤ mostZ) : spanR (spanL n) = some n := by
  unfold spanL
  by_cases hn : n < 0
  · rw [if_pos hn]
    show fullR true (80 :: bodyL (-n)) = _
    unfold fullR
    rw [show lengthR (80 :: bodyL (-n)) = lenR (bodyL (-n)) from rfl, body_back (-n) (by omega) (by omega)]
    simp only [if_true]
    rw [if_neg (by omega)]; congr 1; omega
  · rw [if_neg hn]
    show fullR false (80 :: bodyL n) = _
    unfold fullR
    rw [show lengthR (80 :: bodyL n) = lenR (bodyL n) from rfl, body_back n (by omega) (by omega)]
    simp only [Bool.false_eq_true, if_false]
    rw [if_neg (by omega)]
theorem clockR_ge : ∀ (f : Nat) (sum last : Int) (l : List Int) (n : Int), 0 ≤ sum → clockR f sum last l = some n → 0 ≤ n
  | 0, _, _, _, _, _, h => by simp [clockR] at h
  | f + 1, sum, last, [], n, hs, h => by simp [clockR] at h; omega
  | f + 1, sum, last, c :: l, n, hs, h => by
    simp only [clockR] at h
    split at h
    · cases h
    · split at h
      · cases h
      · split at h
        · cases h
        · rename_i u r e hu
          refine clockR_ge f _ _ r n ?_ h
          have a := (num_lt (c :: l)).1
          have : 0 ≤ sizeU (unitZ u) := by unfold sizeU; split <;> (try split) <;> omega
          have := Int.mul_nonneg a this
          omega
theorem clockZ_ge (l : List Int) (n : Int) (h : clockZ l = some n) : 0 ≤ n := clockR_ge _ 0 (-1) l n (by omega) h
theorem lenR_ge (l r : List Int) (n : Int) (h : lenR l = some (n, r)) : 0 ≤ n := by
  have a := (num_lt l).1
  unfold lenR at h
  split at h
  · rename_i q
    obtain ⟨k, hk, e⟩ := Option.map_eq_some_iff.1 h
    simp only [Prod.mk.injEq] at e
    have := clockZ_ge q k hk
    omega
  · split at h
    · cases h
    · split at h
      · simp only [Option.some.injEq, Prod.mk.injEq] at h; omega
      · rename_i q e
        obtain ⟨k, hk, e⟩ := Option.map_eq_some_iff.1 h
        simp only [Prod.mk.injEq] at e
        have := clockZ_ge q k hk
        omega
      · simp only [Option.some.injEq, Prod.mk.injEq] at h; omega
      · cases h
theorem fullR_neg (l : List Int) : fullR true l = (fullR false l).map fun n => -n := by
  unfold fullR
  split
  · split <;> simp
  · rfl
theorem full_range (l : List Int) (n : Int) (h : fullR false l = some n) : 0 ≤ n ∧ n ≤ mostZ := by
  unfold fullR at h
  split at h
  · rename_i k e
    split at h
    · cases h
    · simp at h
      subst h
      refine ⟨?_, by omega⟩
      unfold lengthR at e
      split at e
      · exact lenR_ge _ _ _ e
      · cases e
  · cases h
theorem span_range (l : List Int) (n : Int) (h : spanR l = some n) : -mostZ ≤ n ∧ n ≤ mostZ := by
  have hm : (0 : Int) ≤ mostZ := by decide
  unfold spanR at h
  split at h
  · rename_i r
    rw [fullR_neg] at h
    obtain ⟨k, hk, e⟩ := Option.map_eq_some_iff.1 h
    have := full_range r k hk
    omega
  · have := full_range _ _ h
    omega
  · have := full_range _ _ h
    omega
/-- Turned by its sign it is the opposite. -/
theorem span_turn (l : List Int) (n : Int) (h : spanR l = some n) (h1 : ∀ r, l ≠ 45 :: r) (h2 : ∀ r, l ≠ 43 :: r) : spanR (45 :: l) = some (-n) ∧ 0 ≤ n := by
  have e : spanR l = fullR false l := by
    unfold spanR
    split
    · rename_i r; exact absurd rfl (h1 r)
    · rename_i r; exact absurd rfl (h2 r)
    · rfl
  rw [e] at h
  refine ⟨?_, (full_range _ _ h).1⟩
  show fullR true l = _
  rw [fullR_neg, h]; rfl
theorem span_nil : spanR [] = none := rfl
end Go.Proofs.YtomcjkghneingabDoor.Wn
