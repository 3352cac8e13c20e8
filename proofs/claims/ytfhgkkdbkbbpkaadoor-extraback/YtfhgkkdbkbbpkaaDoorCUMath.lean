/-
  The plain mathematics of points and their bytes: no program, lists of integers alone.
-/
import Derived.WalkKit
namespace Go.Proofs.YtfhgkkdbkbbpkaaDoor.Cs.Ut
open Go.RowKit

/-- Is a number a point? -/
def ptB (p : Int) : Bool := decide (0 ≤ p ∧ p ≤ 1114111 ∧ ¬ (55296 ≤ p ∧ p ≤ 57343))
/-- A point's bytes. -/
def encZ (p : Int) : List Int :=
  if p < 128 then [p] else if p < 2048 then [192 + p / 64, 128 + p % 64]
  else if p < 65536 then [224 + p / 4096, 128 + p / 64 % 64, 128 + p % 64]
  else [240 + p / 262144, 128 + p / 4096 % 64, 128 + p / 64 % 64, 128 + p % 64]
/-- How many: none, if it is no point. -/
def sizeZ (p : Int) : Int := if ptB p then (encZ p).length else 0

theorem ptB_iff (p : Int) : ptB p = true ↔ 0 ≤ p ∧ p ≤ 1114111 ∧ ¬ (55296 ≤ p ∧ p ≤ 57343) := by unfold ptB; exact decide_eq_true_iff
theorem enc1 {p : Int} (h : p < 128) : encZ p = [p] := by simp [encZ, h]
theorem enc2 {p : Int} (h : 128 ≤ p) (h' : p < 2048) : encZ p = [192 + p / 64, 128 + p % 64] := by
  unfold encZ; rw [if_neg (by omega), if_pos h']
theorem enc3 {p : Int} (h : 2048 ≤ p) (h' : p < 65536) : encZ p = [224 + p / 4096, 128 + p / 64 % 64, 128 + p % 64] := by
  unfold encZ; rw [if_neg (by omega), if_neg (by omega), if_pos h']
theorem enc4 {p : Int} (h : 65536 ≤ p) : encZ p = [240 + p / 262144, 128 + p / 4096 % 64, 128 + p / 64 % 64, 128 + p % 64] := by
  unfold encZ; rw [if_neg (by omega), if_neg (by omega), if_neg (by omega)]

theorem enc_len (p : Int) : 1 ≤ (encZ p).length ∧ (encZ p).length ≤ 4 := by
  unfold encZ; split
  · simp
  · split
    · simp
    · split <;> simp
theorem enc_byte (p : Int) (h : ptB p = true) : ∀ x ∈ encZ p, 0 ≤ x ∧ x < 256 := by
  rw [ptB_iff] at h
  by_cases h1 : p < 128
  · rw [enc1 h1]; simp; omega
  · by_cases h2 : p < 2048
    · rw [enc2 (by omega) h2]; simp; omega
    · by_cases h3 : p < 65536
      · rw [enc3 (by omega) h3]; simp; omega
      · rw [enc4 (by omega)]; simp; omega

theorem i32_and63 (x : Int) (h : 0 ≤ x) (h' : x < 2147483648) : bits .and .i32 x 63 = x % 64 :=
  bits_mask .i32 31 (by decide) (fun n h0 h1 => by simp [IntKind.wrap, IntKind.bits, IntKind.signed]; omega) 6 (by decide) x h (by simpa using h')

/-- A text's bytes as the model has them. -/
theorem strOfNums_toList (xs : List Int) : (strOfNums xs).data.toList = xs.map fun n => UInt8.ofNat n.toNat := rfl

theorem byte_inj {a b : Int} (h0 : 0 ≤ a) (h1 : a < 256) (h2 : 0 ≤ b) (h3 : b < 256) (h : UInt8.ofNat a.toNat = UInt8.ofNat b.toNat) : a = b := by
  have := congrArg UInt8.toNat h
  simp only [UInt8.toNat_ofNat'] at this
  omega
theorem bytes_inj : ∀ {l m : List Int}, (∀ x ∈ l, 0 ≤ x ∧ x < 256) → (∀ x ∈ m, 0 ≤ x ∧ x < 256) → l.map (fun n : Int => UInt8.ofNat n.toNat) = m.map (fun n : Int => UInt8.ofNat n.toNat) → l = m
  | [], [], _, _, _ => rfl
  | [], b :: m, _, _, h => by simp at h
  | a :: l, [], _, _, h => by simp at h
  | a :: l, b :: m, hl, hm, h => by
    simp only [List.map_cons, List.cons.injEq] at h
    have h1 := byte_inj (hl a (by simp)).1 (hl a (by simp)).2 (hm b (by simp)).1 (hm b (by simp)).2 h.1
    have h2 := bytes_inj (fun x hx => hl x (by simp [hx])) (fun x hx => hm x (by simp [hx])) h.2
    rw [h1, h2]

theorem toList_str (xs : List Int) : (strOfNums xs).toList = xs.map fun n => UInt8.ofNat n.toNat := by
  rw [ByteArray.toList_eq]; rfl

theorem bytesLess_nil (l : List UInt8) : Op.bytesLess l [] = false := by cases l <;> rfl
theorem bytesLess_cons (a b : UInt8) (x y : List UInt8) : Op.bytesLess (a :: x) (b :: y) = (decide (a < b) || (a == b && Op.bytesLess x y)) := by simp [Op.bytesLess]
/-- The order of texts, over numbers. -/
def lessZ : List Int → List Int → Bool
  | _, [] => false
  | [], _ :: _ => true
  | a :: x, b :: y => decide (a < b) || (decide (a = b) && lessZ x y)
theorem lt_byte {a b : Int} (h0 : 0 ≤ a) (h1 : a < 256) (h2 : 0 ≤ b) (h3 : b < 256) : decide (UInt8.ofNat a.toNat < UInt8.ofNat b.toNat) = decide (a < b) := by
  apply decide_eq_decide.2
  rw [UInt8.lt_iff_toNat_lt]
  simp only [UInt8.toNat_ofNat']
  omega
theorem eq_byte {a b : Int} (h0 : 0 ≤ a) (h1 : a < 256) (h2 : 0 ≤ b) (h3 : b < 256) : (UInt8.ofNat a.toNat == UInt8.ofNat b.toNat) = decide (a = b) := by
  rw [Bool.eq_iff_iff]
  simp only [beq_iff_eq, decide_eq_true_eq]
  exact ⟨byte_inj h0 h1 h2 h3, fun h => by rw [h]⟩
theorem bytesLess_z : ∀ {l m : List Int}, (∀ x ∈ l, 0 ≤ x ∧ x < 256) → (∀ x ∈ m, 0 ≤ x ∧ x < 256) →
    Op.bytesLess (l.map (fun n : Int => UInt8.ofNat n.toNat)) (m.map (fun n : Int => UInt8.ofNat n.toNat)) = lessZ l m
  | l, [], _, _ => by simp [bytesLess_nil, lessZ]
  | [], b :: m, _, _ => by simp [Op.bytesLess, lessZ]
  | a :: l, b :: m, hl, hm => by
    have h1 := hl a (by simp)
    have h2 := hm b (by simp)
    simp only [List.map_cons, bytesLess_cons, lessZ]
    rw [lt_byte h1.1 h1.2 h2.1 h2.2, eq_byte h1.1 h1.2 h2.1 h2.2, bytesLess_z (fun x hx => hl x (by simp [hx])) (fun x hx => hm x (by simp [hx]))]

/-- Four ranges. -/
theorem pt_cases (p : Int) (h : ptB p = true) : (0 ≤ p ∧ p < 128) ∨ (128 ≤ p ∧ p < 2048) ∨ (2048 ≤ p ∧ p < 65536) ∨ (65536 ≤ p ∧ p ≤ 1114111) := by
  rw [ptB_iff] at h; omega

theorem enc_order (p q : Int) (hp : ptB p = true) (hq : ptB q = true) : lessZ (encZ p) (encZ q) = decide (p < q) := by
  rw [Bool.eq_iff_iff]
  rcases pt_cases p hp with h | h | h | h <;> rcases pt_cases q hq with k | k | k | k
  all_goals
    first | rw [enc1 h.2] | rw [enc2 h.1 h.2] | rw [enc3 h.1 h.2] | rw [enc4 h.1]
    first | rw [enc1 k.2] | rw [enc2 k.1 k.2] | rw [enc3 k.1 k.2] | rw [enc4 k.1]
    simp only [lessZ, Bool.or_eq_true, Bool.and_eq_true, decide_eq_true_eq, Bool.false_eq_true, and_false, or_false]
    try omega
theorem enc_inj (p q : Int) (hp : ptB p = true) (hq : ptB q = true) (e : encZ p = encZ q) : p = q := by
  have h1 := enc_order p q hp hq
  have h2 := enc_order q p hq hp
  rw [e] at h1 h2
  have h3 : ∀ l, lessZ l l = false := by
    intro l; induction l with
    | nil => rfl
    | cons a l ih => simp [lessZ, ih]
  rw [h3] at h1 h2
  have := of_decide_eq_false h1.symm
  have := of_decide_eq_false h2.symm
  omega
/-- No one's bytes are another one's front. -/
theorem enc_front (p q : Int) (hp : ptB p = true) (hq : ptB q = true) (hl : (encZ p).length < (encZ q).length) : (encZ q).take (encZ p).length ≠ encZ p := by
  rcases pt_cases p hp with h | h | h | h <;> rcases pt_cases q hq with k | k | k | k
  all_goals
    (first | rw [enc1 h.2] at hl ⊢ | rw [enc2 h.1 h.2] at hl ⊢ | rw [enc3 h.1 h.2] at hl ⊢ | rw [enc4 h.1] at hl ⊢)
    (first | rw [enc1 k.2] at hl ⊢ | rw [enc2 k.1 k.2] at hl ⊢ | rw [enc3 k.1 k.2] at hl ⊢ | rw [enc4 k.1] at hl ⊢)
    (simp at hl ⊢)
    try omega
end Go.Proofs.YtfhgkkdbkbbpkaaDoor.Cs.Ut
