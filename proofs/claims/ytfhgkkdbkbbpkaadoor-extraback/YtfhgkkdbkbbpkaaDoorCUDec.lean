/-
  The plain mathematics of reading a point off a text's front.
-/
import Derived.Test.YtfhgkkdbkbbpkaaDoorCUMath
namespace Go.Proofs.YtfhgkkdbkbbpkaaDoor.Cs.Ut
open Go.RowKit

/-- Bytes. -/
def Byt (l : List Int) : Prop := ∀ x ∈ l, 0 ≤ x ∧ x < 256
theorem Byt.head {c : Int} {l : List Int} (h : Byt (c :: l)) : 0 ≤ c ∧ c < 256 := h c (by simp)
theorem Byt.tail {c : Int} {l : List Int} (h : Byt (c :: l)) : Byt l := fun x hx => h x (by simp [hx])
theorem Byt.drop {l : List Int} (h : Byt l) (n : Nat) : Byt (l.drop n) := fun x hx => h x (List.mem_of_mem_drop hx)
theorem Byt.take {l : List Int} (h : Byt l) (n : Nat) : Byt (l.take n) := fun x hx => h x (List.mem_of_mem_take hx)
theorem Byt.append {l m : List Int} (h : Byt l) (k : Byt m) : Byt (l ++ m) := fun x hx => by
  rcases List.mem_append.1 hx with q | q
  · exact h x q
  · exact k x q
def conB (d : Int) : Bool := decide (128 ≤ d ∧ d < 192)
/-- The point at a text's front. -/
def decZ : List Int → Option Int
  | [] => none
  | c :: r =>
    if c < 128 then some c
    else if c < 192 then none
    else if c < 224 then
      match r with
      | d :: _ => if conB d && decide (sizeZ (c % 32 * 64 + d % 64) = 2) then some (c % 32 * 64 + d % 64) else none
      | _ => none
    else if c < 240 then
      match r with
      | d :: g :: _ => if conB d && conB g && decide (sizeZ ((c % 16 * 64 + d % 64) * 64 + g % 64) = 3) then some ((c % 16 * 64 + d % 64) * 64 + g % 64) else none
      | _ => none
    else if c < 248 then
      match r with
      | d :: g :: k :: _ => if conB d && conB g && conB k && decide (sizeZ (((c % 8 * 64 + d % 64) * 64 + g % 64) * 64 + k % 64) = 4) then some (((c % 8 * 64 + d % 64) * 64 + g % 64) * 64 + k % 64) else none
      | _ => none
    else none

theorem size_pt {p : Int} {n : Nat} (hn : 0 < n) (h : sizeZ p = n) : ptB p = true ∧ (encZ p).length = n := by
  unfold sizeZ at h
  by_cases hp : ptB p = true
  · rw [if_pos hp] at h; exact ⟨hp, by omega⟩
  · rw [if_neg hp] at h; omega
theorem size_one {p : Int} (h : 0 ≤ p) (h' : p < 128) : sizeZ p = 1 := by
  have : ptB p = true := by rw [ptB_iff]; omega
  simp [sizeZ, this, enc1 h']
theorem enc_len_ranges {p : Int} (h : ptB p = true) : ((encZ p).length = 1 ↔ p < 128) ∧ ((encZ p).length = 2 ↔ 128 ≤ p ∧ p < 2048) ∧ ((encZ p).length = 3 ↔ 2048 ≤ p ∧ p < 65536) ∧ ((encZ p).length = 4 ↔ 65536 ≤ p) := by
  rcases pt_cases p h with k | k | k | k
  · rw [enc1 k.2]; simp; omega
  · rw [enc2 k.1 k.2]; simp; omega
  · rw [enc3 k.1 k.2]; simp; omega
  · rw [enc4 k.1]; simp; omega

/-- What is read is a point, and its bytes stand at the front. -/
theorem dec_sound {l : List Int} (hl : Byt l) {p : Int} (h : decZ l = some p) : ptB p = true ∧ ∃ r, l = encZ p ++ r := by
  cases l with
  | nil => simp [decZ] at h
  | cons c r =>
    have hc := hl.head
    dsimp only [decZ] at h
    by_cases h1 : c < 128
    · rw [if_pos h1] at h
      obtain rfl : c = p := by simpa using h
      exact ⟨by rw [ptB_iff]; omega, r, by rw [enc1 h1]; rfl⟩
    · rw [if_neg h1] at h
      by_cases h2 : c < 192
      · rw [if_pos h2] at h; simp at h
      · rw [if_neg h2] at h
        by_cases h3 : c < 224
        · rw [if_pos h3] at h
          match r, hl, h with
          | [], _, h => simp at h
          | d :: r, hl, h =>
            simp only [Option.ite_none_right_eq_some, Bool.and_eq_true, decide_eq_true_eq, Option.some.injEq, conB] at h
            obtain ⟨⟨hd, hs⟩, rfl⟩ := h
            have hp := size_pt (n := 2) (by omega) hs
            have hr := (enc_len_ranges hp.1).2.1.1 hp.2
            refine ⟨hp.1, r, ?_⟩
            rw [enc2 hr.1 hr.2]
            simp only [List.cons_append, List.nil_append, List.cons.injEq, and_true]
            omega
        · rw [if_neg h3] at h
          by_cases h4 : c < 240
          · rw [if_pos h4] at h
            match r, hl, h with
            | [], _, h => simp at h
            | [d], _, h => simp at h
            | d :: g :: r, hl, h =>
              simp only [Option.ite_none_right_eq_some, Bool.and_eq_true, decide_eq_true_eq, Option.some.injEq, conB] at h
              obtain ⟨⟨⟨hd, hg⟩, hs⟩, rfl⟩ := h
              have hp := size_pt (n := 3) (by omega) hs
              have hr := (enc_len_ranges hp.1).2.2.1.1 hp.2
              refine ⟨hp.1, r, ?_⟩
              rw [enc3 hr.1 hr.2]
              simp only [List.cons_append, List.nil_append, List.cons.injEq, and_true]
              omega
          · rw [if_neg h4] at h
            by_cases h5 : c < 248
            · rw [if_pos h5] at h
              match r, hl, h with
              | [], _, h => simp at h
              | [d], _, h => simp at h
              | [d, g], _, h => simp at h
              | d :: g :: k :: r, hl, h =>
                simp only [Option.ite_none_right_eq_some, Bool.and_eq_true, decide_eq_true_eq, Option.some.injEq, conB] at h
                obtain ⟨⟨⟨⟨hd, hg⟩, hk⟩, hs⟩, rfl⟩ := h
                have hp := size_pt (n := 4) (by omega) hs
                have hr := (enc_len_ranges hp.1).2.2.2.1 hp.2
                refine ⟨hp.1, r, ?_⟩
                rw [enc4 hr]
                simp only [List.cons_append, List.nil_append, List.cons.injEq, and_true]
                omega
            · rw [if_neg h5] at h; simp at h

/-- Where a point's bytes stand at the front it is read. -/
theorem dec_enc {p : Int} (hp : ptB p = true) (r : List Int) : decZ (encZ p ++ r) = some p := by
  have hb := (ptB_iff p).1 hp
  rcases pt_cases p hp with k | k | k | k
  · rw [enc1 k.2]; simp [decZ, k.2]
  · have hs : sizeZ p = 2 := by simp [sizeZ, hp, enc2 k.1 k.2]
    have e : (192 + p / 64) % 32 * 64 + (128 + p % 64) % 64 = p := by omega
    rw [enc2 k.1 k.2]
    simp only [List.cons_append, List.nil_append, decZ, e, hs]
    rw [if_neg (by omega), if_neg (by omega), if_pos (by omega), if_pos (by simp [conB]; omega)]
  · have hs : sizeZ p = 3 := by simp [sizeZ, hp, enc3 k.1 k.2]
    have e : ((224 + p / 4096) % 16 * 64 + (128 + p / 64 % 64) % 64) * 64 + (128 + p % 64) % 64 = p := by omega
    rw [enc3 k.1 k.2]
    simp only [List.cons_append, List.nil_append, decZ, e, hs]
    rw [if_neg (by omega), if_neg (by omega), if_neg (by omega), if_pos (by omega), if_pos (by simp [conB]; omega)]
  · have hs : sizeZ p = 4 := by simp [sizeZ, hp, enc4 k.1]
    have e : (((240 + p / 262144) % 8 * 64 + (128 + p / 4096 % 64) % 64) * 64 + (128 + p / 64 % 64) % 64) * 64 + (128 + p % 64) % 64 = p := by omega
    rw [enc4 k.1]
    simp only [List.cons_append, List.nil_append, decZ, e, hs]
    rw [if_neg (by omega), if_neg (by omega), if_neg (by omega), if_neg (by omega), if_pos (by omega), if_pos (by simp [conB]; omega)]
end Go.Proofs.YtfhgkkdbkbbpkaaDoor.Cs.Ut
