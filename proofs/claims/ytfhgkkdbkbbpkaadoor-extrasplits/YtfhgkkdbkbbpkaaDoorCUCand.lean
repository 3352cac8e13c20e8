/-
  The plain mathematics of the reference's way to read a point.
-/
import Derived.Test.YtfhgkkdbkbbpkaaDoorCUFlat
namespace Go.Proofs.YtfhgkkdbkbbpkaaDoor.Cs.Ut
open Go.RowKit

/-- What n bytes at a text's front would be. -/
def candZ (l : List Int) (n : Nat) : Int :=
  if n = 2 then 64 * (l.getD 0 0 % 32) + l.getD 1 0 % 64
  else if n = 3 then 64 * (64 * (l.getD 0 0 % 16) + l.getD 1 0 % 64) + l.getD 2 0 % 64
  else 64 * (64 * (64 * (l.getD 0 0 % 8) + l.getD 1 0 % 64) + l.getD 2 0 % 64) + l.getD 3 0 % 64
def okB (l : List Int) (n : Nat) : Bool := ptB (candZ l n) && decide (encZ (candZ l n) = l.take n)

theorem ok_dec {l : List Int} {n : Nat} (hn : n ≤ l.length) (h : okB l n = true) : decZ l = some (candZ l n) ∧ (encZ (candZ l n)).length = n := by
  simp only [okB, Bool.and_eq_true, decide_eq_true_eq] at h
  constructor
  · have : l = encZ (candZ l n) ++ l.drop n := by rw [h.2, List.take_append_drop]
    rw [this]
    have hh := dec_enc h.1 (l.drop n)
    rwa [← this] at hh ⊢
  · rw [h.2, List.length_take]; omega

theorem dec_ok {l : List Int} (hl : Byt l) {p : Int} (h : decZ l = some p) (hc : 128 ≤ l.getD 0 0) :
    2 ≤ (encZ p).length ∧ (encZ p).length ≤ 4 ∧ (encZ p).length ≤ l.length ∧ okB l (encZ p).length = true ∧ candZ l (encZ p).length = p := by
  obtain ⟨hp, r, rfl⟩ := dec_sound hl h
  have hb := (ptB_iff p).1 hp
  have h4 := enc_len p
  have key : 2 ≤ (encZ p).length ∧ candZ (encZ p ++ r) (encZ p).length = p := by
    rcases pt_cases p hp with k | k | k | k
    · exfalso; rw [enc1 k.2] at hc; simp at hc; omega
    · rw [enc2 k.1 k.2]; simp [candZ]; omega
    · rw [enc3 k.1 k.2]; simp [candZ]; omega
    · rw [enc4 k.1]; simp [candZ]; omega
  refine ⟨key.1, h4.2, by simp, ?_, key.2⟩
  simp only [okB, key.2, hp, Bool.true_and, decide_eq_true_eq]
  simp
end Go.Proofs.YtfhgkkdbkbbpkaaDoor.Cs.Ut
