/-
  The document's answers: Has, Escape, Unescape.
-/
import Derived.Test.YtjcjhcpaojhcfaaDoorRd
namespace Go.Proofs.YtjcjhcpaojhcfaaDoor
open Go.RowKit
set_option linter.unusedVariables false

def hasZ (t : List Int) : List Int → Bool
  | [] => decide (t = [])
  | c :: r => decide ((c :: r).take t.length = t) || hasZ t r
theorem has_short {t : List Int} : ∀ {l : List Int}, l.length < t.length → hasZ t l = false
  | [], h => by
    rw [hasZ, decide_eq_false]
    rintro rfl; simp at h
  | c :: r, h => by
    rw [hasZ, has_short (l := r) (by simp at h; omega), Bool.or_false, decide_eq_false]
    intro e
    have := congrArg List.length e
    rw [List.length_take] at this
    omega
theorem has_one (a : Int) : ∀ l : List Int, hasZ [a] l = decide (a ∈ l)
  | [] => by simp [hasZ]
  | c :: r => by
    rw [hasZ, has_one a r]
    simp only [List.length_cons, List.length_nil, Nat.zero_add, List.take_succ_cons, List.take_zero, List.cons.injEq, and_true, List.mem_cons]
    rw [Bool.eq_iff_iff]
    simp only [Bool.or_eq_true, decide_eq_true_eq]
    constructor
    · rintro (h | h)
      · exact .inl h.symm
      · exact .inr h
    · rintro (h | h)
      · exact .inl h.symm
      · exact .inr h
set_option maxHeartbeats 2000000 in
set_option maxRecDepth 100000 in
theorem has_any (s t : ByteArray) (w : World) (hs : s.size ≤ 1000000000) (h1 : 1 ≤ t.size) (h2 : t.size ≤ 10) :
    Calls Tryd.prog 45 #[.string s, .string t] w fun e w' => e = .returned (.bool (hasZ (nums t) (nums s))) ∧ w = w' := by
  go_enter Tryd.func45, Tryd.ntmps45
  go_wp2
  go_loopw [5] (fun i wr => ∃ k : Nat, i = .int .i64 k ∧ k ≤ s.size ∧ hasZ (nums t) ((nums s).drop k) = hasZ (nums t) (nums s) ∧ w = wr) (fun i _ => s.size - (intOf i).toNat)
  case atStart => exact ⟨0, rfl, by omega, by rw [List.drop_zero], rfl⟩
  case round =>
    obtain ⟨k, rfl, hk, hh, rfl⟩ := hrel
    have HH : Hid (hasZ (nums t) ((nums s).drop k) = hasZ (nums t) (nums s)) := hh
    clear hh
    by_cases hlt : k + t.size ≤ s.size
    · have hl1 : decide ((k : Int) + (t.size : Int) ≤ (s.size : Int)) = true := decide_eq_true (by omega)
      have k0 : (0 : Int) ≤ (k : Int) := by omega
      have k1 : (k : Int) ≤ (k : Int) + (t.size : Int) := by omega
      have k2 : (k : Int) + (t.size : Int) ≤ (s.size : Int) := by omega
      have k3 : ((k : Int) + (t.size : Int)).toNat = k + t.size := by omega
      have hen := eq_nums (s.extract k (k + t.size)) t
      rw [nums_extract, show k + t.size - k = t.size by omega] at hen
      have hd := nums_drop s k (by omega)
      have hlen := nums_len t
      by_cases hq : ((nums s).drop k).take t.size = nums t
      · have HT : Hid (hasZ (nums t) (nums s) = true) := by
          unfold Hid; rw [← HH.out, hd, hasZ, ← hd, hlen, decide_eq_true hq, Bool.true_or]
        rw [decide_eq_true hq] at hen
        have hen2 : (s.extract k (k + t.size)).toList = t.toList := by simpa using hen
        clear hd hq hlen
        go_wp2
        go_ret
        exact ⟨ret_bool HT.out.symm, by first | trivial | rfl⟩
      · have HT : Hid (hasZ (nums t) ((nums s).drop (k + 1)) = hasZ (nums t) (nums s)) := by
          unfold Hid; rw [← HH.out]
          conv => rhs; rw [hd, hasZ, ← hd, hlen, decide_eq_false hq, Bool.false_or]
        rw [decide_eq_false hq] at hen
        have hen2 : ¬ (s.extract k (k + t.size)).toList = t.toList := by simpa using hen
        clear hd hq hlen
        go_wp2
        go_roundw
        case rel => exact ⟨k + 1, by go_num, by omega, HT.out, by first | trivial | rfl⟩
        case measure => simp [intOf]; omega
    · have hl1 : decide ((k : Int) + (t.size : Int) ≤ (s.size : Int)) = false := decide_eq_false (by omega)
      have HT : Hid (hasZ (nums t) (nums s) = false) := by
        unfold Hid; rw [← HH.out, has_short (by rw [List.length_drop, nums_len, nums_len]; omega)]
      go_wp2
      go_ret
      exact ⟨ret_bool HT.out.symm, by first | trivial | rfl⟩
end Go.Proofs.YtjcjhcpaojhcfaaDoor
