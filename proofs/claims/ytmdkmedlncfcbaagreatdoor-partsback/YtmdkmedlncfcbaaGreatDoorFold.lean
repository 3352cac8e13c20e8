/-
  Where a line is folded; the contract of foldAt.
-/
import Derived.Test.YtmdkmedlncfcbaaGreatDoorVal
import Derived.Test.YtmdkmedlncfcbaaGreatDoorBase
namespace Go.Proofs.YtmdkmedlncfcbaaGreatDoor
open Go.RowKit
set_option linter.unusedVariables false

/-- The last blank among the first k, or -1. -/
def lastI (l : List Int) : Nat → Int
  | 0 => -1
  | k + 1 => if l[k]? = some 32 then (k : Int) else lastI l k
/-- The first blank, or -1. -/
def firstI : List Int → Int
  | [] => -1
  | c :: l => if c = 32 then 0 else if firstI l = -1 then -1 else firstI l + 1
theorem lastI_spec (l : List Int) : ∀ k, (lastI l k = -1 ∧ ∀ j, j < k → l[j]? ≠ some 32) ∨ (∃ i : Nat, i < k ∧ lastI l k = i ∧ l[i]? = some 32 ∧ ∀ j, i < j → j < k → l[j]? ≠ some 32)
  | 0 => .inl ⟨rfl, fun j h => absurd h (Nat.not_lt_zero _)⟩
  | k + 1 => by
    unfold lastI
    by_cases h : l[k]? = some 32
    · rw [if_pos h]; exact .inr ⟨k, by omega, rfl, h, fun j h1 h2 => by omega⟩
    · rw [if_neg h]
      rcases lastI_spec l k with ⟨e, hn⟩ | ⟨i, hi, e, hc, hn⟩
      · refine .inl ⟨e, fun j hj => ?_⟩
        by_cases hjk : j = k
        · subst hjk; exact h
        · exact hn j (by omega)
      · refine .inr ⟨i, by omega, e, hc, fun j h1 h2 => ?_⟩
        by_cases hjk : j = k
        · subst hjk; exact h
        · exact hn j h1 (by omega)
theorem firstI_spec : ∀ l : List Int, (firstI l = -1 ∧ ∀ j : Nat, l[j]? ≠ some 32) ∨ (∃ i : Nat, firstI l = i ∧ l[i]? = some 32 ∧ ∀ j : Nat, j < i → l[j]? ≠ some 32)
  | [] => .inl ⟨rfl, by simp⟩
  | c :: l => by
    unfold firstI
    by_cases h : c = 32
    · rw [if_pos h]; exact .inr ⟨0, rfl, by simp [h], fun j hj => by omega⟩
    · rw [if_neg h]
      rcases firstI_spec l with ⟨e, hn⟩ | ⟨i, e, hc, hn⟩
      · rw [if_pos e]
        refine .inl ⟨rfl, fun j => ?_⟩
        cases j with
        | zero => simpa using h
        | succ j => simpa using hn j
      · rw [if_neg (by omega), e]
        refine .inr ⟨i + 1, by omega, by simpa using hc, fun j hj => ?_⟩
        cases j with
        | zero => simpa using h
        | succ j => simpa using hn j (by omega)
theorem last_lib (s : ByteArray) : ∀ k, k ≤ s.size → Lib.lastIdx s 32 k = lastI (nums s) k
  | 0, _ => rfl
  | k + 1, h => by
    unfold Lib.lastIdx lastI
    have e : (nums s)[k]? = some ((s.data[k]!).toNat : Int) := by
      have hk : k < s.data.size := h
      rw [nums, List.getElem?_map, Array.getElem?_toList, Array.getElem?_eq_getElem hk, Option.map_some, getElem!_pos s.data k hk]
    rw [e, last_lib s k (by omega)]
    by_cases q : ((s.data[k]!).toNat : Int) = 32
    · rw [if_pos q, if_pos (by rw [q])]
    · rw [if_neg q, if_neg (by simpa using q)]
theorem first_lib : ∀ l : List UInt8, Lib.indexByte l 32 = firstI (l.map fun b => (b.toNat : Int))
  | [] => rfl
  | b :: l => by
    rw [List.map_cons]
    unfold Lib.indexByte firstI
    rw [first_lib l]
    have e : (b == 32) = decide ((b.toNat : Int) = 32) := by
      rw [Bool.eq_iff_iff]
      simp only [beq_iff_eq, decide_eq_true_eq, ← UInt8.toNat_inj]
      simp
      omega
    rw [e]
    by_cases q : (b.toNat : Int) = 32
    · simp [q]
    · rw [if_neg (by simpa using q), if_neg q]
      by_cases q2 : firstI (l.map fun b => (b.toNat : Int)) = -1
      · rw [if_pos q2, if_pos (by simpa using q2)]
      · rw [if_neg q2, if_neg (by simpa using q2)]
/-- Where a line is folded. -/
def foldZ (first : Nat) (l : List Int) : Option Nat :=
  if l.length ≤ 76 then none
  else if (first : Int) < lastI l 77 then some (lastI l 77).toNat
  else if 0 ≤ firstI (l.drop 77) then some (77 + firstI (l.drop 77)).toNat else none
theorem foldZ_some {first k : Nat} {l : List Int} (hf : first ≤ 76) (h : foldZ first l = some k) : first < k ∧ k < l.length ∧ l[k]? = some 32 := by
  unfold foldZ at h
  by_cases h1 : l.length ≤ 76
  · rw [if_pos h1] at h; simp at h
  rw [if_neg h1] at h
  by_cases h2 : (first : Int) < lastI l 77
  · rw [if_pos h2] at h
    rcases lastI_spec l 77 with ⟨e, _⟩ | ⟨i, hi, e, hc, _⟩
    · omega
    · rw [e] at h h2
      simp at h
      subst h
      exact ⟨by omega, by omega, hc⟩
  · rw [if_neg h2] at h
    by_cases h3 : 0 ≤ firstI (l.drop 77)
    · rw [if_pos h3] at h
      rcases firstI_spec (l.drop 77) with ⟨e, _⟩ | ⟨i, e, hc, _⟩
      · omega
      · rw [e] at h
        simp at h
        have hk : k = 77 + i := by omega
        subst hk
        rw [List.getElem?_drop] at hc
        refine ⟨by omega, ?_, hc⟩
        rcases Nat.lt_or_ge (77 + i) l.length with q | q
        · exact q
        · rw [List.getElem?_eq_none q] at hc; simp at hc
    · rw [if_neg h3] at h; simp at h
set_option maxRecDepth 100000 in
set_option maxHeartbeats 2000000 in
theorem foldAt_any (s : ByteArray) (first : Nat) (w : World) (hs : s.size ≤ 1000000000) (hf : first ≤ 76) :
    Calls Tryz.prog 122 #[.string s, .int .i64 first] w fun e w' => (∃ at' : Int, e = .returned (.tuple #[.int .i64 at', .bool (foldZ first (nums s)).isSome]) ∧ ∀ k, foldZ first (nums s) = some k → at' = k) ∧ w = w' := by
  by_cases h1 : s.size ≤ 76
  · have hd : decide ((s.size : Int) ≤ 76) = true := by simp; omega
    have HZ : Hid (foldZ first (nums s) = none) := by unfold Hid foldZ; rw [nums_len, if_pos h1]
    go_enter Tryz.func122, Tryz.ntmps122
    go_wp2
    go_ret2
    rw [HZ.out]
    exact ⟨⟨0, rfl, by simp⟩, rfl⟩
  have hd : decide ((s.size : Int) ≤ 76) = false := by simp; omega
  have hL := Any.strings_LastIndexByte lays149 (s.extract 0 77) 32 (by rw [← nums_len, nums_to]; simp; omega) w
  have e1 : Lib.lastIndexByte (s.extract 0 77) 32 = lastI (nums s) 77 := by
    have hz : (s.extract 0 77).size = 77 := by rw [← nums_len, nums_to, List.length_take, nums_len]; omega
    rw [Lib.lastIndexByte, hz, last_lib _ 77 (by omega), nums_to]
    have key : ∀ k, k ≤ 77 → lastI ((nums s).take 77) k = lastI (nums s) k := by
      intro k
      induction k with
      | zero => intro _; rfl
      | succ k ih =>
        intro hk
        have e : ((nums s).take 77)[k]? = (nums s)[k]? := List.getElem?_take_of_lt (by omega)
        unfold lastI
        rw [ih (by omega), e]
    exact key 77 (Nat.le_refl _)
  rw [e1] at hL
  have hI := Any.strings_IndexByte lays137 (s.extract 77 s.size) 32 w
  have e2 : Lib.indexByte (s.extract 77 s.size).data.toList (32 : Int).toNat.toUInt8 = firstI ((nums s).drop 77) := by
    rw [show (32 : Int).toNat.toUInt8 = 32 from rfl, first_lib, ← nums_from]; rfl
  rw [e2] at hI
  obtain ⟨x, hx⟩ : ∃ x, lastI (nums s) 77 = x := ⟨_, rfl⟩
  obtain ⟨y, hy⟩ : ∃ y, firstI ((nums s).drop 77) = y := ⟨_, rfl⟩
  have hyb : -1 ≤ y ∧ y ≤ 1000000000 := by
    rcases firstI_spec ((nums s).drop 77) with ⟨e, _⟩ | ⟨i, e, hc, _⟩
    · omega
    · rw [hy] at e
      have : i < ((nums s).drop 77).length := by
        rcases Nat.lt_or_ge i ((nums s).drop 77).length with q | q
        · exact q
        · rw [List.getElem?_eq_none q] at hc; simp at hc
      rw [List.length_drop, nums_len] at this
      omega
  rw [hx] at hL
  rw [hy] at hI
  have HZ : Hid (foldZ first (nums s) = if (first : Int) < x then some x.toNat else if 0 ≤ y then some (77 + y).toNat else none) := by
    unfold Hid foldZ; rw [nums_len, if_neg h1, hx, hy]
  clear e1 e2 hx hy
  by_cases h2 : (first : Int) < x
  · have hd2 : decide (x > (first : Int)) = true := by simpa using h2
    go_enter Tryz.func122, Tryz.ntmps122
    go_wp2_with (go_at_call 159; refine hL.mono ?_; rintro e w' ⟨rfl, rfl⟩)
    go_ret2
    rw [HZ.out, if_pos (by omega)]
    exact ⟨⟨x, rfl, fun k hk => by simp at hk; omega⟩, rfl⟩
  · have hd2 : decide (x > (first : Int)) = false := by simpa using h2
    by_cases h3 : 0 ≤ y
    · have hd3 : decide (y ≥ 0) = true := by simpa using h3
      go_enter Tryz.func122, Tryz.ntmps122
      go_wp2_with (first | (go_at_call 159; refine hL.mono ?_; rintro e w' ⟨rfl, rfl⟩) | (go_at_call 135; refine hI.mono ?_; rintro e w' ⟨rfl, rfl⟩))
      go_ret2
      rw [HZ.out, if_neg (by omega), if_pos (by omega)]
      exact ⟨⟨77 + y, rfl, fun k hk => by simp at hk; omega⟩, rfl⟩
    · have hd3 : decide (y ≥ 0) = false := by simpa using h3
      go_enter Tryz.func122, Tryz.ntmps122
      go_wp2_with (first | (go_at_call 159; refine hL.mono ?_; rintro e w' ⟨rfl, rfl⟩) | (go_at_call 135; refine hI.mono ?_; rintro e w' ⟨rfl, rfl⟩))
      go_ret2
      rw [HZ.out, if_neg (by omega), if_neg (by omega)]
      exact ⟨⟨77 + y, rfl, by simp⟩, rfl⟩
end Go.Proofs.YtmdkmedlncfcbaaGreatDoor
