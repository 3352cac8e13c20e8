/-
  Binary digits in sixes, laid in lines, are the signs.
-/
import Derived.Test.YtegdblchgfiefaaBin
import Derived.Test.YtegdblchgfiefaaEnc
namespace Go.Proofs.Ytegdblchgfiefaa
open Go.RowKit
set_option linter.unusedVariables false

/-- The number of a row's first digits. -/
def pvZ (d : List Int) : Nat → Int
  | 0 => 0
  | i + 1 => 2 * pvZ d i + d.getD i 0
def lnb (wd ln : Int) : Int := if 0 < wd ∧ ln = wd then 0 else ln
/-- What is still written, from a line's place and the digits that are left on. -/
def gsF (wd : Int) : Nat → Int → List Int → List Int
  | 0, _, _ => []
  | n + 1, ln, d => if d = [] ∧ ln % 4 = 0 then [] else
      brk wd ln ++ (if d = [] then 61 :: gsF wd n (lnb wd ln + 1) [] else sgn (pvZ d 6).toNat :: gsF wd n (lnb wd ln + 1) (d.drop 6))
theorem gsF_end (wd : Int) (n : Nat) (ln : Int) (h : ln % 4 = 0) : gsF wd n ln [] = [] := by
  cases n with
  | zero => rfl
  | succ n => unfold gsF; rw [if_pos ⟨rfl, h⟩]
theorem gsF_pad (wd : Int) (n : Nat) (ln : Int) (h2 : wd % 4 = 0) (h : ln % 4 ≠ 0) : gsF wd (n + 1) ln [] = 61 :: gsF wd n (ln + 1) [] := by
  rw [gsF, if_neg (fun q => h q.2), if_pos rfl]
  have hb : ¬ (0 < wd ∧ ln = wd) := by rintro ⟨_, e⟩; rw [e] at h; exact h h2
  rw [show brk wd ln = [] from by unfold brk; rw [if_neg hb], show lnb wd ln = ln from by unfold lnb; rw [if_neg hb]]
  rfl
theorem gsF_in (wd : Int) (n : Nat) (ln : Int) (d : List Int) (h2 : wd % 4 = 0) (h : ln % 4 ≠ 0) (hd : d ≠ []) : gsF wd (n + 1) ln d = sgn (pvZ d 6).toNat :: gsF wd n (ln + 1) (d.drop 6) := by
  rw [gsF, if_neg (fun q => h q.2), if_neg hd]
  have hb : ¬ (0 < wd ∧ ln = wd) := by rintro ⟨_, e⟩; rw [e] at h; exact h h2
  rw [show brk wd ln = [] from by unfold brk; rw [if_neg hb], show lnb wd ln = ln from by unfold lnb; rw [if_neg hb]]
  rfl
theorem gsF_first (wd : Int) (n : Nat) (ln : Int) (d : List Int) (hd : d ≠ []) : gsF wd (n + 1) ln d = brk wd ln ++ sgn (pvZ d 6).toNat :: gsF wd n (lnb wd ln + 1) (d.drop 6) := by
  rw [gsF, if_neg (fun q => hd q.1), if_neg hd]
theorem lnb_mod (wd ln : Int) (h : ln % 4 = 0) : lnb wd ln % 4 = 0 := by unfold lnb; split <;> omega
theorem nxt_lnb (wd ln : Int) : nxt wd ln = lnb wd ln + 4 := rfl

theorem binZ_cons (x : Int) (r : List Int) : binZ (x :: r) = bin1 x ++ binZ r := rfl

set_option maxHeartbeats 4000000 in
theorem gs_enc (wd : Int) (h2 : wd % 4 = 0) : ∀ (k : Nat) (l : List Int) (n : Nat) (ln : Int), l.length ≤ k → Byt l → ln % 4 = 0 → 2 * l.length + 4 ≤ n → gsF wd n ln (binZ l) = encW wd ln l
  | _, [], n, ln, _, _, h, _ => by rw [show binZ [] = [] from rfl, gsF_end _ _ _ h]; rfl
  | _, [x], n, ln, _, hb, h, hn => by
    have hx := hb.head
    have hl := lnb_mod wd ln h
    obtain ⟨m, rfl⟩ : ∃ m, n = m + 1 + 1 + 1 + 1 := ⟨n - 4, by simp at hn; omega⟩
    rw [show binZ [x] = bin1 x from by simp [binZ]]
    rw [gsF_first wd _ ln (bin1 x) (by simp [bin1])]
    rw [gsF_in wd _ _ ((bin1 x).drop 6) h2 (by omega) (by simp [bin1])]
    rw [show ((bin1 x).drop 6).drop 6 = [] from rfl]
    rw [gsF_pad wd _ _ h2 (by omega), gsF_pad wd _ _ h2 (by omega), gsF_end _ _ _ (by omega)]
    show _ = brk wd ln ++ fourL x 0 0 1
    congr 1
    unfold fourL
    have e1 : pvZ (bin1 x) 6 = ((x * 256 + 0) * 256 + 0) / 262144 % 64 := by simp [pvZ, bin1]; omega
    have e2 : pvZ ((bin1 x).drop 6) 6 = ((x * 256 + 0) * 256 + 0) / 4096 % 64 := by simp [pvZ, bin1]; omega
    rw [e1, e2]
    simp
  | _, [x, y], n, ln, _, hb, h, hn => by
    have hx := hb.head
    have hy := hb.tail.head
    have hl := lnb_mod wd ln h
    obtain ⟨m, rfl⟩ : ∃ m, n = m + 1 + 1 + 1 + 1 := ⟨n - 4, by simp at hn; omega⟩
    rw [show binZ [x, y] = bin1 x ++ bin1 y from by simp [binZ]]
    rw [gsF_first wd _ ln (bin1 x ++ bin1 y) (by simp [bin1])]
    rw [gsF_in wd _ _ ((bin1 x ++ bin1 y).drop 6) h2 (by omega) (by simp [bin1])]
    rw [gsF_in wd _ _ (((bin1 x ++ bin1 y).drop 6).drop 6) h2 (by omega) (by simp [bin1])]
    rw [show (((bin1 x ++ bin1 y).drop 6).drop 6).drop 6 = [] from rfl]
    rw [gsF_pad wd _ _ h2 (by omega), gsF_end _ _ _ (by omega)]
    show _ = brk wd ln ++ fourL x y 0 2
    congr 1
    unfold fourL
    have e1 : pvZ (bin1 x ++ bin1 y) 6 = ((x * 256 + y) * 256 + 0) / 262144 % 64 := by simp [pvZ, bin1]; omega
    have e2 : pvZ ((bin1 x ++ bin1 y).drop 6) 6 = ((x * 256 + y) * 256 + 0) / 4096 % 64 := by simp [pvZ, bin1]; omega
    have e3 : pvZ (((bin1 x ++ bin1 y).drop 6).drop 6) 6 = ((x * 256 + y) * 256 + 0) / 64 % 64 := by simp [pvZ, bin1]; omega
    rw [e1, e2, e3]
    simp
  | 0, x :: y :: z :: r, n, ln, hk, _, _, _ => by simp at hk
  | k + 1, x :: y :: z :: r, n, ln, hk, hb, h, hn => by
    have hx := hb.head
    have hy := hb.tail.head
    have hz := hb.tail.tail.head
    have hl := lnb_mod wd ln h
    simp only [List.length_cons] at hn hk
    obtain ⟨m, rfl⟩ : ∃ m, n = m + 1 + 1 + 1 + 1 := ⟨n - 4, by omega⟩
    have ih := gs_enc wd h2 k r m (nxt wd ln) (by omega) hb.tail.tail.tail (by rw [nxt_lnb]; omega) (by omega)
    rw [binZ_cons, binZ_cons, binZ_cons]
    generalize binZ r = d at ih ⊢
    rw [gsF_first wd _ ln (bin1 x ++ (bin1 y ++ (bin1 z ++ d))) (by simp [bin1])]
    rw [gsF_in wd _ _ ((bin1 x ++ (bin1 y ++ (bin1 z ++ d))).drop 6) h2 (by omega) (by simp [bin1])]
    rw [gsF_in wd _ _ (((bin1 x ++ (bin1 y ++ (bin1 z ++ d))).drop 6).drop 6) h2 (by omega) (by simp [bin1])]
    rw [gsF_in wd _ _ ((((bin1 x ++ (bin1 y ++ (bin1 z ++ d))).drop 6).drop 6).drop 6) h2 (by omega) (by simp [bin1])]
    rw [show ((((bin1 x ++ (bin1 y ++ (bin1 z ++ d))).drop 6).drop 6).drop 6).drop 6 = d from rfl]
    rw [show lnb wd ln + 1 + 1 + 1 + 1 = nxt wd ln from by rw [nxt_lnb]; omega, ih]
    show _ = brk wd ln ++ fourL x y z 3 ++ encW wd (nxt wd ln) r
    rw [List.append_assoc]
    congr 1
    unfold fourL
    have e1 : pvZ (bin1 x ++ (bin1 y ++ (bin1 z ++ d))) 6 = ((x * 256 + y) * 256 + z) / 262144 % 64 := by simp [pvZ, bin1]; omega
    have e2 : pvZ ((bin1 x ++ (bin1 y ++ (bin1 z ++ d))).drop 6) 6 = ((x * 256 + y) * 256 + z) / 4096 % 64 := by simp [pvZ, bin1]; omega
    have e3 : pvZ (((bin1 x ++ (bin1 y ++ (bin1 z ++ d))).drop 6).drop 6) 6 = ((x * 256 + y) * 256 + z) / 64 % 64 := by simp [pvZ, bin1]; omega
    have e4 : pvZ ((((bin1 x ++ (bin1 y ++ (bin1 z ++ d))).drop 6).drop 6).drop 6) 6 = z % 64 := by simp [pvZ, bin1]; omega
    rw [e1, e2, e3, e4]
    simp
/-- Digits. -/
def Dig (d : List Int) : Prop := ∀ x ∈ d, x = 0 ∨ x = 1
theorem bin_dig (l : List Int) : Dig (binZ l) := by
  intro x hx
  simp only [binZ, List.mem_flatMap] at hx
  obtain ⟨c, _, hc⟩ := hx
  simp [bin1] at hc
  omega
theorem dig_getD {d : List Int} (h : Dig d) (i : Nat) : d.getD i 0 = 0 ∨ d.getD i 0 = 1 := by
  rw [List.getD_eq_getElem?_getD]
  rcases Nat.lt_or_ge i d.length with q | q
  · rw [List.getElem?_eq_getElem q]; exact h _ (List.getElem_mem q)
  · rw [List.getElem?_eq_none q]; exact .inl rfl
theorem pv_range {d : List Int} (h : Dig d) : ∀ i, 0 ≤ pvZ d i ∧ pvZ d i < 2 ^ i
  | 0 => by simp [pvZ]
  | i + 1 => by
    have := pv_range h i
    have := dig_getD h i
    simp only [pvZ, Int.pow_succ]
    omega
theorem brk_count (wd ln : Int) : ((brk wd ln).length : Int) = if 0 < wd ∧ ln = wd then 2 else 0 := by unfold brk; split <;> simp
/-- One group's share of the breaks. -/
theorem grp_one {wd ln : Int} (hw : 0 < wd) (h2 : wd % 4 = 0) (h : ln % 4 = 0) (h0 : 0 ≤ ln) (hle : ln ≤ wd) : ((brk wd ln).length : Int) = (ln + 4 - 1) / wd * 2 := by
  rw [brk_count]
  by_cases e : ln = wd
  · rw [if_pos ⟨hw, e⟩, e]
    have h1 : (3 + 1 * wd) / wd = 3 / wd + 1 := Int.add_mul_ediv_right 3 1 (by omega)
    have h3 : (3 : Int) / wd = 0 := Int.ediv_eq_zero_of_lt (by omega) (by omega)
    rw [show wd + 4 - 1 = 3 + 1 * wd from by omega, h1, h3]; rfl
  · rw [if_neg (fun q => e q.2)]
    have h3 : (ln + 4 - 1) / wd = 0 := Int.ediv_eq_zero_of_lt (by omega) (by omega)
    rw [h3]; rfl
theorem grp_more {wd ln S : Int} (hw : 0 < wd) : ((brk wd ln).length : Int) + (nxt wd ln + S - 1) / wd * 2 = (ln + (S + 4) - 1) / wd * 2 := by
  rw [brk_count, nxt_lnb]
  unfold lnb
  by_cases e : ln = wd
  · rw [if_pos ⟨hw, e⟩, if_pos ⟨hw, e⟩, e]
    have h1 : ((S + 3) + 1 * wd) / wd = (S + 3) / wd + 1 := Int.add_mul_ediv_right (S + 3) 1 (by omega)
    rw [show wd + (S + 4) - 1 = (S + 3) + 1 * wd from by omega, h1, show (0 : Int) + 4 + S - 1 = S + 3 from by omega]
    omega
  · rw [if_neg (fun q => e q.2), if_neg (fun q => e q.2), show ln + 4 + S - 1 = ln + (S + 4) - 1 from by omega]
    omega
/-- How many signs the text has. -/
theorem enc_lenZ (wd : Int) (h0 : 0 ≤ wd) (h2 : wd % 4 = 0) : ∀ (k : Nat) (l : List Int) (ln : Int), l.length ≤ k → ln % 4 = 0 → 0 ≤ ln → (0 < wd → ln ≤ wd) → l ≠ [] →
    ((encW wd ln l).length : Int) = if 0 < wd then ((l.length : Int) + 2) / 3 * 4 + (ln + (((l.length : Int) + 2) / 3 * 4) - 1) / wd * 2 else ((l.length : Int) + 2) / 3 * 4
  | _, [], ln, _, _, _, _, hne => absurd rfl hne
  | _, [x], ln, _, h, hl, hle, _ => by
    show (((brk wd ln ++ fourL x 0 0 1).length : Nat) : Int) = _
    rw [List.length_append, fourL_len]
    by_cases hw : 0 < wd
    · rw [if_pos hw]
      have := grp_one hw h2 h hl (hle hw)
      simp only [List.length_cons, List.length_nil]
      rw [show (((0 + 1 : Nat) : Int) + 2) / 3 * 4 = 4 from rfl]
      omega
    · rw [if_neg hw]
      have := brk_count wd ln
      rw [if_neg (fun q => hw q.1)] at this
      simp only [List.length_cons, List.length_nil]
      omega
  | _, [x, y], ln, _, h, hl, hle, _ => by
    show (((brk wd ln ++ fourL x y 0 2).length : Nat) : Int) = _
    rw [List.length_append, fourL_len]
    by_cases hw : 0 < wd
    · rw [if_pos hw]
      have := grp_one hw h2 h hl (hle hw)
      simp only [List.length_cons, List.length_nil]
      rw [show (((0 + 1 + 1 : Nat) : Int) + 2) / 3 * 4 = 4 from rfl]
      omega
    · rw [if_neg hw]
      have := brk_count wd ln
      rw [if_neg (fun q => hw q.1)] at this
      simp only [List.length_cons, List.length_nil]
      omega
  | 0, x :: y :: z :: r, ln, hk, _, _, _, _ => by simp at hk
  | k + 1, x :: y :: z :: r, ln, hk, h, hl, hle, _ => by
    show (((brk wd ln ++ fourL x y z 3 ++ encW wd (nxt wd ln) r).length : Nat) : Int) = _
    rw [List.length_append, List.length_append, fourL_len]
    by_cases hr : r = []
    · subst hr
      rw [show (encW wd (nxt wd ln) []).length = 0 from rfl]
      by_cases hw : 0 < wd
      · rw [if_pos hw]
        have := grp_one hw h2 h hl (hle hw)
        simp only [List.length_cons, List.length_nil]
        rw [show (((0 + 1 + 1 + 1 : Nat) : Int) + 2) / 3 * 4 = 4 from rfl]
        omega
      · rw [if_neg hw]
        have := brk_count wd ln
        rw [if_neg (fun q => hw q.1)] at this
        simp only [List.length_cons, List.length_nil]
        omega
    · simp only [List.length_cons] at hk
      have hlm := lnb_mod wd ln h
      have hlb : 0 ≤ lnb wd ln := by unfold lnb; split <;> omega
      have ih := enc_lenZ wd h0 h2 k r (nxt wd ln) (by omega) (by rw [nxt_lnb]; omega) (by rw [nxt_lnb]; omega) (by
        intro hw
        have := hle hw
        rw [nxt_lnb]; unfold lnb
        split <;> omega) hr
      have hS : (((x :: y :: z :: r).length : Nat) : Int) + 2 = ((r.length : Int) + 2) + 3 := by simp; omega
      have hS2 : ((((x :: y :: z :: r).length : Nat) : Int) + 2) / 3 * 4 = ((r.length : Int) + 2) / 3 * 4 + 4 := by rw [hS]; omega
      rw [hS2]
      by_cases hw : 0 < wd
      · rw [if_pos hw] at ih ⊢
        have := grp_more (wd := wd) (ln := ln) (S := ((r.length : Int) + 2) / 3 * 4) hw
        omega
      · rw [if_neg hw] at ih ⊢
        have := brk_count wd ln
        rw [if_neg (fun q => hw q.1)] at this
        omega
theorem enc_len (wd : Int) (l : List Int) (h0 : 0 ≤ wd) (h2 : wd % 4 = 0) : ((encW wd 0 l).length : Int) = lenZ l.length wd := by
  by_cases hl : l = []
  · subst hl; simp [encW, lenZ]
  · have hp : 0 < l.length := List.length_pos_iff.2 hl
    rw [enc_lenZ wd h0 h2 l.length l 0 (Nat.le_refl _) (by omega) (by omega) (fun h => by omega) hl]
    unfold lenZ
    by_cases hw : 0 < wd
    · rw [if_pos hw, if_pos ⟨hw, by omega⟩, Int.zero_add]
    · rw [if_neg hw, if_neg (fun q => hw q.1)]
end Go.Proofs.Ytegdblchgfiefaa
