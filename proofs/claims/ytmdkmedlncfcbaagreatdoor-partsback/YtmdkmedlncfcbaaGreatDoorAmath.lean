/-
  What holds of what is read.
-/
import Derived.Test.YtmdkmedlncfcbaaGreatDoorBack
namespace Go.Proofs.YtmdkmedlncfcbaaGreatDoor
open Go.RowKit
set_option linter.unusedVariables false

theorem linesF_le : ∀ (n p : Nat) (l : List Int), l.length ≤ n → ∀ x ∈ linesF p l, x.1 ≤ p + l.length
  | n, p, l, hn, x, hx => by
    by_cases hi : 0 ≤ pairI l
    · have hr := pairI_room l hi
      rw [linesF_pair p l hi] at hx
      rcases List.mem_cons.1 hx with rfl | hx
      · simp
      · cases n with
        | zero => omega
        | succ n =>
          have := linesF_le n _ _ (by simp; omega) x hx
          rw [List.length_drop] at this
          omega
    · rw [linesF_last p l hi] at hx
      obtain rfl : x = (p, l.length, false) := by simpa using hx
      simp
/-- What holds of a header that is read. -/
structure OkP (len : Nat) (s : HS) : Prop where
  byt : Byt s.val
  fs : ∀ f ∈ s.fs, okF f = true
  nm : s.nm.toList ≠ [] → nameZ (nums s.nm) = true
  beg : 0 ≤ s.beg ∧ s.beg ≤ len
  many : s.fs.length ≤ 128
theorem okP0 (len : Nat) : OkP len hs0 := ⟨fun x hx => by simp [hs0] at hx, by simp [hs0], fun h => by exact absurd (by rw [ByteArray.toList_eq]; rfl) h, by simp [hs0], by simp [hs0]⟩
theorem okP_shut {len : Nat} {s : HS} (h : OkP len s) : OkP len (shutZ s) := by
  unfold shutZ
  by_cases q1 : s.nm.toList = []
  · rw [if_pos q1]; exact h
  · rw [if_neg q1]
    by_cases q2 : valueZ (trimZ s.val) = true ∧ s.fs.length ≠ 128
    · rw [if_pos q2]
      refine ⟨h.byt, fun f hf => ?_, h.nm, h.beg, ?_⟩
      · rcases List.mem_append.1 hf with hf | hf
        · exact h.fs f hf
        · obtain rfl : f = _ := by simpa using hf
          simp only [okF, Bool.and_eq_true]
          rw [nums_str (trimZ_byt h.byt)]
          exact ⟨h.nm q1, q2.1⟩
      · have := h.many; simp; omega
    · rw [if_neg q2]; exact h
theorem okP_step {zs : List Int} {len : Nat} {s s' : HS} {x : Nat × Nat × Bool} (hz : Byt zs) (hl : x.1 ≤ len) (h : OkP len s) (hx : stepR zs s x = some s') : OkP len s' := by
  have hb : Byt (pieceZ zs x) := (hz.drop _).take _
  unfold stepR at hx
  by_cases q1 : x.2.2 = false
  · rw [if_pos q1] at hx; simp at hx
  rw [if_neg q1] at hx
  by_cases q2 : x.2.1 = 0
  · rw [if_pos q2] at hx; simp at hx
  rw [if_neg q2] at hx
  by_cases q3 : 998 < x.2.1
  · rw [if_pos q3] at hx; simp at hx
  rw [if_neg q3] at hx
  by_cases q4 : blankH (pieceZ zs x) = true
  · rw [if_pos q4] at hx
    by_cases q5 : s.nm.toList = []
    · rw [if_pos q5] at hx; simp at hx
    · rw [if_neg q5, Option.some.injEq] at hx
      subst hx
      unfold goOnZ
      rw [if_neg q5]
      exact ⟨h.byt.append hb, h.fs, h.nm, h.beg, h.many⟩
  · rw [if_neg q4] at hx
    by_cases q5 : shutB s = true ∧ beginB s (pieceZ zs x) = true
    · rw [if_pos q5, Option.some.injEq] at hx
      subst hx
      unfold beginZ
      rw [if_pos q5.1, if_pos q5.2]
      have hS := okP_shut h
      have hnm : nameZ ((pieceZ zs x).take (colonI (pieceZ zs x)).toNat) = true := by
        have := q5.2
        simp only [beginB, Bool.and_eq_true] at this
        exact this.2
      exact ⟨hb.drop _, hS.fs, fun _ => by simp only; rw [nums_str (hb.take _)]; exact hnm, by simp only; omega, hS.many⟩
    · rw [if_neg q5] at hx; simp at hx
theorem parse_inv {zs : List Int} {len : Nat} (hz : Byt zs) : ∀ (L : List (Nat × Nat × Bool)) (s : HS), (∀ x ∈ L, x.1 ≤ len) → OkP len s → runL zs s L = none →
    ((parseL zs s L).2.2.2 = 0 → (∀ f ∈ (parseL zs s L).1.fs, okF f = true) ∧ (parseL zs s L).1.fs.length ≤ 128 ∧ 2 ≤ (parseL zs s L).2.1) ∧ ((parseL zs s L).2.2.2 ≠ 0 → 0 ≤ (parseL zs s L).2.2.1 ∧ (parseL zs s L).2.2.1 ≤ len)
  | [], s, _, _, hr => by simp [runL] at hr
  | x :: L, s, hl, hs, hr => by
    cases h : stepR zs s x with
    | some s' =>
      simp only [parseL, h]
      simp only [runL, h, Option.bind_some] at hr
      exact parse_inv hz L s' (fun y hy => hl y (by simp [hy])) (okP_step hz (hl x (by simp)) hs h) hr
    | none =>
      simp only [parseL, h]
      have hx := hl x (by simp)
      have hbeg := hs.beg
      have hS := okP_shut hs
      by_cases q1 : x.2.2 = false
      · simp only [stopF, if_pos q1]
        exact ⟨fun h => by simp at h, fun _ => by first | omega | (simp only; omega)⟩
      by_cases q2 : x.2.1 = 0
      · simp only [stopF, stopS, stopN, if_neg q1, if_pos q2]
        refine ⟨fun _ => ⟨hS.fs, hS.many, ?_⟩, ?_⟩
        · rw [if_pos ⟨by simpa using q1, q2⟩]; omega
        · intro hne
          by_cases q : shutB s = true
          · rw [if_pos q] at hne; simp at hne
          · rw [if_neg q]; exact hbeg
      by_cases q3 : 998 < x.2.1
      · simp only [stopF, if_neg q1, if_neg q2, if_pos q3]
        exact ⟨fun h => by simp at h, fun _ => by first | omega | (simp only; omega)⟩
      by_cases q4 : blankH (pieceZ zs x) = true
      · simp only [stopF, if_neg q1, if_neg q2, if_neg q3, if_pos q4]
        exact ⟨fun h => by simp at h, fun _ => by first | omega | (simp only; omega)⟩
      · simp only [stopF, if_neg q1, if_neg q2, if_neg q3, if_neg q4]
        by_cases q : shutB s = true
        · rw [if_pos q]; exact ⟨fun h => by simp at h, fun _ => by first | omega | (simp only; omega)⟩
        · rw [if_neg q]; exact ⟨fun h => by simp at h, fun _ => hbeg⟩
theorem out_inv {zs : List Int} (hz : Byt zs) : (outC zs = 0 → (outL zs).all okF = true ∧ (outL zs).length ≤ 128 ∧ 2 ≤ outN zs) ∧ (outC zs ≠ 0 → 0 ≤ outP zs ∧ outP zs ≤ zs.length ∧ outL zs = [] ∧ outN zs = 0) := by
  have h := parse_inv hz (linesF 0 zs) hs0 (fun x hx => by have := linesF_le _ 0 zs (Nat.le_refl _) x hx; omega) (okP0 zs.length) (runL_none zs _ 0 zs hs0 (Nat.le_refl _))
  constructor
  · intro hC
    obtain ⟨h1, h2, h3⟩ := h.1 hC
    have e1 : outL zs = (parseZ zs).1.fs := by unfold outL; rw [if_pos hC]
    have e2 : outN zs = (parseZ zs).2.1 := by unfold outN; rw [if_pos hC]
    rw [e1, e2, List.all_eq_true]
    exact ⟨h1, h2, h3⟩
  · intro hC
    obtain ⟨h1, h2⟩ := h.2 hC
    have e1 : outL zs = [] := by unfold outL; rw [if_neg hC]
    have e2 : outN zs = 0 := by unfold outN; rw [if_neg hC]
    have e3 : outP zs = (parseZ zs).2.2.1 := by unfold outP; rw [if_neg hC]
    rw [e3]
    exact ⟨h1, h2, e1, e2⟩
theorem writeC_ok {fs : List (ByteArray × ByteArray)} (h1 : fs.all okF = true) (h2 : fs.length ≤ 128) : writeC fs = 0 ∨ writeC fs = 40 := by
  unfold writeC
  rw [if_neg (by omega), if_neg (by rw [h1]; simp)]
  split
  · exact .inr rfl
  · exact .inl rfl
end Go.Proofs.YtmdkmedlncfcbaaGreatDoor
