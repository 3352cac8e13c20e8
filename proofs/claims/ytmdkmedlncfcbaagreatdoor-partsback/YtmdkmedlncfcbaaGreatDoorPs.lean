/-
  How long what is read can be.
-/
import Derived.Test.YtmdkmedlncfcbaaGreatDoorAmath
import Derived.Test.YtmdkmedlncfcbaaGreatDoorPa
namespace Go.Proofs.YtmdkmedlncfcbaaGreatDoor
open Go.RowKit
set_option linter.unusedVariables false
set_option linter.unusedSimpArgs false

def SzS (n : Nat) (s : HS) : Prop := s.nm.size ≤ n ∧ s.val.length ≤ n ∧ ∀ f ∈ s.fs, f.1.size ≤ n ∧ f.2.size ≤ n
theorem SzS.mono {n m : Nat} {s : HS} (h : SzS n s) (hn : n ≤ m) : SzS m s := ⟨by have := h.1; omega, by have := h.2.1; omega, fun f hf => by have := h.2.2 f hf; omega⟩
theorem sz_str (l : List Int) : (strOfNums l).size = l.length := by
  unfold strOfNums; simp [ByteArray.size]
theorem sz_shut {n : Nat} {s : HS} (h : SzS n s) : SzS n (shutZ s) := by
  unfold shutZ
  split
  · exact h
  · split
    · refine ⟨h.1, h.2.1, fun f hf => ?_⟩
      rcases List.mem_append.1 hf with q | q
      · exact h.2.2 f q
      · simp at q
        subst q
        refine ⟨h.1, ?_⟩
        rw [sz_str]
        have := trimZ_len s.val
        have := h.2.1
        omega
    · exact h
theorem sz_begin {n m : Nat} {s : HS} {p : Int} {l : List Int} (h : SzS n s) (hl : l.length ≤ m) : SzS (n + m) (beginZ s p l) := by
  have hs := sz_shut h
  unfold beginZ
  split
  · split
    · refine ⟨?_, ?_, fun f hf => by have := hs.2.2 f hf; omega⟩
      · show (strOfNums _).size ≤ _
        rw [sz_str, List.length_take]; omega
      · show (l.drop _).length ≤ _
        rw [List.length_drop]; omega
    · exact hs.mono (by omega)
  · exact h.mono (by omega)
theorem piece_le (zs : List Int) (x : Nat × Nat × Bool) : (pieceZ zs x).length ≤ x.2.1 := by unfold pieceZ; rw [List.length_take]; omega
theorem sz_step {zs : List Int} {n : Nat} {s s' : HS} {x : Nat × Nat × Bool} (h : SzS n s) (hx : stepR zs s x = some s') : SzS (n + x.2.1) s' := by
  have hp := piece_le zs x
  unfold stepR at hx
  split at hx
  · cases hx
  split at hx
  · cases hx
  split at hx
  · cases hx
  split at hx
  · split at hx
    · cases hx
    · cases hx
      unfold goOnZ
      split
      · exact h.mono (by omega)
      · refine ⟨by have := h.1; show s.nm.size ≤ _; omega, ?_, fun f hf => by have := h.2.2 f hf; omega⟩
        show (s.val ++ _).length ≤ _
        have := h.2.1
        rw [List.length_append]; omega
  · split at hx
    · cases hx
      exact sz_begin h hp
    · cases hx
theorem sz_lines (zs : List Int) : ∀ (k p : Nat) (l : List Int) (s : HS), l.length ≤ k → SzS p s → SzS (p + l.length) (parseL zs s (linesF p l)).1 ∧ (parseL zs s (linesF p l)).2.1 ≤ ((p + l.length : Nat) : Int)
  | 0, p, l, s, h, hs => by
    obtain rfl : l = [] := List.eq_nil_of_length_eq_zero (by omega)
    rw [linesF_last p [] (by simp [pairI])]
    simp only [parseL, stepR, stopS, stopN, if_true]
    exact ⟨by simpa using hs, by simp⟩
  | k + 1, p, l, s, h, hs => by
    by_cases hi : 0 ≤ pairI l
    · rw [linesF_pair p l hi]
      have hr := pairI_room l hi
      cases hx : stepR zs s (p, (pairI l).toNat, true) with
      | some s' =>
        have hh := sz_lines zs k (p + (pairI l).toNat + 2) (l.drop ((pairI l).toNat + 2)) s' (by simp; omega) ((sz_step hs hx).mono (by simp only; omega))
        simp only [parseL, hx]
        rw [List.length_drop] at hh
        have e : p + (pairI l).toNat + 2 + (l.length - ((pairI l).toNat + 2)) = p + l.length := by omega
        rw [e] at hh
        exact hh
      | none =>
        simp only [parseL, hx]
        constructor
        · unfold stopS
          split
          · exact hs.mono (by omega)
          split
          · exact (sz_shut hs).mono (by omega)
          split
          · exact hs.mono (by omega)
          split
          · exact hs.mono (by omega)
          · exact (sz_begin hs (piece_le zs _)).mono (by simp only; omega)
        · unfold stopN
          split
          · simp only; omega
          · omega
    · rw [linesF_last p l hi]
      simp only [parseL, stepR, stopS, stopN, if_true]
      exact ⟨hs.mono (by omega), by simp; omega⟩
theorem fit_out {zs : List Int} (hz : Byt zs) (hl : zs.length ≤ 1048576) (hC : outC zs = 0) : FitF (outL zs) ∧ 2 ≤ outN zs ∧ outN zs ≤ zs.length := by
  have h := (out_inv hz).1 hC
  have h2 := sz_lines zs zs.length 0 zs hs0 (Nat.le_refl _) ⟨by simp [hs0, ByteArray.size], by simp [hs0], fun f hf => by simp [hs0] at hf⟩
  have e : outL zs = (parseZ zs).1.fs := by unfold outL; rw [if_pos hC]
  have e2 : outN zs = (parseZ zs).2.1 := by unfold outN; rw [if_pos hC]
  rw [Nat.zero_add] at h2
  refine ⟨⟨by omega, fun f hf => ?_⟩, h.2.2, by rw [e2]; exact h2.2⟩
  rw [e] at hf
  have := h2.1.2.2 f hf
  omega
end Go.Proofs.YtmdkmedlncfcbaaGreatDoor
