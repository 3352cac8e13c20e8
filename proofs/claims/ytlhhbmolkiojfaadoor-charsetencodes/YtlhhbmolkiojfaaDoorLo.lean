/-
  The contract of the reference's Lower.
-/
import Derived.Test.YtlhhbmolkiojfaaDoorSm
namespace Go.Proofs.YtlhhbmolkiojfaaDoor
open Go.RowKit
set_option linter.unusedVariables false

theorem own_snoc1 {w : World} {B : Nat} {v : Value} {l : List Int} {c : Int} (h : w.ownsRow B 5 1 v (l.length + 1) (l.map (Value.int .u8) ++ [c].map (Value.int .u8))) : w.ownsRow B 5 1 v (l ++ [c]).length ((l ++ [c]).map (Value.int .u8)) := by
  rw [List.length_append, List.map_append]; exact h
set_option maxHeartbeats 4000000 in
set_option maxRecDepth 100000 in
theorem lower_any (s : ByteArray) (w : World) (hs : s.size ≤ 1000000) :
    Calls Tryd.prog 26 #[.string s] w fun e w' => e = .returned (.string (strOfNums ((nums s).map smallZ))) ∧ Below w.heap.size w w' := by
  obtain ⟨j0, hi, hz0, hz1, hz2⟩ := info_parts Tryd.info5
  go_enter Tryd.func26, Tryd.ntmps26
  go_wp2
  go_loopw [3, 4, 5] (fun v i _ wr => ∃ (k : Nat) (pre : List Int), i = .int .i64 k ∧ k ≤ s.size ∧ pre.length ≤ k ∧ pre = ((nums s).take k).map smallZ ∧ wr.ownsRow w.heap.size 5 1 v pre.length (pre.map (Value.int .u8)) ∧ Below w.heap.size w wr) (fun _ i _ _ => s.size - (intOf i).toNat)
  case atStart => exact ⟨0, [], rfl, by omega, by simp, by simp, World.ownsRow_nil _ _ _ _, Below.refl _ _⟩
  case round =>
    obtain ⟨k, pre, rfl, hk, hpl, hpre, hown, hb⟩ := hrel
    have HP : Hid (pre = ((nums s).take k).map smallZ) := hpre
    have HO : Hid (wr.ownsRow w.heap.size 5 1 u3 pre.length (pre.map (Value.int .u8))) := hown
    have HB : Hid (Below w.heap.size w wr) := hb
    have hsz := hb.size
    clear hpre hown hb
    by_cases hlt : k < s.size
    · have HN : Hid ((nums s)[k]? = some (s[k].toNat : Int)) := nums_at s k hlt
      have hc1 : (s[k].toNat : Int) < 256 := by have := s[k].toNat_lt; omega
      obtain ⟨c, hc⟩ : ∃ c : Int, (s[k].toNat : Int) = c := ⟨_, rfl⟩
      rw [hc] at HN hc1
      have HPN : Hid (pre ++ [smallZ c] = ((nums s).take (k + 1)).map smallZ) := by
        unfold Hid; rw [List.take_add_one, HN.out, HP.out]; simp
      by_cases hl : 65 ≤ c ∧ c ≤ 90
      · have h1 : decide (c ≥ 65) = true := decide_eq_true (by omega)
        have h2 : decide (c ≤ 90) = true := decide_eq_true (by omega)
        have HS : Hid (smallZ c = c + 32) := by unfold Hid smallZ; rw [if_pos hl]
        go_wp2_with (at_builtin; refine wpList_append_own _ rfl (.tmp 23) (.tmp 25) 22 rfl w.heap.size 5 j0 (.int .u8 0) 1 1 Tryd.underlying22 hi hz0 hz1 hz2 rfl (by decide) _ _ _ rfl (HO.out.alloc _) ⟨wr.heap.size, 0, none⟩ 1 1 (([c + 32] : List Int).map (Value.int .u8)) rfl rfl (cells_new _ _ _) (ints_one _) (by unfold maxLen; omega) (by omega) (by simp; omega) ?_)
        intro v4 w4 hown4 hgrow4 _
        have HB4 : Hid (Below w.heap.size w w4) := (HB.out.alloc hsz _).grown hgrow4 (by simp; omega) (fun k hk => (HO.out.lt k hk).1)
        have HO4 : Hid (w4.ownsRow w.heap.size 5 1 v4 (pre ++ [c + 32]).length ((pre ++ [c + 32]).map (Value.int .u8))) := own_snoc1 hown4
        clear hown4 hgrow4
        go_wp2
        go_roundw
        case rel => exact ⟨k + 1, pre ++ [c + 32], by go_num, by omega, by simp; omega, by rw [← HS.out]; exact HPN.out, HO4.out, HB4.out⟩
        case measure => simp [intOf]; omega
      · have HS : Hid (smallZ c = c) := by unfold Hid smallZ; rw [if_neg hl]
        have hcase : (decide (c ≥ 65) = false) ∨ (decide (c ≥ 65) = true ∧ decide (c ≤ 90) = false) := by
          simp only [decide_eq_true_eq, decide_eq_false_iff_not]; omega
        rcases hcase with h1 | ⟨h1, h2⟩
        all_goals (
          go_wp2_with (at_builtin; refine wpList_append_own _ rfl (.tmp 23) (.tmp 25) 22 rfl w.heap.size 5 j0 (.int .u8 0) 1 1 Tryd.underlying22 hi hz0 hz1 hz2 rfl (by decide) _ _ _ rfl (HO.out.alloc _) ⟨wr.heap.size, 0, none⟩ 1 1 (([c] : List Int).map (Value.int .u8)) rfl rfl (cells_new _ _ _) (ints_one _) (by unfold maxLen; omega) (by omega) (by simp; omega) ?_)
          intro v4 w4 hown4 hgrow4 _
          have HB4 : Hid (Below w.heap.size w w4) := (HB.out.alloc hsz _).grown hgrow4 (by simp; omega) (fun k hk => (HO.out.lt k hk).1)
          have HO4 : Hid (w4.ownsRow w.heap.size 5 1 v4 (pre ++ [c]).length ((pre ++ [c]).map (Value.int .u8))) := own_snoc1 hown4
          clear hown4 hgrow4
          go_wp2
          go_roundw
          case rel => exact ⟨k + 1, pre ++ [c], by go_num, by omega, by simp; omega, by have := HPN.out; rw [HS.out] at this; exact this, HO4.out, HB4.out⟩
          case measure => simp [intOf]; omega)
    · obtain rfl : k = s.size := by omega
      obtain ⟨a, cap, rfl, _, _, hrow, _⟩ := own_row' HO.out
      have kc := conv_row pre.length cap rfl hrow
      have HE : Hid (pre = (nums s).map smallZ) := by
        have := HP.out
        rwa [List.take_of_length_le (by rw [nums_len]; exact Nat.le_refl _)] at this
      clear hrow
      go_wp2
      go_ret
      exact ⟨by rw [HE.out]; rfl, HB.out⟩
end Go.Proofs.YtlhhbmolkiojfaaDoor
