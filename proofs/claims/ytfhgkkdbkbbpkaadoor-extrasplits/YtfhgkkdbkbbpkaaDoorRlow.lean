/-
  Large letters; the reference's Lower.
-/
import Derived.Test.YtfhgkkdbkbbpkaaDoorArgs
namespace Go.Proofs.YtfhgkkdbkbbpkaaDoor
open Go.RowKit
set_option linter.unusedVariables false

set_option maxRecDepth 100000 in
set_option maxHeartbeats 4000000 in
theorem lower_any (s : ByteArray) (w : World) (hs : s.size ≤ 100000000) : Calls Tryd.prog 48 #[.string s] w fun e w' => e = .returned (.string (strOfNums ((nums s).map smallZ))) ∧ Below w.heap.size w w' := by
  obtain ⟨j0, hi, hz0, hz1, hz2⟩ := info_parts Tryd.info5
  go_enter Tryd.func48, Tryd.ntmps48
  go_wp2
  go_loopw [3, 4] (fun v i wr => ∃ k : Nat, i = .int .i64 k ∧ k ≤ s.size ∧ wr.ownsRow w.heap.size 5 1 v (((nums s).take k).map smallZ).length ((((nums s).take k).map smallZ).map (Value.int .u8)) ∧ Below w.heap.size w wr) (fun _ i _ => s.size - (intOf i).toNat)
  case atStart => exact ⟨0, rfl, by omega, World.ownsRow_nil _ _ _ _, Below.refl _ _⟩
  case round =>
    obtain ⟨k, rfl, hk, ho, hb⟩ := hrel
    have HO : Hid (wr.ownsRow w.heap.size 5 1 u3 (((nums s).take k).map smallZ).length ((((nums s).take k).map smallZ).map (Value.int .u8))) := ho
    have HB : Hid (Below w.heap.size w wr) := hb
    have hsz : w.heap.size ≤ wr.heap.size := hb.size
    clear ho hb
    by_cases hlt : k < s.size
    · have hdk : decide ((k : Int) < (s.size : Int)) = true := by simp; omega
      have HN : Hid ((nums s)[k]? = some (s[k].toNat : Int)) := nums_at s k hlt
      have hcb : (0 : Int) ≤ (s[k].toNat : Int) ∧ (s[k].toNat : Int) < 256 := by have := s[k].toNat_lt; omega
      obtain ⟨c, hc⟩ : ∃ c : Int, (s[k].toNat : Int) = c := ⟨_, rfl⟩
      rw [hc] at HN hcb
      have HT : Hid (((nums s).take (k + 1)).map smallZ = ((nums s).take k).map smallZ ++ [smallZ c]) := by unfold Hid; rw [List.take_add_one, HN.out]; simp
      have hln : (((nums s).take k).map smallZ).length = k := by simp [nums_len]; omega
      rw [hln] at HO
      by_cases hr : 65 ≤ c ∧ c ≤ 90
      · have hsm : smallZ c = c + 32 := by unfold smallZ; rw [if_pos hr]
        have hd1 : decide (c ≥ 65) = true := by simp; omega
        have hd2 : decide (c ≤ 90) = true := by simp; omega
        go_wp2_with (at_builtin; refine wpList_append_own _ rfl (.tmp 23) (.tmp 25) 31 rfl w.heap.size 5 j0 (.int .u8 0) 1 1 Tryd.underlying31 hi hz0 hz1 hz2 rfl (by decide) _ k _ rfl (own_keep HO.out (keep wr _)) ⟨wr.heap.size, 0, none⟩ 1 1 [.int .u8 (c + 32)] rfl rfl (cells_new wr _ 5) (by simp [Value.oneCell']) (by unfold maxLen; omega) (by omega) (by simp; omega) ?_)
        intro v2 w2 ho2 hg2 _
        have HO2 : Hid (w2.ownsRow w.heap.size 5 1 v2 (((nums s).take (k + 1)).map smallZ).length ((((nums s).take (k + 1)).map smallZ).map (Value.int .u8))) := by unfold Hid; rw [HT.out, hsm, List.length_append, hln]; simpa using ho2
        have HB2 : Hid (Below w.heap.size w w2) := (HB.out.alloc hsz _).trans ((Below.refl _ _).grown hg2 (by simp; omega) (fun q hq => by
          rcases HO.out.2 with ⟨h, _⟩ | ⟨g, cp, cur, h, h2, _⟩
          · rw [h] at hq; simp [Value.ownBlock] at hq
          · rw [h] at hq; simp [Value.ownBlock] at hq; omega))
        clear ho2 hg2
        go_wp2
        go_roundw
        case rel => exact ⟨k + 1, by go_num, by omega, HO2.out, HB2.out⟩
        case measure => simp [intOf]; omega
      · have hsm : smallZ c = c := by unfold smallZ; rw [if_neg hr]
        have key : ∀ (P : Prop), P → P := fun _ h => h
        by_cases h65 : 65 ≤ c
        · have hd1 : decide (c ≥ 65) = true := by simp; omega
          have hd2 : decide (c ≤ 90) = false := by simp; omega
          go_wp2_with (at_builtin; refine wpList_append_own _ rfl (.tmp 23) (.tmp 25) 31 rfl w.heap.size 5 j0 (.int .u8 0) 1 1 Tryd.underlying31 hi hz0 hz1 hz2 rfl (by decide) _ k _ rfl (own_keep HO.out (keep wr _)) ⟨wr.heap.size, 0, none⟩ 1 1 [.int .u8 c] rfl rfl (cells_new wr _ 5) (by simp [Value.oneCell']) (by unfold maxLen; omega) (by omega) (by simp; omega) ?_)
          intro v2 w2 ho2 hg2 _
          have HO2 : Hid (w2.ownsRow w.heap.size 5 1 v2 (((nums s).take (k + 1)).map smallZ).length ((((nums s).take (k + 1)).map smallZ).map (Value.int .u8))) := by unfold Hid; rw [HT.out, hsm, List.length_append, hln]; simpa using ho2
          have HB2 : Hid (Below w.heap.size w w2) := (HB.out.alloc hsz _).trans ((Below.refl _ _).grown hg2 (by simp; omega) (fun q hq => by
            rcases HO.out.2 with ⟨h, _⟩ | ⟨g, cp, cur, h, h2, _⟩
            · rw [h] at hq; simp [Value.ownBlock] at hq
            · rw [h] at hq; simp [Value.ownBlock] at hq; omega))
          clear ho2 hg2
          go_wp2
          go_roundw
          case rel => exact ⟨k + 1, by go_num, by omega, HO2.out, HB2.out⟩
          case measure => simp [intOf]; omega
        · have hd1 : decide (c ≥ 65) = false := by simp; omega
          go_wp2_with (at_builtin; refine wpList_append_own _ rfl (.tmp 23) (.tmp 25) 31 rfl w.heap.size 5 j0 (.int .u8 0) 1 1 Tryd.underlying31 hi hz0 hz1 hz2 rfl (by decide) _ k _ rfl (own_keep HO.out (keep wr _)) ⟨wr.heap.size, 0, none⟩ 1 1 [.int .u8 c] rfl rfl (cells_new wr _ 5) (by simp [Value.oneCell']) (by unfold maxLen; omega) (by omega) (by simp; omega) ?_)
          intro v2 w2 ho2 hg2 _
          have HO2 : Hid (w2.ownsRow w.heap.size 5 1 v2 (((nums s).take (k + 1)).map smallZ).length ((((nums s).take (k + 1)).map smallZ).map (Value.int .u8))) := by unfold Hid; rw [HT.out, hsm, List.length_append, hln]; simpa using ho2
          have HB2 : Hid (Below w.heap.size w w2) := (HB.out.alloc hsz _).trans ((Below.refl _ _).grown hg2 (by simp; omega) (fun q hq => by
            rcases HO.out.2 with ⟨h, _⟩ | ⟨g, cp, cur, h, h2, _⟩
            · rw [h] at hq; simp [Value.ownBlock] at hq
            · rw [h] at hq; simp [Value.ownBlock] at hq; omega))
          clear ho2 hg2
          go_wp2
          go_roundw
          case rel => exact ⟨k + 1, by go_num, by omega, HO2.out, HB2.out⟩
          case measure => simp [intOf]; omega
    · obtain rfl : k = s.size := by omega
      have hdk : decide ((s.size : Int) < (s.size : Int)) = false := by simp
      have HO2 : Hid (Own wr w.heap.size u3 ((nums s).map smallZ)) := by
        have h := HO.out
        rw [List.take_of_length_le (by rw [nums_len]; exact Nat.le_refl _)] at h
        exact h
      obtain ⟨a, c, hv, _, _, hrw, _⟩ := own_row' HO2.out
      obtain ⟨m, hm⟩ : ∃ m, ((nums s).map smallZ).length = m := ⟨_, rfl⟩
      rw [hm] at hv
      subst hv
      have kc := conv_row m c hm hrw
      clear hm
      go_wp2
      go_ret
      exact ⟨rfl, HB.out⟩end Go.Proofs.YtfhgkkdbkbbpkaaDoor
