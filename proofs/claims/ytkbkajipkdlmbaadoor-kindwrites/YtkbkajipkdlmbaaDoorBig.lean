/-
  Large letters; the reference's Lower.
-/
import Derived.Test.YtkbkajipkdlmbaaDoorArgs
namespace Go.Proofs.YtkbkajipkdlmbaaDoor
open Go.RowKit
set_option linter.unusedVariables false

/-- A letter's large one. -/
def bigZ (c : Int) : Int := if 97 ≤ c ∧ c ≤ 122 then c - 32 else c
set_option maxHeartbeats 2000000 in
theorem big_any (s : ByteArray) (w : World) (hs : s.size ≤ 1000000000) : Calls Tryd.prog 20 #[.string s] w fun e w' => e = .returned (.string (strOfNums ((nums s).map bigZ))) ∧ Below w.heap.size w w' := by
  obtain ⟨cap, w1, kc, hcap, hmx, hrow, hb, hfz⟩ := conv_bytes s w (by unfold maxLen; omega)
  have HR : Hid (Row w1 (some ⟨w.heap.size, 0, none⟩) (nums s)) := hrow
  have HB : Hid (Below w.heap.size w w1) := hb
  have HF : Hid (∀ i, i < s.size → w1.frozen? ⟨w.heap.size, i, none⟩ = false) := hfz
  clear hrow hb hfz
  go_enter Tryd.func20, Tryd.ntmps20
  go_wp2
  go_loopw [4] (fun i wr => ∃ k : Nat, i = .int .i64 k ∧ k ≤ s.size ∧ Row wr (some ⟨w.heap.size, 0, none⟩) (((nums s).take k).map bigZ ++ (nums s).drop k) ∧ (∀ i, i < s.size → wr.frozen? ⟨w.heap.size, i, none⟩ = false) ∧ Below w.heap.size w wr) (fun i _ => s.size - (intOf i).toNat)
  case atStart => exact ⟨0, rfl, by omega, HR.out, HF.out, HB.out⟩
  case round =>
    clear HR HB HF kc
    obtain ⟨k, rfl, hk, hrow, hfz, hb⟩ := hrel
    have HB : Hid (Below w.heap.size w wr) := hb
    have HF : Hid (∀ i, i < s.size → wr.frozen? ⟨w.heap.size, i, none⟩ = false) := hfz
    have HR : Hid (Row wr (some ⟨w.heap.size, 0, none⟩) (((nums s).take k).map bigZ ++ (nums s).drop k)) := hrow
    clear hb hfz hrow
    by_cases hlt : k < s.size
    · have HD : Hid ((nums s).drop k = (s[k].toNat : Int) :: (nums s).drop (k + 1)) := nums_drop s k hlt
      have HA : Hid ((nums s)[k]? = some (s[k].toNat : Int)) := nums_at s k hlt
      have hc1 : (s[k].toNat : Int) < 256 := by have := s[k].toNat_lt; omega
      have hc0 : (0 : Int) ≤ (s[k].toNat : Int) := by omega
      obtain ⟨c, hc⟩ : ∃ c : Int, ((s[k]'hlt).toNat : Int) = c := ⟨_, rfl⟩
      rw [hc] at HD HA hc1 hc0
      have hlk : (((nums s).take k).map bigZ).length = k := by rw [List.length_map, List.length_take, nums_len]; omega
      have hcell : wr.cell? ⟨w.heap.size, k, none⟩ = some (.int .u8 c) := by
        rcases HR.out with h | ⟨b', off, e, h⟩
        · have := congrArg List.length h; rw [List.length_append, hlk, HD.out] at this; simp at this
        · simp at e
          obtain ⟨rfl, rfl⟩ := e
          have := h k (by rw [List.length_append, hlk, HD.out]; simp)
          rw [Nat.zero_add] at this
          rw [this, List.getD_eq_getElem?_getD, List.getElem?_append_right (by omega), hlk, HD.out]
          simp
      have hfk := HF.out k hlt
      have HT : Hid (((nums s).take (k + 1)).map bigZ ++ (nums s).drop (k + 1) = ((nums s).take k).map bigZ ++ bigZ c :: (nums s).drop (k + 1)) := by
        unfold Hid; rw [List.take_add_one, HA.out]; simp
      have HK : Hid ((((nums s).take k).map bigZ).length = k) := hlk
      clear hc hlk
      by_cases ha : 97 ≤ c
      · by_cases hz : c ≤ 122
        · have HS : Hid (bigZ c = c - 32) := by unfold Hid bigZ; rw [if_pos ⟨ha, hz⟩]
          have HW : Hid (Row (wr.setCell ⟨w.heap.size, k, none⟩ (.int .u8 (c - 32))) (some ⟨w.heap.size, 0, none⟩) (((nums s).take (k + 1)).map bigZ ++ (nums s).drop (k + 1))) := by
            have := row_set (k := k) (c - 32) HR.out (by rw [List.length_append, HK.out, HD.out]; simp)
            rw [List.set_append_right _ _ (by rw [HK.out]; exact Nat.le_refl _), HK.out, HD.out, Nat.sub_self, List.set_cons_zero] at this
            unfold Hid; rw [HT.out, HS.out]; exact this
          go_wp2
          go_roundw
          case rel => exact ⟨k + 1, by go_num, by omega, HW.out, fun i hi => by rw [World.frozen?_setCell]; exact HF.out i hi, HB.out.setCell (p := ⟨w.heap.size, k, none⟩) (Nat.le_refl _) _⟩
          case measure => simp [intOf]; omega
        · have HS : Hid (bigZ c = c) := by unfold Hid bigZ; rw [if_neg (by omega)]
          have HW : Hid (Row wr (some ⟨w.heap.size, 0, none⟩) (((nums s).take (k + 1)).map bigZ ++ (nums s).drop (k + 1))) := by
            have := HR.out
            rw [HD.out] at this
            unfold Hid; rw [HT.out, HS.out]; exact this
          go_wp2
          go_roundw
          case rel => exact ⟨k + 1, by go_num, by omega, HW.out, HF.out, HB.out⟩
          case measure => simp [intOf]; omega
      · have HS : Hid (bigZ c = c) := by unfold Hid bigZ; rw [if_neg (by omega)]
        have HW : Hid (Row wr (some ⟨w.heap.size, 0, none⟩) (((nums s).take (k + 1)).map bigZ ++ (nums s).drop (k + 1))) := by
          have := HR.out
          rw [HD.out] at this
          unfold Hid; rw [HT.out, HS.out]; exact this
        go_wp2
        go_roundw
        case rel => exact ⟨k + 1, by go_num, by omega, HW.out, HF.out, HB.out⟩
        case measure => simp [intOf]; omega
    · obtain rfl : k = s.size := by omega
      have hr : Row wr (some ⟨w.heap.size, 0, none⟩) ((nums s).map bigZ) := by
        have := HR.out
        rwa [List.take_of_length_le (by rw [nums_len]; exact Nat.le_refl _), List.drop_of_length_le (by rw [nums_len]; exact Nat.le_refl _), List.append_nil] at this
      have kc2 := conv_row s.size cap (by rw [List.length_map, nums_len]) hr
      clear hr
      go_wp2
      go_ret
      exact ⟨rfl, HB.out⟩
set_option maxRecDepth 100000 in
set_option maxHeartbeats 4000000 in
theorem lower_any (s : ByteArray) (w : World) (hs : s.size ≤ 100000000) : Calls Tryd.prog 21 #[.string s] w fun e w' => e = .returned (.string (strOfNums ((nums s).map smallZ))) ∧ Below w.heap.size w w' := by
  obtain ⟨j0, hi, hz0, hz1, hz2⟩ := info_parts Tryd.info5
  go_enter Tryd.func21, Tryd.ntmps21
  go_wp2
  go_loopw [3, 4] (fun v i wr => ∃ k : Nat, i = .int .i64 k ∧ k ≤ s.size ∧ wr.ownsRow w.heap.size 5 1 v (((nums s).take k).map smallZ).length ((((nums s).take k).map smallZ).map (Value.int .u8)) ∧ Below w.heap.size w wr) (fun _ i _ => s.size - (intOf i).toNat)
  case atStart => exact ⟨0, rfl, by omega, World.ownsRow_nil _ _ _ _, Below.refl _ _⟩
  case round =>
    obtain ⟨k, rfl, hk, ho, hb⟩ := hrel
    have HO : Hid (wr.ownsRow w.heap.size 5 1 u3 (((nums s).take k).map smallZ).length ((((nums s).take k).map smallZ).map (Value.int .u8))) := ho
    have HB : Hid (Below w.heap.size w wr) := hb
    have hsz : w.heap.size ≤ wr.heap.size := hb.size
    clear ho hb
    by_cases hlt : k < s.size
    · have hdk : decide ((k : Int) < (s.size : Int)) = true := by simp; omega
      have HN : Hid ((nums s)[k]? = some (s[k].toNat : Int)) := nums_at s k hlt
      have hcb : (0 : Int) ≤ (s[k].toNat : Int) ∧ (s[k].toNat : Int) < 256 := by have := s[k].toNat_lt; omega
      obtain ⟨c, hc⟩ : ∃ c : Int, (s[k].toNat : Int) = c := ⟨_, rfl⟩
      rw [hc] at HN hcb
      have HT : Hid (((nums s).take (k + 1)).map smallZ = ((nums s).take k).map smallZ ++ [smallZ c]) := by unfold Hid; rw [List.take_add_one, HN.out]; simp
      have hln : (((nums s).take k).map smallZ).length = k := by simp [nums_len]; omega
      rw [hln] at HO
      by_cases hr : 65 ≤ c ∧ c ≤ 90
      · have hsm : smallZ c = c + 32 := by unfold smallZ; rw [if_pos hr]
        have hd1 : decide (c ≥ 65) = true := by simp; omega
        have hd2 : decide (c ≤ 90) = true := by simp; omega
        go_wp2_with (at_builtin; refine wpList_append_own _ rfl (.tmp 23) (.tmp 25) 39 rfl w.heap.size 5 j0 (.int .u8 0) 1 1 Tryd.underlying39 hi hz0 hz1 hz2 rfl (by decide) _ k _ rfl (own_keep HO.out (keep wr _)) ⟨wr.heap.size, 0, none⟩ 1 1 [.int .u8 (c + 32)] rfl rfl (cells_new wr _ 5) (by simp [Value.oneCell']) (by unfold maxLen; omega) (by omega) (by simp; omega) ?_)
        intro v2 w2 ho2 hg2 _
        have HO2 : Hid (w2.ownsRow w.heap.size 5 1 v2 (((nums s).take (k + 1)).map smallZ).length ((((nums s).take (k + 1)).map smallZ).map (Value.int .u8))) := by unfold Hid; rw [HT.out, hsm, List.length_append, hln]; simpa using ho2
        have HB2 : Hid (Below w.heap.size w w2) := (HB.out.alloc hsz _).trans ((Below.refl _ _).grown hg2 (by simp; omega) (fun q hq => by
          rcases HO.out.2 with ⟨h, _⟩ | ⟨g, cp, cur, h, h2, _⟩
          · rw [h] at hq; simp [Value.ownBlock] at hq
          · rw [h] at hq; simp [Value.ownBlock] at hq; omega))
        clear ho2 hg2
        go_wp2
        go_roundw
        case rel => exact ⟨k + 1, by go_num, by omega, HO2.out, HB2.out⟩
        case measure => simp [intOf]; omega
      · have hsm : smallZ c = c := by unfold smallZ; rw [if_neg hr]
        have key : ∀ (P : Prop), P → P := fun _ h => h
        by_cases h65 : 65 ≤ c
        · have hd1 : decide (c ≥ 65) = true := by simp; omega
          have hd2 : decide (c ≤ 90) = false := by simp; omega
          go_wp2_with (at_builtin; refine wpList_append_own _ rfl (.tmp 23) (.tmp 25) 39 rfl w.heap.size 5 j0 (.int .u8 0) 1 1 Tryd.underlying39 hi hz0 hz1 hz2 rfl (by decide) _ k _ rfl (own_keep HO.out (keep wr _)) ⟨wr.heap.size, 0, none⟩ 1 1 [.int .u8 c] rfl rfl (cells_new wr _ 5) (by simp [Value.oneCell']) (by unfold maxLen; omega) (by omega) (by simp; omega) ?_)
          intro v2 w2 ho2 hg2 _
          have HO2 : Hid (w2.ownsRow w.heap.size 5 1 v2 (((nums s).take (k + 1)).map smallZ).length ((((nums s).take (k + 1)).map smallZ).map (Value.int .u8))) := by unfold Hid; rw [HT.out, hsm, List.length_append, hln]; simpa using ho2
          have HB2 : Hid (Below w.heap.size w w2) := (HB.out.alloc hsz _).trans ((Below.refl _ _).grown hg2 (by simp; omega) (fun q hq => by
            rcases HO.out.2 with ⟨h, _⟩ | ⟨g, cp, cur, h, h2, _⟩
            · rw [h] at hq; simp [Value.ownBlock] at hq
            · rw [h] at hq; simp [Value.ownBlock] at hq; omega))
          clear ho2 hg2
          go_wp2
          go_roundw
          case rel => exact ⟨k + 1, by go_num, by omega, HO2.out, HB2.out⟩
          case measure => simp [intOf]; omega
        · have hd1 : decide (c ≥ 65) = false := by simp; omega
          go_wp2_with (at_builtin; refine wpList_append_own _ rfl (.tmp 23) (.tmp 25) 39 rfl w.heap.size 5 j0 (.int .u8 0) 1 1 Tryd.underlying39 hi hz0 hz1 hz2 rfl (by decide) _ k _ rfl (own_keep HO.out (keep wr _)) ⟨wr.heap.size, 0, none⟩ 1 1 [.int .u8 c] rfl rfl (cells_new wr _ 5) (by simp [Value.oneCell']) (by unfold maxLen; omega) (by omega) (by simp; omega) ?_)
          intro v2 w2 ho2 hg2 _
          have HO2 : Hid (w2.ownsRow w.heap.size 5 1 v2 (((nums s).take (k + 1)).map smallZ).length ((((nums s).take (k + 1)).map smallZ).map (Value.int .u8))) := by unfold Hid; rw [HT.out, hsm, List.length_append, hln]; simpa using ho2
          have HB2 : Hid (Below w.heap.size w w2) := (HB.out.alloc hsz _).trans ((Below.refl _ _).grown hg2 (by simp; omega) (fun q hq => by
            rcases HO.out.2 with ⟨h, _⟩ | ⟨g, cp, cur, h, h2, _⟩
            · rw [h] at hq; simp [Value.ownBlock] at hq
            · rw [h] at hq; simp [Value.ownBlock] at hq; omega))
          clear ho2 hg2
          go_wp2
          go_roundw
          case rel => exact ⟨k + 1, by go_num, by omega, HO2.out, HB2.out⟩
          case measure => simp [intOf]; omega
    · obtain rfl : k = s.size := by omega
      have hdk : decide ((s.size : Int) < (s.size : Int)) = false := by simp
      have HO2 : Hid (Own wr w.heap.size u3 ((nums s).map smallZ)) := by
        have h := HO.out
        rw [List.take_of_length_le (by rw [nums_len]; exact Nat.le_refl _)] at h
        exact h
      obtain ⟨a, c, hv, _, _, hrw, _⟩ := own_row' HO2.out
      obtain ⟨m, hm⟩ : ∃ m, ((nums s).map smallZ).length = m := ⟨_, rfl⟩
      rw [hm] at hv
      subst hv
      have kc := conv_row m c hm hrw
      clear hm
      go_wp2
      go_ret
      exact ⟨rfl, HB.out⟩end Go.Proofs.YtkbkajipkdlmbaaDoor
