/-
  The contract of small.
-/
import Derived.Test.YtfhgkkdbkbbpkaaDoorCStr
import Derived.Lib.ConvBytes
import Derived.Deep.RegionHeld3
namespace Go.Proofs.YtfhgkkdbkbbpkaaDoor.Cs
open Go.RowKit
set_option linter.unusedVariables false

theorem below_drew {n : Nat} {w w' : World} (h : Below n w w') : Below n w w'.drew := below_drewN h 1
theorem cell_keep {w w' : World} {p : Addr} {v : Value} (hb : Below w.heap.size w w') (h : w.cell? p = some v) : w'.cell? p = some v := (hb.cell (World.block_lt_of_cell? w p h)).trans h
/-- '[]byte(s)': a new row. -/
theorem conv_bytes (s : ByteArray) (w : World) (hs : s.size ≤ maxLen) :
    ∃ cap w', (convert 9 31 (.string s)).run Tryd.prog w = .ok (.slice (some ⟨w.heap.size, 0, none⟩) s.size cap) w' ∧ s.size ≤ cap ∧ cap ≤ 9223372036854775807 ∧ Row w' (some ⟨w.heap.size, 0, none⟩) (nums s) ∧ Below w.heap.size w w' ∧ ∀ i, i < s.size → w'.frozen? ⟨w.heap.size, i, none⟩ = false := by
  refine ⟨_, _, Lib.run_convert_string_bytes (P := Tryd.prog) w 9 31 5 s Tryd.underlying9 Tryd.underlying31 Tryd.underlying5, grownCap_ge _ _ _ _, ?_, .inr ⟨w.heap.size, 0, rfl, fun i hi => ?_⟩, ⟨rfl, rfl, rfl, by rw [Lib.bytesWorld_size]; omega, fun k hk => Lib.bytesWorld_at_old w 5 s k hk⟩, fun i hi => ?_⟩
  · have := grownCap_le_maxLen w s.size 0 5 hs
    unfold maxLen at this
    exact this
  · rw [nums_len] at hi
    rw [Nat.zero_add, Lib.bytesWorld_cell w 5 s i hi]
    congr 2
    have h1 : i < s.data.toList.length := by rw [Array.length_toList]; exact hi
    rw [nums, List.getD_eq_getElem?_getD, List.getD_eq_getElem?_getD, List.getElem?_map, List.getElem?_eq_getElem h1]
    rfl
  · have hsz : i < (Lib.bytesCells w 5 s).size := by
      unfold Lib.bytesCells
      rw [Array.size_append, Array.size_map]
      have : s.data.size = s.size := rfl
      omega
    simp only [World.frozen?, Lib.bytesWorld_at_new]
    simp
    omega
theorem row_set {w : World} {b : Nat} {l : List Int} {k : Nat} (v : Int) (h : Row w (some ⟨b, 0, none⟩) l) (hk : k < l.length) : Row (w.setCell ⟨b, k, none⟩ (.int .u8 v)) (some ⟨b, 0, none⟩) (l.set k v) := by
  rcases h with rfl | ⟨b', off, e, h⟩
  · simp at hk
  · simp at e
    obtain ⟨rfl, rfl⟩ := e
    refine .inr ⟨b, 0, rfl, fun i hi => ?_⟩
    rw [List.length_set] at hi
    by_cases q : i = k
    · subst q
      rw [Nat.zero_add, World.cell?_setCell_same _ _ _ (by have := h i hi; rw [Nat.zero_add] at this; rw [this])]
      simp [List.getD_eq_getElem?_getD, hi]
    · rw [World.cell?_setCell_other _ _ _ _ (by simp), h i hi]
      simp [List.getD_eq_getElem?_getD, Ne.symm q]
theorem smallZ_byt {c : Int} (h : 0 ≤ c ∧ c < 256) : 0 ≤ smallZ c ∧ smallZ c < 256 := by unfold smallZ; split <;> omega
theorem map_small_byt {l : List Int} (h : Byt l) : Byt (l.map smallZ) := by
  intro x hx
  obtain ⟨y, hy, rfl⟩ := List.mem_map.1 hx
  exact smallZ_byt (h y hy)
set_option maxRecDepth 100000 in
set_option maxHeartbeats 2000000 in
theorem small_any (s : ByteArray) (w : World) (hs : s.size ≤ 1000000000) : Calls Tryd.prog 107 #[.string s] w fun e w' => e = .returned (.string (strOfNums ((nums s).map smallZ))) ∧ Below w.heap.size w w' := by
  obtain ⟨cap, w1, kc, hcap, hmx, hrow, hb, hfz⟩ := conv_bytes s w (by unfold maxLen; omega)
  have HR : Hid (Row w1 (some ⟨w.heap.size, 0, none⟩) (nums s)) := hrow
  have HB : Hid (Below w.heap.size w w1) := hb
  have HF : Hid (∀ i, i < s.size → w1.frozen? ⟨w.heap.size, i, none⟩ = false) := hfz
  clear hrow hb hfz
  go_enter Tryd.func107, Tryd.ntmps107
  go_wp2
  go_loopw [10] (fun i wr => ∃ k : Nat, i = .int .i64 k ∧ k ≤ s.size ∧ Row wr (some ⟨w.heap.size, 0, none⟩) (((nums s).take k).map smallZ ++ (nums s).drop k) ∧ (∀ i, i < s.size → wr.frozen? ⟨w.heap.size, i, none⟩ = false) ∧ Below w.heap.size w wr) (fun i _ => s.size - (intOf i).toNat)
  case atStart => exact ⟨0, rfl, by omega, HR.out, HF.out, HB.out⟩
  case round =>
    clear HR HB HF kc
    obtain ⟨k, rfl, hk, hrow, hfz, hb⟩ := hrel
    have HB : Hid (Below w.heap.size w wr) := hb
    have HF : Hid (∀ i, i < s.size → wr.frozen? ⟨w.heap.size, i, none⟩ = false) := hfz
    have HR : Hid (Row wr (some ⟨w.heap.size, 0, none⟩) (((nums s).take k).map smallZ ++ (nums s).drop k)) := hrow
    clear hb hfz hrow
    by_cases hlt : k < s.size
    · have HD : Hid ((nums s).drop k = (s[k].toNat : Int) :: (nums s).drop (k + 1)) := nums_drop s k hlt
      have HA : Hid ((nums s)[k]? = some (s[k].toNat : Int)) := nums_at s k hlt
      have hc1 : (s[k].toNat : Int) < 256 := by have := s[k].toNat_lt; omega
      have hc0 : (0 : Int) ≤ (s[k].toNat : Int) := by omega
      obtain ⟨c, hc⟩ : ∃ c : Int, ((s[k]'hlt).toNat : Int) = c := ⟨_, rfl⟩
      rw [hc] at HD HA hc1 hc0
      have hlk : (((nums s).take k).map smallZ).length = k := by rw [List.length_map, List.length_take, nums_len]; omega
      have hcell : wr.cell? ⟨w.heap.size, k, none⟩ = some (.int .u8 c) := by
        rcases HR.out with h | ⟨b', off, e, h⟩
        · have := congrArg List.length h; rw [List.length_append, hlk, HD.out] at this; simp at this
        · simp at e
          obtain ⟨rfl, rfl⟩ := e
          have := h k (by rw [List.length_append, hlk, HD.out]; simp)
          rw [Nat.zero_add] at this
          rw [this, List.getD_eq_getElem?_getD, List.getElem?_append_right (by omega), hlk, HD.out]
          simp
      have hfk := HF.out k hlt
      have HT : Hid (((nums s).take (k + 1)).map smallZ ++ (nums s).drop (k + 1) = ((nums s).take k).map smallZ ++ smallZ c :: (nums s).drop (k + 1)) := by
        unfold Hid; rw [List.take_add_one, HA.out]; simp
      have HK : Hid ((((nums s).take k).map smallZ).length = k) := hlk
      clear hc hlk
      by_cases ha : 65 ≤ c
      · by_cases hz : c ≤ 90
        · have HS : Hid (smallZ c = c + 97 - 65) := by unfold Hid smallZ; rw [if_pos ⟨ha, hz⟩]; omega
          have HW : Hid (Row (wr.setCell ⟨w.heap.size, k, none⟩ (.int .u8 (c + 97 - 65))) (some ⟨w.heap.size, 0, none⟩) (((nums s).take (k + 1)).map smallZ ++ (nums s).drop (k + 1))) := by
            have := row_set (k := k) (c + 97 - 65) HR.out (by rw [List.length_append, HK.out, HD.out]; simp)
            rw [List.set_append_right _ _ (by rw [HK.out]; exact Nat.le_refl _), HK.out, HD.out, Nat.sub_self, List.set_cons_zero] at this
            unfold Hid; rw [HT.out, HS.out]; exact this
          go_wp2
          go_roundw
          case rel => exact ⟨k + 1, by go_num, by omega, HW.out, fun i hi => by rw [World.frozen?_setCell]; exact HF.out i hi, HB.out.setCell (p := ⟨w.heap.size, k, none⟩) (Nat.le_refl _) _⟩
          case measure => simp [intOf]; omega
        · have HS : Hid (smallZ c = c) := by unfold Hid smallZ; rw [if_neg (by omega)]
          have HW : Hid (Row wr (some ⟨w.heap.size, 0, none⟩) (((nums s).take (k + 1)).map smallZ ++ (nums s).drop (k + 1))) := by
            have := HR.out
            rw [HD.out] at this
            unfold Hid; rw [HT.out, HS.out]; exact this
          go_wp2
          go_roundw
          case rel => exact ⟨k + 1, by go_num, by omega, HW.out, HF.out, HB.out⟩
          case measure => simp [intOf]; omega
      · have HS : Hid (smallZ c = c) := by unfold Hid smallZ; rw [if_neg (by omega)]
        have HW : Hid (Row wr (some ⟨w.heap.size, 0, none⟩) (((nums s).take (k + 1)).map smallZ ++ (nums s).drop (k + 1))) := by
          have := HR.out
          rw [HD.out] at this
          unfold Hid; rw [HT.out, HS.out]; exact this
        go_wp2
        go_roundw
        case rel => exact ⟨k + 1, by go_num, by omega, HW.out, HF.out, HB.out⟩
        case measure => simp [intOf]; omega
    · obtain rfl : k = s.size := by omega
      have hr : Row wr (some ⟨w.heap.size, 0, none⟩) ((nums s).map smallZ) := by
        have := HR.out
        rwa [List.take_of_length_le (by rw [nums_len]; exact Nat.le_refl _), List.drop_of_length_le (by rw [nums_len]; exact Nat.le_refl _), List.append_nil] at this
      have kc2 := conv_row s.size cap (by rw [List.length_map, nums_len]) hr
      clear hr
      go_wp2
      go_ret
      exact ⟨rfl, HB.out⟩

end Go.Proofs.YtfhgkkdbkbbpkaaDoor.Cs
