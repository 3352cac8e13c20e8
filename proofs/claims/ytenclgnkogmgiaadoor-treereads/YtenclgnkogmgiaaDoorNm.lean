/-
  Names and texts: the contracts of large, nameEnd, isName, isText and isParam.
-/
import Derived.Test.YtenclgnkogmgiaaDoorAn
import Derived.Test.YtenclgnkogmgiaaDoorUValid
import Derived.Lib.ConvBytes
namespace Go.Proofs.YtenclgnkogmgiaaDoor
open Go.RowKit
set_option linter.unusedVariables false

theorem below_drew {n : Nat} {w w' : World} (h : Below n w w') : Below n w w'.drew := below_drewN h 1
theorem cell_keep {w w' : World} {p : Addr} {v : Value} (hb : Below w.heap.size w w') (h : w.cell? p = some v) : w'.cell? p = some v := (hb.cell (World.block_lt_of_cell? w p h)).trans h
/-- '[]byte(s)': a new row. -/
theorem conv_bytes (s : ByteArray) (w : World) (hs : s.size ≤ maxLen) :
    ∃ cap w', (convert 9 29 (.string s)).run Tryd.prog w = .ok (.slice (some ⟨w.heap.size, 0, none⟩) s.size cap) w' ∧ s.size ≤ cap ∧ cap ≤ 9223372036854775807 ∧ Row w' (some ⟨w.heap.size, 0, none⟩) (nums s) ∧ Below w.heap.size w w' ∧ ∀ i, i < s.size → w'.frozen? ⟨w.heap.size, i, none⟩ = false := by
  refine ⟨_, _, Lib.run_convert_string_bytes (P := Tryd.prog) w 9 29 5 s Tryd.underlying9 Tryd.underlying29 Tryd.underlying5, grownCap_ge _ _ _ _, ?_, .inr ⟨w.heap.size, 0, rfl, fun i hi => ?_⟩, ⟨rfl, rfl, rfl, by rw [Lib.bytesWorld_size]; omega, fun k hk => Lib.bytesWorld_at_old w 5 s k hk⟩, fun i hi => ?_⟩
  · have := grownCap_le_maxLen w s.size 0 5 hs
    unfold maxLen at this
    exact this
  · rw [nums_len] at hi
    rw [Nat.zero_add, Lib.bytesWorld_cell w 5 s i hi]
    congr 2
    have h1 : i < s.data.toList.length := by rw [Array.length_toList]; exact hi
    rw [nums, List.getD_eq_getElem?_getD, List.getD_eq_getElem?_getD, List.getElem?_map, List.getElem?_eq_getElem h1]
    rfl
  · have hsz : i < (Lib.bytesCells w 5 s).size := by
      unfold Lib.bytesCells
      rw [Array.size_append, Array.size_map]
      have : s.data.size = s.size := rfl
      omega
    simp only [World.frozen?, Lib.bytesWorld_at_new]
    simp
    omega
theorem row_set {w : World} {b : Nat} {l : List Int} {k : Nat} (v : Int) (h : Row w (some ⟨b, 0, none⟩) l) (hk : k < l.length) : Row (w.setCell ⟨b, k, none⟩ (.int .u8 v)) (some ⟨b, 0, none⟩) (l.set k v) := by
  rcases h with rfl | ⟨b', off, e, h⟩
  · simp at hk
  · simp at e
    obtain ⟨rfl, rfl⟩ := e
    refine .inr ⟨b, 0, rfl, fun i hi => ?_⟩
    rw [List.length_set] at hi
    by_cases q : i = k
    · subst q
      rw [Nat.zero_add, World.cell?_setCell_same _ _ _ (by have := h i hi; rw [Nat.zero_add] at this; rw [this])]
      simp [List.getD_eq_getElem?_getD, hi]
    · rw [World.cell?_setCell_other _ _ _ _ (by simp), h i hi]
      simp [List.getD_eq_getElem?_getD, Ne.symm q]
theorem tw_le (p : Int → Bool) : ∀ l : List Int, (l.takeWhile p).length ≤ l.length
  | [] => by simp
  | c :: l => by
    rw [List.takeWhile_cons]; split
    · simp; exact tw_le p l
    · simp
theorem tw_stop (p : Int → Bool) : ∀ (l : List Int) (k : Nat) (c : Int), l[k]? = some c → (l.take k).all p = true → p c = false → (l.takeWhile p).length = k
  | [], k, c, h, _, _ => by simp at h
  | d :: l, 0, c, h, _, hc => by
    simp only [List.getElem?_cons_zero, Option.some.injEq] at h
    subst h
    simp [hc]
  | d :: l, k + 1, c, h, ha, hc => by
    simp only [List.take_succ_cons, List.all_cons, Bool.and_eq_true] at ha
    simp only [List.getElem?_cons_succ] at h
    have ih := tw_stop p l k c h ha.2 hc
    simp only [List.takeWhile_cons, ha.1, if_true, List.length_cons] at ih ⊢
    omega
theorem tw_all (p : Int → Bool) : ∀ l : List Int, l.all p = true → (l.takeWhile p).length = l.length
  | [], _ => rfl
  | d :: l, h => by
    simp only [List.all_cons, Bool.and_eq_true] at h
    have ih := tw_all p l h.2
    simp only [List.takeWhile_cons, h.1, if_true, List.length_cons] at ih ⊢
    omega
theorem tw_whole (p : Int → Bool) : ∀ l : List Int, decide ((l.takeWhile p).length = l.length) = l.all p
  | [] => rfl
  | d :: l => by
    have ih := tw_whole p l
    rw [List.takeWhile_cons, List.all_cons]
    cases p d with
    | true => simp only [if_true, List.length_cons, Bool.true_and, ← ih]; congr 1; simp
    | false => simp
/-- A byte of a name; of a name without small letters; a letter's large one. -/
def nmC (c : Int) : Bool := decide (65 ≤ c ∧ c ≤ 90) || decide (97 ≤ c ∧ c ≤ 122) || decide (48 ≤ c ∧ c ≤ 57) || decide (c = 45)
def upC (c : Int) : Bool := decide (65 ≤ c ∧ c ≤ 90) || decide (48 ≤ c ∧ c ≤ 57) || decide (c = 45)
def largeZ (c : Int) : Int := if 97 ≤ c ∧ c ≤ 122 then c - 32 else c
def nameZ (l : List Int) : Bool := decide (1 ≤ l.length) && decide (l.length ≤ 64) && l.all upC
theorem largeZ_byt {c : Int} (h : 0 ≤ c ∧ c < 256) : 0 ≤ largeZ c ∧ largeZ c < 256 := by unfold largeZ; split <;> omega
theorem map_large_byt {l : List Int} (h : Byt l) : Byt (l.map largeZ) := by
  intro x hx
  obtain ⟨y, hy, rfl⟩ := List.mem_map.1 hx
  exact largeZ_byt (h y hy)
theorem up_iff (c : Int) : upC c = (nmC c && decide (largeZ c = c)) := by
  unfold upC nmC largeZ
  rw [Bool.eq_iff_iff]
  simp only [Bool.or_eq_true, Bool.and_eq_true, decide_eq_true_eq]
  constructor
  · intro h
    refine ⟨by omega, ?_⟩
    rw [if_neg (by omega)]
  · rintro ⟨h1, h2⟩
    split at h2 <;> omega
theorem up_all : ∀ l : List Int, l.all upC = (l.all nmC && decide (l.map largeZ = l))
  | [] => rfl
  | c :: l => by
    rw [List.all_cons, List.all_cons, up_all l, up_iff c, List.map_cons]
    rw [Bool.eq_iff_iff]
    simp only [Bool.and_eq_true, decide_eq_true_eq, List.cons.injEq]
    constructor
    · rintro ⟨⟨a, b⟩, c, d⟩; exact ⟨⟨a, c⟩, b, d⟩
    · rintro ⟨⟨a, c⟩, b, d⟩; exact ⟨⟨a, b⟩, c, d⟩
set_option maxRecDepth 100000 in
set_option maxHeartbeats 2000000 in
theorem large_any (s : ByteArray) (w : World) (hs : s.size ≤ 1000000000) : Calls Tryd.prog 84 #[.string s] w fun e w' => e = .returned (.string (strOfNums ((nums s).map largeZ))) ∧ Below w.heap.size w w' := by
  obtain ⟨cap, w1, kc, hcap, hmx, hrow, hb, hfz⟩ := conv_bytes s w (by unfold maxLen; omega)
  have HR : Hid (Row w1 (some ⟨w.heap.size, 0, none⟩) (nums s)) := hrow
  have HB : Hid (Below w.heap.size w w1) := hb
  have HF : Hid (∀ i, i < s.size → w1.frozen? ⟨w.heap.size, i, none⟩ = false) := hfz
  clear hrow hb hfz
  go_enter Tryd.func84, Tryd.ntmps84
  go_wp2
  go_loopw [10] (fun i wr => ∃ k : Nat, i = .int .i64 k ∧ k ≤ s.size ∧ Row wr (some ⟨w.heap.size, 0, none⟩) (((nums s).take k).map largeZ ++ (nums s).drop k) ∧ (∀ i, i < s.size → wr.frozen? ⟨w.heap.size, i, none⟩ = false) ∧ Below w.heap.size w wr) (fun i _ => s.size - (intOf i).toNat)
  case atStart => exact ⟨0, rfl, by omega, HR.out, HF.out, HB.out⟩
  case round =>
    clear HR HB HF kc
    obtain ⟨k, rfl, hk, hrow, hfz, hb⟩ := hrel
    have HB : Hid (Below w.heap.size w wr) := hb
    have HF : Hid (∀ i, i < s.size → wr.frozen? ⟨w.heap.size, i, none⟩ = false) := hfz
    have HR : Hid (Row wr (some ⟨w.heap.size, 0, none⟩) (((nums s).take k).map largeZ ++ (nums s).drop k)) := hrow
    clear hb hfz hrow
    by_cases hlt : k < s.size
    · have HD : Hid ((nums s).drop k = (s[k].toNat : Int) :: (nums s).drop (k + 1)) := nums_drop s k hlt
      have HA : Hid ((nums s)[k]? = some (s[k].toNat : Int)) := nums_at s k hlt
      have hc1 : (s[k].toNat : Int) < 256 := by have := s[k].toNat_lt; omega
      have hc0 : (0 : Int) ≤ (s[k].toNat : Int) := by omega
      obtain ⟨c, hc⟩ : ∃ c : Int, ((s[k]'hlt).toNat : Int) = c := ⟨_, rfl⟩
      rw [hc] at HD HA hc1 hc0
      have hlk : (((nums s).take k).map largeZ).length = k := by rw [List.length_map, List.length_take, nums_len]; omega
      have hcell : wr.cell? ⟨w.heap.size, k, none⟩ = some (.int .u8 c) := by
        rcases HR.out with h | ⟨b', off, e, h⟩
        · have := congrArg List.length h; rw [List.length_append, hlk, HD.out] at this; simp at this
        · simp at e
          obtain ⟨rfl, rfl⟩ := e
          have := h k (by rw [List.length_append, hlk, HD.out]; simp)
          rw [Nat.zero_add] at this
          rw [this, List.getD_eq_getElem?_getD, List.getElem?_append_right (by omega), hlk, HD.out]
          simp
      have hfk := HF.out k hlt
      have HT : Hid (((nums s).take (k + 1)).map largeZ ++ (nums s).drop (k + 1) = ((nums s).take k).map largeZ ++ largeZ c :: (nums s).drop (k + 1)) := by
        unfold Hid; rw [List.take_add_one, HA.out]; simp
      have HK : Hid ((((nums s).take k).map largeZ).length = k) := hlk
      clear hc hlk
      by_cases ha : 97 ≤ c
      · by_cases hz : c ≤ 122
        · have HS : Hid (largeZ c = c - 97 + 65) := by unfold Hid largeZ; rw [if_pos ⟨ha, hz⟩]; omega
          have HW : Hid (Row (wr.setCell ⟨w.heap.size, k, none⟩ (.int .u8 (c - 97 + 65))) (some ⟨w.heap.size, 0, none⟩) (((nums s).take (k + 1)).map largeZ ++ (nums s).drop (k + 1))) := by
            have := row_set (k := k) (c - 97 + 65) HR.out (by rw [List.length_append, HK.out, HD.out]; simp)
            rw [List.set_append_right _ _ (by rw [HK.out]; exact Nat.le_refl _), HK.out, HD.out, Nat.sub_self, List.set_cons_zero] at this
            unfold Hid; rw [HT.out, HS.out]; exact this
          go_wp2
          go_roundw
          case rel => exact ⟨k + 1, by go_num, by omega, HW.out, fun i hi => by rw [World.frozen?_setCell]; exact HF.out i hi, HB.out.setCell (p := ⟨w.heap.size, k, none⟩) (Nat.le_refl _) _⟩
          case measure => simp [intOf]; omega
        · have HS : Hid (largeZ c = c) := by unfold Hid largeZ; rw [if_neg (by omega)]
          have HW : Hid (Row wr (some ⟨w.heap.size, 0, none⟩) (((nums s).take (k + 1)).map largeZ ++ (nums s).drop (k + 1))) := by
            have := HR.out
            rw [HD.out] at this
            unfold Hid; rw [HT.out, HS.out]; exact this
          go_wp2
          go_roundw
          case rel => exact ⟨k + 1, by go_num, by omega, HW.out, HF.out, HB.out⟩
          case measure => simp [intOf]; omega
      · have HS : Hid (largeZ c = c) := by unfold Hid largeZ; rw [if_neg (by omega)]
        have HW : Hid (Row wr (some ⟨w.heap.size, 0, none⟩) (((nums s).take (k + 1)).map largeZ ++ (nums s).drop (k + 1))) := by
          have := HR.out
          rw [HD.out] at this
          unfold Hid; rw [HT.out, HS.out]; exact this
        go_wp2
        go_roundw
        case rel => exact ⟨k + 1, by go_num, by omega, HW.out, HF.out, HB.out⟩
        case measure => simp [intOf]; omega
    · obtain rfl : k = s.size := by omega
      have hr : Row wr (some ⟨w.heap.size, 0, none⟩) ((nums s).map largeZ) := by
        have := HR.out
        rwa [List.take_of_length_le (by rw [nums_len]; exact Nat.le_refl _), List.drop_of_length_le (by rw [nums_len]; exact Nat.le_refl _), List.append_nil] at this
      have kc2 := conv_row s.size cap (by rw [List.length_map, nums_len]) hr
      clear hr
      go_wp2
      go_ret
      exact ⟨rfl, HB.out⟩

def endZ (l : List Int) : Nat := (l.takeWhile nmC).length
set_option maxHeartbeats 8000000 in
set_option maxRecDepth 100000 in
theorem nameEnd_any (s : ByteArray) (w : World) (hs : s.size ≤ 1000000000) : Calls Tryd.prog 83 #[.string s] w fun e w' => e = .returned (.int .i64 (endZ (nums s) : Nat)) ∧ w = w' := by
  go_enter Tryd.func83, Tryd.ntmps83
  go_wp2
  go_loopw [7] (fun i wr => ∃ k : Nat, i = .int .i64 k ∧ k ≤ s.size ∧ ((nums s).take k).all nmC = true ∧ w = wr) (fun i _ => s.size - (intOf i).toNat)
  case atStart => exact ⟨0, rfl, by omega, rfl, rfl⟩
  case round =>
    obtain ⟨k, rfl, hk, hall, rfl⟩ := hrel
    have HA : Hid (((nums s).take k).all nmC = true) := hall
    clear hall
    by_cases hlt : k < s.size
    · have hc1 : (s[k].toNat : Int) < 256 := by have := s[k].toNat_lt; omega
      have hc0 : (0 : Int) ≤ (s[k].toNat : Int) := by omega
      have HT : Hid ((nums s)[k]? = some (s[k].toNat : Int)) := nums_at s k hlt
      obtain ⟨c, hc⟩ : ∃ c : Int, ((s[k]'hlt).toNat : Int) = c := ⟨_, rfl⟩
      rw [hc] at HT hc1 hc0
      by_cases q0 : c ≤ 44
      · have g0 : 0 ≤ c := by omega
        have hcc : nmC c = false := by unfold nmC; simp; omega
        have a1 : decide (c < 65) = true := by simp; omega
        have a2 : decide ((90 : Int) < c) = false := by simp; omega
        have a3 : decide (c < 97) = true := by simp; omega
        have a4 : decide ((122 : Int) < c) = false := by simp; omega
        have a5 : decide (c < 48) = true := by simp; omega
        have a6 : decide ((57 : Int) < c) = false := by simp; omega
        have a7 : (c != 45) = true := by simp; omega
        go_wp2
        go_ret
        exact ⟨ret_int (by unfold endZ; rw [tw_stop nmC _ k c HT.out HA.out hcc]), rfl⟩
      · skip
        by_cases q1 : c ≤ 45
        · have g0 : 45 ≤ c := by omega
          have hcc : nmC c = true := by unfold nmC; simp; omega
          have a1 : decide (c < 65) = true := by simp; omega
          have a2 : decide ((90 : Int) < c) = false := by simp; omega
          have a3 : decide (c < 97) = true := by simp; omega
          have a4 : decide ((122 : Int) < c) = false := by simp; omega
          have a5 : decide (c < 48) = true := by simp; omega
          have a6 : decide ((57 : Int) < c) = false := by simp; omega
          have a7 : (c != 45) = false := by simp; omega
          go_wp2
          go_roundw
          case rel => exact ⟨k + 1, by go_num, by omega, by rw [all_take nmC _ k c HT.out, HA.out, hcc]; rfl, by first | rfl | trivial⟩
          case measure => simp [intOf]; omega
        · skip
          by_cases q2 : c ≤ 47
          · have g0 : 46 ≤ c := by omega
            have hcc : nmC c = false := by unfold nmC; simp; omega
            have a1 : decide (c < 65) = true := by simp; omega
            have a2 : decide ((90 : Int) < c) = false := by simp; omega
            have a3 : decide (c < 97) = true := by simp; omega
            have a4 : decide ((122 : Int) < c) = false := by simp; omega
            have a5 : decide (c < 48) = true := by simp; omega
            have a6 : decide ((57 : Int) < c) = false := by simp; omega
            have a7 : (c != 45) = true := by simp; omega
            go_wp2
            go_ret
            exact ⟨ret_int (by unfold endZ; rw [tw_stop nmC _ k c HT.out HA.out hcc]), rfl⟩
          · skip
            by_cases q3 : c ≤ 57
            · have g0 : 48 ≤ c := by omega
              have hcc : nmC c = true := by unfold nmC; simp; omega
              have a1 : decide (c < 65) = true := by simp; omega
              have a2 : decide ((90 : Int) < c) = false := by simp; omega
              have a3 : decide (c < 97) = true := by simp; omega
              have a4 : decide ((122 : Int) < c) = false := by simp; omega
              have a5 : decide (c < 48) = false := by simp; omega
              have a6 : decide ((57 : Int) < c) = false := by simp; omega
              have a7 : (c != 45) = true := by simp; omega
              go_wp2
              go_roundw
              case rel => exact ⟨k + 1, by go_num, by omega, by rw [all_take nmC _ k c HT.out, HA.out, hcc]; rfl, by first | rfl | trivial⟩
              case measure => simp [intOf]; omega
            · skip
              by_cases q4 : c ≤ 64
              · have g0 : 58 ≤ c := by omega
                have hcc : nmC c = false := by unfold nmC; simp; omega
                have a1 : decide (c < 65) = true := by simp; omega
                have a2 : decide ((90 : Int) < c) = false := by simp; omega
                have a3 : decide (c < 97) = true := by simp; omega
                have a4 : decide ((122 : Int) < c) = false := by simp; omega
                have a5 : decide (c < 48) = false := by simp; omega
                have a6 : decide ((57 : Int) < c) = true := by simp; omega
                have a7 : (c != 45) = true := by simp; omega
                go_wp2
                go_ret
                exact ⟨ret_int (by unfold endZ; rw [tw_stop nmC _ k c HT.out HA.out hcc]), rfl⟩
              · skip
                by_cases q5 : c ≤ 90
                · have g0 : 65 ≤ c := by omega
                  have hcc : nmC c = true := by unfold nmC; simp; omega
                  have a1 : decide (c < 65) = false := by simp; omega
                  have a2 : decide ((90 : Int) < c) = false := by simp; omega
                  have a3 : decide (c < 97) = true := by simp; omega
                  have a4 : decide ((122 : Int) < c) = false := by simp; omega
                  have a5 : decide (c < 48) = false := by simp; omega
                  have a6 : decide ((57 : Int) < c) = true := by simp; omega
                  have a7 : (c != 45) = true := by simp; omega
                  go_wp2
                  go_roundw
                  case rel => exact ⟨k + 1, by go_num, by omega, by rw [all_take nmC _ k c HT.out, HA.out, hcc]; rfl, by first | rfl | trivial⟩
                  case measure => simp [intOf]; omega
                · skip
                  by_cases q6 : c ≤ 96
                  · have g0 : 91 ≤ c := by omega
                    have hcc : nmC c = false := by unfold nmC; simp; omega
                    have a1 : decide (c < 65) = false := by simp; omega
                    have a2 : decide ((90 : Int) < c) = true := by simp; omega
                    have a3 : decide (c < 97) = true := by simp; omega
                    have a4 : decide ((122 : Int) < c) = false := by simp; omega
                    have a5 : decide (c < 48) = false := by simp; omega
                    have a6 : decide ((57 : Int) < c) = true := by simp; omega
                    have a7 : (c != 45) = true := by simp; omega
                    go_wp2
                    go_ret
                    exact ⟨ret_int (by unfold endZ; rw [tw_stop nmC _ k c HT.out HA.out hcc]), rfl⟩
                  · skip
                    by_cases q7 : c ≤ 122
                    · have g0 : 97 ≤ c := by omega
                      have hcc : nmC c = true := by unfold nmC; simp; omega
                      have a1 : decide (c < 65) = false := by simp; omega
                      have a2 : decide ((90 : Int) < c) = true := by simp; omega
                      have a3 : decide (c < 97) = false := by simp; omega
                      have a4 : decide ((122 : Int) < c) = false := by simp; omega
                      have a5 : decide (c < 48) = false := by simp; omega
                      have a6 : decide ((57 : Int) < c) = true := by simp; omega
                      have a7 : (c != 45) = true := by simp; omega
                      go_wp2
                      go_roundw
                      case rel => exact ⟨k + 1, by go_num, by omega, by rw [all_take nmC _ k c HT.out, HA.out, hcc]; rfl, by first | rfl | trivial⟩
                      case measure => simp [intOf]; omega
                    · skip
                      have g0 : 123 ≤ c := by omega
                      have hcc : nmC c = false := by unfold nmC; simp; omega
                      have a1 : decide (c < 65) = false := by simp; omega
                      have a2 : decide ((90 : Int) < c) = true := by simp; omega
                      have a3 : decide (c < 97) = false := by simp; omega
                      have a4 : decide ((122 : Int) < c) = true := by simp; omega
                      have a5 : decide (c < 48) = false := by simp; omega
                      have a6 : decide ((57 : Int) < c) = true := by simp; omega
                      have a7 : (c != 45) = true := by simp; omega
                      go_wp2
                      go_ret
                      exact ⟨ret_int (by unfold endZ; rw [tw_stop nmC _ k c HT.out HA.out hcc]), rfl⟩
    · obtain rfl : k = s.size := by omega
      have HE : Hid (endZ (nums s) = s.size) := by
        have := HA.out
        rw [List.take_of_length_le (by rw [nums_len]; exact Nat.le_refl _)] at this
        unfold Hid endZ; rw [tw_all nmC _ this, nums_len]
      go_wp2
      go_ret
      exact ⟨ret_int (by rw [HE.out]), rfl⟩
theorem toList_emp (s : ByteArray) : s.toList.isEmpty = decide (s.size = 0) := by
  rw [ByteArray.toList_eq, Bool.eq_iff_iff]
  simp only [List.isEmpty_iff, decide_eq_true_eq]
  rw [← List.length_eq_zero_iff, Array.length_toList]
  exact Iff.rfl
set_option maxHeartbeats 4000000 in
set_option maxRecDepth 100000 in
theorem isName_any (s : ByteArray) (w : World) (hs : s.size ≤ 1000000000) : Calls Tryd.prog 61 #[.string s] w fun e w' => e = .returned (.bool (nameZ (nums s))) ∧ Below w.heap.size w w' := by
  have hnl := nums_len s
  by_cases h0 : s.size = 0
  · have HZ : Hid (nameZ (nums s) = false) := by unfold Hid nameZ; rw [hnl, h0]; rfl
    have he : s.toList.isEmpty = true := by rw [toList_emp]; simp [h0]
    clear hnl
    go_enter Tryd.func61, Tryd.ntmps61
    go_wp2
    go_ret
    exact ⟨ret_bool HZ.out.symm, Below.refl _ _⟩
  · have he : s.toList.isEmpty = false := by rw [toList_emp]; simp [h0]
    by_cases h64 : s.size ≤ 64
    · have d64 : decide ((s.size : Int) ≤ 64) = true := by simp; omega
      have hw := tw_whole nmC (nums s)
      by_cases hall : (nums s).all nmC = true
      · have hE : endZ (nums s) = s.size := by unfold endZ; rw [tw_all nmC _ hall, nums_len]
        have hq := eq_nums (strOfNums ((nums s).map largeZ)) s
        rw [nums_str (map_large_byt (nums_byt s))] at hq
        have HZ : Hid (nameZ (nums s) = ((strOfNums ((nums s).map largeZ)).toList == s.toList)) := by
          unfold Hid nameZ; rw [up_all, hall, hq, hnl, decide_eq_true (by omega), decide_eq_true (by omega)]; rfl
        clear hnl hw hq hall
        go_enter Tryd.func61, Tryd.ntmps61
        go_wp2_with (first
          | (go_at_call 83; refine (nameEnd_any s _ hs).mono ?_; rintro e w1 ⟨rfl, rfl⟩; rw [hE])
          | (go_at_call 84; refine (large_any s _ hs).mono ?_; rintro e w2 ⟨rfl, hb2⟩))
        go_ret
        exact ⟨ret_bool HZ.out.symm, hb2⟩
      · have hlt : endZ (nums s) ≠ s.size := by
          intro e
          unfold endZ at e
          rw [decide_eq_true (by rw [nums_len]; exact e)] at hw
          exact hall hw.symm
        have hne : (((endZ (nums s) : Nat) : Int) == (s.size : Int)) = false := by rw [beq_eq_false_iff_ne]; omega
        have HZ : Hid (nameZ (nums s) = false) := by
          unfold Hid nameZ; rw [up_all]; simp only [Bool.not_eq_true] at hall; rw [hall]; simp
        obtain ⟨z, hz⟩ : ∃ z, endZ (nums s) = z := ⟨_, rfl⟩
        rw [hz] at hne hlt
        clear hnl hw hall
        go_enter Tryd.func61, Tryd.ntmps61
        go_wp2_with (go_at_call 83; refine (nameEnd_any s _ hs).mono ?_; rintro e w1 ⟨rfl, rfl⟩; rw [hz])
        go_ret
        exact ⟨ret_bool HZ.out.symm, Below.refl _ _⟩
    · have d64 : decide ((s.size : Int) ≤ 64) = false := by simp; omega
      have HZ : Hid (nameZ (nums s) = false) := by unfold Hid nameZ; rw [hnl, decide_eq_false h64]; simp
      clear hnl
      go_enter Tryd.func61, Tryd.ntmps61
      go_wp2
      go_ret
      exact ⟨ret_bool HZ.out.symm, Below.refl _ _⟩
/-- Is a text valid? -/
def validN : Nat → List Int → Bool
  | _, [] => true
  | 0, _ => false
  | n + 1, l => match Ut.decZ l with | some p => validN n (l.drop (Ut.encZ p).length) | none => false
def validZ (l : List Int) : Bool := validN l.length l
theorem valid_flat : ∀ (ps r : List Int) (n : Nat), Ut.AllPt ps → Ut.decZ r = none → (Ut.flat ps ++ r).length ≤ n → validN n (Ut.flat ps ++ r) = r.isEmpty
  | [], r, n, _, hr, hn => by
    rw [Ut.flat_nil, List.nil_append]
    cases r with
    | nil => cases n <;> rfl
    | cons c r =>
      cases n with
      | zero => rfl
      | succ n =>
        rw [validN, hr]
        · rfl
        · simp
  | p :: ps, r, n, hp, hr, hn => by
    have hl := Ut.flat_len p ps r
    have hpos := Ut.enc_pos p
    cases n with
    | zero => omega
    | succ n =>
      have ih := valid_flat ps r n hp.tail hr (by omega)
      obtain ⟨c, t, hct⟩ : ∃ c t, Ut.flat (p :: ps) ++ r = c :: t := by
        cases h : Ut.flat (p :: ps) ++ r with
        | nil => exact absurd h (Ut.flat_ne p ps r)
        | cons c t => exact ⟨c, t, rfl⟩
      have hd := Ut.dec_flat (r := r) hp
      have hdr := Ut.drop_flat p ps r
      rw [hct] at hd hdr ⊢
      rw [validN, hd]
      · simp only; rw [hdr, ih]
      · simp
set_option maxRecDepth 100000 in
theorem valid_row (a : Option Addr) (len cap : Nat) (l : List Int) (w : World) (hlen : l.length = len) (hl : Byt l) (hcap : len ≤ cap) (hm : cap ≤ maxLen) (hrow : Row w a l) :
    Calls Tryd.prog 85 #[.slice a len cap] w fun e w' => e = .returned (.bool (validZ l)) ∧ w = w' := by
  obtain ⟨ps, r, hps, rfl, hr⟩ := Ut.split_ex l hl
  have hb : Ut.Byt r := fun x hx => hl x (by simp [hx])
  have := Ut.valid_any a len cap ps r w hlen hps hr hb hcap hm hrow
  have he : validZ (Ut.flat ps ++ r) = r.isEmpty := valid_flat ps r _ hps hr (Nat.le_refl _)
  rw [he]; exact this
def txC (c : Int) : Bool := (decide (32 ≤ c) || decide (c = 9)) && decide (c ≠ 127)
def textZ (l : List Int) : Bool := l.all txC && validZ l
set_option maxHeartbeats 8000000 in
set_option maxRecDepth 100000 in
theorem isText_any (s : ByteArray) (m : Nat) (w : World) (hs : s.size ≤ 1000000000) (hm : m ≤ 1000000000) : Calls Tryd.prog 62 #[.string s, .int .i64 m] w fun e w' => e = .returned (.bool (decide (s.size ≤ m) && textZ (nums s))) ∧ Below w.heap.size w w' := by
  by_cases hsm : s.size ≤ m
  · have hd : decide ((m : Int) < (s.size : Int)) = false := by simp; omega
    have HQ : Hid ((decide (s.size ≤ m) && textZ (nums s)) = textZ (nums s)) := by unfold Hid; rw [decide_eq_true hsm]; rfl
    go_enter Tryd.func62, Tryd.ntmps62
    go_wp2
    go_loopw [13] (fun i wr => ∃ k : Nat, i = .int .i64 k ∧ k ≤ s.size ∧ ((nums s).take k).all txC = true ∧ w = wr) (fun i _ => s.size - (intOf i).toNat)
    case atStart => exact ⟨0, rfl, by omega, rfl, rfl⟩
    case round =>
      obtain ⟨k, rfl, hk, hall, rfl⟩ := hrel
      have HA : Hid (((nums s).take k).all txC = true) := hall
      clear hall
      by_cases hlt : k < s.size
      · have hc1 : (s[k].toNat : Int) < 256 := by have := s[k].toNat_lt; omega
        have hc0 : (0 : Int) ≤ (s[k].toNat : Int) := by omega
        have HT : Hid ((nums s)[k]? = some (s[k].toNat : Int)) := nums_at s k hlt
        obtain ⟨c, hc⟩ : ∃ c : Int, ((s[k]'hlt).toNat : Int) = c := ⟨_, rfl⟩
        rw [hc] at HT hc1 hc0
        by_cases q1 : c < 32
        · have a1 : decide (c < 32) = true := by simp; omega
          by_cases q2 : c = 9
          · subst q2
            go_wp2
            go_roundw
            case rel => exact ⟨k + 1, by go_num, by omega, by rw [all_take txC _ k 9 HT.out, HA.out]; rfl, by first | rfl | trivial⟩
            case measure => simp [intOf]; omega
          · have a2 : (c != 9) = true := by simp; omega
            have hcc : txC c = false := by unfold txC; simp; omega
            have HZ : Hid (textZ (nums s) = false) := by unfold Hid textZ; rw [all_bad txC _ k c HT.out hcc]; rfl
            go_wp2
            go_ret
            exact ⟨ret_bool (by first | rw [HQ.out, HZ.out] | rw [HZ.out]), Below.refl _ _⟩
        · have a1 : decide (c < 32) = false := by simp; omega
          by_cases q2 : c = 127
          · subst q2
            have HZ : Hid (textZ (nums s) = false) := by unfold Hid textZ; rw [all_bad txC _ k 127 HT.out rfl]; rfl
            go_wp2
            go_ret
            exact ⟨ret_bool (by first | rw [HQ.out, HZ.out] | rw [HZ.out]), Below.refl _ _⟩
          · have a2 : (c == 127) = false := by simp; omega
            have hcc : txC c = true := by unfold txC; simp; omega
            go_wp2
            go_roundw
            case rel => exact ⟨k + 1, by go_num, by omega, by rw [all_take txC _ k c HT.out, HA.out, hcc]; rfl, by first | rfl | trivial⟩
            case measure => simp [intOf]; omega
      · obtain rfl : k = s.size := by omega
        have HE : Hid (textZ (nums s) = validZ (nums s)) := by
          have := HA.out
          rw [List.take_of_length_le (by rw [nums_len]; exact Nat.le_refl _)] at this
          unfold Hid textZ; rw [this]; rfl
        obtain ⟨cap, w1, kc, hcap, hmx, hrow, hb, hfz⟩ := conv_bytes s w (by unfold maxLen; omega)
        have HB : Hid (Below w.heap.size w w1) := hb
        have hv := valid_row _ s.size cap (nums s) w1 (nums_len s) (nums_byt s) hcap (by unfold maxLen; omega) hrow
        clear hrow hb hfz
        go_wp2_with (go_at_call 85; refine hv.mono ?_; rintro e w2 ⟨rfl, rfl⟩)
        go_ret
        exact ⟨ret_bool (by first | rw [HQ.out, HE.out] | rw [HE.out]), HB.out⟩
  · have hd : decide ((m : Int) < (s.size : Int)) = true := by simp; omega
    have HQ : Hid ((decide (s.size ≤ m) && textZ (nums s)) = false) := by unfold Hid; rw [decide_eq_false hsm]; rfl
    go_enter Tryd.func62, Tryd.ntmps62
    go_wp2
    go_ret
    exact ⟨ret_bool (by first | exact HQ.out.symm | simp_all), Below.refl _ _⟩
end Go.Proofs.YtenclgnkogmgiaaDoor
