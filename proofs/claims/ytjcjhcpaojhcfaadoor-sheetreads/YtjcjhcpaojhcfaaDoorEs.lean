/-
  A text as a value: the contract of Escape.
-/
import Derived.Test.YtjcjhcpaojhcfaaDoorOn
namespace Go.Proofs.YtjcjhcpaojhcfaaDoor
open Go.RowKit
set_option linter.unusedVariables false

/-- A byte as it is escaped. -/
def escC (c : Int) : List Int := if c = 92 ∨ c = 59 ∨ c = 44 then [92, c] else if c = 10 then [92, 110] else [c]
def escZ (l : List Int) : List Int := l.flatMap escC
theorem escC_byt {c : Int} (h : 0 ≤ c ∧ c < 256) : Byt (escC c) := by
  unfold escC
  split
  · intro x hx; simp at hx; rcases hx with rfl | rfl <;> omega
  · split
    · intro x hx; simp at hx; rcases hx with rfl | rfl <;> omega
    · intro x hx; simp at hx; subst hx; exact h
theorem escZ_byt {l : List Int} (h : Byt l) : Byt (escZ l) := by
  intro x hx
  obtain ⟨c, hc, hx⟩ := List.mem_flatMap.1 hx
  exact escC_byt (h c hc) x hx
theorem escC_len (c : Int) : (escC c).length ≤ 2 := by
  unfold escC; split
  · simp
  · split <;> simp
theorem escZ_len : ∀ l : List Int, (escZ l).length ≤ 2 * l.length
  | [] => by simp [escZ]
  | c :: l => by
    have h1 := escC_len c
    have h2 := escZ_len l
    unfold escZ at h2 ⊢
    rw [List.flatMap_cons, List.length_append, List.length_cons]
    omega
theorem escZ_take (l : List Int) (k : Nat) (c : Int) (h : l[k]? = some c) : escZ (l.take (k + 1)) = escZ (l.take k) ++ escC c := by
  unfold escZ; rw [List.take_add_one, h]; simp
theorem row_of_own {w : World} {B : Nat} {v : Value} {l : List Int} (h : Own w B v l) : ∃ a cap, v = .slice a l.length cap ∧ l.length ≤ cap ∧ cap ≤ maxLen ∧ Row w a l ∧ (a = none → cap = 0) := own_row' h
set_option maxHeartbeats 8000000 in
set_option maxRecDepth 100000 in
theorem escape_any (s : ByteArray) (w : World) (hs : s.size ≤ 1000000000) : Calls Tryd.prog 14 #[.string s] w fun e w' => e = .returned (.string (strOfNums (escZ (nums s)))) ∧ Below w.heap.size w w' := by
  obtain ⟨j0, hi, hz0, hz1, hz2⟩ := info_parts Tryd.info5
  go_enter Tryd.func14, Tryd.ntmps14
  go_wp2
  go_loopw [8, 3] (fun i v wr => ∃ k : Nat, i = .int .i64 k ∧ k ≤ s.size ∧ Own wr w.heap.size v (escZ ((nums s).take k)) ∧ Below w.heap.size w wr) (fun i _ _ => s.size - (intOf i).toNat)
  case atStart => exact ⟨0, rfl, by omega, ⟨rfl, .inl ⟨rfl, rfl⟩⟩, Below.refl _ _⟩
  case round =>
    obtain ⟨k, rfl, hk, hown, hb⟩ := hrel
    have HO : Hid (Own wr w.heap.size u3 (escZ ((nums s).take k))) := hown
    have HB : Hid (Below w.heap.size w wr) := hb
    have hle : (escZ ((nums s).take k)).length ≤ 2 * k := by have := escZ_len ((nums s).take k); rw [List.length_take] at this; omega
    have hsz := hb.size
    clear hown hb
    by_cases hlt : k < s.size
    · have hc1 : (s[k].toNat : Int) < 256 := by have := s[k].toNat_lt; omega
      have hc0 : (0 : Int) ≤ (s[k].toNat : Int) := by omega
      have HT : Hid ((nums s)[k]? = some (s[k].toNat : Int)) := nums_at s k hlt
      obtain ⟨c, hc⟩ : ∃ c : Int, ((s[k]'hlt).toNat : Int) = c := ⟨_, rfl⟩
      rw [hc] at HT hc1 hc0
      by_cases q0 : c = 92
      · subst q0
        have HE : Hid (escZ ((nums s).take (k + 1)) = escZ ((nums s).take k) ++ [92, 92]) := by unfold Hid; rw [escZ_take _ k _ HT.out]; first | rfl | (congr 1; unfold escC; simp_all)
        go_wp2_with (at_builtin; refine wpList_append_own _ rfl (.tmp 23) (.tmp 25) 22 rfl w.heap.size 5 j0 _ 1 1 Tryd.underlying22 hi hz0 hz1 hz2 rfl (by decide) u3 _ _ rfl (own_keep HO.out (keep _ _)) ⟨wr.heap.size, 0, none⟩ 2 2 [.int .u8 92, .int .u8 92] rfl rfl ?a0 ?a4 ?a1 ?a2 ?a3 ?_)
        case a0 => exact cells_new wr [.int .u8 92, .int .u8 92] 5
        case a4 => exact ints_one [92, 92]
        case a1 => unfold maxLen; omega
        case a2 => omega
        case a3 => simp; omega
        intro v' w2 hown2 hgrow2 _
        have HO2 : Hid (Own w2 w.heap.size v' (escZ ((nums s).take (k + 1)))) := by
          have := own_snoc (m := [92, 92]) hown2
          unfold Hid; rw [HE.out]; exact this
        have HB2 : Hid (Below w.heap.size w w2) := (HB.out.alloc HB.out.size _).grown hgrow2 (HB.out.alloc HB.out.size _).size (fun j hj => (HO.out.lt j hj).1)
        clear hown2 hgrow2
        go_wp2
        go_roundw
        case rel => exact ⟨k + 1, by go_num, by omega, HO2.out, HB2.out⟩
        case measure => simp [intOf]; omega
      · have d0 : (c == 92) = false := by rw [beq_eq_false_iff_ne]; exact q0
        by_cases q1 : c = 59
        · subst q1
          have HE : Hid (escZ ((nums s).take (k + 1)) = escZ ((nums s).take k) ++ [92, 59]) := by unfold Hid; rw [escZ_take _ k _ HT.out]; first | rfl | (congr 1; unfold escC; simp_all)
          go_wp2_with (at_builtin; refine wpList_append_own _ rfl (.tmp 23) (.tmp 25) 22 rfl w.heap.size 5 j0 _ 1 1 Tryd.underlying22 hi hz0 hz1 hz2 rfl (by decide) u3 _ _ rfl (own_keep HO.out (keep _ _)) ⟨wr.heap.size, 0, none⟩ 2 2 [.int .u8 92, .int .u8 59] rfl rfl ?a0 ?a4 ?a1 ?a2 ?a3 ?_)
          case a0 => exact cells_new wr [.int .u8 92, .int .u8 59] 5
          case a4 => exact ints_one [92, 59]
          case a1 => unfold maxLen; omega
          case a2 => omega
          case a3 => simp; omega
          intro v' w2 hown2 hgrow2 _
          have HO2 : Hid (Own w2 w.heap.size v' (escZ ((nums s).take (k + 1)))) := by
            have := own_snoc (m := [92, 59]) hown2
            unfold Hid; rw [HE.out]; exact this
          have HB2 : Hid (Below w.heap.size w w2) := (HB.out.alloc HB.out.size _).grown hgrow2 (HB.out.alloc HB.out.size _).size (fun j hj => (HO.out.lt j hj).1)
          clear hown2 hgrow2
          go_wp2
          go_roundw
          case rel => exact ⟨k + 1, by go_num, by omega, HO2.out, HB2.out⟩
          case measure => simp [intOf]; omega
        · have d1 : (c == 59) = false := by rw [beq_eq_false_iff_ne]; exact q1
          by_cases q2 : c = 44
          · subst q2
            have HE : Hid (escZ ((nums s).take (k + 1)) = escZ ((nums s).take k) ++ [92, 44]) := by unfold Hid; rw [escZ_take _ k _ HT.out]; first | rfl | (congr 1; unfold escC; simp_all)
            go_wp2_with (at_builtin; refine wpList_append_own _ rfl (.tmp 23) (.tmp 25) 22 rfl w.heap.size 5 j0 _ 1 1 Tryd.underlying22 hi hz0 hz1 hz2 rfl (by decide) u3 _ _ rfl (own_keep HO.out (keep _ _)) ⟨wr.heap.size, 0, none⟩ 2 2 [.int .u8 92, .int .u8 44] rfl rfl ?a0 ?a4 ?a1 ?a2 ?a3 ?_)
            case a0 => exact cells_new wr [.int .u8 92, .int .u8 44] 5
            case a4 => exact ints_one [92, 44]
            case a1 => unfold maxLen; omega
            case a2 => omega
            case a3 => simp; omega
            intro v' w2 hown2 hgrow2 _
            have HO2 : Hid (Own w2 w.heap.size v' (escZ ((nums s).take (k + 1)))) := by
              have := own_snoc (m := [92, 44]) hown2
              unfold Hid; rw [HE.out]; exact this
            have HB2 : Hid (Below w.heap.size w w2) := (HB.out.alloc HB.out.size _).grown hgrow2 (HB.out.alloc HB.out.size _).size (fun j hj => (HO.out.lt j hj).1)
            clear hown2 hgrow2
            go_wp2
            go_roundw
            case rel => exact ⟨k + 1, by go_num, by omega, HO2.out, HB2.out⟩
            case measure => simp [intOf]; omega
          · have d2 : (c == 44) = false := by rw [beq_eq_false_iff_ne]; exact q2
            by_cases q3 : c = 10
            · subst q3
              have HE : Hid (escZ ((nums s).take (k + 1)) = escZ ((nums s).take k) ++ [92, 110]) := by unfold Hid; rw [escZ_take _ k _ HT.out]; first | rfl | (congr 1; unfold escC; simp_all)
              go_wp2_with (at_builtin; refine wpList_append_own _ rfl (.tmp 29) (.tmp 30) 22 rfl w.heap.size 5 j0 _ 1 1 Tryd.underlying22 hi hz0 hz1 hz2 rfl (by decide) u3 _ _ rfl (own_keep HO.out (keep _ _)) ⟨wr.heap.size, 0, none⟩ 2 2 [.int .u8 92, .int .u8 110] rfl rfl ?a0 ?a4 ?a1 ?a2 ?a3 ?_)
              case a0 => exact cells_new wr [.int .u8 92, .int .u8 110] 5
              case a4 => exact ints_one [92, 110]
              case a1 => unfold maxLen; omega
              case a2 => omega
              case a3 => simp; omega
              intro v' w2 hown2 hgrow2 _
              have HO2 : Hid (Own w2 w.heap.size v' (escZ ((nums s).take (k + 1)))) := by
                have := own_snoc (m := [92, 110]) hown2
                unfold Hid; rw [HE.out]; exact this
              have HB2 : Hid (Below w.heap.size w w2) := (HB.out.alloc HB.out.size _).grown hgrow2 (HB.out.alloc HB.out.size _).size (fun j hj => (HO.out.lt j hj).1)
              clear hown2 hgrow2
              go_wp2
              go_roundw
              case rel => exact ⟨k + 1, by go_num, by omega, HO2.out, HB2.out⟩
              case measure => simp [intOf]; omega
            · have d3 : (c == 10) = false := by rw [beq_eq_false_iff_ne]; exact q3
              have HE : Hid (escZ ((nums s).take (k + 1)) = escZ ((nums s).take k) ++ [c]) := by unfold Hid; rw [escZ_take _ k _ HT.out]; first | rfl | (congr 1; unfold escC; simp_all)
              go_wp2_with (at_builtin; refine wpList_append_own _ rfl (.tmp 15) (.tmp 17) 22 rfl w.heap.size 5 j0 _ 1 1 Tryd.underlying22 hi hz0 hz1 hz2 rfl (by decide) u3 _ _ rfl (own_keep HO.out (keep _ _)) ⟨wr.heap.size, 0, none⟩ 1 1 [.int .u8 c] rfl rfl ?a0 ?a4 ?a1 ?a2 ?a3 ?_)
              case a0 => exact cells_new wr [.int .u8 c] 5
              case a4 => exact ints_one [c]
              case a1 => unfold maxLen; omega
              case a2 => omega
              case a3 => simp; omega
              intro v' w2 hown2 hgrow2 _
              have HO2 : Hid (Own w2 w.heap.size v' (escZ ((nums s).take (k + 1)))) := by
                have := own_snoc (m := [c]) hown2
                unfold Hid; rw [HE.out]; exact this
              have HB2 : Hid (Below w.heap.size w w2) := (HB.out.alloc HB.out.size _).grown hgrow2 (HB.out.alloc HB.out.size _).size (fun j hj => (HO.out.lt j hj).1)
              clear hown2 hgrow2
              go_wp2
              go_roundw
              case rel => exact ⟨k + 1, by go_num, by omega, HO2.out, HB2.out⟩
              case measure => simp [intOf]; omega
    · obtain rfl : k = s.size := by omega
      have hr : Own wr w.heap.size u3 (escZ (nums s)) := by
        have := HO.out
        rwa [List.take_of_length_le (by rw [nums_len]; exact Nat.le_refl _)] at this
      obtain ⟨a, cap, rfl, _, _, hrow, _⟩ := row_of_own hr
      have kc2 := conv_row _ cap rfl hrow
      clear hr hrow
      go_wp2
      go_ret
      exact ⟨rfl, HB.out⟩
end Go.Proofs.YtjcjhcpaojhcfaaDoor
