/-
  A value as a text: the contracts of escaped and Unescape.
-/
import Derived.Test.YtjcjhcpaojhcfaaEs
import Derived.ScopeJumps
import Derived.Scope
namespace Go.Proofs.Ytjcjhcpaojhcfaa
open Go.RowKit
set_option linter.unusedVariables false

/-- What a byte behind a backslash stands for. -/
def escD (d : Int) : Option Int := if d = 92 ∨ d = 59 ∨ d = 44 then some d else if d = 110 ∨ d = 78 then some 10 else none
/-- The text that a value says. -/
def unescZ : List Int → Option (List Int)
  | [] => some []
  | [c] => if c = 59 ∨ c = 44 ∨ c = 10 ∨ c = 92 then none else some [c]
  | c :: d :: r =>
    if c = 59 ∨ c = 44 ∨ c = 10 then none
    else if c = 92 then (match escD d with | none => none | some x => (unescZ r).map (x :: ·))
    else (unescZ (d :: r)).map (c :: ·)
theorem unesc_bad {c : Int} (r : List Int) (h : c = 59 ∨ c = 44 ∨ c = 10) : unescZ (c :: r) = none := by
  cases r with
  | nil => unfold unescZ; rw [if_pos (by rcases h with h | h | h <;> simp [h])]
  | cons d r => unfold unescZ; rw [if_pos h]
theorem unesc_end : unescZ [92] = none := by unfold unescZ; rw [if_pos (by simp)]
theorem unesc_esc (d : Int) (r : List Int) : unescZ (92 :: d :: r) = match escD d with | none => none | some x => (unescZ r).map (x :: ·) := by
  rw [unescZ, if_neg (by omega), if_pos rfl]
theorem unesc_plain {c : Int} (r : List Int) (h : ¬ (c = 59 ∨ c = 44 ∨ c = 10 ∨ c = 92)) : unescZ (c :: r) = (unescZ r).map (c :: ·) := by
  cases r with
  | nil => unfold unescZ; rw [if_neg h]; rfl
  | cons d r =>
    rw [unescZ, if_neg (fun q => h (by rcases q with q | q | q <;> simp [q])), if_neg (fun q => h (by simp [q]))]
theorem escD_byt {d x : Int} (h : 0 ≤ d ∧ d < 256) (he : escD d = some x) : 0 ≤ x ∧ x < 256 := by
  unfold escD at he
  split at he
  · simp at he; omega
  · split at he
    · simp at he; omega
    · cases he
theorem escD_iff (d : Int) : (escD d = some d ∧ (d = 92 ∨ d = 59 ∨ d = 44)) ∨ (escD d = some 10 ∧ (d = 110 ∨ d = 78)) ∨ (escD d = none ∧ d ≠ 92 ∧ d ≠ 59 ∧ d ≠ 44 ∧ d ≠ 110 ∧ d ≠ 78) := by
  unfold escD
  by_cases h : d = 92 ∨ d = 59 ∨ d = 44
  · exact .inl ⟨by rw [if_pos h], h⟩
  · rw [if_neg h]
    by_cases h2 : d = 110 ∨ d = 78
    · exact .inr (.inl ⟨by rw [if_pos h2], h2⟩)
    · rw [if_neg h2]; exact .inr (.inr ⟨rfl, by omega⟩)
set_option maxHeartbeats 1000000 in
theorem escaped_any (d : Int) (w : World) : Calls Try.prog 29 #[.int .u8 d] w fun e w' => ∃ x b, e = .returned (.tuple #[.int .u8 x, .bool b]) ∧ ((b = true ∧ escD d = some x) ∨ (b = false ∧ escD d = none)) ∧ w = w' := by
  rcases escD_iff d with ⟨he, h⟩ | ⟨he, h⟩ | ⟨he, h1, h2, h3, h4, h5⟩
  · have HE : Hid (escD d = some d) := he
    clear he
    rcases h with rfl | rfl | rfl
    all_goals
      go_enter Try.func29, Try.ntmps29
      go_wp2
      go_ret2
      exact ⟨_, true, rfl, .inl ⟨rfl, HE.out⟩, rfl⟩
  · have HE : Hid (escD d = some 10) := he
    clear he
    rcases h with rfl | rfl
    all_goals
      go_enter Try.func29, Try.ntmps29
      go_wp2
      go_ret2
      exact ⟨_, true, rfl, .inl ⟨rfl, HE.out⟩, rfl⟩
  · have HE : Hid (escD d = none) := he
    have d1 : (d == 92) = false := by rw [beq_eq_false_iff_ne]; exact h1
    have d2 : (d == 59) = false := by rw [beq_eq_false_iff_ne]; exact h2
    have d3 : (d == 44) = false := by rw [beq_eq_false_iff_ne]; exact h3
    have d4 : (d == 110) = false := by rw [beq_eq_false_iff_ne]; exact h4
    have d5 : (d == 78) = false := by rw [beq_eq_false_iff_ne]; exact h5
    clear he
    go_enter Try.func29, Try.ntmps29
    go_wp2
    go_ret2
    exact ⟨_, false, rfl, .inr ⟨rfl, HE.out⟩, rfl⟩
/-- What Unescape answers. -/
def UPost (w : World) (l : List Int) (e : Ending) (w' : World) : Prop :=
  ((∃ y, unescZ l = some y ∧ Byt y ∧ e = .returned (.tuple #[.string (strOfNums y), .int .i64 0])) ∨ (unescZ l = none ∧ e = .returned (.tuple #[.string ⟨#[]⟩, .int .i64 90]))) ∧ Below w.heap.size w w'
/-- The frame at the fault. -/
def Fu (w : World) (s : ByteArray) (a : Act) (W : World) : Prop :=
  (∃ u1 u2 u3 u4 u5 u6 u7 u8 u9 u10 u11 u12 u13 u14 u15 u16 u17 u18 u19 u20 u21 u22 u23 u24 u25 u26 u27 u28 u29 u30 u31 u32 u33 u34 u35 u36 u37 u38 u39 u40 u41 u42 u43 u44 u45 u46 : Value, a = { tmps := #[.string s, u1, u2, u3, u4, u5, u6, u7, u8, u9, u10, u11, u12, u13, u14, u15, u16, u17, u18, u19, u20, u21, u22, u23, u24, u25, u26, u27, u28, u29, u30, u31, u32, u33, u34, u35, u36, u37, u38, u39, u40, u41, u42, u43, u44, u45, u46], defers := [] }) ∧ Below w.heap.size w W ∧ unescZ (nums s) = none
theorem jump_ret {l : Nat} {J : Act → World → Prop} {Q : Exit → Act → World → Prop} {a : Act} {w : World} : Exit.jump l J Q .ret a w = Q .ret a w := rfl
set_option maxHeartbeats 8000000 in
set_option maxRecDepth 100000 in
theorem unescape_any (s : ByteArray) (w : World) (hs : s.size ≤ 1000000000) : Calls Try.prog 12 #[.string s] w (UPost w (nums s)) := by
  obtain ⟨j0, hi, hz0, hz1, hz2⟩ := info_parts Try.info5
  go_enter Try.func12, Try.ntmps12
  go_wp2
  refine wp_scope_jumps 0 (Fu w s) (fun _ _ => 0) rfl ?_ ?_
  · go_wp2
    go_loopw [5, 4, 6, 7, 8] (fun i v _ _ _ wr => ∃ (k : Nat) (pre : List Int), i = .int .i64 k ∧ k ≤ s.size ∧ Own wr w.heap.size v pre ∧ Byt pre ∧ pre.length ≤ k ∧ unescZ (nums s) = (unescZ ((nums s).drop k)).map (pre ++ ·) ∧ Below w.heap.size w wr) (fun i _ _ _ _ _ => s.size - (intOf i).toNat)
    case atStart => exact ⟨0, [], rfl, by omega, ⟨rfl, .inl ⟨rfl, rfl⟩⟩, (by first | trivial | (intro x hx; cases hx)), (by simp), (by simp), Below.refl _ _⟩
    case round =>
      obtain ⟨k, pre, rfl, hk, hown, hbp, hpl, hun, hb⟩ := hrel
      have HO : Hid (Own wr w.heap.size u4 pre) := hown
      have HB : Hid (Below w.heap.size w wr) := hb
      have HP : Hid (Byt pre) := hbp
      have HU : Hid (unescZ (nums s) = (unescZ ((nums s).drop k)).map (pre ++ ·)) := hun
      have hsz := hb.size
      clear hown hb hbp hun
      by_cases hlt : k < s.size
      · have hc1 : (s[k].toNat : Int) < 256 := by have := s[k].toNat_lt; omega
        have hc0 : (0 : Int) ≤ (s[k].toNat : Int) := by omega
        have HT : Hid ((nums s).drop k = (s[k].toNat : Int) :: (nums s).drop (k + 1)) := nums_drop s k hlt
        obtain ⟨c, hc⟩ : ∃ c : Int, ((s[k]'hlt).toNat : Int) = c := ⟨_, rfl⟩
        rw [hc] at HT hc1 hc0
        by_cases hbad : c = 59 ∨ c = 44 ∨ c = 10
        · have HN : Hid (unescZ (nums s) = none) := by unfold Hid; rw [HU.out, HT.out, unesc_bad _ hbad]; rfl
          rcases hbad with rfl | rfl | rfl
          all_goals
            go_wp2
            go_step3
            exact ⟨rfl, ⟨_, _, _, _, _, _, _, _, _, _, _, _, _, _, _, _, _, _, _, _, _, _, _, _, _, _, _, _, _, _, _, _, _, _, _, _, _, _, _, _, _, _, _, _, _, _, rfl⟩, HB.out, HN.out⟩
        · have b1 : (c == 59) = false := by rw [beq_eq_false_iff_ne]; omega
          have b2 : (c == 44) = false := by rw [beq_eq_false_iff_ne]; omega
          have b3 : (c == 10) = false := by rw [beq_eq_false_iff_ne]; omega
          by_cases h92 : c = 92
          · subst h92
            by_cases hend : k + 1 = s.size
            · have HN : Hid (unescZ (nums s) = none) := by
                unfold Hid; rw [HU.out, HT.out, List.drop_of_length_le (by rw [nums_len]; omega), unesc_end]; rfl
              have he : (((k : Int) + 1) == (s.size : Int)) = true := by rw [beq_iff_eq]; omega
              go_wp2
              go_step3
              exact ⟨rfl, ⟨_, _, _, _, _, _, _, _, _, _, _, _, _, _, _, _, _, _, _, _, _, _, _, _, _, _, _, _, _, _, _, _, _, _, _, _, _, _, _, _, _, _, _, _, _, _, rfl⟩, HB.out, HN.out⟩
            · have hlt2 : k + 1 < s.size := by omega
              have he : (((k : Int) + 1) == (s.size : Int)) = false := by rw [beq_eq_false_iff_ne]; omega
              have hk1 : (k : Int) + 1 < (s.size : Int) := by omega
              have hk2 : (0 : Int) ≤ (k : Int) + 1 := by omega
              have hk3 : ((k : Int) + 1).toNat = k + 1 := by omega
              have hd1 : ((s[k + 1]'hlt2).toNat : Int) < 256 := by have := (s[k + 1]'hlt2).toNat_lt; omega
              have hd0 : (0 : Int) ≤ ((s[k + 1]'hlt2).toNat : Int) := by omega
              have HT2 : Hid ((nums s).drop (k + 1) = ((s[k + 1]'hlt2).toNat : Int) :: (nums s).drop (k + 1 + 1)) := nums_drop s (k + 1) hlt2
              obtain ⟨d, hd⟩ : ∃ d : Int, ((s[k + 1]'hlt2).toNat : Int) = d := ⟨_, rfl⟩
              rw [hd] at HT2 hd1 hd0
              have HU2 : Hid (unescZ (nums s) = (match escD d with | none => none | some x => (unescZ ((nums s).drop (k + 1 + 1))).map (x :: ·)).map (pre ++ ·)) := by
                unfold Hid; rw [HU.out, HT.out, HT2.out, unesc_esc]
              go_wp2_with fail
              refine (escaped_any d _).mono ?_
              rintro e w1 ⟨x, b, rfl, hx, rfl⟩
              rcases hx with ⟨rfl, hx⟩ | ⟨rfl, hx⟩
              · have HX : Hid (0 ≤ x ∧ x < 256) := escD_byt ⟨hd0, hd1⟩ hx
                have HU3 : Hid (unescZ (nums s) = (unescZ ((nums s).drop (k + 1 + 1))).map ((pre ++ [x]) ++ ·)) := by
                  unfold Hid; rw [HU2.out, hx]
                  cases unescZ ((nums s).drop (k + 1 + 1)) <;> simp
                clear hx
                go_wp2_with (at_builtin; refine wpList_append_own _ rfl (.tmp 41) (.tmp 43) 25 rfl w.heap.size 5 j0 _ 1 1 Try.underlying25 hi hz0 hz1 hz2 rfl (by decide) u4 _ _ rfl (own_keep HO.out (keep _ _)) ⟨wr.heap.size, 0, none⟩ 1 1 [.int .u8 x] rfl rfl ?a0 ?a4 ?a1 ?a2 ?a3 ?_)
                case a0 => exact cells_new wr [.int .u8 x] 5
                case a4 => exact ints_one [x]
                case a1 => unfold maxLen; omega
                case a2 => omega
                case a3 => simp; omega
                intro v' w2 hown2 hgrow2 _
                have HO2 : Hid (Own w2 w.heap.size v' (pre ++ [x])) := own_snoc (m := [x]) hown2
                have HB2 : Hid (Below w.heap.size w w2) := (HB.out.alloc HB.out.size _).grown hgrow2 (HB.out.alloc HB.out.size _).size (fun j hj => (HO.out.lt j hj).1)
                clear hown2 hgrow2
                go_wp2
                go_roundw
                case rel => exact ⟨k + 1 + 1, pre ++ [x], by go_num, by omega, HO2.out, HP.out.append (by intro y hy; simp at hy; subst hy; exact HX.out), by simp; omega, HU3.out, HB2.out⟩
                case measure => simp [intOf]; omega
              · have HN : Hid (unescZ (nums s) = none) := by unfold Hid; rw [HU2.out, hx]; rfl
                go_wp2
                go_step3
                exact ⟨rfl, ⟨_, _, _, _, _, _, _, _, _, _, _, _, _, _, _, _, _, _, _, _, _, _, _, _, _, _, _, _, _, _, _, _, _, _, _, _, _, _, _, _, _, _, _, _, _, _, rfl⟩, HB.out, HN.out⟩
          · have b4 : (c == 92) = false := by rw [beq_eq_false_iff_ne]; exact h92
            have HU3 : Hid (unescZ (nums s) = (unescZ ((nums s).drop (k + 1))).map ((pre ++ [c]) ++ ·)) := by
              unfold Hid; rw [HU.out, HT.out, unesc_plain _ (by omega)]
              cases unescZ ((nums s).drop (k + 1)) <;> simp
            go_wp2_with (at_builtin; refine wpList_append_own _ rfl (.tmp 41) (.tmp 43) 25 rfl w.heap.size 5 j0 _ 1 1 Try.underlying25 hi hz0 hz1 hz2 rfl (by decide) u4 _ _ rfl (own_keep HO.out (keep _ _)) ⟨wr.heap.size, 0, none⟩ 1 1 [.int .u8 c] rfl rfl ?a0 ?a4 ?a1 ?a2 ?a3 ?_)
            case a0 => exact cells_new wr [.int .u8 c] 5
            case a4 => exact ints_one [c]
            case a1 => unfold maxLen; omega
            case a2 => omega
            case a3 => simp; omega
            intro v' w2 hown2 hgrow2 _
            have HO2 : Hid (Own w2 w.heap.size v' (pre ++ [c])) := own_snoc (m := [c]) hown2
            have HB2 : Hid (Below w.heap.size w w2) := (HB.out.alloc HB.out.size _).grown hgrow2 (HB.out.alloc HB.out.size _).size (fun j hj => (HO.out.lt j hj).1)
            clear hown2 hgrow2
            go_wp2
            go_roundw
            case rel => exact ⟨k + 1, pre ++ [c], by go_num, by omega, HO2.out, HP.out.append (by intro y hy; simp at hy; subst hy; exact ⟨hc0, hc1⟩), by simp; omega, HU3.out, HB2.out⟩
            case measure => simp [intOf]; omega
      · obtain rfl : k = s.size := by omega
        have HY : Hid (unescZ (nums s) = some pre) := by
          unfold Hid; rw [HU.out, List.drop_of_length_le (by rw [nums_len]; exact Nat.le_refl _)]; simp [unescZ]
        obtain ⟨a, cap, rfl, _, _, hrow, _⟩ := row_of_own HO.out
        have kc2 := conv_row _ cap rfl hrow
        clear hrow
        go_wp2
        rw [jump_ret]
        go_ret2
        exact ⟨.inl ⟨pre, HY.out, HP.out, rfl⟩, HB.out⟩
  · rintro a W ⟨⟨u1, u2, u3, u4, u5, u6, u7, u8, u9, u10, u11, u12, u13, u14, u15, u16, u17, u18, u19, u20, u21, u22, u23, u24, u25, u26, u27, u28, u29, u30, u31, u32, u33, u34, u35, u36, u37, u38, u39, u40, u41, u42, u43, u44, u45, u46, rfl⟩, hbel, hno⟩
    have HBL : Hid (Below w.heap.size w W) := hbel
    have HNO : Hid (unescZ (nums s) = none) := hno
    clear hbel hno
    go_wp2
    rw [jump_ret]
    go_ret2
    exact ⟨.inr ⟨HNO.out, rfl⟩, HBL.out⟩
end Go.Proofs.Ytjcjhcpaojhcfaa
