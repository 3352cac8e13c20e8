/-
  The document's answers: Has, Escape, Unescape.
-/
import Derived.Test.YtjcjhcpaojhcfaaUn
namespace Go.Proofs.Ytjcjhcpaojhcfaa
open Go.RowKit
set_option linter.unusedVariables false

def hasZ (t : List Int) : List Int → Bool
  | [] => decide (t = [])
  | c :: r => decide ((c :: r).take t.length = t) || hasZ t r
theorem has_short {t : List Int} : ∀ {l : List Int}, l.length < t.length → hasZ t l = false
  | [], h => by
    rw [hasZ, decide_eq_false]
    rintro rfl; simp at h
  | c :: r, h => by
    rw [hasZ, has_short (l := r) (by simp at h; omega), Bool.or_false, decide_eq_false]
    intro e
    have := congrArg List.length e
    rw [List.length_take] at this
    omega
theorem has_one (a : Int) : ∀ l : List Int, hasZ [a] l = decide (a ∈ l)
  | [] => by simp [hasZ]
  | c :: r => by
    rw [hasZ, has_one a r]
    simp only [List.length_cons, List.length_nil, Nat.zero_add, List.take_succ_cons, List.take_zero, List.cons.injEq, and_true, List.mem_cons]
    rw [Bool.eq_iff_iff]
    simp only [Bool.or_eq_true, decide_eq_true_eq]
    constructor
    · rintro (h | h)
      · exact .inl h.symm
      · exact .inr h
    · rintro (h | h)
      · exact .inl h.symm
      · exact .inr h
set_option maxHeartbeats 2000000 in
set_option maxRecDepth 100000 in
theorem has_any (s t : ByteArray) (w : World) (hs : s.size ≤ 1000000000) (h1 : 1 ≤ t.size) (h2 : t.size ≤ 10) :
    Calls Try.prog 28 #[.string s, .string t] w fun e w' => e = .returned (.bool (hasZ (nums t) (nums s))) ∧ w = w' := by
  go_enter Try.func28, Try.ntmps28
  go_wp2
  go_loopw [5] (fun i wr => ∃ k : Nat, i = .int .i64 k ∧ k ≤ s.size ∧ hasZ (nums t) ((nums s).drop k) = hasZ (nums t) (nums s) ∧ w = wr) (fun i _ => s.size - (intOf i).toNat)
  case atStart => exact ⟨0, rfl, by omega, by rw [List.drop_zero], rfl⟩
  case round =>
    obtain ⟨k, rfl, hk, hh, rfl⟩ := hrel
    have HH : Hid (hasZ (nums t) ((nums s).drop k) = hasZ (nums t) (nums s)) := hh
    clear hh
    by_cases hlt : k + t.size ≤ s.size
    · have hl1 : decide ((k : Int) + (t.size : Int) ≤ (s.size : Int)) = true := decide_eq_true (by omega)
      have k0 : (0 : Int) ≤ (k : Int) := by omega
      have k1 : (k : Int) ≤ (k : Int) + (t.size : Int) := by omega
      have k2 : (k : Int) + (t.size : Int) ≤ (s.size : Int) := by omega
      have k3 : ((k : Int) + (t.size : Int)).toNat = k + t.size := by omega
      have hen := eq_nums (s.extract k (k + t.size)) t
      rw [nums_extract, show k + t.size - k = t.size by omega] at hen
      have hd := nums_drop s k (by omega)
      have hlen := nums_len t
      by_cases hq : ((nums s).drop k).take t.size = nums t
      · have HT : Hid (hasZ (nums t) (nums s) = true) := by
          unfold Hid; rw [← HH.out, hd, hasZ, ← hd, hlen, decide_eq_true hq, Bool.true_or]
        rw [decide_eq_true hq] at hen
        have hen2 : (s.extract k (k + t.size)).toList = t.toList := by simpa using hen
        clear hd hq hlen
        go_wp2
        go_ret
        exact ⟨ret_bool HT.out.symm, by first | trivial | rfl⟩
      · have HT : Hid (hasZ (nums t) ((nums s).drop (k + 1)) = hasZ (nums t) (nums s)) := by
          unfold Hid; rw [← HH.out]
          conv => rhs; rw [hd, hasZ, ← hd, hlen, decide_eq_false hq, Bool.false_or]
        rw [decide_eq_false hq] at hen
        have hen2 : ¬ (s.extract k (k + t.size)).toList = t.toList := by simpa using hen
        clear hd hq hlen
        go_wp2
        go_roundw
        case rel => exact ⟨k + 1, by go_num, by omega, HT.out, by first | trivial | rfl⟩
        case measure => simp [intOf]; omega
    · have hl1 : decide ((k : Int) + (t.size : Int) ≤ (s.size : Int)) = false := decide_eq_false (by omega)
      have HT : Hid (hasZ (nums t) (nums s) = false) := by
        unfold Hid; rw [← HH.out, has_short (by rw [List.length_drop, nums_len, nums_len]; omega)]
      go_wp2
      go_ret
      exact ⟨ret_bool HT.out.symm, by first | trivial | rfl⟩
set_option maxHeartbeats 8000000 in
set_option maxRecDepth 100000 in
theorem rescape_any (s : ByteArray) (w : World) (hs : s.size ≤ 1000000000) : Calls Try.prog 15 #[.string s] w fun e w' => e = .returned (.string (strOfNums (escZ (nums s)))) ∧ Below w.heap.size w w' := by
  obtain ⟨j0, hi, hz0, hz1, hz2⟩ := info_parts Try.info5
  go_enter Try.func15, Try.ntmps15
  go_wp2
  go_loopw [4, 3] (fun i v wr => ∃ k : Nat, i = .int .i64 k ∧ k ≤ s.size ∧ Own wr w.heap.size v (escZ ((nums s).take k)) ∧ Below w.heap.size w wr) (fun i _ _ => s.size - (intOf i).toNat)
  case atStart => exact ⟨0, rfl, by omega, ⟨rfl, .inl ⟨rfl, rfl⟩⟩, Below.refl _ _⟩
  case round =>
    obtain ⟨k, rfl, hk, hown, hb⟩ := hrel
    have HO : Hid (Own wr w.heap.size u3 (escZ ((nums s).take k))) := hown
    have HB : Hid (Below w.heap.size w wr) := hb
    have hle : (escZ ((nums s).take k)).length ≤ 2 * k := by have := escZ_len ((nums s).take k); rw [List.length_take] at this; omega
    have hsz := hb.size
    clear hown hb
    by_cases hlt : k < s.size
    · have hc1 : (s[k].toNat : Int) < 256 := by have := s[k].toNat_lt; omega
      have hc0 : (0 : Int) ≤ (s[k].toNat : Int) := by omega
      have HT : Hid ((nums s)[k]? = some (s[k].toNat : Int)) := nums_at s k hlt
      obtain ⟨c, hc⟩ : ∃ c : Int, ((s[k]'hlt).toNat : Int) = c := ⟨_, rfl⟩
      rw [hc] at HT hc1 hc0
      by_cases q3 : c = 10
      · subst q3
        have HE : Hid (escZ ((nums s).take (k + 1)) = escZ ((nums s).take k) ++ [92, 110]) := by unfold Hid; rw [escZ_take _ k _ HT.out]; first | rfl | (congr 1; unfold escC; simp_all)
        go_wp2_with (at_builtin; refine wpList_append_own _ rfl (.tmp 15) (.tmp 16) 25 rfl w.heap.size 5 j0 _ 1 1 Try.underlying25 hi hz0 hz1 hz2 rfl (by decide) u3 _ _ rfl (own_keep HO.out (keep _ _)) ⟨wr.heap.size, 0, none⟩ 2 2 [.int .u8 92, .int .u8 110] rfl rfl ?a0 ?a4 ?a1 ?a2 ?a3 ?_)
        case a0 => exact cells_new wr [.int .u8 92, .int .u8 110] 5
        case a4 => exact ints_one [92, 110]
        case a1 => unfold maxLen; omega
        case a2 => omega
        case a3 => simp; omega
        intro v' w2 hown2 hgrow2 _
        have HO2 : Hid (Own w2 w.heap.size v' (escZ ((nums s).take (k + 1)))) := by
          have := own_snoc (m := [92, 110]) hown2
          unfold Hid; rw [HE.out]; exact this
        have HB2 : Hid (Below w.heap.size w w2) := (HB.out.alloc HB.out.size _).grown hgrow2 (HB.out.alloc HB.out.size _).size (fun j hj => (HO.out.lt j hj).1)
        clear hown2 hgrow2
        go_wp2
        go_roundw
        case rel => exact ⟨k + 1, by go_num, by omega, HO2.out, HB2.out⟩
        case measure => simp [intOf]; omega
      · have d3 : (c == 10) = false := by rw [beq_eq_false_iff_ne]; exact q3
        by_cases hq : c = 92 ∨ c = 59 ∨ c = 44
        · have HE : Hid (escZ ((nums s).take (k + 1)) = escZ ((nums s).take k) ++ [92] ++ [c]) := by
            unfold Hid; rw [escZ_take _ k _ HT.out]; unfold escC; rw [if_pos hq]; simp
          have hd : (c == 92) = true ∨ ((c == 92) = false ∧ (c == 59) = true) ∨ ((c == 92) = false ∧ (c == 59) = false ∧ (c == 44) = true) := by
            rcases hq with rfl | rfl | rfl <;> decide
          clear hq
          rcases hd with e1 | ⟨e1, e2⟩ | ⟨e1, e2, e3⟩
          · go_wp2_with (at_builtin; refine wpList_append_own _ rfl (.tmp 34) (.tmp 35) 25 rfl w.heap.size 5 j0 _ 1 1 Try.underlying25 hi hz0 hz1 hz2 rfl (by decide) u3 _ _ rfl (own_keep HO.out (keep _ _)) ⟨wr.heap.size, 0, none⟩ 1 1 [.int .u8 92] rfl rfl ?a0 ?a4 ?a1 ?a2 ?a3 ?_)
            case a0 => exact cells_new wr [.int .u8 92] 5
            case a4 => exact ints_one [92]
            case a1 => unfold maxLen; omega
            case a2 => omega
            case a3 => simp; omega
            intro v1 w1 hown1 hgrow1 _
            have HO1 : Hid (Own w1 w.heap.size v1 (escZ ((nums s).take k) ++ [92])) := own_snoc (m := [92]) hown1
            have HB1 : Hid (Below w.heap.size w w1) := (HB.out.alloc HB.out.size _).grown hgrow1 (HB.out.alloc HB.out.size _).size (fun j hj => (HO.out.lt j hj).1)
            have hs1 := HB1.out.size
            have hl1 : (escZ ((nums s).take k) ++ [92]).length ≤ 2 * k + 1 := by simp; omega
            clear hown1 hgrow1
            generalize escZ ((nums s).take k) ++ [92] = pre1 at HO1 HE hl1
            go_wp2_with (at_builtin; refine wpList_append_own _ rfl (.tmp 37) (.tmp 41) 25 rfl w.heap.size 5 j0 _ 1 1 Try.underlying25 hi hz0 hz1 hz2 rfl (by decide) v1 _ _ rfl (own_keep HO1.out (keep _ _)) ⟨w1.heap.size, 0, none⟩ 1 1 [.int .u8 c] rfl rfl ?a0 ?a4 ?a1 ?a2 ?a3 ?_)
            case a0 => exact cells_new w1 [.int .u8 c] 5
            case a4 => exact ints_one [c]
            case a1 => unfold maxLen; omega
            case a2 => omega
            case a3 => simp; omega
            intro v' w2 hown2 hgrow2 _
            have HO2 : Hid (Own w2 w.heap.size v' (escZ ((nums s).take (k + 1)))) := by
              have := own_snoc (m := [c]) hown2
              unfold Hid; rw [HE.out]; exact this
            have HB2 : Hid (Below w.heap.size w w2) := (HB1.out.alloc HB1.out.size _).grown hgrow2 (HB1.out.alloc HB1.out.size _).size (fun j hj => (HO1.out.lt j hj).1)
            clear hown2 hgrow2
            go_wp2
            go_roundw
            case rel => exact ⟨k + 1, by go_num, by omega, HO2.out, HB2.out⟩
            case measure => simp [intOf]; omega
          · go_wp2_with (at_builtin; refine wpList_append_own _ rfl (.tmp 34) (.tmp 35) 25 rfl w.heap.size 5 j0 _ 1 1 Try.underlying25 hi hz0 hz1 hz2 rfl (by decide) u3 _ _ rfl (own_keep HO.out (keep _ _)) ⟨wr.heap.size, 0, none⟩ 1 1 [.int .u8 92] rfl rfl ?a0 ?a4 ?a1 ?a2 ?a3 ?_)
            case a0 => exact cells_new wr [.int .u8 92] 5
            case a4 => exact ints_one [92]
            case a1 => unfold maxLen; omega
            case a2 => omega
            case a3 => simp; omega
            intro v1 w1 hown1 hgrow1 _
            have HO1 : Hid (Own w1 w.heap.size v1 (escZ ((nums s).take k) ++ [92])) := own_snoc (m := [92]) hown1
            have HB1 : Hid (Below w.heap.size w w1) := (HB.out.alloc HB.out.size _).grown hgrow1 (HB.out.alloc HB.out.size _).size (fun j hj => (HO.out.lt j hj).1)
            have hs1 := HB1.out.size
            have hl1 : (escZ ((nums s).take k) ++ [92]).length ≤ 2 * k + 1 := by simp; omega
            clear hown1 hgrow1
            generalize escZ ((nums s).take k) ++ [92] = pre1 at HO1 HE hl1
            go_wp2_with (at_builtin; refine wpList_append_own _ rfl (.tmp 37) (.tmp 41) 25 rfl w.heap.size 5 j0 _ 1 1 Try.underlying25 hi hz0 hz1 hz2 rfl (by decide) v1 _ _ rfl (own_keep HO1.out (keep _ _)) ⟨w1.heap.size, 0, none⟩ 1 1 [.int .u8 c] rfl rfl ?a0 ?a4 ?a1 ?a2 ?a3 ?_)
            case a0 => exact cells_new w1 [.int .u8 c] 5
            case a4 => exact ints_one [c]
            case a1 => unfold maxLen; omega
            case a2 => omega
            case a3 => simp; omega
            intro v' w2 hown2 hgrow2 _
            have HO2 : Hid (Own w2 w.heap.size v' (escZ ((nums s).take (k + 1)))) := by
              have := own_snoc (m := [c]) hown2
              unfold Hid; rw [HE.out]; exact this
            have HB2 : Hid (Below w.heap.size w w2) := (HB1.out.alloc HB1.out.size _).grown hgrow2 (HB1.out.alloc HB1.out.size _).size (fun j hj => (HO1.out.lt j hj).1)
            clear hown2 hgrow2
            go_wp2
            go_roundw
            case rel => exact ⟨k + 1, by go_num, by omega, HO2.out, HB2.out⟩
            case measure => simp [intOf]; omega
          · go_wp2_with (at_builtin; refine wpList_append_own _ rfl (.tmp 34) (.tmp 35) 25 rfl w.heap.size 5 j0 _ 1 1 Try.underlying25 hi hz0 hz1 hz2 rfl (by decide) u3 _ _ rfl (own_keep HO.out (keep _ _)) ⟨wr.heap.size, 0, none⟩ 1 1 [.int .u8 92] rfl rfl ?a0 ?a4 ?a1 ?a2 ?a3 ?_)
            case a0 => exact cells_new wr [.int .u8 92] 5
            case a4 => exact ints_one [92]
            case a1 => unfold maxLen; omega
            case a2 => omega
            case a3 => simp; omega
            intro v1 w1 hown1 hgrow1 _
            have HO1 : Hid (Own w1 w.heap.size v1 (escZ ((nums s).take k) ++ [92])) := own_snoc (m := [92]) hown1
            have HB1 : Hid (Below w.heap.size w w1) := (HB.out.alloc HB.out.size _).grown hgrow1 (HB.out.alloc HB.out.size _).size (fun j hj => (HO.out.lt j hj).1)
            have hs1 := HB1.out.size
            have hl1 : (escZ ((nums s).take k) ++ [92]).length ≤ 2 * k + 1 := by simp; omega
            clear hown1 hgrow1
            generalize escZ ((nums s).take k) ++ [92] = pre1 at HO1 HE hl1
            go_wp2_with (at_builtin; refine wpList_append_own _ rfl (.tmp 37) (.tmp 41) 25 rfl w.heap.size 5 j0 _ 1 1 Try.underlying25 hi hz0 hz1 hz2 rfl (by decide) v1 _ _ rfl (own_keep HO1.out (keep _ _)) ⟨w1.heap.size, 0, none⟩ 1 1 [.int .u8 c] rfl rfl ?a0 ?a4 ?a1 ?a2 ?a3 ?_)
            case a0 => exact cells_new w1 [.int .u8 c] 5
            case a4 => exact ints_one [c]
            case a1 => unfold maxLen; omega
            case a2 => omega
            case a3 => simp; omega
            intro v' w2 hown2 hgrow2 _
            have HO2 : Hid (Own w2 w.heap.size v' (escZ ((nums s).take (k + 1)))) := by
              have := own_snoc (m := [c]) hown2
              unfold Hid; rw [HE.out]; exact this
            have HB2 : Hid (Below w.heap.size w w2) := (HB1.out.alloc HB1.out.size _).grown hgrow2 (HB1.out.alloc HB1.out.size _).size (fun j hj => (HO1.out.lt j hj).1)
            clear hown2 hgrow2
            go_wp2
            go_roundw
            case rel => exact ⟨k + 1, by go_num, by omega, HO2.out, HB2.out⟩
            case measure => simp [intOf]; omega
        · have e1 : (c == 92) = false := by rw [beq_eq_false_iff_ne]; omega
          have e2 : (c == 59) = false := by rw [beq_eq_false_iff_ne]; omega
          have e3 : (c == 44) = false := by rw [beq_eq_false_iff_ne]; omega
          have HE : Hid (escZ ((nums s).take (k + 1)) = escZ ((nums s).take k) ++ [c]) := by
            unfold Hid; rw [escZ_take _ k _ HT.out]; unfold escC; rw [if_neg hq, if_neg q3]
          go_wp2_with (at_builtin; refine wpList_append_own _ rfl (.tmp 37) (.tmp 41) 25 rfl w.heap.size 5 j0 _ 1 1 Try.underlying25 hi hz0 hz1 hz2 rfl (by decide) u3 _ _ rfl (own_keep HO.out (keep _ _)) ⟨wr.heap.size, 0, none⟩ 1 1 [.int .u8 c] rfl rfl ?a0 ?a4 ?a1 ?a2 ?a3 ?_)
          case a0 => exact cells_new wr [.int .u8 c] 5
          case a4 => exact ints_one [c]
          case a1 => unfold maxLen; omega
          case a2 => omega
          case a3 => simp; omega
          intro v' w2 hown2 hgrow2 _
          have HO2 : Hid (Own w2 w.heap.size v' (escZ ((nums s).take (k + 1)))) := by
            have := own_snoc (m := [c]) hown2
            unfold Hid; rw [HE.out]; exact this
          have HB2 : Hid (Below w.heap.size w w2) := (HB.out.alloc HB.out.size _).grown hgrow2 (HB.out.alloc HB.out.size _).size (fun j hj => (HO.out.lt j hj).1)
          clear hown2 hgrow2
          go_wp2
          go_roundw
          case rel => exact ⟨k + 1, by go_num, by omega, HO2.out, HB2.out⟩
          case measure => simp [intOf]; omega
    · obtain rfl : k = s.size := by omega
      have hr : Own wr w.heap.size u3 (escZ (nums s)) := by
        have := HO.out
        rwa [List.take_of_length_le (by rw [nums_len]; exact Nat.le_refl _)] at this
      obtain ⟨a, cap, rfl, _, _, hrow, _⟩ := row_of_own hr
      have kc2 := conv_row _ cap rfl hrow
      clear hr hrow
      go_wp2
      go_ret
      exact ⟨rfl, HB.out⟩
theorem esc_has (d : Int) : hasZ [d] (nums ⟨#[92, 59, 44, 110, 78]⟩) = decide (escD d ≠ none) := by
  rw [has_one]
  have e : nums ⟨#[92, 59, 44, 110, 78]⟩ = [92, 59, 44, 110, 78] := rfl
  rw [e]
  rcases escD_iff d with ⟨he, h⟩ | ⟨he, h⟩ | ⟨he, h1, h2, h3, h4, h5⟩
  · rw [he]; rcases h with rfl | rfl | rfl <;> decide
  · rw [he]; rcases h with rfl | rfl <;> decide
  · rw [he]; simp; omega
set_option maxHeartbeats 8000000 in
set_option maxRecDepth 100000 in
theorem runescape_any (s : ByteArray) (w : World) (hs : s.size ≤ 1000000000) : Calls Try.prog 13 #[.string s] w (UPost w (nums s)) := by
  obtain ⟨j0, hi, hz0, hz1, hz2⟩ := info_parts Try.info5
  go_enter Try.func13, Try.ntmps13
  go_wp2
  go_loopw [5, 4] (fun i v wr => ∃ (k : Nat) (pre : List Int), i = .int .i64 k ∧ k ≤ s.size ∧ Own wr w.heap.size v pre ∧ Byt pre ∧ pre.length ≤ k ∧ unescZ (nums s) = (unescZ ((nums s).drop k)).map (pre ++ ·) ∧ Below w.heap.size w wr) (fun i _ _ => s.size - (intOf i).toNat)
  case atStart => exact ⟨0, [], rfl, by omega, ⟨rfl, .inl ⟨rfl, rfl⟩⟩, (by first | trivial | (intro x hx; cases hx)), (by simp), (by simp), Below.refl _ _⟩
  case round =>
    obtain ⟨k, pre, rfl, hk, hown, hbp, hpl, hun, hb⟩ := hrel
    have HO : Hid (Own wr w.heap.size u4 pre) := hown
    have HB : Hid (Below w.heap.size w wr) := hb
    have HP : Hid (Byt pre) := hbp
    have HU : Hid (unescZ (nums s) = (unescZ ((nums s).drop k)).map (pre ++ ·)) := hun
    have hsz := hb.size
    clear hown hb hbp hun
    by_cases hlt : k < s.size
    · have hc1 : (s[k].toNat : Int) < 256 := by have := s[k].toNat_lt; omega
      have hc0 : (0 : Int) ≤ (s[k].toNat : Int) := by omega
      have HT : Hid ((nums s).drop k = (s[k].toNat : Int) :: (nums s).drop (k + 1)) := nums_drop s k hlt
      obtain ⟨c, hc⟩ : ∃ c : Int, ((s[k]'hlt).toNat : Int) = c := ⟨_, rfl⟩
      rw [hc] at HT hc1 hc0
      by_cases hbad : c = 59 ∨ c = 44 ∨ c = 10
      · have HN : Hid (unescZ (nums s) = none) := by unfold Hid; rw [HU.out, HT.out, unesc_bad _ hbad]; rfl
        have hd : (c == 59) = true ∨ ((c == 59) = false ∧ (c == 44) = true) ∨ ((c == 59) = false ∧ (c == 44) = false ∧ (c == 10) = true) := by
          rcases hbad with rfl | rfl | rfl <;> decide
        clear hbad
        rcases hd with e1 | ⟨e1, e2⟩ | ⟨e1, e2, e3⟩
        all_goals
          go_wp2
          go_ret2
          exact ⟨.inr ⟨HN.out, rfl⟩, HB.out⟩
      · have b1 : (c == 59) = false := by rw [beq_eq_false_iff_ne]; omega
        have b2 : (c == 44) = false := by rw [beq_eq_false_iff_ne]; omega
        have b3 : (c == 10) = false := by rw [beq_eq_false_iff_ne]; omega
        by_cases h92 : c = 92
        · have b4 : (c != 92) = false := by simp [h92]
          by_cases hend : k + 1 = s.size
          · have HN : Hid (unescZ (nums s) = none) := by
              unfold Hid; rw [HU.out, HT.out, h92, List.drop_of_length_le (by rw [nums_len]; omega), unesc_end]; rfl
            have he : decide ((s.size : Int) ≤ (k : Int) + 1) = true := by simp; omega
            clear h92
            go_wp2
            go_ret2
            exact ⟨.inr ⟨HN.out, rfl⟩, HB.out⟩
          · have hlt2 : k + 1 < s.size := by omega
            have he : decide ((s.size : Int) ≤ (k : Int) + 1) = false := by simp; omega
            have hk1 : (k : Int) + 1 < (s.size : Int) := by omega
            have hk2 : (0 : Int) ≤ (k : Int) + 1 := by omega
            have hk3 : ((k : Int) + 1).toNat = k + 1 := by omega
            have hk4 : (k : Int) + 1 + 1 ≤ (s.size : Int) := by omega
            have hk5 : ((k : Int) + 1 + 1).toNat = k + 1 + 1 := by omega
            have hk6 : (k : Int) + 1 ≤ (k : Int) + 1 + 1 := by omega
            have hd1 : ((s[k + 1]'hlt2).toNat : Int) < 256 := by have := (s[k + 1]'hlt2).toNat_lt; omega
            have hd0 : (0 : Int) ≤ ((s[k + 1]'hlt2).toNat : Int) := by omega
            have HT2 : Hid ((nums s).drop (k + 1) = ((s[k + 1]'hlt2).toNat : Int) :: (nums s).drop (k + 1 + 1)) := nums_drop s (k + 1) hlt2
            have hx1 : nums (s.extract (k + 1) (k + 1 + 1)) = [((s[k + 1]'hlt2).toNat : Int)] := by
              rw [nums_extract, HT2.out]; simp
            obtain ⟨d, hd⟩ : ∃ d : Int, ((s[k + 1]'hlt2).toNat : Int) = d := ⟨_, rfl⟩
            rw [hd] at HT2 hd1 hd0 hx1
            have hx2 : (s.extract (k + 1) (k + 1 + 1)).size = 1 := by rw [← nums_len, hx1]; rfl
            have hhas := fun V => has_any ⟨#[92, 59, 44, 110, 78]⟩ (s.extract (k + 1) (k + 1 + 1)) V (by decide) (by omega) (by omega)
            simp only [hx1, esc_has] at hhas
            have HU2 : Hid (unescZ (nums s) = (match escD d with | none => none | some x => (unescZ ((nums s).drop (k + 1 + 1))).map (x :: ·)).map (pre ++ ·)) := by
              unfold Hid; rw [HU.out, HT.out, h92, HT2.out, unesc_esc]
              cases escD d <;> rfl
            clear h92 hx1 hx2
            rcases escD_iff d with ⟨hx, hd2⟩ | ⟨hx, hd2⟩ | ⟨hx, _⟩
            · have HU3 : Hid (unescZ (nums s) = (unescZ ((nums s).drop (k + 1 + 1))).map ((pre ++ [d]) ++ ·)) := by
                unfold Hid; rw [HU2.out, hx]
                cases unescZ ((nums s).drop (k + 1 + 1)) <;> simp
              have f1 : (d == 110) = false := by rw [beq_eq_false_iff_ne]; omega
              have f2 : (d == 78) = false := by rw [beq_eq_false_iff_ne]; omega
              rw [hx, decide_eq_true (by simp)] at hhas
              clear hx hd2
              go_wp2_with fail
              refine (hhas _).mono ?_
              rintro e w1 ⟨rfl, rfl⟩
              clear hhas
              go_wp2_with (at_builtin; refine wpList_append_own _ rfl (.tmp 66) (.tmp 70) 25 rfl w.heap.size 5 j0 _ 1 1 Try.underlying25 hi hz0 hz1 hz2 rfl (by decide) u4 _ _ rfl (own_keep HO.out (keep _ _)) ⟨wr.heap.size, 0, none⟩ 1 1 [.int .u8 d] rfl rfl ?a0 ?a4 ?a1 ?a2 ?a3 ?_)
              case a0 => exact cells_new wr [.int .u8 d] 5
              case a4 => exact ints_one [d]
              case a1 => unfold maxLen; omega
              case a2 => omega
              case a3 => simp; omega
              intro v' w2 hown2 hgrow2 _
              have HO2 : Hid (Own w2 w.heap.size v' (pre ++ [d])) := own_snoc (m := [d]) hown2
              have HB2 : Hid (Below w.heap.size w w2) := (HB.out.alloc HB.out.size _).grown hgrow2 (HB.out.alloc HB.out.size _).size (fun j hj => (HO.out.lt j hj).1)
              clear hown2 hgrow2
              go_wp2
              go_roundw
              case rel => exact ⟨k + 1 + 1, pre ++ [d], by go_num, by omega, HO2.out, HP.out.append (by intro y hy; simp at hy; subst hy; exact ⟨hd0, hd1⟩), by simp; omega, HU3.out, HB2.out⟩
              case measure => simp [intOf]; omega
            · have HU3 : Hid (unescZ (nums s) = (unescZ ((nums s).drop (k + 1 + 1))).map ((pre ++ [10]) ++ ·)) := by
                unfold Hid; rw [HU2.out, hx]
                cases unescZ ((nums s).drop (k + 1 + 1)) <;> simp
              have hd3 : (d == 110) = true ∨ ((d == 110) = false ∧ (d == 78) = true) := by rcases hd2 with rfl | rfl <;> decide
              rw [hx, decide_eq_true (by simp)] at hhas
              clear hx hd2
              go_wp2_with fail
              refine (hhas _).mono ?_
              rintro e w1 ⟨rfl, rfl⟩
              clear hhas
              rcases hd3 with f1 | ⟨f1, f2⟩
              · go_wp2_with (at_builtin; refine wpList_append_own _ rfl (.tmp 63) (.tmp 64) 25 rfl w.heap.size 5 j0 _ 1 1 Try.underlying25 hi hz0 hz1 hz2 rfl (by decide) u4 _ _ rfl (own_keep HO.out (keep _ _)) ⟨wr.heap.size, 0, none⟩ 1 1 [.int .u8 10] rfl rfl ?a0 ?a4 ?a1 ?a2 ?a3 ?_)
                case a0 => exact cells_new wr [.int .u8 10] 5
                case a4 => exact ints_one [10]
                case a1 => unfold maxLen; omega
                case a2 => omega
                case a3 => simp; omega
                intro v' w2 hown2 hgrow2 _
                have HO2 : Hid (Own w2 w.heap.size v' (pre ++ [10])) := own_snoc (m := [10]) hown2
                have HB2 : Hid (Below w.heap.size w w2) := (HB.out.alloc HB.out.size _).grown hgrow2 (HB.out.alloc HB.out.size _).size (fun j hj => (HO.out.lt j hj).1)
                clear hown2 hgrow2
                go_wp2
                go_roundw
                case rel => exact ⟨k + 1 + 1, pre ++ [10], by go_num, by omega, HO2.out, HP.out.append (by intro y hy; simp at hy; subst hy; exact ⟨by omega, by omega⟩), by simp; omega, HU3.out, HB2.out⟩
                case measure => simp [intOf]; omega
              · go_wp2_with (at_builtin; refine wpList_append_own _ rfl (.tmp 63) (.tmp 64) 25 rfl w.heap.size 5 j0 _ 1 1 Try.underlying25 hi hz0 hz1 hz2 rfl (by decide) u4 _ _ rfl (own_keep HO.out (keep _ _)) ⟨wr.heap.size, 0, none⟩ 1 1 [.int .u8 10] rfl rfl ?a0 ?a4 ?a1 ?a2 ?a3 ?_)
                case a0 => exact cells_new wr [.int .u8 10] 5
                case a4 => exact ints_one [10]
                case a1 => unfold maxLen; omega
                case a2 => omega
                case a3 => simp; omega
                intro v' w2 hown2 hgrow2 _
                have HO2 : Hid (Own w2 w.heap.size v' (pre ++ [10])) := own_snoc (m := [10]) hown2
                have HB2 : Hid (Below w.heap.size w w2) := (HB.out.alloc HB.out.size _).grown hgrow2 (HB.out.alloc HB.out.size _).size (fun j hj => (HO.out.lt j hj).1)
                clear hown2 hgrow2
                go_wp2
                go_roundw
                case rel => exact ⟨k + 1 + 1, pre ++ [10], by go_num, by omega, HO2.out, HP.out.append (by intro y hy; simp at hy; subst hy; exact ⟨by omega, by omega⟩), by simp; omega, HU3.out, HB2.out⟩
                case measure => simp [intOf]; omega
            · have HN : Hid (unescZ (nums s) = none) := by unfold Hid; rw [HU2.out, hx]; rfl
              rw [hx, decide_eq_false (by simp)] at hhas
              go_wp2_with fail
              refine (hhas _).mono ?_
              rintro e w1 ⟨rfl, rfl⟩
              clear hhas
              go_wp2
              go_ret2
              exact ⟨.inr ⟨HN.out, rfl⟩, HB.out⟩
        · have b4 : (c != 92) = true := by simp [h92]
          have HU3 : Hid (unescZ (nums s) = (unescZ ((nums s).drop (k + 1))).map ((pre ++ [c]) ++ ·)) := by
            unfold Hid; rw [HU.out, HT.out, unesc_plain _ (by omega)]
            cases unescZ ((nums s).drop (k + 1)) <;> simp
          go_wp2_with (at_builtin; refine wpList_append_own _ rfl (.tmp 32) (.tmp 36) 25 rfl w.heap.size 5 j0 _ 1 1 Try.underlying25 hi hz0 hz1 hz2 rfl (by decide) u4 _ _ rfl (own_keep HO.out (keep _ _)) ⟨wr.heap.size, 0, none⟩ 1 1 [.int .u8 c] rfl rfl ?a0 ?a4 ?a1 ?a2 ?a3 ?_)
          case a0 => exact cells_new wr [.int .u8 c] 5
          case a4 => exact ints_one [c]
          case a1 => unfold maxLen; omega
          case a2 => omega
          case a3 => simp; omega
          intro v' w2 hown2 hgrow2 _
          have HO2 : Hid (Own w2 w.heap.size v' (pre ++ [c])) := own_snoc (m := [c]) hown2
          have HB2 : Hid (Below w.heap.size w w2) := (HB.out.alloc HB.out.size _).grown hgrow2 (HB.out.alloc HB.out.size _).size (fun j hj => (HO.out.lt j hj).1)
          clear hown2 hgrow2
          go_wp2
          go_roundw
          case rel => exact ⟨k + 1, pre ++ [c], by go_num, by omega, HO2.out, HP.out.append (by intro y hy; simp at hy; subst hy; exact ⟨hc0, hc1⟩), by simp; omega, HU3.out, HB2.out⟩
          case measure => simp [intOf]; omega
    · obtain rfl : k = s.size := by omega
      have HY : Hid (unescZ (nums s) = some pre) := by
        unfold Hid; rw [HU.out, List.drop_of_length_le (by rw [nums_len]; exact Nat.le_refl _)]; simp [unescZ]
      obtain ⟨a, cap, rfl, _, _, hrow, _⟩ := row_of_own HO.out
      have kc2 := conv_row _ cap rfl hrow
      clear hrow
      go_wp2
      go_ret2
      exact ⟨.inl ⟨pre, HY.out, HP.out, rfl⟩, HB.out⟩
end Go.Proofs.Ytjcjhcpaojhcfaa
