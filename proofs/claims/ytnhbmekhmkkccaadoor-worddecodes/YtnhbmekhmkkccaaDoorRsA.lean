/-
  The contracts of the reference's Lower, Parts, value and short.
-/
import Derived.Test.YtnhbmekhmkkccaaDoorRp
namespace Go.Proofs.YtnhbmekhmkkccaaDoor
open Go.RowKit
set_option linter.unusedVariables false

theorem own_snoc1 {w : World} {B : Nat} {v : Value} {l : List Int} {c : Int} (h : w.ownsRow B 5 1 v (l.length + 1) (l.map (Value.int .u8) ++ [c].map (Value.int .u8))) : w.ownsRow B 5 1 v (l ++ [c]).length ((l ++ [c]).map (Value.int .u8)) := by
  rw [List.length_append, List.map_append]; exact h
set_option maxHeartbeats 4000000 in
set_option maxRecDepth 100000 in
theorem lower_any (s : ByteArray) (w : World) (hs : s.size ≤ 1000000) :
    Calls Tryd.prog 37 #[.string s] w fun e w' => e = .returned (.string (strOfNums ((nums s).map smallZ))) ∧ Below w.heap.size w w' := by
  obtain ⟨j0, hi, hz0, hz1, hz2⟩ := info_parts Tryd.info5
  go_enter Tryd.func37, Tryd.ntmps37
  go_wp2
  go_loopw [3, 4, 5] (fun v i _ wr => ∃ (k : Nat) (pre : List Int), i = .int .i64 k ∧ k ≤ s.size ∧ pre.length ≤ k ∧ pre = ((nums s).take k).map smallZ ∧ wr.ownsRow w.heap.size 5 1 v pre.length (pre.map (Value.int .u8)) ∧ Below w.heap.size w wr) (fun _ i _ _ => s.size - (intOf i).toNat)
  case atStart => exact ⟨0, [], rfl, by omega, by simp, by simp, World.ownsRow_nil _ _ _ _, Below.refl _ _⟩
  case round =>
    obtain ⟨k, pre, rfl, hk, hpl, hpre, hown, hb⟩ := hrel
    have HP : Hid (pre = ((nums s).take k).map smallZ) := hpre
    have HO : Hid (wr.ownsRow w.heap.size 5 1 u3 pre.length (pre.map (Value.int .u8))) := hown
    have HB : Hid (Below w.heap.size w wr) := hb
    have hsz := hb.size
    clear hpre hown hb
    by_cases hlt : k < s.size
    · have HN : Hid ((nums s)[k]? = some (s[k].toNat : Int)) := nums_at s k hlt
      have hc1 : (s[k].toNat : Int) < 256 := by have := s[k].toNat_lt; omega
      obtain ⟨c, hc⟩ : ∃ c : Int, (s[k].toNat : Int) = c := ⟨_, rfl⟩
      rw [hc] at HN hc1
      have HPN : Hid (pre ++ [smallZ c] = ((nums s).take (k + 1)).map smallZ) := by
        unfold Hid; rw [List.take_add_one, HN.out, HP.out]; simp
      by_cases hl : 65 ≤ c ∧ c ≤ 90
      · have h1 : decide (c ≥ 65) = true := decide_eq_true (by omega)
        have h2 : decide (c ≤ 90) = true := decide_eq_true (by omega)
        have HS : Hid (smallZ c = c + 32) := by unfold Hid smallZ; rw [if_pos hl]
        go_wp2_with (at_builtin; refine wpList_append_own _ rfl (.tmp 23) (.tmp 25) 31 rfl w.heap.size 5 j0 (.int .u8 0) 1 1 Tryd.underlying31 hi hz0 hz1 hz2 rfl (by decide) _ _ _ rfl (HO.out.alloc _) ⟨wr.heap.size, 0, none⟩ 1 1 (([c + 32] : List Int).map (Value.int .u8)) rfl rfl (cells_new _ _ _) (ints_one _) (by unfold maxLen; omega) (by omega) (by simp; omega) ?_)
        intro v4 w4 hown4 hgrow4 _
        have HB4 : Hid (Below w.heap.size w w4) := (HB.out.alloc hsz _).grown hgrow4 (by simp; omega) (fun k hk => (HO.out.lt k hk).1)
        have HO4 : Hid (w4.ownsRow w.heap.size 5 1 v4 (pre ++ [c + 32]).length ((pre ++ [c + 32]).map (Value.int .u8))) := own_snoc1 hown4
        clear hown4 hgrow4
        go_wp2
        go_roundw
        case rel => exact ⟨k + 1, pre ++ [c + 32], by go_num, by omega, by simp; omega, by rw [← HS.out]; exact HPN.out, HO4.out, HB4.out⟩
        case measure => simp [intOf]; omega
      · have HS : Hid (smallZ c = c) := by unfold Hid smallZ; rw [if_neg hl]
        have hcase : (decide (c ≥ 65) = false) ∨ (decide (c ≥ 65) = true ∧ decide (c ≤ 90) = false) := by
          simp only [decide_eq_true_eq, decide_eq_false_iff_not]; omega
        rcases hcase with h1 | ⟨h1, h2⟩
        all_goals (
          go_wp2_with (at_builtin; refine wpList_append_own _ rfl (.tmp 23) (.tmp 25) 31 rfl w.heap.size 5 j0 (.int .u8 0) 1 1 Tryd.underlying31 hi hz0 hz1 hz2 rfl (by decide) _ _ _ rfl (HO.out.alloc _) ⟨wr.heap.size, 0, none⟩ 1 1 (([c] : List Int).map (Value.int .u8)) rfl rfl (cells_new _ _ _) (ints_one _) (by unfold maxLen; omega) (by omega) (by simp; omega) ?_)
          intro v4 w4 hown4 hgrow4 _
          have HB4 : Hid (Below w.heap.size w w4) := (HB.out.alloc hsz _).grown hgrow4 (by simp; omega) (fun k hk => (HO.out.lt k hk).1)
          have HO4 : Hid (w4.ownsRow w.heap.size 5 1 v4 (pre ++ [c]).length ((pre ++ [c]).map (Value.int .u8))) := own_snoc1 hown4
          clear hown4 hgrow4
          go_wp2
          go_roundw
          case rel => exact ⟨k + 1, pre ++ [c], by go_num, by omega, by simp; omega, by have := HPN.out; rw [HS.out] at this; exact this, HO4.out, HB4.out⟩
          case measure => simp [intOf]; omega)
    · obtain rfl : k = s.size := by omega
      obtain ⟨a, cap, rfl, _, _, hrow, _⟩ := own_row' HO.out
      have kc := conv_row pre.length cap rfl hrow
      have HE : Hid (pre = (nums s).map smallZ) := by
        have := HP.out
        rwa [List.take_of_length_le (by rw [nums_len]; exact Nat.le_refl _)] at this
      clear hrow
      go_wp2
      go_ret
      exact ⟨by rw [HE.out]; rfl, HB.out⟩
set_option maxRecDepth 100000 in
theorem rhex_any (c : Int) (w : World) (h0 : 0 ≤ c) (h1 : c < 256) : Calls Tryd.prog 64 #[.int .u8 c] w fun e w' => e = .returned (.int .i64 (hexU c)) ∧ w = w' := by
  by_cases ha : 48 ≤ c ∧ c ≤ 57
  · have e1 : decide (c ≥ 48) = true := decide_eq_true (by omega)
    have e2 : decide (c ≤ 57) = true := decide_eq_true (by omega)
    have HX : Hid (hexU c = c - 48) := by unfold Hid hexU; rw [if_pos ha]
    go_enter Tryd.func64, Tryd.ntmps64
    go_wp2
    go_ret
    exact ⟨ret_int (by rw [HX.out]), by first | trivial | rfl⟩
  · have hcase : (decide (c ≥ 48) = false) ∨ (decide (c ≥ 48) = true ∧ decide (c ≤ 57) = false) := by
      simp only [decide_eq_true_eq, decide_eq_false_iff_not]; omega
    by_cases hb : 65 ≤ c ∧ c ≤ 70
    · have e1 : decide (c ≥ 48) = true := decide_eq_true (by omega)
      have e2 : decide (c ≤ 57) = false := decide_eq_false (by omega)
      have e3 : decide (c ≥ 65) = true := decide_eq_true (by omega)
      have e4 : decide (c ≤ 70) = true := decide_eq_true (by omega)
      have HX : Hid (hexU c = c - 55) := by unfold Hid hexU; rw [if_neg ha, if_pos hb]
      go_enter Tryd.func64, Tryd.ntmps64
      go_wp2
      go_ret
      exact ⟨ret_int (by rw [HX.out]), by first | trivial | rfl⟩
    · have HX : Hid (hexU c = -1) := by unfold Hid hexU; rw [if_neg ha, if_neg hb]
      have hcase2 : (decide (c ≥ 65) = false) ∨ (decide (c ≥ 65) = true ∧ decide (c ≤ 70) = false) := by
        simp only [decide_eq_true_eq, decide_eq_false_iff_not]; omega
      clear ha hb
      rcases hcase with e1 | ⟨e1, e2⟩ <;> rcases hcase2 with e3 | ⟨e3, e4⟩
      all_goals (
        go_enter Tryd.func64, Tryd.ntmps64
        go_wp2
        go_ret
        exact ⟨ret_int (by rw [HX.out]), by first | trivial | rfl⟩)
end Go.Proofs.YtnhbmekhmkkccaaDoor
namespace Go.Proofs.YtnhbmekhmkkccaaDoor
open Go.RowKit
set_option linter.unusedVariables false

theorem take_sub {l : List Int} {f k : Nat} {c : Int} (hf : f ≤ k) (h : l[k]? = some c) : (l.drop f).take (k + 1 - f) = (l.drop f).take (k - f) ++ [c] := by
  rw [show k + 1 - f = (k - f) + 1 by omega, List.take_add_one, List.getElem?_drop, show f + (k - f) = k by omega, h]; rfl
theorem drop_sub {l : List Int} {f k : Nat} {c : Int} (hf : f ≤ k) (h : l[k]? = some c) : l.drop f = (l.drop f).take (k - f) ++ c :: l.drop (k + 1) := by
  conv => lhs; rw [← List.take_append_drop (k - f) (l.drop f), List.drop_drop, show f + (k - f) = k by omega]
  congr 1
  obtain ⟨hk, e⟩ := List.getElem?_eq_some_iff.1 h
  rw [List.drop_eq_getElem_cons hk, e]
theorem ownS_snoc {w : World} {B : Nat} {v : Value} {xs : List ByteArray} {x : ByteArray} (h : w.ownsRow B 9 1 v (xs.length + 1) (xs.map Value.string ++ [.string x])) : w.ownsRow B 9 1 v (xs ++ [x]).length ((xs ++ [x]).map Value.string) := by
  rw [List.length_append, List.map_append]; exact h
set_option maxHeartbeats 4000000 in
set_option maxRecDepth 100000 in
theorem rparts_any (s : ByteArray) (y : Int) (w : World) (hs : s.size ≤ 1000000) :
    Calls Tryd.prog 34 #[.string s, .int .u8 y] w fun e w' => ∃ (v : Value) (xs : List ByteArray), e = .returned v ∧ w'.ownsRow w.heap.size 9 1 v xs.length (xs.map Value.string) ∧ xs.map nums = pieces y (nums s) ∧ Below w.heap.size w w' := by
  obtain ⟨j0, hi, hz0, hz1, hz2⟩ := info_parts Tryd.info9
  go_enter Tryd.func34, Tryd.ntmps34
  go_wp2
  go_loopw [5, 6, 7] (fun v a i wr => ∃ (k f : Nat) (xs : List ByteArray), i = .int .i64 k ∧ a = .int .i64 f ∧ f ≤ k ∧ k ≤ s.size + 1 ∧ (k = s.size + 1 → f = s.size + 1) ∧ xs.length ≤ k ∧ y ∉ ((nums s).drop f).take (k - f) ∧ xs.map nums ++ (if f ≤ s.size then pieces y ((nums s).drop f) else []) = pieces y (nums s) ∧ wr.ownsRow w.heap.size 9 1 v xs.length (xs.map Value.string) ∧ Below w.heap.size w wr) (fun _ _ i _ => s.size + 1 - (intOf i).toNat)
  case atStart => exact ⟨0, 0, [], rfl, rfl, by omega, by omega, by omega, by simp, by simp, by simp, World.ownsRow_nil _ _ _ _, Below.refl _ _⟩
  case round =>
    obtain ⟨k, f, xs, rfl, rfl, hfk, hk, hend, hxl, hno, hpc, hown, hb⟩ := hrel
    have HNO : Hid (y ∉ ((nums s).drop f).take (k - f)) := hno
    have HPC : Hid (xs.map nums ++ (if f ≤ s.size then pieces y ((nums s).drop f) else []) = pieces y (nums s)) := hpc
    have HO : Hid (wr.ownsRow w.heap.size 9 1 u5 xs.length (xs.map Value.string)) := hown
    have HB : Hid (Below w.heap.size w wr) := hb
    have HEND : Hid (k = s.size + 1 → f = s.size + 1) := hend
    have hsz := hb.size
    clear hno hpc hown hb hend
    by_cases hle : k ≤ s.size
    · have hl1 : decide ((k : Int) ≤ (s.size : Int)) = true := decide_eq_true (by omega)
      have sl1 : (f : Int) ≤ (k : Int) := by omega
      have sl2 : (k : Int) ≤ (s.size : Int) := by omega
      have sl3 : (0 : Int) ≤ (f : Int) := by omega
      have HNX : Hid (nums (s.extract f k) = ((nums s).drop f).take (k - f)) := nums_extract s f k
      by_cases hlt : k < s.size
      · have hl2 : ((k : Int) == (s.size : Int)) = false := by rw [beq_eq_false_iff_ne]; omega
        have HN : Hid ((nums s)[k]? = some (s[k].toNat : Int)) := nums_at s k hlt
        obtain ⟨c, hc⟩ : ∃ c : Int, ((s[k]'hlt).toNat : Int) = c := ⟨_, rfl⟩
        rw [hc] at HN
        by_cases hcy : c = y
        · subst hcy
          have HP2 : Hid ((xs ++ [s.extract f k]).map nums ++ (if k + 1 ≤ s.size then pieces c ((nums s).drop (k + 1)) else []) = pieces c (nums s)) := by
            have h1 := HPC.out
            rw [if_pos (by omega), drop_sub hfk HN.out, pieces_app _ HNO.out] at h1
            unfold Hid; rw [if_pos (by omega), List.map_append, List.map_singleton, HNX.out, ← h1]; simp
          have hcb : (c == c) = true := by simp
          go_wp2_with (at_builtin; refine wpList_append_own _ rfl (.tmp 25) (.tmp 30) 34 rfl w.heap.size 9 j0 (.string ⟨#[]⟩) 1 16 Tryd.underlying34 hi hz0 hz1 hz2 rfl (by decide) _ _ _ rfl (HO.out.alloc _) ⟨wr.heap.size, 0, none⟩ 1 1 [.string (s.extract f k)] rfl rfl (cells_new _ _ _) (by simp [Value.oneCell']) (by unfold maxLen; omega) (by omega) (by simp; omega) ?_)
          intro v4 w4 hown4 hgrow4 _
          have HB4 : Hid (Below w.heap.size w w4) := (HB.out.alloc hsz _).grown hgrow4 (by simp; omega) (fun k hk => (HO.out.lt k hk).1)
          have HO4 : Hid (w4.ownsRow w.heap.size 9 1 v4 (xs ++ [s.extract f k]).length ((xs ++ [s.extract f k]).map Value.string)) := ownS_snoc hown4
          clear hown4 hgrow4
          go_wp2
          go_roundw
          case rel => exact ⟨k + 1, k + 1, xs ++ [s.extract f k], by go_num, by go_num, by omega, by omega, by omega, by simp; omega, by simp, HP2.out, HO4.out, HB4.out⟩
          case measure => simp [intOf]; omega
        · have hcb : (c == y) = false := by rw [beq_eq_false_iff_ne]; exact hcy
          have HN2 : Hid (y ∉ ((nums s).drop f).take (k + 1 - f)) := by
            unfold Hid; rw [take_sub hfk HN.out]
            simp only [List.mem_append, List.mem_singleton, not_or]
            exact ⟨HNO.out, fun e => hcy e.symm⟩
          go_wp2
          go_roundw
          case rel => exact ⟨k + 1, f, xs, by go_num, rfl, by omega, by omega, by omega, by omega, HN2.out, HPC.out, HO.out, HB.out⟩
          case measure => simp [intOf]; omega
      · obtain rfl : k = s.size := by omega
        have hl2 : ((s.size : Int) == (s.size : Int)) = true := by simp
        have HP2 : Hid ((xs ++ [s.extract f s.size]).map nums ++ (if s.size + 1 ≤ s.size then pieces y ((nums s).drop (s.size + 1)) else []) = pieces y (nums s)) := by
          have h1 := HPC.out
          have h2 := HNO.out
          have hall : ((nums s).drop f).take (s.size - f) = (nums s).drop f := List.take_of_length_le (by rw [List.length_drop, nums_len]; omega)
          rw [hall] at h2
          rw [if_pos (by omega), pieces_none h2] at h1
          unfold Hid; rw [if_neg (by omega), List.map_append, List.map_singleton, HNX.out, hall, ← h1]; simp
        go_wp2_with (at_builtin; refine wpList_append_own _ rfl (.tmp 25) (.tmp 30) 34 rfl w.heap.size 9 j0 (.string ⟨#[]⟩) 1 16 Tryd.underlying34 hi hz0 hz1 hz2 rfl (by decide) _ _ _ rfl (HO.out.alloc _) ⟨wr.heap.size, 0, none⟩ 1 1 [.string (s.extract f s.size)] rfl rfl (cells_new _ _ _) (by simp [Value.oneCell']) (by unfold maxLen; omega) (by omega) (by simp; omega) ?_)
        intro v4 w4 hown4 hgrow4 _
        have HB4 : Hid (Below w.heap.size w w4) := (HB.out.alloc hsz _).grown hgrow4 (by simp; omega) (fun k hk => (HO.out.lt k hk).1)
        have HO4 : Hid (w4.ownsRow w.heap.size 9 1 v4 (xs ++ [s.extract f s.size]).length ((xs ++ [s.extract f s.size]).map Value.string)) := ownS_snoc hown4
        clear hown4 hgrow4
        go_wp2
        go_roundw
        case rel => exact ⟨s.size + 1, s.size + 1, xs ++ [s.extract f s.size], by go_num, by go_num, by omega, by omega, fun _ => rfl, by simp; omega, by simp, HP2.out, HO4.out, HB4.out⟩
        case measure => simp [intOf] <;> omega
    · have hl1 : decide ((k : Int) ≤ (s.size : Int)) = false := decide_eq_false (by omega)
      have HE : Hid (xs.map nums = pieces y (nums s)) := by
        have h1 := HPC.out
        rw [if_neg (by have := HEND.out (by omega); omega), List.append_nil] at h1
        exact h1
      go_wp2
      go_ret
      exact ⟨_, xs, rfl, HO.out, HE.out, HB.out⟩
theorem step_append_own {P : Program} {ops : Array Oper} {o : Oper} {a : Act} {w : World} {K : Act → World → Prop} {Q : Exit → Act → World → Prop} {E : Prop}
    (hg : o.guard = none) (s x : Operand) (t : TypeId) (hop : o.op = Op.call { callee := Callee.builtin Builtin.append, args := #[s, x], argTypes := #[t, t] })
    (base : Nat) (e : TypeId) (i : TypeInfo) (z : Value) (size bytes : Nat) (h1 : P.underlying t = some (.slice e)) (h2 : P.info? e = some i) (h3 : i.zero = some z) (h4 : i.size = size) (h5 : i.bytes = bytes) (h6 : z.cells.size = size) (h7 : 0 < size)
    (v : Value) (n : Nat) (xs : List Value) (hs : a.eval s = v) (hown : w.ownsRow base e size v n xs)
    (ad : Addr) (m c : Nat) (news : List Value) (hx : a.eval x = .slice (some ad) m c) (hn : news.length = m * size) (hc : ∀ j u, news[j]? = some u → w.cell? (ad.add j) = some u) (h1c : ∀ u ∈ news, u.oneCell' = true)
    (b1 : n + m ≤ maxLen) (b2 : (n + m) * bytes ≤ 140737488355328) (hbase : base ≤ w.heap.size)
    (hK : ∀ v' w', w'.ownsRow base e size v' (n + m) (xs ++ news) → w.grownBy w' v.ownBlock → K (a.put o.dst v') w') :
    if Region.wanted o (yielded ops a.tmps) = true then Oper.wp P o a w K Q else E := by
  have hw : Region.wanted o (yielded ops a.tmps) = true := by simp [Region.wanted, hg]
  rw [if_pos hw]
  obtain ⟨v', w', hrun, r1, r2, _⟩ := run_append_own (P := P) w base t o.type e i z size bytes h1 h2 h3 h4 h5 h6 h7 v n xs hown ad m c news hn hc h1c b1 b2 hbase
  unfold Oper.wp
  simp [execOp, hop, resolve, invoke, builtin, hs, hx, hrun, Result.andThen]
  exact hK v' w' r1 r2
set_option maxHeartbeats 8000000 in
set_option maxRecDepth 100000 in
theorem short_any (s : ByteArray) (w : World) (hs : s.size ≤ 1000000) :
    Calls Tryd.prog 36 #[.string s] w fun e w' => ∃ x b, e = .returned (.tuple #[.string x, .bool b]) ∧ OAns b x (markR 0 (nums s)) ∧ Below w.heap.size w w' := by
  obtain ⟨j0, hi, hz0, hz1, hz2⟩ := info_parts Tryd.info5
  go_enter Tryd.func36, Tryd.ntmps36
  go_wp2
  go_loopw [4, 5, 6] (fun v i _ wr => ∃ (k : Nat) (pre : List Int), i = .int .i64 k ∧ k ≤ s.size ∧ pre.length ≤ k ∧ preU pre (markR 0 ((nums s).drop k)) = markR 0 (nums s) ∧ Byt pre ∧ wr.ownsRow w.heap.size 5 1 v pre.length (pre.map (Value.int .u8)) ∧ Below w.heap.size w wr) (fun _ i _ _ => s.size - (intOf i).toNat)
  case atStart => exact ⟨0, [], rfl, by omega, by simp, by rw [List.drop_zero, preU_nil], (by intro x hx; cases hx), World.ownsRow_nil _ _ _ _, Below.refl _ _⟩
  case round =>
    obtain ⟨k, pre, rfl, hk, hpl, hpre, hpb, hown, hb⟩ := hrel
    have HP : Hid (preU pre (markR 0 ((nums s).drop k)) = markR 0 (nums s)) := hpre
    have HPB : Hid (Byt pre) := hpb
    have HO : Hid (wr.ownsRow w.heap.size 5 1 u4 pre.length (pre.map (Value.int .u8))) := hown
    have HB : Hid (Below w.heap.size w wr) := hb
    have hsz := hb.size
    clear hpre hown hb hpb
    by_cases hlt : k < s.size
    · have HD : Hid ((nums s).drop k = (s[k].toNat : Int) :: (nums s).drop (k + 1)) := nums_drop s k hlt
      have hc1 : (s[k].toNat : Int) < 256 := by have := s[k].toNat_lt; omega
      have hc0 : (0 : Int) ≤ (s[k].toNat : Int) := by omega
      obtain ⟨c, hcc⟩ : ∃ c : Int, ((s[k]'hlt).toNat : Int) = c := ⟨_, rfl⟩
      rw [hcc] at HD hc1 hc0
      rw [HD.out] at HP
      by_cases hq : c < 33 ∨ 126 < c
      · have HN : Hid (markR 0 (nums s) = none) := by
          unfold Hid; rw [← HP.out, markR, if_pos hq, preU_none]
        have hbad : (decide (c ≤ 32) = true) ∨ (decide (c ≤ 32) = false ∧ decide (c > 126) = true) := by
          simp only [decide_eq_true_eq, decide_eq_false_iff_not]; omega
        clear hq
        rcases hbad with h1 | ⟨h1, h2⟩
        all_goals (
          go_wp2
          go_ret2
          exact ⟨_, false, rfl, ⟨fun e => (by cases e), fun _ => ⟨HN.out, rfl⟩⟩, HB.out⟩)
      · have h1 : decide (c ≤ 32) = false := decide_eq_false (by omega)
        have h2 : decide (c > 126) = false := decide_eq_false (by omega)
        rw [markR, if_neg hq] at HP
        by_cases h61 : c = 61
        · subst h61
          rw [if_neg (by decide), if_pos rfl] at HP
          have hb61 : ((61 : Int) == 61) = true := rfl
          clear hq
          by_cases h3 : s.size < k + 3
          · have HN : Hid (markR 0 (nums s) = none) := by
              have hl : ((nums s).drop (k + 1)).length < 2 := by rw [List.length_drop, nums_len]; omega
              have he : escU ((nums s).drop (k + 1)) = none := by
                match (nums s).drop (k + 1), hl with
                | [], _ => rfl
                | [_], _ => rfl
              unfold Hid; rw [← HP.out, he]; rfl
            have hd3 : decide ((s.size : Int) - (k : Int) < 3) = true := decide_eq_true (by omega)
            go_wp2
            go_ret2
            exact ⟨_, false, rfl, ⟨fun e => (by cases e), fun _ => ⟨HN.out, rfl⟩⟩, HB.out⟩
          · have hd3 : decide ((s.size : Int) - (k : Int) < 3) = false := decide_eq_false (by omega)
            have hk1 : k + 1 < s.size := by omega
            have hk2 : k + 2 < s.size := by omega
            have HDX : Hid ((nums s).drop (k + 1) = (s[k + 1].toNat : Int) :: (s[k + 2].toNat : Int) :: (nums s).drop (k + 3)) := by
              unfold Hid; rw [nums_drop s (k + 1) hk1, nums_drop s (k + 1 + 1) hk2]
            have hx1 : (s[k + 1].toNat : Int) < 256 := by have := s[k + 1].toNat_lt; omega
            have hy1 : (s[k + 2].toNat : Int) < 256 := by have := s[k + 2].toNat_lt; omega
            have hx0 : (0 : Int) ≤ (s[k + 1].toNat : Int) := by omega
            have hy0 : (0 : Int) ≤ (s[k + 2].toNat : Int) := by omega
            obtain ⟨x, hxx⟩ : ∃ c : Int, ((s[k + 1]'hk1).toNat : Int) = c := ⟨_, rfl⟩
            obtain ⟨y, hyy⟩ : ∃ c : Int, ((s[k + 2]'hk2).toNat : Int) = c := ⟨_, rfl⟩
            rw [hxx, hyy] at HDX
            rw [hxx] at hx1 hx0
            rw [hyy] at hy1 hy0
            rw [HDX.out] at HP
            have HVX := fun V => rhex_any x V hx0 hx1
            have HVY := fun V => rhex_any y V hy0 hy1
            have hbx : -1 ≤ hexU x ∧ hexU x < 16 := by unfold hexU; split <;> (try split) <;> omega
            have hby : -1 ≤ hexU y ∧ hexU y < 16 := by unfold hexU; split <;> (try split) <;> omega
            have HEX : Hid (escU (x :: y :: (nums s).drop (k + 3)) = if 0 ≤ hexU x ∧ 0 ≤ hexU y then some (16 * hexU x + hexU y) else none) := rfl
            generalize hexU x = vx at HVX hbx HEX
            generalize hexU y = vy at HVY hby HEX
            have i1 : (k : Int) + 1 < (s.size : Int) := by omega
            have i2 : (k : Int) + 2 < (s.size : Int) := by omega
            have i3 : (0 : Int) ≤ (k : Int) + 1 := by omega
            have i4 : (0 : Int) ≤ (k : Int) + 2 := by omega
            have i5 : ((k : Int) + 1).toNat = k + 1 := by omega
            have i6 : ((k : Int) + 2).toNat = k + 2 := by omega
            by_cases hvx : vx < 0
            · have HN : Hid (markR 0 (nums s) = none) := by
                unfold Hid; rw [← HP.out, HEX.out, if_neg (by omega)]; rfl
              have hdx : decide (vx < 0) = true := decide_eq_true hvx
              go_wp2_with (go_at_call_of 64 (Value.int IntKind.u8 x); refine (HVX _).mono ?_; rintro e w' ⟨rfl, rfl⟩)
              go_ret2
              exact ⟨_, false, rfl, ⟨fun e => (by cases e), fun _ => ⟨HN.out, rfl⟩⟩, HB.out⟩
            · have hdx : decide (vx < 0) = false := decide_eq_false hvx
              by_cases hvy : vy < 0
              · have HN : Hid (markR 0 (nums s) = none) := by
                  unfold Hid; rw [← HP.out, HEX.out, if_neg (by omega)]; rfl
                have hdy : decide (vy < 0) = true := decide_eq_true hvy
                go_wp2_with (first
                  | (go_at_call_of 64 (Value.int IntKind.u8 x); refine (HVX _).mono ?_; rintro e w' ⟨rfl, rfl⟩)
                  | (go_at_call_of 64 (Value.int IntKind.u8 y); refine (HVY _).mono ?_; rintro e w' ⟨rfl, rfl⟩))
                go_ret2
                exact ⟨_, false, rfl, ⟨fun e => (by cases e), fun _ => ⟨HN.out, rfl⟩⟩, HB.out⟩
              · have hdy : decide (vy < 0) = false := decide_eq_false hvy
                have HP3 : Hid (preU (pre ++ [16 * vx + vy]) (markR 0 ((nums s).drop (k + 3))) = markR 0 (nums s)) := by
                  have := HP.out
                  rw [HEX.out, if_pos ⟨by omega, by omega⟩] at this
                  simp only at this
                  rw [preU_snoc] at this
                  exact this
                go_wp2_with (first
                  | (go_at_call_of 64 (Value.int IntKind.u8 x); refine (HVX _).mono ?_; rintro e w' ⟨rfl, rfl⟩)
                  | (go_at_call_of 64 (Value.int IntKind.u8 y); refine (HVY _).mono ?_; rintro e w' ⟨rfl, rfl⟩))
                have hw1 : IntKind.i64.wrap ((k : Int) + 1) = (k : Int) + 1 := by rw [IntKind.wrap_i64]; omega
                have hw2 : IntKind.i64.wrap ((k : Int) + 2) = (k : Int) + 2 := by rw [IntKind.wrap_i64]; omega
                have hw3 : IntKind.i64.wrap (16 * vx) = 16 * vx := by rw [IntKind.wrap_i64]; omega
                have hw4 : IntKind.i64.wrap (16 * vx + vy) = 16 * vx + vy := by rw [IntKind.wrap_i64]; omega
                have hw5 : IntKind.u8.wrap (16 * vx + vy) = 16 * vx + vy := by simp [IntKind.wrap, IntKind.bits, IntKind.signed]; omega
                go_region_held3 (fun _ => True) (trivial) (first
                  | (go_at_call_of 64 (Value.int IntKind.u8 x); refine (HVX _).mono ?_; rintro e w' ⟨rfl, rfl⟩)
                  | (go_at_call_of 64 (Value.int IntKind.u8 y); refine (HVY _).mono ?_; rintro e w' ⟨rfl, rfl⟩)
                  | (refine step_append_own rfl (.tmp 48) (.tmp 62) 31 rfl w.heap.size 5 j0 (.int .u8 0) 1 1 Tryd.underlying31 hi hz0 hz1 hz2 rfl (by decide) u4 pre.length (pre.map (Value.int .u8)) rfl (HO.out.alloc _).drew ⟨wr.heap.size, 0, none⟩ 1 1 ([16 * vx + vy].map (Value.int .u8)) rfl rfl (fun j u hu => cells_new wr _ 5 j u hu) (ints_one _) ?_ ?_ ?_ ?_; (unfold maxLen; omega); omega; (simp; omega); intro v4 w4 hown4 hgrow4))
                all_goals (
                  have HB4 : Hid (Below w.heap.size w w4) := ((HB.out.alloc hsz _).drew).grown hgrow4 (by simp; omega) (fun k hk => (HO.out.lt k hk).1)
                  have HO4 : Hid (w4.ownsRow w.heap.size 5 1 v4 (pre ++ [16 * vx + vy]).length ((pre ++ [16 * vx + vy]).map (Value.int .u8))) := own_snoc1 hown4
                  clear hown4 hgrow4
                  go_wp2)
                all_goals exact ⟨⟨k + 3, pre ++ [16 * vx + vy], by first | go_num | rfl, by omega, by simp; omega, HP3.out, HPB.out.append (by intro x hx; simp at hx; omega), HO4.out, HB4.out⟩, by simp [intOf]; omega⟩
        · have b61 : (c == 61) = false := by rw [beq_eq_false_iff_ne]; exact h61
          by_cases h95 : c = 95
          · subst h95
            rw [if_pos rfl, preU_snoc] at HP
            go_wp2_with (at_builtin; refine wpList_append_own _ rfl (.tmp 71) (.tmp 73) 31 rfl w.heap.size 5 j0 (.int .u8 0) 1 1 Tryd.underlying31 hi hz0 hz1 hz2 rfl (by decide) _ _ _ rfl (HO.out.alloc _) ⟨wr.heap.size, 0, none⟩ 1 1 (([32] : List Int).map (Value.int .u8)) rfl rfl (cells_new _ _ _) (ints_one _) (by unfold maxLen; omega) (by omega) (by simp; omega) ?_)
            intro v4 w4 hown4 hgrow4 _
            have HB4 : Hid (Below w.heap.size w w4) := (HB.out.alloc hsz _).grown hgrow4 (by simp; omega) (fun k hk => (HO.out.lt k hk).1)
            have HO4 : Hid (w4.ownsRow w.heap.size 5 1 v4 (pre ++ [32]).length ((pre ++ [32]).map (Value.int .u8))) := own_snoc1 hown4
            clear hown4 hgrow4
            go_wp2
            go_roundw
            case rel => exact ⟨k + 1, pre ++ [32], by go_num, by omega, by simp; omega, HP.out, HPB.out.append (by intro x hx; simp at hx; omega), HO4.out, HB4.out⟩
            case measure => simp [intOf]; omega
          · have b95 : (c == 95) = false := by rw [beq_eq_false_iff_ne]; exact h95
            rw [if_neg h95, if_neg h61, preU_snoc] at HP
            go_wp2_with (at_builtin; refine wpList_append_own _ rfl (.tmp 71) (.tmp 73) 31 rfl w.heap.size 5 j0 (.int .u8 0) 1 1 Tryd.underlying31 hi hz0 hz1 hz2 rfl (by decide) _ _ _ rfl (HO.out.alloc _) ⟨wr.heap.size, 0, none⟩ 1 1 (([c] : List Int).map (Value.int .u8)) rfl rfl (cells_new _ _ _) (ints_one _) (by unfold maxLen; omega) (by omega) (by simp; omega) ?_)
            intro v4 w4 hown4 hgrow4 _
            have HB4 : Hid (Below w.heap.size w w4) := (HB.out.alloc hsz _).grown hgrow4 (by simp; omega) (fun k hk => (HO.out.lt k hk).1)
            have HO4 : Hid (w4.ownsRow w.heap.size 5 1 v4 (pre ++ [c]).length ((pre ++ [c]).map (Value.int .u8))) := own_snoc1 hown4
            clear hown4 hgrow4
            go_wp2
            go_roundw
            case rel => exact ⟨k + 1, pre ++ [c], by go_num, by omega, by simp; omega, HP.out, HPB.out.append (by intro x hx; simp at hx; subst hx; exact ⟨hc0, hc1⟩), HO4.out, HB4.out⟩
            case measure => simp [intOf]; omega
    · obtain rfl : k = s.size := by omega
      have hl1 : decide ((s.size : Int) < (s.size : Int)) = false := by simp
      obtain ⟨a, cap, rfl, _, _, hrow, _⟩ := own_row' HO.out
      have kc := conv_row pre.length cap rfl hrow
      have HE : Hid (markR 0 (nums s) = some pre) := by
        have := HP.out
        rw [List.drop_of_length_le (by rw [nums_len]; exact Nat.le_refl _)] at this
        unfold Hid; rw [← this]; simp [markR, preU]
      clear hrow
      go_wp2
      go_ret2
      exact ⟨_, true, rfl, ⟨fun _ => by rw [HE.out, nums_str HPB.out], fun e => (by cases e)⟩, HB.out⟩
end Go.Proofs.YtnhbmekhmkkccaaDoor
