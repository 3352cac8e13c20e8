/-
  A number in an id's signs: the contract of signed.
-/
import Derived.Test.YtomcjkghneingabDoorTk
import Derived.Maps.AppendAt
namespace Go.Proofs.YtomcjkghneingabDoor
open Go.RowKit Go.Shelf
set_option linter.unusedVariables false
set_option linter.unusedSimpArgs false

/-- A number's signs. -/
def sigC (d : Int) : Int := if d < 10 then 48 + d else 87 + d
def sgF : Nat → Int → List Int
  | 0, _ => []
  | f + 1, q => if q = 0 then [] else sgF f (q / 32) ++ [sigC (q % 32)]
def sgL (n : Int) : List Int := sgF 13 (n / 32) ++ [sigC (n % 32)]
def sgV (l : List Int) : Int := l.foldl (fun a c => 32 * a + (if c < 58 then c - 48 else c - 87)) 0
theorem sgF_len : ∀ (f : Nat) (q : Int), (sgF f q).length ≤ f
  | 0, q => Nat.le_refl _
  | f + 1, q => by
    unfold sgF
    split
    · simp
    · have := sgF_len f (q / 32); simp; omega
def sgOk (c : Int) : Prop := (48 ≤ c ∧ c ≤ 57) ∨ (97 ≤ c ∧ c ≤ 118)
theorem sig_ok {d : Int} (h0 : 0 ≤ d) (h1 : d < 32) : sgOk (sigC d) := by unfold sgOk sigC; split <;> omega
theorem sgF_ok : ∀ (f : Nat) (q : Int), ∀ x ∈ sgF f q, sgOk x
  | 0, q, x, h => by cases h
  | f + 1, q, x, h => by
    unfold sgF at h
    split at h
    · cases h
    · rcases List.mem_append.1 h with h | h
      · exact sgF_ok f _ x h
      · rw [List.mem_singleton.1 h]; exact sig_ok (by omega) (by omega)
theorem sgL_ok (n : Int) : ∀ x ∈ sgL n, sgOk x := fun x h => by
  rcases List.mem_append.1 h with h | h
  · exact sgF_ok _ _ x h
  · rw [List.mem_singleton.1 h]; exact sig_ok (by omega) (by omega)
theorem sgL_len (n : Int) : (sgL n).length ≤ 14 ∧ sgL n ≠ [] := by
  have := sgF_len 13 (n / 32)
  unfold sgL
  exact ⟨by simp; omega, by simp⟩
theorem sgV_snoc (l : List Int) {d : Int} (h0 : 0 ≤ d) (h1 : d < 32) : sgV (l ++ [sigC d]) = 32 * sgV l + d := by
  unfold sgV
  rw [List.foldl_append]
  simp only [List.foldl_cons, List.foldl_nil]
  congr 1
  unfold sigC
  split <;> split <;> omega
theorem sgF_val : ∀ (f : Nat) (q : Int), 0 ≤ q → q < 32 ^ f → sgV (sgF f q) = q
  | 0, q, h0, h1 => by rw [Int.pow_zero] at h1; obtain rfl : q = 0 := by omega
                       rfl
  | f + 1, q, h0, h1 => by
    rw [Int.pow_succ] at h1
    unfold sgF
    split
    · rename_i h; rw [h]; rfl
    · rw [sgV_snoc _ (by omega) (by omega), sgF_val f (q / 32) (by omega) (by omega)]; omega
theorem sgL_val {n : Int} (h0 : 0 ≤ n) (h1 : n ≤ 9223372036854775807) : sgV (sgL n) = n := by
  unfold sgL
  rw [sgV_snoc _ (by omega) (by omega), sgF_val 13 _ (by omega) (by
    have : (32 : Int) ^ 13 = 36893488147419103232 := by decide
    omega)]
  omega
theorem sgL_inj {n m : Int} (h0 : 0 ≤ n) (h1 : n ≤ 9223372036854775807) (h2 : 0 ≤ m) (h3 : m ≤ 9223372036854775807) (h : sgL n = sgL m) : n = m := by
  rw [← sgL_val h0 h1, h, sgL_val h2 h3]
theorem sgF_zero (f : Nat) : sgF f 0 = [] := by cases f <;> simp [sgF]
theorem sgF_more : ∀ (f : Nat) (q : Int), 0 ≤ q → q < 32 ^ f → sgF f q = sgF (f + 1) q
  | 0, q, h0, h1 => by rw [Int.pow_zero] at h1; obtain rfl : q = 0 := by omega
                       rw [sgF_zero, sgF_zero]
  | f + 1, q, h0, h1 => by
    rw [Int.pow_succ] at h1
    rw [sgF, sgF]
    by_cases hq : q = 0
    · rw [if_pos hq, if_pos hq]
    · rw [if_neg hq, if_neg hq, ← sgF_more f (q / 32) (by omega) (by omega)]
theorem sg_step {q : Int} (h0 : 0 ≤ q) (h1 : q < 32 ^ 12) : sgF 13 q = if q = 0 then [] else sgF 13 (q / 32) ++ [sigC (q % 32)] := by
  rw [sgF]
  by_cases hq : q = 0
  · rw [if_pos hq, if_pos hq]
  · rw [if_neg hq, if_neg hq, ← sgF_more 12 (q / 32) (by omega) (by
      have : (32 : Int) ^ 12 = 1152921504606846976 := by decide
      omega)]
theorem sg_nil {q : Int} (h0 : 0 ≤ q) (h1 : q < 32 ^ 12) : sgF 13 q = [] ↔ q = 0 := by
  rw [sg_step h0 h1]
  constructor
  · intro h
    split at h
    · assumption
    · simp at h
  · intro h; rw [if_pos h]
theorem and31 (q : Int) (h0 : 0 ≤ q) (h1 : q ≤ 9223372036854775807) : bits BinOp.and .i64 q 31 = q % 32 := by
  obtain ⟨n, rfl⟩ : ∃ n : Nat, q = n := ⟨q.toNat, by omega⟩
  have h2 : n < 2 ^ 64 := by omega
  have e1 : (BitVec.ofInt 64 (n : Int)).toNat = n := by
    rw [BitVec.toNat_ofInt]; omega
  have e2 : (BitVec.ofInt 64 (31 : Int)).toNat = 31 := by decide
  have e3 : n &&& 31 = n % 32 := Nat.and_two_pow_sub_one_eq_mod n 5
  show IntKind.i64.wrap (((BitVec.ofInt 64 (n : Int)) &&& (BitVec.ofInt 64 (31 : Int))).toNat : Int) = _
  rw [BitVec.toNat_and, e1, e2, e3, IntKind.wrap_i64]
  omega
set_option maxRecDepth 100000 in
theorem sig_at : ∀ (m : Nat) (h : m < 32), (((⟨#[48, 49, 50, 51, 52, 53, 54, 55, 56, 57, 97, 98, 99, 100, 101, 102, 103, 104, 105, 106, 107, 108, 109, 110, 111, 112, 113, 114, 115, 116, 117, 118]⟩ : ByteArray)[m]'h).toNat : Int) = sigC m := by decide
set_option maxHeartbeats 8000000 in
set_option maxRecDepth 100000 in
theorem signed_any (n : Int) (w : World) (h0 : 0 ≤ n) (h1 : n ≤ 9223372036854775807) : Calls Tryd.prog 20 #[.int .i64 n] w fun e w' => e = .returned (.string (strOfNums (sgL n))) ∧ Below w.heap.size w w' := by
  obtain ⟨j0, hi, hz0, hz1, hz2⟩ := info_parts Tryd.info5
  go_enter Tryd.func20, Tryd.ntmps20
  go_wp2
  go_loopw [3, 4, 5] (fun v p sg wr => Hid (Below w.heap.size w wr) ∧ ((p = .int .i64 (-5) ∧ Hid (Own wr w.heap.size v (sgL n))) ∨ ∃ j p' : Nat, Hid (p' = 5 * j ∧ j ≤ 12) ∧ p' ≤ 60 ∧ p = .int .i64 (p' : Int) ∧ Hid (Own wr w.heap.size v (sgF 13 (n / 32 ^ (j + 1)))))) (fun _ p _ _ => (intOf p + 5).toNat)
  case atStart =>
    refine ⟨Below.refl _ _, .inr ⟨12, 60, ⟨rfl, by omega⟩, by omega, rfl, ?_⟩⟩
    unfold Hid
    rw [show n / 32 ^ (12 + 1) = 0 by
      have : (32 : Int) ^ (12 + 1) = 36893488147419103232 := by decide
      rw [this]; omega, sgF_zero]
    exact World.ownsRow_nil _ _ _ _
  case round =>
    obtain ⟨HB, hv⟩ := hrel
    rcases hv with ⟨rfl, HO⟩ | ⟨j, p, HP, hp, rfl, HO⟩
    · obtain ⟨a, cap, rfl, hc1, hc2, hr, hn⟩ := own_row' HO.out
      have kc := conv_row (w := wr) (sgL n).length cap rfl hr
      have HS : Hid (Below w.heap.size w wr) := HB
      clear hr
      go_wp2
      go_ret
      exact ⟨rfl, HS.out⟩
    · obtain ⟨pre, hpre⟩ : ∃ pre, sgF 13 (n / 32 ^ (j + 1)) = pre := ⟨_, rfl⟩
      rw [hpre] at HO
      have hpl : pre.length ≤ 13 := by rw [← hpre]; exact sgF_len _ _
      obtain ⟨a, cap, rfl, hc1, hc2, hr, hn⟩ := own_row' HO.out
      obtain ⟨hp5, hj12⟩ := HP.out
      clear hr
      cases j with
      | zero =>
        obtain rfl : p = 0 := by omega
        obtain ⟨d, hd⟩ : ∃ d : Nat, n % 32 = d := ⟨(n % 32).toNat, by omega⟩
        have hd2 : d < 32 := by omega
        have hand : bits BinOp.and .i64 n 31 = (d : Int) := (and31 n h0 h1).trans hd
        have HPR : Hid (sgF 13 (n / 32) = pre) := hpre
        have HDD : Hid (sigC (d : Int) = sigC (n % 32)) := by unfold Hid; rw [hd]
        have em := sig_at d hd2
        clear hpre hd hp5 hj12 HP
        by_cases hd0 : d = 0
        · subst hd0
          have em0 : sigC ((0 : Nat) : Int) = 48 := by decide
          cases pre with
          | nil =>
            go_wp2_with (at_builtin; refine wpList_append_own _ rfl (.tmp 25) (.tmp 28) 55 rfl w.heap.size 5 j0 (.int .u8 0) 1 1 Tryd.underlying55 hi hz0 hz1 hz2 rfl (by decide) _ _ _ rfl (HO.out.alloc _) ⟨wr.heap.size, 0, none⟩ 1 1 ([48].map (Value.int .u8)) rfl rfl (cells_new _ _ _) (ints_one _) ?a1 ?a2 ?a3 ?_)
            case a1 => unfold maxLen; omega
            case a2 => omega
            case a3 => have := HB.out.size; simp; omega
            intro v' w1 hown1 hgrow1 _
            have HB1 : Hid (Below w.heap.size w w1) := (HB.out.alloc HB.out.size _).grown hgrow1 (by have := HB.out.size; simp; omega) (fun k hk => by have := (HO.out.lt k hk).1; omega)
            have HO1 : Hid (Own w1 w.heap.size v' (([] : List Int) ++ [48])) := own_snoc hown1
            clear hgrow1 hown1
            go_wp2
            go_roundw
            case rel => exact ⟨HB1, .inl ⟨rfl, by unfold Hid sgL; rw [HPR.out]; exact HDD.out ▸ HO1.out⟩⟩
            case measure => simp [intOf]
          | cons c r =>
            have hl : decide ((0 : Int) < ((c :: r).length : Int)) = true := decide_eq_true (by rw [List.length_cons]; omega)
            go_wp2_with (at_builtin; refine wpList_append_own _ rfl (.tmp 25) (.tmp 28) 55 rfl w.heap.size 5 j0 (.int .u8 0) 1 1 Tryd.underlying55 hi hz0 hz1 hz2 rfl (by decide) _ _ _ rfl (HO.out.alloc _) ⟨wr.heap.size, 0, none⟩ 1 1 ([48].map (Value.int .u8)) rfl rfl (cells_new _ _ _) (ints_one _) ?a1 ?a2 ?a3 ?_)
            case a1 => unfold maxLen; omega
            case a2 => omega
            case a3 => have := HB.out.size; simp; omega
            intro v' w1 hown1 hgrow1 _
            have HB1 : Hid (Below w.heap.size w w1) := (HB.out.alloc HB.out.size _).grown hgrow1 (by have := HB.out.size; simp; omega) (fun k hk => by have := (HO.out.lt k hk).1; omega)
            have HO1 : Hid (Own w1 w.heap.size v' ((c :: r) ++ [48])) := own_snoc hown1
            clear hgrow1 hown1
            go_wp2
            go_roundw
            case rel => exact ⟨HB1, .inl ⟨rfl, by unfold Hid sgL; rw [HPR.out]; exact HDD.out ▸ HO1.out⟩⟩
            case measure => simp [intOf]
        · have hd3 : ((d : Int) == 0) = false := by simp; omega
          have hd4 : ((d : Int) != 0) = true := by simp; omega
          have hd5 : ¬ (d : Int) = 0 := by omega
          go_wp2_with (at_builtin; refine wpList_append_own _ rfl (.tmp 25) (.tmp 28) 55 rfl w.heap.size 5 j0 (.int .u8 0) 1 1 Tryd.underlying55 hi hz0 hz1 hz2 rfl (by decide) _ _ _ rfl (HO.out.alloc _) ⟨wr.heap.size, 0, none⟩ 1 1 ([sigC d].map (Value.int .u8)) rfl rfl (cells_new _ _ _) (ints_one _) ?a1 ?a2 ?a3 ?_)
          case a1 => unfold maxLen; omega
          case a2 => omega
          case a3 => have := HB.out.size; simp; omega
          intro v' w1 hown1 hgrow1 _
          have HB1 : Hid (Below w.heap.size w w1) := (HB.out.alloc HB.out.size _).grown hgrow1 (by have := HB.out.size; simp; omega) (fun k hk => by have := (HO.out.lt k hk).1; omega)
          have HO1 : Hid (Own w1 w.heap.size v' (pre ++ [sigC d])) := own_snoc hown1
          clear hgrow1 hown1
          go_wp2
          go_roundw
          case rel => exact ⟨HB1, .inl ⟨rfl, by unfold Hid sgL; rw [HPR.out]; exact HDD.out ▸ HO1.out⟩⟩
          case measure => simp [intOf]
      | succ j =>
        have hpw : (2 : Int) ^ p = 32 ^ (j + 1) := by
          rw [hp5, Int.pow_mul]; rfl
        have hpos : (0 : Int) < 32 ^ (j + 1) := Int.pow_pos (by decide)
        obtain ⟨q, hq⟩ : ∃ q, n / 2 ^ p = q := ⟨_, rfl⟩
        have hq0 : 0 ≤ q := by rw [← hq, hpw]; exact Int.ediv_nonneg h0 (by omega)
        have hq2 : n / 32 ^ (j + 1 + 1) = q / 32 := by
          rw [← hq, hpw, Int.pow_succ, Int.ediv_ediv_of_nonneg (by omega)]
        have hqn : q ≤ n := by rw [← hq, hpw]; exact Int.ediv_le_self _ h0
        have HQ32 : Hid (q < 32 ^ 12) := by
          unfold Hid
          have e1 : (32 : Int) ^ (j + 1) = 32 * 32 ^ j := by rw [Int.pow_succ, Int.mul_comm]
          have e2 : (1 : Int) ≤ 32 ^ j := by have : (0 : Int) < 32 ^ j := Int.pow_pos (by decide)
                                             omega
          have e3 : (32 : Int) ^ 12 = 1152921504606846976 := by decide
          have e4 : n / 32 ^ (j + 1) ≤ n / 32 := by
            rw [e1, ← Int.ediv_ediv_of_nonneg (by omega)]
            exact Int.ediv_le_self _ (by omega)
          rw [e3, ← hq, hpw]
          omega
        obtain ⟨d, hd⟩ : ∃ d : Nat, q % 32 = d := ⟨(q % 32).toNat, by omega⟩
        have hd2 : d < 32 := by omega
        have hand : bits BinOp.and .i64 q 31 = (d : Int) := (and31 q hq0 (by omega)).trans hd
        have HPR : Hid (sgF 13 (q / 32) = pre) := by unfold Hid; rw [← hq2]; exact hpre
        have HQ : Hid (n / 32 ^ (j + 1) = q) := by unfold Hid; rw [← hpw]; exact hq
        have HDD : Hid (sigC (d : Int) = sigC (q % 32)) := by unfold Hid; rw [hd]
        have HD0 : Hid (q % 32 = (d : Int)) := hd
        have HNE : Hid (d ≠ 0 ∨ pre ≠ [] → ¬ q = 0) := by
          rintro h rfl
          rcases h with h | h
          · apply h; omega
          · apply h; rw [← HPR.out]; exact sgF_zero _
        have em := sig_at d hd2
        have hpp : (p : Int) - 5 = ((5 * j : Nat) : Int) := by omega
        have hp6 : ((p : Int) == 0) = false := by simp; omega
        have hp7 : ¬ (p : Int) = 0 := by omega
        have hp8 : 5 ≤ (p : Int) := by omega
        have hp9 : ¬ p = 0 := by omega
        have hp10 : (p == 0) = false := by simp; omega
        clear hpre hpw hpos hq2 hd hqn HP hp5
        by_cases hd0 : d = 0
        · subst hd0
          cases pre with
          | nil =>
            have HZZ : Hid (sgF 13 q = []) := by
              unfold Hid
              have h12 : q / 32 < 32 ^ 12 := by
                have e3 : (32 : Int) ^ 12 = 1152921504606846976 := by decide
                have := HQ32.out
                omega
              have h := (sg_nil (q := q / 32) (by omega) h12).1 HPR.out
              have h2 := HD0.out
              obtain rfl : q = 0 := by omega
              exact sgF_zero _
            go_wp2
            go_roundw
            case rel => exact ⟨HB, .inr ⟨j, 5 * j, ⟨rfl, by omega⟩, by omega, by go_num, by unfold Hid; rw [HQ.out, HZZ.out]; exact HO.out⟩⟩
            case measure => simp [intOf]; omega
          | cons c r =>
            have em0 : sigC ((0 : Nat) : Int) = 48 := by decide
            have hl : decide ((0 : Int) < ((c :: r).length : Int)) = true := decide_eq_true (by rw [List.length_cons]; omega)
            have HNE2 := HNE.out (.inr (by simp))
            go_wp2_with (at_builtin; refine wpList_append_own _ rfl (.tmp 25) (.tmp 28) 55 rfl w.heap.size 5 j0 (.int .u8 0) 1 1 Tryd.underlying55 hi hz0 hz1 hz2 rfl (by decide) _ _ _ rfl (HO.out.alloc _) ⟨wr.heap.size, 0, none⟩ 1 1 ([48].map (Value.int .u8)) rfl rfl (cells_new _ _ _) (ints_one _) ?a1 ?a2 ?a3 ?_)
            case a1 => unfold maxLen; omega
            case a2 => omega
            case a3 => have := HB.out.size; simp; omega
            intro v' w1 hown1 hgrow1 _
            have HB1 : Hid (Below w.heap.size w w1) := (HB.out.alloc HB.out.size _).grown hgrow1 (by have := HB.out.size; simp; omega) (fun k hk => by have := (HO.out.lt k hk).1; omega)
            have HO1 : Hid (Own w1 w.heap.size v' ((c :: r) ++ [48])) := own_snoc hown1
            clear hgrow1 hown1
            go_wp2
            go_roundw
            case rel => exact ⟨HB1, .inr ⟨j, 5 * j, ⟨rfl, by omega⟩, by omega, by go_num, by unfold Hid; rw [HQ.out, sg_step hq0 HQ32.out, if_neg HNE2, HPR.out]; exact HDD.out ▸ HO1.out⟩⟩
            case measure => simp [intOf]; omega
        · have hd3 : ((d : Int) == 0) = false := by simp; omega
          have hd4 : ((d : Int) != 0) = true := by simp; omega
          have hd5 : ¬ (d : Int) = 0 := by omega
          have HNE2 := HNE.out (.inl hd0)
          go_wp2_with (at_builtin; refine wpList_append_own _ rfl (.tmp 25) (.tmp 28) 55 rfl w.heap.size 5 j0 (.int .u8 0) 1 1 Tryd.underlying55 hi hz0 hz1 hz2 rfl (by decide) _ _ _ rfl (HO.out.alloc _) ⟨wr.heap.size, 0, none⟩ 1 1 ([sigC d].map (Value.int .u8)) rfl rfl (cells_new _ _ _) (ints_one _) ?a1 ?a2 ?a3 ?_)
          case a1 => unfold maxLen; omega
          case a2 => omega
          case a3 => have := HB.out.size; simp; omega
          intro v' w1 hown1 hgrow1 _
          have HB1 : Hid (Below w.heap.size w w1) := (HB.out.alloc HB.out.size _).grown hgrow1 (by have := HB.out.size; simp; omega) (fun k hk => by have := (HO.out.lt k hk).1; omega)
          have HO1 : Hid (Own w1 w.heap.size v' (pre ++ [sigC d])) := own_snoc hown1
          clear hgrow1 hown1
          go_wp2
          go_roundw
          case rel => exact ⟨HB1, .inr ⟨j, 5 * j, ⟨rfl, by omega⟩, by omega, by go_num, by unfold Hid; rw [HQ.out, sg_step hq0 HQ32.out, if_neg HNE2, HPR.out]; exact HDD.out ▸ HO1.out⟩⟩
          case measure => simp [intOf]; omega
end Go.Proofs.YtomcjkghneingabDoor
