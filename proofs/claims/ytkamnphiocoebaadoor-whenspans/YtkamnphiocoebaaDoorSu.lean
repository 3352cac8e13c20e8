/-
  The document's own lengths: the contracts of its order, worth and sum.
-/
import Derived.Test.YtkamnphiocoebaaDoorPi
namespace Go.Proofs.YtkamnphiocoebaaDoor
open Go.RowKit
set_option linter.unusedVariables false

theorem order_any (c : Int) (w : World) (h0 : 0 ≤ c) (h1 : c < 256) :
    Calls Tryd.prog 45 #[.int .u8 c] w fun e w' => e = .returned (.int .i64 (ordZ c)) ∧ w = w' := by
  unfold ordZ
  by_cases q0 : c = 68
  · rw [if_pos q0]
    subst q0
    go_enter Tryd.func45, Tryd.ntmps45
    go_wp2
    go_ret
    exact ⟨rfl, rfl⟩
  · rw [if_neg q0]
    have m0 : (c == 68) = false := by simp [q0]
    by_cases q1 : c = 84
    · rw [if_pos q1]
      subst q1
      go_enter Tryd.func45, Tryd.ntmps45
      go_wp2
      go_ret
      exact ⟨rfl, rfl⟩
    · rw [if_neg q1]
      have m1 : (c == 84) = false := by simp [q1]
      by_cases q2 : c = 72
      · rw [if_pos q2]
        subst q2
        go_enter Tryd.func45, Tryd.ntmps45
        go_wp2
        go_ret
        exact ⟨rfl, rfl⟩
      · rw [if_neg q2]
        have m2 : (c == 72) = false := by simp [q2]
        by_cases q3 : c = 77
        · rw [if_pos q3]
          subst q3
          go_enter Tryd.func45, Tryd.ntmps45
          go_wp2
          go_ret
          exact ⟨rfl, rfl⟩
        · rw [if_neg q3]
          have m3 : (c == 77) = false := by simp [q3]
          by_cases q4 : c = 83
          · rw [if_pos q4]
            subst q4
            go_enter Tryd.func45, Tryd.ntmps45
            go_wp2
            go_ret
            exact ⟨rfl, rfl⟩
          · rw [if_neg q4]
            have m4 : (c == 83) = false := by simp [q4]
            go_enter Tryd.func45, Tryd.ntmps45
            go_wp2
            go_ret
            exact ⟨rfl, rfl⟩
theorem worth_any (c : Int) (w : World) (h0 : 0 ≤ c) (h1 : c < 256) :
    Calls Tryd.prog 46 #[.int .u8 c] w fun e w' => e = .returned (.int .i64 (worthZ c)) ∧ w = w' := by
  unfold worthZ
  by_cases q0 : c = 68
  · rw [if_pos q0]
    subst q0
    go_enter Tryd.func46, Tryd.ntmps46
    go_wp2
    go_ret
    exact ⟨rfl, rfl⟩
  · rw [if_neg q0]
    have m0 : (c == 68) = false := by simp [q0]
    by_cases q1 : c = 72
    · rw [if_pos q1]
      subst q1
      go_enter Tryd.func46, Tryd.ntmps46
      go_wp2
      go_ret
      exact ⟨rfl, rfl⟩
    · rw [if_neg q1]
      have m1 : (c == 72) = false := by simp [q1]
      by_cases q2 : c = 77
      · rw [if_pos q2]
        subst q2
        go_enter Tryd.func46, Tryd.ntmps46
        go_wp2
        go_ret
        exact ⟨rfl, rfl⟩
      · rw [if_neg q2]
        have m2 : (c == 77) = false := by simp [q2]
        by_cases q3 : c = 83
        · rw [if_pos q3]
          subst q3
          go_enter Tryd.func46, Tryd.ntmps46
          go_wp2
          go_ret
          exact ⟨rfl, rfl⟩
        · rw [if_neg q3]
          have m3 : (c == 83) = false := by simp [q3]
          go_enter Tryd.func46, Tryd.ntmps46
          go_wp2
          go_ret
          exact ⟨rfl, rfl⟩
theorem flatP_at : ∀ (ps : List (Int × Int)) (k : Nat) (hk : k < ps.length) (j : Nat), j < 2 → (ps.flatMap cellP)[k * 2 + j]? = (cellP ps[k])[j]?
  | [], k, hk, j, hj => by simp at hk
  | x :: ps, 0, hk, j, hj => by
    rw [List.flatMap_cons, List.getElem?_append_left (by simp [cellP]; omega)]; simp
  | x :: ps, k + 1, hk, j, hj => by
    have ih := flatP_at ps k (by simpa using hk) j hj
    rw [List.flatMap_cons, List.getElem?_append_right (by simp [cellP]; omega)]
    simp only [List.getElem_cons_succ]
    rw [← ih]
    congr 1
    simp [cellP]
    omega
theorem pieceAt {w : World} {B : Nat} {v : Value} {ps : List (Int × Int)} (h : OwnP w B v ps) (hne : ps ≠ []) : ∃ g cp, v = .slice (some ⟨g, 0, none⟩) ps.length cp ∧ ps.length ≤ cp ∧ cp ≤ maxLen ∧
    ∀ (k : Nat) (hk : k < ps.length), w.cell? ⟨g, k * 2, none⟩ = some (.int .i64 (ps[k]).1) ∧ w.cell? ⟨g, k * 2 + 1, none⟩ = some (.int .u8 (ps[k]).2) := by
  rcases h.2 with ⟨rfl, hn⟩ | ⟨g, cp, cur, rfl, hb, hg, hn, hm, hs, ht⟩
  · exact absurd (List.eq_nil_of_length_eq_zero hn) hne
  · refine ⟨g, cp, rfl, hn, hm, fun k hk => ?_⟩
    have key : ∀ j, j < 2 → ∀ u, (cellP ps[k])[j]? = some u → w.cell? ⟨g, k * 2 + j, none⟩ = some u := by
      intro j hj u hu
      have hc := h.cells (g := g) rfl (k * 2 + j) u (by rw [flatP_at ps k hk j hj]; exact hu)
      rw [add_plain] at hc
      simpa using hc
    exact ⟨key 0 (by omega) _ rfl, key 1 (by omega) _ rfl⟩
theorem ownP_shape {w : World} {B : Nat} {v : Value} {ps : List (Int × Int)} (h : OwnP w B v ps) : ∃ a c, v = .slice a ps.length c := by
  rcases h.2 with ⟨rfl, hn⟩ | ⟨g, cp, cur, rfl, _⟩
  · exact ⟨none, 0, by rw [hn]⟩
  · exact ⟨_, _, rfl⟩
theorem ord_in (c : Int) : -1 ≤ ordZ c ∧ ordZ c ≤ 4 := by
  unfold ordZ; split
  · omega
  · split
    · omega
    · split
      · omega
      · split
        · omega
        · split <;> omega
theorem ord_T (c : Int) (h : ordZ c = 1) : c = 84 := by
  unfold ordZ at h
  split at h
  · omega
  · split at h
    · assumption
    · split at h
      · omega
      · split at h
        · omega
        · split at h <;> omega
theorem worth_in (c : Int) : 0 ≤ worthZ c ∧ worthZ c ≤ 86400 := by
  unfold worthZ; split
  · omega
  · split
    · omega
    · split
      · omega
      · split <;> omega
theorem sum_nil (v : Value) (w : World) (B : Nat) (h : OwnP w B v []) :
    Calls Tryd.prog 39 #[v] w fun e w' => e = .returned (.int .i64 (-1)) ∧ w = w' := by
  obtain ⟨a, c, rfl⟩ := ownP_shape h
  clear h
  go_enter Tryd.func39, Tryd.ntmps39
  go_wp2
  refine wp_loop_rounds 1 ?_; rw [rounds_succ]
  go_wp2
  go_ret
  exact ⟨rfl, rfl⟩
/-- What is summed so far. -/
def wasZ (ps : List (Int × Int)) (i : Nat) : Int := if i = 0 then -1 else ordZ (ps.getD (i - 1) (0, 0)).2
structure ZJ (ps : List (Int × Int)) (i : Nat) (acc : Int) : Prop where
  top : i ≤ ps.length
  a0 : 0 ≤ acc
  a1 : acc ≤ (i : Int) * 864000000000000
  eq : sumK (-1) 0 ps = sumK (wasZ ps i) acc (ps.drop i)
  ne : ∀ (j : Nat) {p : Int × Int}, ps[j]? = some p → j < i → ordZ p.2 ≠ -1
theorem zj_step {ps : List (Int × Int)} {i : Nat} {acc : Int} {p : Int × Int} (h : ZJ ps i acc) (hp : ps[i]? = some p) :
    sumK (-1) 0 ps = if ordZ p.2 < 0 ∨ badZ (wasZ ps i) (ordZ p.2) then -1 else sumK (ordZ p.2) (acc + p.1 * worthZ p.2) (ps.drop (i + 1)) := by
  obtain ⟨hi, e⟩ := List.getElem?_eq_some_iff.1 hp
  rw [h.eq, List.drop_eq_getElem_cons hi, e]; rfl
theorem was_next {ps : List (Int × Int)} {i : Nat} {p : Int × Int} (hp : ps[i]? = some p) : wasZ ps (i + 1) = ordZ p.2 := by
  unfold wasZ
  rw [if_neg (by omega), Nat.add_sub_cancel, List.getD_eq_getElem?_getD, hp]; rfl
theorem was_zero (ps : List (Int × Int)) : wasZ ps 0 = -1 := rfl
theorem zj_next {ps : List (Int × Int)} {i : Nat} {acc : Int} {p : Int × Int} (h : ZJ ps i acc) (hp : ps[i]? = some p) (hb : ¬ (ordZ p.2 < 0 ∨ badZ (wasZ ps i) (ordZ p.2))) (h0 : 0 ≤ p.1) (h1 : p.1 < 10000000000) :
    ZJ ps (i + 1) (acc + p.1 * worthZ p.2) := by
  obtain ⟨hi, e⟩ := List.getElem?_eq_some_iff.1 hp
  have hw := worth_in p.2
  have m0 := Int.mul_nonneg h0 hw.1
  have m1 : p.1 * worthZ p.2 ≤ 864000000000000 := by
    have a := Int.mul_le_mul_of_nonneg_left hw.2 h0
    omega
  have ha0 := h.a0
  have ha1 := h.a1
  refine ⟨by omega, by omega, by omega, ?_, ?_⟩
  · rw [zj_step h hp, if_neg hb, was_next hp]
  · intro j q hq hj
    by_cases e : j = i
    · subst e
      rw [hp] at hq
      obtain rfl := Option.some.inj hq
      intro r
      exact hb (.inl (by omega))
    · exact h.ne j hq (by omega)
theorem zj_last {ps : List (Int × Int)} {acc : Int} (h : ZJ ps ps.length acc) : sumK (-1) 0 ps = if wasZ ps ps.length = -1 ∨ wasZ ps ps.length = 1 then -1 else acc := by
  rw [h.eq, List.drop_of_length_le (Nat.le_refl _)]; rfl
theorem cell_kept {w v : World} {p : Addr} {x : Value} (hb : Below w.heap.size w v) (h : w.cell? p = some x) : v.cell? p = some x := (hb.cell (World.block_lt_of_cell? w p h)).trans h
set_option maxHeartbeats 8000000 in
set_option maxRecDepth 100000 in
theorem sum_any (ps : List (Int × Int)) (v : Value) (w : World) (B : Nat) (h : OwnP w B v ps) (hl : ps.length ≤ 1000) (hok : ∀ p ∈ ps, (0 ≤ p.1 ∧ p.1 < 10000000000) ∧ (0 ≤ p.2 ∧ p.2 < 256)) :
    Calls Tryd.prog 39 #[v] w fun e w' => e = .returned (.int .i64 (sumR ps)) ∧ Below w.heap.size w w' := by
  by_cases hne : ps = []
  · subst hne
    refine (sum_nil v w B h).mono ?_
    rintro e w' ⟨rfl, rfl⟩
    exact ⟨rfl, Below.refl _ _⟩
  obtain ⟨g, cp, rfl, hcp, hmx, hcell⟩ := pieceAt h hne
  unfold maxLen at hmx
  have hpos : 0 < ps.length := List.length_pos_iff.2 hne
  have HC : Hid (∀ k, ∀ p, ps[k]? = some p → w.cell? ⟨g, k * 2, none⟩ = some (.int .i64 p.1) ∧ w.cell? ⟨g, k * 2 + 1, none⟩ = some (.int .u8 p.2)) := fun k p hp => by
    obtain ⟨hk, e⟩ := List.getElem?_eq_some_iff.1 hp
    have := hcell k hk
    rw [e] at this; exact this
  have HK : Hid (∀ (k : Nat) p, ps[k]? = some p → (0 ≤ p.1 ∧ p.1 < 10000000000) ∧ (0 ≤ p.2 ∧ p.2 < 256)) := fun k p hp => hok p (List.mem_of_getElem? hp)
  clear h hok hcell
  obtain ⟨p0, hp0⟩ : ∃ p, ps[0]? = some p := ⟨ps[0], List.getElem?_eq_getElem hpos⟩
  obtain ⟨c00, c01⟩ := HC.out 0 p0 hp0
  have k0 := HK.out 0 p0 hp0
  obtain ⟨N0, U0⟩ := p0
  simp only [Nat.zero_mul, Nat.zero_add] at c00 c01 k0
  have P0 : Hid (ps[0]? = some (N0, U0)) := hp0
  obtain ⟨L, hL⟩ : ∃ L, ps.length = L := ⟨_, rfl⟩
  have HLL : Hid (ps.length = L) := hL
  rw [hL] at hl hcp hpos ⊢
  by_cases hW : L = 1 ∧ U0 = 87
  · obtain ⟨rfl, rfl⟩ := hW
    have HS : Hid (sumR ps = 604800 * N0) := by
      obtain ⟨q, rfl⟩ := List.length_eq_one_iff.1 HLL.out
      have h0 : [q][0]? = some (N0, 87) := P0.out
      simp at h0
      subst h0
      rfl
    clear hL hp0 HC HK hne P0
    go_enter Tryd.func39, Tryd.ntmps39
    go_wp2
    go_ret
    exact ⟨by rw [HS.out]; rfl, Below.refl _ _⟩
  · have HS : Hid (sumR ps = sumK (-1) 0 ps) := by
      refine sumR_K ps (fun n e => hW ?_)
      have hlen := HLL.out
      have h0 := P0.out
      rw [e] at hlen h0
      simp at hlen h0
      exact ⟨hlen.symm, h0.2.symm⟩
    have hgd : (((L : Int) == 1) && (U0 == 87)) = false := by
      rw [← Bool.not_eq_true]; simp only [Bool.and_eq_true, beq_iff_eq]; rintro ⟨a, b⟩; exact hW ⟨by omega, b⟩
    rw [HS.out]
    clear hL hp0
    by_cases hL1 : L = 1
    · have hUU : (U0 == 87) = false := by simp; exact fun q => hW ⟨hL1, q⟩
      have t1 : ((L : Int) == 1) = true := by simp; omega
      clear hgd hW hL1
      go_enter Tryd.func39, Tryd.ntmps39
      go_wp2
      clear t1
      go_loopw [3, 4] (fun a b wr => ∃ (acc : Int) (i : Nat), a = .int .i64 acc ∧ b = .int .i64 i ∧ ZJ ps i acc ∧ Below w.heap.size w wr) (fun _ b _ => L - (intOf b).toNat)
      case atStart => exact ⟨0, 0, rfl, rfl, ⟨by omega, by omega, by omega, rfl, fun j _ _ hj => by omega⟩, Below.refl _ _⟩
      case round =>
        obtain ⟨acc, i, rfl, rfl, hz, hb⟩ := hrel
        have HZ : Hid (ZJ ps i acc) := hz
        have HB : Hid (Below w.heap.size w wr) := hb
        have ha0 := hz.a0
        have ha1 := hz.a1
        have hil : i ≤ L := by have := hz.top; rw [HLL.out] at this; exact this
        clear hz hb c00 c01
        by_cases hlt : i < L
        · obtain ⟨p, hp⟩ : ∃ p, ps[i]? = some p := ⟨ps[i]'(by rw [HLL.out]; exact hlt), List.getElem?_eq_getElem _⟩
          obtain ⟨c0, c1⟩ := HC.out i p hp
          replace c0 := cell_kept HB.out c0
          replace c1 := cell_kept HB.out c1
          have kk := HK.out i p hp
          have HST := zj_step HZ.out hp
          have HNX := fun hb => zj_next HZ.out hp hb kk.1.1 kk.1.2
          obtain ⟨n, u⟩ := p
          simp only at c0 c1 kk HST HNX
          have hou := ord_in u
          have hww := worth_in u
          have HO : Hid (∀ v, Calls Tryd.prog 45 #[.int .u8 u] v fun e w' => e = .returned (.int .i64 (ordZ u)) ∧ v = w') := fun v => order_any u v kk.2.1 kk.2.2
          have HWO : Hid (∀ v, Calls Tryd.prog 46 #[.int .u8 u] v fun e w' => e = .returned (.int .i64 (worthZ u)) ∧ v = w') := fun v => worth_any u v kk.2.1 kk.2.2
          obtain ⟨⟨n0, n1⟩, u0, u1⟩ := kk
          have HS1 : Hid (sumK (-1) 0 ps = if ordZ u < 0 ∨ badZ (wasZ ps i) (ordZ u) then -1 else sumK (ordZ u) (acc + n * worthZ u) (ps.drop (i + 1))) := HST
          have HN1 : Hid (¬ (ordZ u < 0 ∨ badZ (wasZ ps i) (ordZ u)) → ZJ ps (i + 1) (acc + n * worthZ u)) := HNX
          clear HST HNX
          have hnz : 0 ≤ n * worthZ u := Int.mul_nonneg n0 hww.1
          have hnz2 : n * worthZ u ≤ 864000000000000 := by
            have a := Int.mul_le_mul_of_nonneg_left hww.2 n0
            omega
          generalize ordZ u = O at *
          generalize worthZ u = WU at *
          cases i with
          | zero =>
            rw [was_zero] at HS1 HN1
            by_cases hO : O < 0
            · have HV : Hid (sumK (-1) 0 ps = -1) := by unfold Hid; rw [HS1.out, if_pos (.inl hO)]
              clear HS1 HN1
              go_wp2_with fail
              refine (HO.out _).mono ?_
              rintro e w2 ⟨rfl, rfl⟩
              go_wp2
              go_ret
              exact ⟨by rw [HV.out]; rfl, HB.out⟩
            · by_cases hO1 : 1 < O
              · have HV : Hid (sumK (-1) 0 ps = -1) := by unfold Hid; rw [HS1.out, if_pos (.inr (by unfold badZ; omega))]
                clear HS1 HN1
                go_wp2_with fail
                refine (HO.out _).mono ?_
                rintro e w2 ⟨rfl, rfl⟩
                go_wp2
                go_ret
                exact ⟨by rw [HV.out]; rfl, HB.out⟩
              · have HNN : Hid (ZJ ps (0 + 1) (acc + n * WU)) := HN1.out (by unfold badZ; omega)
                clear HS1 HN1
                go_wp2_with fail
                refine (HO.out _).mono ?_
                rintro e w2 ⟨rfl, rfl⟩
                have q1 : IntKind.i64.wrap (n * WU) = n * WU := by rw [IntKind.wrap_i64]; omega
                have q2 : IntKind.i64.wrap (acc + n * WU) = acc + n * WU := by rw [IntKind.wrap_i64]; omega
                go_wp2_with fail
                go_quiet (first | (go_at_call 46; exact Calls.quiet_of_same ((HWO.out _).mono fun e w' h => ⟨h.1, h.2.symm⟩)))
                clear q1 q2 c0 c1 hp hnz hnz2
                go_wp2
                go_roundw
                case rel => exact ⟨acc + n * WU, 0 + 1, rfl, by go_num, HNN.out, below_drewN HB.out _⟩
                case measure => simp [intOf]; omega
          | succ j =>
            obtain ⟨r, hr⟩ : ∃ r, ps[j]? = some r := ⟨ps[j]'(by rw [HLL.out]; omega), List.getElem?_eq_getElem _⟩
            rw [was_next hr] at HS1 HN1
            have c3 := cell_kept HB.out (HC.out j r hr).2
            have kr := (HK.out j r hr).2
            obtain ⟨n', u'⟩ := r
            simp only at HS1 HN1 c3 kr
            have hor := ord_in u'
            have hrn : ordZ u' ≠ -1 := HZ.out.ne j hr (by omega)
            have HO2 : Hid (∀ v, Calls Tryd.prog 45 #[.int .u8 u'] v fun e w' => e = .returned (.int .i64 (ordZ u')) ∧ v = w') := fun v => order_any u' v kr.1 kr.2
            generalize ordZ u' = R at *
            by_cases hO : O < 0
            · have HV : Hid (sumK (-1) 0 ps = -1) := by unfold Hid; rw [HS1.out, if_pos (.inl hO)]
              clear HS1 HN1
              go_wp2_with fail
              refine (HO.out _).mono ?_
              rintro e w2 ⟨rfl, rfl⟩
              go_wp2
              go_ret
              exact ⟨by rw [HV.out]; rfl, HB.out⟩
            · skip
              by_cases hR0 : R = 0
              · subst hR0
                by_cases hx : O = 1
                · subst hx
                  have HNN : Hid (ZJ ps (j + 1 + 1) (acc + n * WU)) := HN1.out (by unfold badZ; omega)
                  clear HS1 HN1
                  go_wp2_with fail
                  refine (HO.out _).mono ?_
                  rintro e w2 ⟨rfl, rfl⟩
                  go_wp2_with fail
                  refine (HO2.out _).mono ?_
                  rintro e w2 ⟨rfl, rfl⟩
                  have q1 : IntKind.i64.wrap (n * WU) = n * WU := by rw [IntKind.wrap_i64]; omega
                  have q2 : IntKind.i64.wrap (acc + n * WU) = acc + n * WU := by rw [IntKind.wrap_i64]; omega
                  go_wp2_with fail
                  go_quiet (first | (go_at_call 46; exact Calls.quiet_of_same ((HWO.out _).mono fun e w' h => ⟨h.1, h.2.symm⟩)))
                  clear q1 q2 c0 c1 hp hnz hnz2
                  go_wp2
                  go_roundw
                  case rel => exact ⟨acc + n * WU, j + 1 + 1, rfl, by go_num, HNN.out, below_drewN HB.out _⟩
                  case measure => simp [intOf]; omega
                · have t1 : (O != 1) = true := by simp [hx]
                  have HV : Hid (sumK (-1) 0 ps = -1) := by unfold Hid; rw [HS1.out, if_pos (.inr (by unfold badZ; omega))]
                  clear HS1 HN1
                  go_wp2_with fail
                  refine (HO.out _).mono ?_
                  rintro e w2 ⟨rfl, rfl⟩
                  go_wp2_with fail
                  refine (HO2.out _).mono ?_
                  rintro e w2 ⟨rfl, rfl⟩
                  go_wp2
                  go_ret
                  exact ⟨by rw [HV.out]; rfl, HB.out⟩
              · have tR0 : (R == 0) = false := by simp [hR0]
                by_cases hR1 : R = 1
                · subst hR1
                  by_cases hx : O < 2
                  · skip
                    have HV : Hid (sumK (-1) 0 ps = -1) := by unfold Hid; rw [HS1.out, if_pos (.inr (by unfold badZ; omega))]
                    clear HS1 HN1
                    go_wp2_with fail
                    refine (HO.out _).mono ?_
                    rintro e w2 ⟨rfl, rfl⟩
                    go_wp2_with fail
                    refine (HO2.out _).mono ?_
                    rintro e w2 ⟨rfl, rfl⟩
                    go_wp2
                    go_ret
                    exact ⟨by rw [HV.out]; rfl, HB.out⟩
                  · skip
                    have HNN : Hid (ZJ ps (j + 1 + 1) (acc + n * WU)) := HN1.out (by unfold badZ; omega)
                    clear HS1 HN1
                    go_wp2_with fail
                    refine (HO.out _).mono ?_
                    rintro e w2 ⟨rfl, rfl⟩
                    go_wp2_with fail
                    refine (HO2.out _).mono ?_
                    rintro e w2 ⟨rfl, rfl⟩
                    have q1 : IntKind.i64.wrap (n * WU) = n * WU := by rw [IntKind.wrap_i64]; omega
                    have q2 : IntKind.i64.wrap (acc + n * WU) = acc + n * WU := by rw [IntKind.wrap_i64]; omega
                    go_wp2_with fail
                    go_quiet (first | (go_at_call 46; exact Calls.quiet_of_same ((HWO.out _).mono fun e w' h => ⟨h.1, h.2.symm⟩)))
                    clear q1 q2 c0 c1 hp hnz hnz2
                    go_wp2
                    go_roundw
                    case rel => exact ⟨acc + n * WU, j + 1 + 1, rfl, by go_num, HNN.out, below_drewN HB.out _⟩
                    case measure => simp [intOf]; omega
                · have tR1 : (R == 1) = false := by simp [hR1]
                  by_cases hR2 : 2 ≤ R
                  · by_cases hx : O = R + 1
                    · have t1 : (O != R + 1) = false := by simp [hx]
                      have HNN : Hid (ZJ ps (j + 1 + 1) (acc + n * WU)) := HN1.out (by unfold badZ; omega)
                      clear HS1 HN1
                      go_wp2_with fail
                      refine (HO.out _).mono ?_
                      rintro e w2 ⟨rfl, rfl⟩
                      go_wp2_with fail
                      refine (HO2.out _).mono ?_
                      rintro e w2 ⟨rfl, rfl⟩
                      have q1 : IntKind.i64.wrap (n * WU) = n * WU := by rw [IntKind.wrap_i64]; omega
                      have q2 : IntKind.i64.wrap (acc + n * WU) = acc + n * WU := by rw [IntKind.wrap_i64]; omega
                      go_wp2_with fail
                      go_quiet (first | (go_at_call 46; exact Calls.quiet_of_same ((HWO.out _).mono fun e w' h => ⟨h.1, h.2.symm⟩)))
                      clear q1 q2 c0 c1 hp hnz hnz2
                      go_wp2
                      go_roundw
                      case rel => exact ⟨acc + n * WU, j + 1 + 1, rfl, by go_num, HNN.out, below_drewN HB.out _⟩
                      case measure => simp [intOf]; omega
                    · have t1 : (O != R + 1) = true := by simp [hx]
                      have HV : Hid (sumK (-1) 0 ps = -1) := by unfold Hid; rw [HS1.out, if_pos (.inr (by unfold badZ; omega))]
                      clear HS1 HN1
                      go_wp2_with fail
                      refine (HO.out _).mono ?_
                      rintro e w2 ⟨rfl, rfl⟩
                      go_wp2_with fail
                      refine (HO2.out _).mono ?_
                      rintro e w2 ⟨rfl, rfl⟩
                      go_wp2
                      go_ret
                      exact ⟨by rw [HV.out]; rfl, HB.out⟩
                  · exfalso
                    omega
        · obtain rfl : i = L := by omega
          obtain ⟨j, rfl⟩ : ∃ j, i = j + 1 := ⟨i - 1, by omega⟩
          obtain ⟨r, hr⟩ : ∃ r, ps[j]? = some r := ⟨ps[j]'(by rw [HLL.out]; omega), List.getElem?_eq_getElem _⟩
          have c3 := cell_kept HB.out (HC.out j r hr).2
          have hlast : sumK (-1) 0 ps = if wasZ ps (j + 1) = -1 ∨ wasZ ps (j + 1) = 1 then -1 else acc := by
            have hz := HZ.out
            have e := HLL.out
            rw [← e] at hz ⊢
            exact zj_last hz
          rw [was_next hr] at hlast
          obtain ⟨n', u'⟩ := r
          simp only at c3 hlast
          by_cases hu : u' = 84
          · have tu : (u' == 84) = true := by simp [hu]
            have HV : Hid (sumK (-1) 0 ps = -1) := by
              unfold Hid; rw [hlast, if_pos]; right; rw [hu]; rfl
            clear hlast hu
            go_wp2
            go_ret
            exact ⟨by rw [HV.out]; rfl, HB.out⟩
          · have tu : (u' == 84) = false := by simp [hu]
            have hwz : ordZ u' ≠ -1 := HZ.out.ne j hr (by omega)
            have HV : Hid (sumK (-1) 0 ps = acc) := by
              unfold Hid; rw [hlast, if_neg]
              rintro (q | q)
              · exact hwz q
              · exact hu (ord_T u' q)
            clear hlast hu hwz
            go_wp2
            go_ret
            exact ⟨by rw [HV.out]; rfl, HB.out⟩
    · have t1 : ((L : Int) == 1) = false := by simp; omega
      clear hgd hW hL1
      go_enter Tryd.func39, Tryd.ntmps39
      go_wp2
      clear t1
      go_loopw [3, 4] (fun a b wr => ∃ (acc : Int) (i : Nat), a = .int .i64 acc ∧ b = .int .i64 i ∧ ZJ ps i acc ∧ Below w.heap.size w wr) (fun _ b _ => L - (intOf b).toNat)
      case atStart => exact ⟨0, 0, rfl, rfl, ⟨by omega, by omega, by omega, rfl, fun j _ _ hj => by omega⟩, Below.refl _ _⟩
      case round =>
        obtain ⟨acc, i, rfl, rfl, hz, hb⟩ := hrel
        have HZ : Hid (ZJ ps i acc) := hz
        have HB : Hid (Below w.heap.size w wr) := hb
        have ha0 := hz.a0
        have ha1 := hz.a1
        have hil : i ≤ L := by have := hz.top; rw [HLL.out] at this; exact this
        clear hz hb c00 c01
        by_cases hlt : i < L
        · obtain ⟨p, hp⟩ : ∃ p, ps[i]? = some p := ⟨ps[i]'(by rw [HLL.out]; exact hlt), List.getElem?_eq_getElem _⟩
          obtain ⟨c0, c1⟩ := HC.out i p hp
          replace c0 := cell_kept HB.out c0
          replace c1 := cell_kept HB.out c1
          have kk := HK.out i p hp
          have HST := zj_step HZ.out hp
          have HNX := fun hb => zj_next HZ.out hp hb kk.1.1 kk.1.2
          obtain ⟨n, u⟩ := p
          simp only at c0 c1 kk HST HNX
          have hou := ord_in u
          have hww := worth_in u
          have HO : Hid (∀ v, Calls Tryd.prog 45 #[.int .u8 u] v fun e w' => e = .returned (.int .i64 (ordZ u)) ∧ v = w') := fun v => order_any u v kk.2.1 kk.2.2
          have HWO : Hid (∀ v, Calls Tryd.prog 46 #[.int .u8 u] v fun e w' => e = .returned (.int .i64 (worthZ u)) ∧ v = w') := fun v => worth_any u v kk.2.1 kk.2.2
          obtain ⟨⟨n0, n1⟩, u0, u1⟩ := kk
          have HS1 : Hid (sumK (-1) 0 ps = if ordZ u < 0 ∨ badZ (wasZ ps i) (ordZ u) then -1 else sumK (ordZ u) (acc + n * worthZ u) (ps.drop (i + 1))) := HST
          have HN1 : Hid (¬ (ordZ u < 0 ∨ badZ (wasZ ps i) (ordZ u)) → ZJ ps (i + 1) (acc + n * worthZ u)) := HNX
          clear HST HNX
          have hnz : 0 ≤ n * worthZ u := Int.mul_nonneg n0 hww.1
          have hnz2 : n * worthZ u ≤ 864000000000000 := by
            have a := Int.mul_le_mul_of_nonneg_left hww.2 n0
            omega
          generalize ordZ u = O at *
          generalize worthZ u = WU at *
          cases i with
          | zero =>
            rw [was_zero] at HS1 HN1
            by_cases hO : O < 0
            · have HV : Hid (sumK (-1) 0 ps = -1) := by unfold Hid; rw [HS1.out, if_pos (.inl hO)]
              clear HS1 HN1
              go_wp2_with fail
              refine (HO.out _).mono ?_
              rintro e w2 ⟨rfl, rfl⟩
              go_wp2
              go_ret
              exact ⟨by rw [HV.out]; rfl, HB.out⟩
            · by_cases hO1 : 1 < O
              · have HV : Hid (sumK (-1) 0 ps = -1) := by unfold Hid; rw [HS1.out, if_pos (.inr (by unfold badZ; omega))]
                clear HS1 HN1
                go_wp2_with fail
                refine (HO.out _).mono ?_
                rintro e w2 ⟨rfl, rfl⟩
                go_wp2
                go_ret
                exact ⟨by rw [HV.out]; rfl, HB.out⟩
              · have HNN : Hid (ZJ ps (0 + 1) (acc + n * WU)) := HN1.out (by unfold badZ; omega)
                clear HS1 HN1
                go_wp2_with fail
                refine (HO.out _).mono ?_
                rintro e w2 ⟨rfl, rfl⟩
                have q1 : IntKind.i64.wrap (n * WU) = n * WU := by rw [IntKind.wrap_i64]; omega
                have q2 : IntKind.i64.wrap (acc + n * WU) = acc + n * WU := by rw [IntKind.wrap_i64]; omega
                go_wp2_with fail
                go_quiet (first | (go_at_call 46; exact Calls.quiet_of_same ((HWO.out _).mono fun e w' h => ⟨h.1, h.2.symm⟩)))
                clear q1 q2 c0 c1 hp hnz hnz2
                go_wp2
                go_roundw
                case rel => exact ⟨acc + n * WU, 0 + 1, rfl, by go_num, HNN.out, below_drewN HB.out _⟩
                case measure => simp [intOf]; omega
          | succ j =>
            obtain ⟨r, hr⟩ : ∃ r, ps[j]? = some r := ⟨ps[j]'(by rw [HLL.out]; omega), List.getElem?_eq_getElem _⟩
            rw [was_next hr] at HS1 HN1
            have c3 := cell_kept HB.out (HC.out j r hr).2
            have kr := (HK.out j r hr).2
            obtain ⟨n', u'⟩ := r
            simp only at HS1 HN1 c3 kr
            have hor := ord_in u'
            have hrn : ordZ u' ≠ -1 := HZ.out.ne j hr (by omega)
            have HO2 : Hid (∀ v, Calls Tryd.prog 45 #[.int .u8 u'] v fun e w' => e = .returned (.int .i64 (ordZ u')) ∧ v = w') := fun v => order_any u' v kr.1 kr.2
            generalize ordZ u' = R at *
            by_cases hO : O < 0
            · have HV : Hid (sumK (-1) 0 ps = -1) := by unfold Hid; rw [HS1.out, if_pos (.inl hO)]
              clear HS1 HN1
              go_wp2_with fail
              refine (HO.out _).mono ?_
              rintro e w2 ⟨rfl, rfl⟩
              go_wp2
              go_ret
              exact ⟨by rw [HV.out]; rfl, HB.out⟩
            · skip
              by_cases hR0 : R = 0
              · subst hR0
                by_cases hx : O = 1
                · subst hx
                  have HNN : Hid (ZJ ps (j + 1 + 1) (acc + n * WU)) := HN1.out (by unfold badZ; omega)
                  clear HS1 HN1
                  go_wp2_with fail
                  refine (HO.out _).mono ?_
                  rintro e w2 ⟨rfl, rfl⟩
                  go_wp2_with fail
                  refine (HO2.out _).mono ?_
                  rintro e w2 ⟨rfl, rfl⟩
                  have q1 : IntKind.i64.wrap (n * WU) = n * WU := by rw [IntKind.wrap_i64]; omega
                  have q2 : IntKind.i64.wrap (acc + n * WU) = acc + n * WU := by rw [IntKind.wrap_i64]; omega
                  go_wp2_with fail
                  go_quiet (first | (go_at_call 46; exact Calls.quiet_of_same ((HWO.out _).mono fun e w' h => ⟨h.1, h.2.symm⟩)))
                  clear q1 q2 c0 c1 hp hnz hnz2
                  go_wp2
                  go_roundw
                  case rel => exact ⟨acc + n * WU, j + 1 + 1, rfl, by go_num, HNN.out, below_drewN HB.out _⟩
                  case measure => simp [intOf]; omega
                · have t1 : (O != 1) = true := by simp [hx]
                  have HV : Hid (sumK (-1) 0 ps = -1) := by unfold Hid; rw [HS1.out, if_pos (.inr (by unfold badZ; omega))]
                  clear HS1 HN1
                  go_wp2_with fail
                  refine (HO.out _).mono ?_
                  rintro e w2 ⟨rfl, rfl⟩
                  go_wp2_with fail
                  refine (HO2.out _).mono ?_
                  rintro e w2 ⟨rfl, rfl⟩
                  go_wp2
                  go_ret
                  exact ⟨by rw [HV.out]; rfl, HB.out⟩
              · have tR0 : (R == 0) = false := by simp [hR0]
                by_cases hR1 : R = 1
                · subst hR1
                  by_cases hx : O < 2
                  · skip
                    have HV : Hid (sumK (-1) 0 ps = -1) := by unfold Hid; rw [HS1.out, if_pos (.inr (by unfold badZ; omega))]
                    clear HS1 HN1
                    go_wp2_with fail
                    refine (HO.out _).mono ?_
                    rintro e w2 ⟨rfl, rfl⟩
                    go_wp2_with fail
                    refine (HO2.out _).mono ?_
                    rintro e w2 ⟨rfl, rfl⟩
                    go_wp2
                    go_ret
                    exact ⟨by rw [HV.out]; rfl, HB.out⟩
                  · skip
                    have HNN : Hid (ZJ ps (j + 1 + 1) (acc + n * WU)) := HN1.out (by unfold badZ; omega)
                    clear HS1 HN1
                    go_wp2_with fail
                    refine (HO.out _).mono ?_
                    rintro e w2 ⟨rfl, rfl⟩
                    go_wp2_with fail
                    refine (HO2.out _).mono ?_
                    rintro e w2 ⟨rfl, rfl⟩
                    have q1 : IntKind.i64.wrap (n * WU) = n * WU := by rw [IntKind.wrap_i64]; omega
                    have q2 : IntKind.i64.wrap (acc + n * WU) = acc + n * WU := by rw [IntKind.wrap_i64]; omega
                    go_wp2_with fail
                    go_quiet (first | (go_at_call 46; exact Calls.quiet_of_same ((HWO.out _).mono fun e w' h => ⟨h.1, h.2.symm⟩)))
                    clear q1 q2 c0 c1 hp hnz hnz2
                    go_wp2
                    go_roundw
                    case rel => exact ⟨acc + n * WU, j + 1 + 1, rfl, by go_num, HNN.out, below_drewN HB.out _⟩
                    case measure => simp [intOf]; omega
                · have tR1 : (R == 1) = false := by simp [hR1]
                  by_cases hR2 : 2 ≤ R
                  · by_cases hx : O = R + 1
                    · have t1 : (O != R + 1) = false := by simp [hx]
                      have HNN : Hid (ZJ ps (j + 1 + 1) (acc + n * WU)) := HN1.out (by unfold badZ; omega)
                      clear HS1 HN1
                      go_wp2_with fail
                      refine (HO.out _).mono ?_
                      rintro e w2 ⟨rfl, rfl⟩
                      go_wp2_with fail
                      refine (HO2.out _).mono ?_
                      rintro e w2 ⟨rfl, rfl⟩
                      have q1 : IntKind.i64.wrap (n * WU) = n * WU := by rw [IntKind.wrap_i64]; omega
                      have q2 : IntKind.i64.wrap (acc + n * WU) = acc + n * WU := by rw [IntKind.wrap_i64]; omega
                      go_wp2_with fail
                      go_quiet (first | (go_at_call 46; exact Calls.quiet_of_same ((HWO.out _).mono fun e w' h => ⟨h.1, h.2.symm⟩)))
                      clear q1 q2 c0 c1 hp hnz hnz2
                      go_wp2
                      go_roundw
                      case rel => exact ⟨acc + n * WU, j + 1 + 1, rfl, by go_num, HNN.out, below_drewN HB.out _⟩
                      case measure => simp [intOf]; omega
                    · have t1 : (O != R + 1) = true := by simp [hx]
                      have HV : Hid (sumK (-1) 0 ps = -1) := by unfold Hid; rw [HS1.out, if_pos (.inr (by unfold badZ; omega))]
                      clear HS1 HN1
                      go_wp2_with fail
                      refine (HO.out _).mono ?_
                      rintro e w2 ⟨rfl, rfl⟩
                      go_wp2_with fail
                      refine (HO2.out _).mono ?_
                      rintro e w2 ⟨rfl, rfl⟩
                      go_wp2
                      go_ret
                      exact ⟨by rw [HV.out]; rfl, HB.out⟩
                  · exfalso
                    omega
        · obtain rfl : i = L := by omega
          obtain ⟨j, rfl⟩ : ∃ j, i = j + 1 := ⟨i - 1, by omega⟩
          obtain ⟨r, hr⟩ : ∃ r, ps[j]? = some r := ⟨ps[j]'(by rw [HLL.out]; omega), List.getElem?_eq_getElem _⟩
          have c3 := cell_kept HB.out (HC.out j r hr).2
          have hlast : sumK (-1) 0 ps = if wasZ ps (j + 1) = -1 ∨ wasZ ps (j + 1) = 1 then -1 else acc := by
            have hz := HZ.out
            have e := HLL.out
            rw [← e] at hz ⊢
            exact zj_last hz
          rw [was_next hr] at hlast
          obtain ⟨n', u'⟩ := r
          simp only at c3 hlast
          by_cases hu : u' = 84
          · have tu : (u' == 84) = true := by simp [hu]
            have HV : Hid (sumK (-1) 0 ps = -1) := by
              unfold Hid; rw [hlast, if_pos]; right; rw [hu]; rfl
            clear hlast hu
            go_wp2
            go_ret
            exact ⟨by rw [HV.out]; rfl, HB.out⟩
          · have tu : (u' == 84) = false := by simp [hu]
            have hwz : ordZ u' ≠ -1 := HZ.out.ne j hr (by omega)
            have HV : Hid (sumK (-1) 0 ps = acc) := by
              unfold Hid; rw [hlast, if_neg]
              rintro (q | q)
              · exact hwz q
              · exact hu (ord_T u' q)
            clear hlast hu hwz
            go_wp2
            go_ret
            exact ⟨by rw [HV.out]; rfl, HB.out⟩
end Go.Proofs.YtkamnphiocoebaaDoor
