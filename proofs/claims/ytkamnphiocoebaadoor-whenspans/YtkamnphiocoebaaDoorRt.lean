/-
  The document's own lengths as texts: the contract of its Span.
-/
import Derived.Test.YtkamnphiocoebaaDoorRs
namespace Go.Proofs.YtkamnphiocoebaaDoor
open Go.RowKit
set_option linter.unusedVariables false

theorem decimal_any (n : Int) (w : World) (h0 : 0 ≤ n) (h1 : n ≤ 1000000000000000) :
    Calls Tryd.prog 35 #[.int .i64 n] w fun e w' => ∃ x, e = .returned (.string x) ∧ (nums x = decL n ∧ x.size ≤ 21) ∧ Below w.heap.size w w' :=
  decimal_by 20 n w (by omega) h0 (by have : (1000000000000000 : Int) < 10 ^ (20 + 1) := by decide
                                      omega) h1
theorem rspan_no (n : Int) (w : World) (h : ¬ (-mostZ ≤ n ∧ n ≤ mostZ)) (h0 : -9223372036854775808 ≤ n) (h1 : n ≤ 9223372036854775807) :
    Calls Tryd.prog 21 #[.int .i64 n] w fun e w' => e = .returned (.tuple #[.string ⟨#[]⟩, .int .i64 110]) ∧ w = w' := by
  unfold mostZ at h
  by_cases a : n < -1099511627776
  · clear h
    go_enter Tryd.func21, Tryd.ntmps21
    go_wp2
    go_ret2
    exact ⟨rfl, rfl⟩
  · have b : n > 1099511627776 := by omega
    clear h
    go_enter Tryd.func21, Tryd.ntmps21
    go_wp2
    go_ret2
    exact ⟨rfl, rfl⟩
theorem clock_form (n : Int) : clockL (n % 86400) = (if n % 86400 / 3600 ≠ 0 then decL (n % 86400 / 3600) ++ [72] else []) ++ ((if n % 3600 / 60 ≠ 0 ∨ n % 86400 / 3600 ≠ 0 ∧ n % 60 ≠ 0 then decL (n % 3600 / 60) ++ [77] else []) ++ (if n % 60 ≠ 0 ∨ n % 86400 = 0 then decL (n % 60) ++ [83] else [])) := by
  unfold clockL
  rw [show n % 86400 % 3600 = n % 3600 by omega, show n % 86400 % 60 = n % 60 by omega]
theorem nPT0S : nums { data := #[80, 84, 48, 83] } = 80 :: bodyL 0 := by decide +kernel
set_option maxHeartbeats 8000000 in
theorem rspan_posW (n : Int) (w : World) (h0 : 0 ≤ n) (h1 : n ≤ 1099511627776) (b1 : n ≠ 0 ∧ n % 604800 = 0) :
    Calls Tryd.prog 21 #[.int .i64 n] w fun e w' => ∃ x, e = .returned (.tuple #[.string x, .int .i64 0]) ∧ nums x = 80 :: bodyL n ∧ Below w.heap.size w w' := by
  unfold bodyL
  rw [if_pos b1]
  obtain ⟨b2, b3⟩ := b1
  have t1 : 0 < n := by omega
  have t2 : (n % 604800 == 0) = true := by simp [b3]
  clear b2 b3
  go_enter Tryd.func21, Tryd.ntmps21
  go_wp2_with fail
  refine (decimal_any (n / 604800) _ (by omega) (by omega)).mono ?_
  rintro e w1 ⟨x1, rfl, ⟨e1, l1⟩, hb1⟩
  have E1 : Hid (nums x1 = decL (n / 604800)) := e1
  have HB1 : Hid (Below w.heap.size w w1) := hb1
  clear e1 hb1
  go_wp2
  go_ret2
  exact ⟨_, rfl, by simp only [nums_append, E1.out, n87, n80, List.nil_append, List.cons_append], HB1.out⟩
set_option maxHeartbeats 8000000 in
theorem rspan_posD (n : Int) (w : World) (h0 : 0 ≤ n) (h1 : n ≤ 1099511627776) (b1 : ¬ (n ≠ 0 ∧ n % 604800 = 0)) (b4 : 86400 ≤ n) :
    Calls Tryd.prog 21 #[.int .i64 n] w fun e w' => ∃ x, e = .returned (.tuple #[.string x, .int .i64 0]) ∧ nums x = 80 :: bodyL n ∧ Below w.heap.size w w' := by
  unfold bodyL
  rw [if_neg b1, if_pos b4, clock_form]
  have t1 : 0 < n := by omega
  have t2 : (n % 604800 == 0) = false := by simp; omega
  have t3 : (n == 0) = false := by simp; omega
  by_cases b5 : n % 86400 = 0
  · rw [if_neg (by omega)]
    have t4 : ¬ 0 < n % 86400 := by omega
    have t5 : ¬ 3600 ≤ n % 86400 := by omega
    have t6 : ¬ 60 ≤ n % 3600 := by omega
    have t7 : ¬ 0 < n % 60 := by omega
    clear b1 b5
    go_enter Tryd.func21, Tryd.ntmps21
    go_wp2_with fail
    refine (decimal_any (n / 86400) _ (by omega) (by omega)).mono ?_
    rintro e w1 ⟨x1, rfl, ⟨e1, l1⟩, hb1⟩
    have E1 : Hid (nums x1 = decL (n / 86400)) := e1
    have HB1 : Hid (Below w.heap.size w w1) := hb1
    clear e1 hb1
    go_wp2
    go_ret2
    exact ⟨_, rfl, by simp only [nums_append, E1.out, n68, n80, List.nil_append, List.cons_append], HB1.out⟩
  · rw [if_pos (by omega : n = 0 ∨ n % 86400 ≠ 0)]
    have t4 : 0 < n % 86400 := by omega
    clear b1 b5
    by_cases c001 : (¬ 3600 ≤ n % 86400) ∧ (¬ 60 ≤ n % 3600) ∧ (0 < n % 60)
    · obtain ⟨u1, u2, u3⟩ := c001
      rw [if_neg (by omega), if_neg (by omega), if_pos (by omega)]
      go_enter Tryd.func21, Tryd.ntmps21
      go_wp2_with fail
      refine (decimal_any (n / 86400) _ (by omega) (by omega)).mono ?_
      rintro e w1 ⟨x1, rfl, ⟨e1, l1⟩, hb1⟩
      have E1 : Hid (nums x1 = decL (n / 86400)) := e1
      have HB1 : Hid (Below w.heap.size w w1) := hb1
      clear e1 hb1
      go_wp2_with fail
      refine (decimal_any (n % 60) _ (by omega) (by omega)).mono ?_
      rintro e w2 ⟨x2, rfl, ⟨e2, l2⟩, hb2⟩
      have E2 : Hid (nums x2 = decL (n % 60)) := e2
      have HB2 : Hid (Below w.heap.size w w2) := HB1.out.trans (hb2.mono HB1.out.size)
      clear e2 hb2
      go_wp2
      go_ret2
      exact ⟨_, rfl, by simp only [nums_append, E1.out, E2.out, n68, n83, n84, n80, List.nil_append, List.append_assoc, List.cons_append], HB2.out⟩
    by_cases c010 : (¬ 3600 ≤ n % 86400) ∧ (60 ≤ n % 3600) ∧ (¬ 0 < n % 60)
    · obtain ⟨u1, u2, u3⟩ := c010
      rw [if_neg (by omega), if_pos (by omega), if_neg (by omega)]
      go_enter Tryd.func21, Tryd.ntmps21
      go_wp2_with fail
      refine (decimal_any (n / 86400) _ (by omega) (by omega)).mono ?_
      rintro e w1 ⟨x1, rfl, ⟨e1, l1⟩, hb1⟩
      have E1 : Hid (nums x1 = decL (n / 86400)) := e1
      have HB1 : Hid (Below w.heap.size w w1) := hb1
      clear e1 hb1
      go_wp2_with fail
      refine (decimal_any (n % 3600 / 60) _ (by omega) (by omega)).mono ?_
      rintro e w2 ⟨x2, rfl, ⟨e2, l2⟩, hb2⟩
      have E2 : Hid (nums x2 = decL (n % 3600 / 60)) := e2
      have HB2 : Hid (Below w.heap.size w w2) := HB1.out.trans (hb2.mono HB1.out.size)
      clear e2 hb2
      go_wp2
      go_ret2
      exact ⟨_, rfl, by simp only [nums_append, E1.out, E2.out, n68, n77, n84, n80, List.nil_append, List.append_nil, List.append_assoc, List.cons_append], HB2.out⟩
    by_cases c011 : (¬ 3600 ≤ n % 86400) ∧ (60 ≤ n % 3600) ∧ (0 < n % 60)
    · obtain ⟨u1, u2, u3⟩ := c011
      rw [if_neg (by omega), if_pos (by omega), if_pos (by omega)]
      go_enter Tryd.func21, Tryd.ntmps21
      go_wp2_with fail
      refine (decimal_any (n / 86400) _ (by omega) (by omega)).mono ?_
      rintro e w1 ⟨x1, rfl, ⟨e1, l1⟩, hb1⟩
      have E1 : Hid (nums x1 = decL (n / 86400)) := e1
      have HB1 : Hid (Below w.heap.size w w1) := hb1
      clear e1 hb1
      go_wp2_with fail
      refine (decimal_any (n % 3600 / 60) _ (by omega) (by omega)).mono ?_
      rintro e w2 ⟨x2, rfl, ⟨e2, l2⟩, hb2⟩
      have E2 : Hid (nums x2 = decL (n % 3600 / 60)) := e2
      have HB2 : Hid (Below w.heap.size w w2) := HB1.out.trans (hb2.mono HB1.out.size)
      clear e2 hb2
      go_wp2_with fail
      refine (decimal_any (n % 60) _ (by omega) (by omega)).mono ?_
      rintro e w3 ⟨x3, rfl, ⟨e3, l3⟩, hb3⟩
      have E3 : Hid (nums x3 = decL (n % 60)) := e3
      have HB3 : Hid (Below w.heap.size w w3) := HB2.out.trans (hb3.mono HB2.out.size)
      clear e3 hb3
      go_wp2
      go_ret2
      exact ⟨_, rfl, by simp only [nums_append, E1.out, E2.out, E3.out, n68, n77, n83, n84, n80, List.nil_append, List.append_assoc, List.cons_append], HB3.out⟩
    by_cases c100 : (3600 ≤ n % 86400) ∧ (¬ 60 ≤ n % 3600) ∧ (¬ 0 < n % 60)
    · obtain ⟨u1, u2, u3⟩ := c100
      rw [if_pos (by omega), if_neg (by omega), if_neg (by omega)]
      go_enter Tryd.func21, Tryd.ntmps21
      go_wp2_with fail
      refine (decimal_any (n / 86400) _ (by omega) (by omega)).mono ?_
      rintro e w1 ⟨x1, rfl, ⟨e1, l1⟩, hb1⟩
      have E1 : Hid (nums x1 = decL (n / 86400)) := e1
      have HB1 : Hid (Below w.heap.size w w1) := hb1
      clear e1 hb1
      go_wp2_with fail
      refine (decimal_any (n % 86400 / 3600) _ (by omega) (by omega)).mono ?_
      rintro e w2 ⟨x2, rfl, ⟨e2, l2⟩, hb2⟩
      have E2 : Hid (nums x2 = decL (n % 86400 / 3600)) := e2
      have HB2 : Hid (Below w.heap.size w w2) := HB1.out.trans (hb2.mono HB1.out.size)
      clear e2 hb2
      go_wp2
      go_ret2
      exact ⟨_, rfl, by simp only [nums_append, E1.out, E2.out, n68, n72, n84, n80, List.nil_append, List.append_nil, List.append_assoc, List.cons_append], HB2.out⟩
    by_cases c101 : (3600 ≤ n % 86400) ∧ (¬ 60 ≤ n % 3600) ∧ (0 < n % 60)
    · obtain ⟨u1, u2, u3⟩ := c101
      rw [if_pos (by omega), if_pos (by omega), if_pos (by omega)]
      go_enter Tryd.func21, Tryd.ntmps21
      go_wp2_with fail
      refine (decimal_any (n / 86400) _ (by omega) (by omega)).mono ?_
      rintro e w1 ⟨x1, rfl, ⟨e1, l1⟩, hb1⟩
      have E1 : Hid (nums x1 = decL (n / 86400)) := e1
      have HB1 : Hid (Below w.heap.size w w1) := hb1
      clear e1 hb1
      go_wp2_with fail
      refine (decimal_any (n % 86400 / 3600) _ (by omega) (by omega)).mono ?_
      rintro e w2 ⟨x2, rfl, ⟨e2, l2⟩, hb2⟩
      have E2 : Hid (nums x2 = decL (n % 86400 / 3600)) := e2
      have HB2 : Hid (Below w.heap.size w w2) := HB1.out.trans (hb2.mono HB1.out.size)
      clear e2 hb2
      go_wp2_with fail
      refine (decimal_any (n % 3600 / 60) _ (by omega) (by omega)).mono ?_
      rintro e w3 ⟨x3, rfl, ⟨e3, l3⟩, hb3⟩
      have E3 : Hid (nums x3 = decL (n % 3600 / 60)) := e3
      have HB3 : Hid (Below w.heap.size w w3) := HB2.out.trans (hb3.mono HB2.out.size)
      clear e3 hb3
      go_wp2_with fail
      refine (decimal_any (n % 60) _ (by omega) (by omega)).mono ?_
      rintro e w4 ⟨x4, rfl, ⟨e4, l4⟩, hb4⟩
      have E4 : Hid (nums x4 = decL (n % 60)) := e4
      have HB4 : Hid (Below w.heap.size w w4) := HB3.out.trans (hb4.mono HB3.out.size)
      clear e4 hb4
      go_wp2
      go_ret2
      exact ⟨_, rfl, by simp only [nums_append, E1.out, E2.out, E3.out, E4.out, n68, n72, n77, n83, n84, n80, List.nil_append, List.append_assoc, List.cons_append], HB4.out⟩
    by_cases c110 : (3600 ≤ n % 86400) ∧ (60 ≤ n % 3600) ∧ (¬ 0 < n % 60)
    · obtain ⟨u1, u2, u3⟩ := c110
      rw [if_pos (by omega), if_pos (by omega), if_neg (by omega)]
      go_enter Tryd.func21, Tryd.ntmps21
      go_wp2_with fail
      refine (decimal_any (n / 86400) _ (by omega) (by omega)).mono ?_
      rintro e w1 ⟨x1, rfl, ⟨e1, l1⟩, hb1⟩
      have E1 : Hid (nums x1 = decL (n / 86400)) := e1
      have HB1 : Hid (Below w.heap.size w w1) := hb1
      clear e1 hb1
      go_wp2_with fail
      refine (decimal_any (n % 86400 / 3600) _ (by omega) (by omega)).mono ?_
      rintro e w2 ⟨x2, rfl, ⟨e2, l2⟩, hb2⟩
      have E2 : Hid (nums x2 = decL (n % 86400 / 3600)) := e2
      have HB2 : Hid (Below w.heap.size w w2) := HB1.out.trans (hb2.mono HB1.out.size)
      clear e2 hb2
      go_wp2_with fail
      refine (decimal_any (n % 3600 / 60) _ (by omega) (by omega)).mono ?_
      rintro e w3 ⟨x3, rfl, ⟨e3, l3⟩, hb3⟩
      have E3 : Hid (nums x3 = decL (n % 3600 / 60)) := e3
      have HB3 : Hid (Below w.heap.size w w3) := HB2.out.trans (hb3.mono HB2.out.size)
      clear e3 hb3
      go_wp2
      go_ret2
      exact ⟨_, rfl, by simp only [nums_append, E1.out, E2.out, E3.out, n68, n72, n77, n84, n80, List.nil_append, List.append_nil, List.append_assoc, List.cons_append], HB3.out⟩
    by_cases c111 : (3600 ≤ n % 86400) ∧ (60 ≤ n % 3600) ∧ (0 < n % 60)
    · obtain ⟨u1, u2, u3⟩ := c111
      rw [if_pos (by omega), if_pos (by omega), if_pos (by omega)]
      go_enter Tryd.func21, Tryd.ntmps21
      go_wp2_with fail
      refine (decimal_any (n / 86400) _ (by omega) (by omega)).mono ?_
      rintro e w1 ⟨x1, rfl, ⟨e1, l1⟩, hb1⟩
      have E1 : Hid (nums x1 = decL (n / 86400)) := e1
      have HB1 : Hid (Below w.heap.size w w1) := hb1
      clear e1 hb1
      go_wp2_with fail
      refine (decimal_any (n % 86400 / 3600) _ (by omega) (by omega)).mono ?_
      rintro e w2 ⟨x2, rfl, ⟨e2, l2⟩, hb2⟩
      have E2 : Hid (nums x2 = decL (n % 86400 / 3600)) := e2
      have HB2 : Hid (Below w.heap.size w w2) := HB1.out.trans (hb2.mono HB1.out.size)
      clear e2 hb2
      go_wp2_with fail
      refine (decimal_any (n % 3600 / 60) _ (by omega) (by omega)).mono ?_
      rintro e w3 ⟨x3, rfl, ⟨e3, l3⟩, hb3⟩
      have E3 : Hid (nums x3 = decL (n % 3600 / 60)) := e3
      have HB3 : Hid (Below w.heap.size w w3) := HB2.out.trans (hb3.mono HB2.out.size)
      clear e3 hb3
      go_wp2_with fail
      refine (decimal_any (n % 60) _ (by omega) (by omega)).mono ?_
      rintro e w4 ⟨x4, rfl, ⟨e4, l4⟩, hb4⟩
      have E4 : Hid (nums x4 = decL (n % 60)) := e4
      have HB4 : Hid (Below w.heap.size w w4) := HB3.out.trans (hb4.mono HB3.out.size)
      clear e4 hb4
      go_wp2
      go_ret2
      exact ⟨_, rfl, by simp only [nums_append, E1.out, E2.out, E3.out, E4.out, n68, n72, n77, n83, n84, n80, List.nil_append, List.append_assoc, List.cons_append], HB4.out⟩
    exfalso
    omega
set_option maxHeartbeats 8000000 in
theorem rspan_posN (n : Int) (w : World) (h0 : 0 ≤ n) (h1 : n ≤ 1099511627776) (b1 : ¬ (n ≠ 0 ∧ n % 604800 = 0)) (b4 : ¬ 86400 ≤ n) :
    Calls Tryd.prog 21 #[.int .i64 n] w fun e w' => ∃ x, e = .returned (.tuple #[.string x, .int .i64 0]) ∧ nums x = 80 :: bodyL n ∧ Below w.heap.size w w' := by
  by_cases b6 : n = 0
  · subst b6
    have e := nPT0S
    go_enter Tryd.func21, Tryd.ntmps21
    go_wp2
    go_ret2
    exact ⟨_, rfl, e, Below.refl _ _⟩
  · skip
    unfold bodyL
    rw [if_neg b1, if_neg b4, clock_form, if_pos (by omega : n = 0 ∨ n % 86400 ≠ 0)]
    have t1 : 0 < n := by omega
    have t2 : (n % 604800 == 0) = false := by simp; omega
    have t3 : (n == 0) = false := by simp; omega
    have t4 : 0 < n % 86400 := by omega
    clear b1 b6
    by_cases c001 : (¬ 3600 ≤ n % 86400) ∧ (¬ 60 ≤ n % 3600) ∧ (0 < n % 60)
    · obtain ⟨u1, u2, u3⟩ := c001
      rw [if_neg (by omega), if_neg (by omega), if_pos (by omega)]
      go_enter Tryd.func21, Tryd.ntmps21
      go_wp2_with fail
      refine (decimal_any (n % 60) _ (by omega) (by omega)).mono ?_
      rintro e w1 ⟨x1, rfl, ⟨e1, l1⟩, hb1⟩
      have E1 : Hid (nums x1 = decL (n % 60)) := e1
      have HB1 : Hid (Below w.heap.size w w1) := hb1
      clear e1 hb1
      go_wp2
      go_ret2
      exact ⟨_, rfl, by simp only [nums_append, E1.out, n83, n84, n80, List.nil_append, List.cons_append], HB1.out⟩
    by_cases c010 : (¬ 3600 ≤ n % 86400) ∧ (60 ≤ n % 3600) ∧ (¬ 0 < n % 60)
    · obtain ⟨u1, u2, u3⟩ := c010
      rw [if_neg (by omega), if_pos (by omega), if_neg (by omega)]
      go_enter Tryd.func21, Tryd.ntmps21
      go_wp2_with fail
      refine (decimal_any (n % 3600 / 60) _ (by omega) (by omega)).mono ?_
      rintro e w1 ⟨x1, rfl, ⟨e1, l1⟩, hb1⟩
      have E1 : Hid (nums x1 = decL (n % 3600 / 60)) := e1
      have HB1 : Hid (Below w.heap.size w w1) := hb1
      clear e1 hb1
      go_wp2
      go_ret2
      exact ⟨_, rfl, by simp only [nums_append, E1.out, n77, n84, n80, List.nil_append, List.append_nil, List.cons_append], HB1.out⟩
    by_cases c011 : (¬ 3600 ≤ n % 86400) ∧ (60 ≤ n % 3600) ∧ (0 < n % 60)
    · obtain ⟨u1, u2, u3⟩ := c011
      rw [if_neg (by omega), if_pos (by omega), if_pos (by omega)]
      go_enter Tryd.func21, Tryd.ntmps21
      go_wp2_with fail
      refine (decimal_any (n % 3600 / 60) _ (by omega) (by omega)).mono ?_
      rintro e w1 ⟨x1, rfl, ⟨e1, l1⟩, hb1⟩
      have E1 : Hid (nums x1 = decL (n % 3600 / 60)) := e1
      have HB1 : Hid (Below w.heap.size w w1) := hb1
      clear e1 hb1
      go_wp2_with fail
      refine (decimal_any (n % 60) _ (by omega) (by omega)).mono ?_
      rintro e w2 ⟨x2, rfl, ⟨e2, l2⟩, hb2⟩
      have E2 : Hid (nums x2 = decL (n % 60)) := e2
      have HB2 : Hid (Below w.heap.size w w2) := HB1.out.trans (hb2.mono HB1.out.size)
      clear e2 hb2
      go_wp2
      go_ret2
      exact ⟨_, rfl, by simp only [nums_append, E1.out, E2.out, n77, n83, n84, n80, List.nil_append, List.append_assoc, List.cons_append], HB2.out⟩
    by_cases c100 : (3600 ≤ n % 86400) ∧ (¬ 60 ≤ n % 3600) ∧ (¬ 0 < n % 60)
    · obtain ⟨u1, u2, u3⟩ := c100
      rw [if_pos (by omega), if_neg (by omega), if_neg (by omega)]
      go_enter Tryd.func21, Tryd.ntmps21
      go_wp2_with fail
      refine (decimal_any (n % 86400 / 3600) _ (by omega) (by omega)).mono ?_
      rintro e w1 ⟨x1, rfl, ⟨e1, l1⟩, hb1⟩
      have E1 : Hid (nums x1 = decL (n % 86400 / 3600)) := e1
      have HB1 : Hid (Below w.heap.size w w1) := hb1
      clear e1 hb1
      go_wp2
      go_ret2
      exact ⟨_, rfl, by simp only [nums_append, E1.out, n72, n84, n80, List.nil_append, List.append_nil, List.cons_append], HB1.out⟩
    by_cases c101 : (3600 ≤ n % 86400) ∧ (¬ 60 ≤ n % 3600) ∧ (0 < n % 60)
    · obtain ⟨u1, u2, u3⟩ := c101
      rw [if_pos (by omega), if_pos (by omega), if_pos (by omega)]
      go_enter Tryd.func21, Tryd.ntmps21
      go_wp2_with fail
      refine (decimal_any (n % 86400 / 3600) _ (by omega) (by omega)).mono ?_
      rintro e w1 ⟨x1, rfl, ⟨e1, l1⟩, hb1⟩
      have E1 : Hid (nums x1 = decL (n % 86400 / 3600)) := e1
      have HB1 : Hid (Below w.heap.size w w1) := hb1
      clear e1 hb1
      go_wp2_with fail
      refine (decimal_any (n % 3600 / 60) _ (by omega) (by omega)).mono ?_
      rintro e w2 ⟨x2, rfl, ⟨e2, l2⟩, hb2⟩
      have E2 : Hid (nums x2 = decL (n % 3600 / 60)) := e2
      have HB2 : Hid (Below w.heap.size w w2) := HB1.out.trans (hb2.mono HB1.out.size)
      clear e2 hb2
      go_wp2_with fail
      refine (decimal_any (n % 60) _ (by omega) (by omega)).mono ?_
      rintro e w3 ⟨x3, rfl, ⟨e3, l3⟩, hb3⟩
      have E3 : Hid (nums x3 = decL (n % 60)) := e3
      have HB3 : Hid (Below w.heap.size w w3) := HB2.out.trans (hb3.mono HB2.out.size)
      clear e3 hb3
      go_wp2
      go_ret2
      exact ⟨_, rfl, by simp only [nums_append, E1.out, E2.out, E3.out, n72, n77, n83, n84, n80, List.nil_append, List.append_assoc, List.cons_append], HB3.out⟩
    by_cases c110 : (3600 ≤ n % 86400) ∧ (60 ≤ n % 3600) ∧ (¬ 0 < n % 60)
    · obtain ⟨u1, u2, u3⟩ := c110
      rw [if_pos (by omega), if_pos (by omega), if_neg (by omega)]
      go_enter Tryd.func21, Tryd.ntmps21
      go_wp2_with fail
      refine (decimal_any (n % 86400 / 3600) _ (by omega) (by omega)).mono ?_
      rintro e w1 ⟨x1, rfl, ⟨e1, l1⟩, hb1⟩
      have E1 : Hid (nums x1 = decL (n % 86400 / 3600)) := e1
      have HB1 : Hid (Below w.heap.size w w1) := hb1
      clear e1 hb1
      go_wp2_with fail
      refine (decimal_any (n % 3600 / 60) _ (by omega) (by omega)).mono ?_
      rintro e w2 ⟨x2, rfl, ⟨e2, l2⟩, hb2⟩
      have E2 : Hid (nums x2 = decL (n % 3600 / 60)) := e2
      have HB2 : Hid (Below w.heap.size w w2) := HB1.out.trans (hb2.mono HB1.out.size)
      clear e2 hb2
      go_wp2
      go_ret2
      exact ⟨_, rfl, by simp only [nums_append, E1.out, E2.out, n72, n77, n84, n80, List.nil_append, List.append_nil, List.append_assoc, List.cons_append], HB2.out⟩
    by_cases c111 : (3600 ≤ n % 86400) ∧ (60 ≤ n % 3600) ∧ (0 < n % 60)
    · obtain ⟨u1, u2, u3⟩ := c111
      rw [if_pos (by omega), if_pos (by omega), if_pos (by omega)]
      go_enter Tryd.func21, Tryd.ntmps21
      go_wp2_with fail
      refine (decimal_any (n % 86400 / 3600) _ (by omega) (by omega)).mono ?_
      rintro e w1 ⟨x1, rfl, ⟨e1, l1⟩, hb1⟩
      have E1 : Hid (nums x1 = decL (n % 86400 / 3600)) := e1
      have HB1 : Hid (Below w.heap.size w w1) := hb1
      clear e1 hb1
      go_wp2_with fail
      refine (decimal_any (n % 3600 / 60) _ (by omega) (by omega)).mono ?_
      rintro e w2 ⟨x2, rfl, ⟨e2, l2⟩, hb2⟩
      have E2 : Hid (nums x2 = decL (n % 3600 / 60)) := e2
      have HB2 : Hid (Below w.heap.size w w2) := HB1.out.trans (hb2.mono HB1.out.size)
      clear e2 hb2
      go_wp2_with fail
      refine (decimal_any (n % 60) _ (by omega) (by omega)).mono ?_
      rintro e w3 ⟨x3, rfl, ⟨e3, l3⟩, hb3⟩
      have E3 : Hid (nums x3 = decL (n % 60)) := e3
      have HB3 : Hid (Below w.heap.size w w3) := HB2.out.trans (hb3.mono HB2.out.size)
      clear e3 hb3
      go_wp2
      go_ret2
      exact ⟨_, rfl, by simp only [nums_append, E1.out, E2.out, E3.out, n72, n77, n83, n84, n80, List.nil_append, List.append_assoc, List.cons_append], HB3.out⟩
    exfalso
    omega
set_option maxHeartbeats 8000000 in
theorem rspan_negW (n : Int) (w : World) (h0 : 0 < n) (h1 : n ≤ 1099511627776) (b1 : n ≠ 0 ∧ n % 604800 = 0) :
    Calls Tryd.prog 21 #[.int .i64 (-n)] w fun e w' => ∃ x, e = .returned (.tuple #[.string x, .int .i64 0]) ∧ nums x = 45 :: 80 :: bodyL n ∧ Below w.heap.size w w' := by
  unfold bodyL
  rw [if_pos b1]
  obtain ⟨b2, b3⟩ := b1
  have t1 : 0 < n := by omega
  have t2 : (n % 604800 == 0) = true := by simp [b3]
  clear b2 b3
  go_enter Tryd.func21, Tryd.ntmps21
  go_wp2_with fail
  refine (decimal_any (n / 604800) _ (by omega) (by omega)).mono ?_
  rintro e w1 ⟨x1, rfl, ⟨e1, l1⟩, hb1⟩
  have E1 : Hid (nums x1 = decL (n / 604800)) := e1
  have HB1 : Hid (Below w.heap.size w w1) := hb1
  clear e1 hb1
  go_wp2
  go_ret2
  exact ⟨_, rfl, by simp only [nums_append, E1.out, n87, n45, List.nil_append, List.cons_append], HB1.out⟩
set_option maxHeartbeats 8000000 in
theorem rspan_negD (n : Int) (w : World) (h0 : 0 < n) (h1 : n ≤ 1099511627776) (b1 : ¬ (n ≠ 0 ∧ n % 604800 = 0)) (b4 : 86400 ≤ n) :
    Calls Tryd.prog 21 #[.int .i64 (-n)] w fun e w' => ∃ x, e = .returned (.tuple #[.string x, .int .i64 0]) ∧ nums x = 45 :: 80 :: bodyL n ∧ Below w.heap.size w w' := by
  unfold bodyL
  rw [if_neg b1, if_pos b4, clock_form]
  have t1 : 0 < n := by omega
  have t2 : (n % 604800 == 0) = false := by simp; omega
  have t3 : (n == 0) = false := by simp; omega
  by_cases b5 : n % 86400 = 0
  · rw [if_neg (by omega)]
    have t4 : ¬ 0 < n % 86400 := by omega
    have t5 : ¬ 3600 ≤ n % 86400 := by omega
    have t6 : ¬ 60 ≤ n % 3600 := by omega
    have t7 : ¬ 0 < n % 60 := by omega
    clear b1 b5
    go_enter Tryd.func21, Tryd.ntmps21
    go_wp2_with fail
    refine (decimal_any (n / 86400) _ (by omega) (by omega)).mono ?_
    rintro e w1 ⟨x1, rfl, ⟨e1, l1⟩, hb1⟩
    have E1 : Hid (nums x1 = decL (n / 86400)) := e1
    have HB1 : Hid (Below w.heap.size w w1) := hb1
    clear e1 hb1
    go_wp2
    go_ret2
    exact ⟨_, rfl, by simp only [nums_append, E1.out, n68, n45, List.nil_append, List.cons_append], HB1.out⟩
  · rw [if_pos (by omega : n = 0 ∨ n % 86400 ≠ 0)]
    have t4 : 0 < n % 86400 := by omega
    clear b1 b5
    by_cases c001 : (¬ 3600 ≤ n % 86400) ∧ (¬ 60 ≤ n % 3600) ∧ (0 < n % 60)
    · obtain ⟨u1, u2, u3⟩ := c001
      rw [if_neg (by omega), if_neg (by omega), if_pos (by omega)]
      go_enter Tryd.func21, Tryd.ntmps21
      go_wp2_with fail
      refine (decimal_any (n / 86400) _ (by omega) (by omega)).mono ?_
      rintro e w1 ⟨x1, rfl, ⟨e1, l1⟩, hb1⟩
      have E1 : Hid (nums x1 = decL (n / 86400)) := e1
      have HB1 : Hid (Below w.heap.size w w1) := hb1
      clear e1 hb1
      go_wp2_with fail
      refine (decimal_any (n % 60) _ (by omega) (by omega)).mono ?_
      rintro e w2 ⟨x2, rfl, ⟨e2, l2⟩, hb2⟩
      have E2 : Hid (nums x2 = decL (n % 60)) := e2
      have HB2 : Hid (Below w.heap.size w w2) := HB1.out.trans (hb2.mono HB1.out.size)
      clear e2 hb2
      go_wp2
      go_ret2
      exact ⟨_, rfl, by simp only [nums_append, E1.out, E2.out, n68, n83, n84, n45, List.nil_append, List.append_assoc, List.cons_append], HB2.out⟩
    by_cases c010 : (¬ 3600 ≤ n % 86400) ∧ (60 ≤ n % 3600) ∧ (¬ 0 < n % 60)
    · obtain ⟨u1, u2, u3⟩ := c010
      rw [if_neg (by omega), if_pos (by omega), if_neg (by omega)]
      go_enter Tryd.func21, Tryd.ntmps21
      go_wp2_with fail
      refine (decimal_any (n / 86400) _ (by omega) (by omega)).mono ?_
      rintro e w1 ⟨x1, rfl, ⟨e1, l1⟩, hb1⟩
      have E1 : Hid (nums x1 = decL (n / 86400)) := e1
      have HB1 : Hid (Below w.heap.size w w1) := hb1
      clear e1 hb1
      go_wp2_with fail
      refine (decimal_any (n % 3600 / 60) _ (by omega) (by omega)).mono ?_
      rintro e w2 ⟨x2, rfl, ⟨e2, l2⟩, hb2⟩
      have E2 : Hid (nums x2 = decL (n % 3600 / 60)) := e2
      have HB2 : Hid (Below w.heap.size w w2) := HB1.out.trans (hb2.mono HB1.out.size)
      clear e2 hb2
      go_wp2
      go_ret2
      exact ⟨_, rfl, by simp only [nums_append, E1.out, E2.out, n68, n77, n84, n45, List.nil_append, List.append_nil, List.append_assoc, List.cons_append], HB2.out⟩
    by_cases c011 : (¬ 3600 ≤ n % 86400) ∧ (60 ≤ n % 3600) ∧ (0 < n % 60)
    · obtain ⟨u1, u2, u3⟩ := c011
      rw [if_neg (by omega), if_pos (by omega), if_pos (by omega)]
      go_enter Tryd.func21, Tryd.ntmps21
      go_wp2_with fail
      refine (decimal_any (n / 86400) _ (by omega) (by omega)).mono ?_
      rintro e w1 ⟨x1, rfl, ⟨e1, l1⟩, hb1⟩
      have E1 : Hid (nums x1 = decL (n / 86400)) := e1
      have HB1 : Hid (Below w.heap.size w w1) := hb1
      clear e1 hb1
      go_wp2_with fail
      refine (decimal_any (n % 3600 / 60) _ (by omega) (by omega)).mono ?_
      rintro e w2 ⟨x2, rfl, ⟨e2, l2⟩, hb2⟩
      have E2 : Hid (nums x2 = decL (n % 3600 / 60)) := e2
      have HB2 : Hid (Below w.heap.size w w2) := HB1.out.trans (hb2.mono HB1.out.size)
      clear e2 hb2
      go_wp2_with fail
      refine (decimal_any (n % 60) _ (by omega) (by omega)).mono ?_
      rintro e w3 ⟨x3, rfl, ⟨e3, l3⟩, hb3⟩
      have E3 : Hid (nums x3 = decL (n % 60)) := e3
      have HB3 : Hid (Below w.heap.size w w3) := HB2.out.trans (hb3.mono HB2.out.size)
      clear e3 hb3
      go_wp2
      go_ret2
      exact ⟨_, rfl, by simp only [nums_append, E1.out, E2.out, E3.out, n68, n77, n83, n84, n45, List.nil_append, List.append_assoc, List.cons_append], HB3.out⟩
    by_cases c100 : (3600 ≤ n % 86400) ∧ (¬ 60 ≤ n % 3600) ∧ (¬ 0 < n % 60)
    · obtain ⟨u1, u2, u3⟩ := c100
      rw [if_pos (by omega), if_neg (by omega), if_neg (by omega)]
      go_enter Tryd.func21, Tryd.ntmps21
      go_wp2_with fail
      refine (decimal_any (n / 86400) _ (by omega) (by omega)).mono ?_
      rintro e w1 ⟨x1, rfl, ⟨e1, l1⟩, hb1⟩
      have E1 : Hid (nums x1 = decL (n / 86400)) := e1
      have HB1 : Hid (Below w.heap.size w w1) := hb1
      clear e1 hb1
      go_wp2_with fail
      refine (decimal_any (n % 86400 / 3600) _ (by omega) (by omega)).mono ?_
      rintro e w2 ⟨x2, rfl, ⟨e2, l2⟩, hb2⟩
      have E2 : Hid (nums x2 = decL (n % 86400 / 3600)) := e2
      have HB2 : Hid (Below w.heap.size w w2) := HB1.out.trans (hb2.mono HB1.out.size)
      clear e2 hb2
      go_wp2
      go_ret2
      exact ⟨_, rfl, by simp only [nums_append, E1.out, E2.out, n68, n72, n84, n45, List.nil_append, List.append_nil, List.append_assoc, List.cons_append], HB2.out⟩
    by_cases c101 : (3600 ≤ n % 86400) ∧ (¬ 60 ≤ n % 3600) ∧ (0 < n % 60)
    · obtain ⟨u1, u2, u3⟩ := c101
      rw [if_pos (by omega), if_pos (by omega), if_pos (by omega)]
      go_enter Tryd.func21, Tryd.ntmps21
      go_wp2_with fail
      refine (decimal_any (n / 86400) _ (by omega) (by omega)).mono ?_
      rintro e w1 ⟨x1, rfl, ⟨e1, l1⟩, hb1⟩
      have E1 : Hid (nums x1 = decL (n / 86400)) := e1
      have HB1 : Hid (Below w.heap.size w w1) := hb1
      clear e1 hb1
      go_wp2_with fail
      refine (decimal_any (n % 86400 / 3600) _ (by omega) (by omega)).mono ?_
      rintro e w2 ⟨x2, rfl, ⟨e2, l2⟩, hb2⟩
      have E2 : Hid (nums x2 = decL (n % 86400 / 3600)) := e2
      have HB2 : Hid (Below w.heap.size w w2) := HB1.out.trans (hb2.mono HB1.out.size)
      clear e2 hb2
      go_wp2_with fail
      refine (decimal_any (n % 3600 / 60) _ (by omega) (by omega)).mono ?_
      rintro e w3 ⟨x3, rfl, ⟨e3, l3⟩, hb3⟩
      have E3 : Hid (nums x3 = decL (n % 3600 / 60)) := e3
      have HB3 : Hid (Below w.heap.size w w3) := HB2.out.trans (hb3.mono HB2.out.size)
      clear e3 hb3
      go_wp2_with fail
      refine (decimal_any (n % 60) _ (by omega) (by omega)).mono ?_
      rintro e w4 ⟨x4, rfl, ⟨e4, l4⟩, hb4⟩
      have E4 : Hid (nums x4 = decL (n % 60)) := e4
      have HB4 : Hid (Below w.heap.size w w4) := HB3.out.trans (hb4.mono HB3.out.size)
      clear e4 hb4
      go_wp2
      go_ret2
      exact ⟨_, rfl, by simp only [nums_append, E1.out, E2.out, E3.out, E4.out, n68, n72, n77, n83, n84, n45, List.nil_append, List.append_assoc, List.cons_append], HB4.out⟩
    by_cases c110 : (3600 ≤ n % 86400) ∧ (60 ≤ n % 3600) ∧ (¬ 0 < n % 60)
    · obtain ⟨u1, u2, u3⟩ := c110
      rw [if_pos (by omega), if_pos (by omega), if_neg (by omega)]
      go_enter Tryd.func21, Tryd.ntmps21
      go_wp2_with fail
      refine (decimal_any (n / 86400) _ (by omega) (by omega)).mono ?_
      rintro e w1 ⟨x1, rfl, ⟨e1, l1⟩, hb1⟩
      have E1 : Hid (nums x1 = decL (n / 86400)) := e1
      have HB1 : Hid (Below w.heap.size w w1) := hb1
      clear e1 hb1
      go_wp2_with fail
      refine (decimal_any (n % 86400 / 3600) _ (by omega) (by omega)).mono ?_
      rintro e w2 ⟨x2, rfl, ⟨e2, l2⟩, hb2⟩
      have E2 : Hid (nums x2 = decL (n % 86400 / 3600)) := e2
      have HB2 : Hid (Below w.heap.size w w2) := HB1.out.trans (hb2.mono HB1.out.size)
      clear e2 hb2
      go_wp2_with fail
      refine (decimal_any (n % 3600 / 60) _ (by omega) (by omega)).mono ?_
      rintro e w3 ⟨x3, rfl, ⟨e3, l3⟩, hb3⟩
      have E3 : Hid (nums x3 = decL (n % 3600 / 60)) := e3
      have HB3 : Hid (Below w.heap.size w w3) := HB2.out.trans (hb3.mono HB2.out.size)
      clear e3 hb3
      go_wp2
      go_ret2
      exact ⟨_, rfl, by simp only [nums_append, E1.out, E2.out, E3.out, n68, n72, n77, n84, n45, List.nil_append, List.append_nil, List.append_assoc, List.cons_append], HB3.out⟩
    by_cases c111 : (3600 ≤ n % 86400) ∧ (60 ≤ n % 3600) ∧ (0 < n % 60)
    · obtain ⟨u1, u2, u3⟩ := c111
      rw [if_pos (by omega), if_pos (by omega), if_pos (by omega)]
      go_enter Tryd.func21, Tryd.ntmps21
      go_wp2_with fail
      refine (decimal_any (n / 86400) _ (by omega) (by omega)).mono ?_
      rintro e w1 ⟨x1, rfl, ⟨e1, l1⟩, hb1⟩
      have E1 : Hid (nums x1 = decL (n / 86400)) := e1
      have HB1 : Hid (Below w.heap.size w w1) := hb1
      clear e1 hb1
      go_wp2_with fail
      refine (decimal_any (n % 86400 / 3600) _ (by omega) (by omega)).mono ?_
      rintro e w2 ⟨x2, rfl, ⟨e2, l2⟩, hb2⟩
      have E2 : Hid (nums x2 = decL (n % 86400 / 3600)) := e2
      have HB2 : Hid (Below w.heap.size w w2) := HB1.out.trans (hb2.mono HB1.out.size)
      clear e2 hb2
      go_wp2_with fail
      refine (decimal_any (n % 3600 / 60) _ (by omega) (by omega)).mono ?_
      rintro e w3 ⟨x3, rfl, ⟨e3, l3⟩, hb3⟩
      have E3 : Hid (nums x3 = decL (n % 3600 / 60)) := e3
      have HB3 : Hid (Below w.heap.size w w3) := HB2.out.trans (hb3.mono HB2.out.size)
      clear e3 hb3
      go_wp2_with fail
      refine (decimal_any (n % 60) _ (by omega) (by omega)).mono ?_
      rintro e w4 ⟨x4, rfl, ⟨e4, l4⟩, hb4⟩
      have E4 : Hid (nums x4 = decL (n % 60)) := e4
      have HB4 : Hid (Below w.heap.size w w4) := HB3.out.trans (hb4.mono HB3.out.size)
      clear e4 hb4
      go_wp2
      go_ret2
      exact ⟨_, rfl, by simp only [nums_append, E1.out, E2.out, E3.out, E4.out, n68, n72, n77, n83, n84, n45, List.nil_append, List.append_assoc, List.cons_append], HB4.out⟩
    exfalso
    omega
set_option maxHeartbeats 8000000 in
theorem rspan_negN (n : Int) (w : World) (h0 : 0 < n) (h1 : n ≤ 1099511627776) (b1 : ¬ (n ≠ 0 ∧ n % 604800 = 0)) (b4 : ¬ 86400 ≤ n) :
    Calls Tryd.prog 21 #[.int .i64 (-n)] w fun e w' => ∃ x, e = .returned (.tuple #[.string x, .int .i64 0]) ∧ nums x = 45 :: 80 :: bodyL n ∧ Below w.heap.size w w' := by
  unfold bodyL
  rw [if_neg b1, if_neg b4, clock_form, if_pos (by omega : n = 0 ∨ n % 86400 ≠ 0)]
  have t1 : 0 < n := by omega
  have t2 : (n % 604800 == 0) = false := by simp; omega
  have t3 : (n == 0) = false := by simp; omega
  have t4 : 0 < n % 86400 := by omega
  clear b1
  by_cases c001 : (¬ 3600 ≤ n % 86400) ∧ (¬ 60 ≤ n % 3600) ∧ (0 < n % 60)
  · obtain ⟨u1, u2, u3⟩ := c001
    rw [if_neg (by omega), if_neg (by omega), if_pos (by omega)]
    go_enter Tryd.func21, Tryd.ntmps21
    go_wp2_with fail
    refine (decimal_any (n % 60) _ (by omega) (by omega)).mono ?_
    rintro e w1 ⟨x1, rfl, ⟨e1, l1⟩, hb1⟩
    have E1 : Hid (nums x1 = decL (n % 60)) := e1
    have HB1 : Hid (Below w.heap.size w w1) := hb1
    clear e1 hb1
    go_wp2
    go_ret2
    exact ⟨_, rfl, by simp only [nums_append, E1.out, n83, n84, n45, List.nil_append, List.cons_append], HB1.out⟩
  by_cases c010 : (¬ 3600 ≤ n % 86400) ∧ (60 ≤ n % 3600) ∧ (¬ 0 < n % 60)
  · obtain ⟨u1, u2, u3⟩ := c010
    rw [if_neg (by omega), if_pos (by omega), if_neg (by omega)]
    go_enter Tryd.func21, Tryd.ntmps21
    go_wp2_with fail
    refine (decimal_any (n % 3600 / 60) _ (by omega) (by omega)).mono ?_
    rintro e w1 ⟨x1, rfl, ⟨e1, l1⟩, hb1⟩
    have E1 : Hid (nums x1 = decL (n % 3600 / 60)) := e1
    have HB1 : Hid (Below w.heap.size w w1) := hb1
    clear e1 hb1
    go_wp2
    go_ret2
    exact ⟨_, rfl, by simp only [nums_append, E1.out, n77, n84, n45, List.nil_append, List.append_nil, List.cons_append], HB1.out⟩
  by_cases c011 : (¬ 3600 ≤ n % 86400) ∧ (60 ≤ n % 3600) ∧ (0 < n % 60)
  · obtain ⟨u1, u2, u3⟩ := c011
    rw [if_neg (by omega), if_pos (by omega), if_pos (by omega)]
    go_enter Tryd.func21, Tryd.ntmps21
    go_wp2_with fail
    refine (decimal_any (n % 3600 / 60) _ (by omega) (by omega)).mono ?_
    rintro e w1 ⟨x1, rfl, ⟨e1, l1⟩, hb1⟩
    have E1 : Hid (nums x1 = decL (n % 3600 / 60)) := e1
    have HB1 : Hid (Below w.heap.size w w1) := hb1
    clear e1 hb1
    go_wp2_with fail
    refine (decimal_any (n % 60) _ (by omega) (by omega)).mono ?_
    rintro e w2 ⟨x2, rfl, ⟨e2, l2⟩, hb2⟩
    have E2 : Hid (nums x2 = decL (n % 60)) := e2
    have HB2 : Hid (Below w.heap.size w w2) := HB1.out.trans (hb2.mono HB1.out.size)
    clear e2 hb2
    go_wp2
    go_ret2
    exact ⟨_, rfl, by simp only [nums_append, E1.out, E2.out, n77, n83, n84, n45, List.nil_append, List.append_assoc, List.cons_append], HB2.out⟩
  by_cases c100 : (3600 ≤ n % 86400) ∧ (¬ 60 ≤ n % 3600) ∧ (¬ 0 < n % 60)
  · obtain ⟨u1, u2, u3⟩ := c100
    rw [if_pos (by omega), if_neg (by omega), if_neg (by omega)]
    go_enter Tryd.func21, Tryd.ntmps21
    go_wp2_with fail
    refine (decimal_any (n % 86400 / 3600) _ (by omega) (by omega)).mono ?_
    rintro e w1 ⟨x1, rfl, ⟨e1, l1⟩, hb1⟩
    have E1 : Hid (nums x1 = decL (n % 86400 / 3600)) := e1
    have HB1 : Hid (Below w.heap.size w w1) := hb1
    clear e1 hb1
    go_wp2
    go_ret2
    exact ⟨_, rfl, by simp only [nums_append, E1.out, n72, n84, n45, List.nil_append, List.append_nil, List.cons_append], HB1.out⟩
  by_cases c101 : (3600 ≤ n % 86400) ∧ (¬ 60 ≤ n % 3600) ∧ (0 < n % 60)
  · obtain ⟨u1, u2, u3⟩ := c101
    rw [if_pos (by omega), if_pos (by omega), if_pos (by omega)]
    go_enter Tryd.func21, Tryd.ntmps21
    go_wp2_with fail
    refine (decimal_any (n % 86400 / 3600) _ (by omega) (by omega)).mono ?_
    rintro e w1 ⟨x1, rfl, ⟨e1, l1⟩, hb1⟩
    have E1 : Hid (nums x1 = decL (n % 86400 / 3600)) := e1
    have HB1 : Hid (Below w.heap.size w w1) := hb1
    clear e1 hb1
    go_wp2_with fail
    refine (decimal_any (n % 3600 / 60) _ (by omega) (by omega)).mono ?_
    rintro e w2 ⟨x2, rfl, ⟨e2, l2⟩, hb2⟩
    have E2 : Hid (nums x2 = decL (n % 3600 / 60)) := e2
    have HB2 : Hid (Below w.heap.size w w2) := HB1.out.trans (hb2.mono HB1.out.size)
    clear e2 hb2
    go_wp2_with fail
    refine (decimal_any (n % 60) _ (by omega) (by omega)).mono ?_
    rintro e w3 ⟨x3, rfl, ⟨e3, l3⟩, hb3⟩
    have E3 : Hid (nums x3 = decL (n % 60)) := e3
    have HB3 : Hid (Below w.heap.size w w3) := HB2.out.trans (hb3.mono HB2.out.size)
    clear e3 hb3
    go_wp2
    go_ret2
    exact ⟨_, rfl, by simp only [nums_append, E1.out, E2.out, E3.out, n72, n77, n83, n84, n45, List.nil_append, List.append_assoc, List.cons_append], HB3.out⟩
  by_cases c110 : (3600 ≤ n % 86400) ∧ (60 ≤ n % 3600) ∧ (¬ 0 < n % 60)
  · obtain ⟨u1, u2, u3⟩ := c110
    rw [if_pos (by omega), if_pos (by omega), if_neg (by omega)]
    go_enter Tryd.func21, Tryd.ntmps21
    go_wp2_with fail
    refine (decimal_any (n % 86400 / 3600) _ (by omega) (by omega)).mono ?_
    rintro e w1 ⟨x1, rfl, ⟨e1, l1⟩, hb1⟩
    have E1 : Hid (nums x1 = decL (n % 86400 / 3600)) := e1
    have HB1 : Hid (Below w.heap.size w w1) := hb1
    clear e1 hb1
    go_wp2_with fail
    refine (decimal_any (n % 3600 / 60) _ (by omega) (by omega)).mono ?_
    rintro e w2 ⟨x2, rfl, ⟨e2, l2⟩, hb2⟩
    have E2 : Hid (nums x2 = decL (n % 3600 / 60)) := e2
    have HB2 : Hid (Below w.heap.size w w2) := HB1.out.trans (hb2.mono HB1.out.size)
    clear e2 hb2
    go_wp2
    go_ret2
    exact ⟨_, rfl, by simp only [nums_append, E1.out, E2.out, n72, n77, n84, n45, List.nil_append, List.append_nil, List.append_assoc, List.cons_append], HB2.out⟩
  by_cases c111 : (3600 ≤ n % 86400) ∧ (60 ≤ n % 3600) ∧ (0 < n % 60)
  · obtain ⟨u1, u2, u3⟩ := c111
    rw [if_pos (by omega), if_pos (by omega), if_pos (by omega)]
    go_enter Tryd.func21, Tryd.ntmps21
    go_wp2_with fail
    refine (decimal_any (n % 86400 / 3600) _ (by omega) (by omega)).mono ?_
    rintro e w1 ⟨x1, rfl, ⟨e1, l1⟩, hb1⟩
    have E1 : Hid (nums x1 = decL (n % 86400 / 3600)) := e1
    have HB1 : Hid (Below w.heap.size w w1) := hb1
    clear e1 hb1
    go_wp2_with fail
    refine (decimal_any (n % 3600 / 60) _ (by omega) (by omega)).mono ?_
    rintro e w2 ⟨x2, rfl, ⟨e2, l2⟩, hb2⟩
    have E2 : Hid (nums x2 = decL (n % 3600 / 60)) := e2
    have HB2 : Hid (Below w.heap.size w w2) := HB1.out.trans (hb2.mono HB1.out.size)
    clear e2 hb2
    go_wp2_with fail
    refine (decimal_any (n % 60) _ (by omega) (by omega)).mono ?_
    rintro e w3 ⟨x3, rfl, ⟨e3, l3⟩, hb3⟩
    have E3 : Hid (nums x3 = decL (n % 60)) := e3
    have HB3 : Hid (Below w.heap.size w w3) := HB2.out.trans (hb3.mono HB2.out.size)
    clear e3 hb3
    go_wp2
    go_ret2
    exact ⟨_, rfl, by simp only [nums_append, E1.out, E2.out, E3.out, n72, n77, n83, n84, n45, List.nil_append, List.append_assoc, List.cons_append], HB3.out⟩
  exfalso
  omega
theorem rspan_any (n : Int) (w : World) (h0 : -9223372036854775808 ≤ n) (h1 : n ≤ 9223372036854775807) :
    Calls Tryd.prog 21 #[.int .i64 n] w fun e w' => ∃ x, e = .returned (.tuple #[.string x, .int .i64 (spanE n)]) ∧ nums x = spanT n ∧ Below w.heap.size w w' := by
  by_cases h : -mostZ ≤ n ∧ n ≤ mostZ
  · have e1 : spanE n = 0 := by unfold spanE; rw [if_pos h]
    have e2 : spanT n = spanL n := by unfold spanT; rw [if_pos h]
    rw [e1, e2]
    unfold mostZ at h
    unfold spanL
    by_cases hn : n < 0
    · rw [if_pos hn]
      have key : Calls Tryd.prog 21 #[.int .i64 (- -n)] w fun e w' => ∃ x, e = .returned (.tuple #[.string x, .int .i64 0]) ∧ nums x = 45 :: 80 :: bodyL (-n) ∧ Below w.heap.size w w' := by
        by_cases b1 : (-n) ≠ 0 ∧ (-n) % 604800 = 0
        · exact rspan_negW (-n) w (by omega) (by omega) b1
        · by_cases b4 : 86400 ≤ -n
          · exact rspan_negD (-n) w (by omega) (by omega) b1 b4
          · exact rspan_negN (-n) w (by omega) (by omega) b1 b4
      rwa [Int.neg_neg] at key
    · rw [if_neg hn]
      by_cases b1 : n ≠ 0 ∧ n % 604800 = 0
      · exact rspan_posW n w (by omega) (by omega) b1
      · by_cases b4 : 86400 ≤ n
        · exact rspan_posD n w (by omega) (by omega) b1 b4
        · exact rspan_posN n w (by omega) (by omega) b1 b4
  · refine (rspan_no n w h h0 h1).mono ?_
    rintro e w' ⟨rfl, rfl⟩
    have e1 : spanE n = 110 := by unfold spanE; rw [if_neg h]
    have e2 : spanT n = [] := by unfold spanT; rw [if_neg h]
    rw [e1, e2]
    exact ⟨_, rfl, n0, Below.refl _ _⟩
end Go.Proofs.YtkamnphiocoebaaDoor
