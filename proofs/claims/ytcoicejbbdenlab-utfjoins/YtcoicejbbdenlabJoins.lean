/-
  For every two texts the law UtfJoins of joining texts returns true, and both read as before: no condition.
-/
import Derived.Test.YtcoicejbbdenlabRows
import Derived.Test.YtcoicejbbdenlabApp
import Derived.WalkKit
import Derived.ProofKit
import Derived.OpenShut
import Derived.ShutString
import Derived.ChangeOld
import Derived.Below
namespace Go.Proofs.Ytcoicejbbdenlab.utfJoins
open Go.ChangeShapes Go.WideShapes Go.ChangeAt Go.RowKit
open Go.ChangeMaps (open_string shut_string)
set_option linter.unusedVariables false


set_option maxHeartbeats 1000000 in
theorem walk_long (a : Option Addr) (len cap : Nat) (a' : Option Addr) (len' cap' : Nat) (w : World) (hcap : len ≤ cap) (hm : cap ≤ maxLen) (hcap' : len' ≤ cap') (hm' : cap' ≤ maxLen) (h : 1000 < len ∨ len ≤ 1000 ∧ 1000 < len') :
    Calls Try.prog 8 #[.slice a len cap, .slice a' len' cap'] w fun e w' => e = .returned (.bool true) ∧ Below w.heap.size w w' := by
  unfold maxLen at hm hm'
  rcases h with h | ⟨h, h'⟩
  all_goals
    go_enter Try.func8, Try.ntmps8
    go_wp2_with fail
    refine (alive_any _).mono ?_
    rintro e w3 ⟨rfl, hb3⟩
    have HB : Hid (Below w.heap.size w w3) := hb3
    clear hb3
    go_wp2
    go_ret
    exact ⟨rfl, HB.out⟩

set_option maxHeartbeats 1000000 in
theorem walk_bad (a : Option Addr) (len cap : Nat) (a' : Option Addr) (len' cap' : Nat) (ps r : List Int) (w : World) (hcap : len ≤ cap) (hm : cap ≤ maxLen) (h1 : len ≤ 1000) (h2 : len' ≤ 1000) (hl : (flat ps ++ r).length = len) (hps : AllPt ps) (hr : decZ r = none) (hne : r ≠ []) (hb : Byt r) (hrow : Row w a (flat ps ++ r)) :
    Calls Try.prog 8 #[.slice a len cap, .slice a' len' cap'] w fun e w' => e = .returned (.bool true) ∧ Below w.heap.size w w' := by
  have HL : Hid ((flat ps ++ r).length = len) := hl
  have HR : Hid (decZ r = none) := hr
  have HE : Hid (r.isEmpty = false) := List.isEmpty_eq_false_iff.2 hne
  clear hl hr hne
  go_enter Try.func8, Try.ntmps8
  go_wp2_with fail
  refine (valid_any a len cap ps r w HL.out hps HR.out hb hcap hm hrow).mono ?_
  rintro e w1 ⟨rfl, rfl⟩
  rw [HE.out]
  go_wp2_with fail
  refine (alive_any _).mono ?_
  rintro e w3 ⟨rfl, hb3⟩
  have HB : Hid (Below w.heap.size w w3) := hb3
  clear hb3
  go_wp2
  go_ret
  exact ⟨rfl, HB.out⟩

set_option maxHeartbeats 4000000 in
theorem walk_no (a : Option Addr) (len cap : Nat) (ps : List Int) (a' : Option Addr) (len' cap' : Nat) (qs : List Int) (r : List Int) (w : World)
    (hl : (flat ps).length = len) (hcap : len ≤ cap) (hm : cap ≤ maxLen) (hsm : len ≤ 1000) (hp : AllPt ps) (hrow : Row w a (flat ps)) (hn0 : a = none → cap = 0)
    (hl' : (flat qs ++ r).length = len') (hcap' : len' ≤ cap') (hm' : cap' ≤ maxLen) (hsm' : len' ≤ 1000) (hq : AllPt qs) (hr : decZ r = none) (hne : r ≠ []) (hby : Byt r) (hrow' : Row w a' (flat qs ++ r)) (hn0' : a' = none → cap' = 0) :
    Calls Try.prog 8 #[.slice a len cap, .slice a' len' cap'] w fun e w' => e = .returned (.bool true) ∧ Below w.heap.size w w' := by
  obtain ⟨i0, hi, hz0, hz1, hz2⟩ := info_parts Try.info5
  obtain ⟨i1, hi1, hy0, hy1, hy2⟩ := info_parts Try.info21
  have HL : Hid ((flat ps).length = len) := hl
  have HL0 : Hid ((flat ps ++ []).length = len) := by unfold Hid; rw [List.append_nil]; exact hl
  have HR : Hid (Row w a (flat ps)) := hrow
  have HR0 : Hid (Row w a (flat ps ++ [])) := by unfold Hid; rw [List.append_nil]; exact hrow
  have HL' : Hid ((flat qs ++ r).length = len') := hl'
  have HR' : Hid (Row w a' (flat qs ++ r)) := hrow'
  have HZ : Hid (a = none → cap = 0) := hn0
  have HZ' : Hid (a' = none → cap' = 0) := hn0'
  have HLL : Hid ((flat ps ++ (flat qs ++ r)).length = len + len') := by unfold Hid; rw [List.length_append, hl, hl']
  clear hl hl' hrow hrow' hn0 hn0'
  go_enter Try.func8, Try.ntmps8
  go_wp2_with fail
  refine (valid_any a len cap ps [] w HL0.out hp rfl (by intro x hx; simp at hx) hcap hm HR0.out).mono ?_
  rintro e w1 ⟨rfl, rfl⟩
  go_wp2_with (at_builtin; refine wpList_append_rowk rfl (.tmp 27) (.tmp 28) 22 rfl w.heap.size 5 i0 (.int .u8 0) 1 Try.underlying22 hi hz0 hz1 hz2 rfl .u8 _ _ _ rfl (World.ownsRow_nil _ _ _ _) a len cap (flat ps) rfl HL.out HZ.out HR.out ?c1 ?c2 ?c3 ?_)
  case c1 => unfold maxLen; omega
  case c2 => omega
  case c3 => exact Nat.le_refl _
  intro v1 w1 hown1 hgrow1
  have HB1 : Hid (Below w.heap.size w w1) := (Below.refl _ _).grown hgrow1 (Nat.le_refl _) (by intro k hk; simp [Value.ownBlock] at hk)
  try simp only [Nat.zero_add, List.nil_append] at hown1
  clear hgrow1
  go_wp2_with (at_builtin; refine wpList_append_rowk rfl (.tmp 30) (.tmp 31) 22 rfl w.heap.size 5 i0 (.int .u8 0) 1 Try.underlying22 hi hz0 hz1 hz2 rfl .u8 _ _ _ rfl hown1 a' len' cap' (flat qs ++ r) rfl HL'.out HZ'.out (row_below HR'.out HB1.out) ?d1 ?d2 ?d3 ?_)
  case d1 => unfold maxLen; omega
  case d2 => omega
  case d3 => exact HB1.out.size
  intro v2 w2 hown2 hgrow2
  have HB2 : Hid (Below w.heap.size w w2) := HB1.out.grown hgrow2 HB1.out.size (fun k hk => (hown1.lt k hk).1)
  obtain ⟨a2, cap2, rfl, hcap2, hm2, hrow2, hn2⟩ := own_row' (l := flat ps ++ (flat qs ++ r)) (k := .u8) (e := 5) (w := w2) (B := w.heap.size) (v := v2) (by rw [HLL.out]; simpa [List.map_append] using hown2)
  rw [HLL.out]
  rw [HLL.out] at hcap2
  have HA2 : Hid (Row w2 a2 (flat ps ++ (flat qs ++ r))) := hrow2
  clear hown2 hgrow2 hown1 hrow2 hn2
  go_wp2_with fail
  refine (points_yes a len cap ps w2 HL.out hp hcap hm (by omega) (row_below HR.out HB2.out)).mono ?_
  rintro e w3 ⟨v3, rfl, hown3, hb3⟩
  obtain ⟨a3, cap3, rfl, hcap3, hm3, hrow3, hn3⟩ := own_row' hown3
  have HB3 : Hid (Below w.heap.size w w3) := HB2.out.trans (hb3.mono HB2.out.size)
  have HK3 : Hid (Below w3.heap.size w3 (w3.alloc (.cells #[.int .i64 0, .int .i64 0] 32))) := keep _ _
  have HX3 : Hid (RowK .i32 w3 a3 ps) := hrow3
  have HZ3 : Hid (a3 = none → cap3 = 0) := hn3
  have HA3 : Hid (Row w3 a2 (flat ps ++ (flat qs ++ r))) := row_below HA2.out hb3
  clear hown3 hb3 hrow3 hn3
  go_wp2_with fail
  refine (points_no a' len' cap' qs r (w3.alloc (.cells #[.int .i64 0, .int .i64 0] 32)) HL'.out hq hr hne hby hcap' hm' (by omega) (row_below HR'.out (HB3.out.alloc HB3.out.size _))).mono ?_
  rintro e w4 ⟨rfl, hb4⟩
  have HB4 : Hid (Below w.heap.size w w4) := (HB3.out.alloc HB3.out.size _).trans (hb4.mono (HB3.out.alloc HB3.out.size _).size)
  have HA4 : Hid (Row w4 a2 (flat ps ++ (flat qs ++ r))) := row_below (row_below HA3.out HK3.out) hb4
  clear hb4
  go_wp2_with fail
  refine (points_no a2 (len + len') cap2 (ps ++ qs) r (w4.alloc (.cells #[.int .i64 (flat qs).length, .int .i64 20] 32)) (by rw [flat_append, List.append_assoc]; exact HLL.out) (hp.append hq) hr hne hby hcap2 hm2 (by omega) (by rw [flat_append, List.append_assoc]; exact row_below HA4.out (keep _ _))).mono ?_
  rintro e w5 ⟨rfl, hb5⟩
  have HB5 : Hid (Below w.heap.size w w5) := (HB4.out.alloc HB4.out.size _).trans (hb5.mono (HB4.out.alloc HB4.out.size _).size)
  have hs5 : w4.heap.size + 1 ≤ w5.heap.size := by have := hb5.size; simpa using this
  have d0 : w5.cell? ⟨w4.heap.size, 0, none⟩ = some (.int .i64 (flat qs).length) := by rw [hb5.cell (by simp)]; exact cellA _ _ _
  have d1 : w5.cell? ⟨w4.heap.size, 1, none⟩ = some (.int .i64 20) := by rw [hb5.cell (by simp)]; exact cellB _ _ _
  have D0 : Hid (w5.cell? ⟨w4.heap.size, 0, none⟩ = some (.int .i64 (flat qs).length)) := d0
  have D1 : Hid (w5.cell? ⟨w4.heap.size, 1, none⟩ = some (.int .i64 20)) := d1
  have d1' : (w5.alloc (.cells #[.int .i64 (flat (ps ++ qs)).length, .int .i64 20] 32)).cell? ⟨w4.heap.size, 1, none⟩ = some (.int .i64 20) := by rw [(keep w5 _).cell (by simp; omega)]; exact d1
  clear hb5
  go_wp2_with fail
  refine (alive_any _).mono ?_
  rintro e w6 ⟨rfl, hb6⟩
  have HB6 : Hid (Below w.heap.size w w6) := (HB5.out.alloc HB5.out.size _).trans (hb6.mono (HB5.out.alloc HB5.out.size _).size)
  have e0 : w6.cell? ⟨w4.heap.size, 0, none⟩ = some (.int .i64 (flat qs).length) := by rw [hb6.cell (by simp; omega), (keep w5 _).cell (by simp; omega)]; exact D0.out
  have e1 : w6.cell? ⟨w4.heap.size, 1, none⟩ = some (.int .i64 20) := by rw [hb6.cell (by simp; omega), (keep w5 _).cell (by simp; omega)]; exact D1.out
  have e2 : w6.cell? ⟨w5.heap.size, 0, none⟩ = some (.int .i64 (flat (ps ++ qs)).length) := by rw [hb6.cell (by simp)]; exact cellA _ _ _
  have e3 : w6.cell? ⟨w5.heap.size, 1, none⟩ = some (.int .i64 20) := by rw [hb6.cell (by simp)]; exact cellB _ _ _
  have hfl : (flat qs).length ≤ len' := by rw [← HL'.out, List.length_append]; omega
  have heq : (((flat (ps ++ qs)).length : Int) == ((flat qs).length : Int) + (len : Int)) = true := by
    rw [beq_iff_eq, flat_append, List.length_append, HL.out]; omega
  clear hb6 d0 d1 d1'
  go_wp2
  go_ret
  exact ⟨rfl, HB6.out⟩

set_option maxHeartbeats 4000000 in
theorem walk_yes (a : Option Addr) (len cap : Nat) (ps : List Int) (a' : Option Addr) (len' cap' : Nat) (qs : List Int) (w : World)
    (hl : (flat ps).length = len) (hcap : len ≤ cap) (hm : cap ≤ maxLen) (hsm : len ≤ 1000) (hp : AllPt ps) (hrow : Row w a (flat ps)) (hn0 : a = none → cap = 0)
    (hl' : (flat qs).length = len') (hcap' : len' ≤ cap') (hm' : cap' ≤ maxLen) (hsm' : len' ≤ 1000) (hq : AllPt qs) (hrow' : Row w a' (flat qs)) (hn0' : a' = none → cap' = 0) :
    Calls Try.prog 8 #[.slice a len cap, .slice a' len' cap'] w fun e w' => e = .returned (.bool true) ∧ Below w.heap.size w w' := by
  obtain ⟨i0, hi, hz0, hz1, hz2⟩ := info_parts Try.info5
  obtain ⟨i1, hi1, hy0, hy1, hy2⟩ := info_parts Try.info21
  have HL : Hid ((flat ps).length = len) := hl
  have HL0 : Hid ((flat ps ++ []).length = len) := by unfold Hid; rw [List.append_nil]; exact hl
  have HR : Hid (Row w a (flat ps)) := hrow
  have HR0 : Hid (Row w a (flat ps ++ [])) := by unfold Hid; rw [List.append_nil]; exact hrow
  have HL' : Hid ((flat qs).length = len') := hl'
  have HR' : Hid (Row w a' (flat qs)) := hrow'
  have HZ : Hid (a = none → cap = 0) := hn0
  have HZ' : Hid (a' = none → cap' = 0) := hn0'
  have HLL : Hid ((flat ps ++ (flat qs)).length = len + len') := by unfold Hid; rw [List.length_append, hl, hl']
  clear hl hl' hrow hrow' hn0 hn0'
  go_enter Try.func8, Try.ntmps8
  go_wp2_with fail
  refine (valid_any a len cap ps [] w HL0.out hp rfl (by intro x hx; simp at hx) hcap hm HR0.out).mono ?_
  rintro e w1 ⟨rfl, rfl⟩
  go_wp2_with (at_builtin; refine wpList_append_rowk rfl (.tmp 27) (.tmp 28) 22 rfl w.heap.size 5 i0 (.int .u8 0) 1 Try.underlying22 hi hz0 hz1 hz2 rfl .u8 _ _ _ rfl (World.ownsRow_nil _ _ _ _) a len cap (flat ps) rfl HL.out HZ.out HR.out ?c1 ?c2 ?c3 ?_)
  case c1 => unfold maxLen; omega
  case c2 => omega
  case c3 => exact Nat.le_refl _
  intro v1 w1 hown1 hgrow1
  have HB1 : Hid (Below w.heap.size w w1) := (Below.refl _ _).grown hgrow1 (Nat.le_refl _) (by intro k hk; simp [Value.ownBlock] at hk)
  try simp only [Nat.zero_add, List.nil_append] at hown1
  clear hgrow1
  go_wp2_with (at_builtin; refine wpList_append_rowk rfl (.tmp 30) (.tmp 31) 22 rfl w.heap.size 5 i0 (.int .u8 0) 1 Try.underlying22 hi hz0 hz1 hz2 rfl .u8 _ _ _ rfl hown1 a' len' cap' (flat qs) rfl HL'.out HZ'.out (row_below HR'.out HB1.out) ?d1 ?d2 ?d3 ?_)
  case d1 => unfold maxLen; omega
  case d2 => omega
  case d3 => exact HB1.out.size
  intro v2 w2 hown2 hgrow2
  have HB2 : Hid (Below w.heap.size w w2) := HB1.out.grown hgrow2 HB1.out.size (fun k hk => (hown1.lt k hk).1)
  obtain ⟨a2, cap2, rfl, hcap2, hm2, hrow2, hn2⟩ := own_row' (l := flat ps ++ (flat qs)) (k := .u8) (e := 5) (w := w2) (B := w.heap.size) (v := v2) (by rw [HLL.out]; simpa [List.map_append] using hown2)
  rw [HLL.out]
  rw [HLL.out] at hcap2
  have HA2 : Hid (Row w2 a2 (flat ps ++ (flat qs))) := hrow2
  clear hown2 hgrow2 hown1 hrow2 hn2
  go_wp2_with fail
  refine (points_yes a len cap ps w2 HL.out hp hcap hm (by omega) (row_below HR.out HB2.out)).mono ?_
  rintro e w3 ⟨v3, rfl, hown3, hb3⟩
  obtain ⟨a3, cap3, rfl, hcap3, hm3, hrow3, hn3⟩ := own_row' hown3
  have HB3 : Hid (Below w.heap.size w w3) := HB2.out.trans (hb3.mono HB2.out.size)
  have HK3 : Hid (Below w3.heap.size w3 (w3.alloc (.cells #[.int .i64 0, .int .i64 0] 32))) := keep _ _
  have HX3 : Hid (RowK .i32 w3 a3 ps) := hrow3
  have HZ3 : Hid (a3 = none → cap3 = 0) := hn3
  have HA3 : Hid (Row w3 a2 (flat ps ++ (flat qs))) := row_below HA2.out hb3
  clear hown3 hb3 hrow3 hn3
  go_wp2_with fail
  refine (points_yes a' len' cap' qs (w3.alloc (.cells #[.int .i64 0, .int .i64 0] 32)) HL'.out hq hcap' hm' (by omega) (row_below HR'.out (HB3.out.alloc HB3.out.size _))).mono ?_
  rintro e w4 ⟨v4, rfl, hown4, hb4⟩
  obtain ⟨a4, cap4, rfl, hcap4, hm4, hrow4, hn4⟩ := own_row' hown4
  have HB4 : Hid (Below w.heap.size w w4) := (HB3.out.alloc HB3.out.size _).trans (hb4.mono (HB3.out.alloc HB3.out.size _).size)
  have HA4 : Hid (Row w4 a2 (flat ps ++ flat qs)) := row_below (row_below HA3.out HK3.out) hb4
  have HX4 : Hid (RowK .i32 w4 a3 ps) := rowK_below (rowK_below HX3.out HK3.out) hb4
  have HY4 : Hid (RowK .i32 w4 a4 qs) := hrow4
  have HZ4 : Hid (a4 = none → cap4 = 0) := hn4
  have D3 : Hid (w4.cell? ⟨w3.heap.size, 1, none⟩ = some (.int .i64 0)) := by unfold Hid; rw [hb4.cell (by simp)]; exact cellB _ _ _
  have hs4 : w3.heap.size + 1 ≤ w4.heap.size := by have := hb4.size; simpa using this
  clear hb4 hown4 hrow4 hn4
  go_wp2_with fail
  refine (points_yes a2 (len + len') cap2 (ps ++ qs) (w4.alloc (.cells #[.int .i64 0, .int .i64 0] 32)) (by rw [flat_append]; exact HLL.out) (hp.append hq) hcap2 hm2 (by omega) (by rw [flat_append]; exact row_below HA4.out (keep _ _))).mono ?_
  rintro e w5 ⟨v5, rfl, hown5, hb5⟩
  obtain ⟨a5, cap5, rfl, hcap5, hm5, hrow5, hn5⟩ := own_row' hown5
  have HB5 : Hid (Below w.heap.size w w5) := (HB4.out.alloc HB4.out.size _).trans (hb5.mono (HB4.out.alloc HB4.out.size _).size)
  have hs5 : w4.heap.size + 1 ≤ w5.heap.size := by have := hb5.size; simpa using this
  have d1 : w5.cell? ⟨w4.heap.size, 1, none⟩ = some (.int .i64 0) := by rw [hb5.cell (by simp)]; exact cellB _ _ _
  have D3' : Hid (w5.cell? ⟨w3.heap.size, 1, none⟩ = some (.int .i64 0)) := by unfold Hid; rw [hb5.cell (by simp; omega), (keep w4 _).cell (by simp; omega)]; exact D3.out
  have HX5 : Hid (RowK .i32 (w5.alloc (.cells #[.int .i64 0, .int .i64 0] 32)) a3 ps) := rowK_below (rowK_below (rowK_below HX4.out (keep _ _)) hb5) (keep _ _)
  have HY5 : Hid (RowK .i32 (w5.alloc (.cells #[.int .i64 0, .int .i64 0] 32)) a4 qs) := rowK_below (rowK_below (rowK_below HY4.out (keep _ _)) hb5) (keep _ _)
  have HW5 : Hid (RowK .i32 (w5.alloc (.cells #[.int .i64 0, .int .i64 0] 32)) a5 (ps ++ qs)) := rowK_below hrow5 (keep _ _)
  have d1' : (w5.alloc (.cells #[.int .i64 0, .int .i64 0] 32)).cell? ⟨w4.heap.size, 1, none⟩ = some (.int .i64 0) := by rw [(keep w5 _).cell (by simp; omega)]; exact d1
  have hpl : ps.length ≤ 1000 := by have := flat_ge ps; have := HL.out; omega
  have hql : qs.length ≤ 1000 := by have := flat_ge qs; have := HL'.out; omega
  clear hb5 hown5 hrow5 hn5
  go_wp2_with (at_builtin; refine wpList_append_rowk rfl (.tmp 69) (.tmp 70) 30 rfl (w5.heap.size + 1) 21 i1 (.int .i32 0) 4 Try.underlying30 hi1 hy0 hy1 hy2 rfl .i32 _ _ _ rfl (World.ownsRow_nil _ _ _ _) a3 ps.length cap3 ps rfl rfl HZ3.out HX5.out ?f1 ?f2 ?f3 ?_)
  case f1 => unfold maxLen; omega
  case f2 => omega
  case f3 => simp
  intro v6 w6 hown6 hgrow6
  have HB6 : Hid (Below (w5.heap.size + 1) (w5.alloc (.cells #[.int .i64 0, .int .i64 0] 32)) w6) := (Below.refl _ _).grown hgrow6 (by simp) (by intro k hk; simp [Value.ownBlock] at hk)
  try simp only [Nat.zero_add, List.nil_append] at hown6
  clear hgrow6
  go_wp2_with (at_builtin; refine wpList_append_rowk rfl (.tmp 72) (.tmp 73) 30 rfl (w5.heap.size + 1) 21 i1 (.int .i32 0) 4 Try.underlying30 hi1 hy0 hy1 hy2 rfl .i32 _ _ _ rfl hown6 a4 qs.length cap4 qs rfl rfl HZ4.out (rowK_below HY5.out (HB6.out.mono (by simp))) ?g1 ?g2 ?g3 ?_)
  case g1 => unfold maxLen; omega
  case g2 => omega
  case g3 => have := HB6.out.size; simpa using this
  intro v7 w7 hown7 hgrow7
  have HB7 : Hid (Below (w5.heap.size + 1) (w5.alloc (.cells #[.int .i64 0, .int .i64 0] 32)) w7) := HB6.out.grown hgrow7 (by have := HB6.out.size; simpa using this) (fun k hk => (hown6.lt k hk).1)
  obtain ⟨a7, cap7, rfl, hcap7, hm7, hrow7, hn7⟩ := own_row' (l := ps ++ qs) (k := .i32) (e := 21) (w := w7) (B := w5.heap.size + 1) (v := v7) (by rw [List.length_append, List.map_append]; exact hown7)
  have HW7 : Hid (RowK .i32 w7 a7 (ps ++ qs)) := hrow7
  have HBW : Hid (Below w.heap.size w w7) := (HB5.out.alloc HB5.out.size _).trans (HB7.out.mono (by have := HB5.out.size; omega))
  have hs7 : w5.heap.size + 1 ≤ w7.heap.size := by have := HB7.out.size; simpa using this
  clear hown7 hgrow7 hown6 hrow7 hn7
  go_wp2_with fail
  refine (alive_any _).mono ?_
  rintro e w8 ⟨rfl, hb8⟩
  have HB8 : Hid (Below w.heap.size w w8) := HBW.out.trans (hb8.mono HBW.out.size)
  have e1 : w8.cell? ⟨w3.heap.size, 1, none⟩ = some (.int .i64 0) := by rw [hb8.cell (by simp; omega), HB7.out.cell (by simp; omega), (keep w5 _).cell (by simp; omega)]; exact D3'.out
  have e3 : w8.cell? ⟨w5.heap.size, 1, none⟩ = some (.int .i64 0) := by rw [hb8.cell (by simp; omega), HB7.out.cell (by simp)]; exact cellB _ _ _
  have HW8 : Hid (RowK .i32 w8 a7 (ps ++ qs)) := rowK_below HW7.out hb8
  have HW9 : Hid (RowK .i32 w8 a5 (ps ++ qs)) := rowK_below (rowK_below HW5.out (HB7.out.mono (by simp))) hb8
  clear hb8
  go_wp2_with fail
  refine (same_any a7 a5 _ cap7 _ cap5 (ps ++ qs) (ps ++ qs) w8 (by simp) (by simp) (by omega) (by omega) HW8.out HW9.out).mono ?_
  rintro e w9 ⟨rfl, n9, rfl⟩
  rw [show ((ps ++ qs) == (ps ++ qs)) = true from by simp]
  go_wp2
  go_ret
  exact ⟨rfl, below_drewN HB8.out n9⟩

theorem walk (a0 : Option Addr) (len0 cap0 : Nat) (z0 : List Int) (a1 : Option Addr) (len1 cap1 : Nat) (z1 : List Int) (w : World) (w0 : IsRow .u8 w a0 len0 cap0 z0) (w1 : IsRow .u8 w a1 len1 cap1 z1) :
    Calls Try.prog 8 #[.slice a0 len0 cap0, .slice a1 len1 cap1] w fun e w' => e = .returned (.bool true) ∧ Below w.heap.size w w' := by
  obtain ⟨l, h1, h2, h3, h4, h5⟩ := byte_view w0
  obtain ⟨m, k1, k2, k3, k4, k5⟩ := byte_view w1
  by_cases hl : 1000 < len0 ∨ len0 ≤ 1000 ∧ 1000 < len1
  · exact walk_long a0 len0 cap0 a1 len1 cap1 w h2 h3 k2 k3 hl
  · obtain ⟨ps, r, e1, rfl, e3⟩ := split_ex l h4
    by_cases hr : r = []
    · subst hr
      rw [List.append_nil] at h1 h5
      obtain ⟨qs, s, f1, rfl, f3⟩ := split_ex m k4
      by_cases hs : s = []
      · subst hs
        rw [List.append_nil] at k1 k5
        exact walk_yes a0 len0 cap0 ps a1 len1 cap1 qs w h1 h2 h3 (by omega) e1 h5 (isRow_nil w0) k1 k2 k3 (by omega) f1 k5 (isRow_nil w1)
      · exact walk_no a0 len0 cap0 ps a1 len1 cap1 qs s w h1 h2 h3 (by omega) e1 h5 (isRow_nil w0) k1 k2 k3 (by omega) f1 f3 hs (fun x hx => k4 x (by simp [hx])) k5 (isRow_nil w1)
    · exact walk_bad a0 len0 cap0 a1 len1 cap1 ps r w h2 h3 (by omega) (by omega) h1 e1 e3 hr (fun x hx => h4 x (by simp [hx])) h5

set_option maxRecDepth 100000 in
theorem lifted (os : Os) (started : os.Started) (H : Type) (enc : TypeId × Value → H) :
    ReturnsInHanded {} Try.checked os 8 .any (Rows.utfJoinsSpec.pre6 enc Try.prog Try.f8 Rows.utfJoinsRow.domain false) (Rows.utfJoinsSpec.post enc Try.prog Try.f8 false true false false) := by
  refine returnsInHanded_of_change (C := Try.checked) own started (by kernel_rfl) Try.func8
    (ChangeSpec.witness6 (enc := enc) (C := Try.checked) false ⟨#[], #[.slice none 0 0, .slice none 0 0], []⟩ 8 (by kernel_rfl) (by kernel_rfl) (by kernel_rfl) (by kernel_rfl)) ?_
  intro W base args ds gs before hval0 hW hcnd _
  have hval : ∀ (j : Nat) t v, Try.f8.params[j]? = some t → args[j]? = some v → Value.okWide Try.prog W .any base t v := hval0
  have hW' := hW
  obtain ⟨p, q, hA0, hV, rfl, hfz, hnd⟩ := hW
  have hA : DataW.TrodAll enc Try.prog W 0 (fun _ => true) true Try.f8.params.toList args.toList ds p := hA0
  rw [Try.params8] at hA hval
  obtain ⟨v0, vs0, d0, ds0, p0, q0, hargs, rfl, rfl, h0, r0⟩ := trodAll_cons hA
  obtain ⟨v1, vs1, d1, ds1, p1, q1, rfl, rfl, rfl, h1, r1⟩ := trodAll_cons r0
  obtain ⟨rfl, rfl, rfl⟩ := trodAll_nil r1
  obtain rfl : args = #[v0, v1] := by cases args; simp_all
  obtain ⟨rfl, rfl⟩ := trodVars_none hV
  obtain ⟨a0, len0, cap0, rfl⟩ := okWide_slice Try.underlying22 (hval 0 22 v0 rfl rfl)
  have k0 := h0
  have lt0 : ∀ x ∈ p0, x.block < W.heap.size := by obtain ⟨m, hm⟩ := k0; exact DataW.trod_lt m _ _ _ hm
  obtain ⟨z0, w0⟩ : ∃ zs, IsRow .u8 W a0 len0 cap0 zs := by
    obtain ⟨fuel, hf⟩ := h0
    rcases open_ints Try.underlying22 Try.underlying5 (by kernel_rfl) hf with ⟨hcs, _⟩ | ⟨x, l, c, zs, hcs, _, hl, hm, hz, _, hcell, hwz⟩
    · simp [Value.cells] at hcs
      obtain ⟨rfl, rfl, rfl⟩ := hcs
      exact ⟨[], .inl ⟨rfl, rfl, rfl, rfl⟩⟩
    · simp [Value.cells] at hcs
      obtain ⟨rfl, rfl, rfl⟩ := hcs
      exact ⟨zs, .inr ⟨_, rfl, hl, hm, by simpa using hz, hcell, hwz⟩⟩
  obtain ⟨a1, len1, cap1, rfl⟩ := okWide_slice Try.underlying22 (hval 1 22 v1 rfl rfl)
  have k1 := h1
  have lt1 : ∀ x ∈ p1, x.block < W.heap.size := by obtain ⟨m, hm⟩ := k1; exact DataW.trod_lt m _ _ _ hm
  obtain ⟨z1, w1⟩ : ∃ zs, IsRow .u8 W a1 len1 cap1 zs := by
    obtain ⟨fuel, hf⟩ := h1
    rcases open_ints Try.underlying22 Try.underlying5 (by kernel_rfl) hf with ⟨hcs, _⟩ | ⟨x, l, c, zs, hcs, _, hl, hm, hz, _, hcell, hwz⟩
    · simp [Value.cells] at hcs
      obtain ⟨rfl, rfl, rfl⟩ := hcs
      exact ⟨[], .inl ⟨rfl, rfl, rfl, rfl⟩⟩
    · simp [Value.cells] at hcs
      obtain ⟨rfl, rfl, rfl⟩ := hcs
      exact ⟨zs, .inr ⟨_, rfl, hl, hm, by simpa using hz, hcell, hwz⟩⟩
  clear hA0 hval0
  refine (walk a0 len0 cap0 z0 a1 len1 cap1 z1 W w0 w1).mono fun e W' ⟨he, bel⟩ => ?_
  subst he
  exact ⟨_, rfl, _, _, _, [], _, [], hW', trodAll_mk1 (shut_bool Try.underlying4 _), (trodAll_cons_mk (Below.trod laidOut (by kernel_rfl) (of_decide_eq_true (by kernel_rfl)) k0 bel lt0) (trodAll_cons_mk (Below.trod laidOut (by kernel_rfl) (of_decide_eq_true (by kernel_rfl)) k1 bel lt1) trodAll_mk0)), rfl, bel.frame _, fun h => by cases h⟩

theorem over : Rows.utfJoinsRow.holds Try.pinned (OpenSpec.ofChange Rows.utfJoinsSpec) :=
  OpenClaim.holds_of_wide 8 Try.f8 rfl rfl rfl rfl rfl rfl rfl ⟨rfl, rfl, rfl, rfl, rfl⟩ rfl rfl rfl rfl rfl (by kernel_rfl) Try.func8 (by kernel_rfl)
    (of_decide_eq_true (by kernel_rfl)) (by unfold Func.isWrapper; first | (rw [if_pos (by decide +kernel)]; kernel_rfl) | (rw [if_neg (by decide +kernel)]; exact ⟨rfl, rfl⟩))
    (fun os started H enc _ => lifted os started H enc)


end Go.Proofs.Ytcoicejbbdenlab.utfJoins
namespace Go.Proofs.Ytcoicejbbdenlab
theorem utfJoins_holds : Rows.UtfJoinsSaid := utfJoins.over
#print axioms utfJoins_holds
end Go.Proofs.Ytcoicejbbdenlab
