/-
  The contracts of take, New, Put, Text.
-/
import Derived.Test.YtbckbonffajmeaaGreatDoorDEnd
namespace Go.Proofs.YtbckbonffajmeaaGreatDoor.Dt
open Go.RowKit
set_option linter.unusedVariables false

set_option maxRecDepth 100000 in
set_option maxHeartbeats 1000000 in
theorem take_end (B g : Nat) (s : RS) (c : Int) (w : World) (hr : Rd w B g s) (hc0 : 0 ≤ s.came) (hc1 : s.came ≤ 999999000) (hz0 : 0 ≤ s.size) (hz1 : s.size ≤ 1000000000) (hk : s.kept.length ≤ 899999000) (hh : s.half = true) (hc : c = 10) :
    Calls Tryz.prog 83 #[.pointer (some ⟨g, 0, none⟩), .int .u8 c] w fun e w' => (∃ v, e = .returned v) ∧ Rd w' B g (takeZ s c) ∧ Bx B g w w' := by
  have HR : Hid (Rd w B g s) := hr
  obtain ⟨h1, h2, v, hg, ho⟩ := hr
  have a0 : w.cell? ⟨g, 0, none⟩ = some (.int .i64 s.most) := by rw [cell_of_row w _ _ _ _ _ hg]; rfl
  have af0 : w.frozen? ⟨g, 0, none⟩ = false := frozen_of_row w _ _ _ _ hg
  have a1 : w.cell? ⟨g, 1, none⟩ = some (v) := by rw [cell_of_row w _ _ _ _ _ hg]; rfl
  have af1 : w.frozen? ⟨g, 1, none⟩ = false := frozen_of_row w _ _ _ _ hg
  have a2 : w.cell? ⟨g, 2, none⟩ = some (.int .i64 s.size) := by rw [cell_of_row w _ _ _ _ _ hg]; rfl
  have af2 : w.frozen? ⟨g, 2, none⟩ = false := frozen_of_row w _ _ _ _ hg
  have a3 : w.cell? ⟨g, 3, none⟩ = some (.int .i64 s.came) := by rw [cell_of_row w _ _ _ _ _ hg]; rfl
  have af3 : w.frozen? ⟨g, 3, none⟩ = false := frozen_of_row w _ _ _ _ hg
  have a4 : w.cell? ⟨g, 4, none⟩ = some (.bool s.pointed) := by rw [cell_of_row w _ _ _ _ _ hg]; rfl
  have af4 : w.frozen? ⟨g, 4, none⟩ = false := frozen_of_row w _ _ _ _ hg
  have a5 : w.cell? ⟨g, 5, none⟩ = some (.bool s.half) := by rw [cell_of_row w _ _ _ _ _ hg]; rfl
  have af5 : w.frozen? ⟨g, 5, none⟩ = false := frozen_of_row w _ _ _ _ hg
  have a6 : w.cell? ⟨g, 6, none⟩ = some (.bool s.bare) := by rw [cell_of_row w _ _ _ _ _ hg]; rfl
  have af6 : w.frozen? ⟨g, 6, none⟩ = false := frozen_of_row w _ _ _ _ hg
  have a7 : w.cell? ⟨g, 7, none⟩ = some (.bool s.wide) := by rw [cell_of_row w _ _ _ _ _ hg]; rfl
  have af7 : w.frozen? ⟨g, 7, none⟩ = false := frozen_of_row w _ _ _ _ hg
  have a8 : w.cell? ⟨g, 8, none⟩ = some (.bool s.over) := by rw [cell_of_row w _ _ _ _ _ hg]; rfl
  have af8 : w.frozen? ⟨g, 8, none⟩ = false := frozen_of_row w _ _ _ _ hg
  have HK : Hid (0 ≤ s.came ∧ s.came ≤ 999999000 ∧ 0 ≤ s.size ∧ s.size ≤ 1000000000 ∧ s.kept.length ≤ 899999000) := ⟨hc0, hc1, hz0, hz1, hk⟩
  clear hg ho hc0 hc1 hz0 hz1 hk
  subst hc
  have HH : Hid (s.half = true) := hh
  rw [hh] at a5
  clear hh
  go_enter Tryz.func83, Tryz.ntmps83
  go_wp2_with fail
  refine (end_any B g { s with half := false } (w.setCell ⟨g, 5, none⟩ (.bool false)) (HR.out.half false) HK.out.1 (by have := HK.out.2.1; simp only; omega) HK.out.2.2.1 HK.out.2.2.2.1 (by have := HK.out.2.2.2.2; simp only; omega)).mono ?_
  rintro e w1 ⟨⟨u, rfl⟩, hr1, hb1⟩
  go_wp2
  refine bodyPost_ret (results_none rfl _ _ _) rfl ?_
  refine ⟨⟨_, rfl⟩, ?_, (Bx.set _ _ _).trans hb1⟩
  have hz : takeZ s 10 = endZ { s with half := false } := by simp [takeZ, HH.out]
  rw [hz]
  exact hr1

set_option maxRecDepth 100000 in
set_option maxHeartbeats 1000000 in
theorem take_again (B g : Nat) (s : RS) (c : Int) (w : World) (hr : Rd w B g s) (hc0 : 0 ≤ s.came) (hc1 : s.came ≤ 999999000) (hz0 : 0 ≤ s.size) (hz1 : s.size ≤ 1000000000) (hk : s.kept.length ≤ 899999000) (hh : s.half = true) (hc : c = 13) :
    Calls Tryz.prog 83 #[.pointer (some ⟨g, 0, none⟩), .int .u8 c] w fun e w' => (∃ v, e = .returned v) ∧ Rd w' B g (takeZ s c) ∧ Bx B g w w' := by
  have HR : Hid (Rd w B g s) := hr
  obtain ⟨h1, h2, v, hg, ho⟩ := hr
  have a0 : w.cell? ⟨g, 0, none⟩ = some (.int .i64 s.most) := by rw [cell_of_row w _ _ _ _ _ hg]; rfl
  have af0 : w.frozen? ⟨g, 0, none⟩ = false := frozen_of_row w _ _ _ _ hg
  have a1 : w.cell? ⟨g, 1, none⟩ = some (v) := by rw [cell_of_row w _ _ _ _ _ hg]; rfl
  have af1 : w.frozen? ⟨g, 1, none⟩ = false := frozen_of_row w _ _ _ _ hg
  have a2 : w.cell? ⟨g, 2, none⟩ = some (.int .i64 s.size) := by rw [cell_of_row w _ _ _ _ _ hg]; rfl
  have af2 : w.frozen? ⟨g, 2, none⟩ = false := frozen_of_row w _ _ _ _ hg
  have a3 : w.cell? ⟨g, 3, none⟩ = some (.int .i64 s.came) := by rw [cell_of_row w _ _ _ _ _ hg]; rfl
  have af3 : w.frozen? ⟨g, 3, none⟩ = false := frozen_of_row w _ _ _ _ hg
  have a4 : w.cell? ⟨g, 4, none⟩ = some (.bool s.pointed) := by rw [cell_of_row w _ _ _ _ _ hg]; rfl
  have af4 : w.frozen? ⟨g, 4, none⟩ = false := frozen_of_row w _ _ _ _ hg
  have a5 : w.cell? ⟨g, 5, none⟩ = some (.bool s.half) := by rw [cell_of_row w _ _ _ _ _ hg]; rfl
  have af5 : w.frozen? ⟨g, 5, none⟩ = false := frozen_of_row w _ _ _ _ hg
  have a6 : w.cell? ⟨g, 6, none⟩ = some (.bool s.bare) := by rw [cell_of_row w _ _ _ _ _ hg]; rfl
  have af6 : w.frozen? ⟨g, 6, none⟩ = false := frozen_of_row w _ _ _ _ hg
  have a7 : w.cell? ⟨g, 7, none⟩ = some (.bool s.wide) := by rw [cell_of_row w _ _ _ _ _ hg]; rfl
  have af7 : w.frozen? ⟨g, 7, none⟩ = false := frozen_of_row w _ _ _ _ hg
  have a8 : w.cell? ⟨g, 8, none⟩ = some (.bool s.over) := by rw [cell_of_row w _ _ _ _ _ hg]; rfl
  have af8 : w.frozen? ⟨g, 8, none⟩ = false := frozen_of_row w _ _ _ _ hg
  have HK : Hid (0 ≤ s.came ∧ s.came ≤ 999999000 ∧ 0 ≤ s.size ∧ s.size ≤ 1000000000 ∧ s.kept.length ≤ 899999000) := ⟨hc0, hc1, hz0, hz1, hk⟩
  clear hg ho hc0 hc1 hz0 hz1 hk
  subst hc
  have HH : Hid (s.half = true) := hh
  rw [hh] at a5
  clear hh
  go_enter Tryz.func83, Tryz.ntmps83
  go_wp2_with fail
  refine (add_any B g { ({ s with half := true } : RS) with bare := true } 13 ((w.setCell ⟨g, 5, none⟩ (.bool true)).setCell ⟨g, 6, none⟩ (.bool true)) ((HR.out.half true).bare true) HK.out.1 (by have := HK.out.2.1; simp only; omega) (by have := HK.out.2.2.2.2; simp only; omega)).mono ?_
  rintro e w1 ⟨⟨u, rfl⟩, hr1, hb1⟩
  have HB1 : Hid (Bx B g w w1) := ((Bx.set _ _ _).trans (Bx.set _ _ _)).trans hb1
  have HR1 : Hid (Rd w1 B g (addZ { ({ s with half := true } : RS) with bare := true } 13)) := hr1
  obtain ⟨_, _, v1, hg, ho⟩ := hr1
  have b5 : w1.cell? ⟨g, 5, none⟩ = some (.bool true) := by rw [cell_of_row w1 _ _ _ _ _ hg]; show some (Value.bool (addZ _ _).half) = _; rw [addZ_half]
  clear hg ho hb1
  go_wp2
  refine bodyPost_ret (results_none rfl _ _ _) rfl ?_
  refine ⟨⟨_, rfl⟩, ?_, HB1.out⟩
  have hz : takeZ s 13 = addZ { ({ s with half := true } : RS) with bare := true } 13 := by simp [takeZ, HH.out]
  rw [hz]
  exact HR1.out

set_option maxRecDepth 100000 in
set_option maxHeartbeats 1000000 in
theorem take_bare (B g : Nat) (s : RS) (c : Int) (w : World) (hr : Rd w B g s) (hc0 : 0 ≤ s.came) (hc1 : s.came ≤ 999999000) (hz0 : 0 ≤ s.size) (hz1 : s.size ≤ 1000000000) (hk : s.kept.length ≤ 899999000) (hh : s.half = true) (hc : c ≠ 10) (hd : c ≠ 13) :
    Calls Tryz.prog 83 #[.pointer (some ⟨g, 0, none⟩), .int .u8 c] w fun e w' => (∃ v, e = .returned v) ∧ Rd w' B g (takeZ s c) ∧ Bx B g w w' := by
  have HR : Hid (Rd w B g s) := hr
  obtain ⟨h1, h2, v, hg, ho⟩ := hr
  have a0 : w.cell? ⟨g, 0, none⟩ = some (.int .i64 s.most) := by rw [cell_of_row w _ _ _ _ _ hg]; rfl
  have af0 : w.frozen? ⟨g, 0, none⟩ = false := frozen_of_row w _ _ _ _ hg
  have a1 : w.cell? ⟨g, 1, none⟩ = some (v) := by rw [cell_of_row w _ _ _ _ _ hg]; rfl
  have af1 : w.frozen? ⟨g, 1, none⟩ = false := frozen_of_row w _ _ _ _ hg
  have a2 : w.cell? ⟨g, 2, none⟩ = some (.int .i64 s.size) := by rw [cell_of_row w _ _ _ _ _ hg]; rfl
  have af2 : w.frozen? ⟨g, 2, none⟩ = false := frozen_of_row w _ _ _ _ hg
  have a3 : w.cell? ⟨g, 3, none⟩ = some (.int .i64 s.came) := by rw [cell_of_row w _ _ _ _ _ hg]; rfl
  have af3 : w.frozen? ⟨g, 3, none⟩ = false := frozen_of_row w _ _ _ _ hg
  have a4 : w.cell? ⟨g, 4, none⟩ = some (.bool s.pointed) := by rw [cell_of_row w _ _ _ _ _ hg]; rfl
  have af4 : w.frozen? ⟨g, 4, none⟩ = false := frozen_of_row w _ _ _ _ hg
  have a5 : w.cell? ⟨g, 5, none⟩ = some (.bool s.half) := by rw [cell_of_row w _ _ _ _ _ hg]; rfl
  have af5 : w.frozen? ⟨g, 5, none⟩ = false := frozen_of_row w _ _ _ _ hg
  have a6 : w.cell? ⟨g, 6, none⟩ = some (.bool s.bare) := by rw [cell_of_row w _ _ _ _ _ hg]; rfl
  have af6 : w.frozen? ⟨g, 6, none⟩ = false := frozen_of_row w _ _ _ _ hg
  have a7 : w.cell? ⟨g, 7, none⟩ = some (.bool s.wide) := by rw [cell_of_row w _ _ _ _ _ hg]; rfl
  have af7 : w.frozen? ⟨g, 7, none⟩ = false := frozen_of_row w _ _ _ _ hg
  have a8 : w.cell? ⟨g, 8, none⟩ = some (.bool s.over) := by rw [cell_of_row w _ _ _ _ _ hg]; rfl
  have af8 : w.frozen? ⟨g, 8, none⟩ = false := frozen_of_row w _ _ _ _ hg
  have HK : Hid (0 ≤ s.came ∧ s.came ≤ 999999000 ∧ 0 ≤ s.size ∧ s.size ≤ 1000000000 ∧ s.kept.length ≤ 899999000) := ⟨hc0, hc1, hz0, hz1, hk⟩
  clear hg ho hc0 hc1 hz0 hz1 hk
  have hc' : (c == 10) = false := by rw [beq_eq_false_iff_ne]; exact hc
  have hd' : (c == 13) = false := by rw [beq_eq_false_iff_ne]; exact hd
  have HH : Hid (s.half = true ∧ c ≠ 10 ∧ c ≠ 13) := ⟨hh, hc, hd⟩
  rw [hh] at a5
  clear hh hc hd
  go_enter Tryz.func83, Tryz.ntmps83
  go_wp2_with fail
  refine (add_any B g { ({ s with half := false } : RS) with bare := true } 13 ((w.setCell ⟨g, 5, none⟩ (.bool false)).setCell ⟨g, 6, none⟩ (.bool true)) ((HR.out.half false).bare true) HK.out.1 (by have := HK.out.2.1; simp only; omega) (by have := HK.out.2.2.2.2; simp only; omega)).mono ?_
  rintro e w1 ⟨⟨u, rfl⟩, hr1, hb1⟩
  have HB1 : Hid (Bx B g w w1) := ((Bx.set _ _ _).trans (Bx.set _ _ _)).trans hb1
  have HR1 : Hid (Rd w1 B g (addZ { ({ s with half := false } : RS) with bare := true } 13)) := hr1
  obtain ⟨_, _, v1, hg, ho⟩ := hr1
  have b5 : w1.cell? ⟨g, 5, none⟩ = some (.bool false) := by rw [cell_of_row w1 _ _ _ _ _ hg]; show some (Value.bool (addZ _ _).half) = _; rw [addZ_half]
  clear hg ho hb1
  go_wp2_with fail
  have hlen := addZ_len { ({ s with half := false } : RS) with bare := true } 13
  refine (add_any B g _ c w1 HR1.out (by rw [addZ_came]; have := HK.out.1; simp only; omega) (by rw [addZ_came]; have := HK.out.2.1; simp only; omega) (by have := HK.out.2.2.2.2; simp only at hlen; omega)).mono ?_
  rintro e w2 ⟨⟨u, rfl⟩, hr2, hb2⟩
  go_wp2
  go_end0
  refine ⟨⟨_, rfl⟩, ?_, HB1.out.trans hb2⟩
  have hbare : (addZ { ({ s with half := false } : RS) with bare := true } 13).bare = true := by
    unfold addZ; simp only []; split <;> split <;> simp [keepZ_bare]
  have hz : takeZ s c = addZ (addZ { ({ s with half := false } : RS) with bare := true } 13) c := by
    simp only [takeZ, HH.out.1, HH.out.2.1, HH.out.2.2, and_false, if_false, if_true, decide_false, Bool.or_false]
  rw [hz]
  exact hr2

set_option maxRecDepth 100000 in
set_option maxHeartbeats 1000000 in
theorem take_half (B g : Nat) (s : RS) (c : Int) (w : World) (hr : Rd w B g s) (hc0 : 0 ≤ s.came) (hc1 : s.came ≤ 999999000) (hz0 : 0 ≤ s.size) (hz1 : s.size ≤ 1000000000) (hk : s.kept.length ≤ 899999000) (hh : s.half = false) (hc : c = 13) :
    Calls Tryz.prog 83 #[.pointer (some ⟨g, 0, none⟩), .int .u8 c] w fun e w' => (∃ v, e = .returned v) ∧ Rd w' B g (takeZ s c) ∧ Bx B g w w' := by
  have HR : Hid (Rd w B g s) := hr
  obtain ⟨h1, h2, v, hg, ho⟩ := hr
  have a0 : w.cell? ⟨g, 0, none⟩ = some (.int .i64 s.most) := by rw [cell_of_row w _ _ _ _ _ hg]; rfl
  have af0 : w.frozen? ⟨g, 0, none⟩ = false := frozen_of_row w _ _ _ _ hg
  have a1 : w.cell? ⟨g, 1, none⟩ = some (v) := by rw [cell_of_row w _ _ _ _ _ hg]; rfl
  have af1 : w.frozen? ⟨g, 1, none⟩ = false := frozen_of_row w _ _ _ _ hg
  have a2 : w.cell? ⟨g, 2, none⟩ = some (.int .i64 s.size) := by rw [cell_of_row w _ _ _ _ _ hg]; rfl
  have af2 : w.frozen? ⟨g, 2, none⟩ = false := frozen_of_row w _ _ _ _ hg
  have a3 : w.cell? ⟨g, 3, none⟩ = some (.int .i64 s.came) := by rw [cell_of_row w _ _ _ _ _ hg]; rfl
  have af3 : w.frozen? ⟨g, 3, none⟩ = false := frozen_of_row w _ _ _ _ hg
  have a4 : w.cell? ⟨g, 4, none⟩ = some (.bool s.pointed) := by rw [cell_of_row w _ _ _ _ _ hg]; rfl
  have af4 : w.frozen? ⟨g, 4, none⟩ = false := frozen_of_row w _ _ _ _ hg
  have a5 : w.cell? ⟨g, 5, none⟩ = some (.bool s.half) := by rw [cell_of_row w _ _ _ _ _ hg]; rfl
  have af5 : w.frozen? ⟨g, 5, none⟩ = false := frozen_of_row w _ _ _ _ hg
  have a6 : w.cell? ⟨g, 6, none⟩ = some (.bool s.bare) := by rw [cell_of_row w _ _ _ _ _ hg]; rfl
  have af6 : w.frozen? ⟨g, 6, none⟩ = false := frozen_of_row w _ _ _ _ hg
  have a7 : w.cell? ⟨g, 7, none⟩ = some (.bool s.wide) := by rw [cell_of_row w _ _ _ _ _ hg]; rfl
  have af7 : w.frozen? ⟨g, 7, none⟩ = false := frozen_of_row w _ _ _ _ hg
  have a8 : w.cell? ⟨g, 8, none⟩ = some (.bool s.over) := by rw [cell_of_row w _ _ _ _ _ hg]; rfl
  have af8 : w.frozen? ⟨g, 8, none⟩ = false := frozen_of_row w _ _ _ _ hg
  have HK : Hid (0 ≤ s.came ∧ s.came ≤ 999999000 ∧ 0 ≤ s.size ∧ s.size ≤ 1000000000 ∧ s.kept.length ≤ 899999000) := ⟨hc0, hc1, hz0, hz1, hk⟩
  clear hg ho hc0 hc1 hz0 hz1 hk
  subst hc
  have HH : Hid (s.half = false) := hh
  rw [hh] at a5
  clear hh
  go_enter Tryz.func83, Tryz.ntmps83
  go_wp2
  refine bodyPost_ret (results_none rfl _ _ _) rfl ?_
  refine ⟨⟨_, rfl⟩, ?_, Bx.set _ _ _⟩
  have hz : takeZ s 13 = { s with half := true } := by simp [takeZ, HH.out]
  rw [hz]
  exact HR.out.half true

set_option maxRecDepth 100000 in
set_option maxHeartbeats 1000000 in
theorem take_ten (B g : Nat) (s : RS) (c : Int) (w : World) (hr : Rd w B g s) (hc0 : 0 ≤ s.came) (hc1 : s.came ≤ 999999000) (hz0 : 0 ≤ s.size) (hz1 : s.size ≤ 1000000000) (hk : s.kept.length ≤ 899999000) (hh : s.half = false) (hc : c = 10) :
    Calls Tryz.prog 83 #[.pointer (some ⟨g, 0, none⟩), .int .u8 c] w fun e w' => (∃ v, e = .returned v) ∧ Rd w' B g (takeZ s c) ∧ Bx B g w w' := by
  have HR : Hid (Rd w B g s) := hr
  obtain ⟨h1, h2, v, hg, ho⟩ := hr
  have a0 : w.cell? ⟨g, 0, none⟩ = some (.int .i64 s.most) := by rw [cell_of_row w _ _ _ _ _ hg]; rfl
  have af0 : w.frozen? ⟨g, 0, none⟩ = false := frozen_of_row w _ _ _ _ hg
  have a1 : w.cell? ⟨g, 1, none⟩ = some (v) := by rw [cell_of_row w _ _ _ _ _ hg]; rfl
  have af1 : w.frozen? ⟨g, 1, none⟩ = false := frozen_of_row w _ _ _ _ hg
  have a2 : w.cell? ⟨g, 2, none⟩ = some (.int .i64 s.size) := by rw [cell_of_row w _ _ _ _ _ hg]; rfl
  have af2 : w.frozen? ⟨g, 2, none⟩ = false := frozen_of_row w _ _ _ _ hg
  have a3 : w.cell? ⟨g, 3, none⟩ = some (.int .i64 s.came) := by rw [cell_of_row w _ _ _ _ _ hg]; rfl
  have af3 : w.frozen? ⟨g, 3, none⟩ = false := frozen_of_row w _ _ _ _ hg
  have a4 : w.cell? ⟨g, 4, none⟩ = some (.bool s.pointed) := by rw [cell_of_row w _ _ _ _ _ hg]; rfl
  have af4 : w.frozen? ⟨g, 4, none⟩ = false := frozen_of_row w _ _ _ _ hg
  have a5 : w.cell? ⟨g, 5, none⟩ = some (.bool s.half) := by rw [cell_of_row w _ _ _ _ _ hg]; rfl
  have af5 : w.frozen? ⟨g, 5, none⟩ = false := frozen_of_row w _ _ _ _ hg
  have a6 : w.cell? ⟨g, 6, none⟩ = some (.bool s.bare) := by rw [cell_of_row w _ _ _ _ _ hg]; rfl
  have af6 : w.frozen? ⟨g, 6, none⟩ = false := frozen_of_row w _ _ _ _ hg
  have a7 : w.cell? ⟨g, 7, none⟩ = some (.bool s.wide) := by rw [cell_of_row w _ _ _ _ _ hg]; rfl
  have af7 : w.frozen? ⟨g, 7, none⟩ = false := frozen_of_row w _ _ _ _ hg
  have a8 : w.cell? ⟨g, 8, none⟩ = some (.bool s.over) := by rw [cell_of_row w _ _ _ _ _ hg]; rfl
  have af8 : w.frozen? ⟨g, 8, none⟩ = false := frozen_of_row w _ _ _ _ hg
  have HK : Hid (0 ≤ s.came ∧ s.came ≤ 999999000 ∧ 0 ≤ s.size ∧ s.size ≤ 1000000000 ∧ s.kept.length ≤ 899999000) := ⟨hc0, hc1, hz0, hz1, hk⟩
  clear hg ho hc0 hc1 hz0 hz1 hk
  subst hc
  have HH : Hid (s.half = false) := hh
  rw [hh] at a5
  clear hh
  go_enter Tryz.func83, Tryz.ntmps83
  go_wp2_with fail
  refine (add_any B g { ({ s with half := false } : RS) with bare := true } 10 ((w.setCell ⟨g, 5, none⟩ (.bool false)).setCell ⟨g, 6, none⟩ (.bool true)) ((HR.out.half false).bare true) HK.out.1 (by have := HK.out.2.1; simp only; omega) (by have := HK.out.2.2.2.2; simp only; omega)).mono ?_
  rintro e w1 ⟨⟨u, rfl⟩, hr1, hb1⟩
  go_wp2
  go_end0
  refine ⟨⟨_, rfl⟩, ?_, ((Bx.set _ _ _).trans (Bx.set _ _ _)).trans hb1⟩
  have hz : takeZ s 10 = addZ { ({ s with half := false } : RS) with bare := true } 10 := by simp [takeZ, HH.out]
  rw [hz]
  exact hr1

set_option maxRecDepth 100000 in
set_option maxHeartbeats 1000000 in
theorem take_plain (B g : Nat) (s : RS) (c : Int) (w : World) (hr : Rd w B g s) (hc0 : 0 ≤ s.came) (hc1 : s.came ≤ 999999000) (hz0 : 0 ≤ s.size) (hz1 : s.size ≤ 1000000000) (hk : s.kept.length ≤ 899999000) (hh : s.half = false) (hc : c ≠ 10) (hd : c ≠ 13) :
    Calls Tryz.prog 83 #[.pointer (some ⟨g, 0, none⟩), .int .u8 c] w fun e w' => (∃ v, e = .returned v) ∧ Rd w' B g (takeZ s c) ∧ Bx B g w w' := by
  have HR : Hid (Rd w B g s) := hr
  obtain ⟨h1, h2, v, hg, ho⟩ := hr
  have a0 : w.cell? ⟨g, 0, none⟩ = some (.int .i64 s.most) := by rw [cell_of_row w _ _ _ _ _ hg]; rfl
  have af0 : w.frozen? ⟨g, 0, none⟩ = false := frozen_of_row w _ _ _ _ hg
  have a1 : w.cell? ⟨g, 1, none⟩ = some (v) := by rw [cell_of_row w _ _ _ _ _ hg]; rfl
  have af1 : w.frozen? ⟨g, 1, none⟩ = false := frozen_of_row w _ _ _ _ hg
  have a2 : w.cell? ⟨g, 2, none⟩ = some (.int .i64 s.size) := by rw [cell_of_row w _ _ _ _ _ hg]; rfl
  have af2 : w.frozen? ⟨g, 2, none⟩ = false := frozen_of_row w _ _ _ _ hg
  have a3 : w.cell? ⟨g, 3, none⟩ = some (.int .i64 s.came) := by rw [cell_of_row w _ _ _ _ _ hg]; rfl
  have af3 : w.frozen? ⟨g, 3, none⟩ = false := frozen_of_row w _ _ _ _ hg
  have a4 : w.cell? ⟨g, 4, none⟩ = some (.bool s.pointed) := by rw [cell_of_row w _ _ _ _ _ hg]; rfl
  have af4 : w.frozen? ⟨g, 4, none⟩ = false := frozen_of_row w _ _ _ _ hg
  have a5 : w.cell? ⟨g, 5, none⟩ = some (.bool s.half) := by rw [cell_of_row w _ _ _ _ _ hg]; rfl
  have af5 : w.frozen? ⟨g, 5, none⟩ = false := frozen_of_row w _ _ _ _ hg
  have a6 : w.cell? ⟨g, 6, none⟩ = some (.bool s.bare) := by rw [cell_of_row w _ _ _ _ _ hg]; rfl
  have af6 : w.frozen? ⟨g, 6, none⟩ = false := frozen_of_row w _ _ _ _ hg
  have a7 : w.cell? ⟨g, 7, none⟩ = some (.bool s.wide) := by rw [cell_of_row w _ _ _ _ _ hg]; rfl
  have af7 : w.frozen? ⟨g, 7, none⟩ = false := frozen_of_row w _ _ _ _ hg
  have a8 : w.cell? ⟨g, 8, none⟩ = some (.bool s.over) := by rw [cell_of_row w _ _ _ _ _ hg]; rfl
  have af8 : w.frozen? ⟨g, 8, none⟩ = false := frozen_of_row w _ _ _ _ hg
  have HK : Hid (0 ≤ s.came ∧ s.came ≤ 999999000 ∧ 0 ≤ s.size ∧ s.size ≤ 1000000000 ∧ s.kept.length ≤ 899999000) := ⟨hc0, hc1, hz0, hz1, hk⟩
  clear hg ho hc0 hc1 hz0 hz1 hk
  have hc' : (c == 10) = false := by rw [beq_eq_false_iff_ne]; exact hc
  have hd' : (c == 13) = false := by rw [beq_eq_false_iff_ne]; exact hd
  have HH : Hid (s.half = false ∧ c ≠ 10 ∧ c ≠ 13) := ⟨hh, hc, hd⟩
  rw [hh] at a5
  clear hh hc hd
  go_enter Tryz.func83, Tryz.ntmps83
  go_wp2_with fail
  refine (add_any B g { s with half := false } c (w.setCell ⟨g, 5, none⟩ (.bool false)) (HR.out.half false) HK.out.1 (by have := HK.out.2.1; simp only; omega) (by have := HK.out.2.2.2.2; simp only; omega)).mono ?_
  rintro e w1 ⟨⟨u, rfl⟩, hr1, hb1⟩
  go_wp2
  go_end0
  refine ⟨⟨_, rfl⟩, ?_, (Bx.set _ _ _).trans hb1⟩
  have hz : takeZ s c = addZ { s with half := false } c := by simp [takeZ, HH.out.1, HH.out.2.1, HH.out.2.2]
  rw [hz]
  exact hr1

set_option maxRecDepth 100000 in
theorem take_any (B g : Nat) (s : RS) (c : Int) (w : World) (hr : Rd w B g s) (hc0 : 0 ≤ s.came) (hc1 : s.came ≤ 999999000) (hz0 : 0 ≤ s.size) (hz1 : s.size ≤ 1000000000) (hk : s.kept.length ≤ 899999000) :
    Calls Tryz.prog 83 #[.pointer (some ⟨g, 0, none⟩), .int .u8 c] w fun e w' => (∃ v, e = .returned v) ∧ Rd w' B g (takeZ s c) ∧ Bx B g w w' := by
  by_cases hh : s.half = true
  · by_cases h1 : c = 10
    · exact take_end B g s c w hr hc0 hc1 hz0 hz1 hk hh h1
    · by_cases h2 : c = 13
      · exact take_again B g s c w hr hc0 hc1 hz0 hz1 hk hh h2
      · exact take_bare B g s c w hr hc0 hc1 hz0 hz1 hk hh h1 h2
  · have hh' : s.half = false := by simpa using hh
    by_cases h1 : c = 10
    · exact take_ten B g s c w hr hc0 hc1 hz0 hz1 hk hh' h1
    · by_cases h2 : c = 13
      · exact take_half B g s c w hr hc0 hc1 hz0 hz1 hk hh' h2
      · exact take_plain B g s c w hr hc0 hc1 hz0 hz1 hk hh' h1 h2
end Go.Proofs.YtbckbonffajmeaaGreatDoor.Dt
