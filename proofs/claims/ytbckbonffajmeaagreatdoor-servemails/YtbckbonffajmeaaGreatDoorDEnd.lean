/-
  The contracts of end and take.
-/
import Derived.Test.YtbckbonffajmeaaGreatDoorDAdd
import Derived.Lib.SlBytesConst
namespace Go.Proofs.YtbckbonffajmeaaGreatDoor.Dt
open Go.RowKit
set_option linter.unusedVariables false

theorem row_mark (w : World) (l : List Int) (fr : Nat × Nat) : Row (w.alloc (.cells (l.map (Value.int .u8)).toArray 5 fr)) (some ⟨w.heap.size, 0, none⟩) l :=
  .inr ⟨w.heap.size, 0, rfl, fun i hi => by
    rw [World.cell?_alloc_mark]; simp [List.getD_eq_getElem?_getD, List.getElem?_eq_getElem hi]⟩
theorem conv_const (X : World) (C : Array Value) (n c g : Nat) (hg : X.heap.size = g) :
    (convert 33 33 (.slice (some ⟨g, 0, none⟩) n c)).run Tryz.prog (X.alloc (.cells C 5)) = .ok (.slice (some ⟨g, 0, none⟩) n c) (X.alloc (.cells C 5 (C.size, C.size + 1))) := by
  subst hg; exact Lib.run_convert_bytes_const X 33 5 C n c Tryz.underlying33 Tryz.underlying5

set_option maxRecDepth 100000 in
set_option maxHeartbeats 1000000 in
theorem end_over (B g : Nat) (s : RS) (w : World) (hr : Rd w B g s) (hp : s.pointed = true) (h0 : s.came = 1) :
    Calls Tryz.prog 109 #[.pointer (some ⟨g, 0, none⟩)] w fun e w' => (∃ v, e = .returned v) ∧ Rd w' B g (endZ s) ∧ Bx B g w w' := by
  have HR : Hid (Rd w B g s) := hr
  obtain ⟨h1, h2, v, hg, ho⟩ := hr
  have a0 : w.cell? ⟨g, 0, none⟩ = some (.int .i64 s.most) := by rw [cell_of_row w _ _ _ _ _ hg]; rfl
  have af0 : w.frozen? ⟨g, 0, none⟩ = false := frozen_of_row w _ _ _ _ hg
  have a1 : w.cell? ⟨g, 1, none⟩ = some (v) := by rw [cell_of_row w _ _ _ _ _ hg]; rfl
  have af1 : w.frozen? ⟨g, 1, none⟩ = false := frozen_of_row w _ _ _ _ hg
  have a2 : w.cell? ⟨g, 2, none⟩ = some (.int .i64 s.size) := by rw [cell_of_row w _ _ _ _ _ hg]; rfl
  have af2 : w.frozen? ⟨g, 2, none⟩ = false := frozen_of_row w _ _ _ _ hg
  have a3 : w.cell? ⟨g, 3, none⟩ = some (.int .i64 s.came) := by rw [cell_of_row w _ _ _ _ _ hg]; rfl
  have af3 : w.frozen? ⟨g, 3, none⟩ = false := frozen_of_row w _ _ _ _ hg
  have a4 : w.cell? ⟨g, 4, none⟩ = some (.bool s.pointed) := by rw [cell_of_row w _ _ _ _ _ hg]; rfl
  have af4 : w.frozen? ⟨g, 4, none⟩ = false := frozen_of_row w _ _ _ _ hg
  have a5 : w.cell? ⟨g, 5, none⟩ = some (.bool s.half) := by rw [cell_of_row w _ _ _ _ _ hg]; rfl
  have af5 : w.frozen? ⟨g, 5, none⟩ = false := frozen_of_row w _ _ _ _ hg
  have a6 : w.cell? ⟨g, 6, none⟩ = some (.bool s.bare) := by rw [cell_of_row w _ _ _ _ _ hg]; rfl
  have af6 : w.frozen? ⟨g, 6, none⟩ = false := frozen_of_row w _ _ _ _ hg
  have a7 : w.cell? ⟨g, 7, none⟩ = some (.bool s.wide) := by rw [cell_of_row w _ _ _ _ _ hg]; rfl
  have af7 : w.frozen? ⟨g, 7, none⟩ = false := frozen_of_row w _ _ _ _ hg
  have a8 : w.cell? ⟨g, 8, none⟩ = some (.bool s.over) := by rw [cell_of_row w _ _ _ _ _ hg]; rfl
  have af8 : w.frozen? ⟨g, 8, none⟩ = false := frozen_of_row w _ _ _ _ hg
  have HZ : Hid (s.pointed = true ∧ s.came = 1) := ⟨hp, h0⟩
  rw [h0] at a3
  rw [hp] at a4
  clear hg ho h0 hp
  go_enter Tryz.func109, Tryz.ntmps109
  go_wp2
  refine bodyPost_ret (results_none rfl _ _ _) rfl ?_
  refine ⟨⟨_, rfl⟩, ?_, Bx.set _ _ _⟩
  have hz : endZ s = { s with over := true } := by simp [endZ, ownZ, HZ.out.1, HZ.out.2]
  rw [hz]
  exact HR.out.over true

set_option maxRecDepth 100000 in
set_option maxHeartbeats 1000000 in
theorem end_pw (B g : Nat) (s : RS) (w : World) (hr : Rd w B g s) (hp : s.pointed = true) (hn : s.came ≠ 1) (hw : 998 < ownZ s) (hc0 : 0 ≤ s.came) (hc1 : s.came ≤ 1000000000) (hz0 : 0 ≤ s.size) (hz1 : s.size ≤ 1000000000) (hk : s.kept.length ≤ 900000000) :
    Calls Tryz.prog 109 #[.pointer (some ⟨g, 0, none⟩)] w fun e w' => (∃ v, e = .returned v) ∧ Rd w' B g (endZ s) ∧ Bx B g w w' := by
  have HR : Hid (Rd w B g s) := hr
  obtain ⟨h1, h2, v, hg, ho⟩ := hr
  have a0 : w.cell? ⟨g, 0, none⟩ = some (.int .i64 s.most) := by rw [cell_of_row w _ _ _ _ _ hg]; rfl
  have af0 : w.frozen? ⟨g, 0, none⟩ = false := frozen_of_row w _ _ _ _ hg
  have a1 : w.cell? ⟨g, 1, none⟩ = some (v) := by rw [cell_of_row w _ _ _ _ _ hg]; rfl
  have af1 : w.frozen? ⟨g, 1, none⟩ = false := frozen_of_row w _ _ _ _ hg
  have a2 : w.cell? ⟨g, 2, none⟩ = some (.int .i64 s.size) := by rw [cell_of_row w _ _ _ _ _ hg]; rfl
  have af2 : w.frozen? ⟨g, 2, none⟩ = false := frozen_of_row w _ _ _ _ hg
  have a3 : w.cell? ⟨g, 3, none⟩ = some (.int .i64 s.came) := by rw [cell_of_row w _ _ _ _ _ hg]; rfl
  have af3 : w.frozen? ⟨g, 3, none⟩ = false := frozen_of_row w _ _ _ _ hg
  have a4 : w.cell? ⟨g, 4, none⟩ = some (.bool s.pointed) := by rw [cell_of_row w _ _ _ _ _ hg]; rfl
  have af4 : w.frozen? ⟨g, 4, none⟩ = false := frozen_of_row w _ _ _ _ hg
  have a5 : w.cell? ⟨g, 5, none⟩ = some (.bool s.half) := by rw [cell_of_row w _ _ _ _ _ hg]; rfl
  have af5 : w.frozen? ⟨g, 5, none⟩ = false := frozen_of_row w _ _ _ _ hg
  have a6 : w.cell? ⟨g, 6, none⟩ = some (.bool s.bare) := by rw [cell_of_row w _ _ _ _ _ hg]; rfl
  have af6 : w.frozen? ⟨g, 6, none⟩ = false := frozen_of_row w _ _ _ _ hg
  have a7 : w.cell? ⟨g, 7, none⟩ = some (.bool s.wide) := by rw [cell_of_row w _ _ _ _ _ hg]; rfl
  have af7 : w.frozen? ⟨g, 7, none⟩ = false := frozen_of_row w _ _ _ _ hg
  have a8 : w.cell? ⟨g, 8, none⟩ = some (.bool s.over) := by rw [cell_of_row w _ _ _ _ _ hg]; rfl
  have af8 : w.frozen? ⟨g, 8, none⟩ = false := frozen_of_row w _ _ _ _ hg
  obtain ⟨cm, hcm⟩ : ∃ cm, s.came = cm := ⟨_, rfl⟩
  obtain ⟨sz, hsz⟩ : ∃ sz, s.size = sz := ⟨_, rfl⟩
  have how : ownZ s = (cm - 1) := by simp [ownZ, hp, hcm]
  have HZ : Hid (s.pointed = true ∧ s.came = cm ∧ s.size = sz ∧ ownZ s = (cm - 1)) := ⟨hp, hcm, hsz, how⟩
  rw [how] at hw
  rw [hcm] at a3 hc0 hc1 hn
  rw [hsz] at a2 hz0 hz1
  rw [hp] at a4
  have hne : ((cm - 1) == 0) = false := by rw [beq_eq_false_iff_ne]; omega
  have HKL : Hid (s.kept.length ≤ 900000000) := hk
  have HE : Hid (endZ s = { ({ keepZ ({ ({ s with wide := true } : RS) with size := sz + ((cm - 1) + 2) } : RS) [13, 10] with came := 0 } : RS) with pointed := false }) := by
    unfold Hid
    have q1 : ¬ (s.pointed = true ∧ ownZ s = 0) := by rw [hp, how]; simp; omega
    unfold endZ
    rw [if_neg q1, how, hsz]
    have q2 : (s.wide || decide (998 < (cm - 1))) = true := by simp [hw]
    rw [q2]
  have hd : decide (998 < (cm - 1)) = true := by simpa using hw
  clear hg ho hcm hsz hp how hk
  have kc := conv_const ((w.setCell ⟨g, 7, none⟩ (.bool true)).setCell ⟨g, 2, none⟩ (.int .i64 (sz + ((cm - 1) + 2)))) #[.int .u8 13, .int .u8 10] 2 2 w.heap.size (by simp)
  go_enter Tryz.func109, Tryz.ntmps109
  go_wp2_with fail
  refine (keep_any B g ({ ({ s with wide := true } : RS) with size := sz + ((cm - 1) + 2) } : RS) (((w.setCell ⟨g, 7, none⟩ (.bool true)).setCell ⟨g, 2, none⟩ (.int .i64 (sz + ((cm - 1) + 2)))).alloc (.cells #[.int .u8 13, .int .u8 10] 5 (2, 3))) (((HR.out.wide true).size _).alloc _) (some ⟨w.heap.size, 0, none⟩) 2 2 [13, 10] rfl (by simp) (by have h := row_mark ((w.setCell ⟨g, 7, none⟩ (.bool true)).setCell ⟨g, 2, none⟩ (.int .i64 (sz + ((cm - 1) + 2)))) [13, 10] (2, 3); simp only [World.size_setCell] at h; exact h) (by have := HKL.out; simp; omega)).mono ?_
  rintro e w1 ⟨⟨u, rfl⟩, hr1, hb1⟩
  have HB1 : Hid (Bx B g w w1) := Bx.trans ((Bx.set _ _ _).trans (Bx.set _ _ _)) ((Bx.alloc _ _ h1 ((HR.out.wide true).size (sz + ((cm - 1) + 2))).2.1).trans hb1)
  have HR1 : Hid (Rd w1 B g (keepZ ({ ({ s with wide := true } : RS) with size := sz + ((cm - 1) + 2) } : RS) [13, 10])) := hr1
  obtain ⟨_, _, v1, hg, ho⟩ := hr1
  have b0 : w1.cell? ⟨g, 0, none⟩ = some (.int .i64 (keepZ ({ ({ s with wide := true } : RS) with size := sz + ((cm - 1) + 2) } : RS) [13, 10]).most) := by rw [cell_of_row w1 _ _ _ _ _ hg]; rfl
  have bf0 : w1.frozen? ⟨g, 0, none⟩ = false := frozen_of_row w1 _ _ _ _ hg
  have b1 : w1.cell? ⟨g, 1, none⟩ = some (v1) := by rw [cell_of_row w1 _ _ _ _ _ hg]; rfl
  have bf1 : w1.frozen? ⟨g, 1, none⟩ = false := frozen_of_row w1 _ _ _ _ hg
  have b2 : w1.cell? ⟨g, 2, none⟩ = some (.int .i64 (keepZ ({ ({ s with wide := true } : RS) with size := sz + ((cm - 1) + 2) } : RS) [13, 10]).size) := by rw [cell_of_row w1 _ _ _ _ _ hg]; rfl
  have bf2 : w1.frozen? ⟨g, 2, none⟩ = false := frozen_of_row w1 _ _ _ _ hg
  have b3 : w1.cell? ⟨g, 3, none⟩ = some (.int .i64 (keepZ ({ ({ s with wide := true } : RS) with size := sz + ((cm - 1) + 2) } : RS) [13, 10]).came) := by rw [cell_of_row w1 _ _ _ _ _ hg]; rfl
  have bf3 : w1.frozen? ⟨g, 3, none⟩ = false := frozen_of_row w1 _ _ _ _ hg
  have b4 : w1.cell? ⟨g, 4, none⟩ = some (.bool (keepZ ({ ({ s with wide := true } : RS) with size := sz + ((cm - 1) + 2) } : RS) [13, 10]).pointed) := by rw [cell_of_row w1 _ _ _ _ _ hg]; rfl
  have bf4 : w1.frozen? ⟨g, 4, none⟩ = false := frozen_of_row w1 _ _ _ _ hg
  have b5 : w1.cell? ⟨g, 5, none⟩ = some (.bool (keepZ ({ ({ s with wide := true } : RS) with size := sz + ((cm - 1) + 2) } : RS) [13, 10]).half) := by rw [cell_of_row w1 _ _ _ _ _ hg]; rfl
  have bf5 : w1.frozen? ⟨g, 5, none⟩ = false := frozen_of_row w1 _ _ _ _ hg
  have b6 : w1.cell? ⟨g, 6, none⟩ = some (.bool (keepZ ({ ({ s with wide := true } : RS) with size := sz + ((cm - 1) + 2) } : RS) [13, 10]).bare) := by rw [cell_of_row w1 _ _ _ _ _ hg]; rfl
  have bf6 : w1.frozen? ⟨g, 6, none⟩ = false := frozen_of_row w1 _ _ _ _ hg
  have b7 : w1.cell? ⟨g, 7, none⟩ = some (.bool (keepZ ({ ({ s with wide := true } : RS) with size := sz + ((cm - 1) + 2) } : RS) [13, 10]).wide) := by rw [cell_of_row w1 _ _ _ _ _ hg]; rfl
  have bf7 : w1.frozen? ⟨g, 7, none⟩ = false := frozen_of_row w1 _ _ _ _ hg
  have b8 : w1.cell? ⟨g, 8, none⟩ = some (.bool (keepZ ({ ({ s with wide := true } : RS) with size := sz + ((cm - 1) + 2) } : RS) [13, 10]).over) := by rw [cell_of_row w1 _ _ _ _ _ hg]; rfl
  have bf8 : w1.frozen? ⟨g, 8, none⟩ = false := frozen_of_row w1 _ _ _ _ hg
  clear hg ho hb1
  go_wp2
  go_end0
  refine ⟨⟨_, rfl⟩, ?_, HB1.out.trans ((Bx.set _ _ _).trans (Bx.set _ _ _))⟩
  rw [HE.out]
  exact (HR1.out.came 0).pointed false

set_option maxRecDepth 100000 in
set_option maxHeartbeats 1000000 in
theorem end_ps (B g : Nat) (s : RS) (w : World) (hr : Rd w B g s) (hp : s.pointed = true) (hn : s.came ≠ 1) (hw : ¬ 998 < ownZ s) (hc0 : 0 ≤ s.came) (hc1 : s.came ≤ 1000000000) (hz0 : 0 ≤ s.size) (hz1 : s.size ≤ 1000000000) (hk : s.kept.length ≤ 900000000) :
    Calls Tryz.prog 109 #[.pointer (some ⟨g, 0, none⟩)] w fun e w' => (∃ v, e = .returned v) ∧ Rd w' B g (endZ s) ∧ Bx B g w w' := by
  have HR : Hid (Rd w B g s) := hr
  obtain ⟨h1, h2, v, hg, ho⟩ := hr
  have a0 : w.cell? ⟨g, 0, none⟩ = some (.int .i64 s.most) := by rw [cell_of_row w _ _ _ _ _ hg]; rfl
  have af0 : w.frozen? ⟨g, 0, none⟩ = false := frozen_of_row w _ _ _ _ hg
  have a1 : w.cell? ⟨g, 1, none⟩ = some (v) := by rw [cell_of_row w _ _ _ _ _ hg]; rfl
  have af1 : w.frozen? ⟨g, 1, none⟩ = false := frozen_of_row w _ _ _ _ hg
  have a2 : w.cell? ⟨g, 2, none⟩ = some (.int .i64 s.size) := by rw [cell_of_row w _ _ _ _ _ hg]; rfl
  have af2 : w.frozen? ⟨g, 2, none⟩ = false := frozen_of_row w _ _ _ _ hg
  have a3 : w.cell? ⟨g, 3, none⟩ = some (.int .i64 s.came) := by rw [cell_of_row w _ _ _ _ _ hg]; rfl
  have af3 : w.frozen? ⟨g, 3, none⟩ = false := frozen_of_row w _ _ _ _ hg
  have a4 : w.cell? ⟨g, 4, none⟩ = some (.bool s.pointed) := by rw [cell_of_row w _ _ _ _ _ hg]; rfl
  have af4 : w.frozen? ⟨g, 4, none⟩ = false := frozen_of_row w _ _ _ _ hg
  have a5 : w.cell? ⟨g, 5, none⟩ = some (.bool s.half) := by rw [cell_of_row w _ _ _ _ _ hg]; rfl
  have af5 : w.frozen? ⟨g, 5, none⟩ = false := frozen_of_row w _ _ _ _ hg
  have a6 : w.cell? ⟨g, 6, none⟩ = some (.bool s.bare) := by rw [cell_of_row w _ _ _ _ _ hg]; rfl
  have af6 : w.frozen? ⟨g, 6, none⟩ = false := frozen_of_row w _ _ _ _ hg
  have a7 : w.cell? ⟨g, 7, none⟩ = some (.bool s.wide) := by rw [cell_of_row w _ _ _ _ _ hg]; rfl
  have af7 : w.frozen? ⟨g, 7, none⟩ = false := frozen_of_row w _ _ _ _ hg
  have a8 : w.cell? ⟨g, 8, none⟩ = some (.bool s.over) := by rw [cell_of_row w _ _ _ _ _ hg]; rfl
  have af8 : w.frozen? ⟨g, 8, none⟩ = false := frozen_of_row w _ _ _ _ hg
  obtain ⟨cm, hcm⟩ : ∃ cm, s.came = cm := ⟨_, rfl⟩
  obtain ⟨sz, hsz⟩ : ∃ sz, s.size = sz := ⟨_, rfl⟩
  have how : ownZ s = (cm - 1) := by simp [ownZ, hp, hcm]
  have HZ : Hid (s.pointed = true ∧ s.came = cm ∧ s.size = sz ∧ ownZ s = (cm - 1)) := ⟨hp, hcm, hsz, how⟩
  rw [how] at hw
  rw [hcm] at a3 hc0 hc1 hn
  rw [hsz] at a2 hz0 hz1
  rw [hp] at a4
  have hne : ((cm - 1) == 0) = false := by rw [beq_eq_false_iff_ne]; omega
  have HKL : Hid (s.kept.length ≤ 900000000) := hk
  have HE : Hid (endZ s = { ({ keepZ ({ s with size := sz + ((cm - 1) + 2) } : RS) [13, 10] with came := 0 } : RS) with pointed := false }) := by
    unfold Hid
    have q1 : ¬ (s.pointed = true ∧ ownZ s = 0) := by rw [hp, how]; simp; omega
    unfold endZ
    rw [if_neg q1, how, hsz]
    have q2 : (s.wide || decide (998 < (cm - 1))) = s.wide := by simp [hw]
    rw [q2]
  have hd : decide (998 < (cm - 1)) = false := by simpa using hw
  clear hg ho hcm hsz hp how hk
  have kc := conv_const (w.setCell ⟨g, 2, none⟩ (.int .i64 (sz + ((cm - 1) + 2)))) #[.int .u8 13, .int .u8 10] 2 2 w.heap.size (by simp)
  go_enter Tryz.func109, Tryz.ntmps109
  go_wp2_with fail
  refine (keep_any B g ({ s with size := sz + ((cm - 1) + 2) } : RS) ((w.setCell ⟨g, 2, none⟩ (.int .i64 (sz + ((cm - 1) + 2)))).alloc (.cells #[.int .u8 13, .int .u8 10] 5 (2, 3))) ((HR.out.size _).alloc _) (some ⟨w.heap.size, 0, none⟩) 2 2 [13, 10] rfl (by simp) (by have h := row_mark (w.setCell ⟨g, 2, none⟩ (.int .i64 (sz + ((cm - 1) + 2)))) [13, 10] (2, 3); simp only [World.size_setCell] at h; exact h) (by have := HKL.out; simp; omega)).mono ?_
  rintro e w1 ⟨⟨u, rfl⟩, hr1, hb1⟩
  have HB1 : Hid (Bx B g w w1) := Bx.trans (Bx.set _ _ _) ((Bx.alloc _ _ h1 (HR.out.size (sz + ((cm - 1) + 2))).2.1).trans hb1)
  have HR1 : Hid (Rd w1 B g (keepZ ({ s with size := sz + ((cm - 1) + 2) } : RS) [13, 10])) := hr1
  obtain ⟨_, _, v1, hg, ho⟩ := hr1
  have b0 : w1.cell? ⟨g, 0, none⟩ = some (.int .i64 (keepZ ({ s with size := sz + ((cm - 1) + 2) } : RS) [13, 10]).most) := by rw [cell_of_row w1 _ _ _ _ _ hg]; rfl
  have bf0 : w1.frozen? ⟨g, 0, none⟩ = false := frozen_of_row w1 _ _ _ _ hg
  have b1 : w1.cell? ⟨g, 1, none⟩ = some (v1) := by rw [cell_of_row w1 _ _ _ _ _ hg]; rfl
  have bf1 : w1.frozen? ⟨g, 1, none⟩ = false := frozen_of_row w1 _ _ _ _ hg
  have b2 : w1.cell? ⟨g, 2, none⟩ = some (.int .i64 (keepZ ({ s with size := sz + ((cm - 1) + 2) } : RS) [13, 10]).size) := by rw [cell_of_row w1 _ _ _ _ _ hg]; rfl
  have bf2 : w1.frozen? ⟨g, 2, none⟩ = false := frozen_of_row w1 _ _ _ _ hg
  have b3 : w1.cell? ⟨g, 3, none⟩ = some (.int .i64 (keepZ ({ s with size := sz + ((cm - 1) + 2) } : RS) [13, 10]).came) := by rw [cell_of_row w1 _ _ _ _ _ hg]; rfl
  have bf3 : w1.frozen? ⟨g, 3, none⟩ = false := frozen_of_row w1 _ _ _ _ hg
  have b4 : w1.cell? ⟨g, 4, none⟩ = some (.bool (keepZ ({ s with size := sz + ((cm - 1) + 2) } : RS) [13, 10]).pointed) := by rw [cell_of_row w1 _ _ _ _ _ hg]; rfl
  have bf4 : w1.frozen? ⟨g, 4, none⟩ = false := frozen_of_row w1 _ _ _ _ hg
  have b5 : w1.cell? ⟨g, 5, none⟩ = some (.bool (keepZ ({ s with size := sz + ((cm - 1) + 2) } : RS) [13, 10]).half) := by rw [cell_of_row w1 _ _ _ _ _ hg]; rfl
  have bf5 : w1.frozen? ⟨g, 5, none⟩ = false := frozen_of_row w1 _ _ _ _ hg
  have b6 : w1.cell? ⟨g, 6, none⟩ = some (.bool (keepZ ({ s with size := sz + ((cm - 1) + 2) } : RS) [13, 10]).bare) := by rw [cell_of_row w1 _ _ _ _ _ hg]; rfl
  have bf6 : w1.frozen? ⟨g, 6, none⟩ = false := frozen_of_row w1 _ _ _ _ hg
  have b7 : w1.cell? ⟨g, 7, none⟩ = some (.bool (keepZ ({ s with size := sz + ((cm - 1) + 2) } : RS) [13, 10]).wide) := by rw [cell_of_row w1 _ _ _ _ _ hg]; rfl
  have bf7 : w1.frozen? ⟨g, 7, none⟩ = false := frozen_of_row w1 _ _ _ _ hg
  have b8 : w1.cell? ⟨g, 8, none⟩ = some (.bool (keepZ ({ s with size := sz + ((cm - 1) + 2) } : RS) [13, 10]).over) := by rw [cell_of_row w1 _ _ _ _ _ hg]; rfl
  have bf8 : w1.frozen? ⟨g, 8, none⟩ = false := frozen_of_row w1 _ _ _ _ hg
  clear hg ho hb1
  go_wp2
  go_end0
  refine ⟨⟨_, rfl⟩, ?_, HB1.out.trans ((Bx.set _ _ _).trans (Bx.set _ _ _))⟩
  rw [HE.out]
  exact (HR1.out.came 0).pointed false

set_option maxRecDepth 100000 in
set_option maxHeartbeats 1000000 in
theorem end_nw (B g : Nat) (s : RS) (w : World) (hr : Rd w B g s) (hp : s.pointed = false) (hn : True) (hw : 998 < ownZ s) (hc0 : 0 ≤ s.came) (hc1 : s.came ≤ 1000000000) (hz0 : 0 ≤ s.size) (hz1 : s.size ≤ 1000000000) (hk : s.kept.length ≤ 900000000) :
    Calls Tryz.prog 109 #[.pointer (some ⟨g, 0, none⟩)] w fun e w' => (∃ v, e = .returned v) ∧ Rd w' B g (endZ s) ∧ Bx B g w w' := by
  have HR : Hid (Rd w B g s) := hr
  obtain ⟨h1, h2, v, hg, ho⟩ := hr
  have a0 : w.cell? ⟨g, 0, none⟩ = some (.int .i64 s.most) := by rw [cell_of_row w _ _ _ _ _ hg]; rfl
  have af0 : w.frozen? ⟨g, 0, none⟩ = false := frozen_of_row w _ _ _ _ hg
  have a1 : w.cell? ⟨g, 1, none⟩ = some (v) := by rw [cell_of_row w _ _ _ _ _ hg]; rfl
  have af1 : w.frozen? ⟨g, 1, none⟩ = false := frozen_of_row w _ _ _ _ hg
  have a2 : w.cell? ⟨g, 2, none⟩ = some (.int .i64 s.size) := by rw [cell_of_row w _ _ _ _ _ hg]; rfl
  have af2 : w.frozen? ⟨g, 2, none⟩ = false := frozen_of_row w _ _ _ _ hg
  have a3 : w.cell? ⟨g, 3, none⟩ = some (.int .i64 s.came) := by rw [cell_of_row w _ _ _ _ _ hg]; rfl
  have af3 : w.frozen? ⟨g, 3, none⟩ = false := frozen_of_row w _ _ _ _ hg
  have a4 : w.cell? ⟨g, 4, none⟩ = some (.bool s.pointed) := by rw [cell_of_row w _ _ _ _ _ hg]; rfl
  have af4 : w.frozen? ⟨g, 4, none⟩ = false := frozen_of_row w _ _ _ _ hg
  have a5 : w.cell? ⟨g, 5, none⟩ = some (.bool s.half) := by rw [cell_of_row w _ _ _ _ _ hg]; rfl
  have af5 : w.frozen? ⟨g, 5, none⟩ = false := frozen_of_row w _ _ _ _ hg
  have a6 : w.cell? ⟨g, 6, none⟩ = some (.bool s.bare) := by rw [cell_of_row w _ _ _ _ _ hg]; rfl
  have af6 : w.frozen? ⟨g, 6, none⟩ = false := frozen_of_row w _ _ _ _ hg
  have a7 : w.cell? ⟨g, 7, none⟩ = some (.bool s.wide) := by rw [cell_of_row w _ _ _ _ _ hg]; rfl
  have af7 : w.frozen? ⟨g, 7, none⟩ = false := frozen_of_row w _ _ _ _ hg
  have a8 : w.cell? ⟨g, 8, none⟩ = some (.bool s.over) := by rw [cell_of_row w _ _ _ _ _ hg]; rfl
  have af8 : w.frozen? ⟨g, 8, none⟩ = false := frozen_of_row w _ _ _ _ hg
  obtain ⟨cm, hcm⟩ : ∃ cm, s.came = cm := ⟨_, rfl⟩
  obtain ⟨sz, hsz⟩ : ∃ sz, s.size = sz := ⟨_, rfl⟩
  have how : ownZ s = cm := by simp [ownZ, hp, hcm]
  have HZ : Hid (s.pointed = false ∧ s.came = cm ∧ s.size = sz ∧ ownZ s = cm) := ⟨hp, hcm, hsz, how⟩
  rw [how] at hw
  rw [hcm] at a3 hc0 hc1
  rw [hsz] at a2 hz0 hz1
  rw [hp] at a4
  have hne : True := trivial
  have HKL : Hid (s.kept.length ≤ 900000000) := hk
  have HE : Hid (endZ s = { ({ keepZ ({ ({ s with wide := true } : RS) with size := sz + (cm + 2) } : RS) [13, 10] with came := 0 } : RS) with pointed := false }) := by
    unfold Hid
    have q1 : ¬ (s.pointed = true ∧ ownZ s = 0) := by rw [hp, how]; simp
    unfold endZ
    rw [if_neg q1, how, hsz]
    have q2 : (s.wide || decide (998 < cm)) = true := by simp [hw]
    rw [q2]
  have hd : decide (998 < cm) = true := by simpa using hw
  clear hg ho hcm hsz hp how hk
  have kc := conv_const ((w.setCell ⟨g, 7, none⟩ (.bool true)).setCell ⟨g, 2, none⟩ (.int .i64 (sz + (cm + 2)))) #[.int .u8 13, .int .u8 10] 2 2 w.heap.size (by simp)
  go_enter Tryz.func109, Tryz.ntmps109
  go_wp2_with fail
  refine (keep_any B g ({ ({ s with wide := true } : RS) with size := sz + (cm + 2) } : RS) (((w.setCell ⟨g, 7, none⟩ (.bool true)).setCell ⟨g, 2, none⟩ (.int .i64 (sz + (cm + 2)))).alloc (.cells #[.int .u8 13, .int .u8 10] 5 (2, 3))) (((HR.out.wide true).size _).alloc _) (some ⟨w.heap.size, 0, none⟩) 2 2 [13, 10] rfl (by simp) (by have h := row_mark ((w.setCell ⟨g, 7, none⟩ (.bool true)).setCell ⟨g, 2, none⟩ (.int .i64 (sz + (cm + 2)))) [13, 10] (2, 3); simp only [World.size_setCell] at h; exact h) (by have := HKL.out; simp; omega)).mono ?_
  rintro e w1 ⟨⟨u, rfl⟩, hr1, hb1⟩
  have HB1 : Hid (Bx B g w w1) := Bx.trans ((Bx.set _ _ _).trans (Bx.set _ _ _)) ((Bx.alloc _ _ h1 ((HR.out.wide true).size (sz + (cm + 2))).2.1).trans hb1)
  have HR1 : Hid (Rd w1 B g (keepZ ({ ({ s with wide := true } : RS) with size := sz + (cm + 2) } : RS) [13, 10])) := hr1
  obtain ⟨_, _, v1, hg, ho⟩ := hr1
  have b0 : w1.cell? ⟨g, 0, none⟩ = some (.int .i64 (keepZ ({ ({ s with wide := true } : RS) with size := sz + (cm + 2) } : RS) [13, 10]).most) := by rw [cell_of_row w1 _ _ _ _ _ hg]; rfl
  have bf0 : w1.frozen? ⟨g, 0, none⟩ = false := frozen_of_row w1 _ _ _ _ hg
  have b1 : w1.cell? ⟨g, 1, none⟩ = some (v1) := by rw [cell_of_row w1 _ _ _ _ _ hg]; rfl
  have bf1 : w1.frozen? ⟨g, 1, none⟩ = false := frozen_of_row w1 _ _ _ _ hg
  have b2 : w1.cell? ⟨g, 2, none⟩ = some (.int .i64 (keepZ ({ ({ s with wide := true } : RS) with size := sz + (cm + 2) } : RS) [13, 10]).size) := by rw [cell_of_row w1 _ _ _ _ _ hg]; rfl
  have bf2 : w1.frozen? ⟨g, 2, none⟩ = false := frozen_of_row w1 _ _ _ _ hg
  have b3 : w1.cell? ⟨g, 3, none⟩ = some (.int .i64 (keepZ ({ ({ s with wide := true } : RS) with size := sz + (cm + 2) } : RS) [13, 10]).came) := by rw [cell_of_row w1 _ _ _ _ _ hg]; rfl
  have bf3 : w1.frozen? ⟨g, 3, none⟩ = false := frozen_of_row w1 _ _ _ _ hg
  have b4 : w1.cell? ⟨g, 4, none⟩ = some (.bool (keepZ ({ ({ s with wide := true } : RS) with size := sz + (cm + 2) } : RS) [13, 10]).pointed) := by rw [cell_of_row w1 _ _ _ _ _ hg]; rfl
  have bf4 : w1.frozen? ⟨g, 4, none⟩ = false := frozen_of_row w1 _ _ _ _ hg
  have b5 : w1.cell? ⟨g, 5, none⟩ = some (.bool (keepZ ({ ({ s with wide := true } : RS) with size := sz + (cm + 2) } : RS) [13, 10]).half) := by rw [cell_of_row w1 _ _ _ _ _ hg]; rfl
  have bf5 : w1.frozen? ⟨g, 5, none⟩ = false := frozen_of_row w1 _ _ _ _ hg
  have b6 : w1.cell? ⟨g, 6, none⟩ = some (.bool (keepZ ({ ({ s with wide := true } : RS) with size := sz + (cm + 2) } : RS) [13, 10]).bare) := by rw [cell_of_row w1 _ _ _ _ _ hg]; rfl
  have bf6 : w1.frozen? ⟨g, 6, none⟩ = false := frozen_of_row w1 _ _ _ _ hg
  have b7 : w1.cell? ⟨g, 7, none⟩ = some (.bool (keepZ ({ ({ s with wide := true } : RS) with size := sz + (cm + 2) } : RS) [13, 10]).wide) := by rw [cell_of_row w1 _ _ _ _ _ hg]; rfl
  have bf7 : w1.frozen? ⟨g, 7, none⟩ = false := frozen_of_row w1 _ _ _ _ hg
  have b8 : w1.cell? ⟨g, 8, none⟩ = some (.bool (keepZ ({ ({ s with wide := true } : RS) with size := sz + (cm + 2) } : RS) [13, 10]).over) := by rw [cell_of_row w1 _ _ _ _ _ hg]; rfl
  have bf8 : w1.frozen? ⟨g, 8, none⟩ = false := frozen_of_row w1 _ _ _ _ hg
  clear hg ho hb1
  go_wp2
  go_end0
  refine ⟨⟨_, rfl⟩, ?_, HB1.out.trans ((Bx.set _ _ _).trans (Bx.set _ _ _))⟩
  rw [HE.out]
  exact (HR1.out.came 0).pointed false

set_option maxRecDepth 100000 in
set_option maxHeartbeats 1000000 in
theorem end_ns (B g : Nat) (s : RS) (w : World) (hr : Rd w B g s) (hp : s.pointed = false) (hn : True) (hw : ¬ 998 < ownZ s) (hc0 : 0 ≤ s.came) (hc1 : s.came ≤ 1000000000) (hz0 : 0 ≤ s.size) (hz1 : s.size ≤ 1000000000) (hk : s.kept.length ≤ 900000000) :
    Calls Tryz.prog 109 #[.pointer (some ⟨g, 0, none⟩)] w fun e w' => (∃ v, e = .returned v) ∧ Rd w' B g (endZ s) ∧ Bx B g w w' := by
  have HR : Hid (Rd w B g s) := hr
  obtain ⟨h1, h2, v, hg, ho⟩ := hr
  have a0 : w.cell? ⟨g, 0, none⟩ = some (.int .i64 s.most) := by rw [cell_of_row w _ _ _ _ _ hg]; rfl
  have af0 : w.frozen? ⟨g, 0, none⟩ = false := frozen_of_row w _ _ _ _ hg
  have a1 : w.cell? ⟨g, 1, none⟩ = some (v) := by rw [cell_of_row w _ _ _ _ _ hg]; rfl
  have af1 : w.frozen? ⟨g, 1, none⟩ = false := frozen_of_row w _ _ _ _ hg
  have a2 : w.cell? ⟨g, 2, none⟩ = some (.int .i64 s.size) := by rw [cell_of_row w _ _ _ _ _ hg]; rfl
  have af2 : w.frozen? ⟨g, 2, none⟩ = false := frozen_of_row w _ _ _ _ hg
  have a3 : w.cell? ⟨g, 3, none⟩ = some (.int .i64 s.came) := by rw [cell_of_row w _ _ _ _ _ hg]; rfl
  have af3 : w.frozen? ⟨g, 3, none⟩ = false := frozen_of_row w _ _ _ _ hg
  have a4 : w.cell? ⟨g, 4, none⟩ = some (.bool s.pointed) := by rw [cell_of_row w _ _ _ _ _ hg]; rfl
  have af4 : w.frozen? ⟨g, 4, none⟩ = false := frozen_of_row w _ _ _ _ hg
  have a5 : w.cell? ⟨g, 5, none⟩ = some (.bool s.half) := by rw [cell_of_row w _ _ _ _ _ hg]; rfl
  have af5 : w.frozen? ⟨g, 5, none⟩ = false := frozen_of_row w _ _ _ _ hg
  have a6 : w.cell? ⟨g, 6, none⟩ = some (.bool s.bare) := by rw [cell_of_row w _ _ _ _ _ hg]; rfl
  have af6 : w.frozen? ⟨g, 6, none⟩ = false := frozen_of_row w _ _ _ _ hg
  have a7 : w.cell? ⟨g, 7, none⟩ = some (.bool s.wide) := by rw [cell_of_row w _ _ _ _ _ hg]; rfl
  have af7 : w.frozen? ⟨g, 7, none⟩ = false := frozen_of_row w _ _ _ _ hg
  have a8 : w.cell? ⟨g, 8, none⟩ = some (.bool s.over) := by rw [cell_of_row w _ _ _ _ _ hg]; rfl
  have af8 : w.frozen? ⟨g, 8, none⟩ = false := frozen_of_row w _ _ _ _ hg
  obtain ⟨cm, hcm⟩ : ∃ cm, s.came = cm := ⟨_, rfl⟩
  obtain ⟨sz, hsz⟩ : ∃ sz, s.size = sz := ⟨_, rfl⟩
  have how : ownZ s = cm := by simp [ownZ, hp, hcm]
  have HZ : Hid (s.pointed = false ∧ s.came = cm ∧ s.size = sz ∧ ownZ s = cm) := ⟨hp, hcm, hsz, how⟩
  rw [how] at hw
  rw [hcm] at a3 hc0 hc1
  rw [hsz] at a2 hz0 hz1
  rw [hp] at a4
  have hne : True := trivial
  have HKL : Hid (s.kept.length ≤ 900000000) := hk
  have HE : Hid (endZ s = { ({ keepZ ({ s with size := sz + (cm + 2) } : RS) [13, 10] with came := 0 } : RS) with pointed := false }) := by
    unfold Hid
    have q1 : ¬ (s.pointed = true ∧ ownZ s = 0) := by rw [hp, how]; simp
    unfold endZ
    rw [if_neg q1, how, hsz]
    have q2 : (s.wide || decide (998 < cm)) = s.wide := by simp [hw]
    rw [q2]
  have hd : decide (998 < cm) = false := by simpa using hw
  clear hg ho hcm hsz hp how hk
  have kc := conv_const (w.setCell ⟨g, 2, none⟩ (.int .i64 (sz + (cm + 2)))) #[.int .u8 13, .int .u8 10] 2 2 w.heap.size (by simp)
  go_enter Tryz.func109, Tryz.ntmps109
  go_wp2_with fail
  refine (keep_any B g ({ s with size := sz + (cm + 2) } : RS) ((w.setCell ⟨g, 2, none⟩ (.int .i64 (sz + (cm + 2)))).alloc (.cells #[.int .u8 13, .int .u8 10] 5 (2, 3))) ((HR.out.size _).alloc _) (some ⟨w.heap.size, 0, none⟩) 2 2 [13, 10] rfl (by simp) (by have h := row_mark (w.setCell ⟨g, 2, none⟩ (.int .i64 (sz + (cm + 2)))) [13, 10] (2, 3); simp only [World.size_setCell] at h; exact h) (by have := HKL.out; simp; omega)).mono ?_
  rintro e w1 ⟨⟨u, rfl⟩, hr1, hb1⟩
  have HB1 : Hid (Bx B g w w1) := Bx.trans (Bx.set _ _ _) ((Bx.alloc _ _ h1 (HR.out.size (sz + (cm + 2))).2.1).trans hb1)
  have HR1 : Hid (Rd w1 B g (keepZ ({ s with size := sz + (cm + 2) } : RS) [13, 10])) := hr1
  obtain ⟨_, _, v1, hg, ho⟩ := hr1
  have b0 : w1.cell? ⟨g, 0, none⟩ = some (.int .i64 (keepZ ({ s with size := sz + (cm + 2) } : RS) [13, 10]).most) := by rw [cell_of_row w1 _ _ _ _ _ hg]; rfl
  have bf0 : w1.frozen? ⟨g, 0, none⟩ = false := frozen_of_row w1 _ _ _ _ hg
  have b1 : w1.cell? ⟨g, 1, none⟩ = some (v1) := by rw [cell_of_row w1 _ _ _ _ _ hg]; rfl
  have bf1 : w1.frozen? ⟨g, 1, none⟩ = false := frozen_of_row w1 _ _ _ _ hg
  have b2 : w1.cell? ⟨g, 2, none⟩ = some (.int .i64 (keepZ ({ s with size := sz + (cm + 2) } : RS) [13, 10]).size) := by rw [cell_of_row w1 _ _ _ _ _ hg]; rfl
  have bf2 : w1.frozen? ⟨g, 2, none⟩ = false := frozen_of_row w1 _ _ _ _ hg
  have b3 : w1.cell? ⟨g, 3, none⟩ = some (.int .i64 (keepZ ({ s with size := sz + (cm + 2) } : RS) [13, 10]).came) := by rw [cell_of_row w1 _ _ _ _ _ hg]; rfl
  have bf3 : w1.frozen? ⟨g, 3, none⟩ = false := frozen_of_row w1 _ _ _ _ hg
  have b4 : w1.cell? ⟨g, 4, none⟩ = some (.bool (keepZ ({ s with size := sz + (cm + 2) } : RS) [13, 10]).pointed) := by rw [cell_of_row w1 _ _ _ _ _ hg]; rfl
  have bf4 : w1.frozen? ⟨g, 4, none⟩ = false := frozen_of_row w1 _ _ _ _ hg
  have b5 : w1.cell? ⟨g, 5, none⟩ = some (.bool (keepZ ({ s with size := sz + (cm + 2) } : RS) [13, 10]).half) := by rw [cell_of_row w1 _ _ _ _ _ hg]; rfl
  have bf5 : w1.frozen? ⟨g, 5, none⟩ = false := frozen_of_row w1 _ _ _ _ hg
  have b6 : w1.cell? ⟨g, 6, none⟩ = some (.bool (keepZ ({ s with size := sz + (cm + 2) } : RS) [13, 10]).bare) := by rw [cell_of_row w1 _ _ _ _ _ hg]; rfl
  have bf6 : w1.frozen? ⟨g, 6, none⟩ = false := frozen_of_row w1 _ _ _ _ hg
  have b7 : w1.cell? ⟨g, 7, none⟩ = some (.bool (keepZ ({ s with size := sz + (cm + 2) } : RS) [13, 10]).wide) := by rw [cell_of_row w1 _ _ _ _ _ hg]; rfl
  have bf7 : w1.frozen? ⟨g, 7, none⟩ = false := frozen_of_row w1 _ _ _ _ hg
  have b8 : w1.cell? ⟨g, 8, none⟩ = some (.bool (keepZ ({ s with size := sz + (cm + 2) } : RS) [13, 10]).over) := by rw [cell_of_row w1 _ _ _ _ _ hg]; rfl
  have bf8 : w1.frozen? ⟨g, 8, none⟩ = false := frozen_of_row w1 _ _ _ _ hg
  clear hg ho hb1
  go_wp2
  go_end0
  refine ⟨⟨_, rfl⟩, ?_, HB1.out.trans ((Bx.set _ _ _).trans (Bx.set _ _ _))⟩
  rw [HE.out]
  exact (HR1.out.came 0).pointed false

set_option maxRecDepth 100000 in
theorem end_any (B g : Nat) (s : RS) (w : World) (hr : Rd w B g s) (hc0 : 0 ≤ s.came) (hc1 : s.came ≤ 1000000000) (hz0 : 0 ≤ s.size) (hz1 : s.size ≤ 1000000000) (hk : s.kept.length ≤ 900000000) :
    Calls Tryz.prog 109 #[.pointer (some ⟨g, 0, none⟩)] w fun e w' => (∃ v, e = .returned v) ∧ Rd w' B g (endZ s) ∧ Bx B g w w' := by
  by_cases hp : s.pointed = true
  · by_cases h1 : s.came = 1
    · exact end_over B g s w hr hp h1
    · by_cases hw : 998 < ownZ s
      · exact end_pw B g s w hr hp h1 hw hc0 hc1 hz0 hz1 hk
      · exact end_ps B g s w hr hp h1 hw hc0 hc1 hz0 hz1 hk
  · have hp' : s.pointed = false := by simpa using hp
    by_cases hw : 998 < ownZ s
    · exact end_nw B g s w hr hp' trivial hw hc0 hc1 hz0 hz1 hk
    · exact end_ns B g s w hr hp' trivial hw hc0 hc1 hz0 hz1 hk

theorem addZ_half (s : RS) (c : Int) : (addZ s c).half = s.half := by
  unfold addZ; by_cases h : s.came = 0 ∧ c = 46
  · rw [if_pos h]; simp only []; split <;> rfl
  · rw [if_neg h]; simp only []; split <;> simp [keepZ_half]
theorem addZ_over (s : RS) (c : Int) : (addZ s c).over = s.over := by
  unfold addZ; by_cases h : s.came = 0 ∧ c = 46
  · rw [if_pos h]; simp only []; split <;> rfl
  · rw [if_neg h]; simp only []; split <;> simp [keepZ_over]
theorem addZ_came (s : RS) (c : Int) : (addZ s c).came = s.came + 1 := by
  unfold addZ; by_cases h : s.came = 0 ∧ c = 46
  · rw [if_pos h]; simp only []; split <;> rfl
  · rw [if_neg h]; simp only []; split <;> simp [keepZ_came]
theorem keepZ_len (s : RS) (l : List Int) : (keepZ s l).kept.length ≤ s.kept.length + l.length := by unfold keepZ; split <;> simp
theorem addZ_len (s : RS) (c : Int) : (addZ s c).kept.length ≤ s.kept.length + 1 := by
  have := keepZ_len s [c]
  unfold addZ; by_cases h : s.came = 0 ∧ c = 46
  · rw [if_pos h]; simp only []; split <;> simp
  · rw [if_neg h]; simp only []; split <;> simpa using this
end Go.Proofs.YtbckbonffajmeaaGreatDoor.Dt
