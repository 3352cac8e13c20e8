/-
  The contracts of add, end and take.
-/
import Derived.Test.YtbckbonffajmeaaGreatDoorDRead
namespace Go.Proofs.YtbckbonffajmeaaGreatDoor.Dt
open Go.RowKit
set_option linter.unusedVariables false

theorem keepZ_most (s : RS) (l : List Int) : (keepZ s l).most = s.most := by unfold keepZ; split <;> rfl
theorem keepZ_size (s : RS) (l : List Int) : (keepZ s l).size = s.size := by unfold keepZ; split <;> rfl
theorem keepZ_came (s : RS) (l : List Int) : (keepZ s l).came = s.came := by unfold keepZ; split <;> rfl
theorem keepZ_pointed (s : RS) (l : List Int) : (keepZ s l).pointed = s.pointed := by unfold keepZ; split <;> rfl
theorem keepZ_half (s : RS) (l : List Int) : (keepZ s l).half = s.half := by unfold keepZ; split <;> rfl
theorem keepZ_bare (s : RS) (l : List Int) : (keepZ s l).bare = s.bare := by unfold keepZ; split <;> rfl
theorem keepZ_wide (s : RS) (l : List Int) : (keepZ s l).wide = s.wide := by unfold keepZ; split <;> rfl
theorem keepZ_over (s : RS) (l : List Int) : (keepZ s l).over = s.over := by unfold keepZ; split <;> rfl

set_option maxRecDepth 100000 in
set_option maxHeartbeats 1000000 in
theorem add_point (B g : Nat) (s : RS) (w : World) (hr : Rd w B g s) (h0 : s.came = 0) :
    Calls Tryz.prog 110 #[.pointer (some ⟨g, 0, none⟩), .int .u8 46] w fun e w' => (∃ v, e = .returned v) ∧ Rd w' B g (addZ s 46) ∧ Bx B g w w' := by
  have HR : Hid (Rd w B g s) := hr
  obtain ⟨h1, h2, v, hg, ho⟩ := hr
  have a0 : w.cell? ⟨g, 0, none⟩ = some (.int .i64 s.most) := by rw [cell_of_row w _ _ _ _ _ hg]; rfl
  have af0 : w.frozen? ⟨g, 0, none⟩ = false := frozen_of_row w _ _ _ _ hg
  have a1 : w.cell? ⟨g, 1, none⟩ = some (v) := by rw [cell_of_row w _ _ _ _ _ hg]; rfl
  have af1 : w.frozen? ⟨g, 1, none⟩ = false := frozen_of_row w _ _ _ _ hg
  have a2 : w.cell? ⟨g, 2, none⟩ = some (.int .i64 s.size) := by rw [cell_of_row w _ _ _ _ _ hg]; rfl
  have af2 : w.frozen? ⟨g, 2, none⟩ = false := frozen_of_row w _ _ _ _ hg
  have a3 : w.cell? ⟨g, 3, none⟩ = some (.int .i64 s.came) := by rw [cell_of_row w _ _ _ _ _ hg]; rfl
  have af3 : w.frozen? ⟨g, 3, none⟩ = false := frozen_of_row w _ _ _ _ hg
  have a4 : w.cell? ⟨g, 4, none⟩ = some (.bool s.pointed) := by rw [cell_of_row w _ _ _ _ _ hg]; rfl
  have af4 : w.frozen? ⟨g, 4, none⟩ = false := frozen_of_row w _ _ _ _ hg
  have a5 : w.cell? ⟨g, 5, none⟩ = some (.bool s.half) := by rw [cell_of_row w _ _ _ _ _ hg]; rfl
  have af5 : w.frozen? ⟨g, 5, none⟩ = false := frozen_of_row w _ _ _ _ hg
  have a6 : w.cell? ⟨g, 6, none⟩ = some (.bool s.bare) := by rw [cell_of_row w _ _ _ _ _ hg]; rfl
  have af6 : w.frozen? ⟨g, 6, none⟩ = false := frozen_of_row w _ _ _ _ hg
  have a7 : w.cell? ⟨g, 7, none⟩ = some (.bool s.wide) := by rw [cell_of_row w _ _ _ _ _ hg]; rfl
  have af7 : w.frozen? ⟨g, 7, none⟩ = false := frozen_of_row w _ _ _ _ hg
  have a8 : w.cell? ⟨g, 8, none⟩ = some (.bool s.over) := by rw [cell_of_row w _ _ _ _ _ hg]; rfl
  have af8 : w.frozen? ⟨g, 8, none⟩ = false := frozen_of_row w _ _ _ _ hg
  have HZ : Hid (s.came = 0) := h0
  rw [h0] at a3
  clear hg ho h0
  go_enter Tryz.func110, Tryz.ntmps110
  go_wp2
  go_end0
  refine ⟨⟨_, rfl⟩, ?_, (Bx.set _ _ _).trans (Bx.set _ _ _)⟩
  have hz : addZ s 46 = { ({ s with pointed := true } : RS) with came := 1 } := by simp [addZ, HZ.out]
  rw [hz]
  exact (HR.out.pointed true).came 1

set_option maxRecDepth 100000 in
set_option maxHeartbeats 1000000 in
theorem add_other (B g : Nat) (s : RS) (c : Int) (w : World) (hr : Rd w B g s) (h : ¬ (s.came = 0 ∧ c = 46)) (hc0 : 0 ≤ s.came) (hc1 : s.came ≤ 1000000000) (hk : s.kept.length ≤ 900000000) :
    Calls Tryz.prog 110 #[.pointer (some ⟨g, 0, none⟩), .int .u8 c] w fun e w' => (∃ v, e = .returned v) ∧ Rd w' B g (addZ s c) ∧ Bx B g w w' := by
  have HR : Hid (Rd w B g s) := hr
  obtain ⟨h1, h2, v, hg, ho⟩ := hr
  have a0 : w.cell? ⟨g, 0, none⟩ = some (.int .i64 s.most) := by rw [cell_of_row w _ _ _ _ _ hg]; rfl
  have af0 : w.frozen? ⟨g, 0, none⟩ = false := frozen_of_row w _ _ _ _ hg
  have a1 : w.cell? ⟨g, 1, none⟩ = some (v) := by rw [cell_of_row w _ _ _ _ _ hg]; rfl
  have af1 : w.frozen? ⟨g, 1, none⟩ = false := frozen_of_row w _ _ _ _ hg
  have a2 : w.cell? ⟨g, 2, none⟩ = some (.int .i64 s.size) := by rw [cell_of_row w _ _ _ _ _ hg]; rfl
  have af2 : w.frozen? ⟨g, 2, none⟩ = false := frozen_of_row w _ _ _ _ hg
  have a3 : w.cell? ⟨g, 3, none⟩ = some (.int .i64 s.came) := by rw [cell_of_row w _ _ _ _ _ hg]; rfl
  have af3 : w.frozen? ⟨g, 3, none⟩ = false := frozen_of_row w _ _ _ _ hg
  have a4 : w.cell? ⟨g, 4, none⟩ = some (.bool s.pointed) := by rw [cell_of_row w _ _ _ _ _ hg]; rfl
  have af4 : w.frozen? ⟨g, 4, none⟩ = false := frozen_of_row w _ _ _ _ hg
  have a5 : w.cell? ⟨g, 5, none⟩ = some (.bool s.half) := by rw [cell_of_row w _ _ _ _ _ hg]; rfl
  have af5 : w.frozen? ⟨g, 5, none⟩ = false := frozen_of_row w _ _ _ _ hg
  have a6 : w.cell? ⟨g, 6, none⟩ = some (.bool s.bare) := by rw [cell_of_row w _ _ _ _ _ hg]; rfl
  have af6 : w.frozen? ⟨g, 6, none⟩ = false := frozen_of_row w _ _ _ _ hg
  have a7 : w.cell? ⟨g, 7, none⟩ = some (.bool s.wide) := by rw [cell_of_row w _ _ _ _ _ hg]; rfl
  have af7 : w.frozen? ⟨g, 7, none⟩ = false := frozen_of_row w _ _ _ _ hg
  have a8 : w.cell? ⟨g, 8, none⟩ = some (.bool s.over) := by rw [cell_of_row w _ _ _ _ _ hg]; rfl
  have af8 : w.frozen? ⟨g, 8, none⟩ = false := frozen_of_row w _ _ _ _ hg
  obtain ⟨cm, hcm⟩ : ∃ cm, s.came = cm := ⟨_, rfl⟩
  rw [hcm] at a3 h hc0 hc1
  have HZ : Hid (s.came = cm) := hcm
  have HN : Hid (¬ (cm = 0 ∧ c = 46)) := h
  have ht : (cm == 0 && c == 46) = false := by rw [Bool.and_eq_false_iff, beq_eq_false_iff_ne, beq_eq_false_iff_ne]; by_cases q : cm = 0 <;> simp_all
  clear hg ho hcm h
  have HKL : Hid (s.kept.length ≤ 900000000) := hk
  clear hk
  have key : ∀ w1, Rd w1 B g (keepZ s [c]) → Bx B g w w1 → ∀ Q : World → Prop, (∀ w2, Rd w2 B g (addZ s c) → Bx B g w w2 → Q w2) → (999 < cm + 1 → Q ((w1.setCell ⟨g, 3, none⟩ (.int .i64 (cm + 1))).setCell ⟨g, 7, none⟩ (.bool true))) ∧ (¬ 999 < cm + 1 → Q (w1.setCell ⟨g, 3, none⟩ (.int .i64 (cm + 1)))) := by
    intro w1 hr1 hb1 Q hQ
    constructor
    · intro q
      refine hQ _ ?_ (hb1.trans ((Bx.set _ _ _).trans (Bx.set _ _ _)))
      have hz : addZ s c = { ({ keepZ s [c] with came := cm + 1 } : RS) with wide := true } := by simp [addZ, HZ.out, HN.out, keepZ_came, q]
      rw [hz]
      exact (hr1.came (cm + 1)).wide true
    · intro q
      refine hQ _ ?_ (hb1.trans (Bx.set _ _ _))
      have hz : addZ s c = { keepZ s [c] with came := cm + 1 } := by simp [addZ, HZ.out, HN.out, keepZ_came, q]
      rw [hz]
      exact hr1.came (cm + 1)
  have KEY := key
  clear key
  have HKEY : Hid (∀ w1, Rd w1 B g (keepZ s [c]) → Bx B g w w1 → ∀ Q : World → Prop, (∀ w2, Rd w2 B g (addZ s c) → Bx B g w w2 → Q w2) → (999 < cm + 1 → Q ((w1.setCell ⟨g, 3, none⟩ (.int .i64 (cm + 1))).setCell ⟨g, 7, none⟩ (.bool true))) ∧ (¬ 999 < cm + 1 → Q (w1.setCell ⟨g, 3, none⟩ (.int .i64 (cm + 1))))) := KEY
  clear KEY
  by_cases hq : 999 < cm + 1
  · have hd : decide (999 < cm + 1) = true := by simpa using hq
    by_cases hz : cm = 0
    · exact absurd hq (by omega)
    · have hz' : (cm == 0) = false := by rw [beq_eq_false_iff_ne]; exact hz
      go_enter Tryz.func110, Tryz.ntmps110
      go_wp2_with fail
      refine (keep_any B g s (w.alloc (.cells #[.int .u8 c] 5)) (HR.out.alloc _) (some ⟨w.heap.size, 0, none⟩) 1 1 [c] rfl (by simp) (row_new w [c]) (by have := HKL.out; omega)).mono ?_
      rintro e w1 ⟨⟨u, rfl⟩, hr1, hb1⟩
      have HB1 : Hid (Bx B g w w1) := (Bx.alloc w _ h1 h2).trans hb1
      have HR1 : Hid (Rd w1 B g (keepZ s [c])) := hr1
      obtain ⟨_, _, v1, hg, ho⟩ := hr1
      have b0 : w1.cell? ⟨g, 0, none⟩ = some (.int .i64 (keepZ s [c]).most) := by rw [cell_of_row w1 _ _ _ _ _ hg]; rfl
      have bf0 : w1.frozen? ⟨g, 0, none⟩ = false := frozen_of_row w1 _ _ _ _ hg
      have b1 : w1.cell? ⟨g, 1, none⟩ = some (v1) := by rw [cell_of_row w1 _ _ _ _ _ hg]; rfl
      have bf1 : w1.frozen? ⟨g, 1, none⟩ = false := frozen_of_row w1 _ _ _ _ hg
      have b2 : w1.cell? ⟨g, 2, none⟩ = some (.int .i64 (keepZ s [c]).size) := by rw [cell_of_row w1 _ _ _ _ _ hg]; rfl
      have bf2 : w1.frozen? ⟨g, 2, none⟩ = false := frozen_of_row w1 _ _ _ _ hg
      have b3 : w1.cell? ⟨g, 3, none⟩ = some (.int .i64 (keepZ s [c]).came) := by rw [cell_of_row w1 _ _ _ _ _ hg]; rfl
      have bf3 : w1.frozen? ⟨g, 3, none⟩ = false := frozen_of_row w1 _ _ _ _ hg
      have b4 : w1.cell? ⟨g, 4, none⟩ = some (.bool (keepZ s [c]).pointed) := by rw [cell_of_row w1 _ _ _ _ _ hg]; rfl
      have bf4 : w1.frozen? ⟨g, 4, none⟩ = false := frozen_of_row w1 _ _ _ _ hg
      have b5 : w1.cell? ⟨g, 5, none⟩ = some (.bool (keepZ s [c]).half) := by rw [cell_of_row w1 _ _ _ _ _ hg]; rfl
      have bf5 : w1.frozen? ⟨g, 5, none⟩ = false := frozen_of_row w1 _ _ _ _ hg
      have b6 : w1.cell? ⟨g, 6, none⟩ = some (.bool (keepZ s [c]).bare) := by rw [cell_of_row w1 _ _ _ _ _ hg]; rfl
      have bf6 : w1.frozen? ⟨g, 6, none⟩ = false := frozen_of_row w1 _ _ _ _ hg
      have b7 : w1.cell? ⟨g, 7, none⟩ = some (.bool (keepZ s [c]).wide) := by rw [cell_of_row w1 _ _ _ _ _ hg]; rfl
      have bf7 : w1.frozen? ⟨g, 7, none⟩ = false := frozen_of_row w1 _ _ _ _ hg
      have b8 : w1.cell? ⟨g, 8, none⟩ = some (.bool (keepZ s [c]).over) := by rw [cell_of_row w1 _ _ _ _ _ hg]; rfl
      have bf8 : w1.frozen? ⟨g, 8, none⟩ = false := frozen_of_row w1 _ _ _ _ hg
      rw [keepZ_came, HZ.out] at b3
      clear hg ho hb1
      go_wp2
      go_end0
      exact (HKEY.out w1 HR1.out HB1.out (fun w' => (∃ v, Ending.returned _ = .returned v) ∧ Rd w' B g (addZ s c) ∧ Bx B g w w') (fun w2 h1 h2 => ⟨⟨_, rfl⟩, h1, h2⟩)).1 hq
  · have hd : decide (999 < cm + 1) = false := by simpa using hq
    by_cases hz : cm = 0
    · have hz0 := hz
      have hc46 : (c == 46) = false := by rw [beq_eq_false_iff_ne]; exact fun e => HN.out ⟨hz, e⟩
      subst hz
      go_enter Tryz.func110, Tryz.ntmps110
      go_wp2_with fail
      refine (keep_any B g s (w.alloc (.cells #[.int .u8 c] 5)) (HR.out.alloc _) (some ⟨w.heap.size, 0, none⟩) 1 1 [c] rfl (by simp) (row_new w [c]) (by have := HKL.out; omega)).mono ?_
      rintro e w1 ⟨⟨u, rfl⟩, hr1, hb1⟩
      have HB1 : Hid (Bx B g w w1) := (Bx.alloc w _ h1 h2).trans hb1
      have HR1 : Hid (Rd w1 B g (keepZ s [c])) := hr1
      obtain ⟨_, _, v1, hg, ho⟩ := hr1
      have b0 : w1.cell? ⟨g, 0, none⟩ = some (.int .i64 (keepZ s [c]).most) := by rw [cell_of_row w1 _ _ _ _ _ hg]; rfl
      have bf0 : w1.frozen? ⟨g, 0, none⟩ = false := frozen_of_row w1 _ _ _ _ hg
      have b1 : w1.cell? ⟨g, 1, none⟩ = some (v1) := by rw [cell_of_row w1 _ _ _ _ _ hg]; rfl
      have bf1 : w1.frozen? ⟨g, 1, none⟩ = false := frozen_of_row w1 _ _ _ _ hg
      have b2 : w1.cell? ⟨g, 2, none⟩ = some (.int .i64 (keepZ s [c]).size) := by rw [cell_of_row w1 _ _ _ _ _ hg]; rfl
      have bf2 : w1.frozen? ⟨g, 2, none⟩ = false := frozen_of_row w1 _ _ _ _ hg
      have b3 : w1.cell? ⟨g, 3, none⟩ = some (.int .i64 (keepZ s [c]).came) := by rw [cell_of_row w1 _ _ _ _ _ hg]; rfl
      have bf3 : w1.frozen? ⟨g, 3, none⟩ = false := frozen_of_row w1 _ _ _ _ hg
      have b4 : w1.cell? ⟨g, 4, none⟩ = some (.bool (keepZ s [c]).pointed) := by rw [cell_of_row w1 _ _ _ _ _ hg]; rfl
      have bf4 : w1.frozen? ⟨g, 4, none⟩ = false := frozen_of_row w1 _ _ _ _ hg
      have b5 : w1.cell? ⟨g, 5, none⟩ = some (.bool (keepZ s [c]).half) := by rw [cell_of_row w1 _ _ _ _ _ hg]; rfl
      have bf5 : w1.frozen? ⟨g, 5, none⟩ = false := frozen_of_row w1 _ _ _ _ hg
      have b6 : w1.cell? ⟨g, 6, none⟩ = some (.bool (keepZ s [c]).bare) := by rw [cell_of_row w1 _ _ _ _ _ hg]; rfl
      have bf6 : w1.frozen? ⟨g, 6, none⟩ = false := frozen_of_row w1 _ _ _ _ hg
      have b7 : w1.cell? ⟨g, 7, none⟩ = some (.bool (keepZ s [c]).wide) := by rw [cell_of_row w1 _ _ _ _ _ hg]; rfl
      have bf7 : w1.frozen? ⟨g, 7, none⟩ = false := frozen_of_row w1 _ _ _ _ hg
      have b8 : w1.cell? ⟨g, 8, none⟩ = some (.bool (keepZ s [c]).over) := by rw [cell_of_row w1 _ _ _ _ _ hg]; rfl
      have bf8 : w1.frozen? ⟨g, 8, none⟩ = false := frozen_of_row w1 _ _ _ _ hg
      rw [keepZ_came, HZ.out] at b3
      clear hg ho hb1
      go_wp2
      go_end0
      exact (HKEY.out w1 HR1.out HB1.out (fun w' => (∃ v, Ending.returned _ = .returned v) ∧ Rd w' B g (addZ s c) ∧ Bx B g w w') (fun w2 h1 h2 => ⟨⟨_, rfl⟩, h1, h2⟩)).2 hq
    · have hz' : (cm == 0) = false := by rw [beq_eq_false_iff_ne]; exact hz
      go_enter Tryz.func110, Tryz.ntmps110
      go_wp2_with fail
      refine (keep_any B g s (w.alloc (.cells #[.int .u8 c] 5)) (HR.out.alloc _) (some ⟨w.heap.size, 0, none⟩) 1 1 [c] rfl (by simp) (row_new w [c]) (by have := HKL.out; omega)).mono ?_
      rintro e w1 ⟨⟨u, rfl⟩, hr1, hb1⟩
      have HB1 : Hid (Bx B g w w1) := (Bx.alloc w _ h1 h2).trans hb1
      have HR1 : Hid (Rd w1 B g (keepZ s [c])) := hr1
      obtain ⟨_, _, v1, hg, ho⟩ := hr1
      have b0 : w1.cell? ⟨g, 0, none⟩ = some (.int .i64 (keepZ s [c]).most) := by rw [cell_of_row w1 _ _ _ _ _ hg]; rfl
      have bf0 : w1.frozen? ⟨g, 0, none⟩ = false := frozen_of_row w1 _ _ _ _ hg
      have b1 : w1.cell? ⟨g, 1, none⟩ = some (v1) := by rw [cell_of_row w1 _ _ _ _ _ hg]; rfl
      have bf1 : w1.frozen? ⟨g, 1, none⟩ = false := frozen_of_row w1 _ _ _ _ hg
      have b2 : w1.cell? ⟨g, 2, none⟩ = some (.int .i64 (keepZ s [c]).size) := by rw [cell_of_row w1 _ _ _ _ _ hg]; rfl
      have bf2 : w1.frozen? ⟨g, 2, none⟩ = false := frozen_of_row w1 _ _ _ _ hg
      have b3 : w1.cell? ⟨g, 3, none⟩ = some (.int .i64 (keepZ s [c]).came) := by rw [cell_of_row w1 _ _ _ _ _ hg]; rfl
      have bf3 : w1.frozen? ⟨g, 3, none⟩ = false := frozen_of_row w1 _ _ _ _ hg
      have b4 : w1.cell? ⟨g, 4, none⟩ = some (.bool (keepZ s [c]).pointed) := by rw [cell_of_row w1 _ _ _ _ _ hg]; rfl
      have bf4 : w1.frozen? ⟨g, 4, none⟩ = false := frozen_of_row w1 _ _ _ _ hg
      have b5 : w1.cell? ⟨g, 5, none⟩ = some (.bool (keepZ s [c]).half) := by rw [cell_of_row w1 _ _ _ _ _ hg]; rfl
      have bf5 : w1.frozen? ⟨g, 5, none⟩ = false := frozen_of_row w1 _ _ _ _ hg
      have b6 : w1.cell? ⟨g, 6, none⟩ = some (.bool (keepZ s [c]).bare) := by rw [cell_of_row w1 _ _ _ _ _ hg]; rfl
      have bf6 : w1.frozen? ⟨g, 6, none⟩ = false := frozen_of_row w1 _ _ _ _ hg
      have b7 : w1.cell? ⟨g, 7, none⟩ = some (.bool (keepZ s [c]).wide) := by rw [cell_of_row w1 _ _ _ _ _ hg]; rfl
      have bf7 : w1.frozen? ⟨g, 7, none⟩ = false := frozen_of_row w1 _ _ _ _ hg
      have b8 : w1.cell? ⟨g, 8, none⟩ = some (.bool (keepZ s [c]).over) := by rw [cell_of_row w1 _ _ _ _ _ hg]; rfl
      have bf8 : w1.frozen? ⟨g, 8, none⟩ = false := frozen_of_row w1 _ _ _ _ hg
      rw [keepZ_came, HZ.out] at b3
      clear hg ho hb1
      go_wp2
      go_end0
      exact (HKEY.out w1 HR1.out HB1.out (fun w' => (∃ v, Ending.returned _ = .returned v) ∧ Rd w' B g (addZ s c) ∧ Bx B g w w') (fun w2 h1 h2 => ⟨⟨_, rfl⟩, h1, h2⟩)).2 hq

set_option maxRecDepth 100000 in
theorem add_any (B g : Nat) (s : RS) (c : Int) (w : World) (hr : Rd w B g s) (hc0 : 0 ≤ s.came) (hc1 : s.came ≤ 1000000000) (hk : s.kept.length ≤ 900000000) :
    Calls Tryz.prog 110 #[.pointer (some ⟨g, 0, none⟩), .int .u8 c] w fun e w' => (∃ v, e = .returned v) ∧ Rd w' B g (addZ s c) ∧ Bx B g w w' := by
  by_cases h : s.came = 0 ∧ c = 46
  · obtain ⟨h0, rfl⟩ := h
    exact add_point B g s w hr h0
  · exact add_other B g s c w hr h hc0 hc1 hk
end Go.Proofs.YtbckbonffajmeaaGreatDoor.Dt
