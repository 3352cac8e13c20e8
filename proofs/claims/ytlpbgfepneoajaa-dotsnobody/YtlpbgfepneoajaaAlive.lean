/-
  What must come of fixed calls.
-/
import Derived.Test.YtlpbgfepneoajaaText
import Derived.Test.YtlpbgfepneoajaaStuff
namespace Go.Proofs.Ytlpbgfepneoajaa
open Go.RowKit
set_option linter.unusedVariables false

theorem lines_a : linesZ 0 [46, 97, 13, 10] = [(0, 2, true)] := by
  have h : pairI [46, 97, 13, 10] = 2 := by decide
  rw [linesZ_pair 0 _ (by rw [h]; decide), h]
  simp [linesZ_nil]
theorem right_a : rightZ [46, 97, 13, 10] = (0, 0) := by
  rw [rightZ, lines_a]; rfl
theorem frame_a : frameZ [46, 97, 13, 10] = [46, 46, 97, 13, 10, 46, 13, 10] := by
  rw [frameZ, lines_a]; rfl
theorem run_a : putV (runZ (new0 10) [46, 13, 10, 120]) = .tuple #[.int .i64 3, .bool true, .int .i64 0] ∧ (runZ (new0 10) [46, 13, 10, 120]).1.over = true := by
  constructor <;> rfl
theorem rd_new (w : World) (m : Int) (o : Obj) : Rd ((w.alloc (.cells (cellsR (.slice none 0 0) (new0 m)) 33)).alloc o) (w.heap.size + 1 + 1) w.heap.size (new0 m) :=
  ⟨by omega, by simp, .slice none 0 0, (Below.heap_alloc _ _ _ (by simp)).trans (heap_alloc_new _ _), World.ownsRow_nil _ _ _ _⟩
theorem Bx.below {B g n : Nat} {w w' : World} (h : Bx B g w w') (hn : n ≤ g) : Below n w w' := h.1.mono hn

set_option maxHeartbeats 4000000 in
theorem alive_any (w : World) (hm : Mx w) : Calls Try.prog 8 #[] w fun e w' => e = .returned (.bool true) ∧ Below w.heap.size w w' := by
  have kc := conv_const w #[.int .u8 46, .int .u8 97, .int .u8 13, .int .u8 10] 4 4 w.heap.size rfl
  have hm1 : Mx (w.alloc (.cells #[.int .u8 46, .int .u8 97, .int .u8 13, .int .u8 10] 5 (4, 5))) := hm.keep (keep w _)
  have hS := stuff_good (some ⟨w.heap.size, 0, none⟩) 4 4 [46, 97, 13, 10] (w.alloc (.cells #[.int .u8 46, .int .u8 97, .int .u8 13, .int .u8 10] 5 (4, 5))) rfl (by omega) (by simp) (by omega) (by intro x hx; simp at hx; omega) (row_mark w [46, 97, 13, 10] (4, 5)) hm1 (by rw [right_a])
  rw [frame_a] at hS
  go_enter Try.func8, Try.ntmps8
  go_wp2_with fail
  refine hS.mono ?_
  clear hS hm1 kc
  rintro e w1 ⟨v1, rfl, ho1, hb1⟩
  obtain ⟨a1, c1, rfl, _, _, hr1, _⟩ := own_row' ho1
  have HR1 : Hid (Row w1 a1 [46, 46, 97, 13, 10, 46, 13, 10]) := hr1
  have HB1 : Hid (Below w.heap.size w w1) := (keep w _).trans (hb1.mono (by simp))
  clear hr1 hb1 ho1
  go_wp2_with fail
  refine (new_any 10 w1).mono ?_
  rintro e w2 ⟨rfl, hw2⟩
  have hs2 : w2.heap.size = w1.heap.size + 1 := by rw [hw2]; simp
  have kc := conv_const w2 #[.int .u8 46, .int .u8 13, .int .u8 10, .int .u8 120] 4 4 w2.heap.size rfl
  have hrd : Rd (w2.alloc (.cells #[.int .u8 46, .int .u8 13, .int .u8 10, .int .u8 120] 5 (4, 5))) (w1.heap.size + 1 + 1) w1.heap.size (new0 10) := by rw [hw2]; exact rd_new w1 10 _
  have hP := put_any (w1.heap.size + 1 + 1) w1.heap.size (new0 10) _ hrd rfl 0 (fit_new 10) (some ⟨w2.heap.size, 0, none⟩) 4 4 [46, 13, 10, 120] rfl (fun w' hb => by
    refine .inr ⟨w2.heap.size, 0, rfl, fun i hi => ?_⟩
    rw [World.cell?_of_block (hb.2 w2.heap.size (by omega) (by omega)), World.cell?_alloc_mark]
    have hi' : i < 4 := by simpa using hi
    rcases i with _ | _ | _ | _ | i <;> first | rfl | omega) (by omega)
  rw [run_a.1] at hP
  have HB2 : Hid (Below w.heap.size w (w2.alloc (.cells #[.int .u8 46, .int .u8 13, .int .u8 10, .int .u8 120] 5 (4, 5)))) := by
    have := HB1.out.size
    rw [hw2]; exact (HB1.out.alloc this _).alloc (by simp; omega) _
  have HR2 : Hid (Row (w2.alloc (.cells #[.int .u8 46, .int .u8 13, .int .u8 10, .int .u8 120] 5 (4, 5))) a1 [46, 46, 97, 13, 10, 46, 13, 10]) := by
    rw [hw2]; exact row_below HR1.out ((keep w1 _).trans ((keep _ _).mono (by simp)))
  have hsw : w.heap.size ≤ w1.heap.size := HB1.out.size
  have HR1L : Hid (∀ X, Below w1.heap.size w1 X → Row X a1 [46, 46, 97, 13, 10, 46, 13, 10]) := fun X h => row_below HR1.out h
  have HW : Hid (Below w1.heap.size w1 (w2.alloc (.cells #[.int .u8 46, .int .u8 13, .int .u8 10, .int .u8 120] 5 (4, 5)))) := by
    rw [hw2]; exact (keep w1 _).trans ((keep _ _).mono (by simp))
  clear hw2 hs2
  go_wp2_with fail
  refine hP.mono ?_
  clear hP kc
  rintro e w3 ⟨rfl, hrd3, hbx3⟩
  have HB3 : Hid (Below w1.heap.size w1 w3) := HW.out.trans hbx3.1
  have hO := put_over (w1.heap.size + 1 + 1) w1.heap.size _ w3 hrd3 run_a.2 none 0 0
  clear hbx3 hrd3
  go_wp2_with fail
  refine hO.mono ?_
  clear hO
  rintro e w4 ⟨rfl, rfl⟩
  have hcv := conv_row 8 c1 rfl (HR1L.out w3 HB3.out)
  rw [show strOfNums [46, 46, 97, 13, 10, 46, 13, 10] = ⟨#[46, 46, 97, 13, 10, 46, 13, 10]⟩ from rfl] at hcv
  go_wp2
  go_ret
  exact ⟨rfl, HB1.out.trans (HB3.out.mono hsw)⟩
end Go.Proofs.Ytlpbgfepneoajaa
