/-
  Clocks: the contract of clockOf.
-/
import Derived.Test.YtomcjkghneingabDoorTi
namespace Go.Proofs.YtomcjkghneingabDoor
open Go.RowKit
set_option linter.unusedVariables false
set_option linter.unusedSimpArgs false

def pieceN (s : ByteArray) (k : Nat) : Int × Bool := numD (nums (s.extract (3 * k) (3 * k + 2))) 2 2
def finN (h m c : Int) : Int × Bool := (h * 3600 + m * 60 + (if c = 60 then 59 else c), decide (h < 24) && decide (m < 60) && decide ((if c = 60 then 59 else c) < 60))
/-- What a clock says: seconds, and whether it is one. -/
def clockN (s : ByteArray) : Int × Bool :=
  if s.size ≠ 5 ∧ s.size ≠ 8 then (0, false)
  else if (pieceN s 0).2 = false then (0, false)
  else if (pieceN s 1).2 = false ∨ (nums s).getD 2 0 ≠ 58 then (0, false)
  else if s.size = 5 then finN (pieceN s 0).1 (pieceN s 1).1 0
  else if (pieceN s 2).2 = false ∨ (nums s).getD 5 0 ≠ 58 then (0, false)
  else finN (pieceN s 0).1 (pieceN s 1).1 (pieceN s 2).1
def arrA (a b c : Int) (k : Nat) : Array Value := #[.int .i64 (if 0 < k then a else 0), .int .i64 (if 1 < k then b else 0), .int .i64 (if 2 < k then c else 0)]
set_option maxRecDepth 100000 in
theorem set_bel {w W : World} {g i : Nat} {v : Value} (h : Below w.heap.size w W) (hg : w.heap.size ≤ g) : Below w.heap.size w (W.setCell ⟨g, i, none⟩ v) := h.setCell hg v
set_option maxHeartbeats 16000000 in
set_option maxRecDepth 100000 in
theorem clockOf_any (s : ByteArray) (w : World) : Calls Tryd.prog 16 #[.string s] w fun e w' => e = .returned (.tuple #[.int .i64 (clockN s).1, .bool (clockN s).2]) ∧ Below w.heap.size w w' := by
  obtain ⟨n, hn⟩ : ∃ n, s.size = n := ⟨_, rfl⟩
  by_cases hz : n ≠ 5 ∧ n ≠ 8
  · have d1 : ((n : Int) != 5) = true := by simp; omega
    have d2 : ((n : Int) != 8) = true := by simp; omega
    have HZ : Hid (clockN s = (0, false)) := by unfold Hid clockN; rw [hn, if_pos hz]
    clear hz
    go_enter Tryd.func16, Tryd.ntmps16
    go_wp2
    go_ret2
    exact ⟨by rw [HZ.out] <;> rfl, Below.refl _ _⟩
  have HC : Hid (clockN s = if (pieceN s 0).2 = false then (0, false) else if (pieceN s 1).2 = false ∨ (nums s).getD 2 0 ≠ 58 then (0, false) else if n = 5 then finN (pieceN s 0).1 (pieceN s 1).1 0 else if (pieceN s 2).2 = false ∨ (nums s).getD 5 0 ≠ 58 then (0, false) else finN (pieceN s 0).1 (pieceN s 1).1 (pieceN s 2).1) := by
    unfold Hid clockN
    rw [hn, if_neg hz]
  have e2 : (10 : Int) ^ 2 = 100 := by decide
  have hb0 := numD_bound (nums (s.extract 0 2)) 2 2
  rw [e2] at hb0
  obtain ⟨⟨a0, r0⟩, hp0⟩ : ∃ p, numD (nums (s.extract 0 2)) 2 2 = p := ⟨_, rfl⟩
  rw [hp0] at hb0
  have HQ0 : Hid (pieceN s 0 = (a0, r0)) := hp0
  have HN0 : Hid (∀ V, Calls Tryd.prog 30 #[.string (s.extract 0 2), .int .i64 2, .int .i64 2] V fun e w' => e = .returned (.tuple #[.int .i64 a0, .bool r0]) ∧ V = w') := fun V => by
    have := number_any (s.extract 0 2) 2 2 V (by decide)
    rw [hp0] at this
    exact this
  have l0 : 0 ≤ a0 := hb0.1
  have u0 : a0 < 100 := hb0.2
  clear hb0 hp0
  have hb1 := numD_bound (nums (s.extract 3 5)) 2 2
  rw [e2] at hb1
  obtain ⟨⟨a1, r1⟩, hp1⟩ : ∃ p, numD (nums (s.extract 3 5)) 2 2 = p := ⟨_, rfl⟩
  rw [hp1] at hb1
  have HQ1 : Hid (pieceN s 1 = (a1, r1)) := hp1
  have HN1 : Hid (∀ V, Calls Tryd.prog 30 #[.string (s.extract 3 5), .int .i64 2, .int .i64 2] V fun e w' => e = .returned (.tuple #[.int .i64 a1, .bool r1]) ∧ V = w') := fun V => by
    have := number_any (s.extract 3 5) 2 2 V (by decide)
    rw [hp1] at this
    exact this
  have l1 : 0 ≤ a1 := hb1.1
  have u1 : a1 < 100 := hb1.2
  clear hb1 hp1
  have hb2 := numD_bound (nums (s.extract 6 8)) 2 2
  rw [e2] at hb2
  obtain ⟨⟨a2, r2⟩, hp2⟩ : ∃ p, numD (nums (s.extract 6 8)) 2 2 = p := ⟨_, rfl⟩
  rw [hp2] at hb2
  have HQ2 : Hid (pieceN s 2 = (a2, r2)) := hp2
  have HN2 : Hid (∀ V, Calls Tryd.prog 30 #[.string (s.extract 6 8), .int .i64 2, .int .i64 2] V fun e w' => e = .returned (.tuple #[.int .i64 a2, .bool r2]) ∧ V = w') := fun V => by
    have := number_any (s.extract 6 8) 2 2 V (by decide)
    rw [hp2] at this
    exact this
  have l2 : 0 ≤ a2 := hb2.1
  have u2 : a2 < 100 := hb2.2
  clear hb2 hp2
  rw [HQ0.out, HQ1.out, HQ2.out] at HC
  clear e2 HQ0 HQ1 HQ2
  have hcase : n = 5 ∨ n = 8 := by omega
  clear hz
  obtain ⟨c2, hc2⟩ : ∃ c : Int, (nums s).getD 2 0 = c := ⟨_, rfl⟩
  obtain ⟨c5, hc5⟩ : ∃ c : Int, (nums s).getD 5 0 = c := ⟨_, rfl⟩
  rw [hc2, hc5] at HC
  rcases hcase with rfl | rfl
  · go_enter Tryd.func16, Tryd.ntmps16
    go_wp2
    go_loopw [23, 5, 6, 7] (fun v _ _ _ wr => ∃ k : Nat, v = .int .i64 k ∧ k ≤ 2 ∧ wr.heap[w.heap.size]? = some (.cells (arrA a0 a1 a2 k) 67 (0, 0)) ∧ Hid (Below w.heap.size w wr) ∧ Hid ((0 < k → r0 = true) ∧ (1 < k → r1 = true ∧ c2 = 58) ∧ (2 < k → r2 = true ∧ c5 = 58))) (fun v _ _ _ _ => 2 - (intOf v).toNat)
    case atStart => exact ⟨0, rfl, by omega, World.alloc_heap_new w _, keep w _, ⟨fun h => by omega, fun h => by omega, fun h => by omega⟩⟩
    case round =>
      obtain ⟨k, rfl, hk, hbk, HB, HO⟩ := hrel
      by_cases hlt : k < 2
      rotate_left
      · obtain rfl : k = 2 := by omega
        have HZ : Hid (clockN s = finN a0 a1 0) := by
          unfold Hid
          rw [HC.out, if_neg (by rw [HO.out.1 (by decide)]; decide), if_neg (by rw [(HO.out.2.1 (by decide)).1]; simp [(HO.out.2.1 (by decide)).2]), if_pos (by decide)]
        have z0 : wr.cell? ⟨w.heap.size, 0, none⟩ = some (.int .i64 a0) := by rw [cell_of_row _ _ _ _ _ _ hbk]; rfl
        have z1 : wr.cell? ⟨w.heap.size, 1, none⟩ = some (.int .i64 a1) := by rw [cell_of_row _ _ _ _ _ _ hbk]; rfl
        have z2 : wr.cell? ⟨w.heap.size, 2, none⟩ = some (.int .i64 0) := by rw [cell_of_row _ _ _ _ _ _ hbk]; rfl
        clear hbk
        go_wp2_with fail
        go_quiet (fail)
        have HBQ := below_drewN HB.out nq
        unfold finN at HZ
        by_cases g1 : a0 < 24
        · have f1 : decide (a0 < 24) = true := by simpa using g1
          by_cases g2 : a1 < 60
          · have f2 : decide (a1 < 60) = true := by simpa using g2
            have f3 : decide ((0 : Int) < 60) = true := by decide
            go_wp2
            go_ret2
            exact ⟨by rw [HZ.out]; simp [*], HBQ⟩
          · have f2 : decide (a1 < 60) = false := by simpa using g2
            go_wp2
            go_ret2
            exact ⟨by rw [HZ.out]; simp [*], HBQ⟩
        · have f1 : decide (a0 < 24) = false := by simpa using g1
          go_wp2
          go_ret2
          exact ⟨by rw [HZ.out]; simp [*], HBQ⟩
      have hcs : k = 0 ∨ k = 1 := by omega
      rcases hcs with rfl | rfl
      · cases r0 with
        | false =>
          have HZ : Hid (clockN s = (0, false)) := by
            unfold Hid
            rw [HC.out, if_pos rfl]
          go_wp2_with fail
          refine (HN0.out _).mono ?_
          rintro e w2 ⟨rfl, rfl⟩
          go_wp2
          go_ret2
          exact ⟨by rw [HZ.out] <;> rfl, HB.out⟩
        | true =>
          have hset := heap_setCell_same wr w.heap.size 0 _ 67 (.int .i64 a0) hbk
          have HB2 : Hid (Below w.heap.size w (wr.setCell ⟨w.heap.size, 0, none⟩ (.int .i64 a0))) := set_bel HB.out (Nat.le_refl _)
          have HS2 : Hid ((wr.setCell ⟨w.heap.size, 0, none⟩ (.int .i64 a0)).heap[w.heap.size]? = some (.cells (arrA a0 a1 a2 1) 67 (0, 0))) := hset
          have y0 : wr.cell? ⟨w.heap.size, 0, none⟩ = some (.int .i64 0) := by rw [cell_of_row _ _ _ _ _ _ hbk]; rfl
          have y1 : wr.frozen? ⟨w.heap.size, 0, none⟩ = false := frozen_of_row _ _ _ _ _ hbk
          clear hset
          go_wp2_with fail
          refine (HN0.out _).mono ?_
          rintro e w2 ⟨rfl, rfl⟩
          go_wp2
          go_roundw
          case rel => exact ⟨1, rfl, by omega, HS2.out, HB2, ⟨fun _ => by first | rfl | trivial, fun h => by omega, fun h => by omega⟩⟩
          case measure => simp [intOf]
      · cases r1 with
        | false =>
          have HZ : Hid (clockN s = (0, false)) := by
            unfold Hid
            rw [HC.out, if_neg (by rw [HO.out.1 (by decide)]; decide), if_pos (.inl rfl)]
          go_wp2_with fail
          refine (HN1.out _).mono ?_
          rintro e w2 ⟨rfl, rfl⟩
          go_wp2
          go_ret2
          exact ⟨by rw [HZ.out] <;> rfl, HB.out⟩
        | true =>
          have hi : 2 < s.size := by omega
          have hx : ((s[2]'hi).toNat : Int) = c2 := by rw [← hc2, List.getD_eq_getElem?_getD, nums_at s 2 hi]; rfl
          by_cases p58 : c2 = 58
          rotate_left
          · have f58 : (c2 != 58) = true := by simpa using p58
            have HZ : Hid (clockN s = (0, false)) := by
              unfold Hid
              rw [HC.out, if_neg (by rw [HO.out.1 (by decide)]; decide), if_pos (.inr p58)]
            go_wp2_with fail
            refine (HN1.out _).mono ?_
            rintro e w2 ⟨rfl, rfl⟩
            go_wp2
            go_ret2
            exact ⟨by rw [HZ.out] <;> rfl, HB.out⟩
          have f58 : (c2 != 58) = false := by simpa using p58
          have hset := heap_setCell_same wr w.heap.size 1 _ 67 (.int .i64 a1) hbk
          have HB2 : Hid (Below w.heap.size w (wr.setCell ⟨w.heap.size, 1, none⟩ (.int .i64 a1))) := set_bel HB.out (Nat.le_refl _)
          have HS2 : Hid ((wr.setCell ⟨w.heap.size, 1, none⟩ (.int .i64 a1)).heap[w.heap.size]? = some (.cells (arrA a0 a1 a2 2) 67 (0, 0))) := hset
          have y0 : wr.cell? ⟨w.heap.size, 1, none⟩ = some (.int .i64 0) := by rw [cell_of_row _ _ _ _ _ _ hbk]; rfl
          have y1 : wr.frozen? ⟨w.heap.size, 1, none⟩ = false := frozen_of_row _ _ _ _ _ hbk
          clear hset
          go_wp2_with fail
          refine (HN1.out _).mono ?_
          rintro e w2 ⟨rfl, rfl⟩
          go_wp2
          go_roundw
          case rel => exact ⟨2, rfl, by omega, HS2.out, HB2, ⟨fun _ => HO.out.1 (by decide), fun _ => ⟨by first | rfl | trivial, p58⟩, fun h => by omega⟩⟩
          case measure => simp [intOf]
  · go_enter Tryd.func16, Tryd.ntmps16
    go_wp2
    go_loopw [23, 5, 6, 7] (fun v _ _ _ wr => ∃ k : Nat, v = .int .i64 k ∧ k ≤ 3 ∧ wr.heap[w.heap.size]? = some (.cells (arrA a0 a1 a2 k) 67 (0, 0)) ∧ Hid (Below w.heap.size w wr) ∧ Hid ((0 < k → r0 = true) ∧ (1 < k → r1 = true ∧ c2 = 58) ∧ (2 < k → r2 = true ∧ c5 = 58))) (fun v _ _ _ _ => 3 - (intOf v).toNat)
    case atStart => exact ⟨0, rfl, by omega, World.alloc_heap_new w _, keep w _, ⟨fun h => by omega, fun h => by omega, fun h => by omega⟩⟩
    case round =>
      obtain ⟨k, rfl, hk, hbk, HB, HO⟩ := hrel
      by_cases hlt : k < 3
      rotate_left
      · obtain rfl : k = 3 := by omega
        have HZ : Hid (clockN s = finN a0 a1 a2) := by
          unfold Hid
          rw [HC.out, if_neg (by rw [HO.out.1 (by decide)]; decide), if_neg (by rw [(HO.out.2.1 (by decide)).1]; simp [(HO.out.2.1 (by decide)).2]), if_neg (by decide), if_neg (by rw [(HO.out.2.2 (by decide)).1]; simp [(HO.out.2.2 (by decide)).2])]
        have z0 : wr.cell? ⟨w.heap.size, 0, none⟩ = some (.int .i64 a0) := by rw [cell_of_row _ _ _ _ _ _ hbk]; rfl
        have z1 : wr.cell? ⟨w.heap.size, 1, none⟩ = some (.int .i64 a1) := by rw [cell_of_row _ _ _ _ _ _ hbk]; rfl
        have z2 : wr.cell? ⟨w.heap.size, 2, none⟩ = some (.int .i64 a2) := by rw [cell_of_row _ _ _ _ _ _ hbk]; rfl
        clear hbk
        go_wp2_with fail
        go_quiet (fail)
        have HBQ := below_drewN HB.out nq
        unfold finN at HZ
        by_cases g0 : a2 = 60
        · have f0 : (a2 == 60) = true := by simpa using g0
          rw [if_pos g0] at HZ
          by_cases g1 : a0 < 24
          · have f1 : decide (a0 < 24) = true := by simpa using g1
            by_cases g2 : a1 < 60
            · have f2 : decide (a1 < 60) = true := by simpa using g2
              have f3 : decide ((59 : Int) < 60) = true := by decide
              go_wp2
              go_ret2
              exact ⟨by rw [HZ.out]; simp [*], HBQ⟩
            · have f2 : decide (a1 < 60) = false := by simpa using g2
              go_wp2
              go_ret2
              exact ⟨by rw [HZ.out]; simp [*], HBQ⟩
          · have f1 : decide (a0 < 24) = false := by simpa using g1
            go_wp2
            go_ret2
            exact ⟨by rw [HZ.out]; simp [*], HBQ⟩
        · have f0 : (a2 == 60) = false := by simpa using g0
          rw [if_neg g0] at HZ
          by_cases g1 : a0 < 24
          · have f1 : decide (a0 < 24) = true := by simpa using g1
            by_cases g2 : a1 < 60
            · have f2 : decide (a1 < 60) = true := by simpa using g2
              by_cases g3 : a2 < 60
              · have f3 : decide ((a2 : Int) < 60) = true := by simpa using g3
                go_wp2
                go_ret2
                exact ⟨by rw [HZ.out]; simp [*], HBQ⟩
              · have f3 : decide ((a2 : Int) < 60) = false := by simpa using g3
                go_wp2
                go_ret2
                exact ⟨by rw [HZ.out]; simp [*], HBQ⟩
            · have f2 : decide (a1 < 60) = false := by simpa using g2
              go_wp2
              go_ret2
              exact ⟨by rw [HZ.out]; simp [*], HBQ⟩
          · have f1 : decide (a0 < 24) = false := by simpa using g1
            go_wp2
            go_ret2
            exact ⟨by rw [HZ.out]; simp [*], HBQ⟩
      have hcs : k = 0 ∨ k = 1 ∨ k = 2 := by omega
      rcases hcs with rfl | rfl | rfl
      · cases r0 with
        | false =>
          have HZ : Hid (clockN s = (0, false)) := by
            unfold Hid
            rw [HC.out, if_pos rfl]
          go_wp2_with fail
          refine (HN0.out _).mono ?_
          rintro e w2 ⟨rfl, rfl⟩
          go_wp2
          go_ret2
          exact ⟨by rw [HZ.out] <;> rfl, HB.out⟩
        | true =>
          have hset := heap_setCell_same wr w.heap.size 0 _ 67 (.int .i64 a0) hbk
          have HB2 : Hid (Below w.heap.size w (wr.setCell ⟨w.heap.size, 0, none⟩ (.int .i64 a0))) := set_bel HB.out (Nat.le_refl _)
          have HS2 : Hid ((wr.setCell ⟨w.heap.size, 0, none⟩ (.int .i64 a0)).heap[w.heap.size]? = some (.cells (arrA a0 a1 a2 1) 67 (0, 0))) := hset
          have y0 : wr.cell? ⟨w.heap.size, 0, none⟩ = some (.int .i64 0) := by rw [cell_of_row _ _ _ _ _ _ hbk]; rfl
          have y1 : wr.frozen? ⟨w.heap.size, 0, none⟩ = false := frozen_of_row _ _ _ _ _ hbk
          clear hset
          go_wp2_with fail
          refine (HN0.out _).mono ?_
          rintro e w2 ⟨rfl, rfl⟩
          go_wp2
          go_roundw
          case rel => exact ⟨1, rfl, by omega, HS2.out, HB2, ⟨fun _ => by first | rfl | trivial, fun h => by omega, fun h => by omega⟩⟩
          case measure => simp [intOf]
      · cases r1 with
        | false =>
          have HZ : Hid (clockN s = (0, false)) := by
            unfold Hid
            rw [HC.out, if_neg (by rw [HO.out.1 (by decide)]; decide), if_pos (.inl rfl)]
          go_wp2_with fail
          refine (HN1.out _).mono ?_
          rintro e w2 ⟨rfl, rfl⟩
          go_wp2
          go_ret2
          exact ⟨by rw [HZ.out] <;> rfl, HB.out⟩
        | true =>
          have hi : 2 < s.size := by omega
          have hx : ((s[2]'hi).toNat : Int) = c2 := by rw [← hc2, List.getD_eq_getElem?_getD, nums_at s 2 hi]; rfl
          by_cases p58 : c2 = 58
          rotate_left
          · have f58 : (c2 != 58) = true := by simpa using p58
            have HZ : Hid (clockN s = (0, false)) := by
              unfold Hid
              rw [HC.out, if_neg (by rw [HO.out.1 (by decide)]; decide), if_pos (.inr p58)]
            go_wp2_with fail
            refine (HN1.out _).mono ?_
            rintro e w2 ⟨rfl, rfl⟩
            go_wp2
            go_ret2
            exact ⟨by rw [HZ.out] <;> rfl, HB.out⟩
          have f58 : (c2 != 58) = false := by simpa using p58
          have hset := heap_setCell_same wr w.heap.size 1 _ 67 (.int .i64 a1) hbk
          have HB2 : Hid (Below w.heap.size w (wr.setCell ⟨w.heap.size, 1, none⟩ (.int .i64 a1))) := set_bel HB.out (Nat.le_refl _)
          have HS2 : Hid ((wr.setCell ⟨w.heap.size, 1, none⟩ (.int .i64 a1)).heap[w.heap.size]? = some (.cells (arrA a0 a1 a2 2) 67 (0, 0))) := hset
          have y0 : wr.cell? ⟨w.heap.size, 1, none⟩ = some (.int .i64 0) := by rw [cell_of_row _ _ _ _ _ _ hbk]; rfl
          have y1 : wr.frozen? ⟨w.heap.size, 1, none⟩ = false := frozen_of_row _ _ _ _ _ hbk
          clear hset
          go_wp2_with fail
          refine (HN1.out _).mono ?_
          rintro e w2 ⟨rfl, rfl⟩
          go_wp2
          go_roundw
          case rel => exact ⟨2, rfl, by omega, HS2.out, HB2, ⟨fun _ => HO.out.1 (by decide), fun _ => ⟨by first | rfl | trivial, p58⟩, fun h => by omega⟩⟩
          case measure => simp [intOf]
      · cases r2 with
        | false =>
          have HZ : Hid (clockN s = (0, false)) := by
            unfold Hid
            rw [HC.out, if_neg (by rw [HO.out.1 (by decide)]; decide), if_neg (by rw [(HO.out.2.1 (by decide)).1]; simp [(HO.out.2.1 (by decide)).2]), if_neg (by decide), if_pos (.inl rfl)]
          go_wp2_with fail
          refine (HN2.out _).mono ?_
          rintro e w2 ⟨rfl, rfl⟩
          go_wp2
          go_ret2
          exact ⟨by rw [HZ.out] <;> rfl, HB.out⟩
        | true =>
          have hi : 5 < s.size := by omega
          have hx : ((s[5]'hi).toNat : Int) = c5 := by rw [← hc5, List.getD_eq_getElem?_getD, nums_at s 5 hi]; rfl
          by_cases p58 : c5 = 58
          rotate_left
          · have f58 : (c5 != 58) = true := by simpa using p58
            have HZ : Hid (clockN s = (0, false)) := by
              unfold Hid
              rw [HC.out, if_neg (by rw [HO.out.1 (by decide)]; decide), if_neg (by rw [(HO.out.2.1 (by decide)).1]; simp [(HO.out.2.1 (by decide)).2]), if_neg (by decide), if_pos (.inr p58)]
            go_wp2_with fail
            refine (HN2.out _).mono ?_
            rintro e w2 ⟨rfl, rfl⟩
            go_wp2
            go_ret2
            exact ⟨by rw [HZ.out] <;> rfl, HB.out⟩
          have f58 : (c5 != 58) = false := by simpa using p58
          have hset := heap_setCell_same wr w.heap.size 2 _ 67 (.int .i64 a2) hbk
          have HB2 : Hid (Below w.heap.size w (wr.setCell ⟨w.heap.size, 2, none⟩ (.int .i64 a2))) := set_bel HB.out (Nat.le_refl _)
          have HS2 : Hid ((wr.setCell ⟨w.heap.size, 2, none⟩ (.int .i64 a2)).heap[w.heap.size]? = some (.cells (arrA a0 a1 a2 3) 67 (0, 0))) := hset
          have y0 : wr.cell? ⟨w.heap.size, 2, none⟩ = some (.int .i64 0) := by rw [cell_of_row _ _ _ _ _ _ hbk]; rfl
          have y1 : wr.frozen? ⟨w.heap.size, 2, none⟩ = false := frozen_of_row _ _ _ _ _ hbk
          clear hset
          go_wp2_with fail
          refine (HN2.out _).mono ?_
          rintro e w2 ⟨rfl, rfl⟩
          go_wp2
          go_roundw
          case rel => exact ⟨3, rfl, by omega, HS2.out, HB2, ⟨fun _ => HO.out.1 (by decide), fun _ => HO.out.2.1 (by decide), fun _ => ⟨by first | rfl | trivial, p58⟩⟩⟩
          case measure => simp [intOf]
end Go.Proofs.YtomcjkghneingabDoor
