/-
  The contract of Encode where the text is none.
-/
import Derived.Test.YtlhhbmolkiojfaaDoorCd
namespace Go.Proofs.YtlhhbmolkiojfaaDoor
open Go.RowKit
set_option linter.unusedVariables false

set_option maxRecDepth 100000 in
set_option maxHeartbeats 4000000 in
theorem encode_bad (set : ByteArray) (a : Option Addr) (len cap : Nat) (ps r : List Int) (w : World) (hset : set.size ≤ 1000000) (hs0 : setB (lowS set) ≠ 0)
    (hlen : (Ut.flat ps ++ r).length = len) (hps : Ut.AllPt ps) (hr : Ut.decZ r = none) (hne : r ≠ []) (hb : Byt r) (hcap : len ≤ cap) (hm : cap ≤ maxLen) (hsmall : len ≤ 4000) (hrow : Row w a (Ut.flat ps ++ r)) :
    Calls Tryd.prog 14 #[.string set, .slice a len cap] w fun e w' => e = .returned (.tuple #[.slice none 0 0, .agg #[.int .i64 ((Ut.flat ps).length : Nat), .int .i64 20]]) ∧ Below w.heap.size w w' := by
  have KF := fun v : World => setFor_yes set a len cap v _ hset rfl hs0 (by omega)
  have KP : ∀ W : World, Below w.heap.size w W → Calls Tryd.prog 18 #[.slice a len cap] W fun e w' => e = .returned (.tuple #[.slice none 0 0, .agg #[.int .i64 ((Ut.flat ps).length : Nat), .int .i64 20]]) ∧ Below W.heap.size W w' := fun W hbb =>
    Ut.points_no a len cap ps r W hlen hps hr hne hb hcap hm (by omega) (row_below hrow hbb)
  obtain ⟨q, hq⟩ : ∃ q, setB (lowS set) = q := ⟨_, rfl⟩
  rw [hq] at KF
  obtain ⟨z, hz⟩ : ∃ z : Int, (((Ut.flat ps).length : Nat) : Int) = z := ⟨_, rfl⟩
  rw [hz] at KP ⊢
  clear hq hs0 hz hlen hps hr hne hb hrow
  go_enter Tryd.func14, Tryd.ntmps14
  go_wp2
  go_step3
  go_wp2_with fail
  refine (KF _).mono ?_
  rintro e w1 ⟨rfl, hb1⟩
  have hs1 := hb1.size
  simp at hs1
  have HB1 : Below (w.heap.size + 1) (w.alloc (.cells #[.int .i64 0, .int .i64 0] 26)) (w1.alloc (.cells #[.int .i64 0, .int .i64 0] 26)) := (by have := hb1; simp at this; exact this.alloc (by omega) _)
  have HB0 : Below w.heap.size w (w1.alloc (.cells #[.int .i64 0, .int .i64 0] 26)) := ((Below.refl _ w).alloc (Nat.le_refl _) _).trans (HB1.mono (Nat.le_succ _))
  go_wp2_with fail
  refine (KP _ HB0).mono ?_
  rintro e w2 ⟨rfl, hb2⟩
  have hs2 := hb2.size
  simp at hs2
  have HB2 : Below (w.heap.size + 1) (w.alloc (.cells #[.int .i64 0, .int .i64 0] 26)) w2 := HB1.trans (hb2.mono (by simp; omega))
  clear hb1 hb2 HB1 HB0 KF KP
  have c0 : w2.cell? ⟨w.heap.size, 0, none⟩ = some (.int .i64 0) := by rw [HB2.cell (by simp)]; simp
  have c1 : w2.cell? ⟨w.heap.size, 1, none⟩ = some (.int .i64 0) := by rw [HB2.cell (by simp)]; simp
  have f0 : w2.frozen? ⟨w.heap.size, 0, none⟩ = false := by rw [HB2.frozen (by simp)]; simp
  have f1 : w2.frozen? ⟨w.heap.size, 1, none⟩ = false := by rw [HB2.frozen (by simp)]; simp
  have hne : w.heap.size ≠ w2.heap.size := by omega
  have HO : Hid (Below w.heap.size w w2) := ((Below.refl _ w).alloc (Nat.le_refl _) _).trans (HB2.mono (Nat.le_succ _))
  clear HB2
  obtain ⟨W, hW⟩ : ∃ W, w2.alloc (.cells #[.int .i64 z, .int .i64 20] 26) = W := ⟨_, rfl⟩
  have hk := keep w2 (.cells #[.int .i64 z, .int .i64 20] 26)
  rw [hW] at hk
  have d0 : W.cell? ⟨w.heap.size, 0, none⟩ = some (.int .i64 0) := by rw [hk.cell (by simp; omega)]; exact c0
  have d1 : W.cell? ⟨w.heap.size, 1, none⟩ = some (.int .i64 0) := by rw [hk.cell (by simp; omega)]; exact c1
  have e0 : W.cell? ⟨w2.heap.size, 0, none⟩ = some (.int .i64 z) := by rw [← hW]; simp
  have e1 : W.cell? ⟨w2.heap.size, 1, none⟩ = some (.int .i64 20) := by rw [← hW]; simp
  have g0 : W.frozen? ⟨w.heap.size, 0, none⟩ = false := by rw [hk.frozen (by simp; omega)]; exact f0
  have g1 : W.frozen? ⟨w.heap.size, 1, none⟩ = false := by rw [hk.frozen (by simp; omega)]; exact f1
  have HO2 : Hid (Below w.heap.size w W) := HO.out.trans (hk.mono (by omega))
  clear hk c0 c1 f0 f1
  have HWW : Hid (w2.alloc (.cells #[.int .i64 z, .int .i64 20] 26) = W) := hW
  clear hW
  go_wp2_with fail
  rw [HWW.out]
  go_region_with (fail)
  all_goals (
    go_wp2
    rw [Exit.noGoto_ret]
    refine bodyPost_ret (v := .tuple #[.slice none 0 0, .agg #[.int .i64 z, .int .i64 20]]) (by simp [results, Tryd.results14, go_sem, d0, d1]) rfl ⟨rfl, ?_⟩
    exact below_drew ((HO2.out.setCell (by simp) _).setCell (by simp) _))
end Go.Proofs.YtlhhbmolkiojfaaDoor
