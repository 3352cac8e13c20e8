/-
  The contract of Read.
-/
import Derived.Test.YtfhgkkdbkbbpkaaDoorKind
namespace Go.Proofs.YtfhgkkdbkbbpkaaDoor
open Go.RowKit
set_option linter.unusedVariables false

theorem fin_cells {W : World} {R : Nat} {a b c : Value} (h : W.heap[R]? = some (.cells #[a, b, c] 24 (0, 0))) (ty sub : ByteArray) (vf : Value) :
    (finW W R ty sub vf).cell? ⟨R, 0, none⟩ = some (.string ty) ∧ (finW W R ty sub vf).cell? ⟨R, 1, none⟩ = some (.string sub) ∧ (finW W R ty sub vf).cell? ⟨R, 2, none⟩ = some vf := by
  have e1 := heap_setCell_same _ _ 0 _ 24 (.string ty) h
  have e2 := heap_setCell_same _ _ 1 _ 24 (.string sub) e1
  have e3 := heap_setCell_same _ _ 2 _ 24 vf e2
  exact ⟨(cell_of_row _ _ 0 _ _ _ e3).trans rfl, (cell_of_row _ _ 1 _ _ _ e3).trans rfl, (cell_of_row _ _ 2 _ _ _ e3).trans rfl⟩
theorem fin_below {w W : World} {R n : Nat} (h : Below n w W) (hR : n ≤ R) (ty sub : ByteArray) (vf : Value) : Below n w (finW W R ty sub vf) :=
  ((h.setCell (p := ⟨R, 0, none⟩) hR _).setCell (p := ⟨R, 1, none⟩) hR _).setCell (p := ⟨R, 2, none⟩) hR _
/-- A row of strings is kept where a block of kinds is written. -/
theorem fin_row {W : World} {R : Nat} {a b c : Value} (h : W.heap[R]? = some (.cells #[a, b, c] 24 (0, 0))) (ty sub : ByteArray) (vf : Value) {ad : Option Addr} {fs : List (ByteArray × ByteArray)} (hf : FRow W ad fs) (hne : ∀ x, ad = some x → fs ≠ [] → x.block ≠ R) : FRow (finW W R ty sub vf) ad fs := by
  rcases hf with hf | ⟨b, off, rfl, hf⟩
  · exact .inl hf
  · by_cases h0 : fs = []
    · exact .inl h0
    · have hb : b ≠ R := hne _ rfl h0
      refine .inr ⟨b, off, rfl, fun i f hi => ?_⟩
      have := hf i f hi
      unfold finW
      constructor
      · rw [World.cell?_setCell_other _ _ _ _ (by simp), World.cell?_setCell_other _ _ _ _ (by simp), World.cell?_setCell_other _ _ _ _ (by simp)]; exact this.1
      · rw [World.cell?_setCell_other _ _ _ _ (by simp), World.cell?_setCell_other _ _ _ _ (by simp), World.cell?_setCell_other _ _ _ _ (by simp)]; exact this.2
/-- What Read answers. -/
def RAns (c : Int) (x : Option (List Int × List Int × List (List Int × List Int))) (ty sub : ByteArray) (fs : List (ByteArray × ByteArray)) : Prop :=
  (x = none ∧ c = 70 ∧ ty = ⟨#[]⟩ ∧ sub = ⟨#[]⟩ ∧ fs = []) ∨ (x = some (nums ty, nums sub, numsP fs) ∧ c = 0)
set_option maxHeartbeats 4000000 in
set_option maxRecDepth 100000 in
theorem read_any (s : ByteArray) (w : World) (hs : s.size ≤ 1000000) :
    Calls Tryd.prog 20 #[.string s] w fun e w' => ∃ ty sub a cap fs c, e = .returned (.tuple #[kindV ty sub a fs.length cap, .int .i64 c]) ∧ FRow w' a fs ∧ (Small ty ∧ Small sub ∧ SmallF fs) ∧ Below w.heap.size w w' ∧ RAns c (readR (nums s)) ty sub fs := by
  go_enter Tryd.func20, Tryd.ntmps20
  go_wp2_with fail
  have hX : Rs ((w.alloc (.cells #[.string ⟨#[]⟩, .string ⟨#[]⟩, .slice none 0 0] 24)).alloc (.cells #[.string s] 69)) (w.heap.size + 1) s := by
    have := heap_alloc_last (w.alloc (.cells #[.string ⟨#[]⟩, .string ⟨#[]⟩, .slice none 0 0] 24)) (.cells #[.string s] 69)
    rw [show (w.alloc (.cells #[.string ⟨#[]⟩, .string ⟨#[]⟩, .slice none 0 0] 24)).heap.size = w.heap.size + 1 from by simp] at this
    exact this
  have hR0 : ((w.alloc (.cells #[.string ⟨#[]⟩, .string ⟨#[]⟩, .slice none 0 0] 24)).alloc (.cells #[.string s] 69)).heap[w.heap.size]? = some (.cells #[.string ⟨#[]⟩, .string ⟨#[]⟩, .slice none 0 0] 24 (0, 0)) := by
    rw [Below.heap_alloc _ _ _ (by simp)]; exact heap_alloc_last w _
  refine (kind_any (w.heap.size + 1) s _ hX hs).mono ?_
  rintro e w1 ⟨ty, sub, a, cap, fs, b, rfl, hk, hfr, hbs, ⟨hz1, hz2, hz3⟩, ha⟩
  have HB1 : Hid (Below w.heap.size w w1) := ((keep w _).alloc (by simp) _).trans (hk.1.mono (by omega))
  have HR1 : Hid (w1.heap[w.heap.size]? = some (.cells #[.string ⟨#[]⟩, .string ⟨#[]⟩, .slice none 0 0] 24 (0, 0))) := (hk.1.block _ (by omega)).trans hR0
  have hlt1 : w.heap.size < w1.heap.size := (Array.getElem?_eq_some_iff.1 HR1.out).1
  have HFR : Hid (FRow w1 a fs) := hfr
  have HBS : Hid (∀ x, a = some x → fs ≠ [] → x.block ≠ w.heap.size) := fun x hx _ => by have := hbs x hx; simp at this; omega
  have HA : Hid (KAns b (kindR (nums s)) ty sub fs) := ha
  unfold Small at hz1 hz2
  have HZ3 : Hid (SmallF fs) := hz3
  clear hX hR0 hk hfr hbs ha hz3
  unfold kindV
  have r0 : w1.cell? ⟨w.heap.size, 0, none⟩ = some (.string ⟨#[]⟩) := by rw [cell_of_row _ _ _ _ _ _ HR1.out]; rfl
  have r1 : w1.cell? ⟨w.heap.size, 1, none⟩ = some (.string ⟨#[]⟩) := by rw [cell_of_row _ _ _ _ _ _ HR1.out]; rfl
  have r2 : w1.cell? ⟨w.heap.size, 2, none⟩ = some (.slice none 0 0) := by rw [cell_of_row _ _ _ _ _ _ HR1.out]; rfl
  have f0 : w1.frozen? ⟨w.heap.size, 0, none⟩ = false := frozen_of_row _ _ _ _ _ HR1.out
  have f1 : w1.frozen? ⟨w.heap.size, 1, none⟩ = false := frozen_of_row _ _ _ _ _ HR1.out
  have f2 : w1.frozen? ⟨w.heap.size, 2, none⟩ = false := frozen_of_row _ _ _ _ _ HR1.out
  cases b with
  | false =>
    have HN : Hid (readR (nums s) = none) := by
      unfold Hid readR
      cases hx : kindR (nums s) with
      | none => rfl
      | some z =>
        have := HA.out.2 rfl z hx
        simp only []
        rw [if_neg (by unfold rightZ; rw [decide_eq_false (by omega)]; simp)]
    go_wp2
    (try simp only [Exit.inBlock, Exit.then])
    obtain ⟨c0, c1, c2⟩ := fin_cells HR1.out ⟨#[]⟩ ⟨#[]⟩ (.slice none 0 0)
    have hfb := fin_below HB1.out (Nat.le_refl _) ⟨#[]⟩ ⟨#[]⟩ (.slice none 0 0)
    have hkp := keep (finW w1 w.heap.size ⟨#[]⟩ ⟨#[]⟩ (.slice none 0 0)) (.cells #[.string ty, .string sub, .slice a fs.length cap] 24)
    have d0 := (hkp.cell (World.block_lt_of_cell? _ _ c0)).trans c0
    have d1 := (hkp.cell (World.block_lt_of_cell? _ _ c1)).trans c1
    have d2 := (hkp.cell (World.block_lt_of_cell? _ _ c2)).trans c2
    unfold finW at d0 d1 d2
    refine bodyPost_ret (v := .tuple #[kindV ⟨#[]⟩ ⟨#[]⟩ none 0 0, .int .i64 70]) (by simp [results, Tryd.results20, go_sem, d0, d1, d2, kindV]) rfl ⟨⟨#[]⟩, ⟨#[]⟩, none, 0, [], 70, rfl, .inl rfl, ⟨by unfold Small; decide, by unfold Small; decide, by intro f hf; cases hf⟩, hfb.trans (hkp.mono hfb.size), .inl ⟨HN.out, rfl, rfl, rfl, rfl⟩⟩
  | true =>
    have hkr := HA.out.1 rfl
    have HN : Hid (readR (nums s) = if rightZ (nums ty) (nums sub) (numsP fs) = true then some (nums ty, nums sub, numsP fs) else none) := by
      unfold Hid readR; rw [hkr]
    clear hkr r0 r1 r2 f0 f1 f2
    go_wp2_with fail
    refine (right_any ty sub a fs.length cap fs _ rfl (HFR.out.below (keep w1 _)) hz1 hz2 HZ3.out).mono ?_
    rintro e w2 ⟨rfl, hb2⟩
    have HR2 : Hid (w2.heap[w.heap.size]? = some (.cells #[.string ⟨#[]⟩, .string ⟨#[]⟩, .slice none 0 0] 24 (0, 0))) := by
      unfold Hid; rw [hb2.block _ (by simp; omega), Below.heap_alloc _ _ _ hlt1]; exact HR1.out
    have HB2 : Hid (Below w.heap.size w w2) := (HB1.out.alloc (by omega) _).trans (hb2.mono (by simp; omega))
    have HF2 : Hid (FRow w2 a fs) := (HFR.out.below (keep w1 _)).below hb2
    have x0 : w2.cell? ⟨w1.heap.size, 0, none⟩ = some (.string ty) := by rw [hb2.cell (p := ⟨w1.heap.size, 0, none⟩) (by simp)]; rw [World.cell?_alloc_mark]; rfl
    have x1 : w2.cell? ⟨w1.heap.size, 1, none⟩ = some (.string sub) := by rw [hb2.cell (p := ⟨w1.heap.size, 1, none⟩) (by simp)]; rw [World.cell?_alloc_mark]; rfl
    have x2 : w2.cell? ⟨w1.heap.size, 2, none⟩ = some (.slice a fs.length cap) := by rw [hb2.cell (p := ⟨w1.heap.size, 2, none⟩) (by simp)]; rw [World.cell?_alloc_mark]; rfl
    have r0 : w2.cell? ⟨w.heap.size, 0, none⟩ = some (.string ⟨#[]⟩) := by rw [cell_of_row _ _ _ _ _ _ HR2.out]; rfl
    have r1 : w2.cell? ⟨w.heap.size, 1, none⟩ = some (.string ⟨#[]⟩) := by rw [cell_of_row _ _ _ _ _ _ HR2.out]; rfl
    have r2 : w2.cell? ⟨w.heap.size, 2, none⟩ = some (.slice none 0 0) := by rw [cell_of_row _ _ _ _ _ _ HR2.out]; rfl
    have f0 : w2.frozen? ⟨w.heap.size, 0, none⟩ = false := frozen_of_row _ _ _ _ _ HR2.out
    have f1 : w2.frozen? ⟨w.heap.size, 1, none⟩ = false := frozen_of_row _ _ _ _ _ HR2.out
    have f2 : w2.frozen? ⟨w.heap.size, 2, none⟩ = false := frozen_of_row _ _ _ _ _ HR2.out
    clear hb2
    cases hrz : rightZ (nums ty) (nums sub) (numsP fs) with
    | false =>
      go_wp2
      (try simp only [Exit.inBlock, Exit.then])
      obtain ⟨c0, c1, c2⟩ := fin_cells HR2.out ⟨#[]⟩ ⟨#[]⟩ (.slice none 0 0)
      have hfb := fin_below HB2.out (Nat.le_refl _) ⟨#[]⟩ ⟨#[]⟩ (.slice none 0 0)
      unfold finW at c0 c1 c2
      refine bodyPost_ret (v := .tuple #[kindV ⟨#[]⟩ ⟨#[]⟩ none 0 0, .int .i64 70]) (by simp [results, Tryd.results20, go_sem, c0, c1, c2, kindV]) rfl ⟨⟨#[]⟩, ⟨#[]⟩, none, 0, [], 70, rfl, .inl rfl, ⟨by unfold Small; decide, by unfold Small; decide, by intro f hf; cases hf⟩, hfb, .inl ⟨by rw [HN.out, hrz]; rfl, rfl, rfl, rfl, rfl⟩⟩
    | true =>
      go_wp2
      (try simp only [Exit.inBlock, Exit.then])
      obtain ⟨c0, c1, c2⟩ := fin_cells HR2.out ty sub (.slice a fs.length cap)
      have hfb := fin_below HB2.out (Nat.le_refl _) ty sub (.slice a fs.length cap)
      have hfr2 := fin_row HR2.out ty sub (.slice a fs.length cap) HF2.out HBS.out
      unfold finW at c0 c1 c2
      refine bodyPost_ret (v := .tuple #[kindV ty sub a fs.length cap, .int .i64 0]) (by simp [results, Tryd.results20, go_sem, c0, c1, c2, kindV]) rfl ⟨ty, sub, a, cap, fs, 0, rfl, hfr2, ⟨hz1, hz2, HZ3.out⟩, hfb, .inr ⟨by rw [HN.out, hrz]; rfl, rfl⟩⟩
end Go.Proofs.YtfhgkkdbkbbpkaaDoor
