/-
  What must come of fixed calls.
-/
import Derived.Test.YtjcjhcpaojhcfaaDoorEs
namespace Go.Proofs.YtjcjhcpaojhcfaaDoor
open Go.RowKit
set_option linter.unusedVariables false

theorem alive_one0 : (oneR (nums ⟨#[97, 116, 116, 101, 110, 100, 101, 101, 59, 67, 78, 61, 34, 97, 44, 32, 98, 34, 58, 109, 97, 105, 108, 116, 111, 58, 120]⟩)).map lnT = some ([65, 84, 84, 69, 78, 68, 69, 69], [([67, 78], [97, 44, 32, 98])], [109, 97, 105, 108, 116, 111, 58, 120]) := by decide +kernel
theorem alive_one : oneR (nums ⟨#[97, 116, 116, 101, 110, 100, 101, 101, 59, 67, 78, 61, 34, 97, 44, 32, 98, 34, 58, 109, 97, 105, 108, 116, 111, 58, 120]⟩) = some ⟨[65, 84, 84, 69, 78, 68, 69, 69], [([67, 78], [97, 44, 32, 98])], [109, 97, 105, 108, 116, 111, 58, 120]⟩ := by
  have h := alive_one0
  rw [Option.map_eq_some_iff] at h
  obtain ⟨⟨a, b, c⟩, h1, h2⟩ := h
  unfold lnT at h2
  simp only [Prod.mk.injEq] at h2
  obtain ⟨rfl, rfl, rfl⟩ := h2
  exact h1
theorem alive_two : oneR (nums ⟨#[97]⟩) = none := by
  have h : (oneR (nums ⟨#[97]⟩)).isNone = true := by decide +kernel
  simpa using h
theorem alive_esc : escZ (nums ⟨#[97, 59, 98]⟩) = [97, 92, 59, 98] := by decide +kernel
set_option maxHeartbeats 4000000 in
set_option maxRecDepth 100000 in
theorem alive_any (w : World) : Calls Tryd.prog 6 #[] w fun e w' => e = .returned (.bool true) ∧ Below w.heap.size w w' := by
  have h1 := one_any ⟨#[97, 116, 116, 101, 110, 100, 101, 101, 59, 67, 78, 61, 34, 97, 44, 32, 98, 34, 58, 109, 97, 105, 108, 116, 111, 58, 120]⟩ w (by decide)
  have h2 := fun V => one_any ⟨#[97]⟩ V (by decide)
  have h3 := fun V => escape_any ⟨#[97, 59, 98]⟩ V (by decide)
  unfold OPost at h1 h2
  rw [alive_one] at h1
  simp only [alive_two] at h2
  have e1 : strOfNums [97, 92, 59, 98] = ⟨#[97, 92, 59, 98]⟩ := by decide +kernel
  simp only [alive_esc, e1] at h3
  clear e1
  go_enter Tryd.func6, Tryd.ntmps6
  go_wp2_with fail
  refine h1.mono ?_
  clear h1
  rintro e w1 ⟨nm, vl, a, cap, fs, code, rfl, ha, ⟨hfr, _, _, _, _⟩, hb1⟩
  rcases ha with ⟨ha, rfl⟩ | ⟨ha, _⟩
  case inr => cases ha
  simp only [Option.some.injEq, Ln.mk.injEq] at ha
  obtain ⟨hn, hf, hv⟩ := ha
  obtain rfl : nm = ⟨#[65, 84, 84, 69, 78, 68, 69, 69]⟩ := nums_inj hn.symm
  obtain rfl : vl = ⟨#[109, 97, 105, 108, 116, 111, 58, 120]⟩ := nums_inj hv.symm
  cases fs with
  | nil => cases hf
  | cons f fs =>
  cases fs with
  | cons f2 fs => simp [numsP] at hf
  | nil =>
  obtain ⟨pn, pv⟩ := f
  simp only [numsP, List.map_cons, List.map_nil, List.cons.injEq, Prod.mk.injEq, and_true] at hf
  obtain ⟨hp, hpv⟩ := hf
  obtain rfl : pn = ⟨#[67, 78]⟩ := nums_inj hp.symm
  obtain rfl : pv = ⟨#[97, 44, 32, 98]⟩ := nums_inj hpv.symm
  rcases hfr with h | ⟨b, off, rfl, hc⟩
  · cases h
  obtain ⟨c0, c1⟩ := hc 0 _ rfl
  simp only [Nat.zero_mul, Nat.add_zero] at c0 c1
  clear hn hv hp hpv hc
  have HB1 : Hid (Below w.heap.size w w1) := hb1
  have hlb : b < w1.heap.size := World.block_lt_of_cell? w1 _ c0
  unfold lineV
  clear hb1
  go_wp2_with fail
  refine (h2 _).mono ?_
  clear h2
  rintro e w2 ⟨nm, vl, a, cap2, fs, code, rfl, ha, _, hb2⟩
  rcases ha with ⟨ha, _⟩ | ⟨_, rfl, rfl, rfl, rfl⟩
  · cases ha
  have x0 : w2.cell? ⟨w1.heap.size, 0, none⟩ = some (.string ⟨#[65, 84, 84, 69, 78, 68, 69, 69]⟩) := by rw [hb2.cell (p := ⟨w1.heap.size, 0, none⟩) (by simp)]; rw [World.cell?_alloc_mark]; rfl
  have x1 : w2.cell? ⟨w1.heap.size, 1, none⟩ = some (.slice (some ⟨b, off, none⟩) 1 cap) := by rw [hb2.cell (p := ⟨w1.heap.size, 1, none⟩) (by simp)]; rw [World.cell?_alloc_mark]; rfl
  have x2 : w2.cell? ⟨w1.heap.size, 2, none⟩ = some (.string ⟨#[109, 97, 105, 108, 116, 111, 58, 120]⟩) := by rw [hb2.cell (p := ⟨w1.heap.size, 2, none⟩) (by simp)]; rw [World.cell?_alloc_mark]; rfl
  have hk1 := keep w1 (.cells #[.string ⟨#[65, 84, 84, 69, 78, 68, 69, 69]⟩, .slice (some ⟨b, off, none⟩) 1 cap, .string ⟨#[109, 97, 105, 108, 116, 111, 58, 120]⟩] 32)
  have y0 : w2.cell? ⟨b, off, none⟩ = some (.string ⟨#[67, 78]⟩) := by rw [hb2.cell (p := ⟨b, off, none⟩) (by simp; omega), hk1.cell (p := ⟨b, off, none⟩) hlb]; exact c0
  have y1 : w2.cell? ⟨b, off + 1, none⟩ = some (.string ⟨#[97, 44, 32, 98]⟩) := by rw [hb2.cell (p := ⟨b, off + 1, none⟩) (by simp; omega), hk1.cell (p := ⟨b, off + 1, none⟩) hlb]; exact c1
  have HB2 : Hid (Below w.heap.size w w2) := (HB1.out.alloc HB1.out.size _).trans (hb2.mono (by have := HB1.out.size; simp; omega))
  have hl2 : w1.heap.size < w2.heap.size := World.block_lt_of_cell? w2 _ x0
  have hlb2 : b < w2.heap.size := by omega
  clear hb2 c0 c1 hk1 HB1
  unfold lineV
  go_wp2_with (go_at_call 14; refine (h3 _).mono ?_; rintro e w3 ⟨rfl, hb3⟩)
  go_ret
  exact ⟨rfl, (HB2.out.alloc HB2.out.size _).trans (hb3.mono (by have := HB2.out.size; simp; omega))⟩
end Go.Proofs.YtjcjhcpaojhcfaaDoor
