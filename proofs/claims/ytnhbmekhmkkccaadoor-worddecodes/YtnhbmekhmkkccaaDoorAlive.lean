/-
  What must come of fixed calls.
-/
import Derived.Test.YtnhbmekhmkkccaaDoorEn
import Derived.Test.YtnhbmekhmkkccaaDoorDd
namespace Go.Proofs.YtnhbmekhmkkccaaDoor
open Go.RowKit
set_option linter.unusedVariables false

theorem alive_enc : encA (nums ⟨#[195, 169]⟩) = ([61, 63, 117, 116, 102, 45, 56, 63, 66, 63, 119, 54, 107, 61, 63, 61], 0) := by decide +kernel
theorem alive_dec : decodeL (nums ⟨#[61, 63, 85, 84, 70, 45, 56, 63, 113, 63, 97, 95, 98, 63, 61, 32, 120]⟩) = [97, 32, 98, 32, 120] := by decide +kernel
theorem alive_pl : plainZ (nums ⟨#[32]⟩) = false := by decide +kernel
set_option maxHeartbeats 2000000 in
set_option maxRecDepth 100000 in
theorem alive_any (m : Int) (w : World) (hm : w.cell? ⟨0, 0, none⟩ = some (.int .i64 m)) : Calls Tryd.prog 9 #[] w fun e w' => e = .returned (.bool true) ∧ Below w.heap.size w w' := by
  have henc := encode_any ⟨#[195, 169]⟩ m w hm
  rw [alive_enc] at henc
  have hdec := fun (V : World) (hb : Below w.heap.size w V) => decode_any ⟨#[61, 63, 85, 84, 70, 45, 56, 63, 113, 63, 97, 95, 98, 63, 61, 32, 120]⟩ m V (by decide) ((hb.cell (World.block_lt_of_cell? w _ hm)).trans hm)
  simp only [alive_dec] at hdec
  have hpl := fun (V : World) (hb : Below w.heap.size w V) => plain_any ⟨#[32]⟩ m V (by decide) ((hb.cell (World.block_lt_of_cell? w _ hm)).trans hm)
  simp only [alive_pl] at hpl
  have e1 : strOfNums [61, 63, 117, 116, 102, 45, 56, 63, 66, 63, 119, 54, 107, 61, 63, 61] = ⟨#[61, 63, 117, 116, 102, 45, 56, 63, 66, 63, 119, 54, 107, 61, 63, 61]⟩ := by decide +kernel
  have e2 : strOfNums [97, 32, 98, 32, 120] = ⟨#[97, 32, 98, 32, 120]⟩ := by decide +kernel
  simp only [e1] at henc
  simp only [e2] at hdec
  clear e1 e2
  go_enter Tryd.func9, Tryd.ntmps9
  go_wp2_with fail
  refine henc.mono ?_
  clear henc
  rintro e w1 ⟨rfl, hb1⟩
  have HB1 : Hid (Below w.heap.size w w1) := hb1
  have hdec1 := hdec w1 hb1
  clear hdec hb1
  go_wp2_with fail
  refine hdec1.mono ?_
  clear hdec1
  rintro e w2 ⟨rfl, hb2⟩
  have HB2 : Hid (Below w.heap.size w w2) := HB1.out.trans (hb2.mono HB1.out.size)
  have hpl2 := hpl w2 HB2.out
  clear hpl hb2 HB1
  go_wp2_with (go_at_call 12; refine hpl2.mono ?_; rintro e w' ⟨rfl, rfl⟩)
  go_ret
  exact ⟨rfl, HB2.out⟩
end Go.Proofs.YtnhbmekhmkkccaaDoor
