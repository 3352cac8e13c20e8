/-
  The contract of the fixed calls: they answer true.
-/
import Derived.Test.YteoojlpaciaobaaDoorDec
import Derived.Lib.SlBytesConst
import Derived.Lib.ConvBytes
namespace Go.Proofs.YteoojlpaciaobaaDoor
open Go.RowKit
set_option linter.unusedVariables false

theorem enc_32 : encQ true 0 [32] = [61, 50, 48] := by decide
theorem dec_a : decQ 0 0 (nums ⟨#[97, 61]⟩) = .error (1, 3) := by rfl
theorem dec_b : decQ 0 0 (nums ⟨#[61, 51, 100]⟩) = .ok [61] := by rfl
theorem row_mark (w : World) : Row (w.alloc (.cells #[.int .u8 32] 5 (1, 2))) (some ⟨w.heap.size, 0, none⟩) [32] :=
  .inr ⟨w.heap.size, 0, rfl, fun i hi => by
    obtain rfl : i = 0 := by simpa using hi
    rw [World.cell?_alloc_mark]; rfl⟩
set_option maxHeartbeats 4000000 in
theorem alive_any (w : World) :
    Calls Tryd.prog 9 #[] w fun e w' => e = .returned (.bool true) ∧ Below w.heap.size w w' := by
  have hD : ((strOfNums (digQ 171)).toList == ([65, 66] : List UInt8)) = true := by rw [toList_str]; decide
  have kcc := fun (W : World) (C : Array Value) (n c : Nat) => Lib.run_convert_bytes_const (P := Tryd.prog) W 22 5 C n c Tryd.underlying22 Tryd.underlying5
  go_enter Tryd.func9, Tryd.ntmps9
  go_wp2_with fail
  refine (encode_ok (some ⟨w.heap.size, 0, none⟩) 1 1 true [32] _ rfl (by intro x hx; simp at hx; omega) (by decide) (by decide) (by decide) (row_mark w)).mono ?_
  rintro e w1 ⟨rfl, hb1⟩
  rw [enc_32]
  have HB1 : Hid (Below w.heap.size w w1) := (keep w _).trans (hb1.mono (by simp))
  clear hb1
  go_wp2_with fail
  refine (decode_any ⟨#[97, 61]⟩ w1 (by decide)).mono ?_
  rintro e w2 ⟨v2, fa2, fc2, rfl, hb2, hd2⟩
  rw [dec_a] at hd2
  obtain ⟨rfl, rfl, rfl⟩ := hd2
  have HB2 : Hid (Below w.heap.size w w2) := HB1.out.trans (hb2.mono HB1.out.size)
  clear hb2
  go_wp2_with fail
  refine (decode_any ⟨#[61, 51, 100]⟩ _ (by decide)).mono ?_
  rintro e w3 ⟨v3, fa3, fc3, rfl, hb3, hd3⟩
  rw [dec_b] at hd3
  obtain ⟨a3, cap3, rfl, hc3, hm3, hr3, rfl, rfl⟩ := hd3
  have HB3 : Hid (Below w.heap.size w w3) := (HB2.out.alloc HB2.out.size _).trans (hb3.mono (HB2.out.alloc HB2.out.size _).size)
  have hs3 : w2.heap.size + 1 ≤ w3.heap.size := by have := hb3.size; simpa using this
  have c0 : w3.cell? ⟨w2.heap.size, 0, none⟩ = some (.int .i64 1) := by rw [hb3.cell (by simp)]; simp
  have c1 : w3.cell? ⟨w2.heap.size, 1, none⟩ = some (.int .i64 3) := by rw [hb3.cell (by simp)]; simp
  have d0 : (w3.alloc (.cells #[.int .i64 0, .int .i64 0] 30)).cell? ⟨w2.heap.size, 0, none⟩ = some (.int .i64 1) := by rw [(keep w3 _).cell (by simp; omega)]; exact c0
  have d1 : (w3.alloc (.cells #[.int .i64 0, .int .i64 0] 30)).cell? ⟨w2.heap.size, 1, none⟩ = some (.int .i64 3) := by rw [(keep w3 _).cell (by simp; omega)]; exact c1
  have kc : (convert 22 9 (.slice a3 1 cap3)).run Tryd.prog (w3.alloc (.cells #[.int .i64 0, .int .i64 0] 30)) = .ok (.string (strOfNums [61])) (w3.alloc (.cells #[.int .i64 0, .int .i64 0] 30)) := conv_row _ _ rfl (row_below hr3 (keep w3 _))
  have q1 : ((strOfNums [61]).toList == ([61] : List UInt8)) = true := by rw [toList_str]; decide
  clear c0 c1 hb3 hr3
  have e1 : ((strOfNums [61, 50, 48]).toList == ([61, 50, 48] : List UInt8)) = true := by rw [toList_str]; decide
  go_wp2_with (go_at_call 12; refine (digits_any 171 _ (by decide) (by decide)).mono ?_; rintro e w4 ⟨rfl, hb4⟩)
  go_ret
  exact ⟨rfl, (HB3.out.alloc HB3.out.size _).trans (hb4.mono (HB3.out.alloc HB3.out.size _).size)⟩
end Go.Proofs.YteoojlpaciaobaaDoor
