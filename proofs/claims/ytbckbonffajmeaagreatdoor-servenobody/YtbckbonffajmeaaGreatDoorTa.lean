/-
  Nobody's sessions: the contract of the law.
-/
import Derived.Test.YtbckbonffajmeaaGreatDoorSz
namespace Go.Proofs.YtbckbonffajmeaaGreatDoor
open Go.RowKit Go.Shelf Go.Maps
set_option linter.unusedVariables false
set_option linter.unusedSimpArgs false

set_option maxHeartbeats 16000000 in
set_option maxRecDepth 100000 in
theorem nobody_any (mx : Int) (w : World) (h : Gl mx w) (a : Option Addr) (n c : Nat) (code : Int) : Calls Tryz.prog 4 #[.slice a n c, .int .i64 code] w fun e w' => e = .returned (.bool true) ∧ Below w.heap.size w w' := by
  have HG : Hid (Gl mx w) := h
  have hal := fun (V : World) (hb : Below w.heap.size w V) => alive_any mx V (HG.out.below hb)
  clear h
  by_cases p1 : 1000 < n
  · have hd : decide ((n : Int) > 1000) = true := by simp; omega
    go_enter Tryz.func4, Tryz.ntmps4
    go_wp2_with fail
    refine (hal w (Below.refl _ _)).mono ?_
    rintro e w1 ⟨rfl, hb1⟩
    go_wp2
    go_ret
    exact ⟨rfl, hb1⟩
  have hd : decide ((n : Int) > 1000) = false := by simp; omega
  have zn : ∀ V, Zr V (.pointer none) := fun V => .inl rfl
  go_enter Tryz.func4, Tryz.ntmps4
  go_wp2_with fail
  refine (put_none _ _ (zn _) a n c).mono ?_
  rintro e w1 ⟨rfl, rfl⟩
  go_wp2_with fail
  have hc0 : (w.alloc (.cells #[.string ⟨#[]⟩, .map none, .int .i64 0, .int .i64 0, .bool false, .bool false, .string ⟨#[]⟩, .slice none 0 0, .slice none 0 0, .bool false, .bool false, .pointer none] 46)).cell? ⟨w.heap.size, 0, none⟩ = some (.string ⟨#[]⟩) := by
    have hh := World.alloc_heap_new w (.cells #[.string ⟨#[]⟩, .map none, .int .i64 0, .int .i64 0, .bool false, .bool false, .string ⟨#[]⟩, .slice none 0 0, .slice none 0 0, .bool false, .bool false, .pointer none] 46)
    rw [cell_of_row _ _ _ _ _ _ hh]; rfl
  have hb0 := keep w (.cells #[.string ⟨#[]⟩, .map none, .int .i64 0, .int .i64 0, .bool false, .bool false, .string ⟨#[]⟩, .slice none 0 0, .slice none 0 0, .bool false, .bool false, .pointer none] 46)
  generalize w.alloc (.cells #[.string ⟨#[]⟩, .map none, .int .i64 0, .int .i64 0, .bool false, .bool false, .string ⟨#[]⟩, .slice none 0 0, .slice none 0 0, .bool false, .bool false, .pointer none] 46) = W at hc0 hb0 ⊢
  have hz : Zr W (.pointer (some ⟨w.heap.size, 0, none⟩)) := .inr ⟨_, rfl, hc0⟩
  have HH : Hid (Zr W (.pointer (some ⟨w.heap.size, 0, none⟩)) ∧ Below w.heap.size w W) := ⟨hz, hb0⟩
  clear hc0 hb0 hz
  refine (put_none _ _ HH.out.1 a n c).mono ?_
  rintro e w2 ⟨rfl, rfl⟩
  go_wp2_with fail
  refine (answer_none _ _ (zn _) code).mono ?_
  rintro e w3 ⟨rfl, rfl⟩
  go_wp2_with fail
  refine (answer_none _ _ HH.out.1 code).mono ?_
  rintro e w4 ⟨rfl, rfl⟩
  go_wp2_with fail
  refine (waits_none _ _ (zn _)).mono ?_
  rintro e w5 ⟨rfl, hb5⟩
  unfold noMail
  have HH5 : Hid (Zr w5 (.pointer (some ⟨w.heap.size, 0, none⟩)) ∧ Below w.heap.size w w5) := ⟨HH.out.1.below hb5, HH.out.2.trans (hb5.mono HH.out.2.size)⟩
  clear hb5
  go_wp2_with fail
  have hk5 := keep w5 (.cells #[.string ⟨#[]⟩, .slice none 0 0, .slice none 0 0] 48)
  refine (waits_none _ _ (HH5.out.1.below hk5)).mono ?_
  rintro e w6 ⟨rfl, hb6⟩
  unfold noMail
  have HH6 : Hid (Zr w6 (.pointer (some ⟨w.heap.size, 0, none⟩)) ∧ Below w.heap.size w w6) := ⟨(HH5.out.1.below hk5).below hb6, (HH5.out.2.trans (hk5.mono HH5.out.2.size)).trans (hb6.mono (Nat.le_trans HH5.out.2.size hk5.size))⟩
  clear hb6 hk5
  have hk6 := keep w6 (.cells #[.string ⟨#[]⟩, .slice none 0 0, .slice none 0 0] 48)
  have HH7 : Hid (Zr (w6.alloc (.cells #[.string ⟨#[]⟩, .slice none 0 0, .slice none 0 0] 48)) (.pointer (some ⟨w.heap.size, 0, none⟩)) ∧ Below w.heap.size w (w6.alloc (.cells #[.string ⟨#[]⟩, .slice none 0 0, .slice none 0 0] 48))) := ⟨HH6.out.1.below hk6, HH6.out.2.trans (hk6.mono HH6.out.2.size)⟩
  clear hk6
  have e0 : (⟨#[]⟩ : ByteArray).toList = [] := by rw [ByteArray.toList_eq]
  go_wp2_with fail
  refine (hal _ HH7.out.2).mono ?_
  rintro e w8 ⟨rfl, hb8⟩
  have HH8 : Hid (Zr w8 (.pointer (some ⟨w.heap.size, 0, none⟩)) ∧ Below w.heap.size w w8) := ⟨HH7.out.1.below hb8, HH7.out.2.trans (hb8.mono HH7.out.2.size)⟩
  clear hb8
  go_wp2_with fail
  refine (over_none _ _ (zn _)).mono ?_
  rintro e w9 ⟨rfl, rfl⟩
  go_wp2_with fail
  refine (over_none _ _ HH8.out.1).mono ?_
  rintro e wa ⟨rfl, rfl⟩
  go_wp2_with fail
  refine (hello_none _ _ (zn _)).mono ?_
  rintro e wb ⟨rfl, rfl⟩
  go_wp2_with fail
  refine (hello_none _ _ HH8.out.1).mono ?_
  rintro e wc ⟨rfl, rfl⟩
  go_wp2
  go_ret
  exact ⟨rfl, HH8.out.2⟩
end Go.Proofs.YtbckbonffajmeaaGreatDoor
