/-
  What must come of fixed calls.
-/
import Derived.Test.YtomcjkghneingabDoorTp
import Derived.Test.YtomcjkghneingabDoorTs
namespace Go.Proofs.YtomcjkghneingabDoor
open Go.RowKit Go.Shelf
set_option linter.unusedVariables false
set_option linter.unusedSimpArgs false

theorem civ_first {y m d : Int} (h : Wn.Civ 0 y m d) : y = 1970 ∧ m = 1 ∧ d = 1 :=
  Wn.days_inj y m d 1970 1 1 h.hd (by decide +kernel) (h.hn.trans (by decide +kernel))
theorem al_print : strOfNums (dateL 0 3600 1970 1 1) = ⟨#[84, 104, 117, 44, 32, 48, 49, 32, 74, 97, 110, 32, 49, 57, 55, 48, 32, 48, 49, 58, 48, 48, 58, 48, 48, 32, 43, 48, 49, 48, 48]⟩ := (str_ext (s := ⟨#[84, 104, 117, 44, 32, 48, 49, 32, 74, 97, 110, 32, 49, 57, 55, 48, 32, 48, 49, 58, 48, 48, 58, 48, 48, 32, 43, 48, 49, 48, 48]⟩) (by decide +kernel)).symm
theorem al_list : listZ [116, 104, 117, 32, 44, 32, 49, 32, 74, 65, 78, 32, 55, 48, 32, 48, 49, 58, 48, 48, 32, 40, 120, 41, 32, 43, 48, 49, 48, 48] = [[116, 104, 117], [44], [49], [74, 65, 78], [55, 48], [48, 49, 58, 48, 48], [43, 48, 49, 48, 48]] := by decide +kernel
theorem al_parse : parseZ [116, 104, 117, 32, 44, 32, 49, 32, 74, 65, 78, 32, 55, 48, 32, 48, 49, 58, 48, 48, 32, 40, 120, 41, 32, 43, 48, 49, 48, 48] = some (0, 3600) := by decide +kernel
theorem al_may : mayB 33 1 [120] = true := by decide +kernel
set_option maxRecDepth 100000 in
theorem al_id : strOfNums (idL 33 1 [120]) = ⟨#[60, 49, 49, 46, 49, 64, 120, 62]⟩ := (str_ext (s := ⟨#[60, 49, 49, 46, 49, 64, 120, 62]⟩) (by decide +kernel)).symm
set_option maxHeartbeats 4000000 in
set_option maxRecDepth 100000 in
theorem alive_any (w : World) (hg : Gz w) : Calls Tryd.prog 4 #[] w fun e w' => e = .returned (.bool true) ∧ Below w.heap.size w w' := by
  have HG : Hid (Gz w) := hg
  have h1 : Calls Tryd.prog 6 #[.int .i64 0, .int .i64 3600] w fun e w' => e = .returned (.tuple #[.string ⟨#[84, 104, 117, 44, 32, 48, 49, 32, 74, 97, 110, 32, 49, 57, 55, 48, 32, 48, 49, 58, 48, 48, 58, 48, 48, 32, 43, 48, 49, 48, 48]⟩, .int .i64 0]) ∧ Below w.heap.size w w' := (print_yes 0 3600 w (by decide +kernel) hg.toGl).mono fun e w' h => by
    obtain ⟨⟨y, m, d, hc, rfl⟩, hb⟩ := h
    obtain ⟨rfl, rfl, rfl⟩ := civ_first hc
    exact ⟨by rw [al_print], hb⟩
  have h2 : ∀ V, Gz V → Calls Tryd.prog 7 #[.string ⟨#[116, 104, 117, 32, 44, 32, 49, 32, 74, 65, 78, 32, 55, 48, 32, 48, 49, 58, 48, 48, 32, 40, 120, 41, 32, 43, 48, 49, 48, 48]⟩] V fun e w' => e = .returned (.tuple #[.int .i64 0, .int .i64 3600, .int .i64 0]) ∧ Below V.heap.size V w' := fun V hV => by
    have e1 : nums (⟨#[116, 104, 117, 32, 44, 32, 49, 32, 74, 65, 78, 32, 55, 48, 32, 48, 49, 58, 48, 48, 32, 40, 120, 41, 32, 43, 48, 49, 48, 48]⟩ : ByteArray) = [116, 104, 117, 32, 44, 32, 49, 32, 74, 65, 78, 32, 55, 48, 32, 48, 49, 58, 48, 48, 32, 40, 120, 41, 32, 43, 48, 49, 48, 48] := by decide +kernel
    have := parse_any ⟨#[116, 104, 117, 32, 44, 32, 49, 32, 74, 65, 78, 32, 55, 48, 32, 48, 49, 58, 48, 48, 32, 40, 120, 41, 32, 43, 48, 49, 48, 48]⟩ V (by decide) (by rw [e1, al_list]; exact fun _ => rfl) hV
    rw [e1, al_parse] at this
    exact this
  have h3 : ∀ V, Calls Tryd.prog 8 #[.int .i64 33, .int .i64 1, .string ⟨#[120]⟩] V fun e w' => e = .returned (.tuple #[.string ⟨#[60, 49, 49, 46, 49, 64, 120, 62]⟩, .int .i64 0]) ∧ Below V.heap.size V w' := fun V => by
    have e1 : nums (⟨#[120]⟩ : ByteArray) = [120] := by decide +kernel
    have := id_any 33 1 ⟨#[120]⟩ V (by decide) (by decide) (by decide) (by decide) (by decide)
    rw [e1, al_may, al_id] at this
    exact this
  have h4 : ∀ V, Calls Tryd.prog 9 #[.string ⟨#[60, 97, 64, 98, 62, 32, 99]⟩] V fun e w' => e = .returned (.tuple #[.slice none 0 0, .int .i64 3]) ∧ Below V.heap.size V w' := fun V => by
    have e1 : nums (⟨#[60, 97, 64, 98, 62, 32, 99]⟩ : ByteArray) = [60, 97, 64, 98, 62, 32, 99] := by decide +kernel
    refine (ids_any ⟨#[60, 97, 64, 98, 62, 32, 99]⟩ V (by decide)).mono fun e w' h => ?_
    rw [e1, ids_bad] at h
    exact ⟨h.1 rfl, h.2.2.2⟩
  have H2 : Hid _ := h2
  have H3 : Hid _ := h3
  have H4 : Hid _ := h4
  clear h2 h3 h4 hg
  go_enter Tryd.func4, Tryd.ntmps4
  go_wp2_with fail
  refine h1.mono ?_
  clear h1
  rintro e w1 ⟨rfl, hb1⟩
  have HB1 : Hid (Below w.heap.size w w1) := hb1
  clear hb1
  go_wp2_with fail
  refine (H2.out w1 (HG.out.below HB1.out)).mono ?_
  rintro e w2 ⟨rfl, hb2⟩
  have HB2 : Hid (Below w.heap.size w w2) := HB1.out.trans (hb2.mono HB1.out.size)
  clear hb2
  go_wp2_with fail
  refine (H3.out w2).mono ?_
  rintro e w3 ⟨rfl, hb3⟩
  have HB3 : Hid (Below w.heap.size w w3) := HB2.out.trans (hb3.mono HB2.out.size)
  clear hb3
  go_wp2_with fail
  refine (H4.out w3).mono ?_
  rintro e w4 ⟨rfl, hb4⟩
  have HB4 : Hid (Below w.heap.size w w4) := HB3.out.trans (hb4.mono HB3.out.size)
  clear hb4
  go_wp2
  go_ret
  exact ⟨rfl, HB4.out⟩
end Go.Proofs.YtomcjkghneingabDoor
