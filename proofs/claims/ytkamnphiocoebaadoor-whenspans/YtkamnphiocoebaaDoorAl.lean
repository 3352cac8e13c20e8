/-
  What must come of fixed calls.
-/
import Derived.Test.YtkamnphiocoebaaDoorPa
import Derived.Test.YtkamnphiocoebaaDoorLe
namespace Go.Proofs.YtkamnphiocoebaaDoor
open Go.RowKit
set_option linter.unusedVariables false

theorem civ_zero : Civ 0 1970 1 1 := ⟨by decide, by decide⟩
theorem civ_one {n y m d y' m' d' : Int} (h : Civ n y m d) (h' : Civ n y' m' d') : y = y' ∧ m = m' ∧ d = d' := days_inj y m d y' m' d' h.hd h'.hd (h.hn.trans h'.hn.symm)
theorem al1 : strOfNums (timeL 1970 1 1 0) = ⟨#[49, 57, 55, 48, 48, 49, 48, 49, 84, 48, 48, 48, 48, 48, 48, 90]⟩ := by rfl
theorem al2 : pV (nums ⟨#[50, 48, 50, 52, 48, 50, 50, 57, 84, 48, 48, 48, 48, 48, 48, 90]⟩) = 1709164800 := by decide +kernel
theorem al3 : pE (nums ⟨#[50, 48, 50, 52, 48, 50, 50, 57, 84, 48, 48, 48, 48, 48, 48, 90]⟩) = 0 := by decide +kernel
theorem al4 : spanT (-93600) = nums ⟨#[45, 80, 49, 68, 84, 50, 72]⟩ := by decide +kernel
theorem al5 : spanE (-93600) = 0 := by decide +kernel
theorem al6 : daysE 2023 2 29 = 110 := by decide +kernel
set_option maxHeartbeats 1000000 in
theorem alive_any (w : World) (hA : Ah w) (hP : Pl w) (hT : Tb w) :
    Calls Tryd.prog 13 #[] w fun e w' => e = .returned (.bool true) ∧ Below w.heap.size w w' := by
  have HA : Hid (Ah w) := hA
  have HP : Hid (Pl w) := hP
  have HT : Hid (Tb w) := hT
  clear hA hP hT
  have C1 : Hid (Calls Tryd.prog 16 #[.int .i64 0] w fun e w' => e = .returned (.tuple #[.string ⟨#[49, 57, 55, 48, 48, 49, 48, 49, 84, 48, 48, 48, 48, 48, 48, 90]⟩, .int .i64 0]) ∧ Below w.heap.size w w') := by
    refine (print_yes 0 w (by decide) HA.out HP.out).mono ?_
    rintro e w' ⟨⟨y, m, d, hc, rfl⟩, hb⟩
    obtain ⟨rfl, rfl, rfl⟩ := civ_one hc civ_zero
    exact ⟨by rw [al1], hb⟩
  have C2 : Hid (∀ v, Ah v → Pl v → Calls Tryd.prog 18 #[.string ⟨#[50, 48, 50, 52, 48, 50, 50, 57, 84, 48, 48, 48, 48, 48, 48, 90]⟩] v fun e w' => e = .returned (.tuple #[.int .i64 1709164800, .int .i64 0]) ∧ Below v.heap.size v w') := by
    intro v a b
    have := parse_yes ⟨#[50, 48, 50, 52, 48, 50, 50, 57, 84, 48, 48, 48, 48, 48, 48, 90]⟩ v rfl a b
    rwa [al2, al3] at this
  have C3 : Hid (∀ v, Tb v → Calls Tryd.prog 20 #[.int .i64 (-93600)] v fun e w' => e = .returned (.tuple #[.string ⟨#[45, 80, 49, 68, 84, 50, 72]⟩, .int .i64 0]) ∧ Below v.heap.size v w') := by
    intro v a
    refine (span_any (-93600) v (by omega) (by omega) a).mono ?_
    rintro e w' ⟨x, rfl, ⟨hx, _⟩, hb⟩
    rw [al4] at hx
    exact ⟨by rw [al5, nums_inj hx], hb⟩
  have C4 : Hid (∀ v, Ah v → Calls Tryd.prog 9 #[.int .i64 2023, .int .i64 2, .int .i64 29] v fun e w' => e = .returned (.tuple #[.int .i64 (daysV 2023 2 29), .int .i64 110]) ∧ v = w') := by
    intro v a
    have := days_any 2023 2 29 v (by omega) (by omega) (by omega) (by omega) (by omega) (by omega) a
    rwa [al6] at this
  generalize daysV 2023 2 29 = dv at C4
  go_enter Tryd.func13, Tryd.ntmps13
  go_wp2_with fail
  refine C1.out.mono ?_
  rintro e w1 ⟨rfl, hb1⟩
  have HB1 : Hid (Below w.heap.size w w1) := hb1
  clear hb1
  go_wp2_with fail
  refine (C2.out w1 (HA.out.below HB1.out) (HP.out.below HB1.out)).mono ?_
  rintro e w2 ⟨rfl, hb2⟩
  have HB2 : Hid (Below w.heap.size w w2) := HB1.out.trans (hb2.mono HB1.out.size)
  clear hb2
  go_wp2_with fail
  refine (C3.out w2 (HT.out.below HB2.out)).mono ?_
  rintro e w3 ⟨rfl, hb3⟩
  have HB3 : Hid (Below w.heap.size w w3) := HB2.out.trans (hb3.mono HB2.out.size)
  clear hb3
  go_wp2_with fail
  refine (C4.out w3 (HA.out.below HB3.out)).mono ?_
  rintro e w4 ⟨rfl, rfl⟩
  go_wp2
  go_ret
  exact ⟨rfl, HB3.out⟩
end Go.Proofs.YtkamnphiocoebaaDoor
