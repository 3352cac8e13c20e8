/-
  Ids: the contract of isID.
-/
import Derived.Test.YtomcjkghneingabDoorCutp
namespace Go.Proofs.YtomcjkghneingabDoor
open Go.RowKit
set_option linter.unusedVariables false
set_option linter.unusedSimpArgs false

/-- An id: an address between < and >. -/
def IdZ (l : List Int) : Prop := ∃ a d, l = 60 :: ((a ++ 64 :: d) ++ [62]) ∧ rightZ [] a d = true
set_option maxHeartbeats 8000000 in
set_option maxRecDepth 100000 in
theorem isID_any (s : ByteArray) (w : World) (hs : s.size ≤ 1000000000) : Calls Tryd.prog 23 #[.string s] w fun e w' => (∃ b, e = .returned (.bool b) ∧ (b = true ↔ IdZ (nums s))) ∧ Below w.heap.size w w' := by
  have h1 := cutPrefix_any s 60 w hs
  have HS : Hid (∀ (x : ByteArray) (V : World), x.size ≤ 1000000000 → Calls Tryd.prog 26 #[.string x, .string ⟨#[62]⟩] V fun e w' => ∃ y b, e = .returned (.tuple #[.string y, .bool b]) ∧ SfxA 62 x y b ∧ V = w' ∧ y.size ≤ x.size) := fun x V hx => cutSuffix_any x 62 V hx
  have HPL : Hid (∀ (x : ByteArray) (V : World), x.size ≤ 1000000000 → Calls Tryd.prog 43 #[.string x] V fun e w' => ∃ n l d c, e = .returned (.tuple #[addrV n l d, .int .i64 c]) ∧ Below V.heap.size V w' ∧ PAns x n l d c) := fun x V hx => plain_any x V hx
  go_enter Tryd.func23, Tryd.ntmps23
  go_wp2_with fail
  refine h1.mono ?_
  clear h1
  rintro e w1 ⟨x, b, rfl, hpx, hw1, hxs⟩
  rw [← hw1]
  clear hw1 w1
  have hpx : (b = true → nums s = 60 :: nums x) ∧ (b = false → x = s ∧ ∀ r, nums s ≠ 60 :: r) := hpx
  have h2 := HS.out x w (by omega)
  go_wp2_with fail
  refine h2.mono ?_
  clear h2
  rintro e w1 ⟨y, c, rfl, hpy, hw1, hys⟩
  rw [← hw1]
  clear hw1 w1
  have hpy : (c = true → nums x = nums y ++ [62]) ∧ (c = false → y = x ∧ ∀ r, nums x ≠ r ++ [62]) := hpy
  cases b with
  | false =>
    have HN : Hid (¬ IdZ (nums s)) := fun ⟨a, d, h, _⟩ => (hpx.2 rfl).2 _ h
    clear hpx hpy
    go_wp2
    go_ret
    exact ⟨⟨false, rfl, by simp; exact HN.out⟩, Below.refl _ _⟩
  | true =>
    have hsx := hpx.1 rfl
    cases c with
    | false =>
      have HN : Hid (¬ IdZ (nums s)) := fun ⟨a, d, h, _⟩ => by
        rw [hsx] at h
        have h' : nums x = (a ++ 64 :: d) ++ [62] := by simpa using h
        exact (hpy.2 rfl).2 _ h'
      clear hpx hpy hsx
      go_wp2
      go_ret
      exact ⟨⟨false, rfl, by simp; exact HN.out⟩, Below.refl _ _⟩
    | true =>
      have hxy := hpy.1 rfl
      have HE : Hid (nums s = 60 :: (nums y ++ [62])) := by unfold Hid; rw [hsx, hxy]
      clear hpx hpy hsx hxy
      have h3 := HPL.out y w (by omega)
      go_wp2_with fail
      refine h3.mono ?_
      clear h3
      rintro e w2 ⟨n, l, d, c, rfl, hb2, hans⟩
      unfold addrV
      have hb3 := fun (o : Obj) => hb2.trans ((keep w2 o).mono hb2.size)
      rcases hans with ⟨rfl, _, hr, he, _⟩ | ⟨rfl, _, _, _, hno⟩
      · have HY : Hid (IdZ (nums s)) := ⟨nums l, nums d, by rw [HE.out, he], hr⟩
        clear hr he hb2
        go_wp2
        go_ret
        exact ⟨⟨true, rfl, by simp; exact HY.out⟩, hb3 _⟩
      · have HN : Hid (¬ IdZ (nums s)) := fun ⟨a, d, h, hr⟩ => by
          rw [HE.out] at h
          have h' : nums y = a ++ 64 :: d := List.append_cancel_right (List.cons.inj h).2
          rw [hno a d h'] at hr
          cases hr
        clear hno hb2
        go_wp2
        go_ret
        exact ⟨⟨false, rfl, by simp; exact HN.out⟩, hb3 _⟩
end Go.Proofs.YtomcjkghneingabDoor
