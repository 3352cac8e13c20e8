/-
  SheetEscapes: whatever two texts come, the program and the document escape and unescape them alike.
-/
import Derived.Test.YtjcjhcpaojhcfaaRows
import Derived.Test.YtjcjhcpaojhcfaaAl
import Derived.Test.YtjcjhcpaojhcfaaRe
import Derived.WalkKit
import Derived.ProofKit
import Derived.OpenShut
import Derived.ShutString
import Derived.ChangeOld
import Derived.Below
import Derived.HandedShaped
namespace Go.Proofs.Ytjcjhcpaojhcfaa.sheetEscapes
open Go.ChangeShapes Go.WideShapes Go.ChangeAt Go.RowKit
open Go.ChangeMaps (open_string shut_string)
set_option linter.unusedVariables false

set_option maxHeartbeats 8000000 in
set_option maxRecDepth 100000 in
theorem walk (s t : ByteArray) (w : World) (hs : s.size ≤ maxLen) (ht : t.size ≤ maxLen) : Calls Try.prog 4 #[.string s, .string t] w fun e w' => e = .returned (.bool true) ∧ Below w.heap.size w w' := by
  by_cases h1 : s.size ≤ 3000
  case neg =>
    have d1 : decide ((3000 : Int) < (s.size : Int)) = true := by simp; omega
    go_enter Try.func4, Try.ntmps4
    go_wp2_with (go_at_call 7; refine (alive_any _).mono ?_; rintro e w1 ⟨rfl, hb1⟩)
    go_ret
    exact ⟨rfl, hb1⟩
  have d1 : decide ((3000 : Int) < (s.size : Int)) = false := by simp; omega
  by_cases h2 : t.size ≤ 3000
  case neg =>
    have d2 : decide ((3000 : Int) < (t.size : Int)) = true := by simp; omega
    go_enter Try.func4, Try.ntmps4
    go_wp2_with (go_at_call 7; refine (alive_any _).mono ?_; rintro e w1 ⟨rfl, hb1⟩)
    go_ret
    exact ⟨rfl, hb1⟩
  have d2 : decide ((3000 : Int) < (t.size : Int)) = false := by simp; omega
  obtain ⟨x, hx⟩ : ∃ x, strOfNums (escZ (nums s)) = x := ⟨_, rfl⟩
  have hesc := fun V => escape_any s V (by omega)
  have hresc := fun V => rescape_any s V (by omega)
  simp only [hx] at hesc hresc
  have key : ∃ (y : ByteArray) (c : Int), (∀ V, Calls Try.prog 12 #[.string t] V fun e w' => e = .returned (.tuple #[.string y, .int .i64 c]) ∧ Below V.heap.size V w') ∧ (∀ V, Calls Try.prog 13 #[.string t] V fun e w' => e = .returned (.tuple #[.string y, .int .i64 c]) ∧ Below V.heap.size V w') := by
    cases hu : unescZ (nums t) with
    | none =>
      refine ⟨⟨#[]⟩, 90, fun V => ?_, fun V => ?_⟩
      · refine (unescape_any t V (by omega)).mono ?_
        rintro e w' ⟨h, hb⟩
        rcases h with ⟨y, hy, _⟩ | ⟨_, rfl⟩
        · rw [hu] at hy; cases hy
        · exact ⟨rfl, hb⟩
      · refine (runescape_any t V (by omega)).mono ?_
        rintro e w' ⟨h, hb⟩
        rcases h with ⟨y, hy, _⟩ | ⟨_, rfl⟩
        · rw [hu] at hy; cases hy
        · exact ⟨rfl, hb⟩
    | some z =>
      refine ⟨strOfNums z, 0, fun V => ?_, fun V => ?_⟩
      · refine (unescape_any t V (by omega)).mono ?_
        rintro e w' ⟨h, hb⟩
        rcases h with ⟨y, hy, _, rfl⟩ | ⟨hy, _⟩
        · rw [hu] at hy; simp at hy; subst hy; exact ⟨rfl, hb⟩
        · rw [hu] at hy; cases hy
      · refine (runescape_any t V (by omega)).mono ?_
        rintro e w' ⟨h, hb⟩
        rcases h with ⟨y, hy, _, rfl⟩ | ⟨hy, _⟩
        · rw [hu] at hy; simp at hy; subst hy; exact ⟨rfl, hb⟩
        · rw [hu] at hy; cases hy
  obtain ⟨y, c, hu1, hu2⟩ := key
  have e1 : (x.toList == x.toList) = true := by simp
  have e2 : (y.toList == y.toList) = true := by simp
  clear hx
  go_enter Try.func4, Try.ntmps4
  go_wp2_with (first
    | (go_at_call 12; refine (hu1 _).mono ?_; rintro e w1 ⟨rfl, hb1⟩)
    | (go_at_call 13; refine (hu2 _).mono ?_; rintro e w2 ⟨rfl, hb2⟩)
    | (go_at_call 7; refine (alive_any _).mono ?_; rintro e w3 ⟨rfl, hb3⟩)
    | (go_at_call 14; refine (hesc _).mono ?_; rintro e w4 ⟨rfl, hb4⟩)
    | (go_at_call 15; refine (hresc _).mono ?_; rintro e w5 ⟨rfl, hb5⟩))
  go_ret
  have b2 := hb1.trans (hb2.mono hb1.size)
  have b3 := b2.trans (hb3.mono b2.size)
  have b4 := b3.trans (hb4.mono b3.size)
  exact ⟨by first | rfl | simp, b4.trans (hb5.mono b4.size)⟩

set_option maxRecDepth 100000 in
theorem lifted (os : Os) (started : os.Started) (H : Type) (enc : TypeId × Value → H) :
    ReturnsInHanded {} Try.checked os 4 .any (Rows.sheetEscapesSpec.pre6 enc Try.prog Try.f4 Rows.sheetEscapesRow.domain false) (Rows.sheetEscapesSpec.post enc Try.prog Try.f4 false true false false) := by
  refine returnsInHanded_of_change_shaped (C := Try.checked) own started (by kernel_rfl) Try.func4
    (ChangeSpec.witness6 (enc := enc) (C := Try.checked) false ⟨#[], #[.string ⟨#[]⟩, .string ⟨#[]⟩], []⟩ 8 (by kernel_rfl) (by kernel_rfl) (by kernel_rfl) (by kernel_rfl)) ?_
  intro W base args ds gs before hval0 hW hcnd _ hsh _
  have hval : ∀ (j : Nat) t v, Try.f4.params[j]? = some t → args[j]? = some v → Value.okWide Try.prog W .any base t v := hval0
  have hW' := hW
  obtain ⟨p, q, hA0, hV, rfl, hfz, hnd⟩ := hW
  have hA : DataW.TrodAll enc Try.prog W 0 (fun _ => true) true Try.f4.params.toList args.toList ds p := hA0
  rw [Try.params4] at hA hval
  obtain ⟨v0, vs0, d0, ds0, p0, q0, hargs, rfl, rfl, h0, r0⟩ := trodAll_cons hA
  obtain ⟨v1, vs1, d1, ds1, p1, q1, rfl, rfl, rfl, h1, r1⟩ := trodAll_cons r0
  obtain ⟨rfl, rfl, rfl⟩ := trodAll_nil r1
  obtain rfl : args = #[v0, v1] := by cases args; simp_all
  obtain ⟨rfl, rfl⟩ := trodVars_none hV
  have k0 := h0
  have lt0 : ∀ x ∈ p0, x.block < W.heap.size := by obtain ⟨m, hm⟩ := k0; exact DataW.trod_lt m _ _ _ hm
  obtain ⟨s0, rfl, _, _, hs0⟩ := open_string Try.underlying9 (hval 0 9 v0 rfl rfl) h0
  have k1 := h1
  have lt1 : ∀ x ∈ p1, x.block < W.heap.size := by obtain ⟨m, hm⟩ := k1; exact DataW.trod_lt m _ _ _ hm
  obtain ⟨s1, rfl, _, _, hs1⟩ := open_string Try.underlying9 (hval 1 9 v1 rfl rfl) h1
  clear hA0 hval0
  refine (walk s0 s1 W hs0 hs1).mono fun e W' ⟨he, bel⟩ => ?_
  subst he
  exact ⟨_, rfl, _, _, _, [], _, [], hW', trodAll_mk1 (shut_bool Try.underlying4 _), (trodAll_cons_mk (Below.trod laidOut (by kernel_rfl) (of_decide_eq_true (by kernel_rfl)) k0 bel lt0) (trodAll_cons_mk (Below.trod laidOut (by kernel_rfl) (of_decide_eq_true (by kernel_rfl)) k1 bel lt1) trodAll_mk0)), rfl, bel.frame _, fun h => by cases h⟩

theorem over : Rows.SheetEscapesSaid :=
  OpenClaim.holds_of_wide 4 Try.f4 rfl rfl rfl rfl rfl rfl rfl ⟨rfl, rfl, rfl, rfl, rfl⟩ rfl rfl rfl rfl rfl (by kernel_rfl) Try.func4 (by kernel_rfl)
    (of_decide_eq_true (by kernel_rfl)) (by unfold Func.isWrapper; first | (rw [if_pos (by decide +kernel)]; kernel_rfl) | (rw [if_neg (by decide +kernel)]; exact ⟨rfl, rfl⟩))
    (fun os started H enc _ => lifted os started H enc)
end Go.Proofs.Ytjcjhcpaojhcfaa.sheetEscapes
namespace Go.Proofs.Ytjcjhcpaojhcfaa
theorem sheetEscapes_holds : Rows.SheetEscapesSaid := sheetEscapes.over
#print axioms sheetEscapes_holds
end Go.Proofs.Ytjcjhcpaojhcfaa
