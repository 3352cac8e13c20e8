/-
  For every number and every text the law UtfPoints of points and their bytes returns true, and both read as before: no condition.
-/
import Derived.Test.YtcoicejbbdenlabRows
import Derived.Test.YtcoicejbbdenlabRnext
import Derived.WalkKit
import Derived.ProofKit
import Derived.OpenShut
import Derived.ShutString
import Derived.ChangeOld
import Derived.Below
namespace Go.Proofs.Ytcoicejbbdenlab.utfPoints
open Go.ChangeShapes Go.WideShapes Go.ChangeAt Go.RowKit
open Go.ChangeMaps (open_string shut_string)
set_option linter.unusedVariables false


set_option maxHeartbeats 2000000 in
theorem walk_y_some (p : Int) (a : Option Addr) (len cap : Nat) (l : List Int) (w : World) (hp : ptB p = true) (q : Int) (hl : l.length = len) (hcap : len ≤ cap) (hm : cap ≤ maxLen) (hb : Byt l) (hd : decZ l = some q) (hr : Row w a l) :
    Calls Try.prog 3 #[.int .i32 p, .slice a len cap] w fun e w' => e = .returned (.bool true) ∧ Below w.heap.size w w' := by
  have HP : Hid (ptB p = true) := hp
  clear hp
  have HL : Hid (l.length = len) := hl
  have HY : Hid (Byt l) := hb
  have HD : Hid (decZ l = some q) := hd
  have HR : Hid (Row w a l) := hr
  clear hl hb hd hr
  go_enter Try.func3, Try.ntmps3
  go_wp2_with fail
  refine (put_yes p w HP.out).mono ?_
  rintro e w1 ⟨v1, rfl, hown1, hb1⟩
  obtain ⟨a1, cap1, rfl, hcap1, hm1, hrow1⟩ := own_row hown1
  have HB1 : Hid (Below w.heap.size w w1) := hb1
  have HX1 : Hid (Row w1 a1 (encZ p)) := hrow1
  clear hown1 hb1 hrow1
  go_wp2_with fail
  refine (rput_yes p w1 HP.out).mono ?_
  rintro e w2 ⟨v2, rfl, hown2, hb2⟩
  obtain ⟨a2, cap2, rfl, hcap2, hm2, hrow2⟩ := own_row hown2
  have HB2 : Hid (Below w.heap.size w w2) := HB1.out.trans (hb2.mono HB1.out.size)
  have HX2 : Hid (Row w2 a1 (encZ p)) := row_below HX1.out hb2
  have HY2 : Hid (Row w2 a2 (encZ p)) := hrow2
  clear hown2 hb2 hrow2
  go_wp2_with fail
  refine (next_some a len cap l q w2 HL.out HY.out hcap hm (row_below HR.out HB2.out) HD.out).mono ?_
  rintro e w3 ⟨rfl, rfl⟩
  go_wp2_with fail
  refine (rnext_some a len cap l q w2 HL.out HY.out hcap hm (row_below HR.out HB2.out) HD.out).mono ?_
  rintro e w4 ⟨rfl, hb4⟩
  have HB4 : Hid (Below w.heap.size w w4) := HB2.out.trans (hb4.mono HB2.out.size)
  have HX4 : Hid (Row w4 a1 (encZ p)) := row_below HX2.out hb4
  have HY4 : Hid (Row w4 a2 (encZ p)) := row_below HY2.out hb4
  clear hb4
  go_wp2_with fail
  refine (alive_any _).mono ?_
  rintro e w5 ⟨rfl, hb5⟩
  have HB5 : Hid (Below w.heap.size w w5) := HB4.out.trans (hb5.mono HB4.out.size)
  have k1 : (convert 22 9 (.slice a1 (encZ p).length cap1)).run Try.prog w5 = .ok (.string (strOfNums (encZ p))) w5 := conv_row _ _ rfl (row_below HX4.out hb5)
  have k2 : (convert 22 9 (.slice a2 (encZ p).length cap2)).run Try.prog w5 = .ok (.string (strOfNums (encZ p))) w5 := conv_row _ _ rfl (row_below HY4.out hb5)
  clear hb5
  go_wp2
  go_ret
  exact ⟨rfl, HB5.out⟩

set_option maxHeartbeats 2000000 in
theorem walk_y_none (p : Int) (a : Option Addr) (len cap : Nat) (l : List Int) (w : World) (hp : ptB p = true) (hl : l.length = len) (hcap : len ≤ cap) (hm : cap ≤ maxLen) (hb : Byt l) (hd : decZ l = none) (hne : l ≠ []) (hr : Row w a l) :
    Calls Try.prog 3 #[.int .i32 p, .slice a len cap] w fun e w' => e = .returned (.bool true) ∧ Below w.heap.size w w' := by
  have HP : Hid (ptB p = true) := hp
  clear hp
  have HL : Hid (l.length = len) := hl
  have HY : Hid (Byt l) := hb
  have HD : Hid (decZ l = none) := hd
  have HN : Hid (l ≠ []) := hne
  have HR : Hid (Row w a l) := hr
  clear hl hb hd hr hne
  go_enter Try.func3, Try.ntmps3
  go_wp2_with fail
  refine (put_yes p w HP.out).mono ?_
  rintro e w1 ⟨v1, rfl, hown1, hb1⟩
  obtain ⟨a1, cap1, rfl, hcap1, hm1, hrow1⟩ := own_row hown1
  have HB1 : Hid (Below w.heap.size w w1) := hb1
  have HX1 : Hid (Row w1 a1 (encZ p)) := hrow1
  clear hown1 hb1 hrow1
  go_wp2_with fail
  refine (rput_yes p w1 HP.out).mono ?_
  rintro e w2 ⟨v2, rfl, hown2, hb2⟩
  obtain ⟨a2, cap2, rfl, hcap2, hm2, hrow2⟩ := own_row hown2
  have HB2 : Hid (Below w.heap.size w w2) := HB1.out.trans (hb2.mono HB1.out.size)
  have HX2 : Hid (Row w2 a1 (encZ p)) := row_below HX1.out hb2
  have HY2 : Hid (Row w2 a2 (encZ p)) := hrow2
  clear hown2 hb2 hrow2
  go_wp2_with fail
  refine (next_none a len cap l w2 HL.out HY.out hcap hm (row_below HR.out HB2.out) HN.out HD.out).mono ?_
  rintro e w3 ⟨rfl, rfl⟩
  go_wp2_with fail
  refine (rnext_none a len cap l w2 HL.out HY.out hcap hm (row_below HR.out HB2.out) HN.out HD.out).mono ?_
  rintro e w4 ⟨rfl, hb4⟩
  have HB4 : Hid (Below w.heap.size w w4) := HB2.out.trans (hb4.mono HB2.out.size)
  have HX4 : Hid (Row w4 a1 (encZ p)) := row_below HX2.out hb4
  have HY4 : Hid (Row w4 a2 (encZ p)) := row_below HY2.out hb4
  clear hb4
  go_wp2_with fail
  refine (alive_any _).mono ?_
  rintro e w5 ⟨rfl, hb5⟩
  have HB5 : Hid (Below w.heap.size w w5) := HB4.out.trans (hb5.mono HB4.out.size)
  have k1 : (convert 22 9 (.slice a1 (encZ p).length cap1)).run Try.prog w5 = .ok (.string (strOfNums (encZ p))) w5 := conv_row _ _ rfl (row_below HX4.out hb5)
  have k2 : (convert 22 9 (.slice a2 (encZ p).length cap2)).run Try.prog w5 = .ok (.string (strOfNums (encZ p))) w5 := conv_row _ _ rfl (row_below HY4.out hb5)
  clear hb5
  go_wp2
  go_ret
  exact ⟨rfl, HB5.out⟩

set_option maxHeartbeats 2000000 in
theorem walk_y_nil (p : Int) (a : Option Addr) (cap : Nat) (w : World) (hp : ptB p = true)  :
    Calls Try.prog 3 #[.int .i32 p, .slice a 0 cap] w fun e w' => e = .returned (.bool true) ∧ Below w.heap.size w w' := by
  have HP : Hid (ptB p = true) := hp
  clear hp
  go_enter Try.func3, Try.ntmps3
  go_wp2_with fail
  refine (put_yes p w HP.out).mono ?_
  rintro e w1 ⟨v1, rfl, hown1, hb1⟩
  obtain ⟨a1, cap1, rfl, hcap1, hm1, hrow1⟩ := own_row hown1
  have HB1 : Hid (Below w.heap.size w w1) := hb1
  have HX1 : Hid (Row w1 a1 (encZ p)) := hrow1
  clear hown1 hb1 hrow1
  go_wp2_with fail
  refine (rput_yes p w1 HP.out).mono ?_
  rintro e w2 ⟨v2, rfl, hown2, hb2⟩
  obtain ⟨a2, cap2, rfl, hcap2, hm2, hrow2⟩ := own_row hown2
  have HB2 : Hid (Below w.heap.size w w2) := HB1.out.trans (hb2.mono HB1.out.size)
  have HX2 : Hid (Row w2 a1 (encZ p)) := row_below HX1.out hb2
  have HY2 : Hid (Row w2 a2 (encZ p)) := hrow2
  clear hown2 hb2 hrow2
  go_wp2_with fail
  refine (next_nil a cap w2).mono ?_
  rintro e w3 ⟨rfl, rfl⟩
  go_wp2_with fail
  refine (rnext_nil a cap w2).mono ?_
  rintro e w4 ⟨rfl, hw4⟩
  have hb4 : Below (w2).heap.size w2 w4 := hw4 ▸ Below.refl _ _
  clear hw4
  have HB4 : Hid (Below w.heap.size w w4) := HB2.out.trans (hb4.mono HB2.out.size)
  have HX4 : Hid (Row w4 a1 (encZ p)) := row_below HX2.out hb4
  have HY4 : Hid (Row w4 a2 (encZ p)) := row_below HY2.out hb4
  clear hb4
  go_wp2_with fail
  refine (alive_any _).mono ?_
  rintro e w5 ⟨rfl, hb5⟩
  have HB5 : Hid (Below w.heap.size w w5) := HB4.out.trans (hb5.mono HB4.out.size)
  have k1 : (convert 22 9 (.slice a1 (encZ p).length cap1)).run Try.prog w5 = .ok (.string (strOfNums (encZ p))) w5 := conv_row _ _ rfl (row_below HX4.out hb5)
  have k2 : (convert 22 9 (.slice a2 (encZ p).length cap2)).run Try.prog w5 = .ok (.string (strOfNums (encZ p))) w5 := conv_row _ _ rfl (row_below HY4.out hb5)
  clear hb5
  go_wp2
  go_ret
  exact ⟨rfl, HB5.out⟩

set_option maxHeartbeats 2000000 in
theorem walk_n_some (p : Int) (a : Option Addr) (len cap : Nat) (l : List Int) (w : World) (hp : ptB p = false) (q : Int) (hl : l.length = len) (hcap : len ≤ cap) (hm : cap ≤ maxLen) (hb : Byt l) (hd : decZ l = some q) (hr : Row w a l) :
    Calls Try.prog 3 #[.int .i32 p, .slice a len cap] w fun e w' => e = .returned (.bool true) ∧ Below w.heap.size w w' := by
  have HP : Hid (ptB p = false) := hp
  clear hp
  have HL : Hid (l.length = len) := hl
  have HY : Hid (Byt l) := hb
  have HD : Hid (decZ l = some q) := hd
  have HR : Hid (Row w a l) := hr
  clear hl hb hd hr
  go_enter Try.func3, Try.ntmps3
  go_wp2_with fail
  refine (put_no p w HP.out).mono ?_
  rintro e w1 ⟨rfl, rfl⟩
  go_wp2_with fail
  refine (rput_no p w HP.out).mono ?_
  rintro e w1 ⟨rfl, rfl⟩
  have HB2 : Hid (Below w.heap.size w w) := Below.refl _ _
  go_wp2_with fail
  refine (next_some a len cap l q w HL.out HY.out hcap hm (row_below HR.out HB2.out) HD.out).mono ?_
  rintro e w3 ⟨rfl, rfl⟩
  go_wp2_with fail
  refine (rnext_some a len cap l q w HL.out HY.out hcap hm (row_below HR.out HB2.out) HD.out).mono ?_
  rintro e w4 ⟨rfl, hb4⟩
  have HB4 : Hid (Below w.heap.size w w4) := HB2.out.trans (hb4.mono HB2.out.size)
  clear hb4
  go_wp2_with fail
  refine (alive_any _).mono ?_
  rintro e w5 ⟨rfl, hb5⟩
  have HB5 : Hid (Below w.heap.size w w5) := HB4.out.trans (hb5.mono HB4.out.size)
  have k1 : (convert 22 9 (.slice none 0 0)).run Try.prog w5 = .ok (.string (strOfNums [])) w5 := conv_row _ _ rfl (.inl rfl)
  clear hb5
  go_wp2
  go_ret
  exact ⟨rfl, HB5.out⟩

set_option maxHeartbeats 2000000 in
theorem walk_n_none (p : Int) (a : Option Addr) (len cap : Nat) (l : List Int) (w : World) (hp : ptB p = false) (hl : l.length = len) (hcap : len ≤ cap) (hm : cap ≤ maxLen) (hb : Byt l) (hd : decZ l = none) (hne : l ≠ []) (hr : Row w a l) :
    Calls Try.prog 3 #[.int .i32 p, .slice a len cap] w fun e w' => e = .returned (.bool true) ∧ Below w.heap.size w w' := by
  have HP : Hid (ptB p = false) := hp
  clear hp
  have HL : Hid (l.length = len) := hl
  have HY : Hid (Byt l) := hb
  have HD : Hid (decZ l = none) := hd
  have HN : Hid (l ≠ []) := hne
  have HR : Hid (Row w a l) := hr
  clear hl hb hd hr hne
  go_enter Try.func3, Try.ntmps3
  go_wp2_with fail
  refine (put_no p w HP.out).mono ?_
  rintro e w1 ⟨rfl, rfl⟩
  go_wp2_with fail
  refine (rput_no p w HP.out).mono ?_
  rintro e w1 ⟨rfl, rfl⟩
  have HB2 : Hid (Below w.heap.size w w) := Below.refl _ _
  go_wp2_with fail
  refine (next_none a len cap l w HL.out HY.out hcap hm (row_below HR.out HB2.out) HN.out HD.out).mono ?_
  rintro e w3 ⟨rfl, rfl⟩
  go_wp2_with fail
  refine (rnext_none a len cap l w HL.out HY.out hcap hm (row_below HR.out HB2.out) HN.out HD.out).mono ?_
  rintro e w4 ⟨rfl, hb4⟩
  have HB4 : Hid (Below w.heap.size w w4) := HB2.out.trans (hb4.mono HB2.out.size)
  clear hb4
  go_wp2_with fail
  refine (alive_any _).mono ?_
  rintro e w5 ⟨rfl, hb5⟩
  have HB5 : Hid (Below w.heap.size w w5) := HB4.out.trans (hb5.mono HB4.out.size)
  have k1 : (convert 22 9 (.slice none 0 0)).run Try.prog w5 = .ok (.string (strOfNums [])) w5 := conv_row _ _ rfl (.inl rfl)
  clear hb5
  go_wp2
  go_ret
  exact ⟨rfl, HB5.out⟩

set_option maxHeartbeats 2000000 in
theorem walk_n_nil (p : Int) (a : Option Addr) (cap : Nat) (w : World) (hp : ptB p = false)  :
    Calls Try.prog 3 #[.int .i32 p, .slice a 0 cap] w fun e w' => e = .returned (.bool true) ∧ Below w.heap.size w w' := by
  have HP : Hid (ptB p = false) := hp
  clear hp
  go_enter Try.func3, Try.ntmps3
  go_wp2_with fail
  refine (put_no p w HP.out).mono ?_
  rintro e w1 ⟨rfl, rfl⟩
  go_wp2_with fail
  refine (rput_no p w HP.out).mono ?_
  rintro e w1 ⟨rfl, rfl⟩
  have HB2 : Hid (Below w.heap.size w w) := Below.refl _ _
  go_wp2_with fail
  refine (next_nil a cap w).mono ?_
  rintro e w3 ⟨rfl, rfl⟩
  go_wp2_with fail
  refine (rnext_nil a cap w).mono ?_
  rintro e w4 ⟨rfl, hw4⟩
  have hb4 : Below (w).heap.size w w4 := hw4 ▸ Below.refl _ _
  clear hw4
  have HB4 : Hid (Below w.heap.size w w4) := HB2.out.trans (hb4.mono HB2.out.size)
  clear hb4
  go_wp2_with fail
  refine (alive_any _).mono ?_
  rintro e w5 ⟨rfl, hb5⟩
  have HB5 : Hid (Below w.heap.size w w5) := HB4.out.trans (hb5.mono HB4.out.size)
  have k1 : (convert 22 9 (.slice none 0 0)).run Try.prog w5 = .ok (.string (strOfNums [])) w5 := conv_row _ _ rfl (.inl rfl)
  clear hb5
  go_wp2
  go_ret
  exact ⟨rfl, HB5.out⟩

theorem walk (a0 : Int) (a1 : Option Addr) (len1 cap1 : Nat) (z1 : List Int) (w : World) (w0 : (Lit.int .i32 a0).wf = true) (w1 : IsRow .u8 w a1 len1 cap1 z1) :
    Calls Try.prog 3 #[.int .i32 a0, .slice a1 len1 cap1] w fun e w' => e = .returned (.bool true) ∧ Below w.heap.size w w' := by
  obtain ⟨l, h1, h2, h3, h4, h5⟩ := byte_view w1
  by_cases hn : l = []
  · subst hn
    obtain rfl : len1 = 0 := by simpa using h1.symm
    by_cases hp : ptB a0 = true
    · exact walk_y_nil a0 a1 cap1 w hp
    · exact walk_n_nil a0 a1 cap1 w (by simpa using hp)
  · cases hd : decZ l with
    | none =>
      by_cases hp : ptB a0 = true
      · exact walk_y_none a0 a1 len1 cap1 l w hp h1 h2 h3 h4 hd hn h5
      · exact walk_n_none a0 a1 len1 cap1 l w (by simpa using hp) h1 h2 h3 h4 hd hn h5
    | some q =>
      by_cases hp : ptB a0 = true
      · exact walk_y_some a0 a1 len1 cap1 l w hp q h1 h2 h3 h4 hd h5
      · exact walk_n_some a0 a1 len1 cap1 l w (by simpa using hp) q h1 h2 h3 h4 hd h5

set_option maxRecDepth 100000 in
theorem lifted (os : Os) (started : os.Started) (H : Type) (enc : TypeId × Value → H) :
    ReturnsInHanded {} Try.checked os 3 .any (Rows.utfPointsSpec.pre6 enc Try.prog Try.f3 Rows.utfPointsRow.domain false) (Rows.utfPointsSpec.post enc Try.prog Try.f3 false true false false) := by
  refine returnsInHanded_of_change (C := Try.checked) own started (by kernel_rfl) Try.func3
    (ChangeSpec.witness6 (enc := enc) (C := Try.checked) false ⟨#[], #[.int .i32 0, .slice none 0 0], []⟩ 8 (by kernel_rfl) (by kernel_rfl) (by kernel_rfl) (by kernel_rfl)) ?_
  intro W base args ds gs before hval0 hW hcnd _
  have hval : ∀ (j : Nat) t v, Try.f3.params[j]? = some t → args[j]? = some v → Value.okWide Try.prog W .any base t v := hval0
  have hW' := hW
  obtain ⟨p, q, hA0, hV, rfl, hfz, hnd⟩ := hW
  have hA : DataW.TrodAll enc Try.prog W 0 (fun _ => true) true Try.f3.params.toList args.toList ds p := hA0
  rw [Try.params3] at hA hval
  obtain ⟨v0, vs0, d0, ds0, p0, q0, hargs, rfl, rfl, h0, r0⟩ := trodAll_cons hA
  obtain ⟨v1, vs1, d1, ds1, p1, q1, rfl, rfl, rfl, h1, r1⟩ := trodAll_cons r0
  obtain ⟨rfl, rfl, rfl⟩ := trodAll_nil r1
  obtain rfl : args = #[v0, v1] := by cases args; simp_all
  obtain ⟨rfl, rfl⟩ := trodVars_none hV
  obtain ⟨a0, rfl, rfl, rfl, w0⟩ := open_int Try.underlying21 (hval 0 21 v0 rfl rfl) h0
  obtain ⟨a1, len1, cap1, rfl⟩ := okWide_slice Try.underlying22 (hval 1 22 v1 rfl rfl)
  have k1 := h1
  have lt1 : ∀ x ∈ p1, x.block < W.heap.size := by obtain ⟨m, hm⟩ := k1; exact DataW.trod_lt m _ _ _ hm
  obtain ⟨z1, w1⟩ : ∃ zs, IsRow .u8 W a1 len1 cap1 zs := by
    obtain ⟨fuel, hf⟩ := h1
    rcases open_ints Try.underlying22 Try.underlying5 (by kernel_rfl) hf with ⟨hcs, _⟩ | ⟨x, l, c, zs, hcs, _, hl, hm, hz, _, hcell, hwz⟩
    · simp [Value.cells] at hcs
      obtain ⟨rfl, rfl, rfl⟩ := hcs
      exact ⟨[], .inl ⟨rfl, rfl, rfl, rfl⟩⟩
    · simp [Value.cells] at hcs
      obtain ⟨rfl, rfl, rfl⟩ := hcs
      exact ⟨zs, .inr ⟨_, rfl, hl, hm, by simpa using hz, hcell, hwz⟩⟩
  clear hA0 hval0
  refine (walk a0 a1 len1 cap1 z1 W w0 w1).mono fun e W' ⟨he, bel⟩ => ?_
  subst he
  exact ⟨_, rfl, _, _, _, [], _, [], hW', trodAll_mk1 (shut_bool Try.underlying4 _), (trodAll_cons_mk (shut_int Try.underlying21 w0) (trodAll_cons_mk (Below.trod laidOut (by kernel_rfl) (of_decide_eq_true (by kernel_rfl)) k1 bel lt1) trodAll_mk0)), rfl, bel.frame _, fun h => by cases h⟩

theorem over : Rows.utfPointsRow.holds Try.pinned (OpenSpec.ofChange Rows.utfPointsSpec) :=
  OpenClaim.holds_of_wide 3 Try.f3 rfl rfl rfl rfl rfl rfl rfl ⟨rfl, rfl, rfl, rfl, rfl⟩ rfl rfl rfl rfl rfl (by kernel_rfl) Try.func3 (by kernel_rfl)
    (of_decide_eq_true (by kernel_rfl)) (by unfold Func.isWrapper; first | (rw [if_pos (by decide +kernel)]; kernel_rfl) | (rw [if_neg (by decide +kernel)]; exact ⟨rfl, rfl⟩))
    (fun os started H enc _ => lifted os started H enc)


end Go.Proofs.Ytcoicejbbdenlab.utfPoints
namespace Go.Proofs.Ytcoicejbbdenlab
theorem utfPoints_holds : Rows.UtfPointsSaid := utfPoints.over
#print axioms utfPoints_holds
end Go.Proofs.Ytcoicejbbdenlab
