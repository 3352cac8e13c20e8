/-
  For every text and every number the law UtfCuts of cutting texts returns true, and both read as before: no condition.
-/
import Derived.Test.YtcoicejbbdenlabRows
import Derived.Test.YtcoicejbbdenlabView
import Derived.Test.YtcoicejbbdenlabCutMath
import Derived.WalkKit
import Derived.ProofKit
import Derived.OpenShut
import Derived.ShutString
import Derived.ChangeOld
import Derived.Below
namespace Go.Proofs.Ytcoicejbbdenlab.utfCuts
open Go.ChangeShapes Go.WideShapes Go.ChangeAt Go.RowKit
open Go.ChangeMaps (open_string shut_string)
set_option linter.unusedVariables false

set_option maxHeartbeats 1000000 in
theorem walk_long (a : Option Addr) (len cap : Nat) (most : Int) (w : World) (hlen : 2000 < len) (hcap : len ≤ cap) (hm : cap ≤ maxLen) :
    Calls Try.prog 7 #[.slice a len cap, .int .i64 most] w fun e w' => e = .returned (.bool true) ∧ Below w.heap.size w w' := by
  unfold maxLen at hm
  go_enter Try.func7, Try.ntmps7
  go_wp2_with fail
  refine (alive_any _).mono ?_
  rintro e w3 ⟨rfl, hb3⟩
  have HB : Hid (Below w.heap.size w w3) := hb3
  clear hb3
  go_wp2
  go_ret
  exact ⟨rfl, HB.out⟩

set_option maxHeartbeats 1000000 in
theorem walk_bad (a : Option Addr) (len cap : Nat) (most : Int) (ps r : List Int) (w : World) (hlen : len ≤ 2000) (hcap : len ≤ cap) (hm : cap ≤ maxLen) (hl : (flat ps ++ r).length = len) (hps : AllPt ps) (hr : decZ r = none) (hne : r ≠ []) (hb : Byt r) (hrow : Row w a (flat ps ++ r)) :
    Calls Try.prog 7 #[.slice a len cap, .int .i64 most] w fun e w' => e = .returned (.bool true) ∧ Below w.heap.size w w' := by
  have hm' := hm
  unfold maxLen at hm'
  have HL : Hid ((flat ps ++ r).length = len) := hl
  have HR : Hid (decZ r = none) := hr
  have HN : Hid (r ≠ []) := hne
  have HE : Hid (r.isEmpty = false) := List.isEmpty_eq_false_iff.2 hne
  clear hl hr hne
  have key : ∃ c : Nat, m0Z most len = c ∧ c ≤ len ∧ (0 ≤ most → (c : Int) ≤ most) ∧ (most < 0 → c = 0) := ⟨_, rfl, by unfold m0Z; omega, by unfold m0Z; omega, by unfold m0Z; omega⟩
  obtain ⟨c, hc, h1, h2, h3⟩ := key
  have HC : Hid (m0Z most len = c) := hc
  clear hc
  by_cases hz : most < 0
  · obtain rfl : c = 0 := h3 hz
    clear h2 h3
    go_enter Try.func7, Try.ntmps7
    go_wp2_with fail
    refine (cut_no a len cap most ps r w HL.out hps HR.out HN.out hb hcap hm hrow).mono ?_
    rintro e w1 ⟨rfl, rfl⟩
    rw [HC.out]
    go_wp2_with fail
    refine (valid_any a len cap ps r w HL.out hps HR.out hb hcap hm hrow).mono ?_
    rintro e w1 ⟨rfl, rfl⟩
    rw [HE.out]
    go_wp2_with fail
    refine (alive_any _).mono ?_
    rintro e w3 ⟨rfl, hb3⟩
    have HB : Hid (Below w.heap.size w w3) := hb3
    clear hb3
    go_wp2
    go_ret
    exact ⟨rfl, HB.out⟩
  · have h2' := h2 (by omega)
    clear h2 h3
    go_enter Try.func7, Try.ntmps7
    go_wp2_with fail
    refine (cut_no a len cap most ps r w HL.out hps HR.out HN.out hb hcap hm hrow).mono ?_
    rintro e w1 ⟨rfl, rfl⟩
    rw [HC.out]
    go_wp2_with fail
    refine (valid_any a len cap ps r w HL.out hps HR.out hb hcap hm hrow).mono ?_
    rintro e w1 ⟨rfl, rfl⟩
    rw [HE.out]
    go_wp2_with fail
    refine (alive_any _).mono ?_
    rintro e w3 ⟨rfl, hb3⟩
    have HB : Hid (Below w.heap.size w w3) := hb3
    clear hb3
    go_wp2
    go_ret
    exact ⟨rfl, HB.out⟩

set_option maxHeartbeats 2000000 in
theorem walk_good (a : Option Addr) (len cap : Nat) (most : Int) (ps : List Int) (w : World) (hlen : len ≤ 2000) (hcap : len ≤ cap) (hm : cap ≤ maxLen) (hl : (flat ps).length = len) (hps : AllPt ps) (hrow : Row w a (flat ps)) :
    Calls Try.prog 7 #[.slice a len cap, .int .i64 most] w fun e w' => e = .returned (.bool true) ∧ Below w.heap.size w w' := by
  have hm' := hm
  unfold maxLen at hm'
  have HL : Hid ((flat ps).length = len) := hl
  have HL0 : Hid ((flat ps ++ []).length = len) := by unfold Hid; rw [List.append_nil]; exact hl
  have HW0 : Hid (Row w a (flat ps ++ [])) := by unfold Hid; rw [List.append_nil]; exact hrow
  have hm0 : m0Z most len ≤ len := by unfold m0Z; omega
  obtain ⟨qs, rs, e1, e2, e3, e4⟩ := cut_split ps hps (m0Z most len) (by omega)
  have key : ∃ c : Nat, cutZ (flat ps) (m0Z most len) = c ∧ (flat qs).length = c ∧ c ≤ len ∧ (0 ≤ most → (c : Int) ≤ most) ∧ (most < 0 → c = 0) ∧ (0 ≤ most → most < len → most ≤ c + 3) ∧ (len ≤ most → c = len) := by
    have hmz : (m0Z most len : Int) = max 0 (min most (len : Int)) := by unfold m0Z; omega
    refine ⟨_, rfl, e2.symm, ?_, ?_, ?_, ?_, ?_⟩
    · omega
    · omega
    · omega
    · omega
    · intro h
      have : m0Z most len = len := by unfold m0Z; omega
      rw [this]
      exact cut_stop (l := flat ps) (m := len) (by omega)
  obtain ⟨c, hc, hq, h1, h2, h3, h4, h5⟩ := key
  have HC : Hid (cutZ (flat ps) (m0Z most len) = c) := hc
  have HQ : Hid ((flat qs).length = c) := hq
  have HP : Hid (ps = qs ++ rs) := e1
  have HR1 : Hid (Row w a (flat qs ++ [])) := by
    have := row_take c hrow
    rw [e1, flat_append, ← hq, List.take_left] at this
    unfold Hid; rw [List.append_nil]; exact this
  have HR2 : Hid (Row w (if cap = c then a else Option.map (fun x => x.add c) a) (flat rs ++ [])) := by
    have := row_drop (n := c) (cap := cap) hrow (by omega)
    have e : (flat ps).drop c = flat rs := by rw [e1, flat_append, ← hq, List.drop_left]
    rw [e] at this
    unfold Hid; rw [List.append_nil]; exact this
  have HL1 : Hid ((flat qs ++ []).length = c) := by unfold Hid; rw [List.append_nil]; exact hq
  have HL2 : Hid ((flat rs ++ []).length = len - c) := by
    unfold Hid
    rw [e1, flat_append, List.length_append] at hl
    rw [List.append_nil]; omega
  have HA : Hid (AllPt qs ∧ AllPt rs) := by rw [e1] at hps; exact ⟨hps.left, hps.right⟩
  clear hc hq e1 e2 e3 e4 hl hm0
  rcases (show most < 0 ∨ (0 ≤ most ∧ most < len) ∨ len ≤ most from by omega) with hz | ⟨hz, hz'⟩ | hz
  · obtain rfl : c = 0 := h3 hz
    clear h2 h3 h4 h5
    go_enter Try.func7, Try.ntmps7
    go_wp2_with fail
    refine (cut_yes a len cap most ps w HL.out hps hcap hm hrow).mono ?_
    rintro e w1 ⟨rfl, rfl⟩
    rw [HC.out]
    go_wp2_with fail
    refine (valid_any a len cap ps [] w HL0.out hps rfl (by intro x hx; simp at hx) hcap hm HW0.out).mono ?_
    rintro e w1 ⟨rfl, rfl⟩
    go_wp2_with fail
    refine (alive_any _).mono ?_
    rintro e w3 ⟨rfl, hb3⟩
    have HB : Hid (Below w.heap.size w w3) := hb3
    clear hb3
    go_wp2_with fail
    refine (valid_any a 0 cap qs [] w3 HL1.out HA.out.1 rfl (by intro x hx; simp at hx) (by omega) hm (row_below HR1.out HB.out)).mono ?_
    rintro e w1 ⟨rfl, rfl⟩
    go_wp2_with fail
    refine (valid_any a len cap ps [] w3 HL0.out hps rfl (by intro x hx; simp at hx) hcap hm (row_below HW0.out HB.out)).mono ?_
    rintro e w1 ⟨rfl, rfl⟩
    go_wp2
    go_ret
    exact ⟨rfl, HB.out⟩
  · have hc0 := h2 hz
    have hc1 := h4 hz hz'
    have HR3 : Hid (Row w (Option.map (fun x => x.add c) a) (flat rs ++ [])) := by
      have := HR2.out
      rwa [if_neg (by omega)] at this
    clear h2 h3 h4 h5
    go_enter Try.func7, Try.ntmps7
    go_wp2_with fail
    refine (cut_yes a len cap most ps w HL.out hps hcap hm hrow).mono ?_
    rintro e w1 ⟨rfl, rfl⟩
    rw [HC.out]
    go_wp2_with fail
    refine (valid_any a len cap ps [] w HL0.out hps rfl (by intro x hx; simp at hx) hcap hm HW0.out).mono ?_
    rintro e w1 ⟨rfl, rfl⟩
    go_wp2_with fail
    refine (alive_any _).mono ?_
    rintro e w3 ⟨rfl, hb3⟩
    have HB : Hid (Below w.heap.size w w3) := hb3
    clear hb3
    go_wp2_with fail
    refine (valid_any a c cap qs [] w3 HL1.out HA.out.1 rfl (by intro x hx; simp at hx) (by omega) hm (row_below HR1.out HB.out)).mono ?_
    rintro e w1 ⟨rfl, rfl⟩
    go_wp2_with fail
    refine (valid_any _ (len - c) (cap - c) rs [] w3 HL2.out HA.out.2 rfl (by intro x hx; simp at hx) (by omega) (by omega) (row_below HR3.out HB.out)).mono ?_
    rintro e w1 ⟨rfl, rfl⟩
    go_wp2
    go_ret
    exact ⟨rfl, HB.out⟩
  · obtain rfl : len = c := (h5 hz).symm
    clear h2 h3 h4 h5
    go_enter Try.func7, Try.ntmps7
    go_wp2_with fail
    refine (cut_yes a len cap most ps w HL.out hps hcap hm hrow).mono ?_
    rintro e w1 ⟨rfl, rfl⟩
    rw [HC.out]
    go_wp2_with fail
    refine (valid_any a len cap ps [] w HL0.out hps rfl (by intro x hx; simp at hx) hcap hm HW0.out).mono ?_
    rintro e w1 ⟨rfl, rfl⟩
    go_wp2_with fail
    refine (alive_any _).mono ?_
    rintro e w3 ⟨rfl, hb3⟩
    have HB : Hid (Below w.heap.size w w3) := hb3
    clear hb3
    go_wp2_with fail
    refine (valid_any a len cap qs [] w3 HL1.out HA.out.1 rfl (by intro x hx; simp at hx) (by omega) hm (row_below HR1.out HB.out)).mono ?_
    rintro e w1 ⟨rfl, rfl⟩
    go_wp2_with fail
    · refine (valid_any _ 0 0 [] [] w3 rfl (by intro x hx; simp at hx) rfl (by intro x hx; simp at hx) (by omega) (by simp [maxLen]) (.inl rfl)).mono ?_
      rintro e w1 ⟨rfl, rfl⟩
      go_wp2
      go_ret
      exact ⟨rfl, HB.out⟩
    · refine (valid_any _ 0 (cap - len) [] [] w3 rfl (by intro x hx; simp at hx) rfl (by intro x hx; simp at hx) (by omega) (by omega) (.inl rfl)).mono ?_
      rintro e w1 ⟨rfl, rfl⟩
      go_wp2
      go_ret
      exact ⟨rfl, HB.out⟩

theorem walk (a0 : Option Addr) (len0 cap0 : Nat) (z0 : List Int) (a1 : Int) (w : World) (w0 : IsRow .u8 w a0 len0 cap0 z0) (w1 : (Lit.int .i64 a1).wf = true) :
    Calls Try.prog 7 #[.slice a0 len0 cap0, .int .i64 a1] w fun e w' => e = .returned (.bool true) ∧ Below w.heap.size w w' := by
  obtain ⟨l, h1, h2, h3, h4, h5⟩ := byte_view w0
  by_cases hl : 2000 < len0
  · exact walk_long a0 len0 cap0 a1 w hl h2 h3
  · obtain ⟨ps, r, e1, e2, e3⟩ := split_ex l h4
    subst e2
    by_cases hr : r = []
    · subst hr
      rw [List.append_nil] at h1 h5
      exact walk_good a0 len0 cap0 a1 ps w (by omega) h2 h3 h1 e1 h5
    · exact walk_bad a0 len0 cap0 a1 ps r w (by omega) h2 h3 h1 e1 e3 hr (fun x hx => h4 x (by simp [hx])) h5

set_option maxRecDepth 100000 in
theorem lifted (os : Os) (started : os.Started) (H : Type) (enc : TypeId × Value → H) :
    ReturnsInHanded {} Try.checked os 7 .any (Rows.utfCutsSpec.pre6 enc Try.prog Try.f7 Rows.utfCutsRow.domain false) (Rows.utfCutsSpec.post enc Try.prog Try.f7 false true false false) := by
  refine returnsInHanded_of_change (C := Try.checked) own started (by kernel_rfl) Try.func7
    (ChangeSpec.witness6 (enc := enc) (C := Try.checked) false ⟨#[], #[.slice none 0 0, .int .i64 0], []⟩ 8 (by kernel_rfl) (by kernel_rfl) (by kernel_rfl) (by kernel_rfl)) ?_
  intro W base args ds gs before hval0 hW hcnd _
  have hval : ∀ (j : Nat) t v, Try.f7.params[j]? = some t → args[j]? = some v → Value.okWide Try.prog W .any base t v := hval0
  have hW' := hW
  obtain ⟨p, q, hA0, hV, rfl, hfz, hnd⟩ := hW
  have hA : DataW.TrodAll enc Try.prog W 0 (fun _ => true) true Try.f7.params.toList args.toList ds p := hA0
  rw [Try.params7] at hA hval
  obtain ⟨v0, vs0, d0, ds0, p0, q0, hargs, rfl, rfl, h0, r0⟩ := trodAll_cons hA
  obtain ⟨v1, vs1, d1, ds1, p1, q1, rfl, rfl, rfl, h1, r1⟩ := trodAll_cons r0
  obtain ⟨rfl, rfl, rfl⟩ := trodAll_nil r1
  obtain rfl : args = #[v0, v1] := by cases args; simp_all
  obtain ⟨rfl, rfl⟩ := trodVars_none hV
  obtain ⟨a0, len0, cap0, rfl⟩ := okWide_slice Try.underlying22 (hval 0 22 v0 rfl rfl)
  have k0 := h0
  have lt0 : ∀ x ∈ p0, x.block < W.heap.size := by obtain ⟨m, hm⟩ := k0; exact DataW.trod_lt m _ _ _ hm
  obtain ⟨z0, w0⟩ : ∃ zs, IsRow .u8 W a0 len0 cap0 zs := by
    obtain ⟨fuel, hf⟩ := h0
    rcases open_ints Try.underlying22 Try.underlying5 (by kernel_rfl) hf with ⟨hcs, _⟩ | ⟨x, l, c, zs, hcs, _, hl, hm, hz, _, hcell, hwz⟩
    · simp [Value.cells] at hcs
      obtain ⟨rfl, rfl, rfl⟩ := hcs
      exact ⟨[], .inl ⟨rfl, rfl, rfl, rfl⟩⟩
    · simp [Value.cells] at hcs
      obtain ⟨rfl, rfl, rfl⟩ := hcs
      exact ⟨zs, .inr ⟨_, rfl, hl, hm, by simpa using hz, hcell, hwz⟩⟩
  obtain ⟨a1, rfl, rfl, rfl, w1⟩ := open_int Try.underlying3 (hval 1 3 v1 rfl rfl) h1
  clear hA0 hval0
  refine (walk a0 len0 cap0 z0 a1 W w0 w1).mono fun e W' ⟨he, bel⟩ => ?_
  subst he
  exact ⟨_, rfl, _, _, _, [], _, [], hW', trodAll_mk1 (shut_bool Try.underlying4 _), (trodAll_cons_mk (Below.trod laidOut (by kernel_rfl) (of_decide_eq_true (by kernel_rfl)) k0 bel lt0) (trodAll_cons_mk (shut_int Try.underlying3 w1) trodAll_mk0)), rfl, bel.frame _, fun h => by cases h⟩

theorem over : Rows.utfCutsRow.holds Try.pinned (OpenSpec.ofChange Rows.utfCutsSpec) :=
  OpenClaim.holds_of_wide 7 Try.f7 rfl rfl rfl rfl rfl rfl rfl ⟨rfl, rfl, rfl, rfl, rfl⟩ rfl rfl rfl rfl rfl (by kernel_rfl) Try.func7 (by kernel_rfl)
    (of_decide_eq_true (by kernel_rfl)) (by unfold Func.isWrapper; first | (rw [if_pos (by decide +kernel)]; kernel_rfl) | (rw [if_neg (by decide +kernel)]; exact ⟨rfl, rfl⟩))
    (fun os started H enc _ => lifted os started H enc)


end Go.Proofs.Ytcoicejbbdenlab.utfCuts
namespace Go.Proofs.Ytcoicejbbdenlab
theorem utfCuts_holds : Rows.UtfCutsSaid := utfCuts.over
#print axioms utfCuts_holds
end Go.Proofs.Ytcoicejbbdenlab
