/-
  For every two numbers the law UtfOrder of the bytes of points returns true, and the numbers read as before: no condition.
-/
import Derived.Test.YtcoicejbbdenlabRows
import Derived.Test.YtcoicejbbdenlabAlive
import Derived.Deep.QuietTactic
import Derived.BigQuiet
import Derived.WalkKit
import Derived.ProofKit
import Derived.OpenShut
import Derived.ShutString
namespace Go.Proofs.Ytcoicejbbdenlab.utfOrder
open Go.ChangeShapes Go.WideShapes Go.ChangeAt Go.RowKit
open Go.ChangeMaps (open_string shut_string)
set_option linter.unusedVariables false

theorem own : ownKnob Try.prog.godebug = none := by kernel_rfl

theorem row_drewN {w : World} {a : Option Addr} {l : List Int} (h : Row w a l) (n : Nat) : Row (w.drewN n) a l := h

theorem str_less (p q : Int) (hp : ptB p = true) (hq : ptB q = true) : Op.bytesLess (strOfNums (encZ p)).toList (strOfNums (encZ q)).toList = decide (p < q) := by
  rw [toList_str, toList_str, bytesLess_z (enc_byte p hp) (enc_byte q hq), enc_order p q hp hq]
theorem str_eq (p q : Int) (hp : ptB p = true) (hq : ptB q = true) : ((strOfNums (encZ p)).toList == (strOfNums (encZ q)).toList) = (p == q) := by
  rw [toList_str, toList_str, Bool.eq_iff_iff, beq_iff_eq, beq_iff_eq]
  exact ⟨fun h => enc_inj p q hp hq (bytes_inj (enc_byte p hp) (enc_byte q hq) h), fun h => by rw [h]⟩

set_option maxHeartbeats 1000000 in
theorem walk_no (p q : Int) (w : World) (h : ptB p = false ∨ ptB q = false) :
    Calls Try.prog 6 #[.int .i32 p, .int .i32 q] w fun e w' => e = .returned (.bool true) ∧ Below w.heap.size w w' := by
  by_cases hp : ptB p = true
  · have hq : ptB q = false := by rcases h with h | h; · rw [hp] at h; cases h
                                  · exact h
    clear h
    have HP : Hid (ptB p = true) := hp
    have HQ : Hid (ptB q = false) := hq
    clear hp hq
    go_enter Try.func6, Try.ntmps6
    go_wp2_with fail
    refine (put_yes p _ HP.out).mono ?_
    rintro e w1 ⟨v, rfl, hown, hb1⟩
    have HB : Hid (Below w.heap.size w w1) := hb1
    clear hown hb1
    go_wp2_with fail
    refine (put_no q _ HQ.out).mono ?_
    rintro e w2 ⟨rfl, rfl⟩
    go_wp2_with fail
    refine (alive_any _).mono ?_
    rintro e w3 ⟨rfl, hb3⟩
    have HB3 : Hid (Below w.heap.size w w3) := HB.out.trans (hb3.mono HB.out.size)
    clear hb3
    go_wp2
    go_ret
    exact ⟨rfl, HB3.out⟩
  · have HP : Hid (ptB p = false) := by simpa [Hid] using hp
    clear h hp
    go_enter Try.func6, Try.ntmps6
    go_wp2_with fail
    refine (put_no p _ HP.out).mono ?_
    rintro e w1 ⟨rfl, rfl⟩
    by_cases hq : ptB q = true
    · have HQ : Hid (ptB q = true) := hq
      clear hq
      go_wp2_with fail
      refine (put_yes q _ HQ.out).mono ?_
      rintro e w1 ⟨v, rfl, hown, hb1⟩
      have HB : Hid (Below w.heap.size w w1) := hb1
      clear hown hb1
      go_wp2_with fail
      refine (alive_any _).mono ?_
      rintro e w3 ⟨rfl, hb3⟩
      have HB3 : Hid (Below w.heap.size w w3) := HB.out.trans (hb3.mono HB.out.size)
      clear hb3
      go_wp2
      go_ret
      exact ⟨rfl, HB3.out⟩
    · have HQ : Hid (ptB q = false) := by simpa [Hid] using hq
      clear hq
      go_wp2_with fail
      refine (put_no q _ HQ.out).mono ?_
      rintro e w2 ⟨rfl, rfl⟩
      go_wp2_with fail
      refine (alive_any _).mono ?_
      rintro e w3 ⟨rfl, hb3⟩
      have HB3 : Hid (Below w.heap.size w w3) := hb3
      clear hb3
      go_wp2
      go_ret
      exact ⟨rfl, HB3.out⟩

set_option maxHeartbeats 1000000 in
theorem walk_yes (p q : Int) (w : World) (hp : ptB p = true) (hq : ptB q = true) :
    Calls Try.prog 6 #[.int .i32 p, .int .i32 q] w fun e w' => e = .returned (.bool true) ∧ Below w.heap.size w w' := by
  have HP : Hid (ptB p = true) := hp
  have HQ : Hid (ptB q = true) := hq
  clear hp hq
  go_enter Try.func6, Try.ntmps6
  go_wp2_with fail
  refine (put_yes p _ HP.out).mono ?_
  rintro e w1 ⟨v, rfl, hown, hb1⟩
  obtain ⟨a, cap, rfl, hcap, hm, hrow⟩ := own_row hown
  have HB : Hid (Below w.heap.size w w1) := hb1
  have HR : Hid (Row w1 a (encZ p)) := hrow
  clear hown hb1 hrow
  go_wp2_with fail
  refine (put_yes q _ HQ.out).mono ?_
  rintro e w2 ⟨v, rfl, hown, hb2⟩
  obtain ⟨a2, cap2, rfl, hcap2, hm2, hrow2⟩ := own_row hown
  have HB2 : Hid (Below w.heap.size w w2) := HB.out.trans (hb2.mono HB.out.size)
  have HR1 : Hid (Row w2 a (encZ p)) := row_below HR.out hb2
  have HR2 : Hid (Row w2 a2 (encZ q)) := hrow2
  clear hown hb2 hrow2 HB HR
  have hp4 := enc_len p
  have hq4 := enc_len q
  unfold maxLen at hm hm2
  have k1 : ∀ n, (convert 22 9 (.slice a (encZ p).length cap)).run Try.prog (w2.drewN n) = .ok (.string (strOfNums (encZ p))) (w2.drewN n) := fun n => conv_row _ _ rfl (row_drewN HR1.out n)
  by_cases hlt : (encZ p).length < (encZ q).length
  · have hd : decide (((encZ p).length : Int) < ((encZ q).length : Int)) = true := by simp; omega
    have k3 : ∀ n, (convert 22 9 (.slice a2 (encZ p).length cap2)).run Try.prog (w2.drewN n) = .ok (.string (strOfNums ((encZ q).take (encZ p).length))) (w2.drewN n) := fun n => conv_row _ _ (by simp; omega) (row_take _ (row_drewN HR2.out n))
    have hpc : (encZ p).length ≤ cap2 := by omega
    have k4 : ((strOfNums ((encZ q).take (encZ p).length)).toList == (strOfNums (encZ p)).toList) = false := by
      rw [toList_str, toList_str, beq_eq_false_iff_ne]
      intro h
      exact enc_front p q HP.out HQ.out hlt (bytes_inj (Byt.take (enc_byte q HQ.out) _) (enc_byte p HP.out) h)
    go_wp2_with fail
    go_quiet (fail)
    clear k1 k3 k4
    go_wp2_with fail
    refine (alive_any _).mono ?_
    rintro e w3 ⟨rfl, hb3⟩
    have HB3 : Hid (Below w.heap.size w w3) := (below_drewN HB2.out nq).trans (hb3.mono HB2.out.size)
    have k1 : (convert 22 9 (.slice a (encZ p).length cap)).run Try.prog w3 = .ok (.string (strOfNums (encZ p))) w3 := conv_row _ _ rfl (row_below (row_drewN HR1.out nq) hb3)
    have k2 : (convert 22 9 (.slice a2 (encZ q).length cap2)).run Try.prog w3 = .ok (.string (strOfNums (encZ q))) w3 := conv_row _ _ rfl (row_below (row_drewN HR2.out nq) hb3)
    have k5 := str_less p q HP.out HQ.out
    have k6 := str_eq p q HP.out HQ.out
    clear hb3
    go_wp2
    go_ret
    exact ⟨rfl, HB3.out⟩
  · have hd : decide (((encZ p).length : Int) < ((encZ q).length : Int)) = false := by simp; omega
    go_wp2_with fail
    go_quiet (fail)
    clear k1
    go_wp2_with fail
    refine (alive_any _).mono ?_
    rintro e w3 ⟨rfl, hb3⟩
    have HB3 : Hid (Below w.heap.size w w3) := (below_drewN HB2.out nq).trans (hb3.mono HB2.out.size)
    have k1 : (convert 22 9 (.slice a (encZ p).length cap)).run Try.prog w3 = .ok (.string (strOfNums (encZ p))) w3 := conv_row _ _ rfl (row_below (row_drewN HR1.out nq) hb3)
    have k2 : (convert 22 9 (.slice a2 (encZ q).length cap2)).run Try.prog w3 = .ok (.string (strOfNums (encZ q))) w3 := conv_row _ _ rfl (row_below (row_drewN HR2.out nq) hb3)
    have k5 := str_less p q HP.out HQ.out
    have k6 := str_eq p q HP.out HQ.out
    clear hb3
    go_wp2
    go_ret
    exact ⟨rfl, HB3.out⟩

theorem walk (a0 : Int) (a1 : Int) (w0 : (Lit.int .i32 a0).wf = true) (w1 : (Lit.int .i32 a1).wf = true) (w : World) :
    Calls Try.prog 6 #[.int .i32 a0, .int .i32 a1] w fun e w' => e = .returned (.bool true) ∧ Below w.heap.size w w' := by
  by_cases hp : ptB a0 = true
  · by_cases hq : ptB a1 = true
    · exact walk_yes a0 a1 w hp hq
    · exact walk_no a0 a1 w (.inr (by simpa using hq))
  · exact walk_no a0 a1 w (.inl (by simpa using hp))

set_option maxRecDepth 100000 in
theorem lifted (os : Os) (started : os.Started) (H : Type) (enc : TypeId × Value → H) :
    ReturnsInHanded {} Try.checked os 6 .any (Rows.utfOrderSpec.pre6 enc Try.prog Try.f6 Rows.utfOrderRow.domain false) (Rows.utfOrderSpec.post enc Try.prog Try.f6 false true false false) := by
  refine returnsInHanded_of_change (C := Try.checked) own started (by kernel_rfl) Try.func6
    (ChangeSpec.witness6 (enc := enc) (C := Try.checked) false ⟨#[], #[.int .i32 0, .int .i32 0], []⟩ 8 (by kernel_rfl) (by kernel_rfl) (by kernel_rfl) (by kernel_rfl)) ?_
  intro W base args ds gs before hval0 hW hcnd _
  have hval : ∀ (j : Nat) t v, Try.f6.params[j]? = some t → args[j]? = some v → Value.okWide Try.prog W .any base t v := hval0
  have hW' := hW
  obtain ⟨p, q, hA0, hV, rfl, hfz, hnd⟩ := hW
  have hA : DataW.TrodAll enc Try.prog W 0 (fun _ => true) true Try.f6.params.toList args.toList ds p := hA0
  rw [Try.params6] at hA hval
  obtain ⟨v0, vs0, d0, ds0, p0, q0, hargs, rfl, rfl, h0, r0⟩ := trodAll_cons hA
  obtain ⟨v1, vs1, d1, ds1, p1, q1, rfl, rfl, rfl, h1, r1⟩ := trodAll_cons r0
  obtain ⟨rfl, rfl, rfl⟩ := trodAll_nil r1
  obtain rfl : args = #[v0, v1] := by cases args; simp_all
  obtain ⟨rfl, rfl⟩ := trodVars_none hV
  obtain ⟨a0, rfl, rfl, rfl, w0⟩ := open_int Try.underlying21 (hval 0 21 v0 rfl rfl) h0
  obtain ⟨a1, rfl, rfl, rfl, w1⟩ := open_int Try.underlying21 (hval 1 21 v1 rfl rfl) h1
  clear hA0 hval0
  simp only [List.append_nil] at hW'
  refine (walk a0 a1 w0 w1 W).mono fun e W' ⟨he, hg⟩ => ?_
  subst he
  exact ⟨_, rfl, _, _, _, [], _, [], hW', trodAll_mk1 (shut_bool Try.underlying4 _), (trodAll_cons_mk (shut_int Try.underlying21 w0) (trodAll_cons_mk (shut_int Try.underlying21 w1) trodAll_mk0)), rfl, hg.frame _, fun h => by cases h⟩

theorem over : Rows.utfOrderRow.holds Try.pinned (OpenSpec.ofChange Rows.utfOrderSpec) :=
  OpenClaim.holds_of_wide 6 Try.f6 rfl rfl rfl rfl rfl rfl rfl ⟨rfl, rfl, rfl, rfl, rfl⟩ rfl rfl rfl rfl rfl (by kernel_rfl) Try.func6 (by kernel_rfl)
    (of_decide_eq_true (by kernel_rfl)) (by unfold Func.isWrapper; first | (rw [if_pos (by decide +kernel)]; kernel_rfl) | (rw [if_neg (by decide +kernel)]; exact ⟨rfl, rfl⟩))
    (fun os started H enc _ => lifted os started H enc)

theorem proved : Rows.UtfOrderSaid :=
  over
end Go.Proofs.Ytcoicejbbdenlab.utfOrder
namespace Go.Proofs.Ytcoicejbbdenlab
theorem utfOrder_holds : Rows.UtfOrderSaid := utfOrder.proved
#print axioms utfOrder_holds
end Go.Proofs.Ytcoicejbbdenlab
