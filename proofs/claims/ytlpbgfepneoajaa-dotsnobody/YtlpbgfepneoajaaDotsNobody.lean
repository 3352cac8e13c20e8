/-
  DotsNobody: whatever the bytes: a reader that is nil says so; one that no call made tells what the document says of a reader that takes no text.
  No condition.
-/
import Derived.Test.YtlpbgfepneoajaaRows
import Derived.Test.YtlpbgfepneoajaaRframe
import Derived.Test.YtlpbgfepneoajaaAlive
import Derived.WalkKit
import Derived.ProofKit
import Derived.OpenShut
import Derived.ShutString
import Derived.ChangeOld
import Derived.Below
import Derived.HandedShaped
namespace Go.Proofs.Ytlpbgfepneoajaa.dotsNobody
open Go.ChangeShapes Go.WideShapes Go.ChangeAt Go.RowKit
open Go.ChangeMaps (open_string shut_string)
set_option linter.unusedVariables false


theorem nobody_math (zs : List Int) (len : Nat) (hl : zs.length = len) : ∃ (n e : Int) (o : Bool), putV (runZ (new0 0) zs) = .tuple #[.int .i64 n, .bool o, .int .i64 e] ∧ frameO zs len = .tuple #[.int .i64 n, .bool o, .int .i64 e, .slice none 0 0] := by
  have hm : Mid false false 0 0 (new0 0) [] := ⟨by simp [new0, bodyL], by simp [new0], by simp [new0, bodyL], by simp [new0, bodyL, hasB], by simp [new0, bodyL], by simp [new0], by simp [new0], by simp [new0]⟩
  have h := frame_any zs.length zs [] (new0 0) false false 0 (Nat.le_refl _) hm (by omega)
  simp only [List.length_nil, List.nil_append, Nat.zero_add, show decide ((0 : Int) < 0) = false from rfl] at h
  cases hf : frL zs false false false (linesZ 0 zs) with
  | none =>
    have ho := h.2 hf
    have hn := run_all _ _ ho
    refine ⟨(len : Nat), 0, false, ?_, ?_⟩
    · unfold putV; rw [ho, hn, hl]; simp
    · unfold frameO; rw [hf]
  | some r =>
    obtain ⟨k, e⟩ := r
    obtain ⟨h1, h2, h3⟩ := h.1 k e hf
    refine ⟨(k : Nat), e, true, ?_, ?_⟩
    · unfold putV; rw [h1, h2]; simp [h3]
    · unfold frameO; rw [hf]

set_option maxRecDepth 100000 in
set_option maxHeartbeats 4000000 in
theorem walk (a0 : Option Addr) (len0 cap0 : Nat) (z0 : List Int) (w : World) (w0 : IsRow .u8 w a0 len0 cap0 z0) (hm : Mx w) :
    Calls Try.prog 4 #[.slice a0 len0 cap0] w fun e w' => e = .returned (.bool true) ∧ Below w.heap.size w w' := by
  obtain ⟨zs, hl, hcap, hmax, hbyt, hrow⟩ := byte_view w0
  clear w0
  have HM : Hid (Mx w) := hm
  clear hm
  by_cases h1 : 2000 < len0
  · have hd : decide ((len0 : Int) > 2000) = true := by simp; omega
    go_enter Try.func4, Try.ntmps4
    go_wp2_with (go_at_call 8; refine (alive_any _ HM.out).mono ?_; rintro e w' ⟨rfl, hb1⟩)
    go_ret
    exact ⟨rfl, by assumption⟩
  have hd1 : decide ((len0 : Int) > 2000) = false := by simp; omega
  obtain ⟨b, off, ha⟩ : ∃ b off, (zs ≠ [] → a0 = some ⟨b, off, none⟩) := by
    rcases hrow with rfl | ⟨b, off, rfl, _⟩
    · exact ⟨0, 0, fun h => absurd rfl h⟩
    · exact ⟨b, off, fun _ => rfl⟩
  obtain ⟨n, e, o, hput, hfrm⟩ := nobody_math zs len0 hl
  have hrd : Rd (w.alloc (.cells (cellsR (.slice none 0 0) (new0 0)) 33)) (w.heap.size + 1) w.heap.size (new0 0) := ⟨by omega, by simp, .slice none 0 0, heap_alloc_new _ _, World.ownsRow_nil _ _ _ _⟩
  have hP := put_any (w.heap.size + 1) w.heap.size (new0 0) _ hrd rfl 0 (fit_new 0) a0 len0 cap0 zs hl (fun w' hb => row_below hrow ((keep w _).trans hb.1)) (by omega)
  rw [hput] at hP
  have hF := fun (X : World) (h : Below w.heap.size w X) => frame_ref a0 b off len0 cap0 zs X hl (by omega) hcap hmax (row_below hrow h) ha
  rw [hfrm] at hF
  have HF : Hid _ := hF
  clear hF hrd hput hfrm ha hrow hbyt hl hmax hcap
  go_enter Try.func4, Try.ntmps4
  go_wp2_with fail
  refine (put_nil a0 len0 cap0 _).mono ?_
  rintro e' w' ⟨rfl, rfl⟩
  go_wp2_with fail
  refine hP.mono ?_
  clear hP
  rintro e' w1 ⟨rfl, hrd1, hbx1⟩
  have HB1 : Hid (Below w.heap.size w w1) := (keep w _).trans hbx1.1
  clear hrd1 hbx1
  go_wp2_with fail
  refine (HF.out w1 HB1.out).mono ?_
  rintro e' w2 ⟨rfl, hb2⟩
  have HB2 : Hid (Below w.heap.size w w2) := HB1.out.trans (hb2.mono HB1.out.size)
  clear hb2
  go_wp2_with fail
  refine (alive_any w2 (HM.out.keep HB2.out)).mono ?_
  rintro e' w3 ⟨rfl, hb3⟩
  have HB3 : Hid (Below w.heap.size w w3) := HB2.out.trans (hb3.mono HB2.out.size)
  clear hb3
  go_wp2_with fail
  refine (text_none w3).mono ?_
  rintro e' w' ⟨rfl, rfl⟩
  go_wp2
  go_ret
  exact ⟨rfl, HB3.out⟩

set_option maxRecDepth 100000 in
theorem lifted (os : Os) (started : os.Started) (H : Type) (enc : TypeId × Value → H) :
    ReturnsInHanded {} Try.checked os 4 .any (Rows.dotsNobodySpec.pre6 enc Try.prog Try.f4 Rows.dotsNobodyRow.domain false) (Rows.dotsNobodySpec.post enc Try.prog Try.f4 false true false false) := by
  refine returnsInHanded_of_change_shaped (C := Try.checked) own started (by kernel_rfl) Try.func4
    (ChangeSpec.witness6 (enc := enc) (C := Try.checked) false ⟨#[], #[.slice none 0 0], []⟩ 8 (by kernel_rfl) (by kernel_rfl) (by kernel_rfl) (by kernel_rfl)) ?_
  intro W base args ds gs before hval0 hW hcnd _ hsh _
  have hval : ∀ (j : Nat) t v, Try.f4.params[j]? = some t → args[j]? = some v → Value.okWide Try.prog W .any base t v := hval0
  have hW' := hW
  obtain ⟨p, q, hA0, hV, rfl, hfz, hnd⟩ := hW
  have hA : DataW.TrodAll enc Try.prog W 0 (fun _ => true) true Try.f4.params.toList args.toList ds p := hA0
  rw [Try.params4] at hA hval
  obtain ⟨v0, vs0, d0, ds0, p0, q0, hargs, rfl, rfl, h0, r0⟩ := trodAll_cons hA
  obtain ⟨rfl, rfl, rfl⟩ := trodAll_nil r0
  obtain rfl : args = #[v0] := by cases args; simp_all
  obtain ⟨rfl, rfl⟩ := trodVars_none hV
  obtain ⟨a0, len0, cap0, rfl⟩ := okWide_slice Try.underlying22 (hval 0 22 v0 rfl rfl)
  have k0 := h0
  have lt0 : ∀ x ∈ p0, x.block < W.heap.size := by obtain ⟨m, hm⟩ := k0; exact DataW.trod_lt m _ _ _ hm
  obtain ⟨z0, w0⟩ : ∃ zs, IsRow .u8 W a0 len0 cap0 zs := by
    obtain ⟨fuel, hf⟩ := h0
    rcases open_ints Try.underlying22 Try.underlying5 (by kernel_rfl) hf with ⟨hcs, _⟩ | ⟨x, l, c, zs, hcs, _, hl, hm, hz, _, hcell, hwz⟩
    · simp [Value.cells] at hcs
      obtain ⟨rfl, rfl, rfl⟩ := hcs
      exact ⟨[], .inl ⟨rfl, rfl, rfl, rfl⟩⟩
    · simp [Value.cells] at hcs
      obtain ⟨rfl, rfl, rfl⟩ := hcs
      exact ⟨zs, .inr ⟨_, rfl, hl, hm, by simpa using hz, hcell, hwz⟩⟩
  clear hA0 hval0
  refine (walk a0 len0 cap0 z0 W w0 (laysM185.s1_3 W hsh)).mono fun e W' ⟨he, bel⟩ => ?_
  subst he
  exact ⟨_, rfl, _, _, _, [], _, [], hW', trodAll_mk1 (shut_bool Try.underlying4 _), (trodAll_cons_mk (Below.trod laidOut (by kernel_rfl) (of_decide_eq_true (by kernel_rfl)) k0 bel lt0) trodAll_mk0), rfl, bel.frame _, fun h => by cases h⟩

theorem over : Rows.dotsNobodyRow.holds Try.pinned (OpenSpec.ofChange Rows.dotsNobodySpec) :=
  OpenClaim.holds_of_wide 4 Try.f4 rfl rfl rfl rfl rfl rfl rfl ⟨rfl, rfl, rfl, rfl, rfl⟩ rfl rfl rfl rfl rfl (by kernel_rfl) Try.func4 (by kernel_rfl)
    (of_decide_eq_true (by kernel_rfl)) (by unfold Func.isWrapper; first | (rw [if_pos (by decide +kernel)]; kernel_rfl) | (rw [if_neg (by decide +kernel)]; exact ⟨rfl, rfl⟩))
    (fun os started H enc _ => lifted os started H enc)


end Go.Proofs.Ytlpbgfepneoajaa.dotsNobody
namespace Go.Proofs.Ytlpbgfepneoajaa
theorem dotsNobody_holds : Rows.DotsNobodySaid := dotsNobody.over
#print axioms dotsNobody_holds
end Go.Proofs.Ytlpbgfepneoajaa
