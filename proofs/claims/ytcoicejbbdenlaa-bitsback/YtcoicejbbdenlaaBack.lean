/-
  For every row of bytes and every width the law BitsBack of signs returns true, and both read as before: no condition.
-/
import Derived.Test.YtcoicejbbdenlaaRows
import Derived.Test.YtcoicejbbdenlaaBackMath
import Derived.WalkKit
import Derived.ProofKit
import Derived.OpenShut
import Derived.ShutString
import Derived.ChangeOld
import Derived.Below
namespace Go.Proofs.Ytcoicejbbdenlaa.bitsBack
open Go.ChangeShapes Go.WideShapes Go.ChangeAt Go.RowKit
open Go.ChangeMaps (open_string shut_string)
set_option linter.unusedVariables false


set_option maxHeartbeats 1000000 in
theorem walk_long (a : Option Addr) (len cap : Nat) (wd : Int) (w : World) (hcap : len ≤ cap) (hm : cap ≤ maxLen) (h : 4000 < len) :
    Calls Try.prog 5 #[.slice a len cap, .int .i64 wd] w fun e w' => e = .returned (.bool true) ∧ Below w.heap.size w w' := by
  unfold maxLen at hm
  go_enter Try.func5, Try.ntmps5
  go_wp2_with fail
  refine (alive_any _).mono ?_
  rintro e w3 ⟨rfl, hb3⟩
  have HB : Hid (Below w.heap.size w w3) := hb3
  clear hb3
  go_wp2
  go_ret
  exact ⟨rfl, HB.out⟩

set_option maxHeartbeats 1000000 in
theorem walk_arg (a : Option Addr) (len cap : Nat) (wd : Int) (w : World) (hcap : len ≤ cap) (hm : cap ≤ maxLen) (hsm : len ≤ 4000) (h : wd < 0 ∨ 76 < wd ∨ (0 ≤ wd ∧ wd ≤ 76 ∧ wd % 4 ≠ 0)) :
    Calls Try.prog 5 #[.slice a len cap, .int .i64 wd] w fun e w' => e = .returned (.bool true) ∧ Below w.heap.size w w' := by
  have HH : Hid (wd < 0 ∨ 76 < wd ∨ (0 ≤ wd ∧ wd ≤ 76 ∧ wd % 4 ≠ 0)) := h
  clear h
  go_enter Try.func5, Try.ntmps5
  go_wp2_with fail
  refine (encode_arg a len cap wd w hcap hm HH.out).mono ?_
  rintro e w1 ⟨rfl, rfl⟩
  go_wp2_with fail
  refine (alive_any _).mono ?_
  rintro e w3 ⟨rfl, hb3⟩
  have HB : Hid (Below w.heap.size w w3) := hb3
  clear hb3
  go_wp2
  go_ret
  exact ⟨rfl, HB.out⟩

set_option maxHeartbeats 2000000 in
theorem walk_ok (a : Option Addr) (len cap : Nat) (wd : Int) (l : List Int) (w : World) (hl : l.length = len) (hcap : len ≤ cap) (hm : cap ≤ maxLen) (hsm : len ≤ 4000) (hb : Byt l) (hrow : Row w a l) (h0 : 0 ≤ wd) (h1 : wd ≤ 76) (h2 : wd % 4 = 0) :
    Calls Try.prog 5 #[.slice a len cap, .int .i64 wd] w fun e w' => e = .returned (.bool true) ∧ Below w.heap.size w w' := by
  have HL : Hid (l.length = len) := hl
  have HR : Hid (Row w a l) := hrow
  have HY : Hid (Byt l) := hb
  have H4 : Hid (wd % 4 = 0) := h2
  have HS : Hid ((strOfNums (encW wd 0 l)).size ≤ 20000) := by
    have := encW_len2 wd _ 0 l (Nat.le_refl _)
    unfold Hid; rw [strOfNums_size]; omega
  clear hl hrow hb h2
  go_enter Try.func5, Try.ntmps5
  go_wp2_with fail
  refine (encode_ok a len cap wd l w HL.out HY.out hcap hm (by omega) h0 h1 H4.out HR.out).mono ?_
  rintro e w1 ⟨rfl, hb1⟩
  have HB1 : Hid (Below w.heap.size w w1) := hb1
  clear hb1
  go_wp2_with fail
  refine (decode_any _ w1 HS.out).mono ?_
  rintro e w2 ⟨v2, fa2, fc2, rfl, hb2, hd2⟩
  obtain ⟨st, e1, e2, e3⟩ := scan_enc wd _ 0 0 [] l (Nat.le_refl _) HY.out
  rw [List.nil_append] at e3
  rw [show (strOfNums (encW wd 0 l)).data.toList = B (encW wd 0 l) from rfl, e1] at hd2
  obtain ⟨a2, cap2, rfl, rfl, rfl, hr2⟩ : ∃ a2 cap2, v2 = .slice a2 l.length cap2 ∧ fa2 = 0 ∧ fc2 = 0 ∧ Row w2 a2 l := by
    rcases hd2 with ⟨f, h, _⟩ | ⟨s, h, h', _⟩ | ⟨s, a, cap, h, q1, q2, q3, q4, q5, q6, q7⟩
    · cases h
    · cases h; omega
    · cases h; rw [e3] at q2 q7; exact ⟨a, cap, q2, q3, q4, q7⟩
  have HB2 : Hid (Below w.heap.size w w2) := HB1.out.trans (hb2.mono HB1.out.size)
  have HR2 : Hid (Row w2 a2 l) := hr2
  clear hb2 hd2 e1 e2 e3 hr2
  go_wp2_with fail
  refine (alive_any _).mono ?_
  rintro e w3 ⟨rfl, hb3⟩
  have HB3 : Hid (Below w.heap.size w w3) := (HB2.out.alloc HB2.out.size _).trans (hb3.mono (HB2.out.alloc HB2.out.size _).size)
  have c0 : w3.cell? ⟨w2.heap.size, 0, none⟩ = some (.int .i64 0) := by rw [hb3.cell (by simp)]; simp
  have c1 : w3.cell? ⟨w2.heap.size, 1, none⟩ = some (.int .i64 0) := by rw [hb3.cell (by simp)]; simp
  have k1 : (convert 22 9 (.slice a2 l.length cap2)).run Try.prog w3 = .ok (.string (strOfNums l)) w3 := conv_row _ _ rfl (row_below (row_below HR2.out (keep _ _)) hb3)
  have k2 : (convert 22 9 (.slice a len cap)).run Try.prog w3 = .ok (.string (strOfNums l)) w3 := conv_row _ _ HL.out (row_below HR.out HB3.out)
  clear hb3
  go_wp2
  go_ret
  exact ⟨rfl, HB3.out⟩

theorem walk (a0 : Option Addr) (len0 cap0 : Nat) (z0 : List Int) (a1 : Int) (w : World) (w0 : IsRow .u8 w a0 len0 cap0 z0) (w1 : (Lit.int .i64 a1).wf = true) :
    Calls Try.prog 5 #[.slice a0 len0 cap0, .int .i64 a1] w fun e w' => e = .returned (.bool true) ∧ Below w.heap.size w w' := by
  obtain ⟨l, h1, h2, h3, h4, h5⟩ := byte_view w0
  by_cases hl : 4000 < len0
  · exact walk_long a0 len0 cap0 a1 w h2 h3 hl
  · by_cases hw : 0 ≤ a1 ∧ a1 ≤ 76 ∧ a1 % 4 = 0
    · exact walk_ok a0 len0 cap0 a1 l w h1 h2 h3 (by omega) h4 h5 hw.1 hw.2.1 hw.2.2
    · exact walk_arg a0 len0 cap0 a1 w h2 h3 (by omega) (by omega)

set_option maxRecDepth 100000 in
theorem lifted (os : Os) (started : os.Started) (H : Type) (enc : TypeId × Value → H) :
    ReturnsInHanded {} Try.checked os 5 .any (Rows.bitsBackSpec.pre6 enc Try.prog Try.f5 Rows.bitsBackRow.domain false) (Rows.bitsBackSpec.post enc Try.prog Try.f5 false true false false) := by
  refine returnsInHanded_of_change (C := Try.checked) own started (by kernel_rfl) Try.func5
    (ChangeSpec.witness6 (enc := enc) (C := Try.checked) false ⟨#[], #[.slice none 0 0, .int .i64 0], []⟩ 8 (by kernel_rfl) (by kernel_rfl) (by kernel_rfl) (by kernel_rfl)) ?_
  intro W base args ds gs before hval0 hW hcnd _
  have hval : ∀ (j : Nat) t v, Try.f5.params[j]? = some t → args[j]? = some v → Value.okWide Try.prog W .any base t v := hval0
  have hW' := hW
  obtain ⟨p, q, hA0, hV, rfl, hfz, hnd⟩ := hW
  have hA : DataW.TrodAll enc Try.prog W 0 (fun _ => true) true Try.f5.params.toList args.toList ds p := hA0
  rw [Try.params5] at hA hval
  obtain ⟨v0, vs0, d0, ds0, p0, q0, hargs, rfl, rfl, h0, r0⟩ := trodAll_cons hA
  obtain ⟨v1, vs1, d1, ds1, p1, q1, rfl, rfl, rfl, h1, r1⟩ := trodAll_cons r0
  obtain ⟨rfl, rfl, rfl⟩ := trodAll_nil r1
  obtain rfl : args = #[v0, v1] := by cases args; simp_all
  obtain ⟨rfl, rfl⟩ := trodVars_none hV
  obtain ⟨a0, len0, cap0, rfl⟩ := okWide_slice Try.underlying22 (hval 0 22 v0 rfl rfl)
  have k0 := h0
  have lt0 : ∀ x ∈ p0, x.block < W.heap.size := by obtain ⟨m, hm⟩ := k0; exact DataW.trod_lt m _ _ _ hm
  obtain ⟨z0, w0⟩ : ∃ zs, IsRow .u8 W a0 len0 cap0 zs := by
    obtain ⟨fuel, hf⟩ := h0
    rcases open_ints Try.underlying22 Try.underlying5 (by kernel_rfl) hf with ⟨hcs, _⟩ | ⟨x, l, c, zs, hcs, _, hl, hm, hz, _, hcell, hwz⟩
    · simp [Value.cells] at hcs
      obtain ⟨rfl, rfl, rfl⟩ := hcs
      exact ⟨[], .inl ⟨rfl, rfl, rfl, rfl⟩⟩
    · simp [Value.cells] at hcs
      obtain ⟨rfl, rfl, rfl⟩ := hcs
      exact ⟨zs, .inr ⟨_, rfl, hl, hm, by simpa using hz, hcell, hwz⟩⟩
  obtain ⟨a1, rfl, rfl, rfl, w1⟩ := open_int Try.underlying3 (hval 1 3 v1 rfl rfl) h1
  clear hA0 hval0
  refine (walk a0 len0 cap0 z0 a1 W w0 w1).mono fun e W' ⟨he, bel⟩ => ?_
  subst he
  exact ⟨_, rfl, _, _, _, [], _, [], hW', trodAll_mk1 (shut_bool Try.underlying4 _), (trodAll_cons_mk (Below.trod laidOut (by kernel_rfl) (of_decide_eq_true (by kernel_rfl)) k0 bel lt0) (trodAll_cons_mk (shut_int Try.underlying3 w1) trodAll_mk0)), rfl, bel.frame _, fun h => by cases h⟩

theorem over : Rows.bitsBackRow.holds Try.pinned (OpenSpec.ofChange Rows.bitsBackSpec) :=
  OpenClaim.holds_of_wide 5 Try.f5 rfl rfl rfl rfl rfl rfl rfl ⟨rfl, rfl, rfl, rfl, rfl⟩ rfl rfl rfl rfl rfl (by kernel_rfl) Try.func5 (by kernel_rfl)
    (of_decide_eq_true (by kernel_rfl)) (by unfold Func.isWrapper; first | (rw [if_pos (by decide +kernel)]; kernel_rfl) | (rw [if_neg (by decide +kernel)]; exact ⟨rfl, rfl⟩))
    (fun os started H enc _ => lifted os started H enc)


end Go.Proofs.Ytcoicejbbdenlaa.bitsBack
namespace Go.Proofs.Ytcoicejbbdenlaa
theorem bitsBack_holds : Rows.BitsBackSaid := bitsBack.over
#print axioms bitsBack_holds
end Go.Proofs.Ytcoicejbbdenlaa
