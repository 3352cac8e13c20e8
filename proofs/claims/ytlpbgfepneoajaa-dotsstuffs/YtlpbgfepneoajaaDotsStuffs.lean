/-
  DotsStuffs: whatever the bytes: Right and Stuff tell what the document's own definition tells.
  No condition.
-/
import Derived.Test.YtlpbgfepneoajaaRows
import Derived.Test.YtlpbgfepneoajaaRstuff
import Derived.WalkKit
import Derived.ProofKit
import Derived.OpenShut
import Derived.ShutString
import Derived.ChangeOld
import Derived.Below
import Derived.HandedShaped
namespace Go.Proofs.Ytlpbgfepneoajaa.dotsStuffs
open Go.ChangeShapes Go.WideShapes Go.ChangeAt Go.RowKit
open Go.ChangeMaps (open_string shut_string)
set_option linter.unusedVariables false


def stuffT (zs : List Int) : List Int := if (rightZ zs).2 = 0 then frameZ zs else []
theorem stuff_all (a : Option Addr) (len cap : Nat) (zs : List Int) (w : World) (hlen : zs.length = len) (hcap : len ≤ cap) (hnil : a = none → cap = 0) (hbig : len ≤ 1000000) (hz : Byt zs) (hr : Row w a zs) (hm : Mx w) :
    Calls Try.prog 9 #[.slice a len cap] w fun e w' => ∃ a' c', e = .returned (.tuple #[.slice a' (stuffT zs).length c', .int .i64 (rightZ zs).2]) ∧ Row w' a' (stuffT zs) ∧ Below w.heap.size w w' := by
  unfold stuffT
  by_cases h : (rightZ zs).2 = 0
  · rw [if_pos h, h]
    refine (stuff_good a len cap zs w hlen hcap hnil hbig hz hr hm h).mono ?_
    rintro e w' ⟨v, rfl, ho, hb⟩
    obtain ⟨a', c', rfl, _, _, hrow, _⟩ := own_row' ho
    exact ⟨a', c', rfl, hrow, hb⟩
  · rw [if_neg h]
    refine (stuff_bad a len cap zs w hlen hcap hnil hbig hz hr hm h).mono ?_
    rintro e w' ⟨rfl, hb⟩
    exact ⟨none, 0, rfl, .inl rfl, hb⟩
theorem stuffR_all (a : Option Addr) (b off len cap : Nat) (zs : List Int) (w : World) (hl : zs.length = len) (hb : len ≤ 1000000) (hcap : len ≤ cap) (hmax : cap ≤ maxLen) (hr : Row w a zs) (ha : zs ≠ [] → a = some ⟨b, off, none⟩) :
    Calls Try.prog 10 #[.slice a len cap] w fun e w' => ∃ a' c', e = .returned (.tuple #[.slice a' (stuffT zs).length c', .int .i64 (rightZ zs).2]) ∧ Row w' a' (stuffT zs) ∧ Below w.heap.size w w' := by
  unfold stuffT
  by_cases h : (rightZ zs).2 = 0
  · rw [if_pos h, h]
    refine (stuffR_good a b off len cap zs w hl hb hcap hmax hr ha h).mono ?_
    rintro e w' ⟨v, rfl, ho, hb⟩
    obtain ⟨a', c', rfl, _, _, hrow, _⟩ := own_row' ho
    exact ⟨a', c', rfl, hrow, hb⟩
  · rw [if_neg h]
    refine (stuffR_bad a b off len cap zs w hl hb hcap hmax hr ha h).mono ?_
    rintro e w' ⟨rfl, hb⟩
    exact ⟨none, 0, rfl, .inl rfl, hb⟩

set_option maxRecDepth 100000 in
set_option maxHeartbeats 4000000 in
theorem walk (a0 : Option Addr) (len0 cap0 : Nat) (z0 : List Int) (w : World) (w0 : IsRow .u8 w a0 len0 cap0 z0) (hm : Mx w) :
    Calls Try.prog 3 #[.slice a0 len0 cap0] w fun e w' => e = .returned (.bool true) ∧ Below w.heap.size w w' := by
  obtain ⟨l, hl, hcap, hmax, hbyt, hrow⟩ := byte_view w0
  have hnil := isRow_nil w0
  clear w0
  have HM : Hid (Mx w) := hm
  clear hm
  by_cases h1 : 4000 < len0
  · have hd : decide ((len0 : Int) > 4000) = true := by simp; omega
    go_enter Try.func3, Try.ntmps3
    go_wp2_with (go_at_call 8; refine (alive_any _ HM.out).mono ?_; rintro e w' ⟨rfl, hb1⟩)
    go_ret
    exact ⟨rfl, by assumption⟩
  have hd1 : decide ((len0 : Int) > 4000) = false := by simp; omega
  obtain ⟨b, off, ha⟩ : ∃ b off, (l ≠ [] → a0 = some ⟨b, off, none⟩) := by
    rcases hrow with rfl | ⟨b, off, rfl, _⟩
    · exact ⟨0, 0, fun h => absurd rfl h⟩
    · exact ⟨b, off, fun _ => rfl⟩
  have HROW : Hid (∀ X, Below w.heap.size w X → Row X a0 l) := fun X h => row_below hrow h
  have HS := fun (X : World) (h : Below w.heap.size w X) => stuff_all a0 len0 cap0 l X hl hcap hnil (by omega) hbyt (HROW.out X h) (HM.out.keep h)
  have HSR := fun (X : World) (h : Below w.heap.size w X) => stuffR_all a0 b off len0 cap0 l X hl (by omega) hcap hmax (HROW.out X h) ha
  have HRT := fun (X : World) (h : Below w.heap.size w X) => right_any a0 len0 cap0 l X hl hcap hnil (by omega) hbyt (HROW.out X h) (HM.out.keep h)
  have HRR := fun (X : World) (h : Below w.heap.size w X) => right_ref a0 b off len0 cap0 l X hl (by omega) hcap hmax (HROW.out X h) ha
  obtain ⟨x, hx⟩ : ∃ x, (rightZ l).1 = x := ⟨_, rfl⟩
  obtain ⟨y, hy⟩ : ∃ y, (rightZ l).2 = y := ⟨_, rfl⟩
  obtain ⟨t, ht⟩ : ∃ t, stuffT l = t := ⟨_, rfl⟩
  obtain ⟨tl, htl⟩ : ∃ tl, t.length = tl := ⟨_, rfl⟩
  rw [ht, hy, htl] at HS HSR
  rw [hx, hy] at HRT HRR
  have HTL : Hid (t.length = tl) := htl
  have QS : Hid _ := HS
  have QSR : Hid _ := HSR
  have QRT : Hid _ := HRT
  have QRR : Hid _ := HRR
  clear HS HSR HRT HRR hx hy ht htl ha hrow h1 hcap hmax hnil hl hbyt
  go_enter Try.func3, Try.ntmps3
  go_wp2_with fail
  refine (QS.out w (Below.refl _ _)).mono ?_
  rintro e w1 ⟨a1, c1, rfl, hr1, hb1⟩
  have R1 : Hid (Row w1 a1 t) := hr1
  have B1 : Hid (Below w.heap.size w w1) := hb1
  clear hr1 hb1
  go_wp2_with fail
  refine (QSR.out w1 B1.out).mono ?_
  rintro e w2 ⟨a2, c2, rfl, hr2, hb2⟩
  have R12 : Hid (Row w2 a1 t) := row_below R1.out hb2
  have R2 : Hid (Row w2 a2 t) := hr2
  have B2 : Hid (Below w.heap.size w w2) := B1.out.trans (hb2.mono B1.out.size)
  clear hr2 hb2
  go_wp2_with fail
  refine (alive_any w2 (HM.out.keep B2.out)).mono ?_
  rintro e w3 ⟨rfl, hb3⟩
  have B3 : Hid (Below w.heap.size w w3) := B2.out.trans (hb3.mono B2.out.size)
  have B23 : Hid (Below w2.heap.size w2 w3) := hb3
  clear hb3
  go_wp2_with fail
  refine (QRT.out w3 B3.out).mono ?_
  rintro e w4 ⟨rfl, hb4⟩
  have B4 : Hid (Below w.heap.size w w4) := B3.out.trans (hb4.mono B3.out.size)
  have B24 : Hid (Below w2.heap.size w2 w4) := B23.out.trans (hb4.mono B23.out.size)
  clear hb4
  go_wp2_with fail
  refine (QRR.out w4 B4.out).mono ?_
  rintro e w5 ⟨rfl, hb5⟩
  have B5 : Hid (Below w.heap.size w w5) := B4.out.trans (hb5.mono B4.out.size)
  have B25 : Hid (Below w2.heap.size w2 w5) := B24.out.trans (hb5.mono B24.out.size)
  clear hb5
  have k1 : (convert 22 9 (.slice a1 tl c1)).run Try.prog w5 = .ok (.string (strOfNums t)) w5 := conv_row _ _ HTL.out (row_below R12.out B25.out)
  have k2 : (convert 22 9 (.slice a2 tl c2)).run Try.prog w5 = .ok (.string (strOfNums t)) w5 := conv_row _ _ HTL.out (row_below R2.out B25.out)
  go_wp2
  go_ret
  exact ⟨rfl, B5.out⟩

set_option maxRecDepth 100000 in
theorem lifted (os : Os) (started : os.Started) (H : Type) (enc : TypeId × Value → H) :
    ReturnsInHanded {} Try.checked os 3 .any (Rows.dotsStuffsSpec.pre6 enc Try.prog Try.f3 Rows.dotsStuffsRow.domain false) (Rows.dotsStuffsSpec.post enc Try.prog Try.f3 false true false false) := by
  refine returnsInHanded_of_change_shaped (C := Try.checked) own started (by kernel_rfl) Try.func3
    (ChangeSpec.witness6 (enc := enc) (C := Try.checked) false ⟨#[], #[.slice none 0 0], []⟩ 8 (by kernel_rfl) (by kernel_rfl) (by kernel_rfl) (by kernel_rfl)) ?_
  intro W base args ds gs before hval0 hW hcnd _ hsh _
  have hval : ∀ (j : Nat) t v, Try.f3.params[j]? = some t → args[j]? = some v → Value.okWide Try.prog W .any base t v := hval0
  have hW' := hW
  obtain ⟨p, q, hA0, hV, rfl, hfz, hnd⟩ := hW
  have hA : DataW.TrodAll enc Try.prog W 0 (fun _ => true) true Try.f3.params.toList args.toList ds p := hA0
  rw [Try.params3] at hA hval
  obtain ⟨v0, vs0, d0, ds0, p0, q0, hargs, rfl, rfl, h0, r0⟩ := trodAll_cons hA
  obtain ⟨rfl, rfl, rfl⟩ := trodAll_nil r0
  obtain rfl : args = #[v0] := by cases args; simp_all
  obtain ⟨rfl, rfl⟩ := trodVars_none hV
  obtain ⟨a0, len0, cap0, rfl⟩ := okWide_slice Try.underlying22 (hval 0 22 v0 rfl rfl)
  have k0 := h0
  have lt0 : ∀ x ∈ p0, x.block < W.heap.size := by obtain ⟨m, hm⟩ := k0; exact DataW.trod_lt m _ _ _ hm
  obtain ⟨z0, w0⟩ : ∃ zs, IsRow .u8 W a0 len0 cap0 zs := by
    obtain ⟨fuel, hf⟩ := h0
    rcases open_ints Try.underlying22 Try.underlying5 (by kernel_rfl) hf with ⟨hcs, _⟩ | ⟨x, l, c, zs, hcs, _, hl, hm, hz, _, hcell, hwz⟩
    · simp [Value.cells] at hcs
      obtain ⟨rfl, rfl, rfl⟩ := hcs
      exact ⟨[], .inl ⟨rfl, rfl, rfl, rfl⟩⟩
    · simp [Value.cells] at hcs
      obtain ⟨rfl, rfl, rfl⟩ := hcs
      exact ⟨zs, .inr ⟨_, rfl, hl, hm, by simpa using hz, hcell, hwz⟩⟩
  clear hA0 hval0
  refine (walk a0 len0 cap0 z0 W w0 (laysM185.s1_3 W hsh)).mono fun e W' ⟨he, bel⟩ => ?_
  subst he
  exact ⟨_, rfl, _, _, _, [], _, [], hW', trodAll_mk1 (shut_bool Try.underlying4 _), (trodAll_cons_mk (Below.trod laidOut (by kernel_rfl) (of_decide_eq_true (by kernel_rfl)) k0 bel lt0) trodAll_mk0), rfl, bel.frame _, fun h => by cases h⟩

theorem over : Rows.dotsStuffsRow.holds Try.pinned (OpenSpec.ofChange Rows.dotsStuffsSpec) :=
  OpenClaim.holds_of_wide 3 Try.f3 rfl rfl rfl rfl rfl rfl rfl ⟨rfl, rfl, rfl, rfl, rfl⟩ rfl rfl rfl rfl rfl (by kernel_rfl) Try.func3 (by kernel_rfl)
    (of_decide_eq_true (by kernel_rfl)) (by unfold Func.isWrapper; first | (rw [if_pos (by decide +kernel)]; kernel_rfl) | (rw [if_neg (by decide +kernel)]; exact ⟨rfl, rfl⟩))
    (fun os started H enc _ => lifted os started H enc)


end Go.Proofs.Ytlpbgfepneoajaa.dotsStuffs
namespace Go.Proofs.Ytlpbgfepneoajaa
theorem dotsStuffs_holds : Rows.DotsStuffsSaid := dotsStuffs.over
#print axioms dotsStuffs_holds
end Go.Proofs.Ytlpbgfepneoajaa
