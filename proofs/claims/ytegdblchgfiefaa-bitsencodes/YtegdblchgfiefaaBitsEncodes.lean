/-
  BitsEncodes: whatever the bytes, the width, the length and the number: Encode, Length and Sign tell what the document's own definition tells.
  No condition.
-/
import Derived.Test.YtegdblchgfiefaaRows
import Derived.Test.YtegdblchgfiefaaRenc
import Derived.Test.YtegdblchgfiefaaAlive
import Derived.WalkKit
import Derived.ProofKit
import Derived.OpenShut
import Derived.ShutString
import Derived.ChangeOld
import Derived.Below
namespace Go.Proofs.Ytegdblchgfiefaa.bitsEncodes
open Go.ChangeShapes Go.WideShapes Go.ChangeAt Go.RowKit
open Go.ChangeMaps (open_string shut_string)
set_option linter.unusedVariables false


theorem size_str (l : List Int) : (strOfNums l).size = l.length := by
  have := congrArg List.length (toList_str l)
  rw [ByteArray.toList_eq, List.length_map, Array.length_toList] at this
  exact this
def encS (wd : Int) (l : List Int) : ByteArray := if mayZ l.length wd = 0 then strOfNums (encW wd 0 l) else ⟨#[]⟩
def lenS (n wd : Int) : Int := if mayZ n wd = 0 then lenZ n wd else 0
theorem may_cases (n wd : Int) : (wd < 0 ∨ 76 < wd ∨ (0 ≤ wd ∧ wd ≤ 76 ∧ wd % 4 ≠ 0) ∨ (0 ≤ wd ∧ wd ≤ 76 ∧ wd % 4 = 0 ∧ n < 0)) ∧ mayZ n wd = 1 ∨ (0 ≤ wd ∧ wd ≤ 76 ∧ wd % 4 = 0 ∧ 0 ≤ n ∧ 1048576 < n) ∧ mayZ n wd = 2 ∨ (0 ≤ wd ∧ wd ≤ 76 ∧ wd % 4 = 0 ∧ 0 ≤ n ∧ n ≤ 1048576) ∧ mayZ n wd = 0 := by
  unfold mayZ
  by_cases h1 : wd < 0 ∨ 76 < wd ∨ wd % 4 ≠ 0 ∨ n < 0
  · left; rw [if_pos h1]; exact ⟨by omega, rfl⟩
  · by_cases h2 : 1048576 < n
    · right; left; rw [if_neg h1, if_pos h2]; exact ⟨by omega, rfl⟩
    · right; right; rw [if_neg h1, if_neg h2]; exact ⟨by omega, rfl⟩
theorem length_all (n wd : Int) (w : World) : Calls Try.prog 12 #[.int .i64 n, .int .i64 wd] w fun e w' => e = .returned (.tuple #[.int .i64 (lenS n wd), .int .i64 (mayZ n wd)]) ∧ w = w' := by
  unfold lenS
  rcases may_cases n wd with ⟨h, hm⟩ | ⟨⟨h0, h1, h2, h3, h4⟩, hm⟩ | ⟨⟨h0, h1, h2, h3, h4⟩, hm⟩
  · rw [hm, if_neg (by decide)]; exact length_arg n wd w h
  · rw [hm, if_neg (by decide)]; exact length_long n wd w h0 h1 h2 h4
  · rw [hm, if_pos rfl]; exact length_ok n wd w h0 h1 h2 h3 h4
theorem encode_all (a : Option Addr) (len cap : Nat) (wd : Int) (l : List Int) (w : World) (hlen : l.length = len) (hb : Byt l) (hcap : len ≤ cap) (hm : cap ≤ maxLen) (hsm : len ≤ 2000 ∨ 1048576 < len) (hrow : Row w a l) :
    Calls Try.prog 10 #[.slice a len cap, .int .i64 wd] w fun e w' => e = .returned (.tuple #[.string (encS wd l), .int .i64 (mayZ len wd)]) ∧ Below w.heap.size w w' := by
  unfold encS
  rw [hlen]
  rcases may_cases len wd with ⟨h, hz⟩ | ⟨⟨h0, h1, h2, h3, h4⟩, hz⟩ | ⟨⟨h0, h1, h2, h3, h4⟩, hz⟩
  · rw [hz, if_neg (by decide)]
    refine (encode_arg a len cap wd w hcap hm (by omega)).mono ?_
    rintro e w' ⟨rfl, rfl⟩
    exact ⟨rfl, Below.refl _ _⟩
  · rw [hz, if_neg (by decide)]
    refine (encode_long a len cap wd w h0 h1 h2 (by omega)).mono ?_
    rintro e w' ⟨rfl, rfl⟩
    exact ⟨rfl, Below.refl _ _⟩
  · rw [hz, if_pos rfl]
    exact encode_ok a len cap wd l w hlen hb hcap hm (by omega) h0 h1 h2 hrow
set_option maxHeartbeats 1000000 in
theorem rencode_no (a : Option Addr) (len cap : Nat) (wd : Int) (w : World) (z : Int) (hz : mayZ len wd = z) (hne : z ≠ 0) :
    Calls Try.prog 11 #[.slice a len cap, .int .i64 wd] w fun e w' => e = .returned (.tuple #[.string ⟨#[]⟩, .int .i64 z]) ∧ w = w' := by
  have hmay := may_any len wd w
  rw [hz] at hmay
  have hne' : (z != 0) = true := by simpa using hne
  clear hz
  go_enter Try.func11, Try.ntmps11
  go_wp2_with fail
  refine hmay.mono ?_
  clear hmay
  rintro e w0 ⟨rfl, rfl⟩
  go_wp2
  go_ret2
  exact ⟨rfl, rfl⟩
theorem rencode_all (a : Option Addr) (len cap : Nat) (wd : Int) (l : List Int) (w : World) (hlen : l.length = len) (hb : Byt l) (hcap : len ≤ cap) (hm : cap ≤ maxLen) (hsm : len ≤ 2000 ∨ 1048576 < len) (hrow : Row w a l) :
    Calls Try.prog 11 #[.slice a len cap, .int .i64 wd] w fun e w' => e = .returned (.tuple #[.string (encS wd l), .int .i64 (mayZ len wd)]) ∧ Below w.heap.size w w' := by
  unfold encS
  rw [hlen]
  rcases may_cases len wd with ⟨h, hz⟩ | ⟨⟨h0, h1, h2, h3, h4⟩, hz⟩ | ⟨⟨h0, h1, h2, h3, h4⟩, hz⟩
  · rw [if_neg (by rw [hz]; decide)]
    refine (rencode_no a len cap wd w _ rfl (by rw [hz]; decide)).mono ?_
    rintro e w' ⟨rfl, rfl⟩
    exact ⟨rfl, Below.refl _ _⟩
  · rw [if_neg (by rw [hz]; decide)]
    refine (rencode_no a len cap wd w _ rfl (by rw [hz]; decide)).mono ?_
    rintro e w' ⟨rfl, rfl⟩
    exact ⟨rfl, Below.refl _ _⟩
  · rw [hz, if_pos rfl]
    exact rencode_ok a len cap wd l w hlen hb hcap (by unfold maxLen at hm; omega) (by omega) h0 h1 h2 hrow
theorem size_enc (wd : Int) (l : List Int) : ((encS wd l).size : Int) = lenS l.length wd := by
  unfold encS lenS
  rcases may_cases l.length wd with ⟨h, hz⟩ | ⟨⟨h0, h1, h2, h3, h4⟩, hz⟩ | ⟨⟨h0, h1, h2, h3, h4⟩, hz⟩
  · rw [hz, if_neg (by decide), if_neg (by decide)]; rfl
  · rw [hz, if_neg (by decide), if_neg (by decide)]; rfl
  · rw [hz, if_pos rfl, if_pos rfl, size_str]; exact enc_len wd l h0 h2

set_option maxRecDepth 100000 in
set_option maxHeartbeats 8000000 in
theorem walk (a0 : Option Addr) (len0 cap0 : Nat) (z0 : List Int) (a1 : Int) (a2 : Int) (a3 : Int) (w : World) (w0 : IsRow .u8 w a0 len0 cap0 z0) (w1 : (Lit.int .i64 a1).wf = true) (w2 : (Lit.int .i64 a2).wf = true) (w3 : (Lit.int .i64 a3).wf = true) :
    Calls Try.prog 3 #[.slice a0 len0 cap0, .int .i64 a1, .int .i64 a2, .int .i64 a3] w fun e w' => e = .returned (.bool true) ∧ Below w.heap.size w w' := by
  obtain ⟨l, hl, hcap, hmax, hbyt, hrow⟩ := byte_view w0
  have hb3 := bounds_i64 w3
  clear w0 w1 w2 w3
  rcases (show (2000 < len0 ∧ len0 ≤ 1048576) ∨ 1048586 < len0 ∨ len0 ≤ 2000 ∨ (1048576 < len0 ∧ len0 ≤ 1048586) from by omega) with ⟨h1, h2⟩ | h1 | h1
  · have hd1 : decide ((len0 : Int) > 2000) = true := decide_eq_true (by omega)
    have hd2 : decide ((len0 : Int) ≤ 1048576) = true := decide_eq_true (by omega)
    go_enter Try.func3, Try.ntmps3
    go_wp2_with (go_at_call 9; refine (alive_any _).mono ?_; rintro e w' ⟨rfl, hb1⟩)
    go_ret
    exact ⟨rfl, by assumption⟩
  · have hd1 : decide ((len0 : Int) > 2000) = true := decide_eq_true (by omega)
    have hd2 : decide ((len0 : Int) ≤ 1048576) = false := decide_eq_false (by omega)
    have hd3 : decide ((len0 : Int) > 1048586) = true := decide_eq_true (by omega)
    go_enter Try.func3, Try.ntmps3
    go_wp2_with (go_at_call 9; refine (alive_any _).mono ?_; rintro e w' ⟨rfl, hb1⟩)
    go_ret
    exact ⟨rfl, by assumption⟩
  have hE := encode_all a0 len0 cap0 a1 l w hl hbyt hcap hmax (by omega) hrow
  have hR := fun (X : World) (h : Below w.heap.size w X) => rencode_all a0 len0 cap0 a1 l X hl hbyt hcap hmax (by omega) (row_below hrow h)
  have hsz := size_enc a1 l
  rw [hl] at hsz
  have hlg : mayZ a2 a1 = 0 ∨ lenS a2 a1 = 0 := by
    by_cases h : mayZ a2 a1 = 0
    · exact .inl h
    · right; unfold lenS; rw [if_neg h]
  obtain ⟨S, hS⟩ : ∃ S, encS a1 l = S := ⟨_, rfl⟩
  obtain ⟨me, hme⟩ : ∃ me, mayZ len0 a1 = me := ⟨_, rfl⟩
  obtain ⟨mn, hmn⟩ : ∃ mn, mayZ a2 a1 = mn := ⟨_, rfl⟩
  obtain ⟨kn, hkn⟩ : ∃ kn, lenS a2 a1 = kn := ⟨_, rfl⟩
  obtain ⟨sg, hsg⟩ : ∃ sg, sgnZ a3 = sg := ⟨_, rfl⟩
  obtain ⟨sb, hsb⟩ : ∃ sb, decide (0 ≤ a3 ∧ a3 < 64) = sb := ⟨_, rfl⟩
  rw [hS] at hE hR hsz
  rw [hme] at hE hR
  rw [hmn, hkn] at hlg
  have hN := fun (X : World) => length_all a2 a1 X
  rw [hmn, hkn] at hN
  have hL := fun (X : World) => length_all (len0 : Int) a1 X
  rw [hme, ← hsz] at hL
  have hSg := fun (X : World) => sign_any a3 X
  rw [hsg, hsb] at hSg
  have hRs := fun (X : World) => rsign_any a3 X (by omega) (by omega)
  rw [hsg, hsb] at hRs
  have hMa := fun (X : World) => may_any a2 a1 X
  rw [hmn] at hMa
  have QR : Hid _ := hR
  have QN : Hid _ := hN
  have QL : Hid _ := hL
  have QS : Hid _ := hSg
  have QT : Hid _ := hRs
  have QM : Hid _ := hMa
  have hd1 : (decide ((len0 : Int) > 2000) && decide ((len0 : Int) ≤ 1048576)) = false := by
    rcases h1 with h | h
    · rw [decide_eq_false (by omega)]; rfl
    · rw [decide_eq_false (p := (len0 : Int) ≤ 1048576) (by omega), Bool.and_false]
  have hd3 : decide ((len0 : Int) > 1048586) = false := decide_eq_false (by omega)
  clear hR hN hL hSg hRs hMa hS hme hmn hkn hsg hsb hsz hrow hbyt hb3 hl
  have main : ∀ b1 b2 : Bool, decide ((len0 : Int) > 2000) = b1 → decide ((len0 : Int) ≤ 1048576) = b2 → (b1 && b2) = false → Calls Try.prog 3 #[.slice a0 len0 cap0, .int .i64 a1, .int .i64 a2, .int .i64 a3] w fun e w' => e = .returned (.bool true) ∧ Below w.heap.size w w' := by
    intro b1 b2 e1 e2 e3
    have fin : ∀ X : World, Below w.heap.size w X → True := fun _ _ => trivial
    rcases b1 with _ | _
    rotate_left
    · obtain rfl : b2 = false := by simpa using e3
      clear e3 hd1
      go_enter Try.func3, Try.ntmps3
      go_wp2_with fail
      refine hE.mono ?_
      rintro e w1 ⟨rfl, hb1⟩
      have HB1 : Hid (Below w.heap.size w w1) := hb1
      clear hb1
      go_wp2_with fail
      refine (QR.out w1 HB1.out).mono ?_
      rintro e w2 ⟨rfl, hb2⟩
      have HB2 : Hid (Below w.heap.size w w2) := HB1.out.trans (hb2.mono HB1.out.size)
      clear hb2
      go_wp2_with fail
      refine (QN.out w2).mono ?_
      rintro e wa ⟨rfl, rfl⟩
      go_wp2_with fail
      refine (QS.out w2).mono ?_
      rintro e wa ⟨rfl, rfl⟩
      go_wp2_with fail
      refine (QT.out w2).mono ?_
      rintro e wa ⟨rfl, rfl⟩
      go_wp2_with fail
      refine (QM.out w2).mono ?_
      rintro e wa ⟨rfl, rfl⟩
      go_wp2_with fail
      refine (QL.out w2).mono ?_
      rintro e wa ⟨rfl, rfl⟩
      go_wp2_with fail
      refine (alive_any w2).mono ?_
      rintro e w3 ⟨rfl, hb3⟩
      have HB3 : Hid (Below w.heap.size w w3) := HB2.out.trans (hb3.mono HB2.out.size)
      clear hb3
      rcases hlg with rfl | rfl
      · go_wp2
        go_ret
        exact ⟨rfl, HB3.out⟩
      · by_cases hq : mn = 0
        · subst hq
          go_wp2
          go_ret
          exact ⟨rfl, HB3.out⟩
        · have hq' : (mn == 0) = false := by rw [beq_eq_false_iff_ne]; exact hq
          go_wp2
          go_ret
          exact ⟨rfl, HB3.out⟩
    · clear e2 e3 hd1
      go_enter Try.func3, Try.ntmps3
      go_wp2_with fail
      refine hE.mono ?_
      rintro e w1 ⟨rfl, hb1⟩
      have HB1 : Hid (Below w.heap.size w w1) := hb1
      clear hb1
      go_wp2_with fail
      refine (QR.out w1 HB1.out).mono ?_
      rintro e w2 ⟨rfl, hb2⟩
      have HB2 : Hid (Below w.heap.size w w2) := HB1.out.trans (hb2.mono HB1.out.size)
      clear hb2
      go_wp2_with fail
      refine (QN.out w2).mono ?_
      rintro e wa ⟨rfl, rfl⟩
      go_wp2_with fail
      refine (QS.out w2).mono ?_
      rintro e wa ⟨rfl, rfl⟩
      go_wp2_with fail
      refine (QT.out w2).mono ?_
      rintro e wa ⟨rfl, rfl⟩
      go_wp2_with fail
      refine (QM.out w2).mono ?_
      rintro e wa ⟨rfl, rfl⟩
      go_wp2_with fail
      refine (QL.out w2).mono ?_
      rintro e wa ⟨rfl, rfl⟩
      go_wp2_with fail
      refine (alive_any w2).mono ?_
      rintro e w3 ⟨rfl, hb3⟩
      have HB3 : Hid (Below w.heap.size w w3) := HB2.out.trans (hb3.mono HB2.out.size)
      clear hb3
      rcases hlg with rfl | rfl
      · go_wp2
        go_ret
        exact ⟨rfl, HB3.out⟩
      · by_cases hq : mn = 0
        · subst hq
          go_wp2
          go_ret
          exact ⟨rfl, HB3.out⟩
        · have hq' : (mn == 0) = false := by rw [beq_eq_false_iff_ne]; exact hq
          go_wp2
          go_ret
          exact ⟨rfl, HB3.out⟩
  exact main _ _ rfl rfl hd1

set_option maxRecDepth 100000 in
theorem lifted (os : Os) (started : os.Started) (H : Type) (enc : TypeId × Value → H) :
    ReturnsInHanded {} Try.checked os 3 .any (Rows.bitsEncodesSpec.pre6 enc Try.prog Try.f3 Rows.bitsEncodesRow.domain false) (Rows.bitsEncodesSpec.post enc Try.prog Try.f3 false true false false) := by
  refine returnsInHanded_of_change (C := Try.checked) own started (by kernel_rfl) Try.func3
    (ChangeSpec.witness6 (enc := enc) (C := Try.checked) false ⟨#[], #[.slice none 0 0, .int .i64 0, .int .i64 0, .int .i64 0], []⟩ 8 (by kernel_rfl) (by kernel_rfl) (by kernel_rfl) (by kernel_rfl)) ?_
  intro W base args ds gs before hval0 hW hcnd _
  have hval : ∀ (j : Nat) t v, Try.f3.params[j]? = some t → args[j]? = some v → Value.okWide Try.prog W .any base t v := hval0
  have hW' := hW
  obtain ⟨p, q, hA0, hV, rfl, hfz, hnd⟩ := hW
  have hA : DataW.TrodAll enc Try.prog W 0 (fun _ => true) true Try.f3.params.toList args.toList ds p := hA0
  rw [Try.params3] at hA hval
  obtain ⟨v0, vs0, d0, ds0, p0, q0, hargs, rfl, rfl, h0, r0⟩ := trodAll_cons hA
  obtain ⟨v1, vs1, d1, ds1, p1, q1, rfl, rfl, rfl, h1, r1⟩ := trodAll_cons r0
  obtain ⟨v2, vs2, d2, ds2, p2, q2, rfl, rfl, rfl, h2, r2⟩ := trodAll_cons r1
  obtain ⟨v3, vs3, d3, ds3, p3, q3, rfl, rfl, rfl, h3, r3⟩ := trodAll_cons r2
  obtain ⟨rfl, rfl, rfl⟩ := trodAll_nil r3
  obtain rfl : args = #[v0, v1, v2, v3] := by cases args; simp_all
  obtain ⟨rfl, rfl⟩ := trodVars_none hV
  obtain ⟨a0, len0, cap0, rfl⟩ := okWide_slice Try.underlying22 (hval 0 22 v0 rfl rfl)
  have k0 := h0
  have lt0 : ∀ x ∈ p0, x.block < W.heap.size := by obtain ⟨m, hm⟩ := k0; exact DataW.trod_lt m _ _ _ hm
  obtain ⟨z0, w0⟩ : ∃ zs, IsRow .u8 W a0 len0 cap0 zs := by
    obtain ⟨fuel, hf⟩ := h0
    rcases open_ints Try.underlying22 Try.underlying5 (by kernel_rfl) hf with ⟨hcs, _⟩ | ⟨x, l, c, zs, hcs, _, hl, hm, hz, _, hcell, hwz⟩
    · simp [Value.cells] at hcs
      obtain ⟨rfl, rfl, rfl⟩ := hcs
      exact ⟨[], .inl ⟨rfl, rfl, rfl, rfl⟩⟩
    · simp [Value.cells] at hcs
      obtain ⟨rfl, rfl, rfl⟩ := hcs
      exact ⟨zs, .inr ⟨_, rfl, hl, hm, by simpa using hz, hcell, hwz⟩⟩
  obtain ⟨a1, rfl, rfl, rfl, w1⟩ := open_int Try.underlying3 (hval 1 3 v1 rfl rfl) h1
  obtain ⟨a2, rfl, rfl, rfl, w2⟩ := open_int Try.underlying3 (hval 2 3 v2 rfl rfl) h2
  obtain ⟨a3, rfl, rfl, rfl, w3⟩ := open_int Try.underlying3 (hval 3 3 v3 rfl rfl) h3
  clear hA0 hval0
  refine (walk a0 len0 cap0 z0 a1 a2 a3 W w0 w1 w2 w3).mono fun e W' ⟨he, bel⟩ => ?_
  subst he
  exact ⟨_, rfl, _, _, _, [], _, [], hW', trodAll_mk1 (shut_bool Try.underlying4 _), (trodAll_cons_mk (Below.trod laidOut (by kernel_rfl) (of_decide_eq_true (by kernel_rfl)) k0 bel lt0) (trodAll_cons_mk (shut_int Try.underlying3 w1) (trodAll_cons_mk (shut_int Try.underlying3 w2) (trodAll_cons_mk (shut_int Try.underlying3 w3) trodAll_mk0)))), rfl, bel.frame _, fun h => by cases h⟩

theorem over : Rows.bitsEncodesRow.holds Try.pinned (OpenSpec.ofChange Rows.bitsEncodesSpec) :=
  OpenClaim.holds_of_wide 3 Try.f3 rfl rfl rfl rfl rfl rfl rfl ⟨rfl, rfl, rfl, rfl, rfl⟩ rfl rfl rfl rfl rfl (by kernel_rfl) Try.func3 (by kernel_rfl)
    (of_decide_eq_true (by kernel_rfl)) (by unfold Func.isWrapper; first | (rw [if_pos (by decide +kernel)]; kernel_rfl) | (rw [if_neg (by decide +kernel)]; exact ⟨rfl, rfl⟩))
    (fun os started H enc _ => lifted os started H enc)


end Go.Proofs.Ytegdblchgfiefaa.bitsEncodes
namespace Go.Proofs.Ytegdblchgfiefaa
theorem bitsEncodes_holds : Rows.BitsEncodesSaid := bitsEncodes.over
#print axioms bitsEncodes_holds
end Go.Proofs.Ytegdblchgfiefaa
