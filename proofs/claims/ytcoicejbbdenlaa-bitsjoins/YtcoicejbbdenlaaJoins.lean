/-
  For every two rows of bytes the law BitsJoins of signs returns true, and both read as before: no condition.
-/
import Derived.Test.YtcoicejbbdenlaaRows
import Derived.Test.YtcoicejbbdenlaaAlive
import Derived.WalkKit
import Derived.ProofKit
import Derived.OpenShut
import Derived.ShutString
import Derived.ChangeOld
import Derived.Below
namespace Go.Proofs.Ytcoicejbbdenlaa.bitsJoins
open Go.ChangeShapes Go.WideShapes Go.ChangeAt Go.RowKit
open Go.ChangeMaps (open_string shut_string)
set_option linter.unusedVariables false


theorem encW_ln : ∀ (n : Nat) (a b : Int) (l : List Int), l.length ≤ n → encW 0 a l = encW 0 b l
  | 0, a, b, l, h => by
    have : l = [] := List.eq_nil_of_length_eq_zero (by omega)
    subst this; rfl
  | n + 1, a, b, [], h => rfl
  | n + 1, a, b, [x], h => by simp [encW, brk]
  | n + 1, a, b, [x, y], h => by simp [encW, brk]
  | n + 1, a, b, x :: y :: z :: r, h => by
    simp only [encW, brk, Int.lt_irrefl, false_and, if_false, List.nil_append]
    rw [encW_ln n (nxt 0 a) (nxt 0 b) r (by simp at h; omega)]
theorem encW_join : ∀ (n : Nat) (a : Int) (l m : List Int), l.length = 3 * n → encW 0 a (l ++ m) = encW 0 a l ++ encW 0 a m
  | 0, a, l, m, h => by
    have : l = [] := List.eq_nil_of_length_eq_zero (by omega)
    subst this; simp [encW]
  | n + 1, a, l, m, h => by
    match l, h with
    | x :: y :: z :: r, h =>
      have hr : r.length = 3 * n := by simp at h; omega
      simp only [List.cons_append, encW, List.append_assoc]
      rw [encW_join n (nxt 0 a) r m hr, encW_ln m.length (nxt 0 a) a m (Nat.le_refl _)]
    | [], h => simp at h
    | [x], h => simp at h; omega
    | [x, y], h => simp at h; omega

set_option maxHeartbeats 1000000 in
theorem copy_any (a : Option Addr) (len cap : Nat) (l : List Int) (w : World) (hl : l.length = len) (hsm : len ≤ 10000) (hn0 : a = none → cap = 0) (hrow : Row w a l) :
    Calls Try.prog 19 #[.slice a len cap] w fun e w' => ∃ v, e = .returned v ∧ w'.ownsRow w.heap.size 5 1 v l.length (l.map (Value.int .u8)) ∧ Below w.heap.size w w' := by
  obtain ⟨j0, hi, hz0, hz1, hz2⟩ := info_parts Try.info5
  have HL : Hid (l.length = len) := hl
  have HZ : Hid (a = none → cap = 0) := hn0
  clear hl hn0
  go_enter Try.func19, Try.ntmps19
  go_wp2_with (at_builtin; refine wpList_append_rowk rfl (.tmp 4) (.tmp 5) 22 rfl w.heap.size 5 j0 (.int .u8 0) 1 Try.underlying22 hi hz0 hz1 hz2 rfl .u8 _ _ _ rfl (World.ownsRow_nil _ _ _ _) a len cap l rfl HL.out HZ.out hrow ?c1 ?c2 ?c3 ?_)
  case c1 => unfold maxLen; omega
  case c2 => omega
  case c3 => exact Nat.le_refl _
  intro v1 w1 hown1 hgrow1
  have HB1 : Hid (Below w.heap.size w w1) := (Below.refl _ _).grown hgrow1 (Nat.le_refl _) (by intro k hk; simp [Value.ownBlock] at hk)
  have HO1 : Hid (w1.ownsRow w.heap.size 5 1 v1 l.length (l.map (Value.int .u8))) := by unfold Hid; rw [HL.out]; simpa using hown1
  clear hgrow1 hown1
  go_wp2
  go_ret
  exact ⟨v1, rfl, HO1.out, HB1.out⟩

set_option maxHeartbeats 1000000 in
theorem walk_long (a : Option Addr) (len cap : Nat) (a' : Option Addr) (len' cap' : Nat) (w : World) (hcap : len ≤ cap) (hm : cap ≤ maxLen) (hcap' : len' ≤ cap') (hm' : cap' ≤ maxLen) (h : 2000 < len ∨ len ≤ 2000 ∧ 2000 < len') :
    Calls Try.prog 8 #[.slice a len cap, .slice a' len' cap'] w fun e w' => e = .returned (.bool true) ∧ Below w.heap.size w w' := by
  unfold maxLen at hm hm'
  rcases h with h | ⟨h, h'⟩
  all_goals
    go_enter Try.func8, Try.ntmps8
    go_wp2_with fail
    refine (alive_any _).mono ?_
    rintro e w3 ⟨rfl, hb3⟩
    have HB : Hid (Below w.heap.size w w3) := hb3
    clear hb3
    go_wp2
    go_ret
    exact ⟨rfl, HB.out⟩

theorem str_size (l : List Int) : (strOfNums l).size = l.length := by simp [strOfNums, ByteArray.size]
theorem str_join (l m : List Int) : ((strOfNums (l ++ m)).toList == (strOfNums l ++ strOfNums m).toList) = true := by
  rw [beq_iff_eq, ByteArray.toList_eq, ByteArray.toList_eq, ByteArray.data_append]
  simp [strOfNums]

set_option maxHeartbeats 4000000 in
theorem walk_short (a : Option Addr) (len cap : Nat) (l : List Int) (a' : Option Addr) (len' cap' : Nat) (m : List Int) (w : World)
    (hl : l.length = len) (hcap : len ≤ cap) (hm : cap ≤ maxLen) (hsm : len ≤ 2000) (hb : Byt l) (hrow : Row w a l) (hn0 : a = none → cap = 0)
    (hl' : m.length = len') (hcap' : len' ≤ cap') (hm' : cap' ≤ maxLen) (hsm' : len' ≤ 2000) (hb' : Byt m) (hrow' : Row w a' m) (hn0' : a' = none → cap' = 0) :
    Calls Try.prog 8 #[.slice a len cap, .slice a' len' cap'] w fun e w' => e = .returned (.bool true) ∧ Below w.heap.size w w' := by
  obtain ⟨j0, hi, hz0, hz1, hz2⟩ := info_parts Try.info5
  have hmx := hm
  have hmx' := hm'
  unfold maxLen at hmx hmx'
  obtain ⟨k, hk⟩ : ∃ k : Nat, k = len - len % 3 := ⟨_, rfl⟩
  have hkl : k ≤ len := by omega
  have hke : ((len : Int) - (len : Int) % 3) = (k : Int) := by omega
  have H3 : Hid (∃ n, (l.take k).length = 3 * n) := ⟨len / 3, by rw [List.length_take]; omega⟩
  have HLK : Hid ((l.take k).length = k) := by unfold Hid; rw [List.length_take]; omega
  have HR : Hid (Row w a (l.take k)) := row_take k hrow
  have HY : Hid (Byt (l.take k)) := hb.take k
  have HL' : Hid (m.length = len') := hl'
  have HR' : Hid (Row w a' m) := hrow'
  have HY' : Hid (Byt m) := hb'
  have HZ : Hid (a = none → cap = 0) := hn0
  have HZ' : Hid (a' = none → cap' = 0) := hn0'
  have HLL : Hid ((l.take k ++ m).length = k + len') := by unfold Hid; rw [List.length_append, HLK.out, hl']
  clear hk hl hl' hrow hrow' hn0 hn0' hb hb'
  go_enter Try.func8, Try.ntmps8
  go_wp2_with fail
  refine (encode_ok a k cap 0 (l.take k) w HLK.out HY.out (by omega) hm (by omega) (by decide) (by decide) (by decide) HR.out).mono ?_
  rintro e w1 ⟨rfl, hb1⟩
  have HB1 : Hid (Below w.heap.size w w1) := hb1
  clear hb1
  go_wp2_with fail
  refine (encode_ok a' len' cap' 0 m w1 HL'.out HY'.out hcap' hm' (by omega) (by decide) (by decide) (by decide) (row_below HR'.out HB1.out)).mono ?_
  rintro e w2 ⟨rfl, hb2⟩
  have HB2 : Hid (Below w.heap.size w w2) := HB1.out.trans (hb2.mono HB1.out.size)
  clear hb2
  go_wp2_with fail
  refine (copy_any a k cap (l.take k) w2 HLK.out (by omega) HZ.out (row_below HR.out HB2.out)).mono ?_
  rintro e w3 ⟨v3, rfl, hown3, hb3⟩
  have HB3 : Hid (Below w.heap.size w w3) := HB2.out.trans (hb3.mono HB2.out.size)
  have HO3 : w3.ownsRow w2.heap.size 5 1 v3 k ((l.take k).map (Value.int .u8)) := by have := hown3; rwa [HLK.out] at this
  have hs3 : w2.heap.size ≤ w3.heap.size := hb3.size
  clear hown3 hb3
  go_wp2_with (at_builtin; refine wpList_append_rowk rfl (.tmp 41) (.tmp 42) 22 rfl w2.heap.size 5 j0 (.int .u8 0) 1 Try.underlying22 hi hz0 hz1 hz2 rfl .u8 _ _ _ rfl HO3 a' len' cap' m rfl HL'.out HZ'.out (row_below HR'.out HB3.out) ?d1 ?d2 ?d3 ?_)
  case d1 => unfold maxLen; omega
  case d2 => omega
  case d3 => exact hs3
  intro v4 w4 hown4 hgrow4
  have HB4 : Hid (Below w.heap.size w w4) := HB3.out.grown hgrow4 HB3.out.size (fun k hk => Nat.le_trans HB2.out.size (HO3.lt k hk).1)
  obtain ⟨a4, cap4, rfl, hcap4, hm4, hrow4, hn4⟩ := own_row' (l := l.take k ++ m) (k := .u8) (e := 5) (w := w4) (B := w2.heap.size) (v := v4) (by rw [HLL.out, List.map_append, List.map_take]; exact hown4)
  rw [HLL.out]
  rw [HLL.out] at hcap4
  have HR4 : Hid (Row w4 a4 (l.take k ++ m)) := hrow4
  clear hown4 hgrow4 HO3 hrow4 hn4
  go_wp2_with fail
  refine (encode_ok a4 (k + len') cap4 0 (l.take k ++ m) w4 HLL.out (HY.out.append HY'.out) hcap4 hm4 (by omega) (by decide) (by decide) (by decide) HR4.out).mono ?_
  rintro e w5 ⟨rfl, hb5⟩
  have HB5 : Hid (Below w.heap.size w w5) := HB4.out.trans (hb5.mono HB4.out.size)
  clear hb5
  go_wp2_with fail
  refine (alive_any _).mono ?_
  rintro e w6 ⟨rfl, hb6⟩
  have HB6 : Hid (Below w.heap.size w w6) := HB5.out.trans (hb6.mono HB5.out.size)
  have hz : (strOfNums (encW 0 0 (l.take k))).size + (strOfNums (encW 0 0 m)).size ≤ 9223372036854775807 := by
    have q1 := encW_len 0 _ 0 (l.take k) (Nat.le_refl _)
    have q2 := encW_len 0 _ 0 m (Nat.le_refl _)
    rw [HLK.out] at q1
    rw [HL'.out] at q2
    rw [str_size, str_size]; omega
  have hj : ((strOfNums (encW 0 0 (l.take k ++ m))).toList == (strOfNums (encW 0 0 (l.take k)) ++ strOfNums (encW 0 0 m)).toList) = true := by
    obtain ⟨n, hn⟩ := H3.out
    rw [encW_join n 0 _ m hn]; exact str_join _ _
  clear hb6
  go_wp2
  go_ret
  exact ⟨rfl, HB6.out⟩

theorem walk (a0 : Option Addr) (len0 cap0 : Nat) (z0 : List Int) (a1 : Option Addr) (len1 cap1 : Nat) (z1 : List Int) (w : World) (w0 : IsRow .u8 w a0 len0 cap0 z0) (w1 : IsRow .u8 w a1 len1 cap1 z1) :
    Calls Try.prog 8 #[.slice a0 len0 cap0, .slice a1 len1 cap1] w fun e w' => e = .returned (.bool true) ∧ Below w.heap.size w w' := by
  obtain ⟨l, h1, h2, h3, h4, h5⟩ := byte_view w0
  obtain ⟨m, k1, k2, k3, k4, k5⟩ := byte_view w1
  by_cases hl : 2000 < len0 ∨ len0 ≤ 2000 ∧ 2000 < len1
  · exact walk_long a0 len0 cap0 a1 len1 cap1 w h2 h3 k2 k3 hl
  · exact walk_short a0 len0 cap0 l a1 len1 cap1 m w h1 h2 h3 (by omega) h4 h5 (isRow_nil w0) k1 k2 k3 (by omega) k4 k5 (isRow_nil w1)

set_option maxRecDepth 100000 in
theorem lifted (os : Os) (started : os.Started) (H : Type) (enc : TypeId × Value → H) :
    ReturnsInHanded {} Try.checked os 8 .any (Rows.bitsJoinsSpec.pre6 enc Try.prog Try.f8 Rows.bitsJoinsRow.domain false) (Rows.bitsJoinsSpec.post enc Try.prog Try.f8 false true false false) := by
  refine returnsInHanded_of_change (C := Try.checked) own started (by kernel_rfl) Try.func8
    (ChangeSpec.witness6 (enc := enc) (C := Try.checked) false ⟨#[], #[.slice none 0 0, .slice none 0 0], []⟩ 8 (by kernel_rfl) (by kernel_rfl) (by kernel_rfl) (by kernel_rfl)) ?_
  intro W base args ds gs before hval0 hW hcnd _
  have hval : ∀ (j : Nat) t v, Try.f8.params[j]? = some t → args[j]? = some v → Value.okWide Try.prog W .any base t v := hval0
  have hW' := hW
  obtain ⟨p, q, hA0, hV, rfl, hfz, hnd⟩ := hW
  have hA : DataW.TrodAll enc Try.prog W 0 (fun _ => true) true Try.f8.params.toList args.toList ds p := hA0
  rw [Try.params8] at hA hval
  obtain ⟨v0, vs0, d0, ds0, p0, q0, hargs, rfl, rfl, h0, r0⟩ := trodAll_cons hA
  obtain ⟨v1, vs1, d1, ds1, p1, q1, rfl, rfl, rfl, h1, r1⟩ := trodAll_cons r0
  obtain ⟨rfl, rfl, rfl⟩ := trodAll_nil r1
  obtain rfl : args = #[v0, v1] := by cases args; simp_all
  obtain ⟨rfl, rfl⟩ := trodVars_none hV
  obtain ⟨a0, len0, cap0, rfl⟩ := okWide_slice Try.underlying22 (hval 0 22 v0 rfl rfl)
  have k0 := h0
  have lt0 : ∀ x ∈ p0, x.block < W.heap.size := by obtain ⟨m, hm⟩ := k0; exact DataW.trod_lt m _ _ _ hm
  obtain ⟨z0, w0⟩ : ∃ zs, IsRow .u8 W a0 len0 cap0 zs := by
    obtain ⟨fuel, hf⟩ := h0
    rcases open_ints Try.underlying22 Try.underlying5 (by kernel_rfl) hf with ⟨hcs, _⟩ | ⟨x, l, c, zs, hcs, _, hl, hm, hz, _, hcell, hwz⟩
    · simp [Value.cells] at hcs
      obtain ⟨rfl, rfl, rfl⟩ := hcs
      exact ⟨[], .inl ⟨rfl, rfl, rfl, rfl⟩⟩
    · simp [Value.cells] at hcs
      obtain ⟨rfl, rfl, rfl⟩ := hcs
      exact ⟨zs, .inr ⟨_, rfl, hl, hm, by simpa using hz, hcell, hwz⟩⟩
  obtain ⟨a1, len1, cap1, rfl⟩ := okWide_slice Try.underlying22 (hval 1 22 v1 rfl rfl)
  have k1 := h1
  have lt1 : ∀ x ∈ p1, x.block < W.heap.size := by obtain ⟨m, hm⟩ := k1; exact DataW.trod_lt m _ _ _ hm
  obtain ⟨z1, w1⟩ : ∃ zs, IsRow .u8 W a1 len1 cap1 zs := by
    obtain ⟨fuel, hf⟩ := h1
    rcases open_ints Try.underlying22 Try.underlying5 (by kernel_rfl) hf with ⟨hcs, _⟩ | ⟨x, l, c, zs, hcs, _, hl, hm, hz, _, hcell, hwz⟩
    · simp [Value.cells] at hcs
      obtain ⟨rfl, rfl, rfl⟩ := hcs
      exact ⟨[], .inl ⟨rfl, rfl, rfl, rfl⟩⟩
    · simp [Value.cells] at hcs
      obtain ⟨rfl, rfl, rfl⟩ := hcs
      exact ⟨zs, .inr ⟨_, rfl, hl, hm, by simpa using hz, hcell, hwz⟩⟩
  clear hA0 hval0
  refine (walk a0 len0 cap0 z0 a1 len1 cap1 z1 W w0 w1).mono fun e W' ⟨he, bel⟩ => ?_
  subst he
  exact ⟨_, rfl, _, _, _, [], _, [], hW', trodAll_mk1 (shut_bool Try.underlying4 _), (trodAll_cons_mk (Below.trod laidOut (by kernel_rfl) (of_decide_eq_true (by kernel_rfl)) k0 bel lt0) (trodAll_cons_mk (Below.trod laidOut (by kernel_rfl) (of_decide_eq_true (by kernel_rfl)) k1 bel lt1) trodAll_mk0)), rfl, bel.frame _, fun h => by cases h⟩

theorem over : Rows.bitsJoinsRow.holds Try.pinned (OpenSpec.ofChange Rows.bitsJoinsSpec) :=
  OpenClaim.holds_of_wide 8 Try.f8 rfl rfl rfl rfl rfl rfl rfl ⟨rfl, rfl, rfl, rfl, rfl⟩ rfl rfl rfl rfl rfl (by kernel_rfl) Try.func8 (by kernel_rfl)
    (of_decide_eq_true (by kernel_rfl)) (by unfold Func.isWrapper; first | (rw [if_pos (by decide +kernel)]; kernel_rfl) | (rw [if_neg (by decide +kernel)]; exact ⟨rfl, rfl⟩))
    (fun os started H enc _ => lifted os started H enc)


end Go.Proofs.Ytcoicejbbdenlaa.bitsJoins
namespace Go.Proofs.Ytcoicejbbdenlaa
theorem bitsJoins_holds : Rows.BitsJoinsSaid := bitsJoins.over
#print axioms bitsJoins_holds
end Go.Proofs.Ytcoicejbbdenlaa
