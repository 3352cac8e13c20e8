/-
  For every row of bytes and every width the law BitsLines of signs returns true, and both read as before: no condition.
-/
import Derived.Test.YtcoicejbbdenlaaRows
import Derived.Test.YtcoicejbbdenlaaBackMath
import Derived.WalkKit
import Derived.ProofKit
import Derived.OpenShut
import Derived.ShutString
import Derived.ChangeOld
import Derived.Below
namespace Go.Proofs.Ytcoicejbbdenlaa.bitsLines
open Go.ChangeShapes Go.WideShapes Go.ChangeAt Go.RowKit
open Go.ChangeMaps (open_string shut_string)
set_option linter.unusedVariables false


theorem four_bytes (x y z : Int) (t : Nat) (hx : 0 ≤ x ∧ x < 256) (hy : 0 ≤ y ∧ y < 256) (hz : 0 ≤ z ∧ z < 256) : ∀ c ∈ fourL x y z t, 0 ≤ c ∧ c < 256 ∧ c ≠ 13 := by
  have f1 := sgn_facts (((x * 256 + y) * 256 + z) / 262144 % 64) (by omega) (by omega)
  have f2 := sgn_facts (((x * 256 + y) * 256 + z) / 4096 % 64) (by omega) (by omega)
  have f3 := sgn_facts (((x * 256 + y) * 256 + z) / 64 % 64) (by omega) (by omega)
  have f4 := sgn_facts (z % 64) (by omega) (by omega)
  intro c hc
  simp only [fourL, List.mem_cons, List.not_mem_nil, or_false] at hc
  rcases hc with rfl | rfl | hc | hc
  · exact ⟨f1.2.1, f1.2.2.1, f1.2.2.2.2⟩
  · exact ⟨f2.2.1, f2.2.2.1, f2.2.2.2.2⟩
  · split at hc
    · subst hc; exact ⟨f3.2.1, f3.2.2.1, f3.2.2.2.2⟩
    · subst hc; decide
  · split at hc
    · subst hc; exact ⟨f4.2.1, f4.2.2.1, f4.2.2.2.2⟩
    · subst hc; decide
/-- One four more. -/
theorem enc_step (wd ln : Int) (l : List Int) (hb : Byt l) (hne : l ≠ []) : ∃ f r, encW wd ln l = brk wd ln ++ f ++ encW wd (nxt wd ln) r ∧ f.length = 4 ∧ (∀ c ∈ f, 0 ≤ c ∧ c < 256 ∧ c ≠ 13) ∧ Byt r := by
  match l, hb, hne with
  | [x], hb, _ => exact ⟨fourL x 0 0 1, [], by simp [encW], rfl, four_bytes x 0 0 1 hb.head (by decide) (by decide), by intro x hx; simp at hx⟩
  | [x, y], hb, _ => exact ⟨fourL x y 0 2, [], by simp [encW], rfl, four_bytes x y 0 2 hb.head hb.tail.head (by decide), by intro x hx; simp at hx⟩
  | x :: y :: z :: r, hb, _ => exact ⟨fourL x y z 3, r, by simp [encW], rfl, four_bytes x y z 3 hb.head hb.tail.head hb.tail.tail.head, hb.tail.tail.tail⟩

/-- Where the law's loop stands. -/
def At (wd : Int) (l : List Int) (n : Int) (R : List Int) : Prop :=
  ∃ rem r ln, R = rem ++ encW wd ln r ∧ Byt r ∧ (∀ c ∈ rem, 0 ≤ c ∧ c < 256 ∧ c ≠ 13) ∧ n + rem.length = ln ∧ 0 ≤ n ∧ ln ≤ wd ∧ ln % 4 = 0 ∧ (ln = 0 → r = l) ∧ (l = [] → ln = 0 ∧ r = [])
theorem at_start (wd : Int) (l : List Int) (hb : Byt l) (h0 : 0 ≤ wd) : At wd l 0 (encW wd 0 l) :=
  ⟨[], l, 0, rfl, hb, by simp, by simp, by omega, h0, by omega, fun _ => rfl, fun h => ⟨rfl, h⟩⟩
theorem at_end {wd n : Int} {l : List Int} (h : At wd l n []) : n ≤ wd ∧ 0 ≤ n ∧ (0 < n ↔ l ≠ []) := by
  obtain ⟨rem, r, ln, h1, h2, h3, h4, h5, h6, h7, h8, h9⟩ := h
  have hr : rem = [] := by
    cases rem with
    | nil => rfl
    | cons c rem => simp at h1
  subst hr
  simp at h1 h4
  have hrr : r = [] := by
    by_cases e : r = []
    · exact e
    · obtain ⟨f, r', e1, e2, _⟩ := enc_step wd ln r h2 e
      rw [e1] at h1
      have := congrArg List.length h1
      simp [e2] at this
  subst h4
  refine ⟨h6, h5, fun hp hl => ?_, fun hl => ?_⟩
  · have := (h9 hl).1; omega
  · rcases (show n = 0 ∨ 0 < n from by omega) with h | h
    · exact absurd ((h8 h).symm.trans hrr) hl
    · exact h
/-- A round: a sign, or a pair at the width. -/
theorem at_round {wd n c : Int} {l R : List Int} (hw : 0 < wd) (hw4 : wd % 4 = 0) (h : At wd l n (c :: R)) :
    0 ≤ c ∧ c < 256 ∧ ((c ≠ 13 ∧ At wd l (n + 1) R) ∨ (c = 13 ∧ n = wd ∧ ∃ d R', R = 10 :: d :: R' ∧ At wd l 0 (d :: R'))) := by
  obtain ⟨rem, r, ln, h1, h2, h3, h4, h5, h6, h7, h8, h9⟩ := h
  cases rem with
  | cons x rem =>
    simp only [List.cons_append, List.cons.injEq] at h1
    obtain ⟨rfl, rfl⟩ := h1
    have hx := h3 c (by simp)
    refine ⟨hx.1, hx.2.1, .inl ⟨hx.2.2, rem, r, ln, rfl, h2, fun y hy => h3 y (by simp [hy]), by simp at h4; omega, by omega, h6, h7, h8, h9⟩⟩
  | nil =>
    simp only [List.nil_append] at h1
    have hne : r ≠ [] := by intro e; rw [e] at h1; simp [encW] at h1
    have hlne : l ≠ [] := fun e => hne (h9 e).2
    obtain ⟨f, r', e1, e2, e3, e4⟩ := enc_step wd ln r h2 hne
    match f, e2 with
    | [f0, f1, f2, f3], _ =>
      have g0 := e3 f0 (by simp)
      simp at h4
      rw [e1] at h1
      by_cases hb : 0 < wd ∧ ln = wd
      · have hbk : brk wd ln = [13, 10] := by unfold brk; rw [if_pos hb]
        have hnx : nxt wd ln = 4 := by unfold nxt; rw [if_pos hb]; rfl
        rw [hbk, hnx] at h1
        simp only [List.cons_append, List.nil_append, List.cons.injEq] at h1
        obtain ⟨rfl, rfl⟩ := h1
        refine ⟨by decide, by decide, .inr ⟨rfl, by omega, f0, _, rfl, [f0, f1, f2, f3], r', 4, rfl, e4, e3, by simp, by omega, by omega, by omega, fun h => by omega, fun h => absurd h hlne⟩⟩
      · have hbk : brk wd ln = [] := by unfold brk; rw [if_neg hb]
        have hnx : nxt wd ln = ln + 4 := by unfold nxt; rw [if_neg hb]
        rw [hbk, hnx] at h1
        simp only [List.cons_append, List.nil_append, List.cons.injEq] at h1
        obtain ⟨rfl, rfl⟩ := h1
        refine ⟨g0.1, g0.2.1, .inl ⟨g0.2.2, [f1, f2, f3], r', ln + 4, rfl, e4, fun y hy => e3 y (by simp at hy ⊢; omega), by simp; omega, by omega, by omega, by omega, fun h => by omega, fun h => absurd h hlne⟩⟩

theorem at_bd {wd n : Int} {l R : List Int} (h : At wd l n R) : 0 ≤ n ∧ n ≤ wd := by
  obtain ⟨rem, r, ln, h1, h2, h3, h4, h5, h6, h7, h8, h9⟩ := h
  exact ⟨h5, by omega⟩
theorem str_at {s : ByteArray} {E R : List Int} {k : Nat} {c : Int} (hs : s.data.toList = B E) (hk : k < s.size) (hd : E.drop k = c :: R) (h0 : 0 ≤ c) (h1 : c < 256) : ((s[k]'hk).toNat : Int) = c := by
  have e : s.data.toList.drop k = B (E.drop k) := by rw [hs]; simp [B]
  rw [drop_one s k hk, hd] at e
  have e2 : s[k] = UInt8.ofNat c.toNat := by simp [B] at e; exact e.1
  rw [e2]; exact byte_back h0 h1

set_option maxHeartbeats 1000000 in
theorem walk_long (a : Option Addr) (len cap : Nat) (wd : Int) (w : World) (hcap : len ≤ cap) (hm : cap ≤ maxLen) (h : 4000 < len) :
    Calls Try.prog 7 #[.slice a len cap, .int .i64 wd] w fun e w' => e = .returned (.bool true) ∧ Below w.heap.size w w' := by
  unfold maxLen at hm
  go_enter Try.func7, Try.ntmps7
  go_wp2_with fail
  refine (alive_any _).mono ?_
  rintro e w3 ⟨rfl, hb3⟩
  have HB : Hid (Below w.heap.size w w3) := hb3
  clear hb3
  go_wp2
  go_ret
  exact ⟨rfl, HB.out⟩

set_option maxHeartbeats 1000000 in
theorem walk_arg (a : Option Addr) (len cap : Nat) (wd : Int) (w : World) (hcap : len ≤ cap) (hm : cap ≤ maxLen) (hsm : len ≤ 4000) (h : wd < 0 ∨ 76 < wd ∨ (0 ≤ wd ∧ wd ≤ 76 ∧ wd % 4 ≠ 0)) :
    Calls Try.prog 7 #[.slice a len cap, .int .i64 wd] w fun e w' => e = .returned (.bool true) ∧ Below w.heap.size w w' := by
  have HH : Hid (wd < 0 ∨ 76 < wd ∨ (0 ≤ wd ∧ wd ≤ 76 ∧ wd % 4 ≠ 0)) := h
  clear h
  go_enter Try.func7, Try.ntmps7
  go_wp2_with fail
  refine (encode_arg a len cap wd w hcap hm HH.out).mono ?_
  rintro e w1 ⟨rfl, rfl⟩
  go_wp2_with fail
  refine (alive_any _).mono ?_
  rintro e w3 ⟨rfl, hb3⟩
  have HB : Hid (Below w.heap.size w w3) := hb3
  clear hb3
  go_wp2
  go_ret
  exact ⟨rfl, HB.out⟩

set_option maxHeartbeats 1000000 in
theorem walk_zero (a : Option Addr) (len cap : Nat) (l : List Int) (w : World) (hl : l.length = len) (hcap : len ≤ cap) (hm : cap ≤ maxLen) (hsm : len ≤ 4000) (hb : Byt l) (hrow : Row w a l) :
    Calls Try.prog 7 #[.slice a len cap, .int .i64 0] w fun e w' => e = .returned (.bool true) ∧ Below w.heap.size w w' := by
  have HL : Hid (l.length = len) := hl
  clear hl
  go_enter Try.func7, Try.ntmps7
  go_wp2_with fail
  refine (encode_ok a len cap 0 l w HL.out hb hcap hm (by omega) (by decide) (by decide) (by decide) hrow).mono ?_
  rintro e w1 ⟨rfl, hb1⟩
  have HB1 : Hid (Below w.heap.size w w1) := hb1
  clear hb1
  go_wp2_with fail
  refine (alive_any _).mono ?_
  rintro e w3 ⟨rfl, hb3⟩
  have HB : Hid (Below w.heap.size w w3) := HB1.out.trans (hb3.mono HB1.out.size)
  clear hb3
  go_wp2
  go_ret
  exact ⟨rfl, HB.out⟩

set_option maxHeartbeats 4000000 in
theorem walk_ok (a : Option Addr) (len cap : Nat) (wd : Int) (l : List Int) (w : World) (hl : l.length = len) (hcap : len ≤ cap) (hm : cap ≤ maxLen) (hsm : len ≤ 4000) (hb : Byt l) (hrow : Row w a l) (h0 : 0 < wd) (h1 : wd ≤ 76) (h2 : wd % 4 = 0) :
    Calls Try.prog 7 #[.slice a len cap, .int .i64 wd] w fun e w' => e = .returned (.bool true) ∧ Below w.heap.size w w' := by
  have hm' := hm
  unfold maxLen at hm'
  have HL : Hid (l.length = len) := hl
  have HY : Hid (Byt l) := hb
  have H4 : Hid (wd % 4 = 0) := h2
  obtain ⟨s, hs⟩ : ∃ s, s = strOfNums (encW wd 0 l) := ⟨_, rfl⟩
  have hsz : s.size ≤ 20000 := by
    have := encW_len2 wd _ 0 l (Nat.le_refl _)
    rw [hs, strOfNums_size]; omega
  have HB0 : Hid (s.data.toList = B (encW wd 0 l)) := by unfold Hid; rw [hs]; rfl
  have HSZ : Hid ((encW wd 0 l).length = s.size) := by unfold Hid; rw [hs, strOfNums_size]
  have HS : Hid (strOfNums (encW wd 0 l) = s) := hs.symm
  have hw0 : (wd == 0) = false := by rw [beq_eq_false_iff_ne]; omega
  clear hl hb h2 hs
  go_enter Try.func7, Try.ntmps7
  go_wp2_with fail
  refine (encode_ok a len cap wd l w HL.out HY.out hcap hm (by omega) (by omega) h1 H4.out hrow).mono ?_
  rintro e w1 ⟨rfl, hb1⟩
  rw [HS.out]
  have HB1 : Hid (Below w.heap.size w w1) := hb1
  clear hb1
  go_wp2
  go_loop [7, 8] (fun v i => ∃ (k : Nat) (n : Int), i = .int .i64 k ∧ v = .int .i64 n ∧ k ≤ s.size ∧ At wd l n ((encW wd 0 l).drop k)) (fun _ i => s.size - (intOf i).toNat)
  case atStart => exact ⟨0, 0, rfl, rfl, by omega, by simpa using at_start wd l HY.out (by omega)⟩
  case round =>
    obtain ⟨k, n, rfl, rfl, hk, hat⟩ := hrel
    have HAT : Hid (At wd l n ((encW wd 0 l).drop k)) := hat
    have hnb := at_bd hat
    obtain ⟨hn0, hn1⟩ := hnb
    by_cases hlt : k < s.size
    · obtain ⟨c, R, hd⟩ : ∃ c R, (encW wd 0 l).drop k = c :: R := by
        cases e : (encW wd 0 l).drop k with
        | nil =>
          have := congrArg List.length e
          rw [List.length_drop, HSZ.out] at this; simp at this; omega
        | cons c R => exact ⟨c, R, rfl⟩
      have HD : Hid ((encW wd 0 l).drop k = c :: R) := hd
      rw [hd] at hat
      obtain ⟨hc0, hc1, hr⟩ := at_round h0 H4.out hat
      have hc := str_at HB0.out hlt hd hc0 hc1
      have HR1 : Hid ((encW wd 0 l).drop (k + 1) = R) := by unfold Hid; rw [← List.drop_drop, hd]; rfl
      rcases hr with ⟨hne, hat'⟩ | ⟨rfl, rfl, d, R', hR, hat'⟩
      · have hcb : (c == 13) = false := by rw [beq_eq_false_iff_ne]; exact hne
        have HA' : Hid (At wd l (n + 1) ((encW wd 0 l).drop (k + 1))) := by unfold Hid; rw [HR1.out]; exact hat'
        clear hat hat' hd hne
        go_wp2
        go_round
        case rel => exact ⟨k + 1, n + 1, by go_num, rfl, by omega, HA'.out⟩
        case measure => simp [intOf]; omega
      · subst hR
        have hk2 : k + 2 < s.size := by
          have := congrArg List.length hd
          rw [List.length_drop, HSZ.out] at this; simp at this; omega
        have hlt1 : k + 1 < s.size := by omega
        have hc2 := str_at HB0.out hlt1 HR1.out (by decide) (by decide)
        have HA' : Hid (At n l 0 ((encW n 0 l).drop (k + 2))) := by
          unfold Hid
          have : (encW n 0 l).drop (k + 2) = d :: R' := by rw [show k + 2 = k + 1 + 1 from rfl, ← List.drop_drop, HR1.out]; rfl
          rw [this]; exact hat'
        clear hat hat' hd
        go_wp2
        go_round
        case rel => exact ⟨k + 2, 0, by go_num, rfl, by omega, HA'.out⟩
        case measure => simp [intOf]; omega
    · obtain rfl : k = s.size := by omega
      rw [List.drop_of_length_le (by rw [HSZ.out]; exact Nat.le_refl _)] at hat
      obtain ⟨g1, g2, g3⟩ := at_end hat
      clear hat
      by_cases hle : l = []
      · have hz : n ≤ 0 := by rcases (show n ≤ 0 ∨ 0 < n from by omega) with h | h; · exact h
                              · exact absurd hle (g3.1 h)
        have hl0 : (len : Int) ≤ 0 := by have := HL.out; rw [hle] at this; simp at this; omega
        have hfin : (decide (0 < n) == decide (0 < (len : Int))) = true := by rw [decide_eq_false (by omega), decide_eq_false (by omega)]; rfl
        clear g3 hle
        go_wp2_with fail
        refine (alive_any _).mono ?_
        rintro e w3 ⟨rfl, hb3⟩
        have HB : Hid (Below w.heap.size w w3) := HB1.out.trans (hb3.mono HB1.out.size)
        clear hb3
        go_wp2
        go_ret
        exact ⟨ret_bool (by first | rfl | (rw [decide_eq_false (show ¬ 0 < n by omega), decide_eq_false (show ¬ 0 < len by omega)]; rfl)), HB.out⟩
      · have hz : 0 < n := g3.2 hle
        have hl0 : 0 < (len : Int) := by have := HL.out; have := List.length_pos_iff.2 hle; omega
        have hfin : (decide (0 < n) == decide (0 < (len : Int))) = true := by rw [decide_eq_true (by omega), decide_eq_true (by omega)]; rfl
        clear g3 hle
        go_wp2_with fail
        refine (alive_any _).mono ?_
        rintro e w3 ⟨rfl, hb3⟩
        have HB : Hid (Below w.heap.size w w3) := HB1.out.trans (hb3.mono HB1.out.size)
        clear hb3
        go_wp2
        go_ret
        exact ⟨ret_bool (by first | rfl | exact decide_eq_true (by omega)), HB.out⟩

theorem walk (a0 : Option Addr) (len0 cap0 : Nat) (z0 : List Int) (a1 : Int) (w : World) (w0 : IsRow .u8 w a0 len0 cap0 z0) (w1 : (Lit.int .i64 a1).wf = true) :
    Calls Try.prog 7 #[.slice a0 len0 cap0, .int .i64 a1] w fun e w' => e = .returned (.bool true) ∧ Below w.heap.size w w' := by
  obtain ⟨l, h1, h2, h3, h4, h5⟩ := byte_view w0
  by_cases hl : 4000 < len0
  · exact walk_long a0 len0 cap0 a1 w h2 h3 hl
  · by_cases hw : 0 ≤ a1 ∧ a1 ≤ 76 ∧ a1 % 4 = 0
    · by_cases hz : a1 = 0
      · subst hz; exact walk_zero a0 len0 cap0 l w h1 h2 h3 (by omega) h4 h5
      · exact walk_ok a0 len0 cap0 a1 l w h1 h2 h3 (by omega) h4 h5 (by omega) hw.2.1 hw.2.2
    · exact walk_arg a0 len0 cap0 a1 w h2 h3 (by omega) (by omega)

set_option maxRecDepth 100000 in
theorem lifted (os : Os) (started : os.Started) (H : Type) (enc : TypeId × Value → H) :
    ReturnsInHanded {} Try.checked os 7 .any (Rows.bitsLinesSpec.pre6 enc Try.prog Try.f7 Rows.bitsLinesRow.domain false) (Rows.bitsLinesSpec.post enc Try.prog Try.f7 false true false false) := by
  refine returnsInHanded_of_change (C := Try.checked) own started (by kernel_rfl) Try.func7
    (ChangeSpec.witness6 (enc := enc) (C := Try.checked) false ⟨#[], #[.slice none 0 0, .int .i64 0], []⟩ 8 (by kernel_rfl) (by kernel_rfl) (by kernel_rfl) (by kernel_rfl)) ?_
  intro W base args ds gs before hval0 hW hcnd _
  have hval : ∀ (j : Nat) t v, Try.f7.params[j]? = some t → args[j]? = some v → Value.okWide Try.prog W .any base t v := hval0
  have hW' := hW
  obtain ⟨p, q, hA0, hV, rfl, hfz, hnd⟩ := hW
  have hA : DataW.TrodAll enc Try.prog W 0 (fun _ => true) true Try.f7.params.toList args.toList ds p := hA0
  rw [Try.params7] at hA hval
  obtain ⟨v0, vs0, d0, ds0, p0, q0, hargs, rfl, rfl, h0, r0⟩ := trodAll_cons hA
  obtain ⟨v1, vs1, d1, ds1, p1, q1, rfl, rfl, rfl, h1, r1⟩ := trodAll_cons r0
  obtain ⟨rfl, rfl, rfl⟩ := trodAll_nil r1
  obtain rfl : args = #[v0, v1] := by cases args; simp_all
  obtain ⟨rfl, rfl⟩ := trodVars_none hV
  obtain ⟨a0, len0, cap0, rfl⟩ := okWide_slice Try.underlying22 (hval 0 22 v0 rfl rfl)
  have k0 := h0
  have lt0 : ∀ x ∈ p0, x.block < W.heap.size := by obtain ⟨m, hm⟩ := k0; exact DataW.trod_lt m _ _ _ hm
  obtain ⟨z0, w0⟩ : ∃ zs, IsRow .u8 W a0 len0 cap0 zs := by
    obtain ⟨fuel, hf⟩ := h0
    rcases open_ints Try.underlying22 Try.underlying5 (by kernel_rfl) hf with ⟨hcs, _⟩ | ⟨x, l, c, zs, hcs, _, hl, hm, hz, _, hcell, hwz⟩
    · simp [Value.cells] at hcs
      obtain ⟨rfl, rfl, rfl⟩ := hcs
      exact ⟨[], .inl ⟨rfl, rfl, rfl, rfl⟩⟩
    · simp [Value.cells] at hcs
      obtain ⟨rfl, rfl, rfl⟩ := hcs
      exact ⟨zs, .inr ⟨_, rfl, hl, hm, by simpa using hz, hcell, hwz⟩⟩
  obtain ⟨a1, rfl, rfl, rfl, w1⟩ := open_int Try.underlying3 (hval 1 3 v1 rfl rfl) h1
  clear hA0 hval0
  refine (walk a0 len0 cap0 z0 a1 W w0 w1).mono fun e W' ⟨he, bel⟩ => ?_
  subst he
  exact ⟨_, rfl, _, _, _, [], _, [], hW', trodAll_mk1 (shut_bool Try.underlying4 _), (trodAll_cons_mk (Below.trod laidOut (by kernel_rfl) (of_decide_eq_true (by kernel_rfl)) k0 bel lt0) (trodAll_cons_mk (shut_int Try.underlying3 w1) trodAll_mk0)), rfl, bel.frame _, fun h => by cases h⟩

theorem over : Rows.bitsLinesRow.holds Try.pinned (OpenSpec.ofChange Rows.bitsLinesSpec) :=
  OpenClaim.holds_of_wide 7 Try.f7 rfl rfl rfl rfl rfl rfl rfl ⟨rfl, rfl, rfl, rfl, rfl⟩ rfl rfl rfl rfl rfl (by kernel_rfl) Try.func7 (by kernel_rfl)
    (of_decide_eq_true (by kernel_rfl)) (by unfold Func.isWrapper; first | (rw [if_pos (by decide +kernel)]; kernel_rfl) | (rw [if_neg (by decide +kernel)]; exact ⟨rfl, rfl⟩))
    (fun os started H enc _ => lifted os started H enc)


end Go.Proofs.Ytcoicejbbdenlaa.bitsLines
namespace Go.Proofs.Ytcoicejbbdenlaa
theorem bitsLines_holds : Rows.BitsLinesSaid := bitsLines.over
#print axioms bitsLines_holds
end Go.Proofs.Ytcoicejbbdenlaa
