/-
  The first of some bytes of a text: the contract of strings.IndexAny and ContainsAny, at texts of any bytes.
-/
import Derived.Test.YtomcjkghneingabDoorShelf
import Derived.Laws.RangeAny
import Derived.Laws.Runes
import Derived.Deep.LoopGhost
namespace Go.Proofs.YtomcjkghneingabDoor
open Go.RowKit
set_option linter.unusedVariables false

theorem get_nat (s : ByteArray) (i : Nat) (h : i < s.size) : s.get! i = s[i]'h := by
  simp [ByteArray.get!, getElem!_pos, h]
  rfl
theorem decode_facts (s : ByteArray) (pos : Nat) (h : pos < s.size) (ha : 128 ≤ (s[pos]'h).toNat) :
    128 ≤ (Utf8.decode s pos).1 ∧ (Utf8.decode s pos).1 ≤ 1114111 ∧ Lib.validRune ((Utf8.decode s pos).1 : Int) = true ∧ 1 ≤ (Utf8.decode s pos).2 ∧ pos + (Utf8.decode s pos).2 ≤ s.size ∧
      ∀ j (hj : j < s.size), pos ≤ j → j < pos + (Utf8.decode s pos).2 → 128 ≤ (s[j]'hj).toNat := by
  have g0 : s.get! (pos + 0) = s[pos]'h := get_nat s pos h
  have hn : ¬ (s[pos]'h).toNat < 128 := by omega
  have one : ∀ j (hj : j < s.size), pos ≤ j → j < pos + 1 → 128 ≤ (s[j]'hj).toNat := by
    intro j hj h1 h2
    obtain rfl : j = pos := by omega
    exact ha
  have con : ∀ k (hk : pos + k < s.size), (s.get! (pos + k)).toNat / 64 = 2 → 128 ≤ (s[pos + k]'hk).toNat := by
    intro k hk h2
    rw [get_nat s (pos + k) hk] at h2
    omega
  have hb : ∀ k, (s.get! (pos + k)).toNat < 256 := fun k => (s.get! (pos + k)).toNat_lt
  have h0 := hb 0; have h1 := hb 1; have h2 := hb 2; have h3 := hb 3
  have vr : ∀ n : Nat, Utf8.valid (n : Int) = true → Lib.validRune (n : Int) = true ∧ n ≤ 1114111 := by
    intro n hv
    unfold Utf8.valid at hv
    unfold Lib.validRune
    simp at hv ⊢
    omega
  rw [g0] at h0
  unfold Utf8.decode
  simp only [g0, hn, if_false]
  split
  · rename_i hc
    simp only [Bool.and_eq_true, decide_eq_true_eq, beq_iff_eq] at hc
    obtain ⟨hc0, hc1, hc2⟩ := hc
    split
    · rename_i hge
      refine ⟨hge, by omega, by unfold Lib.validRune; simp; omega, by omega, by omega, ?_⟩
      intro j hj q1 q2
      by_cases e : j = pos
      · subst e; exact ha
      · obtain rfl : j = pos + 1 := by omega
        exact con 1 hj hc2
    · exact ⟨by decide, by decide, by decide, by decide, by simp; omega, one⟩
  · split
    · rename_i hc
      simp only [Bool.and_eq_true, decide_eq_true_eq, beq_iff_eq] at hc
      obtain ⟨⟨hc0, hc1, hc2⟩, hc3, hc4⟩ := hc
      split
      · rename_i hge
        simp only [Bool.and_eq_true, decide_eq_true_eq] at hge
        have := vr _ hge.2
        refine ⟨by omega, this.2, this.1, by omega, by omega, ?_⟩
        intro j hj q1 q2
        by_cases e : j = pos
        · subst e; exact ha
        · by_cases e1 : j = pos + 1
          · subst e1; exact con 1 hj hc2
          · obtain rfl : j = pos + 2 := by omega
            exact con 2 hj hc4
      · exact ⟨by decide, by decide, by decide, by decide, by simp; omega, one⟩
    · split
      · rename_i hc
        simp only [Bool.and_eq_true, decide_eq_true_eq, beq_iff_eq] at hc
        obtain ⟨⟨⟨hc0, hc1, hc2⟩, hc3, hc4⟩, hc5, hc6⟩ := hc
        split
        · rename_i hge
          simp only [Bool.and_eq_true, decide_eq_true_eq] at hge
          have := vr _ hge.2
          refine ⟨by omega, this.2, this.1, by omega, by omega, ?_⟩
          intro j hj q1 q2
          by_cases e : j = pos
          · subst e; exact ha
          · by_cases e1 : j = pos + 1
            · subst e1; exact con 1 hj hc2
            · by_cases e2 : j = pos + 2
              · subst e2; exact con 2 hj hc4
              · obtain rfl : j = pos + 3 := by omega
                exact con 3 hj hc6
        · exact ⟨by decide, by decide, by decide, by decide, by simp; omega, one⟩
      · exact ⟨by decide, by decide, by decide, by decide, by simp; omega, one⟩
/-- All bytes are below 128. -/
def Asc (s : ByteArray) : Prop := ∀ i (h : i < s.size), (s[i]'h).toNat < 128
theorem iter_below (w : World) (s : ByteArray) (p : Nat) : Below w.heap.size w (w.iter s p) := keep w _
theorem asc_no (s : ByteArray) (h : Asc s) (b : UInt8) (hb : 128 ≤ b.toNat) : Lib.indexByte s.data.toList b = -1 := by
  have : ∀ l : List UInt8, (∀ x ∈ l, x.toNat < 128) → Lib.indexByte l b = -1 := by
    intro l
    induction l with
    | nil => intro _; rfl
    | cons x l ih =>
      intro hl
      have h1 := hl x (by simp)
      have h2 := ih (fun y hy => hl y (by simp [hy]))
      unfold Lib.indexByte
      have : (x == b) = false := by
        rw [beq_eq_false_iff_ne]
        rintro rfl
        omega
      rw [this, h2]; rfl
  apply this
  intro x hx
  obtain ⟨i, hi, rfl⟩ := List.getElem_of_mem hx
  exact h i (by simpa using hi)
theorem asc_from (s : ByteArray) (h : Asc s) (k : Nat) (hk : k ≤ s.size) : Asc (s.extract k s.size) := by
  intro i hi
  rw [ByteArray.size_extract] at hi
  have hl : k + i < s.size := by omega
  have := h (k + i) hl
  rwa [ByteArray.getElem_extract]
set_option maxHeartbeats 4000000 in
set_option maxRecDepth 100000 in
theorem indexRune_high (s : ByteArray) (r : Int) (w : World) (h128 : 128 ≤ r) (hr : r ≤ 1114111) (hv : Lib.validRune r = true) (ha : Asc s) (hs : s.size ≤ 1000) :
    Calls Tryd.prog 67 #[.string s, .int .i32 r] w fun e w' => e = .returned (.int .i64 (-1)) ∧ Below w.heap.size w w' := by
  have HA : Hid (Asc s) := ha
  clear ha
  have d0 : decide ((0 : Int) ≤ r) = true := by simp; omega
  have d1 : decide (r < 128) = false := by simp; omega
  by_cases he : r = 65533
  · subst he
    go_enter Tryd.func67, Tryd.ntmps67
    go_wp2
    go_loopg [5, 6] s.size (fun g _ _ wx => ∃ i : Nat, i + g = s.size ∧ wx = w.iter s i)
    case atStart => exact ⟨0, by omega, rfl⟩
    case round =>
      obtain ⟨i, hig, rfl⟩ := hrel
      cases gk with
      | zero =>
        obtain rfl : i = s.size := by omega
        have hnx := fun ty => run_next_end (P := Tryd.prog) w s s.size ty (by omega)
        go_wp2
        go_ret
        exact ⟨rfl, iter_below _ _ _⟩
      | succ g =>
        have hi : i < s.size := by omega
        have hx128 := HA.out i hi
        have hnx := fun ty => run_next_ascii (P := Tryd.prog) w s i ty hi hx128
        have hne : (((s[i]'hi).toNat : Int) == 65533) = false := by
          rw [beq_eq_false_iff_ne]; omega
        obtain ⟨x, hx⟩ : ∃ x : Nat, (s[i]'hi).toNat = x := ⟨_, rfl⟩
        rw [hx] at hnx hne hx128
        clear hx
        go_wp2
        go_roundg g
        case measure => omega
        case rel => exact ⟨i + 1, by omega, rfl⟩
  · have hne : (r == 65533) = false := by rw [beq_eq_false_iff_ne]; exact he
    have hval : Utf8.valid r = true := by
      unfold Lib.validRune at hv
      unfold Utf8.valid
      simp at hv ⊢
      omega
    obtain ⟨e1, e2, e3⟩ := encode_facts r hval h128
    obtain ⟨rs, hrs⟩ : ∃ rs, Utf8.encode r = rs := ⟨_, rfl⟩
    rw [hrs] at e1 e2 e3
    obtain ⟨n, hn⟩ : ∃ n, rs.size - 1 = n := ⟨_, rfl⟩
    have hn1 : n < rs.size := by omega
    have hrn : rs.size = n + 1 := by omega
    have e4 := e3 (by omega)
    simp only [hn] at e4
    obtain ⟨b, hb⟩ : ∃ b, rs[n]'hn1 = b := ⟨_, rfl⟩
    rw [hb] at e4
    clear e3
    have hsub : IntKind.i64.wrap ((rs.size : Int) - 1) = (n : Int) := by rw [IntKind.wrap_i64]; omega
    by_cases hl : n < s.size
    · have hne2 : (((s[n]'hl).toNat : Int) != (b.toNat : Int)) = true := by
        rw [bne_iff_ne]
        have := HA.out n hl
        omega
      have hno := asc_no _ (asc_from s HA.out (n + 1) (by omega)) b e4
      have hcall : ∀ V, Calls Tryd.prog 22 #[.string (s.extract (n + 1) s.size), .int .u8 (b.toNat : Int)] V fun e w' => e = .returned (.int .i64 (-1)) ∧ V = w' := by
        intro V
        refine (strings_IndexByte _ _ V).mono ?_
        rintro e w' ⟨rfl, rfl⟩
        refine ⟨?_, rfl⟩
        have : ((b.toNat : Int)).toNat.toUInt8 = b := by simp
        rw [this, hno]
      clear hno
      go_enter Tryd.func67, Tryd.ntmps67
      go_wp2_with (go_at_call 73; refine (utf8_ValidRune r _).mono ?_; rintro e w' ⟨rfl, rfl⟩; rw [hv])
      refine wp_scope_straight ?_
      go_wp2
      go_loopw [9] (fun i wr => i = .int .i64 n ∧ wr = w') (fun _ _ => 0)
      case atStart => exact ⟨rfl, rfl⟩
      case round =>
        obtain ⟨rfl, rfl⟩ := hrel
        have hw1 : IntKind.i64.wrap ((n : Int) + 1) = (n : Int) + 1 := by rw [IntKind.wrap_i64]; omega
        have hn2 : (n : Int) < (s.size : Int) := by omega
        have hn3 : (n : Int) + 1 ≤ (s.size : Int) := by omega
        have hn4 : (n : Int) < (rs.size : Int) := by omega
        have htn : ((n : Int) + 1).toNat = n + 1 := by omega
        have hn5 : (0 : Int) ≤ (n : Int) + 1 := by omega
        go_wp2
        refine wp_scope_straight ?_
        go_wp2
        go_region
        go_wp2
        go_region_held3 (fun _ => True) (trivial) (first
          | (go_at_call 22; refine (hcall _).mono ?_; rintro e w5 ⟨rfl, rfl⟩))
        all_goals
          go_wp2
          change bodyPost Tryd.prog Tryd.f67 (fun e w' => e = .returned (.int .i64 (-1)) ∧ Below wr.heap.size wr w') Exit.ret _ _
          go_ret
          exact ⟨rfl, below_drewN (below_drewN (Below.refl _ _) 1) 1⟩
    · go_enter Tryd.func67, Tryd.ntmps67
      go_wp2_with (go_at_call 73; refine (utf8_ValidRune r _).mono ?_; rintro e w' ⟨rfl, rfl⟩; rw [hv])
      refine wp_scope_straight ?_
      go_wp2
      go_loopw [9] (fun i wr => i = .int .i64 n ∧ wr = w') (fun _ _ => 0)
      case atStart => exact ⟨rfl, rfl⟩
      case round =>
        obtain ⟨rfl, rfl⟩ := hrel
        go_wp2
        try simp only [Exit.noGoto]
        go_ret
        exact ⟨rfl, Below.refl _ _⟩
/-- The place of the first of some bytes, or -1. -/
def anyI (cs l : List Int) : Int := if l.any cs.contains then ((l.takeWhile fun c => !cs.contains c).length : Int) else -1
theorem contains_nums (cs : List UInt8) (b : UInt8) : (cs.map fun x => (x.toNat : Int)).contains (b.toNat : Int) = cs.contains b := by
  induction cs with
  | nil => rfl
  | cons x cs ih =>
    rw [List.map_cons, List.contains_cons, List.contains_cons, ih]
    congr 1
    rw [Bool.eq_iff_iff]
    simp only [beq_iff_eq]
    constructor
    · intro h
      exact UInt8.toNat_inj.1 (by omega)
    · intro h; rw [h]
theorem any_lib (cs : List UInt8) : ∀ l : List UInt8, Lib.indexAny l cs = anyI (cs.map fun x => (x.toNat : Int)) (l.map fun x => (x.toNat : Int))
  | [] => rfl
  | b :: l => by
    have ih := any_lib cs l
    have hc := contains_nums cs b
    unfold anyI at ih ⊢
    rw [Lib.indexAny, ih, List.map_cons, List.any_cons, List.takeWhile_cons, hc]
    cases cs.contains b with
    | true => simp
    | false =>
      simp only [Bool.false_eq_true, if_false, Bool.false_or, Bool.not_false, if_true]
      split
      · rw [if_neg (by first | (simp; done) | (simp; omega))]; simp
      · simp
theorem any_lib' (s chars : ByteArray) : Lib.indexAny s.data.toList chars.data.toList = anyI (nums chars) (nums s) := any_lib _ _
theorem hv109 : ∀ w, (zeroValue 73).run Tryd.prog w = .ok (.agg (Array.replicate 256 (.bool false))) w := by intro w; kernel_rfl
theorem asc_list {s : ByteArray} (h : Asc s) : ∀ (j : Nat) b, s.data.toList[j]? = some b → b.toNat < 128 := by
  intro j b hb
  have hj : j < s.data.toList.length := (List.getElem?_eq_some_iff.1 hb).1
  rw [List.getElem?_eq_getElem hj] at hb
  simp only [Option.some.injEq] at hb
  have := h j (by simpa using hj)
  rw [← hb]
  exact this
set_option maxHeartbeats 8000000 in
set_option maxRecDepth 1000000 in
theorem indexAny_short (s chars : ByteArray) (w : World) (h2 : 2 ≤ chars.size) (hc1 : chars.size ≤ 1000) (h8 : s.size ≤ 8) (ha : Asc chars) :
    Calls Tryd.prog 63 #[.string s, .string chars] w fun e w' => e = .returned (.int .i64 (anyI (nums chars) (nums s))) ∧ Below w.heap.size w w' := by
  rw [← any_lib']
  have HA : Hid (Asc chars) := ha
  clear ha
  have hemp : chars.toList.isEmpty = false := by
    rw [Lib.toList_data]
    cases h : chars.data.toList with
    | nil => have := Lib.size_eq chars; rw [h, List.length_nil] at this; omega
    | cons _ _ => rfl
  have hn1 : ((chars.size : Int) == 1) = false := beq_eq_false_iff_ne.2 (by omega)
  have h8z : decide ((8 : Int) < (s.size : Int)) = false := decide_eq_false (by omega)
  go_enter Tryd.func63, Tryd.ntmps63
  go_wp2_with (go_at_call 69; refine (strings_shouldUseASCIISet _ _).mono ?_; rintro e w' ⟨rfl, hw⟩; rw [hw, h8z])
  go_loopg [9, 10] s.size (fun g _ _ wx => ∃ i : Nat, i ≤ s.size ∧ s.size ≤ i + g ∧ wx.heap[w.heap.size]? = some (.stringIter s i) ∧ Below w.heap.size w wx ∧ Lib.NoAny s.data.toList chars.data.toList i)
  case atStart => exact ⟨0, by omega, by omega, World.iter_heap w s 0, keep w _, Lib.NoAny.zero _ _⟩
  case round =>
    obtain ⟨i, hi, hig, hit, hb, hno⟩ := hrel
    have HN : Hid (Lib.NoAny s.data.toList chars.data.toList i) := hno
    have HB : Hid (Below w.heap.size w wr) := hb
    clear hno hb
    have hwlt : w.heap.size < wr.heap.size := (Array.getElem?_eq_some_iff.1 hit).1
    by_cases hlt : i < s.size
    · obtain ⟨x, hx⟩ : ∃ x : UInt8, s[i]'hlt = x := ⟨_, rfl⟩
      have hxl : s.data.toList[i]? = some x := by rw [← hx]; exact Lib.data_getElem? s i hlt
      have Hx : Hid (s.data.toList[i]? = some x) := hxl
      have keepI : ∀ p, Below w.heap.size w (wr.iterAt w.heap.size s p) := fun p =>
        ⟨HB.out.os, HB.out.tape, HB.out.output, by simp [World.iterAt]; exact HB.out.size, fun k hk => by
          rw [show (wr.iterAt w.heap.size s p).heap[k]? = wr.heap[k]? from by simp [World.iterAt, show ¬ w.heap.size = k from by omega]]
          exact HB.out.block k hk⟩
      have HK : Hid (∀ p, Below w.heap.size w (wr.iterAt w.heap.size s p)) := keepI
      have HI : Hid (∀ p, (wr.iterAt w.heap.size s p).heap[w.heap.size]? = some (.stringIter s p)) := fun p => Lib.iterAt_heap wr _ s i p hit
      clear hxl keepI
      by_cases h128 : x.toNat < 128
      · have hnx := fun ty => Lib.run_next_ascii_at (P := Tryd.prog) wr w.heap.size s i ty hit hlt (by rw [hx]; exact h128)
        rw [hx] at hnx
        clear hx
        have hcon := Lib.contains_iff_indexByte chars.data.toList x
        have hback : ((x.toNat : Int)).toNat.toUInt8 = x := by simp
        cases hin : chars.data.toList.contains x
        · rw [hin] at hcon
          have hlt2 : ¬ ((0 : Int) ≤ Lib.indexByte chars.data.toList x) := of_decide_eq_false hcon.symm
          clear hcon
          cases gk with
          | zero => omega
          | succ g =>
          go_wp2_with (go_at_call 67; refine (strings_IndexRune_ascii _ _ _ (by omega) (by omega)).mono ?_; rintro e w' ⟨rfl, hw⟩; rw [hw, hback])
          go_roundg g
          case measure => omega
          case rel => exact ⟨i + 1, by omega, by omega, HI.out _, HK.out _, HN.out.succ Hx.out hin⟩
        · rw [hin] at hcon
          have hge : (0 : Int) ≤ Lib.indexByte chars.data.toList x := of_decide_eq_true hcon.symm
          clear hcon
          go_wp2_with (go_at_call 67; refine (strings_IndexRune_ascii _ _ _ (by omega) (by omega)).mono ?_; rintro e w' ⟨rfl, hw⟩; rw [hw, hback])
          go_ret
          exact ⟨by rw [Lib.indexAny_hit HN.out Hx.out hin]; rfl, HK.out _⟩
      · have hdf := decode_facts s i hlt (by rw [hx]; omega)
        have hnx := fun ty => Lib.run_next_any_at (P := Tryd.prog) wr w.heap.size s i ty hit hlt
        obtain ⟨r, hr⟩ : ∃ r, (Utf8.decode s i).1 = r := ⟨_, rfl⟩
        obtain ⟨k, hk⟩ : ∃ k, (Utf8.decode s i).2 = k := ⟨_, rfl⟩
        rw [hr, hk] at hnx hdf
        obtain ⟨d1, d2, d3, d4, d5, d6⟩ := hdf
        have HN2 : Hid (Lib.NoAny s.data.toList chars.data.toList (i + k)) := by
          intro j b hj hb
          by_cases hji : j < i
          · exact HN.out j b hji hb
          · have hjs : j < s.size := by omega
            have := d6 j hjs (by omega) hj
            rw [Lib.data_getElem? s j hjs] at hb
            simp only [Option.some.injEq] at hb
            rw [hb] at this
            rw [Bool.eq_false_iff]
            intro hc
            have hm := List.contains_iff_mem.1 hc
            obtain ⟨q, hq, rfl⟩ := List.getElem_of_mem hm
            have := asc_list HA.out q _ (List.getElem?_eq_getElem hq)
            omega
        clear d6 hr hk hx
        have hcall := fun V => indexRune_high chars (r : Int) V (by omega) (by omega) d3 HA.out hc1
        have HI2 := HI.out (i + k)
        have HK2 := HK.out (i + k)
        obtain ⟨W2, hW2⟩ : ∃ W2, wr.iterAt w.heap.size s (i + k) = W2 := ⟨_, rfl⟩
        rw [hW2] at HI2 HK2 hnx
        have HI3 : Hid (W2.heap[w.heap.size]? = some (.stringIter s (i + k))) := HI2
        have HK3 : Hid (Below w.heap.size w W2) := HK2
        clear HI2 HK2 hit
        cases gk with
        | zero => omega
        | succ g =>
        go_wp2_with (go_at_call 67; refine (hcall _).mono ?_; rintro e w3 ⟨rfl, hb3⟩)
        have hs3 : w.heap.size < W2.heap.size := (Array.getElem?_eq_some_iff.1 HI3.out).1
        go_roundg g
        case measure => omega
        case rel => exact ⟨i + k, by omega, by omega, (hb3.block _ hs3).trans HI3.out, HK3.out.trans (hb3.mono (by omega)), HN2.out⟩
    · obtain rfl : i = s.size := by omega
      have hnx := fun ty => Lib.run_next_end_at (P := Tryd.prog) wr w.heap.size s s.size ty hit (by omega)
      go_wp2
      go_ret
      exact ⟨by rw [Lib.indexAny_none (by rw [← Lib.size_eq]; exact HN.out)]; rfl, HB.out⟩
set_option maxRecDepth 100000 in
theorem indexAny_any (s chars : ByteArray) (w : World) (h2 : 2 ≤ chars.size) (hc1 : chars.size ≤ 1000) (hs : s.size ≤ 1000000000) (ha : Asc chars) :
    Calls Tryd.prog 63 #[.string s, .string chars] w fun e w' => e = .returned (.int .i64 (anyI (nums chars) (nums s))) ∧ Below w.heap.size w w' := by
  by_cases h8 : s.size ≤ 8
  · exact indexAny_short s chars w h2 hc1 h8 ha
  · refine (strings_IndexAny_long hv109 s chars w h2 (by omega) (by omega) (by omega) (asc_list ha)).mono ?_
    rintro e w' ⟨rfl, rfl⟩
    exact ⟨by rw [any_lib'], (keep w _).alloc (by simp) _⟩
end Go.Proofs.YtomcjkghneingabDoor
