/-
  The contracts of next, placed, byteOf.
-/
import Derived.Test.YtlhhbmolkiojfaaDoorCu
import Derived.Deep.MidRow
namespace Go.Proofs.YtlhhbmolkiojfaaDoor
open Go.RowKit
set_option linter.unusedVariables false

set_option maxRecDepth 100000 in
set_option maxHeartbeats 4000000 in
theorem nextS_any (s : Int) (a : Option Addr) (len cap : Nat) (l : List Int) (w : World) (hs : SetOk s) (hlen : l.length = len) (hl : Byt l) (hne : l ≠ []) (hcap : len ≤ cap) (hm : cap ≤ maxLen) (hrow : Row w a l) (h9 : T9 w) (hW : TW w) :
    Calls Tryd.prog 21 #[.int .i64 s, .slice a len cap] w fun e w' => e = .returned (npV (nxS s l)) ∧ Below w.heap.size w w' := by
  by_cases h2 : s = 2
  · subst h2
    rw [show nxS 2 l = (Ut.decZ l).map (fun p => (p, (Ut.encZ p).length)) from rfl]
    have HW : Hid (Row w a l) := hrow
    have HN : Hid (l ≠ []) := hne
    have HL : Hid (l.length = len) := hlen
    clear hrow hne hlen
    cases hd : Ut.decZ l with
    | none =>
      have HD : Hid (Ut.decZ l = none) := hd
      clear hd
      go_enter Tryd.func21, Tryd.ntmps21
      go_wp2_with (go_at_call 28; refine (Ut.next_none a len cap l w HL.out hl hcap hm HW.out HN.out HD.out).mono ?_; rintro e w' ⟨rfl, rfl⟩)
      go_ret2
      exact ⟨rfl, Below.refl _ _⟩
    | some p =>
      have HD : Hid (Ut.decZ l = some p) := hd
      clear hd
      go_enter Tryd.func21, Tryd.ntmps21
      go_wp2_with (go_at_call 28; refine (Ut.next_some a len cap l p w HL.out hl hcap hm HW.out HD.out).mono ?_; rintro e w' ⟨rfl, rfl⟩)
      go_ret2
      exact ⟨rfl, Below.refl _ _⟩
  · have b2 : (s == 2) = false := by simpa using h2
    by_cases h7 : s = 7 ∨ s = 8
    · have HN : Hid (nxS s l = nextU s l) := by unfold Hid nxS; rw [if_neg h2, if_pos h7]
      unfold Hid at HN
      rw [HN]
      clear HN
      have K : Calls Tryd.prog 34 #[.int .i64 s, .slice a len cap] w fun e w' => e = .returned (npV (nextU s l)) ∧ Below w.heap.size w w' := nextU_any s a len cap l w hlen hl hcap hm hrow
      obtain ⟨q, hq⟩ : ∃ q, nextU s l = q := ⟨_, rfl⟩
      rw [hq] at K ⊢
      clear hq hrow hlen hne
      cases q with
      | none =>
        rcases h7 with rfl | rfl
        all_goals (
          go_enter Tryd.func21, Tryd.ntmps21
          go_wp2_with (go_at_call 34; refine K.mono ?_; rintro e w' ⟨rfl, hb⟩; unfold npV)
          go_ret2
          exact ⟨rfl, hb⟩)
      | some q =>
        obtain ⟨p, n⟩ := q
        rcases h7 with rfl | rfl
        all_goals (
          go_enter Tryd.func21, Tryd.ntmps21
          go_wp2_with (go_at_call 34; refine K.mono ?_; rintro e w' ⟨rfl, hb⟩; unfold npV)
          go_ret2
          exact ⟨rfl, hb⟩)
    · have b7 : (s == 7) = false := by simp; omega
      have b8 : (s == 8) = false := by simp; omega
      match l, hlen, hl, hne, hrow with
      | c :: r, hlen, hl, _, hrow =>
        have hc := hl c (by simp)
        obtain ⟨b, off, rfl, c0⟩ := row_one hrow
        have hn : 0 < len := by simp at hlen; omega
        have HN : Hid (nxS s (c :: r) = if ptOf s c = -1 then none else some (ptOf s c, 1)) := by unfold Hid nxS; rw [if_neg h2, if_neg h7]
        unfold Hid at HN
        rw [HN]
        have K := pointOf_any s c w hc.1 hc.2 h9 hW
        obtain ⟨p, hp⟩ : ∃ p, ptOf s c = p := ⟨_, rfl⟩
        rw [hp] at K ⊢
        clear HN hp hrow hlen h9 hW
        by_cases hp1 : p = -1
        · subst hp1
          rw [if_pos rfl]
          go_enter Tryd.func21, Tryd.ntmps21
          go_wp2_with (go_at_call 35; refine K.mono ?_; rintro e w' ⟨rfl, rfl⟩)
          go_ret2
          exact ⟨rfl, Below.refl _ _⟩
        · rw [if_neg hp1]
          have bp : (p == -1) = false := by simpa using hp1
          go_enter Tryd.func21, Tryd.ntmps21
          go_wp2_with (go_at_call 35; refine K.mono ?_; rintro e w' ⟨rfl, rfl⟩)
          go_ret2
          exact ⟨rfl, Below.refl _ _⟩

theorem index_arr {arr : Array Value} {k : Nat} {x : Int} (hk : k < 32) (h : arr[k]? = some (Value.int .i32 x)) (W : World) :
    (Instr.index 63 (.agg arr) (.int .i64 k)).run Tryd.prog W = .ok (.int .i32 x) W := by
  have hn : (0 : Int) ≤ (k : Int) ∧ (k : Int) < ((32 : Nat) : Int) := by omega
  simp [Instr.index, run_underlying Tryd.underlying63, asIntOf, hn, part, h, go_sem]
  omega
theorem place_drop : ∀ (l : List Int) (f p : Int) (k : Nat), (∀ j, j < k → l.getD j 0 ≠ p) → k ≤ l.length → placeZ l f p = placeZ (l.drop k) (f + k) p
  | l, f, p, 0, _, _ => by simp
  | [], f, p, k + 1, _, h => by simp at h
  | x :: l, f, p, k + 1, hj, h => by
    have h0 := hj 0 (by omega)
    simp at h0
    rw [placeZ, if_neg h0, place_drop l (f + 1) p k (fun j hj' => by have := hj (j + 1) (by omega); simpa using this) (by simpa using h), List.drop_succ_cons]
    congr 1
    omega
set_option maxRecDepth 100000 in
set_option maxHeartbeats 4000000 in
theorem placed_any (l : List Int) (arr : Array Value) (f p : Int) (w : World) (hl : l.length = 32) (ha : arr = (l.map (Value.int .i32)).toArray) (hf0 : 0 ≤ f) (hf1 : f < 1000) :
    Calls Tryd.prog 52 #[.agg arr, .int .i64 f, .int .i32 p] w fun e w' => e = .returned (.int .i64 (placeZ l f p)) ∧ Below w.heap.size w w' := by
  have hsz : arr.size = 32 := by rw [ha]; simp [hl]
  have hg : ∀ k, k < 32 → arr[k]? = some (.int .i32 (l.getD k 0)) := by
    intro k hk
    rw [ha]
    simp [List.getD_eq_getElem?_getD, List.getElem?_eq_getElem (show k < l.length by omega)]
  have h63 : (Tryd.prog.info? 63).map (·.size) = some arr.toList.length := by rw [Array.length_toList, hsz]; kernel_rfl
  have hra : (w.alloc (.cells arr 63)).rangeAt w.heap.size 0 arr.toList := by
    intro j v hv
    rw [Nat.zero_add]
    simpa using hv
  clear ha
  go_enter Tryd.func52, Tryd.ntmps52
  go_wp2_with (refine wpList_load_mid rfl 63 (.tmp 3) rfl w.heap.size 0 rfl arr.toList _ hra Tryd.underlying63 rfl h63 ?_)
  go_loopw [7, 8, 10] (fun _ _ i wr => ∃ k : Nat, i = .int .i64 k ∧ k ≤ 32 ∧ (∀ j, j < k → l.getD j 0 ≠ p) ∧ wr = w.alloc (.cells arr 63)) (fun _ _ i _ => 32 - (intOf i).toNat)
  case atStart => exact ⟨0, rfl, by omega, fun j hj => by omega, rfl⟩
  case round =>
    obtain ⟨k, rfl, hk, hno, rfl⟩ := hrel
    have HNO : Hid (∀ j, j < k → l.getD j 0 ≠ p) := hno
    clear hno hra
    by_cases hlt : k < 32
    · have hgk := hg k hlt
      obtain ⟨x, hx⟩ : ∃ x, l.getD k 0 = x := ⟨_, rfl⟩
      rw [hx] at hgk
      have HX : Hid (l.getD k 0 = x) := hx
      clear hx hg
      have hix := index_arr (k := k) hlt hgk
      by_cases hxp : x = p
      · subst hxp
        have HR : Hid (placeZ l f x = f + k) := by
          unfold Hid
          rw [place_drop l f x k HNO.out (by omega), List.drop_eq_getElem_cons (by omega)]
          have : l[k] = x := by have := HX.out; rw [List.getD_eq_getElem?_getD, List.getElem?_eq_getElem (by omega)] at this; simpa using this
          rw [this, placeZ, if_pos rfl]
        have hw : IntKind.i64.wrap (f + (k : Int)) = f + k := by rw [IntKind.wrap_i64]; omega
        clear hgk
        go_wp2
        go_ret
        exact ⟨ret_int HR.out.symm, keep _ _⟩
      · have bx : (x == p) = false := by simpa using hxp
        clear hgk
        go_wp2
        go_roundw
        case rel => exact ⟨k + 1, by go_num, by omega, fun j hj => by
          rcases Nat.lt_or_ge j k with h | h
          · exact HNO.out j h
          · rw [show j = k by omega, HX.out]; exact hxp, trivial⟩
        case measure => simp [intOf]; omega
    · obtain rfl : k = 32 := by omega
      have HR : Hid (placeZ l f p = -1) := by
        unfold Hid
        rw [place_drop l f p 32 HNO.out (by omega), List.drop_of_length_le (by omega)]
        rfl
      clear hg
      go_wp2
      go_ret
      exact ⟨ret_int HR.out.symm, keep _ _⟩
theorem table_at {w : World} {g : Nat} {l : List Int} (hl : l.length = 32) (h : ∀ i, i < 32 → w.cell? ⟨g, i, none⟩ = some (.int .i32 (l.getD i 0))) : w.rangeAt g 0 (l.map (Value.int .i32)) := by
  intro j v hv
  rw [Nat.zero_add]
  have hj : j < 32 := by
    rcases Nat.lt_or_ge j 32 with h | h
    · exact h
    · rw [List.getElem?_eq_none (by rw [List.length_map]; omega)] at hv; cases hv
  rw [h j hj]
  rw [List.getElem?_map, List.getElem?_eq_getElem (by omega)] at hv
  rw [List.getD_eq_getElem?_getD, List.getElem?_eq_getElem (by omega)]
  exact hv
theorem s9_len : s9.length = 32 := rfl
theorem sW_len : sW.length = 32 := rfl
set_option maxRecDepth 100000 in
set_option maxHeartbeats 4000000 in
theorem byteOf_any (s p : Int) (w : World) (hp0 : 0 ≤ p) (hp1 : p ≤ 1114111) (h9 : T9 w) (hW : TW w) :
    Calls Tryd.prog 43 #[.int .i64 s, .int .i32 p] w fun e w' => e = .returned (.int .i64 (byOf s p)) ∧ Below w.heap.size w w' := by
  have h9r := table_at (g := 0) s9_len h9
  have hWr := table_at (g := 1) sW_len hW
  have K9 : ∀ W : World, Calls Tryd.prog 52 #[.agg (s9.map (Value.int .i32)).toArray, .int .i64 160, .int .i32 p] W fun e w' => e = .returned (.int .i64 (placeZ s9 160 p)) ∧ Below W.heap.size W w' := fun W => placed_any s9 _ 160 p W rfl rfl (by omega) (by omega)
  have KW : ∀ W : World, Calls Tryd.prog 52 #[.agg (sW.map (Value.int .i32)).toArray, .int .i64 128, .int .i32 p] W fun e w' => e = .returned (.int .i64 (placeZ sW 128 p)) ∧ Below W.heap.size W w' := fun W => placed_any sW _ 128 p W rfl rfl (by omega) (by omega)
  have i9 : (Tryd.prog.info? 63).map (·.size) = some (s9.map (Value.int .i32)).length := by kernel_rfl
  have iW : (Tryd.prog.info? 63).map (·.size) = some (sW.map (Value.int .i32)).length := by kernel_rfl
  by_cases hlt : p < 256
  · have K : Calls Tryd.prog 35 #[.int .i64 s, .int .u8 p] w fun e w' => e = .returned (.int .i32 (ptOf s p)) ∧ w = w' := pointOf_any s p w hp0 hlt h9 hW
    have hw : IntKind.u8.wrap p = p := by rw [IntKind.wrap_u8]; omega
    by_cases he : ptOf s p = p
    · have HS : Hid (byOf s p = p) := by unfold Hid byOf; rw [if_pos ⟨hlt, he⟩]
      rw [he] at K
      clear he h9 hW K9 KW i9 iW h9r hWr
      go_enter Tryd.func43, Tryd.ntmps43
      go_wp2_with (go_at_call 35; refine K.mono ?_; rintro e w' ⟨rfl, rfl⟩)
      go_ret
      exact ⟨ret_int HS.out.symm, Below.refl _ _⟩
    · have ne : ¬ (p < 256 ∧ ptOf s p = p) := fun h => he h.2
      by_cases h4 : s = 4
      · subst h4
        have HS : Hid (byOf 4 p = placeZ s9 160 p) := by unfold Hid byOf; rw [if_neg ne, if_pos rfl]
        obtain ⟨q, hq⟩ : ∃ q, ptOf 4 p = q := ⟨_, rfl⟩
        rw [hq] at K he
        have bq : (q == p) = false := by simpa using he
        clear hq
        clear ne h9 hW KW iW hWr
        obtain ⟨arr, harr⟩ : ∃ arr, s9.map (Value.int .i32) = arr := ⟨_, rfl⟩
        rw [harr] at K9 i9 h9r
        obtain ⟨z, hz⟩ : ∃ z, placeZ s9 160 p = z := ⟨_, rfl⟩
        rw [hz] at K9
        have HZ : Hid (byOf 4 p = z) := by unfold Hid; rw [HS.out, hz]
        clear harr hz HS
        go_enter Tryd.func43, Tryd.ntmps43
        go_wp2_with (first | (go_at_call 35; refine K.mono ?_; rintro e w' ⟨rfl, rfl⟩) | (refine wpList_load_mid rfl 63 (.global 0) rfl 0 0 rfl arr _ h9r Tryd.underlying63 rfl i9 ?_) | (go_at_call 52; refine (K9 _).mono ?_; rintro e w' ⟨rfl, hb⟩))
        go_ret
        exact ⟨ret_int HZ.out.symm, hb⟩
      · by_cases h5 : s = 5
        · subst h5
          have HS : Hid (byOf 5 p = placeZ sW 128 p) := by unfold Hid byOf; rw [if_neg ne, if_neg h4, if_pos rfl]
          obtain ⟨q, hq⟩ : ∃ q, ptOf 5 p = q := ⟨_, rfl⟩
          rw [hq] at K he
          have bq : (q == p) = false := by simpa using he
          clear hq
          clear ne h9 hW K9 i9 h9r h4
          obtain ⟨arr, harr⟩ : ∃ arr, sW.map (Value.int .i32) = arr := ⟨_, rfl⟩
          rw [harr] at KW iW hWr
          obtain ⟨z, hz⟩ : ∃ z, placeZ sW 128 p = z := ⟨_, rfl⟩
          rw [hz] at KW
          have HZ : Hid (byOf 5 p = z) := by unfold Hid; rw [HS.out, hz]
          clear harr hz HS
          go_enter Tryd.func43, Tryd.ntmps43
          go_wp2_with (first | (go_at_call 35; refine K.mono ?_; rintro e w' ⟨rfl, rfl⟩) | (refine wpList_load_mid rfl 63 (.global 1) rfl 1 0 rfl arr _ hWr Tryd.underlying63 rfl iW ?_) | (go_at_call 52; refine (KW _).mono ?_; rintro e w' ⟨rfl, hb⟩))
          go_ret
          exact ⟨ret_int HZ.out.symm, hb⟩
        · have HS : Hid (byOf s p = -1) := by unfold Hid byOf; rw [if_neg ne, if_neg h4, if_neg h5]
          obtain ⟨q, hq⟩ : ∃ q, ptOf s p = q := ⟨_, rfl⟩
          rw [hq] at K he
          have bq : (q == p) = false := by simpa using he
          clear hq
          have b4 : (s == 4) = false := by simpa using h4
          have b5 : (s == 5) = false := by simpa using h5
          clear ne h9 hW K9 KW i9 iW h9r hWr
          go_enter Tryd.func43, Tryd.ntmps43
          go_wp2_with (first | (go_at_call 35; refine K.mono ?_; rintro e w' ⟨rfl, rfl⟩))
          go_ret
          exact ⟨ret_int HS.out.symm, Below.refl _ _⟩
  · have ne : ¬ (p < 256 ∧ ptOf s p = p) := fun h => hlt h.1
    by_cases h4 : s = 4
    · subst h4
      have HS : Hid (byOf 4 p = placeZ s9 160 p) := by unfold Hid byOf; rw [if_neg ne, if_pos rfl]
      skip
      clear ne h9 hW KW iW hWr
      obtain ⟨arr, harr⟩ : ∃ arr, s9.map (Value.int .i32) = arr := ⟨_, rfl⟩
      rw [harr] at K9 i9 h9r
      obtain ⟨z, hz⟩ : ∃ z, placeZ s9 160 p = z := ⟨_, rfl⟩
      rw [hz] at K9
      have HZ : Hid (byOf 4 p = z) := by unfold Hid; rw [HS.out, hz]
      clear harr hz HS
      go_enter Tryd.func43, Tryd.ntmps43
      go_wp2_with (first | (refine wpList_load_mid rfl 63 (.global 0) rfl 0 0 rfl arr _ h9r Tryd.underlying63 rfl i9 ?_) | (go_at_call 52; refine (K9 _).mono ?_; rintro e w' ⟨rfl, hb⟩))
      go_ret
      exact ⟨ret_int HZ.out.symm, hb⟩
    · by_cases h5 : s = 5
      · subst h5
        have HS : Hid (byOf 5 p = placeZ sW 128 p) := by unfold Hid byOf; rw [if_neg ne, if_neg h4, if_pos rfl]
        skip
        clear ne h9 hW K9 i9 h9r h4
        obtain ⟨arr, harr⟩ : ∃ arr, sW.map (Value.int .i32) = arr := ⟨_, rfl⟩
        rw [harr] at KW iW hWr
        obtain ⟨z, hz⟩ : ∃ z, placeZ sW 128 p = z := ⟨_, rfl⟩
        rw [hz] at KW
        have HZ : Hid (byOf 5 p = z) := by unfold Hid; rw [HS.out, hz]
        clear harr hz HS
        go_enter Tryd.func43, Tryd.ntmps43
        go_wp2_with (first | (refine wpList_load_mid rfl 63 (.global 1) rfl 1 0 rfl arr _ hWr Tryd.underlying63 rfl iW ?_) | (go_at_call 52; refine (KW _).mono ?_; rintro e w' ⟨rfl, hb⟩))
        go_ret
        exact ⟨ret_int HZ.out.symm, hb⟩
      · have HS : Hid (byOf s p = -1) := by unfold Hid byOf; rw [if_neg ne, if_neg h4, if_neg h5]
        skip
        have b4 : (s == 4) = false := by simpa using h4
        have b5 : (s == 5) = false := by simpa using h5
        clear ne h9 hW K9 KW i9 iW h9r hWr
        go_enter Tryd.func43, Tryd.ntmps43
        go_wp2
        go_ret
        exact ⟨ret_int HS.out.symm, Below.refl _ _⟩
end Go.Proofs.YtlhhbmolkiojfaaDoor
