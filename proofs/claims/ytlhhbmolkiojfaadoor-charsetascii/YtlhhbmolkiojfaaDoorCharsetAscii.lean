/-
  CharsetAscii: bytes below 128 are read alike in all sets but those of units, and written alike. The tables of the package are as the program lays them (the card ties them).
-/
import Derived.Test.YtlhhbmolkiojfaaDoorCards
import Derived.Test.YtlhhbmolkiojfaaDoorTie
import Derived.Test.YtlhhbmolkiojfaaDoorCk
import Derived.WalkKit
import Derived.ProofKit
import Derived.OpenShut
import Derived.ShutString
import Derived.ChangeOld
import Derived.Below
import Derived.LaidMore
import Derived.Lay
import Derived.SevenTiedAt
import Derived.Stop.Joined
namespace Go.Proofs.YtlhhbmolkiojfaaDoor.charsetAscii
open Go.ChangeShapes Go.WideShapes Go.ChangeAt Go.RowKit
open Go.ChangeMaps (open_string shut_string)
set_option linter.unusedVariables false


theorem name16 {s : ByteArray} (h : setB (lowS s) = 6 ∨ setB (lowS s) = 7 ∨ setB (lowS s) = 8) : ∃ (h4 : 4 < s.size) (h5 : 5 < s.size), (s[4].toNat : Int) = 49 ∧ (s[5].toNat : Int) = 54 := by
  have key : ∀ r : List UInt8, (lowS s).toList = 117 :: 116 :: 102 :: 45 :: 49 :: 54 :: r → ∃ (h4 : 4 < s.size) (h5 : 5 < s.size), (s[4].toNat : Int) = 49 ∧ (s[5].toNat : Int) = 54 := by
    intro r hr
    unfold lowS at hr
    rw [toList_str] at hr
    have hlen : 6 ≤ s.size := by
      have := congrArg List.length hr
      simp [nums_len] at this
      omega
    have at_k : ∀ (k : Nat) (hk : k < s.size) (v : UInt8), (117 :: 116 :: 102 :: 45 :: 49 :: 54 :: r : List UInt8)[k]? = some v → UInt8.ofNat (smallZ (s[k].toNat : Int)).toNat = v := by
      intro k hk v hv
      rw [← hr, List.getElem?_map, List.getElem?_map, nums_at s k hk] at hv
      simpa using hv
    have h4 := at_k 4 (by omega) 49 rfl
    have h5 := at_k 5 (by omega) 54 rfl
    refine ⟨by omega, by omega, ?_, ?_⟩
    · have hb := s[4].toNat_lt
      have := congrArg UInt8.toNat h4
      have hs : 0 ≤ smallZ (s[4].toNat : Int) ∧ smallZ (s[4].toNat : Int) < 256 := smallZ_byt (by omega)
      rw [UInt8.toNat_ofNat_of_lt' (by simp; omega)] at this
      have e49 : (49 : UInt8).toNat = 49 := rfl
      rw [e49] at this
      unfold smallZ at this
      split at this <;> omega
    · have hb := s[5].toNat_lt
      have := congrArg UInt8.toNat h5
      have hs : 0 ≤ smallZ (s[5].toNat : Int) ∧ smallZ (s[5].toNat : Int) < 256 := smallZ_byt (by omega)
      rw [UInt8.toNat_ofNat_of_lt' (by simp; omega)] at this
      have e54 : (54 : UInt8).toNat = 54 := rfl
      rw [e54] at this
      unfold smallZ at this
      split at this <;> omega
  unfold setB at h
  repeat' split at h
  all_goals first
    | (exfalso; omega)
    | (rename_i hh; exact key _ (by simpa using hh))
theorem ascii_enc {s x : Int} (h0 : 0 ≤ x) (h1 : x < 128) (hs : s ≠ 7 ∧ s ≠ 8) : encS s x = [x] := by
  unfold encS
  split
  · exact Ut.enc1 h1
  · rw [if_neg (by omega)]
    have hp : ptOf s x = x := by unfold ptOf; rw [if_neg (by omega), if_neg (by omega), if_neg (by omega)]
    have hb : byOf s x = x := by unfold byOf; rw [if_pos ⟨by omega, hp⟩]
    rw [hb, if_neg (by omega)]
theorem ascii_flatS {s : Int} (hs : s ≠ 7 ∧ s ≠ 8) : ∀ {l : List Int}, (∀ x ∈ l, 0 ≤ x ∧ x < 128) → flatS s l = l
  | [], _ => rfl
  | x :: l, h => by
    rw [flatS_cons, ascii_enc (h x (by simp)).1 (h x (by simp)).2 hs, ascii_flatS hs (fun y hy => h y (by simp [hy]))]; rfl
theorem ascii_flat {l : List Int} (h : ∀ x ∈ l, 0 ≤ x ∧ x < 128) : Ut.flat l = l := by
  have := ascii_flatS (s := 2) (by decide) h
  exact this
theorem ascii_in {s : Int} (hs : s ≠ 7 ∧ s ≠ 8) {l : List Int} (h : ∀ x ∈ l, 0 ≤ x ∧ x < 128) : AllIn s l := fun x hx => by
  have := h x hx
  exact ⟨(Ut.ptB_iff x).2 (by omega), by rw [ascii_enc this.1 this.2 hs]; simp⟩

set_option maxRecDepth 100000 in
set_option maxHeartbeats 8000000 in
theorem walk_long1 (s : ByteArray) (a : Option Addr) (len cap : Nat) (w : World) (h : 100 < s.size) (h9 : T9 w) (hW : TW w) :
    Calls Tryd.prog 7 #[.string s, .slice a len cap] w fun e w' => e = .returned (.bool true) ∧ Below w.heap.size w w' := by
  have K := alive_any w h9 hW
  go_enter Tryd.func7, Tryd.ntmps7
  go_wp2_with (go_at_call 9; refine K.mono ?_; rintro e w' ⟨rfl, hb⟩)
  go_ret
  exact ⟨rfl, hb⟩
set_option maxRecDepth 100000 in
set_option maxHeartbeats 8000000 in
theorem walk_long2 (s : ByteArray) (a : Option Addr) (len cap : Nat) (w : World) (h : s.size ≤ 100) (h2 : 1000 < len) (h9 : T9 w) (hW : TW w) :
    Calls Tryd.prog 7 #[.string s, .slice a len cap] w fun e w' => e = .returned (.bool true) ∧ Below w.heap.size w w' := by
  have K := alive_any w h9 hW
  go_enter Tryd.func7, Tryd.ntmps7
  go_wp2_with (go_at_call 9; refine K.mono ?_; rintro e w' ⟨rfl, hb⟩)
  go_ret
  exact ⟨rfl, hb⟩
set_option maxRecDepth 100000 in
set_option maxHeartbeats 8000000 in
theorem walk_unknown (s : ByteArray) (a : Option Addr) (len cap : Nat) (w : World) (h : s.size ≤ 100) (h2 : len ≤ 1000) (h0 : setB (lowS s) = 0) (h9 : T9 w) (hW : TW w) :
    Calls Tryd.prog 7 #[.string s, .slice a len cap] w fun e w' => e = .returned (.bool true) ∧ Below w.heap.size w w' := by
  have K : ∀ W : World, Below w.heap.size w W → Calls Tryd.prog 9 #[] W fun e w' => e = .returned (.bool true) ∧ Below W.heap.size W w' := fun W hb => alive_any W (h9.below hb) (hW.below hb)
  have KN : Calls Tryd.prog 12 #[.string s] w fun e w' => e = .returned (.bool false) ∧ Below w.heap.size w w' := by
    have := known_any s w (by omega)
    rw [h0] at this
    exact this
  clear h9 hW
  go_enter Tryd.func7, Tryd.ntmps7
  go_wp2_with (first | (go_at_call 12; refine KN.mono ?_; rintro e w1 ⟨rfl, hb1⟩) | (go_at_call 9; refine (K _ hb1).mono ?_; rintro e w2 ⟨rfl, hb⟩))
  go_ret
  exact ⟨rfl, hb1.trans (hb.mono hb1.size)⟩
set_option maxRecDepth 100000 in
set_option maxHeartbeats 8000000 in
theorem walk_16 (s : ByteArray) (a : Option Addr) (len cap : Nat) (w : World) (h : s.size ≤ 100) (h2 : len ≤ 1000) (h0 : setB (lowS s) ≠ 0) (h5 : 5 < s.size) (e4 : (s[4].toNat : Int) = 49) (e5 : (s[5].toNat : Int) = 54) (h9 : T9 w) (hW : TW w) :
    Calls Tryd.prog 7 #[.string s, .slice a len cap] w fun e w' => e = .returned (.bool true) ∧ Below w.heap.size w w' := by
  have K : ∀ W : World, Below w.heap.size w W → Calls Tryd.prog 9 #[] W fun e w' => e = .returned (.bool true) ∧ Below W.heap.size W w' := fun W hb => alive_any W (h9.below hb) (hW.below hb)
  have KN : Calls Tryd.prog 12 #[.string s] w fun e w' => e = .returned (.bool true) ∧ Below w.heap.size w w' := by
    have := known_any s w (by omega)
    rw [show (!decide (setB (lowS s) = 0)) = true by simp [h0]] at this
    exact this
  clear h9 hW
  go_enter Tryd.func7, Tryd.ntmps7
  go_wp2_with (first | (go_at_call 12; refine KN.mono ?_; rintro e w1 ⟨rfl, hb1⟩) | (go_at_call 9; refine (K _ hb1).mono ?_; rintro e w2 ⟨rfl, hb⟩))
  go_ret
  exact ⟨rfl, hb1.trans (hb.mono hb1.size)⟩

set_option maxRecDepth 100000 in
set_option maxHeartbeats 8000000 in
theorem walk_a (s : ByteArray) (a : Option Addr) (len cap : Nat) (l : List Int) (w : World) (h : s.size ≤ 100) (h2 : len ≤ 1000) (h0 : setB (lowS s) ≠ 0) (h6 : ¬ (setB (lowS s) = 6 ∨ setB (lowS s) = 7 ∨ setB (lowS s) = 8)) (h5 : s.size < 6)
    (hlen : l.length = len) (hl : Byt l) (hcap : len ≤ cap) (hm : cap ≤ maxLen) (hrow : Row w a l) (h9 : T9 w) (hW : TW w) :
    Calls Tryd.prog 7 #[.string s, .slice a len cap] w fun e w' => e = .returned (.bool true) ∧ Below w.heap.size w w' := by
  have hm' := hm
  unfold maxLen at hm'
  have K : ∀ W : World, Below w.heap.size w W → Calls Tryd.prog 9 #[] W fun e w' => e = .returned (.bool true) ∧ Below W.heap.size W w' := fun W hb => alive_any W (h9.below hb) (hW.below hb)
  have KN : Calls Tryd.prog 12 #[.string s] w fun e w' => e = .returned (.bool true) ∧ Below w.heap.size w w' := by
    have := known_any s w (by omega)
    rw [show (!decide (setB (lowS s) = 0)) = true by simp [h0]] at this
    exact this
  have hq8 := setB_range (lowS s)
  have hos : ordZ (setB (lowS s)) l = (setB (lowS s), 0) := by unfold ordZ; rw [if_neg (fun e => h6 (.inl e))]
  have KD : (∀ x ∈ l, 0 ≤ x ∧ x < 128) → ∀ W : World, Below w.heap.size w W → Calls Tryd.prog 10 #[.string s, .slice a len cap] W fun e w' => ∃ v, e = .returned (.tuple #[v, .agg #[.int .i64 0, .int .i64 0]]) ∧ Own w' W.heap.size v l ∧ Below W.heap.size W w' := fun hA W hb => by
    have := decode_yes s a len cap l l W (setB (lowS s)) 0 (by omega) h0 hos hlen hl (ascii_in (by omega) hA) (by rw [ascii_flatS (by omega) hA]; rfl) hcap hm (by omega) (row_below hrow hb) (h9.below hb) (hW.below hb)
    rw [ascii_flat hA] at this
    exact this
  have KE : (∀ x ∈ l, 0 ≤ x ∧ x < 128) → ∀ W : World, Below w.heap.size w W → Calls Tryd.prog 14 #[.string s, .slice a len cap] W fun e w' => ∃ v, e = .returned (.tuple #[v, .agg #[.int .i64 0, .int .i64 0]]) ∧ Own w' W.heap.size v l ∧ Below W.heap.size W w' := fun hA W hb => by
    have := encode_yes s a len cap l W (setB (lowS s)) (by omega) rfl h0 (by omega) (by rw [ascii_flat hA]; exact hlen) (ascii_in (by omega) hA) hcap hm (by omega) (by rw [ascii_flat hA]; exact row_below hrow hb) (h9.below hb) (hW.below hb)
    rw [ascii_flatS (by omega) hA, List.nil_append] at this
    exact this
  have HL : Hid (l.length = len) := hlen
  have HR : Hid (Row w a l) := hrow
  clear hlen hrow h9 hW h6 hos h0 hq8
  skip
  go_enter Tryd.func7, Tryd.ntmps7
  go_wp2_with (go_at_call 12; refine KN.mono ?_; rintro e w1 ⟨rfl, hb1⟩)
  have HB1 : Hid (Below w.heap.size w w1) := hb1
  clear hb1 KN
  go_loopw [5] (fun i wr => ∃ k : Nat, i = .int .i64 k ∧ k ≤ len ∧ (∀ x ∈ l.take k, 0 ≤ x ∧ x < 128) ∧ wr = w1) (fun i _ => len - (intOf i).toNat)
  case atStart => exact ⟨0, rfl, by omega, fun x hx => by simp at hx, rfl⟩
  case round =>
    obtain ⟨k, rfl, hk, hall, rfl⟩ := hrel
    have HA : Hid (∀ x ∈ l.take k, 0 ≤ x ∧ x < 128) := hall
    clear hall
    by_cases hlt : k < len
    · obtain ⟨c, hc⟩ : ∃ c, l[k]? = some c := ⟨_, List.getElem?_eq_getElem (by rw [HL.out]; exact hlt)⟩
      have HC : Hid (l[k]? = some c) := hc
      have hcb := hl c (List.mem_of_getElem? hc)
      rcases row_below HR.out HB1.out with h | ⟨b, off, rfl, hcell⟩
      · rw [h] at hc; simp at hc
      · have c0 := hcell k (by rw [HL.out]; exact hlt)
        rw [List.getD_eq_getElem?_getD, hc] at c0
        simp only [Option.getD_some] at c0
        clear hc hcell
        by_cases h127 : c > 127
        · go_wp2_with (go_at_call 9; refine (K _ HB1.out).mono ?_; rintro e w2 ⟨rfl, hb⟩)
          go_ret
          exact ⟨rfl, HB1.out.trans (hb.mono HB1.out.size)⟩
        · have HN : Hid (∀ x ∈ l.take (k + 1), 0 ≤ x ∧ x < 128) := by
            intro x hx
            rw [List.take_add_one, HC.out] at hx
            rcases List.mem_append.1 hx with hx | hx
            · exact HA.out x hx
            · simp at hx; subst hx; omega
          go_wp2
          go_roundw
          case rel => exact ⟨k + 1, by go_num, by omega, HN.out, trivial⟩
          case measure => simp [intOf]; omega
    · obtain rfl : k = len := by omega
      have hA : ∀ x ∈ l, 0 ≤ x ∧ x < 128 := by
        have := HA.out
        rwa [List.take_of_length_le (by rw [HL.out]; exact Nat.le_refl _)] at this
      have KD := KD hA
      have KE := KE hA
      go_wp2_with fail
      refine (KD _ HB1.out).mono ?_
      rintro e w2 ⟨v2, rfl, hown2, hb2⟩
      obtain ⟨a2, cap2, rfl, hc2, hm2, hrow2, hn2⟩ := own_row' hown2
      have B2 := HB1.out.trans (hb2.mono HB1.out.size)
      have B2' := B2.alloc B2.size (.cells #[.int .i64 0, .int .i64 0] 26)
      go_wp2_with fail
      refine (KE _ B2').mono ?_
      rintro e w3 ⟨v3, rfl, hown3, hb3⟩
      obtain ⟨a3, cap3, rfl, hc3, hm3, hrow3, hn3⟩ := own_row' hown3
      have B3 := B2'.trans (hb3.mono B2'.size)
      have B3' := B3.alloc B3.size (.cells #[.int .i64 0, .int .i64 0] 26)
      have hs2 := B2.size
      have hs3 : w2.heap.size + 1 ≤ w3.heap.size := by have := hb3.size; simpa using this
      have R2 := row_below (row_below (row_below (row_k hrow2) (keep w2 (.cells #[.int .i64 0, .int .i64 0] 26))) hb3) (keep w3 (.cells #[.int .i64 0, .int .i64 0] 26))
      have R3 := row_below (row_k hrow3) (keep w3 (.cells #[.int .i64 0, .int .i64 0] 26))
      have R1 := row_below HR.out B3'
      have B3c := B3'
      go_wp2_with fail
      refine (K _ B3').mono ?_
      rintro e w4 ⟨rfl, hb4⟩
      have k2 := conv_row l.length cap2 rfl (row_below R2 hb4)
      have k3 := conv_row l.length cap3 rfl (row_below R3 hb4)
      have k1 := conv_row k cap HL.out (row_below R1 hb4)
      have a0 : w4.cell? ⟨w2.heap.size, 1, none⟩ = some (.int .i64 0) := by
        rw [hb4.cell (by simp; omega), (keep w3 _).cell (by simp; omega), hb3.cell (by simp)]; simp
      have a1 : w4.cell? ⟨w3.heap.size, 1, none⟩ = some (.int .i64 0) := by
        rw [hb4.cell (by simp)]; simp
      have HB4 : Hid (Below w.heap.size w w4) := B3'.trans (hb4.mono B3'.size)
      clear R1 R2 R3 hown2 hown3 hrow2 hrow3 hb2 hb3 hb4 B2 B2' B3 B3' B3c KD KE K
      go_wp2
      go_ret
      exact ⟨rfl, HB4.out⟩

set_option maxRecDepth 100000 in
set_option maxHeartbeats 8000000 in
theorem walk_b (s : ByteArray) (a : Option Addr) (len cap : Nat) (l : List Int) (w : World) (h : s.size ≤ 100) (h2 : len ≤ 1000) (h0 : setB (lowS s) ≠ 0) (h6 : ¬ (setB (lowS s) = 6 ∨ setB (lowS s) = 7 ∨ setB (lowS s) = 8)) (h5 : 5 < s.size) (e4 : (s[4].toNat : Int) ≠ 49)
    (hlen : l.length = len) (hl : Byt l) (hcap : len ≤ cap) (hm : cap ≤ maxLen) (hrow : Row w a l) (h9 : T9 w) (hW : TW w) :
    Calls Tryd.prog 7 #[.string s, .slice a len cap] w fun e w' => e = .returned (.bool true) ∧ Below w.heap.size w w' := by
  have hm' := hm
  unfold maxLen at hm'
  have K : ∀ W : World, Below w.heap.size w W → Calls Tryd.prog 9 #[] W fun e w' => e = .returned (.bool true) ∧ Below W.heap.size W w' := fun W hb => alive_any W (h9.below hb) (hW.below hb)
  have KN : Calls Tryd.prog 12 #[.string s] w fun e w' => e = .returned (.bool true) ∧ Below w.heap.size w w' := by
    have := known_any s w (by omega)
    rw [show (!decide (setB (lowS s) = 0)) = true by simp [h0]] at this
    exact this
  have hq8 := setB_range (lowS s)
  have hos : ordZ (setB (lowS s)) l = (setB (lowS s), 0) := by unfold ordZ; rw [if_neg (fun e => h6 (.inl e))]
  have KD : (∀ x ∈ l, 0 ≤ x ∧ x < 128) → ∀ W : World, Below w.heap.size w W → Calls Tryd.prog 10 #[.string s, .slice a len cap] W fun e w' => ∃ v, e = .returned (.tuple #[v, .agg #[.int .i64 0, .int .i64 0]]) ∧ Own w' W.heap.size v l ∧ Below W.heap.size W w' := fun hA W hb => by
    have := decode_yes s a len cap l l W (setB (lowS s)) 0 (by omega) h0 hos hlen hl (ascii_in (by omega) hA) (by rw [ascii_flatS (by omega) hA]; rfl) hcap hm (by omega) (row_below hrow hb) (h9.below hb) (hW.below hb)
    rw [ascii_flat hA] at this
    exact this
  have KE : (∀ x ∈ l, 0 ≤ x ∧ x < 128) → ∀ W : World, Below w.heap.size w W → Calls Tryd.prog 14 #[.string s, .slice a len cap] W fun e w' => ∃ v, e = .returned (.tuple #[v, .agg #[.int .i64 0, .int .i64 0]]) ∧ Own w' W.heap.size v l ∧ Below W.heap.size W w' := fun hA W hb => by
    have := encode_yes s a len cap l W (setB (lowS s)) (by omega) rfl h0 (by omega) (by rw [ascii_flat hA]; exact hlen) (ascii_in (by omega) hA) hcap hm (by omega) (by rw [ascii_flat hA]; exact row_below hrow hb) (h9.below hb) (hW.below hb)
    rw [ascii_flatS (by omega) hA, List.nil_append] at this
    exact this
  have HL : Hid (l.length = len) := hlen
  have HR : Hid (Row w a l) := hrow
  clear hlen hrow h9 hW h6 hos h0 hq8
  obtain ⟨c4, hc4⟩ : ∃ c : Int, (s[4].toNat : Int) = c := ⟨_, rfl⟩
  have b4 : (c4 == 49) = false := by rw [← hc4]; simpa using e4
  clear e4
  go_enter Tryd.func7, Tryd.ntmps7
  go_wp2_with (go_at_call 12; refine KN.mono ?_; rintro e w1 ⟨rfl, hb1⟩)
  have HB1 : Hid (Below w.heap.size w w1) := hb1
  clear hb1 KN
  go_loopw [5] (fun i wr => ∃ k : Nat, i = .int .i64 k ∧ k ≤ len ∧ (∀ x ∈ l.take k, 0 ≤ x ∧ x < 128) ∧ wr = w1) (fun i _ => len - (intOf i).toNat)
  case atStart => exact ⟨0, rfl, by omega, fun x hx => by simp at hx, rfl⟩
  case round =>
    obtain ⟨k, rfl, hk, hall, rfl⟩ := hrel
    have HA : Hid (∀ x ∈ l.take k, 0 ≤ x ∧ x < 128) := hall
    clear hall
    by_cases hlt : k < len
    · obtain ⟨c, hc⟩ : ∃ c, l[k]? = some c := ⟨_, List.getElem?_eq_getElem (by rw [HL.out]; exact hlt)⟩
      have HC : Hid (l[k]? = some c) := hc
      have hcb := hl c (List.mem_of_getElem? hc)
      rcases row_below HR.out HB1.out with h | ⟨b, off, rfl, hcell⟩
      · rw [h] at hc; simp at hc
      · have c0 := hcell k (by rw [HL.out]; exact hlt)
        rw [List.getD_eq_getElem?_getD, hc] at c0
        simp only [Option.getD_some] at c0
        clear hc hcell
        by_cases h127 : c > 127
        · go_wp2_with (go_at_call 9; refine (K _ HB1.out).mono ?_; rintro e w2 ⟨rfl, hb⟩)
          go_ret
          exact ⟨rfl, HB1.out.trans (hb.mono HB1.out.size)⟩
        · have HN : Hid (∀ x ∈ l.take (k + 1), 0 ≤ x ∧ x < 128) := by
            intro x hx
            rw [List.take_add_one, HC.out] at hx
            rcases List.mem_append.1 hx with hx | hx
            · exact HA.out x hx
            · simp at hx; subst hx; omega
          go_wp2
          go_roundw
          case rel => exact ⟨k + 1, by go_num, by omega, HN.out, trivial⟩
          case measure => simp [intOf]; omega
    · obtain rfl : k = len := by omega
      have hA : ∀ x ∈ l, 0 ≤ x ∧ x < 128 := by
        have := HA.out
        rwa [List.take_of_length_le (by rw [HL.out]; exact Nat.le_refl _)] at this
      have KD := KD hA
      have KE := KE hA
      go_wp2_with fail
      refine (KD _ HB1.out).mono ?_
      rintro e w2 ⟨v2, rfl, hown2, hb2⟩
      obtain ⟨a2, cap2, rfl, hc2, hm2, hrow2, hn2⟩ := own_row' hown2
      have B2 := HB1.out.trans (hb2.mono HB1.out.size)
      have B2' := B2.alloc B2.size (.cells #[.int .i64 0, .int .i64 0] 26)
      go_wp2_with fail
      refine (KE _ B2').mono ?_
      rintro e w3 ⟨v3, rfl, hown3, hb3⟩
      obtain ⟨a3, cap3, rfl, hc3, hm3, hrow3, hn3⟩ := own_row' hown3
      have B3 := B2'.trans (hb3.mono B2'.size)
      have B3' := B3.alloc B3.size (.cells #[.int .i64 0, .int .i64 0] 26)
      have hs2 := B2.size
      have hs3 : w2.heap.size + 1 ≤ w3.heap.size := by have := hb3.size; simpa using this
      have R2 := row_below (row_below (row_below (row_k hrow2) (keep w2 (.cells #[.int .i64 0, .int .i64 0] 26))) hb3) (keep w3 (.cells #[.int .i64 0, .int .i64 0] 26))
      have R3 := row_below (row_k hrow3) (keep w3 (.cells #[.int .i64 0, .int .i64 0] 26))
      have R1 := row_below HR.out B3'
      have B3c := B3'
      go_wp2_with fail
      refine (K _ B3').mono ?_
      rintro e w4 ⟨rfl, hb4⟩
      have k2 := conv_row l.length cap2 rfl (row_below R2 hb4)
      have k3 := conv_row l.length cap3 rfl (row_below R3 hb4)
      have k1 := conv_row k cap HL.out (row_below R1 hb4)
      have a0 : w4.cell? ⟨w2.heap.size, 1, none⟩ = some (.int .i64 0) := by
        rw [hb4.cell (by simp; omega), (keep w3 _).cell (by simp; omega), hb3.cell (by simp)]; simp
      have a1 : w4.cell? ⟨w3.heap.size, 1, none⟩ = some (.int .i64 0) := by
        rw [hb4.cell (by simp)]; simp
      have HB4 : Hid (Below w.heap.size w w4) := B3'.trans (hb4.mono B3'.size)
      clear R1 R2 R3 hown2 hown3 hrow2 hrow3 hb2 hb3 hb4 B2 B2' B3 B3' B3c KD KE K
      go_wp2
      go_ret
      exact ⟨rfl, HB4.out⟩

set_option maxRecDepth 100000 in
set_option maxHeartbeats 8000000 in
theorem walk_c (s : ByteArray) (a : Option Addr) (len cap : Nat) (l : List Int) (w : World) (h : s.size ≤ 100) (h2 : len ≤ 1000) (h0 : setB (lowS s) ≠ 0) (h6 : ¬ (setB (lowS s) = 6 ∨ setB (lowS s) = 7 ∨ setB (lowS s) = 8)) (h5 : 5 < s.size) (e4 : (s[4].toNat : Int) = 49) (e5 : (s[5].toNat : Int) ≠ 54)
    (hlen : l.length = len) (hl : Byt l) (hcap : len ≤ cap) (hm : cap ≤ maxLen) (hrow : Row w a l) (h9 : T9 w) (hW : TW w) :
    Calls Tryd.prog 7 #[.string s, .slice a len cap] w fun e w' => e = .returned (.bool true) ∧ Below w.heap.size w w' := by
  have hm' := hm
  unfold maxLen at hm'
  have K : ∀ W : World, Below w.heap.size w W → Calls Tryd.prog 9 #[] W fun e w' => e = .returned (.bool true) ∧ Below W.heap.size W w' := fun W hb => alive_any W (h9.below hb) (hW.below hb)
  have KN : Calls Tryd.prog 12 #[.string s] w fun e w' => e = .returned (.bool true) ∧ Below w.heap.size w w' := by
    have := known_any s w (by omega)
    rw [show (!decide (setB (lowS s) = 0)) = true by simp [h0]] at this
    exact this
  have hq8 := setB_range (lowS s)
  have hos : ordZ (setB (lowS s)) l = (setB (lowS s), 0) := by unfold ordZ; rw [if_neg (fun e => h6 (.inl e))]
  have KD : (∀ x ∈ l, 0 ≤ x ∧ x < 128) → ∀ W : World, Below w.heap.size w W → Calls Tryd.prog 10 #[.string s, .slice a len cap] W fun e w' => ∃ v, e = .returned (.tuple #[v, .agg #[.int .i64 0, .int .i64 0]]) ∧ Own w' W.heap.size v l ∧ Below W.heap.size W w' := fun hA W hb => by
    have := decode_yes s a len cap l l W (setB (lowS s)) 0 (by omega) h0 hos hlen hl (ascii_in (by omega) hA) (by rw [ascii_flatS (by omega) hA]; rfl) hcap hm (by omega) (row_below hrow hb) (h9.below hb) (hW.below hb)
    rw [ascii_flat hA] at this
    exact this
  have KE : (∀ x ∈ l, 0 ≤ x ∧ x < 128) → ∀ W : World, Below w.heap.size w W → Calls Tryd.prog 14 #[.string s, .slice a len cap] W fun e w' => ∃ v, e = .returned (.tuple #[v, .agg #[.int .i64 0, .int .i64 0]]) ∧ Own w' W.heap.size v l ∧ Below W.heap.size W w' := fun hA W hb => by
    have := encode_yes s a len cap l W (setB (lowS s)) (by omega) rfl h0 (by omega) (by rw [ascii_flat hA]; exact hlen) (ascii_in (by omega) hA) hcap hm (by omega) (by rw [ascii_flat hA]; exact row_below hrow hb) (h9.below hb) (hW.below hb)
    rw [ascii_flatS (by omega) hA, List.nil_append] at this
    exact this
  have HL : Hid (l.length = len) := hlen
  have HR : Hid (Row w a l) := hrow
  clear hlen hrow h9 hW h6 hos h0 hq8
  obtain ⟨c5, hc5⟩ : ∃ c : Int, (s[5].toNat : Int) = c := ⟨_, rfl⟩
  have b5 : (c5 == 54) = false := by rw [← hc5]; simpa using e5
  clear e5
  go_enter Tryd.func7, Tryd.ntmps7
  go_wp2_with (go_at_call 12; refine KN.mono ?_; rintro e w1 ⟨rfl, hb1⟩)
  have HB1 : Hid (Below w.heap.size w w1) := hb1
  clear hb1 KN
  go_loopw [5] (fun i wr => ∃ k : Nat, i = .int .i64 k ∧ k ≤ len ∧ (∀ x ∈ l.take k, 0 ≤ x ∧ x < 128) ∧ wr = w1) (fun i _ => len - (intOf i).toNat)
  case atStart => exact ⟨0, rfl, by omega, fun x hx => by simp at hx, rfl⟩
  case round =>
    obtain ⟨k, rfl, hk, hall, rfl⟩ := hrel
    have HA : Hid (∀ x ∈ l.take k, 0 ≤ x ∧ x < 128) := hall
    clear hall
    by_cases hlt : k < len
    · obtain ⟨c, hc⟩ : ∃ c, l[k]? = some c := ⟨_, List.getElem?_eq_getElem (by rw [HL.out]; exact hlt)⟩
      have HC : Hid (l[k]? = some c) := hc
      have hcb := hl c (List.mem_of_getElem? hc)
      rcases row_below HR.out HB1.out with h | ⟨b, off, rfl, hcell⟩
      · rw [h] at hc; simp at hc
      · have c0 := hcell k (by rw [HL.out]; exact hlt)
        rw [List.getD_eq_getElem?_getD, hc] at c0
        simp only [Option.getD_some] at c0
        clear hc hcell
        by_cases h127 : c > 127
        · go_wp2_with (go_at_call 9; refine (K _ HB1.out).mono ?_; rintro e w2 ⟨rfl, hb⟩)
          go_ret
          exact ⟨rfl, HB1.out.trans (hb.mono HB1.out.size)⟩
        · have HN : Hid (∀ x ∈ l.take (k + 1), 0 ≤ x ∧ x < 128) := by
            intro x hx
            rw [List.take_add_one, HC.out] at hx
            rcases List.mem_append.1 hx with hx | hx
            · exact HA.out x hx
            · simp at hx; subst hx; omega
          go_wp2
          go_roundw
          case rel => exact ⟨k + 1, by go_num, by omega, HN.out, trivial⟩
          case measure => simp [intOf]; omega
    · obtain rfl : k = len := by omega
      have hA : ∀ x ∈ l, 0 ≤ x ∧ x < 128 := by
        have := HA.out
        rwa [List.take_of_length_le (by rw [HL.out]; exact Nat.le_refl _)] at this
      have KD := KD hA
      have KE := KE hA
      go_wp2_with fail
      refine (KD _ HB1.out).mono ?_
      rintro e w2 ⟨v2, rfl, hown2, hb2⟩
      obtain ⟨a2, cap2, rfl, hc2, hm2, hrow2, hn2⟩ := own_row' hown2
      have B2 := HB1.out.trans (hb2.mono HB1.out.size)
      have B2' := B2.alloc B2.size (.cells #[.int .i64 0, .int .i64 0] 26)
      go_wp2_with fail
      refine (KE _ B2').mono ?_
      rintro e w3 ⟨v3, rfl, hown3, hb3⟩
      obtain ⟨a3, cap3, rfl, hc3, hm3, hrow3, hn3⟩ := own_row' hown3
      have B3 := B2'.trans (hb3.mono B2'.size)
      have B3' := B3.alloc B3.size (.cells #[.int .i64 0, .int .i64 0] 26)
      have hs2 := B2.size
      have hs3 : w2.heap.size + 1 ≤ w3.heap.size := by have := hb3.size; simpa using this
      have R2 := row_below (row_below (row_below (row_k hrow2) (keep w2 (.cells #[.int .i64 0, .int .i64 0] 26))) hb3) (keep w3 (.cells #[.int .i64 0, .int .i64 0] 26))
      have R3 := row_below (row_k hrow3) (keep w3 (.cells #[.int .i64 0, .int .i64 0] 26))
      have R1 := row_below HR.out B3'
      have B3c := B3'
      go_wp2_with fail
      refine (K _ B3').mono ?_
      rintro e w4 ⟨rfl, hb4⟩
      have k2 := conv_row l.length cap2 rfl (row_below R2 hb4)
      have k3 := conv_row l.length cap3 rfl (row_below R3 hb4)
      have k1 := conv_row k cap HL.out (row_below R1 hb4)
      have a0 : w4.cell? ⟨w2.heap.size, 1, none⟩ = some (.int .i64 0) := by
        rw [hb4.cell (by simp; omega), (keep w3 _).cell (by simp; omega), hb3.cell (by simp)]; simp
      have a1 : w4.cell? ⟨w3.heap.size, 1, none⟩ = some (.int .i64 0) := by
        rw [hb4.cell (by simp)]; simp
      have HB4 : Hid (Below w.heap.size w w4) := B3'.trans (hb4.mono B3'.size)
      clear R1 R2 R3 hown2 hown3 hrow2 hrow3 hb2 hb3 hb4 B2 B2' B3 B3' B3c KD KE K
      go_wp2
      go_ret
      exact ⟨rfl, HB4.out⟩

theorem walk (s : ByteArray) (a : Option Addr) (len cap : Nat) (z : List Int) (w : World) (hz : IsRow .u8 w a len cap z) (h9 : T9 w) (hW : TW w) :
    Calls Tryd.prog 7 #[.string s, .slice a len cap] w fun e w' => e = .returned (.bool true) ∧ Below w.heap.size w w' := by
  obtain ⟨l, hlen, hcap, hm, hl, hrow⟩ := byte_view hz
  rcases Nat.lt_or_ge 100 s.size with h | h
  · exact walk_long1 s a len cap w h h9 hW
  rcases Nat.lt_or_ge 1000 len with h2 | h2
  · exact walk_long2 s a len cap w h h2 h9 hW
  by_cases h0 : setB (lowS s) = 0
  · exact walk_unknown s a len cap w h h2 h0 h9 hW
  by_cases h6 : setB (lowS s) = 6 ∨ setB (lowS s) = 7 ∨ setB (lowS s) = 8
  · obtain ⟨h4, h5, e4, e5⟩ := name16 h6
    exact walk_16 s a len cap w h h2 h0 h5 e4 e5 h9 hW
  rcases Nat.lt_or_ge 5 s.size with h5 | h5
  · by_cases e4 : (s[4].toNat : Int) = 49
    · by_cases e5 : (s[5].toNat : Int) = 54
      · exact walk_16 s a len cap w h h2 h0 h5 e4 e5 h9 hW
      · exact walk_c s a len cap l w h h2 h0 h6 h5 e4 e5 hlen hl hcap hm hrow h9 hW
    · exact walk_b s a len cap l w h h2 h0 h6 h5 e4 hlen hl hcap hm hrow h9 hW
  · exact walk_a s a len cap l w h h2 h0 h6 (by omega) hlen hl hcap hm hrow h9 hW

set_option maxRecDepth 100000 in
theorem lifted (os : Os) (started : os.Started) (H : Type) (enc : TypeId × Value → H) :
    ReturnsInHanded {} Tryd.checked os 7 .any (fun w args => (Rows.charsetAsciiSpec.pre enc Tryd.prog Tryd.f7 Rows.charsetAsciiRow.domain false w args ∧ laidMetH Tryd.prog Rows.charsetAsciiRow.laid w) ∧ sizedMet enc Tryd.prog Tryd.f7 (OpenSpec.ofChange Rows.charsetAsciiSpec) false w args)
      (Rows.charsetAsciiSpec.post enc Tryd.prog Tryd.f7 false true false false) := by
  refine returnsInHanded_of_change_and (C := Tryd.checked) (X := fun w _ => laidMetH Tryd.prog Rows.charsetAsciiRow.laid w) (fun _ _ _ hh h => h.of_heap hh) own started (by kernel_rfl) Tryd.func7
    (ChangeSpec.witness_shaped (enc := enc) (C := Tryd.checked) (os := os) (X := fun w _ => laidMetH Tryd.prog Rows.charsetAsciiRow.laid w) false (World.laidAll Tryd.prog os Rows.charsetAsciiRow.laid) #[.string ⟨#[]⟩, .slice none 0 0] 8 (World.laidAll_os _ _ _)
      (World.shaped_of_ZipB (by kernel_rfl) (by kernel_rfl)) (by kernel_rfl) (by kernel_rfl) (by kernel_rfl)
      (by rw [MakeChecks.laidMetH_plain _ _ _ (by kernel_rfl)]; exact laidMet_laidAll _ (by kernel_rfl) (by kernel_rfl))) ?_
  intro W base args ds gs before hval0 hW0 hcnd _ hL0 _
  have hL : laidMet Tryd.prog Rows.charsetAsciiRow.laid W := by
    have : laidMetH Tryd.prog Rows.charsetAsciiRow.laid W := hL0
    rwa [MakeChecks.laidMetH_plain _ _ _ (by kernel_rfl)] at this
  have hval : ∀ (j : Nat) t v, Tryd.f7.params[j]? = some t → args[j]? = some v → Value.okWide Tryd.prog W .any base t v := hval0
  have hW' := hW0
  obtain ⟨p, q, hA0, hV, rfl, hfz, hnd⟩ := hW0
  have hA : DataW.TrodAll enc Tryd.prog W 0 (fun _ => true) true Tryd.f7.params.toList args.toList ds p := hA0
  rw [Tryd.params7] at hA hval
  obtain ⟨v0, vs0, d0, ds0, p0, q0, hargs, rfl, rfl, h0, r0⟩ := trodAll_cons hA
  obtain ⟨v1, vs1, d1, ds1, p1, q1, rfl, rfl, rfl, h1, r1⟩ := trodAll_cons r0
  obtain ⟨rfl, rfl, rfl⟩ := trodAll_nil r1
  obtain rfl : args = #[v0, v1] := by cases args; simp_all
  obtain ⟨rfl, rfl⟩ := trodVars_none hV
  have k0 := h0
  have lt0 : ∀ x ∈ p0, x.block < W.heap.size := by obtain ⟨m, hm⟩ := k0; exact DataW.trod_lt m _ _ _ hm
  obtain ⟨s0, rfl, _, _, hs0⟩ := open_string Tryd.underlying9 (hval 0 9 v0 rfl rfl) h0
  have k1 := h1
  have lt1 : ∀ x ∈ p1, x.block < W.heap.size := by obtain ⟨m, hm⟩ := k1; exact DataW.trod_lt m _ _ _ hm
  obtain ⟨a1, len1, cap1, rfl⟩ := okWide_slice Tryd.underlying22 (hval 1 22 v1 rfl rfl)
  obtain ⟨z1, w1⟩ : ∃ zs, IsRow .u8 W a1 len1 cap1 zs := by
    obtain ⟨fuel, hf⟩ := h1
    rcases open_ints Tryd.underlying22 Tryd.underlying5 (by kernel_rfl) hf with ⟨hcs, _⟩ | ⟨x, l, c, zs, hcs, _, hl, hm, hz, _, hcell, hwz⟩
    · simp [Value.cells] at hcs
      obtain ⟨rfl, rfl, rfl⟩ := hcs
      exact ⟨[], .inl ⟨rfl, rfl, rfl, rfl⟩⟩
    · simp [Value.cells] at hcs
      obtain ⟨rfl, rfl, rfl⟩ := hcs
      exact ⟨zs, .inr ⟨_, rfl, hl, hm, by simpa using hz, hcell, hwz⟩⟩
  clear hA0 hval0
  have h9 := t9_of hL
  have hWt := tW_of (laidMet.tail hL)
  simp only [List.append_nil] at hW'
  refine (walk s0 a1 len1 cap1 z1 W w1 h9 hWt).mono fun e W' ⟨he, bel⟩ => ?_
  subst he
  exact ⟨_, rfl, _, _, _, [], _, [], hW', trodAll_mk1 (shut_bool Tryd.underlying4 _), (trodAll_cons_mk (Below.trod laidOut (by kernel_rfl) (of_decide_eq_true (by kernel_rfl)) k0 bel lt0) (trodAll_cons_mk (Below.trod laidOut (by kernel_rfl) (of_decide_eq_true (by kernel_rfl)) k1 bel lt1) trodAll_mk0)), rfl, bel.frame _, fun h => by cases h⟩

theorem over : Rows.CharsetAsciiSaid :=
  OpenClaim.holds_of_wide 7 Tryd.f7 rfl rfl rfl rfl rfl rfl rfl ⟨rfl, rfl, rfl, rfl, rfl⟩ rfl rfl rfl rfl rfl (by kernel_rfl) Tryd.func7 (by kernel_rfl)
    (of_decide_eq_true (by kernel_rfl)) (by unfold Func.isWrapper; first | (rw [if_pos (by decide +kernel)]; kernel_rfl) | (rw [if_neg (by decide +kernel)]; exact ⟨rfl, rfl⟩))
    (fun os started H enc _ => lifted os started H enc)
end Go.Proofs.YtlhhbmolkiojfaaDoor.charsetAscii
namespace Go.Proofs.YtlhhbmolkiojfaaDoor
theorem charsetAscii_card : Rows.CharsetAsciiCardSaid :=
  Claim7.holds_tied_plain_at .later [] _ _ _ _ charsetAscii.over (fun _ h => by cases h) (by kernel_rfl) (fun _ h => by cases h) charsetAscii_row_tie rfl ⟨rfl, rfl⟩ (by kernel_rfl) rfl
    (fun f fn hf hfn => by
      obtain rfl : f = 7 := Option.some.inj ((show Tryd.prog.funcNamed Rows.charsetAsciiRow.func = some 7 by kernel_rfl).symm.trans hf) |>.symm
      obtain rfl : fn = Tryd.f7 := (Option.some.inj (Tryd.func7.symm.trans hfn)).symm
      exact ⟨by kernel_rfl, fun j t ht => by
        rw [Tryd.params7] at ht
        have hm : t ∈ [9, 22] := by simpa using Array.mem_of_getElem? ht
        have hall : ([9, 22].all fun u => !Tryd.prog.wantsStandIn u) = true := by kernel_rfl
        exact (show Tryd.prog.wantsStandIn t = false by simpa using List.all_eq_true.1 hall t hm)⟩)
    (by kernel_rfl)
#print axioms charsetAscii_card
end Go.Proofs.YtlhhbmolkiojfaaDoor
