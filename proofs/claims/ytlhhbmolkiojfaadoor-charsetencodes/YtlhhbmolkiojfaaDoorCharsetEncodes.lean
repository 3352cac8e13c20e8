/-
  CharsetEncodes: the bytes of a text in a set, or what is wrong and where, and the least set that has it, are told as the document says. The tables of the package are as the program lays them (the card ties them).
-/
import Derived.Test.YtlhhbmolkiojfaaDoorCards
import Derived.Test.YtlhhbmolkiojfaaDoorTie
import Derived.Test.YtlhhbmolkiojfaaDoorDd
import Derived.WalkKit
import Derived.ProofKit
import Derived.OpenShut
import Derived.ShutString
import Derived.ChangeOld
import Derived.Below
import Derived.LaidMore
import Derived.Lay
import Derived.SevenTiedAt
import Derived.Stop.Joined
namespace Go.Proofs.YtlhhbmolkiojfaaDoor.charsetEncodes
open Go.ChangeShapes Go.WideShapes Go.ChangeAt Go.RowKit
open Go.ChangeMaps (open_string shut_string)
set_option linter.unusedVariables false

set_option maxRecDepth 100000 in
set_option maxHeartbeats 8000000 in
theorem walk_long1 (s : ByteArray) (a : Option Addr) (len cap : Nat) (w : World) (h : 100 < s.size) (h9 : T9 w) (hW : TW w) :
    Calls Tryd.prog 4 #[.string s, .slice a len cap] w fun e w' => e = .returned (.bool true) ∧ Below w.heap.size w w' := by
  have K := alive_any w h9 hW
  go_enter Tryd.func4, Tryd.ntmps4
  go_wp2_with (go_at_call 9; refine K.mono ?_; rintro e w' ⟨rfl, hb⟩)
  go_ret
  exact ⟨rfl, hb⟩
set_option maxRecDepth 100000 in
set_option maxHeartbeats 8000000 in
theorem walk_long2 (s : ByteArray) (a : Option Addr) (len cap : Nat) (w : World) (h : s.size ≤ 100) (h2 : 1000 < len) (h9 : T9 w) (hW : TW w) :
    Calls Tryd.prog 4 #[.string s, .slice a len cap] w fun e w' => e = .returned (.bool true) ∧ Below w.heap.size w w' := by
  have K := alive_any w h9 hW
  go_enter Tryd.func4, Tryd.ntmps4
  go_wp2_with (go_at_call 9; refine K.mono ?_; rintro e w' ⟨rfl, hb⟩)
  go_ret
  exact ⟨rfl, hb⟩
set_option maxRecDepth 100000 in
set_option maxHeartbeats 8000000 in
theorem walk_yes (s : ByteArray) (a : Option Addr) (cap : Nat) (l : List Int) (w : World) (h : s.size ≤ 100) (h2 : l.length ≤ 1000) (hl : Byt l) (hcap : l.length ≤ cap) (hm : cap ≤ maxLen) (hrow : Row w a l) (h9 : T9 w) (hW : TW w) (X : List Int)
    (KD : Calls Tryd.prog 14 #[.string s, .slice a l.length cap] w fun e w' => ∃ v, e = .returned (.tuple #[v, .agg #[.int .i64 0, .int .i64 0]]) ∧ Own w' w.heap.size v X ∧ Below w.heap.size w w')
    (KR : ∀ W, Below w.heap.size w W → Calls Tryd.prog 15 #[.string s, .slice a l.length cap] W fun e w' => ∃ v, e = .returned (.tuple #[v, .agg #[.int .i64 0, .int .i64 0]]) ∧ Own w' W.heap.size v X ∧ Below W.heap.size W w') :
    Calls Tryd.prog 4 #[.string s, .slice a l.length cap] w fun e w' => e = .returned (.bool true) ∧ Below w.heap.size w w' := by
  have K : ∀ W : World, Below w.heap.size w W → Calls Tryd.prog 9 #[] W fun e w' => e = .returned (.bool true) ∧ Below W.heap.size W w' := fun W hb => alive_any W (h9.below hb) (hW.below hb)
  have KL : ∀ W : World, Below w.heap.size w W → Calls Tryd.prog 16 #[.slice a l.length cap] W fun e w' => e = .returned (.string (strOfNums (leastZ l))) ∧ Below W.heap.size W w' := fun W hb => least_any a l.length cap l W rfl hcap hm (row_below hrow hb)
  have hm' := hm
  unfold maxLen at hm'
  obtain ⟨len, hlen⟩ : ∃ len, l.length = len := ⟨_, rfl⟩
  have HL : Hid (l.length = len) := hlen
  have HR : Hid (Row w a l) := hrow
  rw [hlen] at h2 hcap KD KR KL ⊢
  clear hrow hlen h9 hW
  go_enter Tryd.func4, Tryd.ntmps4
  go_wp2_with fail
  refine KD.mono ?_
  rintro e w1 ⟨v1, rfl, hown1, hb1⟩
  obtain ⟨a1, cap1, rfl, hc1, hm1, hrow1, hn1⟩ := own_row' hown1
  have B1 := hb1.alloc hb1.size (.cells #[.int .i64 0, .int .i64 0] 26)
  go_wp2_with fail
  refine (KR _ B1).mono ?_
  rintro e w2 ⟨v2, rfl, hown2, hb2⟩
  obtain ⟨a2, cap2, rfl, hc2, hm2, hrow2, hn2⟩ := own_row' hown2
  have B2 := B1.trans (hb2.mono B1.size)
  have B2' := B2.alloc B2.size (.cells #[.int .i64 0, .int .i64 0] 26)
  have hs2 : w1.heap.size + 1 ≤ w2.heap.size := by have := hb2.size; simpa using this
  obtain ⟨W2, hW2⟩ : ∃ W2, w2.alloc (.cells #[.int .i64 0, .int .i64 0] 26) = W2 := ⟨_, rfl⟩
  have k2 := keep w2 (.cells #[.int .i64 0, .int .i64 0] 26)
  rw [hW2] at B2' k2
  have HA0 : Hid (W2.cell? ⟨w1.heap.size, 0, none⟩ = some (.int .i64 0)) := by
    unfold Hid; rw [k2.cell (by simp; omega), hb2.cell (by simp)]; simp
  have HA1 : Hid (W2.cell? ⟨w1.heap.size, 1, none⟩ = some (.int .i64 0)) := by
    unfold Hid; rw [k2.cell (by simp; omega), hb2.cell (by simp)]; simp
  have HB0 : Hid (W2.cell? ⟨w2.heap.size, 0, none⟩ = some (.int .i64 0)) := by unfold Hid; rw [← hW2]; simp
  have HB1 : Hid (W2.cell? ⟨w2.heap.size, 1, none⟩ = some (.int .i64 0)) := by unfold Hid; rw [← hW2]; simp
  have hWs : w2.heap.size < W2.heap.size := by rw [← hW2]; simp
  have HBW : Hid (Below w.heap.size w W2) := B2'
  have HWW : Hid (w2.alloc (.cells #[.int .i64 0, .int .i64 0] 26) = W2) := hW2
  have R1 : Hid (Row W2 a1 X) := row_below (row_below (row_below (row_k hrow1) (keep w1 (.cells #[.int .i64 0, .int .i64 0] 26))) hb2) k2
  have R2 : Hid (Row W2 a2 X) := row_below (row_k hrow2) k2
  clear hown1 hown2 hrow1 hrow2
  clear hb1 hb2 B1 B2 B2' k2 hW2 KD KR
  go_wp2
  rw [HWW.out]
  go_loopw [9, 10] (fun t i wr => ∃ k : Nat, i = .int .i64 k ∧ k ≤ len ∧ t = .string (strOfNums (leastZ (l.take k))) ∧ wr = W2) (fun _ i _ => len - (intOf i).toNat)
  case atStart => exact ⟨0, rfl, by omega, rfl, rfl⟩
  case round =>
    obtain ⟨k, rfl, hk, rfl, rfl⟩ := hrel
    by_cases hlt : k < len
    · obtain ⟨c, hc⟩ : ∃ c, l[k]? = some c := ⟨_, List.getElem?_eq_getElem (by rw [HL.out]; exact hlt)⟩
      rcases row_below HR.out HBW.out with h | ⟨b, off, rfl, hcell⟩
      · rw [h] at hc; simp at hc
      · have c0 := hcell k (by rw [HL.out]; exact hlt)
        rw [List.getD_eq_getElem?_getD, hc] at c0
        simp only [Option.getD_some] at c0
        by_cases h128 : 128 ≤ c
        · have HS : Hid (leastZ (l.take (k + 1)) = [117, 116, 102, 45, 56]) := by
            unfold Hid leastZ
            rw [all_take _ l k c hc, if_neg]
            simp; omega
          have b1 : decide (c ≥ 128) = true := by simpa using h128
          clear hcell hc
          go_wp2
          go_roundw
          case rel => exact ⟨k + 1, by go_num, by omega, by rw [HS.out]; rfl, trivial⟩
          case measure => simp [intOf]; omega
        · have HS : Hid (leastZ (l.take (k + 1)) = leastZ (l.take k)) := by
            unfold Hid leastZ
            rw [all_take _ l k c hc, show decide (c ≤ 127) = true by simp; omega, Bool.and_true]
          have b1 : decide (c ≥ 128) = false := by simpa using h128
          clear hcell hc
          go_wp2
          go_roundw
          case rel => exact ⟨k + 1, by go_num, by omega, by rw [HS.out], trivial⟩
          case measure => simp [intOf]; omega
    · obtain rfl : k = len := by omega
      have htk : l.take k = l := List.take_of_length_le (by rw [HL.out]; exact Nat.le_refl _)
      rw [htk]
      obtain ⟨L, hL⟩ : ∃ L, strOfNums (leastZ l) = L := ⟨_, rfl⟩
      rw [hL] at KL
      rw [hL]
      have hLL : (L.toList == L.toList) = true := by simp
      clear htk hL
      go_wp2_with fail
      refine (K _ HBW.out).mono ?_
      rintro e w3 ⟨rfl, hb3⟩
      have B3 := HBW.out.trans (hb3.mono HBW.out.size)
      have a0 : w3.cell? ⟨w1.heap.size, 0, none⟩ = some (.int .i64 0) := by rw [hb3.cell (by simp; omega)]; exact HA0.out
      have a1' : w3.cell? ⟨w1.heap.size, 1, none⟩ = some (.int .i64 0) := by rw [hb3.cell (by simp; omega)]; exact HA1.out
      have b0 : w3.cell? ⟨w2.heap.size, 0, none⟩ = some (.int .i64 0) := by rw [hb3.cell (by simp; omega)]; exact HB0.out
      have b1' : w3.cell? ⟨w2.heap.size, 1, none⟩ = some (.int .i64 0) := by rw [hb3.cell (by simp; omega)]; exact HB1.out
      have kx1 := conv_row X.length cap1 rfl (row_below R1.out hb3)
      have kx2 := conv_row X.length cap2 rfl (row_below R2.out hb3)
      go_wp2_with fail
      refine (KL _ B3).mono ?_
      rintro e w4 ⟨rfl, hb4⟩
      have HF : Hid (Below w.heap.size w w4) := B3.trans (hb4.mono B3.size)
      clear hb3 hb4 B3 K KL
      go_wp2
      go_ret
      exact ⟨rfl, HF.out⟩
set_option maxRecDepth 100000 in
set_option maxHeartbeats 8000000 in
theorem walk_bad (s : ByteArray) (a : Option Addr) (cap : Nat) (l : List Int) (w : World) (h : s.size ≤ 100) (h2 : l.length ≤ 1000) (hl : Byt l) (hcap : l.length ≤ cap) (hm : cap ≤ maxLen) (hrow : Row w a l) (h9 : T9 w) (hW : TW w) (n c : Int)
    (KD : Calls Tryd.prog 14 #[.string s, .slice a l.length cap] w fun e w' => e = .returned (.tuple #[.slice none 0 0, .agg #[.int .i64 n, .int .i64 c]]) ∧ Below w.heap.size w w')
    (KR : ∀ W, Below w.heap.size w W → Calls Tryd.prog 15 #[.string s, .slice a l.length cap] W fun e w' => e = .returned (.tuple #[.slice none 0 0, .agg #[.int .i64 n, .int .i64 c]]) ∧ Below W.heap.size W w') :
    Calls Tryd.prog 4 #[.string s, .slice a l.length cap] w fun e w' => e = .returned (.bool true) ∧ Below w.heap.size w w' := by
  have K : ∀ W : World, Below w.heap.size w W → Calls Tryd.prog 9 #[] W fun e w' => e = .returned (.bool true) ∧ Below W.heap.size W w' := fun W hb => alive_any W (h9.below hb) (hW.below hb)
  have KL : ∀ W : World, Below w.heap.size w W → Calls Tryd.prog 16 #[.slice a l.length cap] W fun e w' => e = .returned (.string (strOfNums (leastZ l))) ∧ Below W.heap.size W w' := fun W hb => least_any a l.length cap l W rfl hcap hm (row_below hrow hb)
  have hm' := hm
  unfold maxLen at hm'
  obtain ⟨len, hlen⟩ : ∃ len, l.length = len := ⟨_, rfl⟩
  have HL : Hid (l.length = len) := hlen
  have HR : Hid (Row w a l) := hrow
  rw [hlen] at h2 hcap KD KR KL ⊢
  clear hrow hlen h9 hW
  go_enter Tryd.func4, Tryd.ntmps4
  go_wp2_with fail
  refine KD.mono ?_
  rintro e w1 ⟨rfl, hb1⟩
  have B1 := hb1.alloc hb1.size (.cells #[.int .i64 n, .int .i64 c] 26)
  go_wp2_with fail
  refine (KR _ B1).mono ?_
  rintro e w2 ⟨rfl, hb2⟩
  have B2 := B1.trans (hb2.mono B1.size)
  have B2' := B2.alloc B2.size (.cells #[.int .i64 n, .int .i64 c] 26)
  have hs2 : w1.heap.size + 1 ≤ w2.heap.size := by have := hb2.size; simpa using this
  obtain ⟨W2, hW2⟩ : ∃ W2, w2.alloc (.cells #[.int .i64 n, .int .i64 c] 26) = W2 := ⟨_, rfl⟩
  have k2 := keep w2 (.cells #[.int .i64 n, .int .i64 c] 26)
  rw [hW2] at B2' k2
  have HA0 : Hid (W2.cell? ⟨w1.heap.size, 0, none⟩ = some (.int .i64 n)) := by
    unfold Hid; rw [k2.cell (by simp; omega), hb2.cell (by simp)]; simp
  have HA1 : Hid (W2.cell? ⟨w1.heap.size, 1, none⟩ = some (.int .i64 c)) := by
    unfold Hid; rw [k2.cell (by simp; omega), hb2.cell (by simp)]; simp
  have HB0 : Hid (W2.cell? ⟨w2.heap.size, 0, none⟩ = some (.int .i64 n)) := by unfold Hid; rw [← hW2]; simp
  have HB1 : Hid (W2.cell? ⟨w2.heap.size, 1, none⟩ = some (.int .i64 c)) := by unfold Hid; rw [← hW2]; simp
  have hWs : w2.heap.size < W2.heap.size := by rw [← hW2]; simp
  have HBW : Hid (Below w.heap.size w W2) := B2'
  have HWW : Hid (w2.alloc (.cells #[.int .i64 n, .int .i64 c] 26) = W2) := hW2
  clear hb1 hb2 B1 B2 B2' k2 hW2 KD KR
  go_wp2
  rw [HWW.out]
  go_loopw [9, 10] (fun t i wr => ∃ k : Nat, i = .int .i64 k ∧ k ≤ len ∧ t = .string (strOfNums (leastZ (l.take k))) ∧ wr = W2) (fun _ i _ => len - (intOf i).toNat)
  case atStart => exact ⟨0, rfl, by omega, rfl, rfl⟩
  case round =>
    obtain ⟨k, rfl, hk, rfl, rfl⟩ := hrel
    by_cases hlt : k < len
    · obtain ⟨c, hc⟩ : ∃ c, l[k]? = some c := ⟨_, List.getElem?_eq_getElem (by rw [HL.out]; exact hlt)⟩
      rcases row_below HR.out HBW.out with h | ⟨b, off, rfl, hcell⟩
      · rw [h] at hc; simp at hc
      · have c0 := hcell k (by rw [HL.out]; exact hlt)
        rw [List.getD_eq_getElem?_getD, hc] at c0
        simp only [Option.getD_some] at c0
        by_cases h128 : 128 ≤ c
        · have HS : Hid (leastZ (l.take (k + 1)) = [117, 116, 102, 45, 56]) := by
            unfold Hid leastZ
            rw [all_take _ l k c hc, if_neg]
            simp; omega
          have b1 : decide (c ≥ 128) = true := by simpa using h128
          clear hcell hc
          go_wp2
          go_roundw
          case rel => exact ⟨k + 1, by go_num, by omega, by rw [HS.out]; rfl, trivial⟩
          case measure => simp [intOf]; omega
        · have HS : Hid (leastZ (l.take (k + 1)) = leastZ (l.take k)) := by
            unfold Hid leastZ
            rw [all_take _ l k c hc, show decide (c ≤ 127) = true by simp; omega, Bool.and_true]
          have b1 : decide (c ≥ 128) = false := by simpa using h128
          clear hcell hc
          go_wp2
          go_roundw
          case rel => exact ⟨k + 1, by go_num, by omega, by rw [HS.out], trivial⟩
          case measure => simp [intOf]; omega
    · obtain rfl : k = len := by omega
      have htk : l.take k = l := List.take_of_length_le (by rw [HL.out]; exact Nat.le_refl _)
      rw [htk]
      obtain ⟨L, hL⟩ : ∃ L, strOfNums (leastZ l) = L := ⟨_, rfl⟩
      rw [hL] at KL
      rw [hL]
      have hLL : (L.toList == L.toList) = true := by simp
      clear htk hL
      go_wp2_with fail
      refine (K _ HBW.out).mono ?_
      rintro e w3 ⟨rfl, hb3⟩
      have B3 := HBW.out.trans (hb3.mono HBW.out.size)
      have a0 : w3.cell? ⟨w1.heap.size, 0, none⟩ = some (.int .i64 n) := by rw [hb3.cell (by simp; omega)]; exact HA0.out
      have a1' : w3.cell? ⟨w1.heap.size, 1, none⟩ = some (.int .i64 c) := by rw [hb3.cell (by simp; omega)]; exact HA1.out
      have b0 : w3.cell? ⟨w2.heap.size, 0, none⟩ = some (.int .i64 n) := by rw [hb3.cell (by simp; omega)]; exact HB0.out
      have b1' : w3.cell? ⟨w2.heap.size, 1, none⟩ = some (.int .i64 c) := by rw [hb3.cell (by simp; omega)]; exact HB1.out
      have kx1 := conv_row 0 0 rfl (.inl rfl : Row w3 none [])
      go_wp2_with fail
      refine (KL _ B3).mono ?_
      rintro e w4 ⟨rfl, hb4⟩
      have HF : Hid (Below w.heap.size w w4) := B3.trans (hb4.mono B3.size)
      clear hb3 hb4 B3 K KL
      go_wp2
      go_ret
      exact ⟨rfl, HF.out⟩
theorem walk (s : ByteArray) (a : Option Addr) (len cap : Nat) (z : List Int) (w : World) (hz : IsRow .u8 w a len cap z) (h9 : T9 w) (hW : TW w) :
    Calls Tryd.prog 4 #[.string s, .slice a len cap] w fun e w' => e = .returned (.bool true) ∧ Below w.heap.size w w' := by
  obtain ⟨l, hlen, hcap, hm, hl, hrow⟩ := byte_view hz
  subst hlen
  rcases Nat.lt_or_ge 100 s.size with h | h
  · exact walk_long1 s a _ cap w h h9 hW
  rcases Nat.lt_or_ge 1000 l.length with h2 | h2
  · exact walk_long2 s a _ cap w h h2 h9 hW
  rcases enc_any s l hl (by omega) (by omega) with ⟨n, c, hc0, _, _, _, hwhy, KE⟩ | ⟨ps, hq, hlp, hA, KE⟩
  · refine walk_bad s a cap l w h h2 hl hcap hm hrow h9 hW n c (KE w a cap hrow hcap hm h9 hW) fun W hb => ?_
    rcases hwhy with ⟨h0, rfl, rfl⟩ | ⟨h0, ps, r, hlr, hps, hr, hne, rfl, rfl⟩ | ⟨h0, ps, p, qs, hlp, hA, hp, hqs, hno, rfl, rfl⟩
    · exact rencode_unknown s a l.length cap W (by omega) h0
    · exact rencode_bad s a l.length cap _ W (by omega) h0 (by omega) fun W2 hb2 => Ut.rpoints_no a l.length cap ps r W2 (by rw [← hlr]) hps hr hne (fun x hx => hl x (by rw [hlr]; simp [hx])) hcap hm (by omega) (by rw [← hlr]; exact row_below hrow (hb.trans (hb2.mono hb.size)))
    · have hall : Ut.AllPt (ps ++ p :: qs) := hA.pts.append (fun x hx => by rcases List.mem_cons.1 hx with rfl | hx; exact hp; exact hqs x hx)
      have hge := Ut.flat_ge (ps ++ p :: qs)
      rw [← hlp] at hge
      have KP : ∀ W2, Below W.heap.size W W2 → Calls Tryd.prog 30 #[.slice a l.length cap] W2 fun e w' => ∃ v, e = .returned (.tuple #[v, .agg #[.int .i64 0, .int .i64 0]]) ∧ Ut.Own32 w' W2.heap.size v (ps ++ p :: qs) ∧ Below W2.heap.size W2 w' := fun W2 hb2 => Ut.rpoints_yes a l.length cap (ps ++ p :: qs) W2 (by rw [← hlp]) hall hcap hm (by omega) (by rw [← hlp]; exact row_below hrow (hb.trans (hb2.mono hb.size)))
      by_cases h6 : setB (lowS s) = 6
      · exact rencode_no6 s a l.length cap ps p qs _ W (by omega) h6 rfl hall hA hno (by omega) (by omega) (by rw [← hlp]; omega) KP
      · exact rencode_no s a l.length cap ps p qs _ W (by omega) h0 h6 rfl hall hA hno (by omega) (by omega) (by rw [← hlp]; omega) KP
  · have hge := Ut.flat_ge ps
    rw [← hlp] at hge
    refine walk_yes s a cap l w h h2 hl hcap hm hrow h9 hW _ (KE w a cap hrow hcap hm h9 hW) fun W hb => ?_
    have KP : ∀ W2, Below W.heap.size W W2 → Calls Tryd.prog 30 #[.slice a l.length cap] W2 fun e w' => ∃ v, e = .returned (.tuple #[v, .agg #[.int .i64 0, .int .i64 0]]) ∧ Ut.Own32 w' W2.heap.size v ps ∧ Below W2.heap.size W2 w' := fun W2 hb2 => Ut.rpoints_yes a l.length cap ps W2 (by rw [← hlp]) hA.pts hcap hm (by omega) (by rw [← hlp]; exact row_below hrow (hb.trans (hb2.mono hb.size)))
    by_cases h6 : setB (lowS s) = 6
    · rw [show markS (setB (lowS s)) = [254, 255] by unfold markS; rw [if_pos h6]]
      exact rencode_yes6 s a l.length cap ps _ W (by omega) h6 rfl hA.pts hA (by omega) (by omega) (by rw [← hlp]; omega) KP
    · rw [show markS (setB (lowS s)) = [] by unfold markS; rw [if_neg h6]]
      exact rencode_yes s a l.length cap ps _ W (by omega) hq h6 rfl hA.pts hA (by omega) (by omega) (by rw [← hlp]; omega) KP

set_option maxRecDepth 100000 in
theorem lifted (os : Os) (started : os.Started) (H : Type) (enc : TypeId × Value → H) :
    ReturnsInHanded {} Tryd.checked os 4 .any (fun w args => (Rows.charsetEncodesSpec.pre enc Tryd.prog Tryd.f4 Rows.charsetEncodesRow.domain false w args ∧ laidMetH Tryd.prog Rows.charsetEncodesRow.laid w) ∧ sizedMet enc Tryd.prog Tryd.f4 (OpenSpec.ofChange Rows.charsetEncodesSpec) false w args)
      (Rows.charsetEncodesSpec.post enc Tryd.prog Tryd.f4 false true false false) := by
  refine returnsInHanded_of_change_and (C := Tryd.checked) (X := fun w _ => laidMetH Tryd.prog Rows.charsetEncodesRow.laid w) (fun _ _ _ hh h => h.of_heap hh) own started (by kernel_rfl) Tryd.func4
    (ChangeSpec.witness_shaped (enc := enc) (C := Tryd.checked) (os := os) (X := fun w _ => laidMetH Tryd.prog Rows.charsetEncodesRow.laid w) false (World.laidAll Tryd.prog os Rows.charsetEncodesRow.laid) #[.string ⟨#[]⟩, .slice none 0 0] 8 (World.laidAll_os _ _ _)
      (World.shaped_of_ZipB (by kernel_rfl) (by kernel_rfl)) (by kernel_rfl) (by kernel_rfl) (by kernel_rfl)
      (by rw [MakeChecks.laidMetH_plain _ _ _ (by kernel_rfl)]; exact laidMet_laidAll _ (by kernel_rfl) (by kernel_rfl))) ?_
  intro W base args ds gs before hval0 hW0 hcnd _ hL0 _
  have hL : laidMet Tryd.prog Rows.charsetEncodesRow.laid W := by
    have : laidMetH Tryd.prog Rows.charsetEncodesRow.laid W := hL0
    rwa [MakeChecks.laidMetH_plain _ _ _ (by kernel_rfl)] at this
  have hval : ∀ (j : Nat) t v, Tryd.f4.params[j]? = some t → args[j]? = some v → Value.okWide Tryd.prog W .any base t v := hval0
  have hW' := hW0
  obtain ⟨p, q, hA0, hV, rfl, hfz, hnd⟩ := hW0
  have hA : DataW.TrodAll enc Tryd.prog W 0 (fun _ => true) true Tryd.f4.params.toList args.toList ds p := hA0
  rw [Tryd.params4] at hA hval
  obtain ⟨v0, vs0, d0, ds0, p0, q0, hargs, rfl, rfl, h0, r0⟩ := trodAll_cons hA
  obtain ⟨v1, vs1, d1, ds1, p1, q1, rfl, rfl, rfl, h1, r1⟩ := trodAll_cons r0
  obtain ⟨rfl, rfl, rfl⟩ := trodAll_nil r1
  obtain rfl : args = #[v0, v1] := by cases args; simp_all
  obtain ⟨rfl, rfl⟩ := trodVars_none hV
  have k0 := h0
  have lt0 : ∀ x ∈ p0, x.block < W.heap.size := by obtain ⟨m, hm⟩ := k0; exact DataW.trod_lt m _ _ _ hm
  obtain ⟨s0, rfl, _, _, hs0⟩ := open_string Tryd.underlying9 (hval 0 9 v0 rfl rfl) h0
  have k1 := h1
  have lt1 : ∀ x ∈ p1, x.block < W.heap.size := by obtain ⟨m, hm⟩ := k1; exact DataW.trod_lt m _ _ _ hm
  obtain ⟨a1, len1, cap1, rfl⟩ := okWide_slice Tryd.underlying22 (hval 1 22 v1 rfl rfl)
  obtain ⟨z1, w1⟩ : ∃ zs, IsRow .u8 W a1 len1 cap1 zs := by
    obtain ⟨fuel, hf⟩ := h1
    rcases open_ints Tryd.underlying22 Tryd.underlying5 (by kernel_rfl) hf with ⟨hcs, _⟩ | ⟨x, l, c, zs, hcs, _, hl, hm, hz, _, hcell, hwz⟩
    · simp [Value.cells] at hcs
      obtain ⟨rfl, rfl, rfl⟩ := hcs
      exact ⟨[], .inl ⟨rfl, rfl, rfl, rfl⟩⟩
    · simp [Value.cells] at hcs
      obtain ⟨rfl, rfl, rfl⟩ := hcs
      exact ⟨zs, .inr ⟨_, rfl, hl, hm, by simpa using hz, hcell, hwz⟩⟩
  clear hA0 hval0
  have h9 := t9_of hL
  have hWt := tW_of (laidMet.tail hL)
  simp only [List.append_nil] at hW'
  refine (walk s0 a1 len1 cap1 z1 W w1 h9 hWt).mono fun e W' ⟨he, bel⟩ => ?_
  subst he
  exact ⟨_, rfl, _, _, _, [], _, [], hW', trodAll_mk1 (shut_bool Tryd.underlying4 _), (trodAll_cons_mk (Below.trod laidOut (by kernel_rfl) (of_decide_eq_true (by kernel_rfl)) k0 bel lt0) (trodAll_cons_mk (Below.trod laidOut (by kernel_rfl) (of_decide_eq_true (by kernel_rfl)) k1 bel lt1) trodAll_mk0)), rfl, bel.frame _, fun h => by cases h⟩

theorem over : Rows.CharsetEncodesSaid :=
  OpenClaim.holds_of_wide 4 Tryd.f4 rfl rfl rfl rfl rfl rfl rfl ⟨rfl, rfl, rfl, rfl, rfl⟩ rfl rfl rfl rfl rfl (by kernel_rfl) Tryd.func4 (by kernel_rfl)
    (of_decide_eq_true (by kernel_rfl)) (by unfold Func.isWrapper; first | (rw [if_pos (by decide +kernel)]; kernel_rfl) | (rw [if_neg (by decide +kernel)]; exact ⟨rfl, rfl⟩))
    (fun os started H enc _ => lifted os started H enc)
end Go.Proofs.YtlhhbmolkiojfaaDoor.charsetEncodes
namespace Go.Proofs.YtlhhbmolkiojfaaDoor
theorem charsetEncodes_card : Rows.CharsetEncodesCardSaid :=
  Claim7.holds_tied_plain_at .later [] _ _ _ _ charsetEncodes.over (fun _ h => by cases h) (by kernel_rfl) (fun _ h => by cases h) charsetEncodes_row_tie rfl ⟨rfl, rfl⟩ (by kernel_rfl) rfl
    (fun f fn hf hfn => by
      obtain rfl : f = 4 := Option.some.inj ((show Tryd.prog.funcNamed Rows.charsetEncodesRow.func = some 4 by kernel_rfl).symm.trans hf) |>.symm
      obtain rfl : fn = Tryd.f4 := (Option.some.inj (Tryd.func4.symm.trans hfn)).symm
      exact ⟨by kernel_rfl, fun j t ht => by
        rw [Tryd.params4] at ht
        have hm : t ∈ [9, 22] := by simpa using Array.mem_of_getElem? ht
        have hall : ([9, 22].all fun u => !Tryd.prog.wantsStandIn u) = true := by kernel_rfl
        exact (show Tryd.prog.wantsStandIn t = false by simpa using List.all_eq_true.1 hall t hm)⟩)
    (by kernel_rfl)
#print axioms charsetEncodes_card
end Go.Proofs.YtlhhbmolkiojfaaDoor
