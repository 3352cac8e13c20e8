/-
  The contracts of appendUnit, appendPoint and Least.
-/
import Derived.Test.YtlhhbmolkiojfaaDoorCv
namespace Go.Proofs.YtlhhbmolkiojfaaDoor
open Go.RowKit
set_option linter.unusedVariables false

set_option maxRecDepth 100000 in
set_option maxHeartbeats 1000000 in
theorem appendUnit8 (s u : Int) (w : World) (B : Nat) (v : Value) (l : List Int) (hs : s = 8) (h0 : 0 ≤ u) (h1 : u < 65536) (hown : w.ownsRow B 5 1 v l.length (l.map (Value.int .u8))) (hB : B ≤ w.heap.size) (hl : l.length ≤ 70368744177664) :
    Calls Tryd.prog 27 #[v, .int .i64 s, .int .i32 u] w fun e w' => ∃ v', e = .returned v' ∧ Own w' B v' (l ++ twoZ s u) ∧ Below B w w' := by
  subst hs
  obtain ⟨i0, hi, hz0, hz1, hz2⟩ := info_parts Tryd.info5
  have HE : Hid (twoZ 8 u = [u % 256, u / 256]) := by unfold Hid twoZ; rw [if_pos rfl]
  have hw : u / 256 % 256 = u / 256 := by omega
  go_enter Tryd.func27, Tryd.ntmps27
  go_wp2_with (at_builtin; refine wpList_append_own _ rfl _ _ 22 rfl B 5 i0 (.int .u8 0) 1 1 Tryd.underlying22 hi hz0 hz1 hz2 rfl (by decide) _ _ _ rfl (hown.alloc _) ⟨w.heap.size, 0, none⟩ 2 2 (([u % 256, u / 256] : List Int).map (Value.int .u8)) rfl rfl (cells_new _ _ _) (ints_one _) ?c3 ?c4 ?c5 ?_)
  case c3 => unfold maxLen; omega
  case c4 => omega
  case c5 => simp; omega
  intro v' w1 hown' hgrow _
  go_wp2
  go_ret
  exact ⟨v', rfl, by rw [HE.out]; exact own_snoc hown', ((Below.refl B w).alloc hB _).grown hgrow (by simp; omega) (fun k hk => (hown.lt k hk).1)⟩
set_option maxRecDepth 100000 in
set_option maxHeartbeats 1000000 in
theorem appendUnit7 (s u : Int) (w : World) (B : Nat) (v : Value) (l : List Int) (hs : (s == 8) = false) (h0 : 0 ≤ u) (h1 : u < 65536) (hown : w.ownsRow B 5 1 v l.length (l.map (Value.int .u8))) (hB : B ≤ w.heap.size) (hl : l.length ≤ 70368744177664) :
    Calls Tryd.prog 27 #[v, .int .i64 s, .int .i32 u] w fun e w' => ∃ v', e = .returned v' ∧ Own w' B v' (l ++ twoZ s u) ∧ Below B w w' := by
  obtain ⟨i0, hi, hz0, hz1, hz2⟩ := info_parts Tryd.info5
  have HE : Hid (twoZ s u = [u / 256, u % 256]) := by unfold Hid twoZ; rw [if_neg (by simpa using hs)]
  have hw : u / 256 % 256 = u / 256 := by omega
  go_enter Tryd.func27, Tryd.ntmps27
  go_wp2_with (at_builtin; refine wpList_append_own _ rfl _ _ 22 rfl B 5 i0 (.int .u8 0) 1 1 Tryd.underlying22 hi hz0 hz1 hz2 rfl (by decide) _ _ _ rfl (hown.alloc _) ⟨w.heap.size, 0, none⟩ 2 2 (([u / 256, u % 256] : List Int).map (Value.int .u8)) rfl rfl (cells_new _ _ _) (ints_one _) ?c3 ?c4 ?c5 ?_)
  case c3 => unfold maxLen; omega
  case c4 => omega
  case c5 => simp; omega
  intro v' w1 hown' hgrow _
  go_wp2
  go_ret
  exact ⟨v', rfl, by rw [HE.out]; exact own_snoc hown', ((Below.refl B w).alloc hB _).grown hgrow (by simp; omega) (fun k hk => (hown.lt k hk).1)⟩
theorem appendUnit_any (s u : Int) (w : World) (B : Nat) (v : Value) (l : List Int) (h0 : 0 ≤ u) (h1 : u < 65536) (hown : w.ownsRow B 5 1 v l.length (l.map (Value.int .u8))) (hB : B ≤ w.heap.size) (hl : l.length ≤ 70368744177664) :
    Calls Tryd.prog 27 #[v, .int .i64 s, .int .i32 u] w fun e w' => ∃ v', e = .returned v' ∧ Own w' B v' (l ++ twoZ s u) ∧ Below B w w' := by
  by_cases h : s = 8
  · exact appendUnit8 s u w B v l h h0 h1 hown hB hl
  · exact appendUnit7 s u w B v l (by simpa using h) h0 h1 hown hB hl
theorem i32_and1023 (x : Int) (h : 0 ≤ x) (h' : x < 2147483648) : bits .and .i32 x 1023 = x % 1024 :=
  bits_mask .i32 31 (by decide) (fun n h0 h1 => by simp [IntKind.wrap, IntKind.bits, IntKind.signed]; omega) 10 (by decide) x h (by simpa using h')
set_option maxRecDepth 100000 in
set_option maxHeartbeats 2000000 in
theorem appendPointS_any (s p : Int) (w : World) (B : Nat) (v : Value) (l : List Int) (hs : SetOk s) (hp : Ut.ptB p = true) (hown : w.ownsRow B 5 1 v l.length (l.map (Value.int .u8))) (hB : B ≤ w.heap.size) (hl : l.length ≤ 70368744000000) (h9 : T9 w) (hW : TW w) :
    Calls Tryd.prog 29 #[v, .int .i64 s, .int .i32 p] w fun e w' => ∃ v', e = .returned v' ∧ Own w' B v' (l ++ encS s p) ∧ Below B w w' := by
  obtain ⟨i0, hi, hz0, hz1, hz2⟩ := info_parts Tryd.info5
  obtain ⟨hp0, hp1, hp2⟩ := (Ut.ptB_iff p).1 hp
  by_cases h2 : s = 2
  · subst h2
    have HE : Hid (encS 2 p = Ut.encZ p) := rfl
    have HP : Hid (Ut.ptB p = true) := hp
    have hlen := Ut.enc_len p
    clear hp h9 hW hp2
    go_enter Tryd.func29, Tryd.ntmps29
    go_wp2_with fail
    refine (Ut.put_yes p w HP.out).mono ?_
    rintro e w1 ⟨v1, rfl, hown1, hb1⟩
    obtain ⟨a1, cap1, rfl, hcap1, hmax1, hrow1, hnil1⟩ := own_row' hown1
    have hown2 := own_keep hown hb1
    have hs1 := hb1.size
    go_wp2_with (at_builtin; refine wpList_append_rowk rfl (.tmp 18) (.tmp 19) 22 rfl B 5 i0 (.int .u8 0) 1 Tryd.underlying22 hi hz0 hz1 hz2 rfl .u8 _ _ _ rfl hown2 a1 (Ut.encZ p).length cap1 (Ut.encZ p) rfl rfl hnil1 hrow1 ?c1 ?c2 ?c3 ?_)
    case c1 => unfold maxLen; omega
    case c2 => omega
    case c3 => omega
    intro v' w2 hown' hgrow
    go_wp2
    go_ret
    exact ⟨v', rfl, own_snoc hown', (hb1.mono hB).grown hgrow (by omega) (fun k hk => (hown.lt k hk).1)⟩
  · have b2 : (s == 2) = false := by simpa using h2
    by_cases h7 : s = 7 ∨ s = 8
    · by_cases hlt : p < 65536
      · have HE : Hid (encS s p = twoZ s p) := by unfold Hid encS encU; rw [if_neg h2, if_pos h7, if_pos hlt]
        rcases h7 with rfl | rfl
        all_goals (
          clear h9 hW hp hp2
          go_enter Tryd.func29, Tryd.ntmps29
          go_wp2_with (go_at_call 27; refine (appendUnit_any _ p w B v l hp0 hlt hown hB (by omega)).mono ?_; rintro e w1 ⟨v1, rfl, hown1, hb1⟩)
          go_ret
          exact ⟨v1, rfl, by rw [HE.out]; exact hown1, hb1⟩)
      · have HE : Hid (encS s p = twoZ s (55296 + (p - 65536) / 1024) ++ twoZ s (56320 + (p - 65536) % 1024)) := by unfold Hid encS encU; rw [if_neg h2, if_pos h7, if_neg hlt]
        have ha := i32_and1023 (p - 65536) (by omega) (by omega)
        have hl2 : ∀ z u, (twoZ z u).length = 2 := fun z u => by unfold twoZ; split <;> rfl
        rcases h7 with rfl | rfl
        all_goals (
          clear h9 hW hp hp2
          go_enter Tryd.func29, Tryd.ntmps29
          go_wp2_with fail
          refine (appendUnit_any _ (55296 + (p - 65536) / 1024) w B v l (by omega) (by omega) hown hB (by omega)).mono ?_
          rintro e w1 ⟨v1, rfl, hown1, hb1⟩
          go_wp2_with fail
          refine (appendUnit_any _ (56320 + (p - 65536) % 1024) w1 B v1 _ (by omega) (by omega) hown1 (Nat.le_trans hB hb1.size) (by rw [List.length_append, hl2]; omega)).mono ?_
          rintro e w2 ⟨v2, rfl, hown2, hb2⟩
          go_wp2
          go_ret
          exact ⟨v2, rfl, by rw [HE.out, ← List.append_assoc]; exact hown2, hb1.trans hb2⟩)
    · have b7 : (s == 7) = false := by simp; omega
      have b8 : (s == 8) = false := by simp; omega
      have K := byteOf_any s p w hp0 hp1 h9 hW
      have HQ : Hid (byOf s p ≠ -1 → 0 ≤ byOf s p ∧ byOf s p < 256) := fun h => (by_pt hp0 h).1
      have HE : Hid (encS s p = if byOf s p = -1 then [] else [byOf s p]) := by unfold Hid encS; rw [if_neg h2, if_neg h7]
      obtain ⟨q, hq⟩ : ∃ q, byOf s p = q := ⟨_, rfl⟩
      rw [hq] at K HQ HE
      clear hq h9 hW hp hp2
      by_cases hq1 : q = -1
      · subst hq1
        rw [if_pos rfl] at HE
        go_enter Tryd.func29, Tryd.ntmps29
        go_wp2_with (go_at_call 43; refine K.mono ?_; rintro e w1 ⟨rfl, hb1⟩)
        go_ret
        exact ⟨v, rfl, by rw [HE.out, List.append_nil]; exact own_keep hown hb1, hb1.mono hB⟩
      · rw [if_neg hq1] at HE
        obtain ⟨hq2, hq3⟩ := HQ.out hq1
        have bq : (q != -1) = true := by simpa using hq1
        have hw : q % 256 = q := by omega
        go_enter Tryd.func29, Tryd.ntmps29
        go_wp2_with fail
        refine K.mono ?_
        rintro e w1 ⟨rfl, hb1⟩
        have hown2 := own_keep hown hb1
        have hs1 := hb1.size
        go_wp2_with (at_builtin; refine wpList_append_own _ rfl _ _ 22 rfl B 5 i0 (.int .u8 0) 1 1 Tryd.underlying22 hi hz0 hz1 hz2 rfl (by decide) _ _ _ rfl (hown2.alloc _) ⟨w1.heap.size, 0, none⟩ 1 1 (([q] : List Int).map (Value.int .u8)) rfl rfl (cells_new _ _ _) (ints_one _) ?c3 ?c4 ?c5 ?_)
        case c3 => unfold maxLen; omega
        case c4 => omega
        case c5 => simp; omega
        intro v' w2 hown' hgrow _
        go_wp2
        go_ret
        exact ⟨v', rfl, by rw [HE.out]; exact own_snoc hown', ((hb1.mono hB).alloc (by omega) _).grown hgrow (by simp; omega) (fun k hk => (hown2.lt k hk).1)⟩
/-- The least set: are all bytes below 128? -/
def leastZ (l : List Int) : List Int := if l.all (fun c => decide (c ≤ 127)) then [117, 115, 45, 97, 115, 99, 105, 105] else [117, 116, 102, 45, 56]
set_option maxRecDepth 100000 in
set_option maxHeartbeats 2000000 in
theorem least_any (a : Option Addr) (len cap : Nat) (l : List Int) (w : World) (hlen : l.length = len) (hcap : len ≤ cap) (hm : cap ≤ maxLen) (hrow : Row w a l) :
    Calls Tryd.prog 16 #[.slice a len cap] w fun e w' => e = .returned (.string (strOfNums (leastZ l))) ∧ Below w.heap.size w w' := by
  unfold maxLen at hm
  have HL : Hid (l.length = len) := hlen
  have HR : Hid (Row w a l) := hrow
  clear hlen hrow
  go_enter Tryd.func16, Tryd.ntmps16
  go_wp2
  go_loopw [4, 7] (fun _ i wr => ∃ k : Nat, i = .int .i64 k ∧ k ≤ len ∧ (l.take k).all (fun c => decide (c ≤ 127)) = true ∧ wr = w) (fun _ i _ => len - (intOf i).toNat)
  case atStart => exact ⟨0, rfl, by omega, rfl, rfl⟩
  case round =>
    obtain ⟨k, rfl, hk, hall, rfl⟩ := hrel
    have HA : Hid ((l.take k).all (fun c => decide (c ≤ 127)) = true) := hall
    clear hall
    by_cases hlt : k < len
    · obtain ⟨c, hc⟩ : ∃ c, l[k]? = some c := ⟨_, List.getElem?_eq_getElem (by rw [HL.out]; exact hlt)⟩
      have HC : Hid (l[k]? = some c) := hc
      rcases HR.out with h | ⟨b, off, rfl, hcell⟩
      · rw [h] at hc; simp at hc
      · have c0 := hcell k (by rw [HL.out]; exact hlt)
        rw [List.getD_eq_getElem?_getD, hc] at c0
        simp only [Option.getD_some] at c0
        clear hc hcell
        by_cases h127 : c > 127
        · have HS : Hid (leastZ l = [117, 116, 102, 45, 56]) := by
            unfold Hid leastZ
            rw [if_neg]
            intro h
            have := List.all_eq_true.1 h c (List.mem_of_getElem? HC.out)
            simp at this
            omega
          go_wp2
          go_ret
          exact ⟨by rw [HS.out]; rfl, Below.refl _ _⟩
        · have HN : Hid ((l.take (k + 1)).all (fun c => decide (c ≤ 127)) = true) := by
            unfold Hid
            rw [all_take _ l k c HC.out, HA.out]
            simp; omega
          go_wp2
          go_roundw
          case rel => exact ⟨k + 1, by go_num, by omega, HN.out, trivial⟩
          case measure => simp [intOf]; omega
    · obtain rfl : k = len := by omega
      have HS : Hid (leastZ l = [117, 115, 45, 97, 115, 99, 105, 105]) := by
        unfold Hid leastZ
        rw [if_pos]
        have := HA.out
        rwa [List.take_of_length_le (by rw [HL.out]; exact Nat.le_refl _)] at this
      go_wp2
      go_ret
      exact ⟨by rw [HS.out]; rfl, Below.refl _ _⟩
end Go.Proofs.YtlhhbmolkiojfaaDoor
