/-
  The contract of the reference's Put in a set.
-/
import Derived.Test.YtlhhbmolkiojfaaDoorDb
namespace Go.Proofs.YtlhhbmolkiojfaaDoor
open Go.RowKit
set_option linter.unusedVariables false

set_option maxRecDepth 100000 in
set_option maxHeartbeats 4000000 in
theorem sput2 (p : Int) (w : World) (hp : Ut.ptB p = true) : Calls Tryd.prog 31 #[.string (nmS 2), .int .i32 p] w fun e w' => ∃ v, e = .returned v ∧ Own w' w.heap.size v (Ut.encZ p) ∧ Below w.heap.size w w' := by
  rw [nmS2]
  have K := Ut.rput_yes p w hp
  clear hp
  go_enter Tryd.func31, Tryd.ntmps31
  go_wp2_with fail
  refine K.mono ?_
  rintro e w1 ⟨v1, rfl, hown1, hb1⟩
  go_wp2
  go_ret
  exact ⟨v1, rfl, hown1, hb1⟩
set_option maxRecDepth 100000 in
set_option maxHeartbeats 4000000 in
theorem sput6a (p : Int) (w : World) (h0 : 0 ≤ p) (h1 : p < 65536) : Calls Tryd.prog 31 #[.string (nmS 6), .int .i32 p] w fun e w' => ∃ v, e = .returned v ∧ Own w' w.heap.size v (twoZ 7 p) ∧ Below w.heap.size w w' := by
  rw [nmS6]
  have K := rtwo_be p w h0 h1
  go_enter Tryd.func31, Tryd.ntmps31
  go_wp2_with fail
  refine K.mono ?_
  rintro e w1 ⟨v1, rfl, hown1, hb1⟩
  go_wp2
  go_ret
  exact ⟨v1, rfl, hown1, hb1⟩
set_option maxRecDepth 100000 in
set_option maxHeartbeats 4000000 in
theorem sput6b (p : Int) (w : World) (h0 : 65536 ≤ p) (h1 : p ≤ 1114111) : Calls Tryd.prog 31 #[.string (nmS 6), .int .i32 p] w fun e w' => ∃ v, e = .returned v ∧ Own w' w.heap.size v (twoZ 7 (55296 + (p - 65536) / 1024) ++ twoZ 7 (56320 + (p - 65536) % 1024)) ∧ Below w.heap.size w w' := by
  rw [nmS6]
  obtain ⟨i0, hi, hz0, hz1, hz2⟩ := info_parts Tryd.info5
  have e1 : (p - 65536).tdiv 1024 = (p - 65536) / 1024 := Int.tdiv_eq_ediv_of_nonneg (by omega)
  have e2 : (p - 65536).tmod 1024 = (p - 65536) % 1024 := Int.tmod_eq_emod_of_nonneg (by omega)
  have hl2 : ∀ u, (twoZ 7 u).length = 2 := fun u => by unfold twoZ; split <;> rfl
  go_enter Tryd.func31, Tryd.ntmps31
  go_wp2_with fail
  refine (rtwo_be (55296 + (p - 65536) / 1024) w (by omega) (by omega)).mono ?_
  rintro e w1 ⟨v1, rfl, hown1, hb1⟩
  go_wp2_with fail
  refine (rtwo_be (56320 + (p - 65536) % 1024) w1 (by omega) (by omega)).mono ?_
  rintro e w2 ⟨v2, rfl, hown2, hb2⟩
  obtain ⟨a2, cap2, rfl, hc2, hm2, hrow2, hn2⟩ := own_row' hown2
  have hown1' := own_keep hown1 hb2
  have hs1 := hb1.size
  have hs2 := hb2.size
  have HO1 : Hid (w2.ownsRow w.heap.size 5 1 v1 (twoZ 7 (55296 + (p - 65536) / 1024)).length ((twoZ 7 (55296 + (p - 65536) / 1024)).map (Value.int .u8))) := hown1'
  have hla := hl2 (55296 + (p - 65536) / 1024)
  have hlb := hl2 (56320 + (p - 65536) % 1024)
  obtain ⟨X, hX⟩ : ∃ X, twoZ 7 (55296 + (p - 65536) / 1024) = X := ⟨_, rfl⟩
  obtain ⟨Y, hY⟩ : ∃ Y, twoZ 7 (56320 + (p - 65536) % 1024) = Y := ⟨_, rfl⟩
  rw [hX] at HO1 hla
  have HX : Hid (twoZ 7 (55296 + (p - 65536) / 1024) = X) := hX
  have HY : Hid (twoZ 7 (56320 + (p - 65536) % 1024) = Y) := hY
  rw [hY] at hrow2 hlb hc2
  rw [hY]
  have HR2 : Hid (RowK .u8 w2 a2 Y) := hrow2
  have HB : Hid (Below w.heap.size w w2) := hb1.trans (hb2.mono hs1)
  clear hown1 hown2 hown1' hb1 hb2 hrow2 hX hY hl2
  go_wp2_with (at_builtin; refine wpList_append_rowk rfl (.tmp 39) (.tmp 45) 22 rfl w.heap.size 5 i0 (.int .u8 0) 1 Tryd.underlying22 hi hz0 hz1 hz2 rfl .u8 _ _ _ rfl HO1.out a2 2 cap2 Y rfl hlb hn2 HR2.out ?c1 ?c2 ?c3 ?_)
  case c1 => unfold maxLen; omega
  case c2 => omega
  case c3 => omega
  intro v' w3 hown' hgrow
  have HV : Hid (Own w3 w.heap.size v' (X ++ Y)) := own_snoc (by rw [hla, hlb]; exact hown')
  have HB3 : Hid (Below w.heap.size w w3) := HB.out.grown hgrow (by omega) (fun k hk => (HO1.out.lt k hk).1)
  clear hown' hgrow
  go_wp2
  go_ret
  exact ⟨_, rfl, by rw [HX.out, HY.out]; exact HV.out, HB3.out⟩
set_option maxRecDepth 100000 in
set_option maxHeartbeats 4000000 in
theorem sput7a (p : Int) (w : World) (h0 : 0 ≤ p) (h1 : p < 65536) : Calls Tryd.prog 31 #[.string (nmS 7), .int .i32 p] w fun e w' => ∃ v, e = .returned v ∧ Own w' w.heap.size v (twoZ 7 p) ∧ Below w.heap.size w w' := by
  rw [nmS7]
  have K := rtwo_be p w h0 h1
  go_enter Tryd.func31, Tryd.ntmps31
  go_wp2_with fail
  refine K.mono ?_
  rintro e w1 ⟨v1, rfl, hown1, hb1⟩
  go_wp2
  go_ret
  exact ⟨v1, rfl, hown1, hb1⟩
set_option maxRecDepth 100000 in
set_option maxHeartbeats 4000000 in
theorem sput7b (p : Int) (w : World) (h0 : 65536 ≤ p) (h1 : p ≤ 1114111) : Calls Tryd.prog 31 #[.string (nmS 7), .int .i32 p] w fun e w' => ∃ v, e = .returned v ∧ Own w' w.heap.size v (twoZ 7 (55296 + (p - 65536) / 1024) ++ twoZ 7 (56320 + (p - 65536) % 1024)) ∧ Below w.heap.size w w' := by
  rw [nmS7]
  obtain ⟨i0, hi, hz0, hz1, hz2⟩ := info_parts Tryd.info5
  have e1 : (p - 65536).tdiv 1024 = (p - 65536) / 1024 := Int.tdiv_eq_ediv_of_nonneg (by omega)
  have e2 : (p - 65536).tmod 1024 = (p - 65536) % 1024 := Int.tmod_eq_emod_of_nonneg (by omega)
  have hl2 : ∀ u, (twoZ 7 u).length = 2 := fun u => by unfold twoZ; split <;> rfl
  go_enter Tryd.func31, Tryd.ntmps31
  go_wp2_with fail
  refine (rtwo_be (55296 + (p - 65536) / 1024) w (by omega) (by omega)).mono ?_
  rintro e w1 ⟨v1, rfl, hown1, hb1⟩
  go_wp2_with fail
  refine (rtwo_be (56320 + (p - 65536) % 1024) w1 (by omega) (by omega)).mono ?_
  rintro e w2 ⟨v2, rfl, hown2, hb2⟩
  obtain ⟨a2, cap2, rfl, hc2, hm2, hrow2, hn2⟩ := own_row' hown2
  have hown1' := own_keep hown1 hb2
  have hs1 := hb1.size
  have hs2 := hb2.size
  have HO1 : Hid (w2.ownsRow w.heap.size 5 1 v1 (twoZ 7 (55296 + (p - 65536) / 1024)).length ((twoZ 7 (55296 + (p - 65536) / 1024)).map (Value.int .u8))) := hown1'
  have hla := hl2 (55296 + (p - 65536) / 1024)
  have hlb := hl2 (56320 + (p - 65536) % 1024)
  obtain ⟨X, hX⟩ : ∃ X, twoZ 7 (55296 + (p - 65536) / 1024) = X := ⟨_, rfl⟩
  obtain ⟨Y, hY⟩ : ∃ Y, twoZ 7 (56320 + (p - 65536) % 1024) = Y := ⟨_, rfl⟩
  rw [hX] at HO1 hla
  have HX : Hid (twoZ 7 (55296 + (p - 65536) / 1024) = X) := hX
  have HY : Hid (twoZ 7 (56320 + (p - 65536) % 1024) = Y) := hY
  rw [hY] at hrow2 hlb hc2
  rw [hY]
  have HR2 : Hid (RowK .u8 w2 a2 Y) := hrow2
  have HB : Hid (Below w.heap.size w w2) := hb1.trans (hb2.mono hs1)
  clear hown1 hown2 hown1' hb1 hb2 hrow2 hX hY hl2
  go_wp2_with (at_builtin; refine wpList_append_rowk rfl (.tmp 39) (.tmp 45) 22 rfl w.heap.size 5 i0 (.int .u8 0) 1 Tryd.underlying22 hi hz0 hz1 hz2 rfl .u8 _ _ _ rfl HO1.out a2 2 cap2 Y rfl hlb hn2 HR2.out ?c1 ?c2 ?c3 ?_)
  case c1 => unfold maxLen; omega
  case c2 => omega
  case c3 => omega
  intro v' w3 hown' hgrow
  have HV : Hid (Own w3 w.heap.size v' (X ++ Y)) := own_snoc (by rw [hla, hlb]; exact hown')
  have HB3 : Hid (Below w.heap.size w w3) := HB.out.grown hgrow (by omega) (fun k hk => (HO1.out.lt k hk).1)
  clear hown' hgrow
  go_wp2
  go_ret
  exact ⟨_, rfl, by rw [HX.out, HY.out]; exact HV.out, HB3.out⟩
set_option maxRecDepth 100000 in
set_option maxHeartbeats 4000000 in
theorem sput8a (p : Int) (w : World) (h0 : 0 ≤ p) (h1 : p < 65536) : Calls Tryd.prog 31 #[.string (nmS 8), .int .i32 p] w fun e w' => ∃ v, e = .returned v ∧ Own w' w.heap.size v (twoZ 8 p) ∧ Below w.heap.size w w' := by
  rw [nmS8]
  have K := rtwo_le p w h0 h1
  go_enter Tryd.func31, Tryd.ntmps31
  go_wp2_with fail
  refine K.mono ?_
  rintro e w1 ⟨v1, rfl, hown1, hb1⟩
  go_wp2
  go_ret
  exact ⟨v1, rfl, hown1, hb1⟩
set_option maxRecDepth 100000 in
set_option maxHeartbeats 4000000 in
theorem sput8b (p : Int) (w : World) (h0 : 65536 ≤ p) (h1 : p ≤ 1114111) : Calls Tryd.prog 31 #[.string (nmS 8), .int .i32 p] w fun e w' => ∃ v, e = .returned v ∧ Own w' w.heap.size v (twoZ 8 (55296 + (p - 65536) / 1024) ++ twoZ 8 (56320 + (p - 65536) % 1024)) ∧ Below w.heap.size w w' := by
  rw [nmS8]
  obtain ⟨i0, hi, hz0, hz1, hz2⟩ := info_parts Tryd.info5
  have e1 : (p - 65536).tdiv 1024 = (p - 65536) / 1024 := Int.tdiv_eq_ediv_of_nonneg (by omega)
  have e2 : (p - 65536).tmod 1024 = (p - 65536) % 1024 := Int.tmod_eq_emod_of_nonneg (by omega)
  have hl2 : ∀ u, (twoZ 8 u).length = 2 := fun u => by unfold twoZ; split <;> rfl
  go_enter Tryd.func31, Tryd.ntmps31
  go_wp2_with fail
  refine (rtwo_le (55296 + (p - 65536) / 1024) w (by omega) (by omega)).mono ?_
  rintro e w1 ⟨v1, rfl, hown1, hb1⟩
  go_wp2_with fail
  refine (rtwo_le (56320 + (p - 65536) % 1024) w1 (by omega) (by omega)).mono ?_
  rintro e w2 ⟨v2, rfl, hown2, hb2⟩
  obtain ⟨a2, cap2, rfl, hc2, hm2, hrow2, hn2⟩ := own_row' hown2
  have hown1' := own_keep hown1 hb2
  have hs1 := hb1.size
  have hs2 := hb2.size
  have HO1 : Hid (w2.ownsRow w.heap.size 5 1 v1 (twoZ 8 (55296 + (p - 65536) / 1024)).length ((twoZ 8 (55296 + (p - 65536) / 1024)).map (Value.int .u8))) := hown1'
  have hla := hl2 (55296 + (p - 65536) / 1024)
  have hlb := hl2 (56320 + (p - 65536) % 1024)
  obtain ⟨X, hX⟩ : ∃ X, twoZ 8 (55296 + (p - 65536) / 1024) = X := ⟨_, rfl⟩
  obtain ⟨Y, hY⟩ : ∃ Y, twoZ 8 (56320 + (p - 65536) % 1024) = Y := ⟨_, rfl⟩
  rw [hX] at HO1 hla
  have HX : Hid (twoZ 8 (55296 + (p - 65536) / 1024) = X) := hX
  have HY : Hid (twoZ 8 (56320 + (p - 65536) % 1024) = Y) := hY
  rw [hY] at hrow2 hlb hc2
  rw [hY]
  have HR2 : Hid (RowK .u8 w2 a2 Y) := hrow2
  have HB : Hid (Below w.heap.size w w2) := hb1.trans (hb2.mono hs1)
  clear hown1 hown2 hown1' hb1 hb2 hrow2 hX hY hl2
  go_wp2_with (at_builtin; refine wpList_append_rowk rfl (.tmp 39) (.tmp 45) 22 rfl w.heap.size 5 i0 (.int .u8 0) 1 Tryd.underlying22 hi hz0 hz1 hz2 rfl .u8 _ _ _ rfl HO1.out a2 2 cap2 Y rfl hlb hn2 HR2.out ?c1 ?c2 ?c3 ?_)
  case c1 => unfold maxLen; omega
  case c2 => omega
  case c3 => omega
  intro v' w3 hown' hgrow
  have HV : Hid (Own w3 w.heap.size v' (X ++ Y)) := own_snoc (by rw [hla, hlb]; exact hown')
  have HB3 : Hid (Below w.heap.size w w3) := HB.out.grown hgrow (by omega) (fun k hk => (HO1.out.lt k hk).1)
  clear hown' hgrow
  go_wp2
  go_ret
  exact ⟨_, rfl, by rw [HX.out, HY.out]; exact HV.out, HB3.out⟩
set_option maxRecDepth 100000 in
set_option maxHeartbeats 4000000 in
theorem sput1 (p : Int) (w : World) (h0 : 0 ≤ p) (h1 : p ≤ 1114111) : Calls Tryd.prog 31 #[.string (nmS 1), .int .i32 p] w fun e w' => ∃ v, e = .returned v ∧ Own w' w.heap.size v (encS 1 p) ∧ Below w.heap.size w w' := by
  have KO : ∀ (W : World) (c : Int), 0 ≤ c → c < 256 → Calls Tryd.prog 39 #[.string (nmS 1), .int .i64 c] W fun e w' => e = .returned (.int .i32 (ptOf 1 c)) ∧ Below W.heap.size W w' := fun W c h0 h1 => rone_any 1 c W (by simp) h0 h1
  rw [nmS1] at KO ⊢
  have HE : Hid (encS 1 p = if byOf 1 p = -1 then [] else [byOf 1 p]) := rfl
  have HBY : Hid (∀ c : Int, 0 ≤ c → c < 256 → ptOf 1 c = p → byOf 1 p = c) := fun c a b e => by
    have := (pt_by (s := 1) (by simp) ⟨a, b⟩ (by rw [e]; omega)).1
    rwa [e] at this
  have HNO : Hid (byOf 1 p ≠ -1 → (0 ≤ byOf 1 p ∧ byOf 1 p < 256) ∧ ptOf 1 (byOf 1 p) = p) := fun h => by_pt h0 h
  go_enter Tryd.func31, Tryd.ntmps31
  go_wp2
  go_loopw [8] (fun i wr => ∃ k : Nat, i = .int .i64 k ∧ k ≤ 256 ∧ (∀ j : Nat, j < k → ptOf 1 j ≠ p) ∧ Below w.heap.size w wr) (fun i _ => 256 - (intOf i).toNat)
  case atStart => exact ⟨0, rfl, by omega, fun j hj => by omega, Below.refl _ _⟩
  case round =>
    obtain ⟨k, rfl, hk, hno, hb⟩ := hrel
    have HN : Hid (∀ j : Nat, j < k → ptOf 1 j ≠ p) := hno
    have HB : Hid (Below w.heap.size w wr) := hb
    clear hno hb
    by_cases hlt : k < 256
    · have KC := KO wr k (by omega) (by omega)
      obtain ⟨z, hz⟩ : ∃ z, ptOf 1 k = z := ⟨_, rfl⟩
      rw [hz] at KC
      have HZ : Hid (ptOf 1 k = z) := hz
      clear hz KO
      by_cases hzp : z = p
      · subst hzp
        have HR : Hid (encS 1 z = [(k : Int)]) := by
          unfold Hid
          rw [HE.out, HBY.out k (by omega) (by omega) HZ.out, if_neg (by omega)]
        have hw : (k : Int) % 256 = k := by omega
        go_wp2_with fail
        refine KC.mono ?_
        rintro e w5 ⟨rfl, hb5⟩
        have HB5 : Hid (Below w.heap.size w w5) := HB.out.trans (hb5.mono HB.out.size)
        clear hb5 KC
        go_wp2
        go_ret
        exact ⟨_, rfl, by rw [HR.out]; exact own_base HB5.out.size (World.ownsRow_lit w5 #[.int .u8 (k : Int)] 1 (Nat.le_refl _) (by decide) rfl), HB5.out.alloc HB5.out.size _⟩
      · have bz : (z == p) = false := by simpa using hzp
        go_wp2_with fail
        refine KC.mono ?_
        rintro e w5 ⟨rfl, hb5⟩
        have HB5 : Hid (Below w.heap.size w w5) := HB.out.trans (hb5.mono HB.out.size)
        clear hb5 KC
        go_wp2
        go_roundw
        case rel => exact ⟨k + 1, by go_num, by omega, fun j hj => by
          rcases Nat.lt_or_ge j k with h | h
          · exact HN.out j h
          · rw [show j = k by omega, HZ.out]; exact hzp, HB5.out⟩
        case measure => simp [intOf]; omega
    · obtain rfl : k = 256 := by omega
      have HR : Hid (encS 1 p = []) := by
        unfold Hid
        rw [HE.out]
        by_cases hb : byOf 1 p = -1
        · rw [if_pos hb]
        · exfalso
          have := HNO.out hb
          refine HN.out (byOf 1 p).toNat (by omega) ?_
          rw [show (((byOf 1 p).toNat : Nat) : Int) = byOf 1 p by omega]
          exact this.2
      clear KO
      go_wp2
      go_ret
      exact ⟨_, rfl, by rw [HR.out]; exact World.ownsRow_nil _ _ _ _, HB.out⟩
set_option maxRecDepth 100000 in
set_option maxHeartbeats 4000000 in
theorem sput3 (p : Int) (w : World) (h0 : 0 ≤ p) (h1 : p ≤ 1114111) : Calls Tryd.prog 31 #[.string (nmS 3), .int .i32 p] w fun e w' => ∃ v, e = .returned v ∧ Own w' w.heap.size v (encS 3 p) ∧ Below w.heap.size w w' := by
  have KO : ∀ (W : World) (c : Int), 0 ≤ c → c < 256 → Calls Tryd.prog 39 #[.string (nmS 3), .int .i64 c] W fun e w' => e = .returned (.int .i32 (ptOf 3 c)) ∧ Below W.heap.size W w' := fun W c h0 h1 => rone_any 3 c W (by simp) h0 h1
  rw [nmS3] at KO ⊢
  have HE : Hid (encS 3 p = if byOf 3 p = -1 then [] else [byOf 3 p]) := rfl
  have HBY : Hid (∀ c : Int, 0 ≤ c → c < 256 → ptOf 3 c = p → byOf 3 p = c) := fun c a b e => by
    have := (pt_by (s := 3) (by simp) ⟨a, b⟩ (by rw [e]; omega)).1
    rwa [e] at this
  have HNO : Hid (byOf 3 p ≠ -1 → (0 ≤ byOf 3 p ∧ byOf 3 p < 256) ∧ ptOf 3 (byOf 3 p) = p) := fun h => by_pt h0 h
  go_enter Tryd.func31, Tryd.ntmps31
  go_wp2
  go_loopw [8] (fun i wr => ∃ k : Nat, i = .int .i64 k ∧ k ≤ 256 ∧ (∀ j : Nat, j < k → ptOf 3 j ≠ p) ∧ Below w.heap.size w wr) (fun i _ => 256 - (intOf i).toNat)
  case atStart => exact ⟨0, rfl, by omega, fun j hj => by omega, Below.refl _ _⟩
  case round =>
    obtain ⟨k, rfl, hk, hno, hb⟩ := hrel
    have HN : Hid (∀ j : Nat, j < k → ptOf 3 j ≠ p) := hno
    have HB : Hid (Below w.heap.size w wr) := hb
    clear hno hb
    by_cases hlt : k < 256
    · have KC := KO wr k (by omega) (by omega)
      obtain ⟨z, hz⟩ : ∃ z, ptOf 3 k = z := ⟨_, rfl⟩
      rw [hz] at KC
      have HZ : Hid (ptOf 3 k = z) := hz
      clear hz KO
      by_cases hzp : z = p
      · subst hzp
        have HR : Hid (encS 3 z = [(k : Int)]) := by
          unfold Hid
          rw [HE.out, HBY.out k (by omega) (by omega) HZ.out, if_neg (by omega)]
        have hw : (k : Int) % 256 = k := by omega
        go_wp2_with fail
        refine KC.mono ?_
        rintro e w5 ⟨rfl, hb5⟩
        have HB5 : Hid (Below w.heap.size w w5) := HB.out.trans (hb5.mono HB.out.size)
        clear hb5 KC
        go_wp2
        go_ret
        exact ⟨_, rfl, by rw [HR.out]; exact own_base HB5.out.size (World.ownsRow_lit w5 #[.int .u8 (k : Int)] 1 (Nat.le_refl _) (by decide) rfl), HB5.out.alloc HB5.out.size _⟩
      · have bz : (z == p) = false := by simpa using hzp
        go_wp2_with fail
        refine KC.mono ?_
        rintro e w5 ⟨rfl, hb5⟩
        have HB5 : Hid (Below w.heap.size w w5) := HB.out.trans (hb5.mono HB.out.size)
        clear hb5 KC
        go_wp2
        go_roundw
        case rel => exact ⟨k + 1, by go_num, by omega, fun j hj => by
          rcases Nat.lt_or_ge j k with h | h
          · exact HN.out j h
          · rw [show j = k by omega, HZ.out]; exact hzp, HB5.out⟩
        case measure => simp [intOf]; omega
    · obtain rfl : k = 256 := by omega
      have HR : Hid (encS 3 p = []) := by
        unfold Hid
        rw [HE.out]
        by_cases hb : byOf 3 p = -1
        · rw [if_pos hb]
        · exfalso
          have := HNO.out hb
          refine HN.out (byOf 3 p).toNat (by omega) ?_
          rw [show (((byOf 3 p).toNat : Nat) : Int) = byOf 3 p by omega]
          exact this.2
      clear KO
      go_wp2
      go_ret
      exact ⟨_, rfl, by rw [HR.out]; exact World.ownsRow_nil _ _ _ _, HB.out⟩
set_option maxRecDepth 100000 in
set_option maxHeartbeats 4000000 in
theorem sput4 (p : Int) (w : World) (h0 : 0 ≤ p) (h1 : p ≤ 1114111) : Calls Tryd.prog 31 #[.string (nmS 4), .int .i32 p] w fun e w' => ∃ v, e = .returned v ∧ Own w' w.heap.size v (encS 4 p) ∧ Below w.heap.size w w' := by
  have KO : ∀ (W : World) (c : Int), 0 ≤ c → c < 256 → Calls Tryd.prog 39 #[.string (nmS 4), .int .i64 c] W fun e w' => e = .returned (.int .i32 (ptOf 4 c)) ∧ Below W.heap.size W w' := fun W c h0 h1 => rone_any 4 c W (by simp) h0 h1
  rw [nmS4] at KO ⊢
  have HE : Hid (encS 4 p = if byOf 4 p = -1 then [] else [byOf 4 p]) := rfl
  have HBY : Hid (∀ c : Int, 0 ≤ c → c < 256 → ptOf 4 c = p → byOf 4 p = c) := fun c a b e => by
    have := (pt_by (s := 4) (by simp) ⟨a, b⟩ (by rw [e]; omega)).1
    rwa [e] at this
  have HNO : Hid (byOf 4 p ≠ -1 → (0 ≤ byOf 4 p ∧ byOf 4 p < 256) ∧ ptOf 4 (byOf 4 p) = p) := fun h => by_pt h0 h
  go_enter Tryd.func31, Tryd.ntmps31
  go_wp2
  go_loopw [8] (fun i wr => ∃ k : Nat, i = .int .i64 k ∧ k ≤ 256 ∧ (∀ j : Nat, j < k → ptOf 4 j ≠ p) ∧ Below w.heap.size w wr) (fun i _ => 256 - (intOf i).toNat)
  case atStart => exact ⟨0, rfl, by omega, fun j hj => by omega, Below.refl _ _⟩
  case round =>
    obtain ⟨k, rfl, hk, hno, hb⟩ := hrel
    have HN : Hid (∀ j : Nat, j < k → ptOf 4 j ≠ p) := hno
    have HB : Hid (Below w.heap.size w wr) := hb
    clear hno hb
    by_cases hlt : k < 256
    · have KC := KO wr k (by omega) (by omega)
      obtain ⟨z, hz⟩ : ∃ z, ptOf 4 k = z := ⟨_, rfl⟩
      rw [hz] at KC
      have HZ : Hid (ptOf 4 k = z) := hz
      clear hz KO
      by_cases hzp : z = p
      · subst hzp
        have HR : Hid (encS 4 z = [(k : Int)]) := by
          unfold Hid
          rw [HE.out, HBY.out k (by omega) (by omega) HZ.out, if_neg (by omega)]
        have hw : (k : Int) % 256 = k := by omega
        go_wp2_with fail
        refine KC.mono ?_
        rintro e w5 ⟨rfl, hb5⟩
        have HB5 : Hid (Below w.heap.size w w5) := HB.out.trans (hb5.mono HB.out.size)
        clear hb5 KC
        go_wp2
        go_ret
        exact ⟨_, rfl, by rw [HR.out]; exact own_base HB5.out.size (World.ownsRow_lit w5 #[.int .u8 (k : Int)] 1 (Nat.le_refl _) (by decide) rfl), HB5.out.alloc HB5.out.size _⟩
      · have bz : (z == p) = false := by simpa using hzp
        go_wp2_with fail
        refine KC.mono ?_
        rintro e w5 ⟨rfl, hb5⟩
        have HB5 : Hid (Below w.heap.size w w5) := HB.out.trans (hb5.mono HB.out.size)
        clear hb5 KC
        go_wp2
        go_roundw
        case rel => exact ⟨k + 1, by go_num, by omega, fun j hj => by
          rcases Nat.lt_or_ge j k with h | h
          · exact HN.out j h
          · rw [show j = k by omega, HZ.out]; exact hzp, HB5.out⟩
        case measure => simp [intOf]; omega
    · obtain rfl : k = 256 := by omega
      have HR : Hid (encS 4 p = []) := by
        unfold Hid
        rw [HE.out]
        by_cases hb : byOf 4 p = -1
        · rw [if_pos hb]
        · exfalso
          have := HNO.out hb
          refine HN.out (byOf 4 p).toNat (by omega) ?_
          rw [show (((byOf 4 p).toNat : Nat) : Int) = byOf 4 p by omega]
          exact this.2
      clear KO
      go_wp2
      go_ret
      exact ⟨_, rfl, by rw [HR.out]; exact World.ownsRow_nil _ _ _ _, HB.out⟩
set_option maxRecDepth 100000 in
set_option maxHeartbeats 4000000 in
theorem sput5 (p : Int) (w : World) (h0 : 0 ≤ p) (h1 : p ≤ 1114111) : Calls Tryd.prog 31 #[.string (nmS 5), .int .i32 p] w fun e w' => ∃ v, e = .returned v ∧ Own w' w.heap.size v (encS 5 p) ∧ Below w.heap.size w w' := by
  have KO : ∀ (W : World) (c : Int), 0 ≤ c → c < 256 → Calls Tryd.prog 39 #[.string (nmS 5), .int .i64 c] W fun e w' => e = .returned (.int .i32 (ptOf 5 c)) ∧ Below W.heap.size W w' := fun W c h0 h1 => rone_any 5 c W (by simp) h0 h1
  rw [nmS5] at KO ⊢
  have HE : Hid (encS 5 p = if byOf 5 p = -1 then [] else [byOf 5 p]) := rfl
  have HBY : Hid (∀ c : Int, 0 ≤ c → c < 256 → ptOf 5 c = p → byOf 5 p = c) := fun c a b e => by
    have := (pt_by (s := 5) (by simp) ⟨a, b⟩ (by rw [e]; omega)).1
    rwa [e] at this
  have HNO : Hid (byOf 5 p ≠ -1 → (0 ≤ byOf 5 p ∧ byOf 5 p < 256) ∧ ptOf 5 (byOf 5 p) = p) := fun h => by_pt h0 h
  go_enter Tryd.func31, Tryd.ntmps31
  go_wp2
  go_loopw [8] (fun i wr => ∃ k : Nat, i = .int .i64 k ∧ k ≤ 256 ∧ (∀ j : Nat, j < k → ptOf 5 j ≠ p) ∧ Below w.heap.size w wr) (fun i _ => 256 - (intOf i).toNat)
  case atStart => exact ⟨0, rfl, by omega, fun j hj => by omega, Below.refl _ _⟩
  case round =>
    obtain ⟨k, rfl, hk, hno, hb⟩ := hrel
    have HN : Hid (∀ j : Nat, j < k → ptOf 5 j ≠ p) := hno
    have HB : Hid (Below w.heap.size w wr) := hb
    clear hno hb
    by_cases hlt : k < 256
    · have KC := KO wr k (by omega) (by omega)
      obtain ⟨z, hz⟩ : ∃ z, ptOf 5 k = z := ⟨_, rfl⟩
      rw [hz] at KC
      have HZ : Hid (ptOf 5 k = z) := hz
      clear hz KO
      by_cases hzp : z = p
      · subst hzp
        have HR : Hid (encS 5 z = [(k : Int)]) := by
          unfold Hid
          rw [HE.out, HBY.out k (by omega) (by omega) HZ.out, if_neg (by omega)]
        have hw : (k : Int) % 256 = k := by omega
        go_wp2_with fail
        refine KC.mono ?_
        rintro e w5 ⟨rfl, hb5⟩
        have HB5 : Hid (Below w.heap.size w w5) := HB.out.trans (hb5.mono HB.out.size)
        clear hb5 KC
        go_wp2
        go_ret
        exact ⟨_, rfl, by rw [HR.out]; exact own_base HB5.out.size (World.ownsRow_lit w5 #[.int .u8 (k : Int)] 1 (Nat.le_refl _) (by decide) rfl), HB5.out.alloc HB5.out.size _⟩
      · have bz : (z == p) = false := by simpa using hzp
        go_wp2_with fail
        refine KC.mono ?_
        rintro e w5 ⟨rfl, hb5⟩
        have HB5 : Hid (Below w.heap.size w w5) := HB.out.trans (hb5.mono HB.out.size)
        clear hb5 KC
        go_wp2
        go_roundw
        case rel => exact ⟨k + 1, by go_num, by omega, fun j hj => by
          rcases Nat.lt_or_ge j k with h | h
          · exact HN.out j h
          · rw [show j = k by omega, HZ.out]; exact hzp, HB5.out⟩
        case measure => simp [intOf]; omega
    · obtain rfl : k = 256 := by omega
      have HR : Hid (encS 5 p = []) := by
        unfold Hid
        rw [HE.out]
        by_cases hb : byOf 5 p = -1
        · rw [if_pos hb]
        · exfalso
          have := HNO.out hb
          refine HN.out (byOf 5 p).toNat (by omega) ?_
          rw [show (((byOf 5 p).toNat : Nat) : Int) = byOf 5 p by omega]
          exact this.2
      clear KO
      go_wp2
      go_ret
      exact ⟨_, rfl, by rw [HR.out]; exact World.ownsRow_nil _ _ _ _, HB.out⟩
theorem sput_any (q p : Int) (w : World) (hq0 : 1 ≤ q) (hq8 : q ≤ 8) (hp : Ut.ptB p = true) : Calls Tryd.prog 31 #[.string (nmS q), .int .i32 p] w fun e w' => ∃ v, e = .returned v ∧ Own w' w.heap.size v (encS (setS q) p) ∧ Below w.heap.size w w' := by
  obtain ⟨h0, h1, _⟩ := (Ut.ptB_iff p).1 hp
  have : q = 1 ∨ q = 2 ∨ q = 3 ∨ q = 4 ∨ q = 5 ∨ q = 6 ∨ q = 7 ∨ q = 8 := by omega
  rcases this with rfl | rfl | rfl | rfl | rfl | rfl | rfl | rfl
  · exact sput1 p w h0 h1
  · exact sput2 p w hp
  · exact sput3 p w h0 h1
  · exact sput4 p w h0 h1
  · exact sput5 p w h0 h1
  · rw [show setS 6 = 7 from rfl, show encS 7 p = encU 7 p from rfl]
    unfold encU
    by_cases h : p < 65536
    · rw [if_pos h]; exact sput6a p w h0 h
    · rw [if_neg h]; exact sput6b p w (by omega) h1
  · rw [show setS 7 = 7 from rfl, show encS 7 p = encU 7 p from rfl]
    unfold encU
    by_cases h : p < 65536
    · rw [if_pos h]; exact sput7a p w h0 h
    · rw [if_neg h]; exact sput7b p w (by omega) h1
  · rw [show setS 8 = 8 from rfl, show encS 8 p = encU 8 p from rfl]
    unfold encU
    by_cases h : p < 65536
    · rw [if_pos h]; exact sput8a p w h0 h
    · rw [if_neg h]; exact sput8b p w (by omega) h1
end Go.Proofs.YtlhhbmolkiojfaaDoor
