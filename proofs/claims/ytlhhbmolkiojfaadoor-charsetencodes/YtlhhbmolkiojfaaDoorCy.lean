/-
  The contracts of the reference's pairs and wide.
-/
import Derived.Test.YtlhhbmolkiojfaaDoorCx
namespace Go.Proofs.YtlhhbmolkiojfaaDoor
open Go.RowKit
set_option linter.unusedVariables false

theorem rowK_at {w : World} {a : Option Addr} {l : List Int} {k : Nat} {c : Int} (h : RowK .i32 w a l) (hd : l[k]? = some c) : ∃ b off, a = some ⟨b, off, none⟩ ∧ ∀ j d, l[j]? = some d → w.cell? ⟨b, off + j, none⟩ = some (.int .i32 d) := by
  rcases h with rfl | ⟨b, off, rfl, hc⟩
  · simp at hd
  · refine ⟨b, off, rfl, fun j d hj => ?_⟩
    have hlt : j < l.length := by
      rcases Nat.lt_or_ge j l.length with h | h
      · exact h
      · rw [List.getElem?_eq_none h] at hj; cases hj
    rw [hc j hlt, List.getD_eq_getElem?_getD, hj]; rfl
set_option maxRecDepth 100000 in
set_option maxHeartbeats 8000000 in
theorem rpairs_yes (a : Option Addr) (len cap : Nat) (ps : List Int) (w : World) (hlen : (uF ps).length = len) (hps : Ut.AllPt ps) (hcap : len ≤ cap) (hm : cap ≤ maxLen) (hsmall : len ≤ 4000) (hrow : RowK .i32 w a (uF ps)) :
    Calls Tryd.prog 48 #[.slice a len cap] w fun e w' => ∃ v, e = .returned (.tuple #[v, .int .i64 (-1)]) ∧ Ut.Own32 w' w.heap.size v ps ∧ Below w.heap.size w w' := by
  obtain ⟨j0, hi, hz0, hz1, hz2⟩ := info_parts Ut.Tryd.info21
  unfold maxLen at hm
  have HL : Hid ((uF ps).length = len) := hlen
  have HR : Hid (RowK .i32 w a (uF ps)) := hrow
  clear hlen hrow
  go_enter Tryd.func48, Tryd.ntmps48
  go_wp2
  go_loopw [4, 5] (fun v i wr => ∃ (qs rs : List Int) (k : Nat), ps = qs ++ rs ∧ i = .int .i64 k ∧ k = (uF qs).length ∧ Ut.Own32 wr w.heap.size v qs ∧ Below w.heap.size w wr) (fun _ i _ => len - (intOf i).toNat)
  case atStart => exact ⟨[], ps, 0, rfl, rfl, rfl, World.ownsRow_nil _ _ _ _, Below.refl _ _⟩
  case round =>
    obtain ⟨qs, rs, k, hqr, rfl, hk, hown, hb⟩ := hrel
    have HQ : Hid (ps = qs ++ rs) := hqr
    have HK : Hid (k = (uF qs).length) := hk
    have HO : Hid (Ut.Own32 wr w.heap.size u4 qs) := hown
    have HB : Hid (Below w.heap.size w wr) := hb
    have hsz := hb.size
    have hql : qs.length ≤ k := by rw [hk]; exact uF_ge qs
    have HRW : Hid (RowK .i32 wr a (uF ps)) := rowK_below HR.out hb
    have HD : Hid ((uF ps).drop k = uF rs ) := by
      unfold Hid; rw [hk, hqr, uF_append, List.drop_left]
    have hkl : k + (uF rs ).length = len := by
      have h1 := congrArg List.length HD.out
      rw [List.length_drop, HL.out] at h1
      have h2 : k ≤ len := by rw [← HL.out, hk, hqr, uF_append]; first | (simp; done) | (simp; omega)
      omega
    have at_k : ∀ j d, (uF rs )[j]? = some d → (uF ps)[k + j]? = some d := by
      intro j d hj
      rw [← HD.out, List.getElem?_drop] at hj
      exact hj
    cases rs with
    | nil =>
      have hkl' : k = len := by simpa [uF] using hkl
      have hpq : ps = qs := by rw [hqr, List.append_nil]
      subst hpq
      obtain rfl := hkl'
      clear hk hqr hown hb hkl HD at_k
      go_wp2
      go_ret2
      exact ⟨_, rfl, HO.out, HB.out⟩
    | cons p rs =>
      have hp := (Ut.ptB_iff p).1 (hps p (by rw [hqr]; simp))
      obtain ⟨hp0, hp1, hp2⟩ := hp
      rw [uF_cons] at hkl at_k
      have hrel2 : (uF (qs ++ [p])).length = k + (uOf p).length := by rw [uF_append, uF_cons, uF_nil, List.append_nil, List.length_append, hk]
      have HREL : Hid ((uF (qs ++ [p])).length = k + (uOf p).length) := hrel2
      have hwk : IntKind.i64.wrap ((k : Int) + 1) = (k : Int) + 1 := by rw [IntKind.wrap_i64]; omega
      have hql' := hql
      by_cases hlt : p < 65536
      · have hu1 : uOf p = [p] := by unfold uOf; rw [if_pos hlt]
        rw [hu1] at hkl at_k HREL
        have hu := at_k 0 p rfl
        obtain ⟨b, off, rfl, hcell⟩ := rowK_at HRW.out hu
        have c0 := hcell k p hu
        have hklt : k < len := by simp at hkl; omega
        have hk4 : k ≤ 4000 := by omega
        clear hk hqr hown hb hkl hcell hu at_k HD hu1 hrel2
        by_cases hs1 : p < 55296
        · have b1 : decide (p < 55296) = true := by simpa using hs1
          go_wp2_with (at_builtin; refine wpList_append_own _ rfl _ _ 34 rfl w.heap.size 21 j0 (.int .i32 0) 1 4 Tryd.underlying34 hi hz0 hz1 hz2 rfl (by decide) _ _ _ rfl (HO.out.alloc _) ⟨wr.heap.size, 0, none⟩ 1 1 ([p].map (Value.int .i32)) rfl rfl (cells_new _ _ _) (Ut.ints_one32 _) ?c3 ?c4 ?c5 ?_)
          case c3 => unfold maxLen; omega
          case c4 => omega
          case c5 => first | omega | (simp; omega)
          intro v' w4 hown' hgrow _
          have HO' : Hid (Ut.Own32 w4 w.heap.size v' (qs ++ [p])) := by
            unfold Hid Ut.Own32; rw [List.length_append, List.map_append]; exact hown'
          have HB' : Hid (Below w.heap.size w w4) := (HB.out.alloc hsz _).grown hgrow (by simp; omega) (fun k hk => (HO.out.lt k hk).1)
          clear hown' hgrow
          go_wp2
          go_roundw
          case rel => exact ⟨qs ++ [p], rs, k + 1, by rw [HQ.out]; simp, by go_num, by rw [HREL.out]; rfl, HO'.out, HB'.out⟩
          case measure => simp [intOf]; omega
        · have b1 : decide (p < 55296) = false := by simpa using hs1
          have b2 : decide (p > 57343) = true := by simp; omega
          go_wp2_with (at_builtin; refine wpList_append_own _ rfl _ _ 34 rfl w.heap.size 21 j0 (.int .i32 0) 1 4 Tryd.underlying34 hi hz0 hz1 hz2 rfl (by decide) _ _ _ rfl (HO.out.alloc _) ⟨wr.heap.size, 0, none⟩ 1 1 ([p].map (Value.int .i32)) rfl rfl (cells_new _ _ _) (Ut.ints_one32 _) ?c3 ?c4 ?c5 ?_)
          case c3 => unfold maxLen; omega
          case c4 => omega
          case c5 => first | omega | (simp; omega)
          intro v' w4 hown' hgrow _
          have HO' : Hid (Ut.Own32 w4 w.heap.size v' (qs ++ [p])) := by
            unfold Hid Ut.Own32; rw [List.length_append, List.map_append]; exact hown'
          have HB' : Hid (Below w.heap.size w w4) := (HB.out.alloc hsz _).grown hgrow (by simp; omega) (fun k hk => (HO.out.lt k hk).1)
          clear hown' hgrow
          go_wp2
          go_roundw
          case rel => exact ⟨qs ++ [p], rs, k + 1, by rw [HQ.out]; simp, by go_num, by rw [HREL.out]; rfl, HO'.out, HB'.out⟩
          case measure => simp [intOf]; omega
      · have hu1 : uOf p = [55296 + (p - 65536) / 1024, 56320 + (p - 65536) % 1024] := by unfold uOf; rw [if_neg hlt]
        rw [hu1] at hkl at_k HREL
        have hu := at_k 0 _ rfl
        have hv := at_k 1 _ rfl
        obtain ⟨b, off, rfl, hcell⟩ := rowK_at HRW.out hu
        have c0 := hcell k _ hu
        have c1 := hcell (k + 1) _ hv
        have hklt : k + 1 < len := by simp at hkl; omega
        have hk4 : k ≤ 4000 := by omega
        obtain ⟨x, hx⟩ : ∃ x, 55296 + (p - 65536) / 1024 = x := ⟨_, rfl⟩
        obtain ⟨y, hy⟩ : ∃ y, 56320 + (p - 65536) % 1024 = y := ⟨_, rfl⟩
        rw [hx] at c0
        rw [hy] at c1
        have hx0 : 55296 ≤ x ∧ x ≤ 56319 := by omega
        have hy0 : 56320 ≤ y ∧ y ≤ 57343 := by omega
        have hpv : 65536 + 1024 * (x - 55296) + y - 56320 = p := by omega
        have HPV : Hid (65536 + 1024 * (x - 55296) + y - 56320 = p) := hpv
        have b1 : decide (x < 55296) = false := by simp; omega
        have b2 : decide (x > 57343) = false := by simp; omega
        have b3 : decide (x > 56319) = false := by simp; omega
        have b4 : (((k : Int) + 1) == (len : Int)) = false := by simp; omega
        have b5 : decide (y < 56320) = false := by simp; omega
        have b6 : decide (y > 57343) = false := by simp; omega
        have hn1 : ((k : Int) + 1).toNat = k + 1 := by omega
        have hklt0 : k < len := by omega
        clear hk hqr hown hb hkl hcell hu hv at_k HD hu1 hx hy hrel2 hpv
        go_wp2_with (at_builtin; refine wpList_append_own _ rfl _ _ 34 rfl w.heap.size 21 j0 (.int .i32 0) 1 4 Tryd.underlying34 hi hz0 hz1 hz2 rfl (by decide) _ _ _ rfl (HO.out.alloc _) ⟨wr.heap.size, 0, none⟩ 1 1 (([65536 + 1024 * (x - 55296) + y - 56320] : List Int).map (Value.int .i32)) rfl rfl (cells_new _ _ _) (Ut.ints_one32 _) ?c3 ?c4 ?c5 ?_)
        case c3 => unfold maxLen; omega
        case c4 => omega
        case c5 => first | omega | (simp; omega)
        intro v' w4 hown' hgrow _
        have HO' : Hid (Ut.Own32 w4 w.heap.size v' (qs ++ [p])) := by
          unfold Hid Ut.Own32; rw [List.length_append, List.map_append]; rw [HPV.out] at hown'; exact hown'
        have HB' : Hid (Below w.heap.size w w4) := (HB.out.alloc hsz _).grown hgrow (by simp; omega) (fun k hk => (HO.out.lt k hk).1)
        clear hown' hgrow
        go_wp2
        go_roundw
        case rel => exact ⟨qs ++ [p], rs, k + 2, by rw [HQ.out]; simp, by go_num, by rw [HREL.out]; rfl, HO'.out, HB'.out⟩
        case measure => simp [intOf]; omega
set_option maxRecDepth 100000 in
set_option maxHeartbeats 8000000 in
theorem rpairs_no (a : Option Addr) (len cap : Nat) (ps V : List Int) (w : World) (hlen : (uF ps ++ V).length = len) (hps : Ut.AllPt ps) (hV : badU V) (hcap : len ≤ cap) (hm : cap ≤ maxLen) (hsmall : len ≤ 4000) (hrow : RowK .i32 w a (uF ps ++ V)) :
    Calls Tryd.prog 48 #[.slice a len cap] w fun e w' => e = .returned (.tuple #[.slice none 0 0, .int .i64 ((uF ps).length : Nat)]) ∧ Below w.heap.size w w' := by
  obtain ⟨j0, hi, hz0, hz1, hz2⟩ := info_parts Ut.Tryd.info21
  unfold maxLen at hm
  have HL : Hid ((uF ps ++ V).length = len) := hlen
  have HR : Hid (RowK .i32 w a (uF ps ++ V)) := hrow
  clear hlen hrow
  go_enter Tryd.func48, Tryd.ntmps48
  go_wp2
  go_loopw [4, 5] (fun v i wr => ∃ (qs rs : List Int) (k : Nat), ps = qs ++ rs ∧ i = .int .i64 k ∧ k = (uF qs).length ∧ Ut.Own32 wr w.heap.size v qs ∧ Below w.heap.size w wr) (fun _ i _ => len - (intOf i).toNat)
  case atStart => exact ⟨[], ps, 0, rfl, rfl, rfl, World.ownsRow_nil _ _ _ _, Below.refl _ _⟩
  case round =>
    obtain ⟨qs, rs, k, hqr, rfl, hk, hown, hb⟩ := hrel
    have HQ : Hid (ps = qs ++ rs) := hqr
    have HK : Hid (k = (uF qs).length) := hk
    have HO : Hid (Ut.Own32 wr w.heap.size u4 qs) := hown
    have HB : Hid (Below w.heap.size w wr) := hb
    have hsz := hb.size
    have hql : qs.length ≤ k := by rw [hk]; exact uF_ge qs
    have HRW : Hid (RowK .i32 wr a (uF ps ++ V)) := rowK_below HR.out hb
    have HD : Hid ((uF ps ++ V).drop k = uF rs ++ V) := by
      unfold Hid; rw [hk, hqr, uF_append, List.append_assoc, List.drop_left]
    have hkl : k + (uF rs ++ V).length = len := by
      have h1 := congrArg List.length HD.out
      rw [List.length_drop, HL.out] at h1
      have h2 : k ≤ len := by rw [← HL.out, hk, hqr, uF_append]; first | (simp; done) | (simp; omega)
      omega
    have at_k : ∀ j d, (uF rs ++ V)[j]? = some d → (uF ps ++ V)[k + j]? = some d := by
      intro j d hj
      rw [← HD.out, List.getElem?_drop] at hj
      exact hj
    cases rs with
    | nil =>
      have hpq : ps = qs := by rw [hqr, List.append_nil]
      have HKP : Hid (k = (uF ps).length) := by unfold Hid; rw [hpq]; exact hk
      have hwk : IntKind.i64.wrap ((k : Int) + 1) = (k : Int) + 1 := by rw [IntKind.wrap_i64]; omega
      match V, hV, HL, HR, HRW, HD, hkl, at_k with
      | u :: r, hV, HL, HR, HRW, HD, hkl, at_k =>
        obtain ⟨hu0, hu1, hwhy⟩ := hV
        have hu : (uF ps ++ u :: r)[k]? = some u := at_k 0 u rfl
        obtain ⟨b, off, rfl, hcell⟩ := rowK_at HRW.out hu
        have c0 := hcell k u hu
        have hkl2 : k + 1 + r.length = len := by have := hkl; simp [uF] at this; omega
        have hklt : k < len := by omega
        have b1 : decide (u < 55296) = false := by simp; omega
        have b2 : decide (u > 57343) = false := by simp; omega
        by_cases hu2 : 56319 < u
        · have b3 : decide (u > 56319) = true := by simp; omega
          clear hk hqr hown hb hkl hcell hu at_k hpq hwhy HD
          go_wp2
          go_ret2
          exact ⟨by rw [HKP.out]; rfl, HB.out⟩
        · have b3 : decide (u > 56319) = false := by simp; omega
          rcases hwhy with hx | rfl | ⟨v, r', rfl, hv⟩
          · exact absurd hx hu2
          · have hkl3 : k + 1 = len := by simpa using hkl2
            have b4 : (((k : Int) + 1) == (len : Int)) = true := by simp; omega
            clear hk hqr hown hb hkl hcell hu at_k hpq HD hkl3 hkl2
            go_wp2
            go_ret2
            exact ⟨by rw [HKP.out]; rfl, HB.out⟩
          · have c1 := hcell (k + 1) v (at_k 1 v rfl)
            have hkl3 : k + 1 < len := by simp at hkl2; omega
            have b4 : (((k : Int) + 1) == (len : Int)) = false := by simp; omega
            have hn1 : ((k : Int) + 1).toNat = k + 1 := by omega
            clear hk hqr hown hb hkl hcell hu at_k hpq HD hkl2
            by_cases hv1 : v < 56320
            · have b5 : decide (v < 56320) = true := by simpa using hv1
              go_wp2
              go_ret2
              exact ⟨by rw [HKP.out]; rfl, HB.out⟩
            · have b5 : decide (v < 56320) = false := by simpa using hv1
              have b6 : decide (v > 57343) = true := by simp; omega
              go_wp2
              go_ret2
              exact ⟨by rw [HKP.out]; rfl, HB.out⟩
    | cons p rs =>
      have hp := (Ut.ptB_iff p).1 (hps p (by rw [hqr]; simp))
      obtain ⟨hp0, hp1, hp2⟩ := hp
      rw [uF_cons] at hkl at_k
      have hrel2 : (uF (qs ++ [p])).length = k + (uOf p).length := by rw [uF_append, uF_cons, uF_nil, List.append_nil, List.length_append, hk]
      have HREL : Hid ((uF (qs ++ [p])).length = k + (uOf p).length) := hrel2
      have hwk : IntKind.i64.wrap ((k : Int) + 1) = (k : Int) + 1 := by rw [IntKind.wrap_i64]; omega
      have hql' := hql
      by_cases hlt : p < 65536
      · have hu1 : uOf p = [p] := by unfold uOf; rw [if_pos hlt]
        rw [hu1] at hkl at_k HREL
        have hu := at_k 0 p rfl
        obtain ⟨b, off, rfl, hcell⟩ := rowK_at HRW.out hu
        have c0 := hcell k p hu
        have hklt : k < len := by simp at hkl; omega
        have hk4 : k ≤ 4000 := by omega
        clear hk hqr hown hb hkl hcell hu at_k HD hu1 hrel2
        by_cases hs1 : p < 55296
        · have b1 : decide (p < 55296) = true := by simpa using hs1
          go_wp2_with (at_builtin; refine wpList_append_own _ rfl _ _ 34 rfl w.heap.size 21 j0 (.int .i32 0) 1 4 Tryd.underlying34 hi hz0 hz1 hz2 rfl (by decide) _ _ _ rfl (HO.out.alloc _) ⟨wr.heap.size, 0, none⟩ 1 1 ([p].map (Value.int .i32)) rfl rfl (cells_new _ _ _) (Ut.ints_one32 _) ?c3 ?c4 ?c5 ?_)
          case c3 => unfold maxLen; omega
          case c4 => omega
          case c5 => first | omega | (simp; omega)
          intro v' w4 hown' hgrow _
          have HO' : Hid (Ut.Own32 w4 w.heap.size v' (qs ++ [p])) := by
            unfold Hid Ut.Own32; rw [List.length_append, List.map_append]; exact hown'
          have HB' : Hid (Below w.heap.size w w4) := (HB.out.alloc hsz _).grown hgrow (by simp; omega) (fun k hk => (HO.out.lt k hk).1)
          clear hown' hgrow
          go_wp2
          go_roundw
          case rel => exact ⟨qs ++ [p], rs, k + 1, by rw [HQ.out]; simp, by go_num, by rw [HREL.out]; rfl, HO'.out, HB'.out⟩
          case measure => simp [intOf]; omega
        · have b1 : decide (p < 55296) = false := by simpa using hs1
          have b2 : decide (p > 57343) = true := by simp; omega
          go_wp2_with (at_builtin; refine wpList_append_own _ rfl _ _ 34 rfl w.heap.size 21 j0 (.int .i32 0) 1 4 Tryd.underlying34 hi hz0 hz1 hz2 rfl (by decide) _ _ _ rfl (HO.out.alloc _) ⟨wr.heap.size, 0, none⟩ 1 1 ([p].map (Value.int .i32)) rfl rfl (cells_new _ _ _) (Ut.ints_one32 _) ?c3 ?c4 ?c5 ?_)
          case c3 => unfold maxLen; omega
          case c4 => omega
          case c5 => first | omega | (simp; omega)
          intro v' w4 hown' hgrow _
          have HO' : Hid (Ut.Own32 w4 w.heap.size v' (qs ++ [p])) := by
            unfold Hid Ut.Own32; rw [List.length_append, List.map_append]; exact hown'
          have HB' : Hid (Below w.heap.size w w4) := (HB.out.alloc hsz _).grown hgrow (by simp; omega) (fun k hk => (HO.out.lt k hk).1)
          clear hown' hgrow
          go_wp2
          go_roundw
          case rel => exact ⟨qs ++ [p], rs, k + 1, by rw [HQ.out]; simp, by go_num, by rw [HREL.out]; rfl, HO'.out, HB'.out⟩
          case measure => simp [intOf]; omega
      · have hu1 : uOf p = [55296 + (p - 65536) / 1024, 56320 + (p - 65536) % 1024] := by unfold uOf; rw [if_neg hlt]
        rw [hu1] at hkl at_k HREL
        have hu := at_k 0 _ rfl
        have hv := at_k 1 _ rfl
        obtain ⟨b, off, rfl, hcell⟩ := rowK_at HRW.out hu
        have c0 := hcell k _ hu
        have c1 := hcell (k + 1) _ hv
        have hklt : k + 1 < len := by simp at hkl; omega
        have hk4 : k ≤ 4000 := by omega
        obtain ⟨x, hx⟩ : ∃ x, 55296 + (p - 65536) / 1024 = x := ⟨_, rfl⟩
        obtain ⟨y, hy⟩ : ∃ y, 56320 + (p - 65536) % 1024 = y := ⟨_, rfl⟩
        rw [hx] at c0
        rw [hy] at c1
        have hx0 : 55296 ≤ x ∧ x ≤ 56319 := by omega
        have hy0 : 56320 ≤ y ∧ y ≤ 57343 := by omega
        have hpv : 65536 + 1024 * (x - 55296) + y - 56320 = p := by omega
        have HPV : Hid (65536 + 1024 * (x - 55296) + y - 56320 = p) := hpv
        have b1 : decide (x < 55296) = false := by simp; omega
        have b2 : decide (x > 57343) = false := by simp; omega
        have b3 : decide (x > 56319) = false := by simp; omega
        have b4 : (((k : Int) + 1) == (len : Int)) = false := by simp; omega
        have b5 : decide (y < 56320) = false := by simp; omega
        have b6 : decide (y > 57343) = false := by simp; omega
        have hn1 : ((k : Int) + 1).toNat = k + 1 := by omega
        have hklt0 : k < len := by omega
        clear hk hqr hown hb hkl hcell hu hv at_k HD hu1 hx hy hrel2 hpv
        go_wp2_with (at_builtin; refine wpList_append_own _ rfl _ _ 34 rfl w.heap.size 21 j0 (.int .i32 0) 1 4 Tryd.underlying34 hi hz0 hz1 hz2 rfl (by decide) _ _ _ rfl (HO.out.alloc _) ⟨wr.heap.size, 0, none⟩ 1 1 (([65536 + 1024 * (x - 55296) + y - 56320] : List Int).map (Value.int .i32)) rfl rfl (cells_new _ _ _) (Ut.ints_one32 _) ?c3 ?c4 ?c5 ?_)
        case c3 => unfold maxLen; omega
        case c4 => omega
        case c5 => first | omega | (simp; omega)
        intro v' w4 hown' hgrow _
        have HO' : Hid (Ut.Own32 w4 w.heap.size v' (qs ++ [p])) := by
          unfold Hid Ut.Own32; rw [List.length_append, List.map_append]; rw [HPV.out] at hown'; exact hown'
        have HB' : Hid (Below w.heap.size w w4) := (HB.out.alloc hsz _).grown hgrow (by simp; omega) (fun k hk => (HO.out.lt k hk).1)
        clear hown' hgrow
        go_wp2
        go_roundw
        case rel => exact ⟨qs ++ [p], rs, k + 2, by rw [HQ.out]; simp, by go_num, by rw [HREL.out]; rfl, HO'.out, HB'.out⟩
        case measure => simp [intOf]; omega
end Go.Proofs.YtlhhbmolkiojfaaDoor
