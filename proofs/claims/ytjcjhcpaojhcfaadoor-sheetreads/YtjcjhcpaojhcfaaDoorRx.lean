/-
  The document's Upper, place and Unfold.
-/
import Derived.Test.YtjcjhcpaojhcfaaDoorRv
import Derived.Test.YtjcjhcpaojhcfaaDoorRlines
import Derived.Test.YtjcjhcpaojhcfaaDoorOq
namespace Go.Proofs.YtjcjhcpaojhcfaaDoor
open Go.RowKit
set_option linter.unusedVariables false

theorem map_take_snoc (f : Int → Int) (l : List Int) (k : Nat) (c : Int) (h : l[k]? = some c) : (l.take (k + 1)).map f = (l.take k).map f ++ [f c] := by
  rw [List.take_add_one, h]; simp
set_option maxHeartbeats 8000000 in
set_option maxRecDepth 100000 in
theorem rupper_any (s : ByteArray) (w : World) (hs : s.size ≤ 1000000000) : Calls Tryd.prog 27 #[.string s] w fun e w' => e = .returned (.string (strOfNums ((nums s).map largeZ))) ∧ Below w.heap.size w w' := by
  obtain ⟨j0, hi, hz0, hz1, hz2⟩ := info_parts Tryd.info5
  go_enter Tryd.func27, Tryd.ntmps27
  go_wp2
  go_loopw [4, 3, 5] (fun i v c wr => ∃ k : Nat, i = .int .i64 k ∧ k ≤ s.size ∧ Own wr w.heap.size v (((nums s).take k).map largeZ) ∧ Below w.heap.size w wr) (fun i _ _ _ => s.size - (intOf i).toNat)
  case atStart => exact ⟨0, rfl, by omega, ⟨rfl, .inl ⟨rfl, rfl⟩⟩, Below.refl _ _⟩
  case round =>
    obtain ⟨k, rfl, hk, hown, hb⟩ := hrel
    obtain ⟨pre, hpre⟩ : ∃ pre, ((nums s).take k).map largeZ = pre := ⟨_, rfl⟩
    have hle : pre.length ≤ k := by rw [← hpre, List.length_map, List.length_take]; omega
    rw [hpre] at hown
    have HPR : Hid (((nums s).take k).map largeZ = pre) := hpre
    have HO : Hid (Own wr w.heap.size u3 pre) := hown
    have HB : Hid (Below w.heap.size w wr) := hb
    clear hpre
    have hsz := hb.size
    clear hown hb
    by_cases hlt : k < s.size
    · have hc1 : (s[k].toNat : Int) < 256 := by have := s[k].toNat_lt; omega
      have hc0 : (0 : Int) ≤ (s[k].toNat : Int) := by omega
      have HT : Hid ((nums s)[k]? = some (s[k].toNat : Int)) := nums_at s k hlt
      obtain ⟨c, hc⟩ : ∃ c : Int, ((s[k]'hlt).toNat : Int) = c := ⟨_, rfl⟩
      rw [hc] at HT hc1 hc0
      have HE := map_take_snoc largeZ (nums s) k c HT.out
      rw [HPR.out] at HE
      by_cases hq : 97 ≤ c ∧ c ≤ 122
      · have e1 : decide (97 ≤ c) = true := decide_eq_true hq.1
        have e2 : decide (c ≤ 122) = true := decide_eq_true hq.2
        have hw : IntKind.u8.wrap (c - 32) = c - 32 := by rw [IntKind.wrap_u8]; omega
        have hlz : largeZ c = c - 32 := by unfold largeZ; rw [if_pos hq]
        rw [hlz] at HE
        have HE' : Hid (((nums s).take (k + 1)).map largeZ = pre ++ [c - 32]) := HE
        clear HE hlz
        go_wp2_with (at_builtin; refine wpList_append_own _ rfl (.tmp 23) (.tmp 25) 22 rfl w.heap.size 5 j0 _ 1 1 Tryd.underlying22 hi hz0 hz1 hz2 rfl (by decide) u3 _ _ rfl (own_keep HO.out (keep _ _)) ⟨wr.heap.size, 0, none⟩ 1 1 [.int .u8 (c - 32)] rfl rfl ?a0 ?a4 ?a1 ?a2 ?a3 ?_)
        try case a0 => exact cells_new wr [.int .u8 (c - 32)] 5
        case a4 => first | exact ints_one [c - 32] | rfl | (intro u hu; simp at hu; subst hu; rfl)
        case a1 => unfold maxLen; omega
        case a2 => omega
        case a3 => first | omega | (simp; omega)
        intro v' w2 hown2 hgrow2 _
        have HO2 : Hid (Own w2 w.heap.size v' (((nums s).take (k + 1)).map largeZ)) := by
          have := own_snoc (m := [c - 32]) hown2
          unfold Hid; rw [HE'.out]; exact this
        have HB2 : Hid (Below w.heap.size w w2) := (HB.out.alloc HB.out.size _).grown hgrow2 (HB.out.alloc HB.out.size _).size (fun j hj => (HO.out.lt j hj).1)
        clear hown2 hgrow2
        go_wp2
        go_roundw
        case rel => exact ⟨k + 1, by go_num, by omega, HO2.out, HB2.out⟩
        case measure => simp [intOf]; omega
      · have HE' : Hid (((nums s).take (k + 1)).map largeZ = pre ++ [c]) := by
          unfold Hid; rw [HE]; unfold largeZ; rw [if_neg hq]
        clear HE
        by_cases q1 : 97 ≤ c
        · have e1 : decide (97 ≤ c) = true := decide_eq_true q1
          have e2 : decide (c ≤ 122) = false := decide_eq_false (by omega)
          go_wp2_with (at_builtin; refine wpList_append_own _ rfl (.tmp 23) (.tmp 25) 22 rfl w.heap.size 5 j0 _ 1 1 Tryd.underlying22 hi hz0 hz1 hz2 rfl (by decide) u3 _ _ rfl (own_keep HO.out (keep _ _)) ⟨wr.heap.size, 0, none⟩ 1 1 [.int .u8 (c)] rfl rfl ?a0 ?a4 ?a1 ?a2 ?a3 ?_)
          try case a0 => exact cells_new wr [.int .u8 (c)] 5
          case a4 => first | exact ints_one [c] | rfl | (intro u hu; simp at hu; subst hu; rfl)
          case a1 => unfold maxLen; omega
          case a2 => omega
          case a3 => first | omega | (simp; omega)
          intro v' w2 hown2 hgrow2 _
          have HO2 : Hid (Own w2 w.heap.size v' (((nums s).take (k + 1)).map largeZ)) := by
            have := own_snoc (m := [c]) hown2
            unfold Hid; rw [HE'.out]; exact this
          have HB2 : Hid (Below w.heap.size w w2) := (HB.out.alloc HB.out.size _).grown hgrow2 (HB.out.alloc HB.out.size _).size (fun j hj => (HO.out.lt j hj).1)
          clear hown2 hgrow2
          go_wp2
          go_roundw
          case rel => exact ⟨k + 1, by go_num, by omega, HO2.out, HB2.out⟩
          case measure => simp [intOf]; omega
        · have e1 : decide (97 ≤ c) = false := decide_eq_false q1
          go_wp2_with (at_builtin; refine wpList_append_own _ rfl (.tmp 23) (.tmp 25) 22 rfl w.heap.size 5 j0 _ 1 1 Tryd.underlying22 hi hz0 hz1 hz2 rfl (by decide) u3 _ _ rfl (own_keep HO.out (keep _ _)) ⟨wr.heap.size, 0, none⟩ 1 1 [.int .u8 (c)] rfl rfl ?a0 ?a4 ?a1 ?a2 ?a3 ?_)
          try case a0 => exact cells_new wr [.int .u8 (c)] 5
          case a4 => first | exact ints_one [c] | rfl | (intro u hu; simp at hu; subst hu; rfl)
          case a1 => unfold maxLen; omega
          case a2 => omega
          case a3 => first | omega | (simp; omega)
          intro v' w2 hown2 hgrow2 _
          have HO2 : Hid (Own w2 w.heap.size v' (((nums s).take (k + 1)).map largeZ)) := by
            have := own_snoc (m := [c]) hown2
            unfold Hid; rw [HE'.out]; exact this
          have HB2 : Hid (Below w.heap.size w w2) := (HB.out.alloc HB.out.size _).grown hgrow2 (HB.out.alloc HB.out.size _).size (fun j hj => (HO.out.lt j hj).1)
          clear hown2 hgrow2
          go_wp2
          go_roundw
          case rel => exact ⟨k + 1, by go_num, by omega, HO2.out, HB2.out⟩
          case measure => simp [intOf]; omega
    · have HPE : Hid (pre = (nums s).map largeZ) := by
        have := HPR.out
        rw [List.take_of_length_le (by rw [nums_len]; omega)] at this
        exact this.symm
      obtain ⟨a2, cap2, rfl, _, _, hrow, _⟩ := row_of_own HO.out
      have kc2 := conv_row _ cap2 rfl hrow
      clear hrow
      go_wp2
      go_ret
      exact ⟨by rw [← HPE.out]; rfl, HB.out⟩
set_option maxHeartbeats 4000000 in
set_option maxRecDepth 100000 in
theorem place_any (s ends : ByteArray) (p : Nat) (w : World) (hs : s.size ≤ 1000000000) (he : ends.size ≤ 100) (hp : p ≤ s.size) :
    Calls Tryd.prog 26 #[.string s, .int .i64 (p : Nat), .string ends] w fun e w' => e = .returned (.int .i64 ((p + (((nums s).drop p).takeWhile fun c => !decide (c ∈ nums ends)).length : Nat) : Int)) ∧ w = w' := by
  go_enter Tryd.func26, Tryd.ntmps26
  go_wp2
  go_loopw [1] (fun i wr => ∃ k : Nat, i = .int .i64 k ∧ k ≤ s.size ∧ k + (((nums s).drop k).takeWhile fun c => !decide (c ∈ nums ends)).length = p + (((nums s).drop p).takeWhile fun c => !decide (c ∈ nums ends)).length ∧ w = wr) (fun i _ => s.size - (intOf i).toNat)
  case atStart => exact ⟨p, rfl, hp, rfl, rfl⟩
  case round =>
    obtain ⟨k, rfl, hk, hh, rfl⟩ := hrel
    obtain ⟨r, hr⟩ : ∃ r, p + (((nums s).drop p).takeWhile fun c => !decide (c ∈ nums ends)).length = r := ⟨_, rfl⟩
    rw [hr] at hh
    have HRR : Hid (p + (((nums s).drop p).takeWhile fun c => !decide (c ∈ nums ends)).length = r) := hr
    clear hr
    by_cases hlt : k < s.size
    · have hd := nums_drop s k hlt
      have k0 : (0 : Int) ≤ (k : Int) := by omega
      have k1 : (k : Int) ≤ (k : Int) + 1 := by omega
      have k2 : (k : Int) + 1 ≤ (s.size : Int) := by omega
      have k3 : ((k : Int) + 1).toNat = k + 1 := by omega
      obtain ⟨c, hc⟩ : ∃ c : Int, ((s[k]'hlt).toNat : Int) = c := ⟨_, rfl⟩
      have hx : nums (s.extract k (k + 1)) = [c] := by
        rw [nums_extract, show k + 1 - k = 1 by omega, hd]; simp [hc]
      have hhas := has_any ends (s.extract k (k + 1)) w (by omega) (by rw [← nums_len, hx]; simp) (by rw [← nums_len, hx]; simp)
      rw [hx, has_one] at hhas
      rw [hd] at hh
      rw [hc] at hh
      clear hd hx
      by_cases hin : c ∈ nums ends
      · rw [decide_eq_true hin] at hhas
        have hh2 : k = r := by
          rw [List.takeWhile_cons, decide_eq_true hin] at hh
          simpa using hh
        clear hh
        subst hh2
        go_wp2_with (go_at_call 45; refine hhas.mono ?_; rintro e w2 ⟨rfl, rfl⟩)
        go_ret
        exact ⟨by rw [HRR.out]; rfl, rfl⟩
      · rw [decide_eq_false hin] at hhas
        have HH : Hid (k + 1 + (((nums s).drop (k + 1)).takeWhile fun c => !decide (c ∈ nums ends)).length = r) := by
          rw [List.takeWhile_cons, decide_eq_false hin] at hh
          unfold Hid
          simp only [Bool.not_false, if_true, List.length_cons] at hh
          omega
        clear hh
        go_wp2_with (go_at_call 45; refine hhas.mono ?_; rintro e w2 ⟨rfl, rfl⟩)
        go_roundw
        case rel => exact ⟨k + 1, by go_num, by omega, HH.out.trans HRR.out.symm, by first | trivial | rfl⟩
        case measure => simp [intOf]; omega
    · have hh2 : k = r := by
        rw [List.drop_of_length_le (by rw [nums_len]; omega)] at hh
        simpa using hh
      clear hh
      subst hh2
      go_wp2
      go_ret
      exact ⟨by rw [HRR.out]; rfl, rfl⟩
theorem folds_ref (l : List Int) (k : Nat) : foldsZ (l.drop k) = (pairB l k && (decide (l[k + 2]? = some 32) || decide (l[k + 2]? = some 9))) := by
  unfold foldsZ
  have h1 : decide ((l.drop k).take 2 = [13, 10]) = pairB l k := by
    rw [Bool.eq_iff_iff, decide_eq_true_eq, pairB_iff]
    constructor
    · intro h
      have h0 := congrArg (·[0]?) h
      have h1 := congrArg (·[1]?) h
      simp only [List.getElem?_take, List.getElem?_drop] at h0 h1
      simpa using ⟨h0, h1⟩
    · rintro ⟨h0, h1⟩
      have hlt := (List.getElem?_eq_some_iff.1 h1).1
      have e0 := (List.getElem?_eq_some_iff.1 h0).2
      have e1 := (List.getElem?_eq_some_iff.1 h1).2
      rw [List.drop_eq_getElem_cons (by omega), List.drop_eq_getElem_cons (i := k + 1) (by omega), e0, e1]
      simp
  rw [h1, List.getElem?_drop]
set_option maxHeartbeats 8000000 in
set_option maxRecDepth 100000 in
theorem runfold_any (a : Option Addr) (len cap : Nat) (l : List Int) (w : World) (hl : l.length = len) (hb : Byt l) (hbig : len ≤ 10000000) (hcap : len ≤ cap) (hcm : cap ≤ maxLen) (hr : Row w a l) :
    Calls Tryd.prog 19 #[.slice a len cap] w fun e w' => ∃ v, e = .returned v ∧ Own w' w.heap.size v (unfoldZ l) ∧ Below w.heap.size w w' := by
  obtain ⟨j0, hi, hz0, hz1, hz2⟩ := info_parts Tryd.info5
  have HL : Hid (l.length = len) := hl
  have HB : Hid (Byt l) := hb
  have HRW : Hid (Row w a l) := hr
  clear hl hb hr hcm
  go_enter Tryd.func19, Tryd.ntmps19
  go_wp2
  go_loopw [4, 3] (fun i v wr => ∃ (k : Nat) (pre : List Int), i = .int .i64 k ∧ k ≤ len + 2 ∧ Own wr w.heap.size v pre ∧ pre.length ≤ k ∧ pre ++ unfoldZ (l.drop k) = unfoldZ l ∧ Below w.heap.size w wr) (fun i _ _ => len + 3 - (intOf i).toNat)
  case atStart => exact ⟨0, [], rfl, by omega, ⟨rfl, .inl ⟨rfl, rfl⟩⟩, by simp, by simp, Below.refl _ _⟩
  case round =>
    obtain ⟨k, pre, rfl, hk, hown, hpl, hun, hb⟩ := hrel
    have HO : Hid (Own wr w.heap.size u3 pre) := hown
    have HU : Hid (pre ++ unfoldZ (l.drop k) = unfoldZ l) := hun
    have HBl : Hid (Below w.heap.size w wr) := hb
    have hsz := hb.size
    clear hown hun hb
    by_cases hlt : k < len
    · have dl : decide ((k : Int) < (len : Int)) = true := by simp; omega
      have hlk : k < l.length := by rw [HL.out]; exact hlt
      have HD : Hid (l.drop k = l[k] :: l.drop (k + 1)) := List.drop_eq_getElem_cons hlk
      obtain ⟨c, hc⟩ : ∃ c, l[k] = c := ⟨_, rfl⟩
      rw [hc] at HD
      have hcb : 0 ≤ c ∧ c < 256 := HB.out c (by rw [← hc]; exact List.getElem_mem hlk)
      have hRk := row_below HRW.out HBl.out
      have hpr := pair_ref a len cap k l wr HL.out (by omega) hRk hlt
      have hfr := folds_ref l k
      obtain ⟨b, off, rfl, hcells⟩ : ∃ b off, a = some ⟨b, off, none⟩ ∧ ∀ i, i < l.length → wr.cell? ⟨b, off + i, none⟩ = some (.int .u8 (l.getD i 0)) := by
        rcases hRk with h | h
        · rw [h] at hlk; simp at hlk
        · exact h
      have hck : wr.cell? ⟨b, off + k, none⟩ = some (.int .u8 c) := by
        rw [hcells k hlk, List.getD_eq_getElem?_getD, List.getElem?_eq_getElem hlk, hc]; rfl
      have hadd : (⟨b, off, none⟩ : Addr).add k = ⟨b, off + k, none⟩ := add_plain b off k
      have plain : ∀ (HF : foldsZ (l.drop k) = false), Hid ((pre ++ [c]) ++ unfoldZ (l.drop (k + 1)) = unfoldZ l) := by
        intro hfz
        unfold Hid
        have := HU.out
        rw [HD.out] at this hfz
        rw [unf_plain hfz] at this
        rw [← this]; simp
      have fold : ∀ (HF : foldsZ (l.drop k) = true), Hid (pre ++ unfoldZ (l.drop (k + 3)) = unfoldZ l) := by
        intro hfz
        unfold Hid
        have := HU.out
        rw [HD.out] at this hfz
        rw [unf_fold hfz, ← HD.out, List.drop_drop] at this
        exact this
      by_cases hpb : pairB l k = true
      · rw [hpb] at hpr hfr
        by_cases h2 : k + 2 < len
        · have hl2 : k + 2 < l.length := by rw [HL.out]; exact h2
          have d2 : decide ((k : Int) + 2 < (len : Int)) = true := by simp; omega
          obtain ⟨e, hex⟩ : ∃ e, l[k + 2] = e := ⟨_, rfl⟩
          have hce : wr.cell? ⟨b, off + (k + 2), none⟩ = some (.int .u8 e) := by
            rw [hcells (k + 2) hl2, List.getD_eq_getElem?_getD, List.getElem?_eq_getElem hl2, hex]; rfl
          have hadd2 : (⟨b, off, none⟩ : Addr).add (k + 2) = ⟨b, off + (k + 2), none⟩ := add_plain b off (k + 2)
          have k22 : ((k : Int) + 2).toNat = k + 2 := by omega
          rw [List.getElem?_eq_getElem hl2, hex] at hfr
          by_cases q1 : e = 32
          · subst q1
            have HU2 := fold (by rw [hfr]; simp)
            clear plain fold hfr hcells hc hex
            go_wp2_with (go_at_call 36; refine hpr.mono ?_; rintro e w2 ⟨rfl, rfl⟩)
            go_roundw
            case rel => exact ⟨k + 3, pre, by go_num, by omega, HO.out, by omega, HU2.out, HBl.out⟩
            case measure => simp [intOf]; omega
          · have e1 : (e == 32) = false := by rw [beq_eq_false_iff_ne]; exact q1
            by_cases q2 : e = 9
            · subst q2
              have HU2 := fold (by rw [hfr]; simp)
              clear plain fold hfr hcells hc hex
              go_wp2_with (go_at_call 36; refine hpr.mono ?_; rintro e w2 ⟨rfl, rfl⟩)
              go_roundw
              case rel => exact ⟨k + 3, pre, by go_num, by omega, HO.out, by omega, HU2.out, HBl.out⟩
              case measure => simp [intOf]; omega
            · have e2 : (e == 9) = false := by rw [beq_eq_false_iff_ne]; exact q2
              have HU2 := plain (by rw [hfr]; simp [q1, q2])
              clear plain fold hfr hcells hc hex
              go_wp2_with fail
              refine hpr.mono ?_
              rintro e' w2 ⟨rfl, rfl⟩
              clear hpr
              go_wp2_with (at_builtin; refine wpList_append_own _ rfl (.tmp 39) (.tmp 44) 22 rfl w.heap.size 5 j0 _ 1 1 Tryd.underlying22 hi hz0 hz1 hz2 rfl (by decide) u3 _ _ rfl (own_keep HO.out (keep _ _)) ⟨wr.heap.size, 0, none⟩ 1 1 [.int .u8 c] rfl rfl ?a0 ?a4 ?a1 ?a2 ?a3 ?_)
              case a0 => exact cells_new wr [.int .u8 c] 5
              case a4 => exact ints_one [c]
              case a1 => unfold maxLen; omega
              case a2 => omega
              case a3 => first | omega | (simp; omega)
              intro v' w3 hown3 hgrow3 _
              have HO3 : Hid (Own w3 w.heap.size v' (pre ++ [c])) := own_snoc (m := [c]) hown3
              have HB3 : Hid (Below w.heap.size w w3) := (HBl.out.alloc HBl.out.size _).grown hgrow3 (HBl.out.alloc HBl.out.size _).size (fun j hj => (HO.out.lt j hj).1)
              clear hown3 hgrow3
              go_wp2
              go_roundw
              case rel => exact ⟨k + 1, pre ++ [c], by go_num, by omega, HO3.out, by simp; omega, HU2.out, HB3.out⟩
              case measure => simp [intOf]; omega
        · have d2 : decide ((k : Int) + 2 < (len : Int)) = false := by simp; omega
          have HU2 := plain (by rw [hfr, List.getElem?_eq_none (by rw [HL.out]; omega)]; simp)
          clear plain fold hfr hcells hc
          go_wp2_with fail
          refine hpr.mono ?_
          rintro e' w2 ⟨rfl, rfl⟩
          clear hpr
          go_wp2_with (at_builtin; refine wpList_append_own _ rfl (.tmp 39) (.tmp 44) 22 rfl w.heap.size 5 j0 _ 1 1 Tryd.underlying22 hi hz0 hz1 hz2 rfl (by decide) u3 _ _ rfl (own_keep HO.out (keep _ _)) ⟨wr.heap.size, 0, none⟩ 1 1 [.int .u8 c] rfl rfl ?a0 ?a4 ?a1 ?a2 ?a3 ?_)
          case a0 => exact cells_new wr [.int .u8 c] 5
          case a4 => exact ints_one [c]
          case a1 => unfold maxLen; omega
          case a2 => omega
          case a3 => first | omega | (simp; omega)
          intro v' w3 hown3 hgrow3 _
          have HO3 : Hid (Own w3 w.heap.size v' (pre ++ [c])) := own_snoc (m := [c]) hown3
          have HB3 : Hid (Below w.heap.size w w3) := (HBl.out.alloc HBl.out.size _).grown hgrow3 (HBl.out.alloc HBl.out.size _).size (fun j hj => (HO.out.lt j hj).1)
          clear hown3 hgrow3
          go_wp2
          go_roundw
          case rel => exact ⟨k + 1, pre ++ [c], by go_num, by omega, HO3.out, by simp; omega, HU2.out, HB3.out⟩
          case measure => simp [intOf]; omega
      · rw [Bool.not_eq_true] at hpb
        rw [hpb] at hpr hfr
        have HU2 := plain (by rw [hfr]; simp)
        clear plain fold hfr hcells hc
        go_wp2_with fail
        refine hpr.mono ?_
        rintro e' w2 ⟨rfl, rfl⟩
        clear hpr
        go_wp2_with (at_builtin; refine wpList_append_own _ rfl (.tmp 39) (.tmp 44) 22 rfl w.heap.size 5 j0 _ 1 1 Tryd.underlying22 hi hz0 hz1 hz2 rfl (by decide) u3 _ _ rfl (own_keep HO.out (keep _ _)) ⟨wr.heap.size, 0, none⟩ 1 1 [.int .u8 c] rfl rfl ?a0 ?a4 ?a1 ?a2 ?a3 ?_)
        case a0 => exact cells_new wr [.int .u8 c] 5
        case a4 => exact ints_one [c]
        case a1 => unfold maxLen; omega
        case a2 => omega
        case a3 => first | omega | (simp; omega)
        intro v' w3 hown3 hgrow3 _
        have HO3 : Hid (Own w3 w.heap.size v' (pre ++ [c])) := own_snoc (m := [c]) hown3
        have HB3 : Hid (Below w.heap.size w w3) := (HBl.out.alloc HBl.out.size _).grown hgrow3 (HBl.out.alloc HBl.out.size _).size (fun j hj => (HO.out.lt j hj).1)
        clear hown3 hgrow3
        go_wp2
        go_roundw
        case rel => exact ⟨k + 1, pre ++ [c], by go_num, by omega, HO3.out, by simp; omega, HU2.out, HB3.out⟩
        case measure => simp [intOf]; omega
    · have dl : decide ((k : Int) < (len : Int)) = false := by simp; omega
      have hpe : pre = unfoldZ l := by
        have := HU.out
        rw [List.drop_of_length_le (by rw [HL.out]; omega)] at this
        simpa [unfoldZ, unfK] using this
      subst hpe
      go_wp2
      go_ret
      exact ⟨_, rfl, HO.out, HBl.out⟩
end Go.Proofs.YtjcjhcpaojhcfaaDoor
