/-
  The contract of Encode.
-/
import Derived.Test.YteoojlpaciaobaaDoorSign
import Derived.Deep.RegionWith
namespace Go.Proofs.YteoojlpaciaobaaDoor
open Go.RowKit
set_option linter.unusedVariables false

theorem strCells_str {l : List Int} (h : Byt l) : Lib.strCells (strOfNums l) = l.map (Value.int .u8) := by
  have := nums_str h
  unfold nums at this
  unfold Lib.strCells
  conv => rhs; rw [← this]
  rw [List.map_map]; rfl
theorem own_str {w : World} {B : Nat} {v : Value} {pre x : List Int} (hb : Byt x) (h : w.ownsRow B 5 1 v (pre.length + x.length) (pre.map (Value.int .u8) ++ Lib.strCells (strOfNums x))) : w.ownsRow B 5 1 v (pre ++ x).length ((pre ++ x).map (Value.int .u8)) := by
  rw [List.length_append, List.map_append, ← strCells_str hb]; exact h
theorem size_str (l : List Int) : (strOfNums l).size = l.length := by
  have := congrArg List.length (toList_str l)
  rw [ByteArray.toList_eq, List.length_map, Array.length_toList] at this
  exact this
theorem lineEnds_some (s : ByteArray) (w : World) : Calls Tryd.prog 17 #[.string s] w fun e w' => ∃ b, e = .returned (.func (.func 26) #[] #[.pointer (some ⟨b, 0, none⟩)]) ∧ w'.cell? ⟨b, 0, none⟩ = some (.string s) ∧ Below w.heap.size w w' := by
  refine (lineEnds_any s w).mono ?_
  rintro e w' ⟨rfl, rfl⟩
  exact ⟨_, rfl, by simp, keep w _⟩

theorem wrap_next (k : Nat) (h : k ≤ 100000000) : IntKind.i64.wrap ((k : Int) + 1) = ((k + 1 : Nat) : Int) := by
  simp [IntKind.wrap, IntKind.bits, IntKind.signed]; omega
theorem ends_next (s : ByteArray) (b k : Nat) (w : World) (hc : w.cell? ⟨b, 0, none⟩ = some (.string s)) (hk : k < s.size) (hs : s.size ≤ 100000000) :
    Calls Tryd.prog 26 #[.int .i64 (IntKind.i64.wrap ((k : Int) + 1)), .pointer (some ⟨b, 0, none⟩)] w fun e w' => e = .returned (.bool (lastQ ((nums s).drop (k + 1)))) ∧ w = w' := by
  rw [wrap_next k (by omega)]
  exact ends_any s b (k + 1) w hc hk hs

set_option maxHeartbeats 8000000 in
theorem encode_ok (a : Option Addr) (len cap : Nat) (text : Bool) (l : List Int) (w : World) (hlen : l.length = len) (hb : Byt l) (hcap : len ≤ cap) (hm : cap ≤ maxLen) (hsm : len ≤ 1048576) (hrow : Row w a l) :
    Calls Tryd.prog 10 #[.slice a len cap, .bool text] w fun e w' => e = .returned (.tuple #[.string (strOfNums (encQ text 0 l)), .int .i64 0]) ∧ Below w.heap.size w w' := by
  obtain ⟨j0, hi, hz0, hz1, hz2⟩ := info_parts Tryd.info5
  have HE : Hid ((encQ text 0 l).length ≤ 6291456) := by have := enc_len text 0 l; unfold Hid; omega
  have HEB : Hid (Byt (encQ text 0 l)) := enc_byt text 0 l hb
  have k0 : (convert 22 9 (.slice a len cap)).run Tryd.prog w = .ok (.string (strOfNums l)) w := conv_row _ _ hlen hrow
  obtain ⟨s, hs⟩ : ∃ s, strOfNums l = s := ⟨_, rfl⟩
  have HN : Hid (nums s = l) := by unfold Hid; rw [← hs]; exact nums_str hb
  have hss : s.size = len := by rw [← nums_len, HN.out]; exact hlen
  rw [hs] at k0
  have HB0 : Hid (Byt l) := hb
  clear hb hlen hrow hs
  subst hss
  go_enter Tryd.func10, Tryd.ntmps10
  go_wp2_with fail
  refine (lineEnds_some _ _).mono ?_
  rintro e w1 ⟨b, rfl, hc1, hb1⟩
  go_wp2_with (at_make; refine wpList_make_own _ rfl _ _ 22 rfl w1.heap.size 5 j0 (.int .u8 0) 1 Tryd.underlying22 hi hz0 hz1 _ _ _ s.size rfl rfl rfl ?m1 ?m2 (Nat.le_refl _) ?_)
  case m1 => rw [hz2]; omega
  case m2 => unfold maxLen; omega
  intro wm hownm hgrowm
  have HBM : Hid (Below w1.heap.size w1 wm) := (Below.refl _ _).grown hgrowm (Nat.le_refl _) (by intro k hk; cases hk)
  have HOM : Hid (wm.ownsRow w1.heap.size 5 1 (.slice (some ⟨w1.heap.size, 0, none⟩) 0 s.size) 0 []) := hownm
  have HB1 : Hid (Below w.heap.size w w1) := hb1
  have HC1 : Hid (w1.cell? ⟨b, 0, none⟩ = some (.string s)) := hc1
  clear hownm hgrowm hb1 hc1 k0
  go_wp2
  go_loopw [8, 9, 10] (fun v ln i wr => ∃ (k : Nat) (n : Nat) (pre : List Int), i = .int .i64 k ∧ ln = .int .i64 n ∧ k ≤ s.size ∧ n ≤ 75 ∧ encQ text 0 l = pre ++ encQ text n ((nums s).drop k) ∧ wr.ownsRow w1.heap.size 5 1 v pre.length (pre.map (Value.int .u8)) ∧ Below w1.heap.size w1 wr) (fun _ _ i _ => s.size - (intOf i).toNat)
  case atStart => exact ⟨0, 0, [], rfl, rfl, by omega, by omega, by rw [HN.out]; rfl, HOM.out, HBM.out⟩
  case round =>
    clear HBM HOM
    obtain ⟨k, n, pre, rfl, rfl, hk, hn, henc, hown, hbel⟩ := hrel
    have HEN : Hid (encQ text 0 l = pre ++ encQ text n ((nums s).drop k)) := henc
    have HW : Hid (Below w1.heap.size w1 wr) := hbel
    have HO : Hid (wr.ownsRow w1.heap.size 5 1 u8 pre.length (pre.map (Value.int .u8))) := hown
    have hpre : pre.length ≤ 6291456 := by have := HE.out; rw [henc, List.length_append] at this; omega
    have hsz : w1.heap.size ≤ wr.heap.size := hbel.size
    have HCR : Hid (wr.cell? ⟨b, 0, none⟩ = some (.string s)) := by
      have := World.block_lt_of_cell? w1 _ HC1.out
      unfold Hid; rw [hbel.cell this]; exact HC1.out
    clear henc hbel hown
    by_cases hlt : k < s.size
    · have hd := nums_drop s k hlt
      obtain ⟨c, hc⟩ : ∃ c : Int, (s[k].toNat : Int) = c := ⟨_, rfl⟩
      have hcb : 0 ≤ c ∧ c < 256 := by have := s[k].toNat_lt; omega
      rw [hc] at hd
      have HD : Hid ((nums s).drop k = c :: (nums s).drop (k + 1)) := hd
      clear hd
      cases hp : (text && pairQ ((nums s).drop k)) with
      | true =>
        rw [Bool.and_eq_true] at hp
        obtain ⟨rfl, hp2⟩ := hp
        obtain ⟨r, hr⟩ := pairQ_two hp2
        have hk2 : k + 2 ≤ s.size := by
          have := congrArg List.length hr
          rw [List.length_drop, nums_len] at this
          simp at this; omega
        have hpx : pairQ (nums (s.extract k s.size)) = true := by rw [nums_from]; exact hp2
        have HEQ : Hid (encQ true 0 l = (pre ++ [13, 10]) ++ encQ true ((0 : Nat) : Int) ((nums s).drop (k + 2))) := by
          have e2 : (nums s).drop (k + 2) = r := by rw [← List.drop_drop, hr]; rfl
          unfold Hid
          rw [HEN.out, hr, enc_pair, e2]; simp
        clear hp2 hr HD
        go_wp2_with (first
          | (go_at_call 18; refine (hasPair_any _ _).mono ?_; rintro e w' ⟨rfl, rfl⟩; rw [hpx])
          | (at_builtin; refine Lib.wpList_append_own_string _ rfl (.tmp 35) (.const (.string ⟨#[13, 10]⟩)) 22 9 rfl w1.heap.size 5 j0 Tryd.underlying22 Tryd.underlying9 hi hz0 hz1 hz2 _ _ _ rfl HO.out ⟨#[13, 10]⟩ rfl ?b1 ?b2 ?b3 ?_))
        case b1 => have : (⟨#[13, 10]⟩ : ByteArray).size = 2 := rfl
                   unfold maxLen; omega
        case b2 => have : (⟨#[13, 10]⟩ : ByteArray).size = 2 := rfl
                   omega
        case b3 => omega
        intro v4 w4 hown4 hgrow4 _
        have HB4 : Hid (Below w1.heap.size w1 w4) := HW.out.grown hgrow4 hsz (fun k hk => (HO.out.lt k hk).1)
        have HO4 : Hid (w4.ownsRow w1.heap.size 5 1 v4 (pre ++ [13, 10]).length ((pre ++ [13, 10]).map (Value.int .u8))) := by
          unfold Hid; rw [List.length_append, List.map_append]; exact hown4
        clear hown4 hgrow4
        go_wp2
        go_roundw
        case rel => exact ⟨k + 2, 0, pre ++ [13, 10], by go_num, by first | rfl | go_num, by omega, by omega, HEQ.out, HO4.out, HB4.out⟩
        case measure => simp [intOf]; omega
      | false =>
        have HP : Hid ((text && pairQ (c :: (nums s).drop (k + 1))) = false) := by unfold Hid; rw [← HD.out]; exact hp
        have HPX : Hid (text = true → pairQ (nums (s.extract k s.size)) = false) := by
          unfold Hid; rw [nums_from]
          rintro rfl
          simpa using hp
        clear hp
        obtain ⟨x, hx⟩ : ∃ x, signQ c (lastQ ((nums s).drop (k + 1))) = x := ⟨_, rfl⟩
        have HX : Hid (signQ c (lastQ ((nums s).drop (k + 1))) = x) := hx
        have HXB : Hid (Byt x) := by unfold Hid; rw [← hx]; exact sign_byt hcb.1 hcb.2
        have hxl : 1 ≤ x.length ∧ x.length ≤ 3 := by rw [← hx]; exact sign_len _ _
        have hxs : (strOfNums x).size = x.length := size_str x
        clear hx
        by_cases hfit : n + x.length ≤ 75
        · cases text with
          | false =>
            clear HPX
            go_wp2
            go_region_with (first
              | (go_at_call 26; refine (ends_next s b k _ ?_ (by omega) (by omega)).mono ?_; exact HCR.out; rintro e w' ⟨rfl, rfl⟩)
              | (go_at_call 19; refine (sign_any c _ _ hcb.1 hcb.2).mono ?_; rintro e w2 ⟨rfl, hb2⟩; rw [HX.out]))
            all_goals (
              have HB2 : Hid (Below w1.heap.size w1 w2) := HW.out.drew.trans (hb2.mono hsz)
              have HO2 : Hid (w2.ownsRow w1.heap.size 5 1 u8 pre.length (pre.map (Value.int .u8))) := own_keep (w := wr.drew) HO.out hb2
              have hs2 : w1.heap.size ≤ w2.heap.size := HB2.out.size
              clear hb2
              go_wp2_with (at_builtin; refine Lib.wpList_append_own_string _ rfl (.tmp 54) (.tmp 55) 22 9 rfl w1.heap.size 5 j0 Tryd.underlying22 Tryd.underlying9 hi hz0 hz1 hz2 _ _ _ rfl HO2.out (strOfNums x) rfl ?_ ?_ ?_ ?_)
              · unfold maxLen; omega
              · omega
              · omega
              intro v3 w3 hown3 hgrow3 _
              have HB3 : Hid (Below w1.heap.size w1 w3) := HB2.out.grown hgrow3 hs2 (fun k hk => (HO2.out.lt k hk).1)
              have HO3 : Hid (w3.ownsRow w1.heap.size 5 1 v3 (pre ++ x).length ((pre ++ x).map (Value.int .u8))) := own_str HXB.out hown3
              have HEQ : Hid (encQ false 0 l = (pre ++ x) ++ encQ false ((n + x.length : Nat) : Int) ((nums s).drop (k + 1))) := by
                unfold Hid
                rw [HEN.out, HD.out, enc_fit HP.out (by rw [HX.out]; omega), HX.out, List.append_assoc, Int.natCast_add]
              clear hown3 hgrow3
              go_wp2
              go_roundw
              case rel => exact ⟨k + 1, n + x.length, pre ++ x, by go_num, by go_num, by omega, by omega, HEQ.out, HO3.out, HB3.out⟩
              case measure => simp [intOf]; omega)
          | true =>
            have hpx := HPX.out rfl
            clear HPX
            go_wp2_with (go_at_call 18; refine (hasPair_any _ _).mono ?_; rintro e w' ⟨rfl, rfl⟩; rw [hpx])
            go_region_with (first
              | (go_at_call 26; refine (ends_next s b k _ ?_ (by omega) (by omega)).mono ?_; exact HCR.out; rintro e w' ⟨rfl, rfl⟩)
              | (go_at_call 19; refine (sign_any c _ _ hcb.1 hcb.2).mono ?_; rintro e w2 ⟨rfl, hb2⟩; rw [HX.out]))
            all_goals (
              have HB2 : Hid (Below w1.heap.size w1 w2) := HW.out.drew.trans (hb2.mono hsz)
              have HO2 : Hid (w2.ownsRow w1.heap.size 5 1 u8 pre.length (pre.map (Value.int .u8))) := own_keep (w := wr.drew) HO.out hb2
              have hs2 : w1.heap.size ≤ w2.heap.size := HB2.out.size
              clear hb2
              go_wp2_with (at_builtin; refine Lib.wpList_append_own_string _ rfl (.tmp 54) (.tmp 55) 22 9 rfl w1.heap.size 5 j0 Tryd.underlying22 Tryd.underlying9 hi hz0 hz1 hz2 _ _ _ rfl HO2.out (strOfNums x) rfl ?_ ?_ ?_ ?_)
              · unfold maxLen; omega
              · omega
              · omega
              intro v3 w3 hown3 hgrow3 _
              have HB3 : Hid (Below w1.heap.size w1 w3) := HB2.out.grown hgrow3 hs2 (fun k hk => (HO2.out.lt k hk).1)
              have HO3 : Hid (w3.ownsRow w1.heap.size 5 1 v3 (pre ++ x).length ((pre ++ x).map (Value.int .u8))) := own_str HXB.out hown3
              have HEQ : Hid (encQ true 0 l = (pre ++ x) ++ encQ true ((n + x.length : Nat) : Int) ((nums s).drop (k + 1))) := by
                unfold Hid
                rw [HEN.out, HD.out, enc_fit HP.out (by rw [HX.out]; omega), HX.out, List.append_assoc, Int.natCast_add]
              clear hown3 hgrow3
              go_wp2
              go_roundw
              case rel => exact ⟨k + 1, n + x.length, pre ++ x, by go_num, by go_num, by omega, by omega, HEQ.out, HO3.out, HB3.out⟩
              case measure => simp [intOf]; omega)
        · cases text with
          | false =>
            clear HPX
            go_wp2
            go_region_with (first
              | (go_at_call 26; refine (ends_next s b k _ ?_ (by omega) (by omega)).mono ?_; exact HCR.out; rintro e w' ⟨rfl, rfl⟩)
              | (go_at_call 19; refine (sign_any c _ _ hcb.1 hcb.2).mono ?_; rintro e w2 ⟨rfl, hb2⟩; rw [HX.out]))
            all_goals (
              have HB2 : Hid (Below w1.heap.size w1 w2) := HW.out.drew.trans (hb2.mono hsz)
              have HO2 : Hid (w2.ownsRow w1.heap.size 5 1 u8 pre.length (pre.map (Value.int .u8))) := own_keep (w := wr.drew) HO.out hb2
              have hs2 : w1.heap.size ≤ w2.heap.size := HB2.out.size
              clear hb2
              go_wp2_with (at_builtin; refine Lib.wpList_append_own_string _ rfl (.tmp 52) (.const (.string ⟨#[61, 13, 10]⟩)) 22 9 rfl w1.heap.size 5 j0 Tryd.underlying22 Tryd.underlying9 hi hz0 hz1 hz2 _ _ _ rfl HO2.out ⟨#[61, 13, 10]⟩ rfl ?_ ?_ ?_ ?_)
              · have : (⟨#[61, 13, 10]⟩ : ByteArray).size = 3 := rfl
                unfold maxLen; omega
              · have : (⟨#[61, 13, 10]⟩ : ByteArray).size = 3 := rfl
                omega
              · omega
              intro v4 w4 hown4 hgrow4 _
              have HB4 : Hid (Below w1.heap.size w1 w4) := HB2.out.grown hgrow4 hs2 (fun k hk => (HO2.out.lt k hk).1)
              have HO4 : Hid (w4.ownsRow w1.heap.size 5 1 v4 (pre ++ [61, 13, 10]).length ((pre ++ [61, 13, 10]).map (Value.int .u8))) := by
                unfold Hid; rw [List.length_append, List.map_append]; exact hown4
              have hs4 : w1.heap.size ≤ w4.heap.size := HB4.out.size
              clear hown4 hgrow4
              go_wp2_with (at_builtin; refine Lib.wpList_append_own_string _ rfl (.tmp 54) (.tmp 55) 22 9 rfl w1.heap.size 5 j0 Tryd.underlying22 Tryd.underlying9 hi hz0 hz1 hz2 _ _ _ rfl HO4.out (strOfNums x) rfl ?_ ?_ ?_ ?_)
              · rw [List.length_append]; unfold maxLen; simp; omega
              · rw [List.length_append]; simp; omega
              · omega
              intro v3 w3 hown3 hgrow3 _
              have HB3 : Hid (Below w1.heap.size w1 w3) := HB4.out.grown hgrow3 hs4 (fun k hk => (HO4.out.lt k hk).1)
              have HO3 : Hid (w3.ownsRow w1.heap.size 5 1 v3 ((pre ++ [61, 13, 10]) ++ x).length (((pre ++ [61, 13, 10]) ++ x).map (Value.int .u8))) := own_str HXB.out (by simpa using hown3)
              have HEQ : Hid (encQ false 0 l = ((pre ++ [61, 13, 10]) ++ x) ++ encQ false ((x.length : Nat) : Int) ((nums s).drop (k + 1))) := by
                unfold Hid
                rw [HEN.out, HD.out, enc_soft HP.out (by rw [HX.out]; omega), HX.out]; simp only [List.append_assoc]
              clear hown3 hgrow3
              go_wp2
              go_roundw
              case rel => exact ⟨k + 1, x.length, (pre ++ [61, 13, 10]) ++ x, by go_num, by first | rfl | go_num, by omega, by omega, HEQ.out, HO3.out, HB3.out⟩
              case measure => simp [intOf]; omega)
          | true =>
            have hpx := HPX.out rfl
            clear HPX
            go_wp2_with (go_at_call 18; refine (hasPair_any _ _).mono ?_; rintro e w' ⟨rfl, rfl⟩; rw [hpx])
            go_region_with (first
              | (go_at_call 26; refine (ends_next s b k _ ?_ (by omega) (by omega)).mono ?_; exact HCR.out; rintro e w' ⟨rfl, rfl⟩)
              | (go_at_call 19; refine (sign_any c _ _ hcb.1 hcb.2).mono ?_; rintro e w2 ⟨rfl, hb2⟩; rw [HX.out]))
            all_goals (
              have HB2 : Hid (Below w1.heap.size w1 w2) := HW.out.drew.trans (hb2.mono hsz)
              have HO2 : Hid (w2.ownsRow w1.heap.size 5 1 u8 pre.length (pre.map (Value.int .u8))) := own_keep (w := wr.drew) HO.out hb2
              have hs2 : w1.heap.size ≤ w2.heap.size := HB2.out.size
              clear hb2
              go_wp2_with (at_builtin; refine Lib.wpList_append_own_string _ rfl (.tmp 52) (.const (.string ⟨#[61, 13, 10]⟩)) 22 9 rfl w1.heap.size 5 j0 Tryd.underlying22 Tryd.underlying9 hi hz0 hz1 hz2 _ _ _ rfl HO2.out ⟨#[61, 13, 10]⟩ rfl ?_ ?_ ?_ ?_)
              · have : (⟨#[61, 13, 10]⟩ : ByteArray).size = 3 := rfl
                unfold maxLen; omega
              · have : (⟨#[61, 13, 10]⟩ : ByteArray).size = 3 := rfl
                omega
              · omega
              intro v4 w4 hown4 hgrow4 _
              have HB4 : Hid (Below w1.heap.size w1 w4) := HB2.out.grown hgrow4 hs2 (fun k hk => (HO2.out.lt k hk).1)
              have HO4 : Hid (w4.ownsRow w1.heap.size 5 1 v4 (pre ++ [61, 13, 10]).length ((pre ++ [61, 13, 10]).map (Value.int .u8))) := by
                unfold Hid; rw [List.length_append, List.map_append]; exact hown4
              have hs4 : w1.heap.size ≤ w4.heap.size := HB4.out.size
              clear hown4 hgrow4
              go_wp2_with (at_builtin; refine Lib.wpList_append_own_string _ rfl (.tmp 54) (.tmp 55) 22 9 rfl w1.heap.size 5 j0 Tryd.underlying22 Tryd.underlying9 hi hz0 hz1 hz2 _ _ _ rfl HO4.out (strOfNums x) rfl ?_ ?_ ?_ ?_)
              · rw [List.length_append]; unfold maxLen; simp; omega
              · rw [List.length_append]; simp; omega
              · omega
              intro v3 w3 hown3 hgrow3 _
              have HB3 : Hid (Below w1.heap.size w1 w3) := HB4.out.grown hgrow3 hs4 (fun k hk => (HO4.out.lt k hk).1)
              have HO3 : Hid (w3.ownsRow w1.heap.size 5 1 v3 ((pre ++ [61, 13, 10]) ++ x).length (((pre ++ [61, 13, 10]) ++ x).map (Value.int .u8))) := own_str HXB.out (by simpa using hown3)
              have HEQ : Hid (encQ true 0 l = ((pre ++ [61, 13, 10]) ++ x) ++ encQ true ((x.length : Nat) : Int) ((nums s).drop (k + 1))) := by
                unfold Hid
                rw [HEN.out, HD.out, enc_soft HP.out (by rw [HX.out]; omega), HX.out]; simp only [List.append_assoc]
              clear hown3 hgrow3
              go_wp2
              go_roundw
              case rel => exact ⟨k + 1, x.length, (pre ++ [61, 13, 10]) ++ x, by go_num, by first | rfl | go_num, by omega, by omega, HEQ.out, HO3.out, HB3.out⟩
              case measure => simp [intOf]; omega)
    · obtain rfl : k = s.size := by omega
      have HPE : Hid (encQ text 0 l = pre) := by
        unfold Hid; rw [HEN.out, List.drop_of_length_le (by rw [nums_len]; omega)]; simp [encQ]
      obtain ⟨a8, cap8, hv, hc8, hm8, hrow8, hn8⟩ := own_row' HO.out
      have k1 : (convert 22 9 (.slice a8 pre.length cap8)).run Tryd.prog wr = .ok (.string (strOfNums pre)) wr := conv_row _ _ rfl hrow8
      subst hv
      clear hrow8
      go_wp2
      go_ret2
      exact ⟨by rw [HPE.out]; rfl, HB1.out.trans (HW.out.mono HB1.out.size)⟩
end Go.Proofs.YteoojlpaciaobaaDoor
