/-
  The contracts of the reference's Encode, and of both where the bytes are too many.
-/
import Derived.Test.YteoojlpaciaobaaDoorRsign
namespace Go.Proofs.YteoojlpaciaobaaDoor
open Go.RowKit
set_option linter.unusedVariables false

theorem encode_long (a : Option Addr) (len cap : Nat) (text : Bool) (w : World) (h : 1048576 < len) :
    Calls Tryd.prog 10 #[.slice a len cap, .bool text] w fun e w' => e = .returned (.tuple #[.string ⟨#[]⟩, .int .i64 2]) ∧ w = w' := by
  go_enter Tryd.func10, Tryd.ntmps10
  go_wp2
  go_ret2
  exact ⟨rfl, rfl⟩
theorem rencode_long (a : Option Addr) (len cap : Nat) (text : Bool) (w : World) (h : 1048576 < len) :
    Calls Tryd.prog 11 #[.slice a len cap, .bool text] w fun e w' => e = .returned (.tuple #[.string ⟨#[]⟩, .int .i64 2]) ∧ w = w' := by
  go_enter Tryd.func11, Tryd.ntmps11
  go_wp2
  go_ret2
  exact ⟨rfl, rfl⟩
set_option maxHeartbeats 8000000 in
theorem rencode_ok (a : Option Addr) (len cap : Nat) (text : Bool) (l : List Int) (w : World) (hlen : l.length = len) (hb : Byt l) (hcap : len ≤ cap) (hm : cap ≤ maxLen) (hsm : len ≤ 1048576) (hrow : Row w a l) :
    Calls Tryd.prog 11 #[.slice a len cap, .bool text] w fun e w' => e = .returned (.tuple #[.string (strOfNums (encQ text 0 l)), .int .i64 0]) ∧ Below w.heap.size w w' := by
  obtain ⟨j0, hi, hz0, hz1, hz2⟩ := info_parts Tryd.info5
  have HE : Hid ((encQ text 0 l).length ≤ 6291456) := by have := enc_len text 0 l; unfold Hid; omega
  have HR0 : Hid (Row w a l) := hrow
  have HB0 : Hid (Byt l) := hb
  have HL : Hid (l.length = len) := hlen
  have hm' : cap ≤ 9223372036854775807 := hm
  clear hb hlen hrow
  go_enter Tryd.func11, Tryd.ntmps11
  go_wp2
  go_loopw [6, 7, 8] (fun v ln i wr => ∃ (k : Nat) (n : Nat) (pre : List Int), i = .int .i64 k ∧ ln = .int .i64 n ∧ k ≤ len ∧ n ≤ 75 ∧ encQ text 0 l = pre ++ encQ text n (l.drop k) ∧ wr.ownsRow w.heap.size 5 1 v pre.length (pre.map (Value.int .u8)) ∧ Below w.heap.size w wr) (fun _ _ i _ => len - (intOf i).toNat)
  case atStart => exact ⟨0, 0, [], rfl, rfl, by omega, by omega, rfl, World.ownsRow_nil _ _ _ _, Below.refl _ _⟩
  case round =>
    obtain ⟨k, n, pre, rfl, rfl, hk, hn, henc, hown, hbel⟩ := hrel
    have HEN : Hid (encQ text 0 l = pre ++ encQ text n (l.drop k)) := henc
    have HW : Hid (Below w.heap.size w wr) := hbel
    have HO : Hid (wr.ownsRow w.heap.size 5 1 u6 pre.length (pre.map (Value.int .u8))) := hown
    have hpre : pre.length ≤ 6291456 := by have := HE.out; rw [henc, List.length_append] at this; omega
    have hsz : w.heap.size ≤ wr.heap.size := hbel.size
    have HRR : Hid (Row wr a l) := row_below HR0.out hbel
    clear henc hbel hown
    by_cases hlt : k < len
    · obtain ⟨c, r, hd⟩ : ∃ c r, l.drop k = c :: r := by
        match hx : l.drop k with
        | [] => have := congrArg List.length hx; rw [List.length_drop, HL.out] at this; simp at this; omega
        | c :: r => exact ⟨c, r, rfl⟩
      have hcb : 0 ≤ c ∧ c < 256 := HB0.out c (List.mem_of_mem_drop (by rw [hd]; simp))
      have HD : Hid (l.drop k = c :: r) := hd
      have e1 : l.drop (k + 1) = r := by rw [← List.drop_drop, hd]; rfl
      have HD1 : Hid (l.drop (k + 1) = r) := e1
      clear hd e1
      cases hp : (text && pairQ (l.drop k)) with
      | true =>
        rw [Bool.and_eq_true] at hp
        obtain ⟨rfl, hpx⟩ := hp
        obtain ⟨r', hr⟩ := pairQ_two hpx
        have hk2 : k + 2 ≤ len := by
          have := congrArg List.length hr
          rw [List.length_drop, HL.out] at this
          simp at this; omega
        have HEQ : Hid (encQ true 0 l = (pre ++ [13, 10]) ++ encQ true ((0 : Nat) : Int) (l.drop (k + 2))) := by
          have e2 : l.drop (k + 2) = r' := by rw [← List.drop_drop, hr]; rfl
          unfold Hid
          rw [HEN.out, hr, enc_pair, e2]; simp
        clear hr
        go_wp2_with (first
          | (go_at_call 16; refine (pair_any _ _ _ k l _ HL.out hcap hm' (by omega) (by omega) HRR.out).mono ?_; rintro e w' ⟨rfl, rfl⟩; rw [hpx])
          | (at_builtin; refine wpList_append_own _ rfl (.tmp 25) (.tmp 26) 22 rfl w.heap.size 5 j0 (.int .u8 0) 1 1 Tryd.underlying22 hi hz0 hz1 hz2 rfl (by decide) _ _ _ rfl (HO.out.alloc _) ⟨wr.heap.size, 0, none⟩ 2 2 ([13, 10].map (Value.int .u8)) rfl rfl (cells_new _ _ _) (ints_one _) ?b1 ?b2 ?b3 ?_))
        case b1 => unfold maxLen; omega
        case b2 => omega
        case b3 => first | omega | (simp; omega)
        intro v4 w4 hown4 hgrow4 _
        have HB4 : Hid (Below w.heap.size w w4) := (HW.out.alloc hsz _).grown hgrow4 (by simp; omega) (fun k hk => (HO.out.lt k hk).1)
        have HO4 : Hid (w4.ownsRow w.heap.size 5 1 v4 (pre ++ [13, 10]).length ((pre ++ [13, 10]).map (Value.int .u8))) := by
          unfold Hid; rw [List.length_append, List.map_append]; exact hown4
        clear hown4 hgrow4
        go_wp2
        go_roundw
        case rel => exact ⟨k + 2, 0, pre ++ [13, 10], by go_num, by first | rfl | go_num, by omega, by omega, HEQ.out, HO4.out, HB4.out⟩
        case measure => simp [intOf]; omega
      | false =>
        have HP : Hid ((text && pairQ (c :: r)) = false) := by unfold Hid; rw [← HD.out]; exact hp
        have HPX : Hid (text = true → pairQ (l.drop k) = false) := by
          unfold Hid
          rintro rfl
          simpa using hp
        clear hp
        obtain ⟨x, hx⟩ : ∃ x, signQ c (lastQ r) = x := ⟨_, rfl⟩
        have HX : Hid (signQ c (lastQ r) = x) := hx
        have HXB : Hid (Byt x) := by unfold Hid; rw [← hx]; exact sign_byt hcb.1 hcb.2
        have hxl : 1 ≤ x.length ∧ x.length ≤ 3 := by rw [← hx]; exact sign_len _ _
        have hxs : (strOfNums x).size = x.length := size_str x
        have hsg : Calls Tryd.prog 20 #[.slice a len cap, .int .i64 k] wr fun e w' => e = .returned (.string (strOfNums x)) ∧ Below wr.heap.size wr w' := by
          rw [← hx]
          exact rsign_any a len cap k l c r wr HL.out hcap hm' (by omega) HRR.out HD.out hcb.1 hcb.2
        clear hx
        by_cases hfit : n + x.length ≤ 75
        · cases text with
          | false =>
            clear HPX
            go_wp2_with fail
            refine hsg.mono ?_
            rintro e w2 ⟨rfl, hb2⟩
            have HB2 : Hid (Below w.heap.size w w2) := HW.out.trans (hb2.mono hsz)
            have HO2 : Hid (w2.ownsRow w.heap.size 5 1 u6 pre.length (pre.map (Value.int .u8))) := own_keep HO.out hb2
            have hs2 : w.heap.size ≤ w2.heap.size := HB2.out.size
            clear hb2 hsg
            go_wp2_with (at_builtin; refine Lib.wpList_append_own_string _ rfl (.tmp 41) (.tmp 42) 22 9 rfl w.heap.size 5 j0 Tryd.underlying22 Tryd.underlying9 hi hz0 hz1 hz2 _ _ _ rfl HO2.out (strOfNums x) rfl ?_ ?_ ?_ ?_)
            · unfold maxLen; omega
            · omega
            · omega
            intro v3 w3 hown3 hgrow3 _
            have HB3 : Hid (Below w.heap.size w w3) := HB2.out.grown hgrow3 hs2 (fun k hk => (HO2.out.lt k hk).1)
            have HO3 : Hid (w3.ownsRow w.heap.size 5 1 v3 (pre ++ x).length ((pre ++ x).map (Value.int .u8))) := own_str HXB.out hown3
            have HEQ : Hid (encQ false 0 l = (pre ++ x) ++ encQ false ((n + x.length : Nat) : Int) (l.drop (k + 1))) := by
              unfold Hid
              rw [HEN.out, HD.out, enc_fit HP.out (by rw [HX.out]; omega), HX.out, HD1.out, List.append_assoc, Int.natCast_add]
            clear hown3 hgrow3
            go_wp2
            go_roundw
            case rel => exact ⟨k + 1, n + x.length, pre ++ x, by go_num, by go_num, by omega, by omega, HEQ.out, HO3.out, HB3.out⟩
            case measure => simp [intOf]; omega
          | true =>
            have hpx := HPX.out rfl
            clear HPX
            go_wp2_with (go_at_call 16; refine (pair_any _ _ _ k l _ HL.out hcap hm' (by omega) (by omega) HRR.out).mono ?_; rintro e w' ⟨rfl, rfl⟩; rw [hpx])
            refine hsg.mono ?_
            rintro e w2 ⟨rfl, hb2⟩
            have HB2 : Hid (Below w.heap.size w w2) := HW.out.trans (hb2.mono hsz)
            have HO2 : Hid (w2.ownsRow w.heap.size 5 1 u6 pre.length (pre.map (Value.int .u8))) := own_keep HO.out hb2
            have hs2 : w.heap.size ≤ w2.heap.size := HB2.out.size
            clear hb2 hsg
            go_wp2_with (at_builtin; refine Lib.wpList_append_own_string _ rfl (.tmp 41) (.tmp 42) 22 9 rfl w.heap.size 5 j0 Tryd.underlying22 Tryd.underlying9 hi hz0 hz1 hz2 _ _ _ rfl HO2.out (strOfNums x) rfl ?_ ?_ ?_ ?_)
            · unfold maxLen; omega
            · omega
            · omega
            intro v3 w3 hown3 hgrow3 _
            have HB3 : Hid (Below w.heap.size w w3) := HB2.out.grown hgrow3 hs2 (fun k hk => (HO2.out.lt k hk).1)
            have HO3 : Hid (w3.ownsRow w.heap.size 5 1 v3 (pre ++ x).length ((pre ++ x).map (Value.int .u8))) := own_str HXB.out hown3
            have HEQ : Hid (encQ true 0 l = (pre ++ x) ++ encQ true ((n + x.length : Nat) : Int) (l.drop (k + 1))) := by
              unfold Hid
              rw [HEN.out, HD.out, enc_fit HP.out (by rw [HX.out]; omega), HX.out, HD1.out, List.append_assoc, Int.natCast_add]
            clear hown3 hgrow3
            go_wp2
            go_roundw
            case rel => exact ⟨k + 1, n + x.length, pre ++ x, by go_num, by go_num, by omega, by omega, HEQ.out, HO3.out, HB3.out⟩
            case measure => simp [intOf]; omega
        · cases text with
          | false =>
            clear HPX
            go_wp2_with fail
            refine hsg.mono ?_
            rintro e w2 ⟨rfl, hb2⟩
            have HB2 : Hid (Below w.heap.size w w2) := HW.out.trans (hb2.mono hsz)
            have HO2 : Hid (w2.ownsRow w.heap.size 5 1 u6 pre.length (pre.map (Value.int .u8))) := own_keep HO.out hb2
            have hs2 : w.heap.size ≤ w2.heap.size := HB2.out.size
            clear hb2 hsg
            go_wp2_with (at_builtin; refine wpList_append_own _ rfl (.tmp 38) (.tmp 39) 22 rfl w.heap.size 5 j0 (.int .u8 0) 1 1 Tryd.underlying22 hi hz0 hz1 hz2 rfl (by decide) _ _ _ rfl (HO2.out.alloc _) ⟨w2.heap.size, 0, none⟩ 3 3 ([61, 13, 10].map (Value.int .u8)) rfl rfl (cells_new _ _ _) (ints_one _) ?_ ?_ ?_ ?_)
            · unfold maxLen; omega
            · omega
            · first | omega | (simp; omega)
            intro v4 w4 hown4 hgrow4 _
            have HB4 : Hid (Below w.heap.size w w4) := (HB2.out.alloc hs2 _).grown hgrow4 (by simp; omega) (fun k hk => (HO2.out.lt k hk).1)
            have HO4 : Hid (w4.ownsRow w.heap.size 5 1 v4 (pre ++ [61, 13, 10]).length ((pre ++ [61, 13, 10]).map (Value.int .u8))) := by
              unfold Hid; rw [List.length_append, List.map_append]; exact hown4
            have hs4 : w.heap.size ≤ w4.heap.size := HB4.out.size
            clear hown4 hgrow4
            go_wp2_with (at_builtin; refine Lib.wpList_append_own_string _ rfl (.tmp 41) (.tmp 42) 22 9 rfl w.heap.size 5 j0 Tryd.underlying22 Tryd.underlying9 hi hz0 hz1 hz2 _ _ _ rfl HO4.out (strOfNums x) rfl ?_ ?_ ?_ ?_)
            · rw [List.length_append]; unfold maxLen; simp; omega
            · rw [List.length_append]; simp; omega
            · omega
            intro v3 w3 hown3 hgrow3 _
            have HB3 : Hid (Below w.heap.size w w3) := HB4.out.grown hgrow3 hs4 (fun k hk => (HO4.out.lt k hk).1)
            have HO3 : Hid (w3.ownsRow w.heap.size 5 1 v3 ((pre ++ [61, 13, 10]) ++ x).length (((pre ++ [61, 13, 10]) ++ x).map (Value.int .u8))) := own_str HXB.out (by simpa using hown3)
            have HEQ : Hid (encQ false 0 l = ((pre ++ [61, 13, 10]) ++ x) ++ encQ false ((x.length : Nat) : Int) (l.drop (k + 1))) := by
              unfold Hid
              rw [HEN.out, HD.out, enc_soft HP.out (by rw [HX.out]; omega), HX.out, HD1.out]; simp only [List.append_assoc]
            clear hown3 hgrow3
            go_wp2
            go_roundw
            case rel => exact ⟨k + 1, x.length, (pre ++ [61, 13, 10]) ++ x, by go_num, by first | rfl | go_num, by omega, by omega, HEQ.out, HO3.out, HB3.out⟩
            case measure => simp [intOf]; omega
          | true =>
            have hpx := HPX.out rfl
            clear HPX
            go_wp2_with (go_at_call 16; refine (pair_any _ _ _ k l _ HL.out hcap hm' (by omega) (by omega) HRR.out).mono ?_; rintro e w' ⟨rfl, rfl⟩; rw [hpx])
            refine hsg.mono ?_
            rintro e w2 ⟨rfl, hb2⟩
            have HB2 : Hid (Below w.heap.size w w2) := HW.out.trans (hb2.mono hsz)
            have HO2 : Hid (w2.ownsRow w.heap.size 5 1 u6 pre.length (pre.map (Value.int .u8))) := own_keep HO.out hb2
            have hs2 : w.heap.size ≤ w2.heap.size := HB2.out.size
            clear hb2 hsg
            go_wp2_with (at_builtin; refine wpList_append_own _ rfl (.tmp 38) (.tmp 39) 22 rfl w.heap.size 5 j0 (.int .u8 0) 1 1 Tryd.underlying22 hi hz0 hz1 hz2 rfl (by decide) _ _ _ rfl (HO2.out.alloc _) ⟨w2.heap.size, 0, none⟩ 3 3 ([61, 13, 10].map (Value.int .u8)) rfl rfl (cells_new _ _ _) (ints_one _) ?_ ?_ ?_ ?_)
            · unfold maxLen; omega
            · omega
            · first | omega | (simp; omega)
            intro v4 w4 hown4 hgrow4 _
            have HB4 : Hid (Below w.heap.size w w4) := (HB2.out.alloc hs2 _).grown hgrow4 (by simp; omega) (fun k hk => (HO2.out.lt k hk).1)
            have HO4 : Hid (w4.ownsRow w.heap.size 5 1 v4 (pre ++ [61, 13, 10]).length ((pre ++ [61, 13, 10]).map (Value.int .u8))) := by
              unfold Hid; rw [List.length_append, List.map_append]; exact hown4
            have hs4 : w.heap.size ≤ w4.heap.size := HB4.out.size
            clear hown4 hgrow4
            go_wp2_with (at_builtin; refine Lib.wpList_append_own_string _ rfl (.tmp 41) (.tmp 42) 22 9 rfl w.heap.size 5 j0 Tryd.underlying22 Tryd.underlying9 hi hz0 hz1 hz2 _ _ _ rfl HO4.out (strOfNums x) rfl ?_ ?_ ?_ ?_)
            · rw [List.length_append]; unfold maxLen; simp; omega
            · rw [List.length_append]; simp; omega
            · omega
            intro v3 w3 hown3 hgrow3 _
            have HB3 : Hid (Below w.heap.size w w3) := HB4.out.grown hgrow3 hs4 (fun k hk => (HO4.out.lt k hk).1)
            have HO3 : Hid (w3.ownsRow w.heap.size 5 1 v3 ((pre ++ [61, 13, 10]) ++ x).length (((pre ++ [61, 13, 10]) ++ x).map (Value.int .u8))) := own_str HXB.out (by simpa using hown3)
            have HEQ : Hid (encQ true 0 l = ((pre ++ [61, 13, 10]) ++ x) ++ encQ true ((x.length : Nat) : Int) (l.drop (k + 1))) := by
              unfold Hid
              rw [HEN.out, HD.out, enc_soft HP.out (by rw [HX.out]; omega), HX.out, HD1.out]; simp only [List.append_assoc]
            clear hown3 hgrow3
            go_wp2
            go_roundw
            case rel => exact ⟨k + 1, x.length, (pre ++ [61, 13, 10]) ++ x, by go_num, by first | rfl | go_num, by omega, by omega, HEQ.out, HO3.out, HB3.out⟩
            case measure => simp [intOf]; omega
    · obtain rfl : k = len := by omega
      have HPE : Hid (encQ text 0 l = pre) := by
        unfold Hid; rw [HEN.out, List.drop_of_length_le (by rw [HL.out]; omega)]; simp [encQ]
      obtain ⟨a8, cap8, hv, hc8, hm8, hrow8, hn8⟩ := own_row' HO.out
      have k1 : (convert 22 9 (.slice a8 pre.length cap8)).run Tryd.prog wr = .ok (.string (strOfNums pre)) wr := conv_row _ _ rfl hrow8
      subst hv
      clear hrow8
      go_wp2
      go_ret2
      exact ⟨by rw [HPE.out]; rfl, HW.out⟩
end Go.Proofs.YteoojlpaciaobaaDoor
