/-
  The contracts of the reference's Set, nine, win, One and two.
-/
import Derived.Test.YtlhhbmolkiojfaaDoorLo
import Derived.Test.YtlhhbmolkiojfaaDoorCk
import Derived.Deep.RegionHeld3
namespace Go.Proofs.YtlhhbmolkiojfaaDoor
open Go.RowKit
set_option linter.unusedVariables false

/-- A set's own name. -/
def nmS (q : Int) : ByteArray :=
  if q = 1 then ⟨#[117, 115, 45, 97, 115, 99, 105, 105]⟩ else if q = 2 then ⟨#[117, 116, 102, 45, 56]⟩ else if q = 3 then ⟨#[105, 115, 111, 45, 56, 56, 53, 57, 45, 49]⟩ else if q = 4 then ⟨#[105, 115, 111, 45, 56, 56, 53, 57, 45, 49, 53]⟩ else if q = 5 then ⟨#[119, 105, 110, 100, 111, 119, 115, 45, 49, 50, 53, 50]⟩ else if q = 6 then ⟨#[117, 116, 102, 45, 49, 54]⟩ else if q = 7 then ⟨#[117, 116, 102, 45, 49, 54, 98, 101]⟩ else if q = 8 then ⟨#[117, 116, 102, 45, 49, 54, 108, 101]⟩ else ⟨#[]⟩
theorem nmS0 : nmS 0 = ⟨#[]⟩ := rfl
theorem nmS1 : nmS 1 = ⟨#[117, 115, 45, 97, 115, 99, 105, 105]⟩ := rfl
theorem nmS2 : nmS 2 = ⟨#[117, 116, 102, 45, 56]⟩ := rfl
theorem nmS3 : nmS 3 = ⟨#[105, 115, 111, 45, 56, 56, 53, 57, 45, 49]⟩ := rfl
theorem nmS4 : nmS 4 = ⟨#[105, 115, 111, 45, 56, 56, 53, 57, 45, 49, 53]⟩ := rfl
theorem nmS5 : nmS 5 = ⟨#[119, 105, 110, 100, 111, 119, 115, 45, 49, 50, 53, 50]⟩ := rfl
theorem nmS6 : nmS 6 = ⟨#[117, 116, 102, 45, 49, 54]⟩ := rfl
theorem nmS7 : nmS 7 = ⟨#[117, 116, 102, 45, 49, 54, 98, 101]⟩ := rfl
theorem nmS8 : nmS 8 = ⟨#[117, 116, 102, 45, 49, 54, 108, 101]⟩ := rfl
theorem str_of {x : ByteArray} (L : List Int) {M : List UInt8} (hM : L.map (fun n : Int => UInt8.ofNat n.toNat) = M) (h : (x.toList == M) = true) : x = strOfNums L := by
  rw [← hM, ← toList_str, eq_nums] at h
  exact nums_inj (of_decide_eq_true h)
set_option maxRecDepth 100000 in
set_option maxHeartbeats 4000000 in
theorem rset_any (s : ByteArray) (w : World) (hs : s.size ≤ 1000000) : Calls Tryd.prog 13 #[.string s] w fun e w' => e = .returned (.string (nmS (setB (lowS s)))) ∧ Below w.heap.size w w' := by
  obtain ⟨x, hx⟩ : ∃ x, lowS s = x := ⟨_, rfl⟩
  have K : Calls Tryd.prog 26 #[.string s] w fun e w' => e = .returned (.string x) ∧ Below w.heap.size w w' := by rw [← hx]; exact lower_any s w (by omega)
  rw [hx]
  clear hx
  cases e0 : (x.toList == [97, 115, 99, 105, 105]) with
  | true =>
    have hx : x = strOfNums [97, 115, 99, 105, 105] := str_of [97, 115, 99, 105, 105] rfl e0
    have HS : Hid (nmS (setB x) = ⟨#[117, 115, 45, 97, 115, 99, 105, 105]⟩) := by unfold Hid; rw [hx]; kernel_rfl
    have HX : Hid (x = ⟨#[97, 115, 99, 105, 105]⟩) := hx
    clear hx
    go_enter Tryd.func13, Tryd.ntmps13
    go_wp2_with (go_at_call 26; refine K.mono ?_; rintro e w' ⟨rfl, hb⟩)
    go_ret
    exact ⟨by rw [HS.out]; rfl, hb⟩
  | false =>
    cases e1 : (x.toList == [108, 97, 116, 105, 110, 49]) with
    | true =>
      have hx : x = strOfNums [108, 97, 116, 105, 110, 49] := str_of [108, 97, 116, 105, 110, 49] rfl e1
      have HS : Hid (nmS (setB x) = ⟨#[105, 115, 111, 45, 56, 56, 53, 57, 45, 49]⟩) := by unfold Hid; rw [hx]; kernel_rfl
      have HX : Hid (x = ⟨#[108, 97, 116, 105, 110, 49]⟩) := hx
      clear hx
      go_enter Tryd.func13, Tryd.ntmps13
      go_wp2_with (go_at_call 26; refine K.mono ?_; rintro e w' ⟨rfl, hb⟩)
      go_ret
      exact ⟨by rw [HS.out]; rfl, hb⟩
    | false =>
      cases e2 : (x.toList == [117, 115, 45, 97, 115, 99, 105, 105]) with
      | true =>
        have hx : x = strOfNums [117, 115, 45, 97, 115, 99, 105, 105] := str_of [117, 115, 45, 97, 115, 99, 105, 105] rfl e2
        have HS : Hid (nmS (setB x) = ⟨#[117, 115, 45, 97, 115, 99, 105, 105]⟩) := by unfold Hid; rw [hx]; kernel_rfl
        have HX : Hid (x = ⟨#[117, 115, 45, 97, 115, 99, 105, 105]⟩) := hx
        clear hx
        go_enter Tryd.func13, Tryd.ntmps13
        go_wp2_with (go_at_call 26; refine K.mono ?_; rintro e w' ⟨rfl, hb⟩)
        go_ret
        exact ⟨by rw [HS.out, HX.out]; rfl, hb⟩
      | false =>
        cases e3 : (x.toList == [117, 116, 102, 45, 56]) with
        | true =>
          have hx : x = strOfNums [117, 116, 102, 45, 56] := str_of [117, 116, 102, 45, 56] rfl e3
          have HS : Hid (nmS (setB x) = ⟨#[117, 116, 102, 45, 56]⟩) := by unfold Hid; rw [hx]; kernel_rfl
          have HX : Hid (x = ⟨#[117, 116, 102, 45, 56]⟩) := hx
          clear hx
          go_enter Tryd.func13, Tryd.ntmps13
          go_wp2_with (go_at_call 26; refine K.mono ?_; rintro e w' ⟨rfl, hb⟩)
          go_ret
          exact ⟨by rw [HS.out, HX.out]; rfl, hb⟩
        | false =>
          cases e4 : (x.toList == [105, 115, 111, 45, 56, 56, 53, 57, 45, 49]) with
          | true =>
            have hx : x = strOfNums [105, 115, 111, 45, 56, 56, 53, 57, 45, 49] := str_of [105, 115, 111, 45, 56, 56, 53, 57, 45, 49] rfl e4
            have HS : Hid (nmS (setB x) = ⟨#[105, 115, 111, 45, 56, 56, 53, 57, 45, 49]⟩) := by unfold Hid; rw [hx]; kernel_rfl
            have HX : Hid (x = ⟨#[105, 115, 111, 45, 56, 56, 53, 57, 45, 49]⟩) := hx
            clear hx
            go_enter Tryd.func13, Tryd.ntmps13
            go_wp2_with (go_at_call 26; refine K.mono ?_; rintro e w' ⟨rfl, hb⟩)
            go_ret
            exact ⟨by rw [HS.out, HX.out]; rfl, hb⟩
          | false =>
            cases e5 : (x.toList == [105, 115, 111, 45, 56, 56, 53, 57, 45, 49, 53]) with
            | true =>
              have hx : x = strOfNums [105, 115, 111, 45, 56, 56, 53, 57, 45, 49, 53] := str_of [105, 115, 111, 45, 56, 56, 53, 57, 45, 49, 53] rfl e5
              have HS : Hid (nmS (setB x) = ⟨#[105, 115, 111, 45, 56, 56, 53, 57, 45, 49, 53]⟩) := by unfold Hid; rw [hx]; kernel_rfl
              have HX : Hid (x = ⟨#[105, 115, 111, 45, 56, 56, 53, 57, 45, 49, 53]⟩) := hx
              clear hx
              go_enter Tryd.func13, Tryd.ntmps13
              go_wp2_with (go_at_call 26; refine K.mono ?_; rintro e w' ⟨rfl, hb⟩)
              go_ret
              exact ⟨by rw [HS.out, HX.out]; rfl, hb⟩
            | false =>
              cases e6 : (x.toList == [119, 105, 110, 100, 111, 119, 115, 45, 49, 50, 53, 50]) with
              | true =>
                have hx : x = strOfNums [119, 105, 110, 100, 111, 119, 115, 45, 49, 50, 53, 50] := str_of [119, 105, 110, 100, 111, 119, 115, 45, 49, 50, 53, 50] rfl e6
                have HS : Hid (nmS (setB x) = ⟨#[119, 105, 110, 100, 111, 119, 115, 45, 49, 50, 53, 50]⟩) := by unfold Hid; rw [hx]; kernel_rfl
                have HX : Hid (x = ⟨#[119, 105, 110, 100, 111, 119, 115, 45, 49, 50, 53, 50]⟩) := hx
                clear hx
                go_enter Tryd.func13, Tryd.ntmps13
                go_wp2_with (go_at_call 26; refine K.mono ?_; rintro e w' ⟨rfl, hb⟩)
                go_ret
                exact ⟨by rw [HS.out, HX.out]; rfl, hb⟩
              | false =>
                cases e7 : (x.toList == [117, 116, 102, 45, 49, 54]) with
                | true =>
                  have hx : x = strOfNums [117, 116, 102, 45, 49, 54] := str_of [117, 116, 102, 45, 49, 54] rfl e7
                  have HS : Hid (nmS (setB x) = ⟨#[117, 116, 102, 45, 49, 54]⟩) := by unfold Hid; rw [hx]; kernel_rfl
                  have HX : Hid (x = ⟨#[117, 116, 102, 45, 49, 54]⟩) := hx
                  clear hx
                  go_enter Tryd.func13, Tryd.ntmps13
                  go_wp2_with (go_at_call 26; refine K.mono ?_; rintro e w' ⟨rfl, hb⟩)
                  go_ret
                  exact ⟨by rw [HS.out, HX.out]; rfl, hb⟩
                | false =>
                  cases e8 : (x.toList == [117, 116, 102, 45, 49, 54, 98, 101]) with
                  | true =>
                    have hx : x = strOfNums [117, 116, 102, 45, 49, 54, 98, 101] := str_of [117, 116, 102, 45, 49, 54, 98, 101] rfl e8
                    have HS : Hid (nmS (setB x) = ⟨#[117, 116, 102, 45, 49, 54, 98, 101]⟩) := by unfold Hid; rw [hx]; kernel_rfl
                    have HX : Hid (x = ⟨#[117, 116, 102, 45, 49, 54, 98, 101]⟩) := hx
                    clear hx
                    go_enter Tryd.func13, Tryd.ntmps13
                    go_wp2_with (go_at_call 26; refine K.mono ?_; rintro e w' ⟨rfl, hb⟩)
                    go_ret
                    exact ⟨by rw [HS.out, HX.out]; rfl, hb⟩
                  | false =>
                    cases e9 : (x.toList == [117, 116, 102, 45, 49, 54, 108, 101]) with
                    | true =>
                      have hx : x = strOfNums [117, 116, 102, 45, 49, 54, 108, 101] := str_of [117, 116, 102, 45, 49, 54, 108, 101] rfl e9
                      have HS : Hid (nmS (setB x) = ⟨#[117, 116, 102, 45, 49, 54, 108, 101]⟩) := by unfold Hid; rw [hx]; kernel_rfl
                      have HX : Hid (x = ⟨#[117, 116, 102, 45, 49, 54, 108, 101]⟩) := hx
                      clear hx
                      go_enter Tryd.func13, Tryd.ntmps13
                      go_wp2_with (go_at_call 26; refine K.mono ?_; rintro e w' ⟨rfl, hb⟩)
                      go_ret
                      exact ⟨by rw [HS.out, HX.out]; rfl, hb⟩
                    | false =>
                      have HS : Hid (nmS (setB x) = ⟨#[]⟩) := by
                        unfold Hid setB
                        rw [if_neg (by rw [e2]; decide), if_neg (by rw [e0]; decide), if_neg (by rw [e3]; decide), if_neg (by rw [e4]; decide), if_neg (by rw [e1]; decide), if_neg (by rw [e5]; decide), if_neg (by rw [e6]; decide), if_neg (by rw [e7]; decide), if_neg (by rw [e8]; decide), if_neg (by rw [e9]; decide)]
                        rfl
                      go_enter Tryd.func13, Tryd.ntmps13
                      go_wp2_with (go_at_call 26; refine K.mono ?_; rintro e w' ⟨rfl, hb⟩)
                      go_ret
                      exact ⟨by rw [HS.out]; rfl, hb⟩
theorem lit_cell (w : World) (k : IntKind) (L : List Int) (t : TypeId) (j : Nat) (h : j < L.length) : (w.alloc (.cells (L.map (Value.int k)).toArray t)).cell? ⟨w.heap.size, j, none⟩ = some (.int k (L.getD j 0)) := by
  have := cells_new w (L.map (Value.int k)) t j (.int k (L.getD j 0)) (by rw [List.getElem?_map, List.getElem?_eq_getElem h, List.getD_eq_getElem?_getD, List.getElem?_eq_getElem h]; rfl)
  rwa [add_plain, Nat.zero_add] at this
def fromL : List Int := [164, 166, 168, 180, 184, 188, 189, 190]
def toL : List Int := [8364, 352, 353, 381, 382, 338, 339, 376]
/-- What a byte is in iso-8859-15. -/
def nineZ : List Int → List Int → Int → Int
  | a :: l, b :: m, c => if a = c then b else nineZ l m c
  | _, _, c => c
def nineB (n : Nat) : Bool := decide (nineZ fromL toL n = ptOf 4 n)
theorem nine_all : ∀ n < 256, nineB n = true := by decide +kernel
theorem nine_pt {c : Int} (h0 : 0 ≤ c) (h1 : c < 256) : nineZ fromL toL c = ptOf 4 c := by
  have := nine_all c.toNat (by omega)
  unfold nineB at this
  rw [show ((c.toNat : Nat) : Int) = c by omega] at this
  exact of_decide_eq_true this
theorem nine_drop : ∀ (l m : List Int) (c : Int) (k : Nat), (∀ j, j < k → l.getD j 0 ≠ c) → k ≤ l.length → k ≤ m.length → nineZ l m c = nineZ (l.drop k) (m.drop k) c
  | l, m, c, 0, _, _, _ => by simp
  | [], m, c, k + 1, _, h, _ => by simp at h
  | a :: l, [], c, k + 1, _, _, h => by simp at h
  | a :: l, b :: m, c, k + 1, hj, h, h' => by
    have h0 := hj 0 (by omega)
    simp at h0
    rw [nineZ, if_neg h0, nine_drop l m c k (fun j hj' => by have := hj (j + 1) (by omega); simpa using this) (by simpa using h) (by simpa using h'), List.drop_succ_cons, List.drop_succ_cons]
set_option maxRecDepth 100000 in
set_option maxHeartbeats 4000000 in
theorem nine_any (c : Int) (w : World) (h0 : 0 ≤ c) (h1 : c < 256) : Calls Tryd.prog 50 #[.int .i64 c] w fun e w' => e = .returned (.int .i32 (ptOf 4 c)) ∧ Below w.heap.size w w' := by
  obtain ⟨W, hW⟩ : ∃ W, (w.alloc (.cells #[.int .i64 164, .int .i64 166, .int .i64 168, .int .i64 180, .int .i64 184, .int .i64 188, .int .i64 189, .int .i64 190] 70)).alloc (.cells #[.int .i32 8364, .int .i32 352, .int .i32 353, .int .i32 381, .int .i32 382, .int .i32 338, .int .i32 339, .int .i32 376] 71) = W := ⟨_, rfl⟩
  have HF : Hid (∀ k, k < 8 → W.cell? ⟨w.heap.size, k, none⟩ = some (.int .i64 (fromL.getD k 0))) := by
    intro k hk
    rw [← hW, (keep (w.alloc _) _).cell (by simp)]
    exact lit_cell w .i64 fromL 70 k hk
  have HT : Hid (∀ k, k < 8 → W.cell? ⟨w.heap.size + 1, k, none⟩ = some (.int .i32 (toL.getD k 0))) := by
    intro k hk
    rw [← hW]
    have := lit_cell (w.alloc (.cells (fromL.map (Value.int .i64)).toArray 70)) .i32 toL 71 k hk
    have e : (w.alloc (.cells (fromL.map (Value.int .i64)).toArray 70)).heap.size = w.heap.size + 1 := by simp
    rw [e] at this
    exact this
  have HB : Hid (Below w.heap.size w W) := by rw [← hW]; exact (keep w _).alloc (by simp) _
  have HW : Hid ((w.alloc (.cells #[.int .i64 164, .int .i64 166, .int .i64 168, .int .i64 180, .int .i64 184, .int .i64 188, .int .i64 189, .int .i64 190] 70)).alloc (.cells #[.int .i32 8364, .int .i32 352, .int .i32 353, .int .i32 381, .int .i32 382, .int .i32 338, .int .i32 339, .int .i32 376] 71) = W) := hW
  clear hW
  have HP := nine_pt h0 h1
  obtain ⟨z, hz⟩ : ∃ z, ptOf 4 c = z := ⟨_, rfl⟩
  rw [hz] at HP ⊢
  have HPP : Hid (nineZ fromL toL c = z) := HP
  clear HP hz
  go_enter Tryd.func50, Tryd.ntmps50
  go_wp2
  rw [HW.out]
  go_loopw [5] (fun i wr => ∃ k : Nat, i = .int .i64 k ∧ k ≤ 8 ∧ (∀ j, j < k → fromL.getD j 0 ≠ c) ∧ wr = W) (fun i _ => 8 - (intOf i).toNat)
  case atStart => exact ⟨0, rfl, by omega, fun j hj => by omega, rfl⟩
  case round =>
    obtain ⟨k, rfl, hk, hno, rfl⟩ := hrel
    have HNO : Hid (∀ j, j < k → fromL.getD j 0 ≠ c) := hno
    clear hno
    by_cases hlt : k < 8
    · have f0 := HF.out k hlt
      have t0 := HT.out k hlt
      obtain ⟨x, hx⟩ : ∃ x, fromL.getD k 0 = x := ⟨_, rfl⟩
      obtain ⟨y, hy⟩ : ∃ y, toL.getD k 0 = y := ⟨_, rfl⟩
      rw [hx] at f0
      rw [hy] at t0
      have HX : Hid (fromL.getD k 0 = x) := hx
      have HY : Hid (toL.getD k 0 = y) := hy
      clear hx hy
      by_cases hxc : x = c
      · subst hxc
        have HR : Hid (y = z) := by
          unfold Hid
          rw [← HPP.out, nine_drop fromL toL x k HNO.out (show k ≤ 8 from hk) (show k ≤ 8 from hk), List.drop_eq_getElem_cons (l := fromL) (i := k) (show k < 8 from hlt), List.drop_eq_getElem_cons (l := toL) (i := k) (show k < 8 from hlt)]
          have e1 : fromL[k]'(show k < 8 from hlt) = x := by have := HX.out; rw [List.getD_eq_getElem?_getD, List.getElem?_eq_getElem (show k < 8 from hlt)] at this; simpa using this
          have e2 : toL[k]'(show k < 8 from hlt) = y := by have := HY.out; rw [List.getD_eq_getElem?_getD, List.getElem?_eq_getElem (show k < 8 from hlt)] at this; simpa using this
          rw [e1, e2, nineZ, if_pos rfl]
        go_wp2
        go_ret
        exact ⟨ret_int HR.out, HB.out⟩
      · have bx : (x == c) = false := by simpa using hxc
        go_wp2
        go_roundw
        case rel => exact ⟨k + 1, by go_num, by omega, fun j hj => by
          rcases Nat.lt_or_ge j k with h | h
          · exact HNO.out j h
          · rw [show j = k by omega, HX.out]; exact hxc, trivial⟩
        case measure => simp [intOf]; omega
    · obtain rfl : k = 8 := by omega
      have HR : Hid (c = z) := by
        unfold Hid
        rw [← HPP.out, nine_drop fromL toL c 8 HNO.out (by simp [fromL]) (by simp [toL])]
        rfl
      have hw : IntKind.i32.wrap c = c := by rw [IntKind.wrap_i32]; omega
      go_wp2
      go_ret
      exact ⟨ret_int HR.out, HB.out⟩
def winL1 : List Int := [8364, 0, 8218, 402, 8222, 8230, 8224, 8225, 710, 8240, 352, 8249, 338, 0, 381, 0]
def winL2 : List Int := [0, 8216, 8217, 8220, 8221, 8226, 8211, 8212, 732, 8482, 353, 8250, 339, 0, 382, 376]
/-- What a byte from 128 to 159 is in windows-1252; 0: none. -/
def winZ (c : Int) : Int := if c < 144 then winL1.getD (c - 128).toNat 0 else winL2.getD (c - 144).toNat 0
def winB (n : Nat) : Bool := decide ((if 0 < winZ (128 + n) then winZ (128 + n) else -1) = ptOf 5 (128 + n))
theorem win_all : ∀ n < 32, winB n = true := by decide +kernel
theorem win_pt {c : Int} (h0 : 128 ≤ c) (h1 : c < 160) : (if 0 < winZ c then winZ c else -1) = ptOf 5 c := by
  have := win_all (c - 128).toNat (by omega)
  unfold winB at this
  rw [show (128 : Int) + ((c - 128).toNat : Nat) = c by omega] at this
  exact of_decide_eq_true this
set_option maxRecDepth 100000 in
set_option maxHeartbeats 4000000 in
theorem win_1 (c : Int) (w : World) (h0 : 128 ≤ c) (h1 : c < 144) : Calls Tryd.prog 51 #[.int .i64 c] w fun e w' => e = .returned (.int .i32 (winZ c)) ∧ Below w.heap.size w w' := by
  have hcell : (w.alloc (.cells #[.int .i32 8364, .int .i32 0, .int .i32 8218, .int .i32 402, .int .i32 8222, .int .i32 8230, .int .i32 8224, .int .i32 8225, .int .i32 710, .int .i32 8240, .int .i32 352, .int .i32 8249, .int .i32 338, .int .i32 0, .int .i32 381, .int .i32 0] 72)).cell? ⟨w.heap.size, (c - 128).toNat, none⟩ = some (.int .i32 (winL1.getD (c - 128).toNat 0)) := by
    exact lit_cell w .i32 winL1 72 (c - 128).toNat (show (c - 128).toNat < 16 by omega)
  have HS : Hid (winZ c = winL1.getD (c - 128).toNat 0) := by unfold Hid winZ; rw [if_pos h1]
  have hi : ((c - 128).toNat : Int) = c - 128 := by omega
  obtain ⟨z, hz⟩ : ∃ z, winL1.getD (c - 128).toNat 0 = z := ⟨_, rfl⟩
  rw [hz] at hcell HS
  clear hz
  go_enter Tryd.func51, Tryd.ntmps51
  go_wp2
  go_ret
  exact ⟨ret_int HS.out.symm, keep _ _⟩
set_option maxRecDepth 100000 in
set_option maxHeartbeats 4000000 in
theorem win_2 (c : Int) (w : World) (h0 : 144 ≤ c) (h1 : c < 160) : Calls Tryd.prog 51 #[.int .i64 c] w fun e w' => e = .returned (.int .i32 (winZ c)) ∧ Below w.heap.size w w' := by
  have hcell : (w.alloc (.cells #[.int .i32 0, .int .i32 8216, .int .i32 8217, .int .i32 8220, .int .i32 8221, .int .i32 8226, .int .i32 8211, .int .i32 8212, .int .i32 732, .int .i32 8482, .int .i32 353, .int .i32 8250, .int .i32 339, .int .i32 0, .int .i32 382, .int .i32 376] 72)).cell? ⟨w.heap.size, (c - 144).toNat, none⟩ = some (.int .i32 (winL2.getD (c - 144).toNat 0)) := by
    exact lit_cell w .i32 winL2 72 (c - 144).toNat (show (c - 144).toNat < 16 by omega)
  have HS : Hid (winZ c = winL2.getD (c - 144).toNat 0) := by unfold Hid winZ; rw [if_neg (by omega)]
  have hi : ((c - 144).toNat : Int) = c - 144 := by omega
  obtain ⟨z, hz⟩ : ∃ z, winL2.getD (c - 144).toNat 0 = z := ⟨_, rfl⟩
  rw [hz] at hcell HS
  clear hz
  go_enter Tryd.func51, Tryd.ntmps51
  go_wp2
  go_ret
  exact ⟨ret_int HS.out.symm, keep _ _⟩
theorem win_any (c : Int) (w : World) (h0 : 128 ≤ c) (h1 : c < 160) : Calls Tryd.prog 51 #[.int .i64 c] w fun e w' => e = .returned (.int .i32 (winZ c)) ∧ Below w.heap.size w w' := by
  by_cases h : c < 144
  · exact win_1 c w h0 h
  · exact win_2 c w (by omega) h1
end Go.Proofs.YtlhhbmolkiojfaaDoor
