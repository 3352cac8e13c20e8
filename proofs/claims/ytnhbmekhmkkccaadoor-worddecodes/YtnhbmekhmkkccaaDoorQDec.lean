/-
  The contract of Decode.
-/
import Derived.Test.YtnhbmekhmkkccaaDoorQNext
namespace Go.Proofs.YtnhbmekhmkkccaaDoor.Qu
open Go.RowKit
set_option linter.unusedVariables false

/-- What Decode answers. -/
def DecR (x : Res) (v : Value) (fa fc : Int) (w : World) : Prop :=
  match x with
  | .error e => v = .slice none 0 0 ∧ fa = (e.1 : Nat) ∧ fc = e.2
  | .ok l => ∃ a cap, v = .slice a l.length cap ∧ l.length ≤ cap ∧ cap ≤ maxLen ∧ Row w a l ∧ fa = 0 ∧ fc = 0
theorem fset2 {X : World} {f : Nat} {a b x y : Value} (h : X.heap[f]? = some (.cells #[a, b] 48 (0, 0))) : ((X.setCell ⟨f, 0, none⟩ x).setCell ⟨f, 1, none⟩ y).heap[f]? = some (.cells #[x, y] 48 (0, 0)) :=
  heap_setCell_same _ f 1 #[x, b] 48 y (heap_setCell_same X f 0 #[a, b] 48 x h)
theorem own_other {w : World} {B : Nat} {e : TypeId} {v : Value} {n : Nat} {xs : List Value} {f o : Nat} {u : Value} (hf : f < B) (h : w.ownsRow B e 1 v n xs) : (w.setCell ⟨f, o, none⟩ u).ownsRow B e 1 v n xs := by
  refine ⟨h.1, ?_⟩
  rcases h.2 with h | ⟨g, cap, cur, h1, h2, h3, h4⟩
  · exact .inl h
  · refine .inr ⟨g, cap, cur, h1, h2, ?_, h4⟩
    rw [heap_setCell_other _ _ _ _ (by simp; omega)]
    exact h3
theorem ends_at (s : ByteArray) (b k t : Nat) (w : World) (hc : w.cell? ⟨b, 0, none⟩ = some (.string s)) (hk : k + t ≤ s.size) (hs : s.size ≤ 100000000) :
    Calls Tryd.prog 98 #[.int .i64 ((k : Int) + t), .pointer (some ⟨b, 0, none⟩)] w fun e w' => e = .returned (.bool (lastQ (((nums s).drop k).drop t))) ∧ w = w' := by
  rw [List.drop_drop]
  exact ends_any s b (k + t) w hc hk hs

set_option maxRecDepth 100000 in
set_option maxHeartbeats 8000000 in
theorem decode_any (s : ByteArray) (w : World) (hs : s.size ≤ 4194304) :
    Calls Tryd.prog 90 #[.string s] w fun e w' => ∃ v fa fc, e = .returned (.tuple #[v, .agg #[.int .i64 fa, .int .i64 fc]]) ∧ Below w.heap.size w w' ∧ DecR (decQ 0 0 (nums s)) v fa fc w' := by
  obtain ⟨j0, hi, hz0, hz1, hz2⟩ := info_parts Tryd.info5
  go_enter Tryd.func90, Tryd.ntmps90
  go_wp2_with fail
  refine (lineEnds_some _ _).mono ?_
  rintro e w1 ⟨b, rfl, hc1, hb1⟩
  have HF1 : Hid (w1.heap[w.heap.size]? = some (.cells #[.int .i64 0, .int .i64 0] 48 (0, 0))) := (hb1.block w.heap.size (by simp)).trans (heap_alloc_new _ _)
  have HB1 : Hid (Below w.heap.size w w1) := (keep w _).trans (hb1.mono (by simp))
  have HC1 : Hid (w1.cell? ⟨b, 0, none⟩ = some (.string s)) := hc1
  have hlt1 : w.heap.size < w1.heap.size := (Array.getElem?_eq_some_iff.1 HF1.out).1
  clear hb1 hc1
  go_wp2_with (at_make; refine wpList_make_own _ rfl _ _ 31 rfl w1.heap.size 5 j0 (.int .u8 0) 1 Tryd.underlying31 hi hz0 hz1 _ _ _ s.size rfl rfl rfl ?m1 ?m2 (Nat.le_refl _) ?_)
  case m1 => rw [hz2]; omega
  case m2 => unfold maxLen; omega
  intro wm hownm hgrowm
  have HBM : Hid (Below w1.heap.size w1 wm) := (Below.refl _ _).grown hgrowm (Nat.le_refl _) (by intro k hk; cases hk)
  have HOM : Hid (wm.ownsRow w1.heap.size 5 1 (.slice (some ⟨w1.heap.size, 0, none⟩) 0 s.size) 0 []) := hownm
  clear hownm hgrowm
  go_wp2
  go_loopw [5, 6] (fun v i wr => ∃ (k : Nat) (pre : List Int), i = .int .i64 k ∧ k ≤ s.size ∧ pre.length ≤ k ∧ decQ 0 0 (nums s) = preQ pre (decQ 0 k ((nums s).drop k)) ∧ wr.ownsRow w1.heap.size 5 1 v pre.length (pre.map (Value.int .u8)) ∧ Below w1.heap.size w1 wr) (fun _ i _ => s.size - (intOf i).toNat)
  case atStart => exact ⟨0, [], rfl, by omega, by simp, by rw [pre_nil]; rfl, HOM.out, HBM.out⟩
  case round =>
    clear HBM HOM
    obtain ⟨k, pre, rfl, hk, hpl, hdec, hown, hbel⟩ := hrel
    have HDC : Hid (decQ 0 0 (nums s) = preQ pre (decQ 0 k ((nums s).drop k))) := hdec
    have HW : Hid (Below w1.heap.size w1 wr) := hbel
    have HO : Hid (wr.ownsRow w1.heap.size 5 1 u5 pre.length (pre.map (Value.int .u8))) := hown
    have hsz : w1.heap.size ≤ wr.heap.size := hbel.size
    clear hdec hbel hown
    by_cases hlt : k < s.size
    · have hd := nums_drop s k hlt
      obtain ⟨c, hc⟩ : ∃ c : Int, (s[k].toNat : Int) = c := ⟨_, rfl⟩
      have hcb : 0 ≤ c ∧ c < 256 := by have := s[k].toNat_lt; omega
      rw [hc] at hd
      obtain ⟨r, hr⟩ : ∃ r, (nums s).drop (k + 1) = r := ⟨_, rfl⟩
      rw [hr] at hd
      have hrl : r.length + 1 + k = s.size := by
        have := congrArg List.length hd
        rw [List.length_drop, nums_len] at this
        simp at this; omega
      have HD : Hid ((nums s).drop k = c :: r) := hd
      have hnx : ∀ W : World, Calls Tryd.prog 96 #[.string (s.extract k s.size)] W fun e w' => ∃ x t z, e = .returned (.tuple #[.string (strOfNums x), .int .i64 ((t : Nat) : Int), .int .i64 z]) ∧ Nx (c :: r) x t z ∧ Below W.heap.size W w' := fun W =>
        next_any (s.extract k s.size) c r W (by rw [nums_from, hd]) (by simp; omega)
      clear hd hr
      go_wp2_with fail
      refine (hnx _).mono ?_
      rintro e w2 ⟨x, t, z, rfl, hx, hb2⟩
      have HB2 : Hid (Below w1.heap.size w1 w2) := HW.out.trans (hb2.mono hsz)
      have HO2 : Hid (w2.ownsRow w1.heap.size 5 1 u5 pre.length (pre.map (Value.int .u8))) := own_keep HO.out hb2
      have hs2 : w1.heap.size ≤ w2.heap.size := HB2.out.size
      have hF2 : w2.heap[w.heap.size]? = some (.cells #[.int .i64 0, .int .i64 0] 48 (0, 0)) := (HB2.out.block w.heap.size hlt1).trans HF1.out
      have HC2 : Hid (w2.cell? ⟨b, 0, none⟩ = some (.string s)) := by
        have := World.block_lt_of_cell? w1 _ HC1.out
        unfold Hid; rw [HB2.out.cell this]; exact HC1.out
      clear hb2 hnx
      rcases hx with ⟨rfl, ht1, ht2, hxl, hxb, hx⟩ | ⟨hz, hx⟩
      · have hxs : (strOfNums x).size = x.length := size_str x
        have HXB : Hid (Byt x) := hxb
        have hkt : k + t ≤ s.size := by simp at ht2; omega
        have hdr : ((nums s).drop k).drop t = (c :: r).drop t := by rw [HD.out]
        have e2 : (nums s).drop (k + t) = (c :: r).drop t := by rw [← List.drop_drop]; exact hdr
        clear hxb ht2
        by_cases hbl : c = 32 ∨ c = 9
        · have hkb : decide (c = 32 ∨ c = 9) = true := by simpa using hbl
          have hhd : decide ((c :: r).head? = some 32 ∨ (c :: r).head? = some 9) = true := by simpa using hbl
          cases hla0 : lastQ ((c :: r).drop t) with
          | true =>
            have HEQ : Hid (decQ 0 0 (nums s) = preQ pre (decQ 0 (k + t) ((nums s).drop (k + t)))) := by
              unfold Hid
              rw [HDC.out, HD.out, hx k, hhd, hla0, e2]
              simp [pre_nil]
            have hla : lastQ (((nums s).drop k).drop t) = true := by rw [hdr]; exact hla0
            clear hx hF2 hbl hla0 hdr e2 hhd
            go_wp2_with (first
              | (go_at_call 97; refine (isBlank_any _ _).mono ?_; rintro e w' ⟨rfl, rfl⟩; rw [hkb])
              | (go_at_call 98; refine (ends_at s b k t _ HC2.out (by omega) (by omega)).mono ?_; rintro e w' ⟨rfl, rfl⟩; rw [hla]))
            go_roundw
            case rel => exact ⟨k + t, pre, by go_num, by omega, by omega, HEQ.out, HO2.out, HB2.out⟩
            case measure => simp [intOf]; omega
          | false =>
            have HEQ : Hid (decQ 0 0 (nums s) = preQ (pre ++ x) (decQ 0 (k + t) ((nums s).drop (k + t)))) := by
              unfold Hid
              rw [HDC.out, HD.out, hx k, hhd, hla0, e2]
              simp [pre_pre]
            have hla : lastQ (((nums s).drop k).drop t) = false := by rw [hdr]; exact hla0
            clear hla0 hdr e2 hhd
            clear hx hF2 hbl
            go_wp2_with (first
              | (go_at_call 97; refine (isBlank_any _ _).mono ?_; rintro e w' ⟨rfl, rfl⟩; rw [hkb])
              | (go_at_call 98; refine (ends_at s b k t _ HC2.out (by omega) (by omega)).mono ?_; rintro e w' ⟨rfl, rfl⟩; rw [hla])
              | (at_builtin; refine Lib.wpList_append_own_string _ rfl (.tmp 49) (.tmp 50) 31 9 rfl w1.heap.size 5 j0 Tryd.underlying31 Tryd.underlying9 hi hz0 hz1 hz2 _ _ _ rfl HO2.out (strOfNums x) rfl ?a1 ?a2 ?a3 ?_))
            case a1 => unfold maxLen; omega
            case a2 => omega
            case a3 => omega
            intro v3 w3 hown3 hgrow3 _
            have HB3 : Hid (Below w1.heap.size w1 w3) := HB2.out.grown hgrow3 hs2 (fun k hk => (HO2.out.lt k hk).1)
            have HO3 : Hid (w3.ownsRow w1.heap.size 5 1 v3 (pre ++ x).length ((pre ++ x).map (Value.int .u8))) := own_str HXB.out (by simpa only [hxs] using hown3)
            clear hown3 hgrow3
            go_wp2
            go_roundw
            case rel => exact ⟨k + t, pre ++ x, by go_num, by omega, by rw [List.length_append]; omega, HEQ.out, HO3.out, HB3.out⟩
            case measure => simp [intOf]; omega
        · have hkb : decide (c = 32 ∨ c = 9) = false := by simpa using hbl
          have hhd : decide ((c :: r).head? = some 32 ∨ (c :: r).head? = some 9) = false := by simpa using hbl
          have HEQ : Hid (decQ 0 0 (nums s) = preQ (pre ++ x) (decQ 0 (k + t) ((nums s).drop (k + t)))) := by
            unfold Hid
            rw [HDC.out, HD.out, hx k, hhd, e2]
            simp [pre_pre]
          have hla : True := trivial
          clear hdr e2 hhd
          clear hx hF2 hbl
          go_wp2_with (first
            | (go_at_call 97; refine (isBlank_any _ _).mono ?_; rintro e w' ⟨rfl, rfl⟩; rw [hkb])
            | (go_at_call 98; refine (ends_at s b k t _ HC2.out (by omega) (by omega)).mono ?_; rintro e w' ⟨rfl, rfl⟩)
            | (at_builtin; refine Lib.wpList_append_own_string _ rfl (.tmp 49) (.tmp 50) 31 9 rfl w1.heap.size 5 j0 Tryd.underlying31 Tryd.underlying9 hi hz0 hz1 hz2 _ _ _ rfl HO2.out (strOfNums x) rfl ?a1 ?a2 ?a3 ?_))
          case a1 => unfold maxLen; omega
          case a2 => omega
          case a3 => omega
          intro v3 w3 hown3 hgrow3 _
          have HB3 : Hid (Below w1.heap.size w1 w3) := HB2.out.grown hgrow3 hs2 (fun k hk => (HO2.out.lt k hk).1)
          have HO3 : Hid (w3.ownsRow w1.heap.size 5 1 v3 (pre ++ x).length ((pre ++ x).map (Value.int .u8))) := own_str HXB.out (by simpa only [hxs] using hown3)
          clear hown3 hgrow3
          go_wp2
          go_roundw
          case rel => exact ⟨k + t, pre ++ x, by go_num, by omega, by rw [List.length_append]; omega, HEQ.out, HO3.out, HB3.out⟩
          case measure => simp [intOf]; omega
      · have hzb : (z == 0) = false := by rw [beq_eq_false_iff_ne]; omega
        have HER : Hid (decQ 0 0 (nums s) = .error (k, z)) := by unfold Hid; rw [HDC.out, HD.out, hx]; rfl
        have c0 : w2.cell? ⟨w.heap.size, 0, none⟩ = some (.int .i64 0) := by rw [cell_of_row w2 _ _ _ _ _ hF2]; rfl
        have c1 : w2.cell? ⟨w.heap.size, 1, none⟩ = some (.int .i64 0) := by rw [cell_of_row w2 _ _ _ _ _ hF2]; rfl
        have z0 : w2.frozen? ⟨w.heap.size, 0, none⟩ = false := frozen_of_row w2 _ _ _ _ hF2
        have z1 : w2.frozen? ⟨w.heap.size, 1, none⟩ = false := frozen_of_row w2 _ _ _ _ hF2
        have HBW : Hid (Below w.heap.size w w2) := HB1.out.trans (HB2.out.mono HB1.out.size)
        clear hx hF2
        go_wp2
        exact bodyPost_ret (v := .tuple #[.slice none 0 0, .agg #[.int .i64 k, .int .i64 z]]) (by simp [results, Tryd.results90, go_sem, c0, c1]) rfl
          ⟨_, _, _, rfl, (HBW.out.setCell (p := ⟨w.heap.size, 0, none⟩) (Nat.le_refl _) _).setCell (p := ⟨w.heap.size, 1, none⟩) (Nat.le_refl _) _, by rw [HER.out]; exact ⟨rfl, rfl, rfl⟩⟩
    · obtain rfl : k = s.size := by omega
      have hF2 : wr.heap[w.heap.size]? = some (.cells #[.int .i64 0, .int .i64 0] 48 (0, 0)) := (HW.out.block w.heap.size hlt1).trans HF1.out
      have HER : Hid (decQ 0 0 (nums s) = .ok pre) := by unfold Hid; rw [HDC.out, List.drop_of_length_le (by rw [nums_len]; omega)]; simp [decQ, preQ]
      have c0 : wr.cell? ⟨w.heap.size, 0, none⟩ = some (.int .i64 0) := by rw [cell_of_row wr _ _ _ _ _ hF2]; rfl
      have c1 : wr.cell? ⟨w.heap.size, 1, none⟩ = some (.int .i64 0) := by rw [cell_of_row wr _ _ _ _ _ hF2]; rfl
      have z0 : wr.frozen? ⟨w.heap.size, 0, none⟩ = false := frozen_of_row wr _ _ _ _ hF2
      have z1 : wr.frozen? ⟨w.heap.size, 1, none⟩ = false := frozen_of_row wr _ _ _ _ hF2
      have HBW : Hid (Below w.heap.size w wr) := HB1.out.trans (HW.out.mono HB1.out.size)
      obtain ⟨a8, cap8, hv, hc8, hm8, hrow8, hn8⟩ := own_row' (own_other (f := w.heap.size) (o := 1) (u := .int .i64 0) hlt1 (own_other (f := w.heap.size) (o := 0) (u := .int .i64 0) hlt1 HO.out))
      subst hv
      have HR8 : Hid (Row ((wr.setCell ⟨w.heap.size, 0, none⟩ (.int .i64 0)).setCell ⟨w.heap.size, 1, none⟩ (.int .i64 0)) a8 pre) := hrow8
      clear hF2 hrow8
      go_wp2
      exact bodyPost_ret (v := .tuple #[.slice a8 pre.length cap8, .agg #[.int .i64 0, .int .i64 0]]) (by simp [results, Tryd.results90, go_sem, c0, c1]) rfl
        ⟨_, _, _, rfl, (HBW.out.setCell (p := ⟨w.heap.size, 0, none⟩) (Nat.le_refl _) _).setCell (p := ⟨w.heap.size, 1, none⟩) (Nat.le_refl _) _, by rw [HER.out]; exact ⟨a8, cap8, rfl, hc8, hm8, HR8.out, rfl, rfl⟩⟩
end Go.Proofs.YtnhbmekhmkkccaaDoor.Qu
