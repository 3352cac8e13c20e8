/-
  The reference's Write.
-/
import Derived.Test.YtnpjffpioimcdaaDoorRef3
namespace Go.Proofs.YtnpjffpioimcdaaDoor
open Go.RowKit
set_option linter.unusedVariables false

set_option maxRecDepth 100000 in
set_option maxHeartbeats 16000000 in
theorem rwrite_any (a : Option Addr) (len cap : Nat) (fs : List (ByteArray × ByteArray)) (w : World) (hn : fs.length = len) (hbig : len ≤ 9223372036854775807) (hr : FRow w a fs) (hszf : ∀ f ∈ fs, f.1.size ≤ 100000000 ∧ f.2.size ≤ 100000000) (wc : Int) (hwc : writeC fs = wc) :
    Calls Tryd.prog 15 #[.slice a len cap] w fun e w' => ∃ v, e = .returned (.tuple #[v, .int .i64 wc]) ∧ Own w' w.heap.size v (writeB fs) ∧ Below w.heap.size w w' := by
  obtain ⟨j0, hi, hz0, hz1, hz2⟩ := info_parts Tryd.info5
  have HR : Hid (FRow w a fs) := hr
  have HSZ : Hid (∀ f ∈ fs, f.1.size ≤ 100000000 ∧ f.2.size ≤ 100000000) := hszf
  have HWC : Hid (writeC fs = wc) := hwc
  clear hr hszf hwc
  by_cases h128 : 128 < len
  · have hd : decide ((len : Int) > 128) = true := by simp; omega
    have HC : Hid (writeC fs = 2 ∧ writeB fs = []) := by
      have h : writeC fs = 2 := by unfold writeC; rw [hn, if_pos h128]
      exact ⟨h, by unfold writeB; rw [h]; rfl⟩
    obtain rfl : wc = 2 := by rw [← HWC.out, HC.out.1]
    go_enter Tryd.func15, Tryd.ntmps15
    go_wp2
    go_ret2
    exact ⟨_, rfl, by rw [HC.out.2]; exact World.ownsRow_nil _ _ _ _, Below.refl _ _⟩
  have hd : decide ((len : Int) > 128) = false := by simp; omega
  go_enter Tryd.func15, Tryd.ntmps15
  go_wp2
  go_loopw [4, 5, 6] (fun v lg i wr => ∃ k : Nat, i = .int .i64 k ∧ k ≤ len ∧ (fs.take k).all okF = true ∧ lg = .bool (longW (fs.take k)) ∧ Own wr w.heap.size v (outW (fs.take k)) ∧ Below w.heap.size w wr) (fun _ _ i _ => len - (intOf i).toNat)
  case atStart => exact ⟨0, rfl, by omega, by simp, rfl, World.ownsRow_nil _ _ _ _, Below.refl _ _⟩
  case round =>
    obtain ⟨k, rfl, hk, hall, rfl, ho, hb⟩ := hrel
    have HA : Hid ((fs.take k).all okF = true) := hall
    have HB : Hid (Below w.heap.size w wr) := hb
    have hsw : w.heap.size ≤ wr.heap.size := hb.size
    have hrw := HR.out.below hb
    have hacc : (outW (fs.take k)).length ≤ 1598464 := by
      have h1 := outW_sum (fs.take k) hall
      have h2 : (fs.take k).length ≤ 128 := by simp; omega
      omega
    clear hall hb
    by_cases hlt : k < len
    · have hdk : decide ((k : Int) < (len : Int)) = true := by simp; omega
      obtain ⟨f, hfk⟩ : ∃ f, fs[k]? = some f := ⟨_, List.getElem?_eq_getElem (by omega)⟩
      have hfs := HSZ.out f (List.mem_of_getElem? hfk)
      have HTK : Hid (fs.take (k + 1) = fs.take k ++ [f]) := by unfold Hid; rw [List.take_add_one, hfk]; rfl
      have HNO : Hid (okF f = false → writeC fs = 50 ∧ writeB fs = []) := fun h => by
        have h1 : fs.all okF = false := by
          rw [List.all_eq_false]
          exact ⟨f, List.mem_of_getElem? hfk, by rw [h]; simp⟩
        have h2 : writeC fs = 50 := by unfold writeC; rw [hn, if_neg h128, if_pos h1]
        exact ⟨h2, by unfold writeB; rw [h2]; rfl⟩
      obtain ⟨nm, vl⟩ := f
      rcases hrw with h | ⟨b, off, rfl, h⟩
      · rw [h] at hn; simp at hn; omega
      obtain ⟨hc1, hc2⟩ := h k _ hfk
      clear h hfk
      simp only at hc1 hc2 hfs
      cases hnm : nameZ (nums nm) with
      | false =>
        have HF : Hid (writeC fs = 50 ∧ writeB fs = []) := HNO.out (by simp [okF, hnm])
        obtain rfl : wc = 50 := by rw [← HWC.out, HF.out.1]
        go_wp2_with (go_at_call 27; refine (rName_any nm _ (by omega)).mono ?_; rintro e w' ⟨rfl, rfl⟩; rw [hnm])
        go_ret2
        exact ⟨_, rfl, by rw [HF.out.2]; exact World.ownsRow_nil _ _ _ _, HB.out⟩
      | true =>
        cases hvl : valueZ (nums vl) with
        | false =>
          have HF : Hid (writeC fs = 50 ∧ writeB fs = []) := HNO.out (by simp [okF, hvl])
          obtain rfl : wc = 50 := by rw [← HWC.out, HF.out.1]
          go_wp2_with (first | (go_at_call 27; refine (rName_any nm _ (by omega)).mono ?_; rintro e w' ⟨rfl, rfl⟩; rw [hnm]) | (go_at_call 31; refine (rValue_any vl _ (by omega)).mono ?_; rintro e w' ⟨rfl, rfl⟩; rw [hvl]))
          go_ret2
          exact ⟨_, rfl, by rw [HF.out.2]; exact World.ownsRow_nil _ _ _ _, HB.out⟩
        | true =>
          have hok : okF (nm, vl) = true := by simp [okF, hnm, hvl]
          have hfb := okF_bounds hok
          simp only at hfb
          have HTA : Hid ((fs.take (k + 1)).all okF = true) := by unfold Hid; rw [HTK.out, List.all_append, HA.out]; simp [hok]
          have HFE0 := linesW_sum hok
          obtain ⟨acc, hae⟩ : ∃ acc, outW (fs.take k) = acc := ⟨_, rfl⟩
          rw [hae] at hacc ho
          have HAE : Hid (outW (fs.take k) = acc) := hae
          have HO : Hid (Own wr w.heap.size u4 acc) := ho
          obtain ⟨FL, hFL⟩ : ∃ FL, linesW (nm, vl) = FL := ⟨_, rfl⟩
          rw [hFL] at HFE0
          have HFE : Hid ((endW FL).length ≤ 12488) := HFE0
          have HLW : Hid (linesW (nm, vl) = FL) := hFL
          clear hae ho hFL HFE0 hok HNO
          by_cases hv : vl.toList = []
          · have hq : (vl.toList == ([] : List UInt8)) = true := by simp [hv]
            have hvn : nums vl = [] := by rw [nums, ← ByteArray.toList_eq, hv]; rfl
            obtain ⟨t0, ht0⟩ : ∃ t0, nm ++ (⟨#[58]⟩ : ByteArray) = t0 := ⟨_, rfl⟩
            have HT0 : Hid (FL = foldL (nm.size + 2) (nums t0) ∧ t0.size ≤ 10000) := by
              rw [← ht0]
              refine ⟨?_, ?_⟩
              · rw [← HLW.out, linesW, nums_append, hvn]; simp [fieldL]; rfl
              · rw [size_append]; have : (⟨#[58]⟩ : ByteArray).size = 1 := rfl; omega
            clear hvn
            go_wp2_with (first | (go_at_call 27; refine (rName_any nm _ (by omega)).mono ?_; rintro e w' ⟨rfl, rfl⟩; rw [hnm]) | (go_at_call 31; refine (rValue_any vl _ (by omega)).mono ?_; rintro e w' ⟨rfl, rfl⟩; rw [hvl]))
            clear ht0
            go_loopw [4, 5, 7, 8] (fun v lg t fr wr => ∃ (ls : List (List Int)) (tt : ByteArray) (first : Nat) (bl : Bool), t = .string tt ∧ fr = .int .i64 ((first : Int) + 1) ∧ first ≤ 76 ∧ tt.size ≤ 10000 ∧ FL = ls ++ foldL first (nums tt) ∧ lg = .bool bl ∧ (longW (fs.take k) || ls.any (fun l => decide (998 < l.length))) = bl ∧ Own wr w.heap.size v (acc ++ endW ls) ∧ Below w.heap.size w wr) (fun _ _ t _ _ => szOf t)
            case atStart => exact ⟨[], t0, nm.size + 2, longW (fs.take k), rfl, by go_num, by omega, HT0.out.2, by rw [HT0.out.1]; rfl, rfl, by simp, by simpa [endW] using HO.out, HB.out⟩
            case round =>
              obtain ⟨ls, tt, first, bl, rfl, rfl, hf, hts, hx, rfl, hbl, how, hbb⟩ := hrel
              have HX : Hid (FL = ls ++ foldL first (nums tt)) := hx
              have HBL : Hid ((longW (fs.take k) || ls.any (fun l => decide (998 < l.length))) = bl) := hbl
              have HOW : Hid (Own wr w.heap.size u4 (acc ++ endW ls)) := how
              have HB2 : Hid (Below w.heap.size w wr) := hbb
              have hsz : w.heap.size ≤ wr.heap.size := hbb.size
              have hels : (endW ls).length ≤ 12488 := by
                have h := HFE.out
                rw [HX.out] at h
                have e : endW (ls ++ foldL first (nums tt)) = endW ls ++ endW (foldL first (nums tt)) := by simp [endW]
                rw [e, List.length_append] at h
                omega
              clear hx hbl how hbb
              by_cases h76 : 76 < tt.size
              · have hd7 : decide ((tt.size : Int) > 76) = true := by simp; omega
                have hP := place_any tt (first + 1) wr (by omega) (by omega)
                rw [show (((first + 1 : Nat)) : Int) = (first : Int) + 1 from by omega] at hP
                have hpf := plA_fold (l := nums tt) hf (by rw [nums_len]; exact h76)
                rw [nums_len] at hpf
                cases hz : foldZ first (nums tt) with
                | none =>
                  have hneg := hpf.2 hz
                  obtain ⟨pa, hpa⟩ : ∃ pa, plA (nums tt) (first + 1) tt.size = pa := ⟨_, rfl⟩
                  rw [hpa] at hneg hP
                  have hdn : decide (pa < 0) = true := by simpa using hneg
                  clear hpf hpa
                  have HFIN : Hid (FL = ls ++ [nums tt]) := by unfold Hid; rw [HX.out, foldL_none hz]
                  have hcase : (bl = true) ∨ (bl = false ∧ 998 < tt.size) ∨ (bl = false ∧ ¬ 998 < tt.size) := by cases bl <;> simp; omega
                  obtain ⟨fl, hfl⟩ : ∃ fl, acc ++ endW ls = fl := ⟨_, rfl⟩
                  rw [hfl] at HOW
                  have HFL : Hid (acc ++ endW ls = fl) := hfl
                  have hflb : fl.length ≤ 2000000 := by rw [← hfl, List.length_append]; omega
                  have OW0 : Hid (Own wr w.heap.size u4 fl) := HOW.out
                  have HZ1 : Hid (tt.size ≤ 10000) := hts
                  have HLN : Hid (longW (fs.take (k + 1)) = (bl || decide (998 < tt.size))) := by
                    unfold Hid
                    rw [HTK.out, longW_snoc, HLW.out, HFIN.out, List.any_append, ← Bool.or_assoc, HBL.out]
                    simp [nums_len]
                  have HON : Hid (outW (fs.take (k + 1)) = fl ++ nums tt ++ [13, 10]) := by
                    unfold Hid
                    rw [HTK.out, outW_snoc, HAE.out, HLW.out, HFIN.out, endW_snoc, ← List.append_assoc, ← List.append_assoc, HFL.out]
                  clear hfl
                  rcases hcase with rfl | ⟨rfl, h9⟩ | ⟨rfl, h9⟩
                  · go_wp2_with (first | (go_at_call 32; refine hP.mono ?_; rintro e w' ⟨rfl, rfl⟩) | (at_builtin; refine Lib.wpList_append_own_string _ rfl (.tmp 92) (.tmp 93) 22 9 rfl w.heap.size 5 j0 Tryd.underlying22 Tryd.underlying9 hi hz0 hz1 hz2 _ fl.length _ rfl OW0.out tt rfl (by have := HZ1.out; unfold maxLen; omega) (by have := HZ1.out; omega) hsz ?_))
                    intro v1 x1 hown1 hgrow1 _
                    have o1 : Own x1 w.heap.size v1 (fl ++ nums tt) := own_of hown1 (by simp [nums_len]) (by rw [str_cells]; simp)
                    have hb1 : Below w.heap.size wr x1 := (Below.refl _ _).grown hgrow1 hsz (fun q hq => by
                      rcases OW0.out.2 with ⟨h, _⟩ | ⟨g, cp, cur, h, h2, _⟩
                      · rw [h] at hq; simp [Value.ownBlock] at hq
                      · rw [h] at hq; simp [Value.ownBlock] at hq; omega)
                    have OW1 : Hid (Own x1 w.heap.size v1 (fl ++ nums tt)) := o1
                    have HBx1 : Hid (Below w.heap.size w x1) := HB2.out.trans hb1
                    have hsz1 : w.heap.size ≤ x1.heap.size := HBx1.out.size
                    obtain ⟨n1, hn1⟩ : ∃ n1, (fl ++ nums tt).length = n1 := ⟨_, rfl⟩
                    have hnb1 : n1 ≤ 3000000 := by have := HZ1.out; rw [← hn1, List.length_append, nums_len]; omega
                    have ol1 : Hid (x1.ownsRow w.heap.size 5 1 v1 n1 ((fl ++ nums tt).map (Value.int .u8))) := by have := OW1.out; unfold Own at this; rw [hn1] at this; exact this
                    clear hown1 hgrow1 o1 hb1
                    go_wp2_with (at_builtin; refine wpList_append_own _ rfl (.tmp 95) (.tmp 96) 22 rfl w.heap.size 5 j0 (.int .u8 0) 1 1 Tryd.underlying22 hi hz0 hz1 hz2 rfl (by decide) _ n1 _ rfl (own_keep ol1.out (keep x1 _)) ⟨x1.heap.size, 0, none⟩ 2 2 [.int .u8 13, .int .u8 10] rfl rfl (cells_new x1 _ 5) (by simp [Value.oneCell']) (by unfold maxLen; omega) (by omega) (by simp; omega) ?_)
                    intro v2 x2 hown2 hgrow2 _
                    have OW2 : Hid (Own x2 w.heap.size v2 (fl ++ nums tt ++ [13, 10])) := own_of hown2 (by simp at hn1 ⊢; omega) (by simp)
                    have HBx2 : Hid (Below w.heap.size w x2) := (HBx1.out.alloc hsz1 _).trans ((Below.refl _ _).grown hgrow2 (by simp; omega) (fun q hq => by
                      rcases ol1.out.2 with ⟨h, _⟩ | ⟨g, cp, cur, h, h2, _⟩
                      · rw [h] at hq; simp [Value.ownBlock] at hq
                      · rw [h] at hq; simp [Value.ownBlock] at hq; omega))
                    clear hown2 hgrow2 hn1
                    go_wp2
                    go_roundw
                    case rel => exact ⟨k + 1, by go_num, by omega, HTA.out, by rw [HLN.out]; rfl, by rw [HON.out]; exact OW2.out, HBx2.out⟩
                    case measure => simp [intOf]; omega
                  · have hd9 : decide ((tt.size : Int) > 998) = true := by simp; omega
                    go_wp2_with (first | (go_at_call 32; refine hP.mono ?_; rintro e w' ⟨rfl, rfl⟩) | (at_builtin; refine Lib.wpList_append_own_string _ rfl (.tmp 92) (.tmp 93) 22 9 rfl w.heap.size 5 j0 Tryd.underlying22 Tryd.underlying9 hi hz0 hz1 hz2 _ fl.length _ rfl OW0.out tt rfl (by have := HZ1.out; unfold maxLen; omega) (by have := HZ1.out; omega) hsz ?_))
                    intro v1 x1 hown1 hgrow1 _
                    have o1 : Own x1 w.heap.size v1 (fl ++ nums tt) := own_of hown1 (by simp [nums_len]) (by rw [str_cells]; simp)
                    have hb1 : Below w.heap.size wr x1 := (Below.refl _ _).grown hgrow1 hsz (fun q hq => by
                      rcases OW0.out.2 with ⟨h, _⟩ | ⟨g, cp, cur, h, h2, _⟩
                      · rw [h] at hq; simp [Value.ownBlock] at hq
                      · rw [h] at hq; simp [Value.ownBlock] at hq; omega)
                    have OW1 : Hid (Own x1 w.heap.size v1 (fl ++ nums tt)) := o1
                    have HBx1 : Hid (Below w.heap.size w x1) := HB2.out.trans hb1
                    have hsz1 : w.heap.size ≤ x1.heap.size := HBx1.out.size
                    obtain ⟨n1, hn1⟩ : ∃ n1, (fl ++ nums tt).length = n1 := ⟨_, rfl⟩
                    have hnb1 : n1 ≤ 3000000 := by have := HZ1.out; rw [← hn1, List.length_append, nums_len]; omega
                    have ol1 : Hid (x1.ownsRow w.heap.size 5 1 v1 n1 ((fl ++ nums tt).map (Value.int .u8))) := by have := OW1.out; unfold Own at this; rw [hn1] at this; exact this
                    clear hown1 hgrow1 o1 hb1
                    go_wp2_with (at_builtin; refine wpList_append_own _ rfl (.tmp 95) (.tmp 96) 22 rfl w.heap.size 5 j0 (.int .u8 0) 1 1 Tryd.underlying22 hi hz0 hz1 hz2 rfl (by decide) _ n1 _ rfl (own_keep ol1.out (keep x1 _)) ⟨x1.heap.size, 0, none⟩ 2 2 [.int .u8 13, .int .u8 10] rfl rfl (cells_new x1 _ 5) (by simp [Value.oneCell']) (by unfold maxLen; omega) (by omega) (by simp; omega) ?_)
                    intro v2 x2 hown2 hgrow2 _
                    have OW2 : Hid (Own x2 w.heap.size v2 (fl ++ nums tt ++ [13, 10])) := own_of hown2 (by simp at hn1 ⊢; omega) (by simp)
                    have HBx2 : Hid (Below w.heap.size w x2) := (HBx1.out.alloc hsz1 _).trans ((Below.refl _ _).grown hgrow2 (by simp; omega) (fun q hq => by
                      rcases ol1.out.2 with ⟨h, _⟩ | ⟨g, cp, cur, h, h2, _⟩
                      · rw [h] at hq; simp [Value.ownBlock] at hq
                      · rw [h] at hq; simp [Value.ownBlock] at hq; omega))
                    clear hown2 hgrow2 hn1
                    go_wp2
                    go_roundw
                    case rel => exact ⟨k + 1, by go_num, by omega, HTA.out, by rw [HLN.out, decide_eq_true h9]; rfl, by rw [HON.out]; exact OW2.out, HBx2.out⟩
                    case measure => simp [intOf]; omega
                  · have hd9 : decide ((tt.size : Int) > 998) = false := by simp; omega
                    go_wp2_with (first | (go_at_call 32; refine hP.mono ?_; rintro e w' ⟨rfl, rfl⟩) | (at_builtin; refine Lib.wpList_append_own_string _ rfl (.tmp 92) (.tmp 93) 22 9 rfl w.heap.size 5 j0 Tryd.underlying22 Tryd.underlying9 hi hz0 hz1 hz2 _ fl.length _ rfl OW0.out tt rfl (by have := HZ1.out; unfold maxLen; omega) (by have := HZ1.out; omega) hsz ?_))
                    intro v1 x1 hown1 hgrow1 _
                    have o1 : Own x1 w.heap.size v1 (fl ++ nums tt) := own_of hown1 (by simp [nums_len]) (by rw [str_cells]; simp)
                    have hb1 : Below w.heap.size wr x1 := (Below.refl _ _).grown hgrow1 hsz (fun q hq => by
                      rcases OW0.out.2 with ⟨h, _⟩ | ⟨g, cp, cur, h, h2, _⟩
                      · rw [h] at hq; simp [Value.ownBlock] at hq
                      · rw [h] at hq; simp [Value.ownBlock] at hq; omega)
                    have OW1 : Hid (Own x1 w.heap.size v1 (fl ++ nums tt)) := o1
                    have HBx1 : Hid (Below w.heap.size w x1) := HB2.out.trans hb1
                    have hsz1 : w.heap.size ≤ x1.heap.size := HBx1.out.size
                    obtain ⟨n1, hn1⟩ : ∃ n1, (fl ++ nums tt).length = n1 := ⟨_, rfl⟩
                    have hnb1 : n1 ≤ 3000000 := by have := HZ1.out; rw [← hn1, List.length_append, nums_len]; omega
                    have ol1 : Hid (x1.ownsRow w.heap.size 5 1 v1 n1 ((fl ++ nums tt).map (Value.int .u8))) := by have := OW1.out; unfold Own at this; rw [hn1] at this; exact this
                    clear hown1 hgrow1 o1 hb1
                    go_wp2_with (at_builtin; refine wpList_append_own _ rfl (.tmp 95) (.tmp 96) 22 rfl w.heap.size 5 j0 (.int .u8 0) 1 1 Tryd.underlying22 hi hz0 hz1 hz2 rfl (by decide) _ n1 _ rfl (own_keep ol1.out (keep x1 _)) ⟨x1.heap.size, 0, none⟩ 2 2 [.int .u8 13, .int .u8 10] rfl rfl (cells_new x1 _ 5) (by simp [Value.oneCell']) (by unfold maxLen; omega) (by omega) (by simp; omega) ?_)
                    intro v2 x2 hown2 hgrow2 _
                    have OW2 : Hid (Own x2 w.heap.size v2 (fl ++ nums tt ++ [13, 10])) := own_of hown2 (by simp at hn1 ⊢; omega) (by simp)
                    have HBx2 : Hid (Below w.heap.size w x2) := (HBx1.out.alloc hsz1 _).trans ((Below.refl _ _).grown hgrow2 (by simp; omega) (fun q hq => by
                      rcases ol1.out.2 with ⟨h, _⟩ | ⟨g, cp, cur, h, h2, _⟩
                      · rw [h] at hq; simp [Value.ownBlock] at hq
                      · rw [h] at hq; simp [Value.ownBlock] at hq; omega))
                    clear hown2 hgrow2 hn1
                    go_wp2
                    go_roundw
                    case rel => exact ⟨k + 1, by go_num, by omega, HTA.out, by rw [HLN.out, decide_eq_false h9]; rfl, by rw [HON.out]; exact OW2.out, HBx2.out⟩
                    case measure => simp [intOf]; omega
                | some kk =>
                  have hpos := hpf.1 kk hz
                  rw [hpos] at hP
                  obtain ⟨k1, k2, _⟩ := foldZ_some hf hz
                  rw [nums_len] at k2
                  have hdn : decide ((kk : Int) < 0) = false := by simp
                  clear hpf hpos
                  have HE : Hid (FL = ls ++ (nums tt).take kk :: foldL 0 ((nums tt).drop kk)) := by unfold Hid; rw [HX.out, foldL_some hf hz]
                  have hcase : (bl = true) ∨ (bl = false ∧ 998 < kk) ∨ (bl = false ∧ ¬ 998 < kk) := by cases bl <;> simp; omega
                  obtain ⟨fl, hfl⟩ : ∃ fl, acc ++ endW ls = fl := ⟨_, rfl⟩
                  rw [hfl] at HOW
                  have HFL : Hid (acc ++ endW ls = fl) := hfl
                  have hflb : fl.length ≤ 2000000 := by rw [← hfl, List.length_append]; omega
                  have OW0 : Hid (Own wr w.heap.size u4 fl) := HOW.out
                  have hzx : (tt.extract 0 kk).size = kk := by rw [← nums_len, nums_to, List.length_take, nums_len]; omega
                  have HZ2 : Hid ((tt.extract kk tt.size).size = tt.size - kk) := by unfold Hid; rw [← nums_len, nums_from, List.length_drop, nums_len]
                  have HZ1 : Hid ((tt.extract 0 kk).size ≤ 10000) := by unfold Hid; omega
                  clear hzx
                  have HON : Hid (acc ++ endW (ls ++ [(nums tt).take kk]) = fl ++ nums (tt.extract 0 kk) ++ [13, 10]) := by
                    unfold Hid; rw [endW_snoc, ← List.append_assoc, ← List.append_assoc, HFL.out, nums_to]
                  have HLN : Hid ((longW (fs.take k) || (ls ++ [(nums tt).take kk]).any (fun l => decide (998 < l.length))) = (bl || decide (998 < kk))) := by
                    unfold Hid
                    have e : ((nums tt).take kk).length = kk := by rw [List.length_take, nums_len]; omega
                    rw [List.any_append, ← Bool.or_assoc, HBL.out]
                    simp [e]
                  have HE2 : Hid (FL = (ls ++ [(nums tt).take kk]) ++ foldL 0 (nums (tt.extract kk tt.size))) := by unfold Hid; rw [HE.out, nums_from]; simp
                  clear hfl hz
                  rcases hcase with rfl | ⟨rfl, h9⟩ | ⟨rfl, h9⟩
                  · go_wp2_with (first | (go_at_call 32; refine hP.mono ?_; rintro e w' ⟨rfl, rfl⟩) | (at_builtin; refine Lib.wpList_append_own_string _ rfl (.tmp 75) (.tmp 78) 22 9 rfl w.heap.size 5 j0 Tryd.underlying22 Tryd.underlying9 hi hz0 hz1 hz2 _ fl.length _ rfl OW0.out (tt.extract 0 kk) rfl (by have := HZ1.out; unfold maxLen; omega) (by have := HZ1.out; omega) hsz ?_))
                    intro v1 x1 hown1 hgrow1 _
                    have o1 : Own x1 w.heap.size v1 (fl ++ nums (tt.extract 0 kk)) := own_of hown1 (by simp [nums_len]) (by rw [str_cells]; simp)
                    have hb1 : Below w.heap.size wr x1 := (Below.refl _ _).grown hgrow1 hsz (fun q hq => by
                      rcases OW0.out.2 with ⟨h, _⟩ | ⟨g, cp, cur, h, h2, _⟩
                      · rw [h] at hq; simp [Value.ownBlock] at hq
                      · rw [h] at hq; simp [Value.ownBlock] at hq; omega)
                    have OW1 : Hid (Own x1 w.heap.size v1 (fl ++ nums (tt.extract 0 kk))) := o1
                    have HBx1 : Hid (Below w.heap.size w x1) := HB2.out.trans hb1
                    have hsz1 : w.heap.size ≤ x1.heap.size := HBx1.out.size
                    obtain ⟨n1, hn1⟩ : ∃ n1, (fl ++ nums (tt.extract 0 kk)).length = n1 := ⟨_, rfl⟩
                    have hnb1 : n1 ≤ 3000000 := by have := HZ1.out; rw [← hn1, List.length_append, nums_len]; omega
                    have ol1 : Hid (x1.ownsRow w.heap.size 5 1 v1 n1 ((fl ++ nums (tt.extract 0 kk)).map (Value.int .u8))) := by have := OW1.out; unfold Own at this; rw [hn1] at this; exact this
                    clear hown1 hgrow1 o1 hb1
                    go_wp2_with (at_builtin; refine wpList_append_own _ rfl (.tmp 80) (.tmp 81) 22 rfl w.heap.size 5 j0 (.int .u8 0) 1 1 Tryd.underlying22 hi hz0 hz1 hz2 rfl (by decide) _ n1 _ rfl (own_keep ol1.out (keep x1 _)) ⟨x1.heap.size, 0, none⟩ 2 2 [.int .u8 13, .int .u8 10] rfl rfl (cells_new x1 _ 5) (by simp [Value.oneCell']) (by unfold maxLen; omega) (by omega) (by simp; omega) ?_)
                    intro v2 x2 hown2 hgrow2 _
                    have OW2 : Hid (Own x2 w.heap.size v2 (fl ++ nums (tt.extract 0 kk) ++ [13, 10])) := own_of hown2 (by simp at hn1 ⊢; omega) (by simp)
                    have HBx2 : Hid (Below w.heap.size w x2) := (HBx1.out.alloc hsz1 _).trans ((Below.refl _ _).grown hgrow2 (by simp; omega) (fun q hq => by
                      rcases ol1.out.2 with ⟨h, _⟩ | ⟨g, cp, cur, h, h2, _⟩
                      · rw [h] at hq; simp [Value.ownBlock] at hq
                      · rw [h] at hq; simp [Value.ownBlock] at hq; omega))
                    clear hown2 hgrow2 hn1
                    go_wp2
                    go_roundw
                    case rel => exact ⟨ls ++ [(nums tt).take kk], tt.extract kk tt.size, 0, _, rfl, rfl, by omega, by have := HZ2.out; omega, HE2.out, rfl, by rw [HLN.out]; rfl, by have := OW2.out; rw [← HON.out] at this; exact this, HBx2.out⟩
                    case measure => have := HZ2.out; simp only [szOf]; omega
                  · have hd9 : decide ((kk : Int) > 998) = true := by simp; omega
                    go_wp2_with (first | (go_at_call 32; refine hP.mono ?_; rintro e w' ⟨rfl, rfl⟩) | (at_builtin; refine Lib.wpList_append_own_string _ rfl (.tmp 75) (.tmp 78) 22 9 rfl w.heap.size 5 j0 Tryd.underlying22 Tryd.underlying9 hi hz0 hz1 hz2 _ fl.length _ rfl OW0.out (tt.extract 0 kk) rfl (by have := HZ1.out; unfold maxLen; omega) (by have := HZ1.out; omega) hsz ?_))
                    intro v1 x1 hown1 hgrow1 _
                    have o1 : Own x1 w.heap.size v1 (fl ++ nums (tt.extract 0 kk)) := own_of hown1 (by simp [nums_len]) (by rw [str_cells]; simp)
                    have hb1 : Below w.heap.size wr x1 := (Below.refl _ _).grown hgrow1 hsz (fun q hq => by
                      rcases OW0.out.2 with ⟨h, _⟩ | ⟨g, cp, cur, h, h2, _⟩
                      · rw [h] at hq; simp [Value.ownBlock] at hq
                      · rw [h] at hq; simp [Value.ownBlock] at hq; omega)
                    have OW1 : Hid (Own x1 w.heap.size v1 (fl ++ nums (tt.extract 0 kk))) := o1
                    have HBx1 : Hid (Below w.heap.size w x1) := HB2.out.trans hb1
                    have hsz1 : w.heap.size ≤ x1.heap.size := HBx1.out.size
                    obtain ⟨n1, hn1⟩ : ∃ n1, (fl ++ nums (tt.extract 0 kk)).length = n1 := ⟨_, rfl⟩
                    have hnb1 : n1 ≤ 3000000 := by have := HZ1.out; rw [← hn1, List.length_append, nums_len]; omega
                    have ol1 : Hid (x1.ownsRow w.heap.size 5 1 v1 n1 ((fl ++ nums (tt.extract 0 kk)).map (Value.int .u8))) := by have := OW1.out; unfold Own at this; rw [hn1] at this; exact this
                    clear hown1 hgrow1 o1 hb1
                    go_wp2_with (at_builtin; refine wpList_append_own _ rfl (.tmp 80) (.tmp 81) 22 rfl w.heap.size 5 j0 (.int .u8 0) 1 1 Tryd.underlying22 hi hz0 hz1 hz2 rfl (by decide) _ n1 _ rfl (own_keep ol1.out (keep x1 _)) ⟨x1.heap.size, 0, none⟩ 2 2 [.int .u8 13, .int .u8 10] rfl rfl (cells_new x1 _ 5) (by simp [Value.oneCell']) (by unfold maxLen; omega) (by omega) (by simp; omega) ?_)
                    intro v2 x2 hown2 hgrow2 _
                    have OW2 : Hid (Own x2 w.heap.size v2 (fl ++ nums (tt.extract 0 kk) ++ [13, 10])) := own_of hown2 (by simp at hn1 ⊢; omega) (by simp)
                    have HBx2 : Hid (Below w.heap.size w x2) := (HBx1.out.alloc hsz1 _).trans ((Below.refl _ _).grown hgrow2 (by simp; omega) (fun q hq => by
                      rcases ol1.out.2 with ⟨h, _⟩ | ⟨g, cp, cur, h, h2, _⟩
                      · rw [h] at hq; simp [Value.ownBlock] at hq
                      · rw [h] at hq; simp [Value.ownBlock] at hq; omega))
                    clear hown2 hgrow2 hn1
                    go_wp2
                    go_roundw
                    case rel => exact ⟨ls ++ [(nums tt).take kk], tt.extract kk tt.size, 0, _, rfl, rfl, by omega, by have := HZ2.out; omega, HE2.out, rfl, by rw [HLN.out, decide_eq_true h9]; rfl, by have := OW2.out; rw [← HON.out] at this; exact this, HBx2.out⟩
                    case measure => have := HZ2.out; simp only [szOf]; omega
                  · have hd9 : decide ((kk : Int) > 998) = false := by simp; omega
                    go_wp2_with (first | (go_at_call 32; refine hP.mono ?_; rintro e w' ⟨rfl, rfl⟩) | (at_builtin; refine Lib.wpList_append_own_string _ rfl (.tmp 75) (.tmp 78) 22 9 rfl w.heap.size 5 j0 Tryd.underlying22 Tryd.underlying9 hi hz0 hz1 hz2 _ fl.length _ rfl OW0.out (tt.extract 0 kk) rfl (by have := HZ1.out; unfold maxLen; omega) (by have := HZ1.out; omega) hsz ?_))
                    intro v1 x1 hown1 hgrow1 _
                    have o1 : Own x1 w.heap.size v1 (fl ++ nums (tt.extract 0 kk)) := own_of hown1 (by simp [nums_len]) (by rw [str_cells]; simp)
                    have hb1 : Below w.heap.size wr x1 := (Below.refl _ _).grown hgrow1 hsz (fun q hq => by
                      rcases OW0.out.2 with ⟨h, _⟩ | ⟨g, cp, cur, h, h2, _⟩
                      · rw [h] at hq; simp [Value.ownBlock] at hq
                      · rw [h] at hq; simp [Value.ownBlock] at hq; omega)
                    have OW1 : Hid (Own x1 w.heap.size v1 (fl ++ nums (tt.extract 0 kk))) := o1
                    have HBx1 : Hid (Below w.heap.size w x1) := HB2.out.trans hb1
                    have hsz1 : w.heap.size ≤ x1.heap.size := HBx1.out.size
                    obtain ⟨n1, hn1⟩ : ∃ n1, (fl ++ nums (tt.extract 0 kk)).length = n1 := ⟨_, rfl⟩
                    have hnb1 : n1 ≤ 3000000 := by have := HZ1.out; rw [← hn1, List.length_append, nums_len]; omega
                    have ol1 : Hid (x1.ownsRow w.heap.size 5 1 v1 n1 ((fl ++ nums (tt.extract 0 kk)).map (Value.int .u8))) := by have := OW1.out; unfold Own at this; rw [hn1] at this; exact this
                    clear hown1 hgrow1 o1 hb1
                    go_wp2_with (at_builtin; refine wpList_append_own _ rfl (.tmp 80) (.tmp 81) 22 rfl w.heap.size 5 j0 (.int .u8 0) 1 1 Tryd.underlying22 hi hz0 hz1 hz2 rfl (by decide) _ n1 _ rfl (own_keep ol1.out (keep x1 _)) ⟨x1.heap.size, 0, none⟩ 2 2 [.int .u8 13, .int .u8 10] rfl rfl (cells_new x1 _ 5) (by simp [Value.oneCell']) (by unfold maxLen; omega) (by omega) (by simp; omega) ?_)
                    intro v2 x2 hown2 hgrow2 _
                    have OW2 : Hid (Own x2 w.heap.size v2 (fl ++ nums (tt.extract 0 kk) ++ [13, 10])) := own_of hown2 (by simp at hn1 ⊢; omega) (by simp)
                    have HBx2 : Hid (Below w.heap.size w x2) := (HBx1.out.alloc hsz1 _).trans ((Below.refl _ _).grown hgrow2 (by simp; omega) (fun q hq => by
                      rcases ol1.out.2 with ⟨h, _⟩ | ⟨g, cp, cur, h, h2, _⟩
                      · rw [h] at hq; simp [Value.ownBlock] at hq
                      · rw [h] at hq; simp [Value.ownBlock] at hq; omega))
                    clear hown2 hgrow2 hn1
                    go_wp2
                    go_roundw
                    case rel => exact ⟨ls ++ [(nums tt).take kk], tt.extract kk tt.size, 0, _, rfl, rfl, by omega, by have := HZ2.out; omega, HE2.out, rfl, by rw [HLN.out, decide_eq_false h9]; rfl, by have := OW2.out; rw [← HON.out] at this; exact this, HBx2.out⟩
                    case measure => have := HZ2.out; simp only [szOf]; omega
              · have hd7 : decide ((tt.size : Int) > 76) = false := by simp; omega
                have hz : foldZ first (nums tt) = none := by unfold foldZ; rw [if_pos (by rw [nums_len]; omega)]
                have HFIN : Hid (FL = ls ++ [nums tt]) := by unfold Hid; rw [HX.out, foldL_none hz]
                have hcase : (bl = true) ∨ (bl = false ∧ 998 < tt.size) ∨ (bl = false ∧ ¬ 998 < tt.size) := by cases bl <;> simp; omega
                obtain ⟨fl, hfl⟩ : ∃ fl, acc ++ endW ls = fl := ⟨_, rfl⟩
                rw [hfl] at HOW
                have HFL : Hid (acc ++ endW ls = fl) := hfl
                have hflb : fl.length ≤ 2000000 := by rw [← hfl, List.length_append]; omega
                have OW0 : Hid (Own wr w.heap.size u4 fl) := HOW.out
                have HZ1 : Hid (tt.size ≤ 10000) := hts
                have HLN : Hid (longW (fs.take (k + 1)) = (bl || decide (998 < tt.size))) := by
                  unfold Hid
                  rw [HTK.out, longW_snoc, HLW.out, HFIN.out, List.any_append, ← Bool.or_assoc, HBL.out]
                  simp [nums_len]
                have HON : Hid (outW (fs.take (k + 1)) = fl ++ nums tt ++ [13, 10]) := by
                  unfold Hid
                  rw [HTK.out, outW_snoc, HAE.out, HLW.out, HFIN.out, endW_snoc, ← List.append_assoc, ← List.append_assoc, HFL.out]
                clear hfl
                rcases hcase with rfl | ⟨rfl, h9⟩ | ⟨rfl, h9⟩
                · go_wp2_with (at_builtin; refine Lib.wpList_append_own_string _ rfl (.tmp 92) (.tmp 93) 22 9 rfl w.heap.size 5 j0 Tryd.underlying22 Tryd.underlying9 hi hz0 hz1 hz2 _ fl.length _ rfl OW0.out tt rfl (by have := HZ1.out; unfold maxLen; omega) (by have := HZ1.out; omega) hsz ?_)
                  intro v1 x1 hown1 hgrow1 _
                  have o1 : Own x1 w.heap.size v1 (fl ++ nums tt) := own_of hown1 (by simp [nums_len]) (by rw [str_cells]; simp)
                  have hb1 : Below w.heap.size wr x1 := (Below.refl _ _).grown hgrow1 hsz (fun q hq => by
                    rcases OW0.out.2 with ⟨h, _⟩ | ⟨g, cp, cur, h, h2, _⟩
                    · rw [h] at hq; simp [Value.ownBlock] at hq
                    · rw [h] at hq; simp [Value.ownBlock] at hq; omega)
                  have OW1 : Hid (Own x1 w.heap.size v1 (fl ++ nums tt)) := o1
                  have HBx1 : Hid (Below w.heap.size w x1) := HB2.out.trans hb1
                  have hsz1 : w.heap.size ≤ x1.heap.size := HBx1.out.size
                  obtain ⟨n1, hn1⟩ : ∃ n1, (fl ++ nums tt).length = n1 := ⟨_, rfl⟩
                  have hnb1 : n1 ≤ 3000000 := by have := HZ1.out; rw [← hn1, List.length_append, nums_len]; omega
                  have ol1 : Hid (x1.ownsRow w.heap.size 5 1 v1 n1 ((fl ++ nums tt).map (Value.int .u8))) := by have := OW1.out; unfold Own at this; rw [hn1] at this; exact this
                  clear hown1 hgrow1 o1 hb1
                  go_wp2_with (at_builtin; refine wpList_append_own _ rfl (.tmp 95) (.tmp 96) 22 rfl w.heap.size 5 j0 (.int .u8 0) 1 1 Tryd.underlying22 hi hz0 hz1 hz2 rfl (by decide) _ n1 _ rfl (own_keep ol1.out (keep x1 _)) ⟨x1.heap.size, 0, none⟩ 2 2 [.int .u8 13, .int .u8 10] rfl rfl (cells_new x1 _ 5) (by simp [Value.oneCell']) (by unfold maxLen; omega) (by omega) (by simp; omega) ?_)
                  intro v2 x2 hown2 hgrow2 _
                  have OW2 : Hid (Own x2 w.heap.size v2 (fl ++ nums tt ++ [13, 10])) := own_of hown2 (by simp at hn1 ⊢; omega) (by simp)
                  have HBx2 : Hid (Below w.heap.size w x2) := (HBx1.out.alloc hsz1 _).trans ((Below.refl _ _).grown hgrow2 (by simp; omega) (fun q hq => by
                    rcases ol1.out.2 with ⟨h, _⟩ | ⟨g, cp, cur, h, h2, _⟩
                    · rw [h] at hq; simp [Value.ownBlock] at hq
                    · rw [h] at hq; simp [Value.ownBlock] at hq; omega))
                  clear hown2 hgrow2 hn1
                  go_wp2
                  go_roundw
                  case rel => exact ⟨k + 1, by go_num, by omega, HTA.out, by rw [HLN.out]; rfl, by rw [HON.out]; exact OW2.out, HBx2.out⟩
                  case measure => simp [intOf]; omega
                · omega
                · have hd9 : decide ((tt.size : Int) > 998) = false := by simp; omega
                  go_wp2_with (at_builtin; refine Lib.wpList_append_own_string _ rfl (.tmp 92) (.tmp 93) 22 9 rfl w.heap.size 5 j0 Tryd.underlying22 Tryd.underlying9 hi hz0 hz1 hz2 _ fl.length _ rfl OW0.out tt rfl (by have := HZ1.out; unfold maxLen; omega) (by have := HZ1.out; omega) hsz ?_)
                  intro v1 x1 hown1 hgrow1 _
                  have o1 : Own x1 w.heap.size v1 (fl ++ nums tt) := own_of hown1 (by simp [nums_len]) (by rw [str_cells]; simp)
                  have hb1 : Below w.heap.size wr x1 := (Below.refl _ _).grown hgrow1 hsz (fun q hq => by
                    rcases OW0.out.2 with ⟨h, _⟩ | ⟨g, cp, cur, h, h2, _⟩
                    · rw [h] at hq; simp [Value.ownBlock] at hq
                    · rw [h] at hq; simp [Value.ownBlock] at hq; omega)
                  have OW1 : Hid (Own x1 w.heap.size v1 (fl ++ nums tt)) := o1
                  have HBx1 : Hid (Below w.heap.size w x1) := HB2.out.trans hb1
                  have hsz1 : w.heap.size ≤ x1.heap.size := HBx1.out.size
                  obtain ⟨n1, hn1⟩ : ∃ n1, (fl ++ nums tt).length = n1 := ⟨_, rfl⟩
                  have hnb1 : n1 ≤ 3000000 := by have := HZ1.out; rw [← hn1, List.length_append, nums_len]; omega
                  have ol1 : Hid (x1.ownsRow w.heap.size 5 1 v1 n1 ((fl ++ nums tt).map (Value.int .u8))) := by have := OW1.out; unfold Own at this; rw [hn1] at this; exact this
                  clear hown1 hgrow1 o1 hb1
                  go_wp2_with (at_builtin; refine wpList_append_own _ rfl (.tmp 95) (.tmp 96) 22 rfl w.heap.size 5 j0 (.int .u8 0) 1 1 Tryd.underlying22 hi hz0 hz1 hz2 rfl (by decide) _ n1 _ rfl (own_keep ol1.out (keep x1 _)) ⟨x1.heap.size, 0, none⟩ 2 2 [.int .u8 13, .int .u8 10] rfl rfl (cells_new x1 _ 5) (by simp [Value.oneCell']) (by unfold maxLen; omega) (by omega) (by simp; omega) ?_)
                  intro v2 x2 hown2 hgrow2 _
                  have OW2 : Hid (Own x2 w.heap.size v2 (fl ++ nums tt ++ [13, 10])) := own_of hown2 (by simp at hn1 ⊢; omega) (by simp)
                  have HBx2 : Hid (Below w.heap.size w x2) := (HBx1.out.alloc hsz1 _).trans ((Below.refl _ _).grown hgrow2 (by simp; omega) (fun q hq => by
                    rcases ol1.out.2 with ⟨h, _⟩ | ⟨g, cp, cur, h, h2, _⟩
                    · rw [h] at hq; simp [Value.ownBlock] at hq
                    · rw [h] at hq; simp [Value.ownBlock] at hq; omega))
                  clear hown2 hgrow2 hn1
                  go_wp2
                  go_roundw
                  case rel => exact ⟨k + 1, by go_num, by omega, HTA.out, by rw [HLN.out, decide_eq_false h9]; rfl, by rw [HON.out]; exact OW2.out, HBx2.out⟩
                  case measure => simp [intOf]; omega
          · have hq : (vl.toList == ([] : List UInt8)) = false := by simp [hv]
            have hvn : nums vl ≠ [] := by
              intro h
              rw [nums, ← ByteArray.toList_eq] at h
              exact hv (List.map_eq_nil_iff.1 h)
            obtain ⟨t0, ht0⟩ : ∃ t0, ((nm ++ (⟨#[58]⟩ : ByteArray)) ++ (⟨#[32]⟩ : ByteArray)) ++ vl = t0 := ⟨_, rfl⟩
            have HT0 : Hid (FL = foldL (nm.size + 2) (nums t0) ∧ t0.size ≤ 10000) := by
              rw [← ht0]
              refine ⟨?_, ?_⟩
              · rw [← HLW.out, linesW, nums_append, nums_append, nums_append, fieldL, if_neg hvn]; simp; rfl
              · rw [size_append, size_append, size_append]; have h1 : (⟨#[58]⟩ : ByteArray).size = 1 := rfl; have h2 : (⟨#[32]⟩ : ByteArray).size = 1 := rfl; omega
            clear hvn
            go_wp2_with (first | (go_at_call 27; refine (rName_any nm _ (by omega)).mono ?_; rintro e w' ⟨rfl, rfl⟩; rw [hnm]) | (go_at_call 31; refine (rValue_any vl _ (by omega)).mono ?_; rintro e w' ⟨rfl, rfl⟩; rw [hvl]))
            clear ht0
            go_loopw [4, 5, 7, 8] (fun v lg t fr wr => ∃ (ls : List (List Int)) (tt : ByteArray) (first : Nat) (bl : Bool), t = .string tt ∧ fr = .int .i64 ((first : Int) + 1) ∧ first ≤ 76 ∧ tt.size ≤ 10000 ∧ FL = ls ++ foldL first (nums tt) ∧ lg = .bool bl ∧ (longW (fs.take k) || ls.any (fun l => decide (998 < l.length))) = bl ∧ Own wr w.heap.size v (acc ++ endW ls) ∧ Below w.heap.size w wr) (fun _ _ t _ _ => szOf t)
            case atStart => exact ⟨[], t0, nm.size + 2, longW (fs.take k), rfl, by go_num, by omega, HT0.out.2, by rw [HT0.out.1]; rfl, rfl, by simp, by simpa [endW] using HO.out, HB.out⟩
            case round =>
              obtain ⟨ls, tt, first, bl, rfl, rfl, hf, hts, hx, rfl, hbl, how, hbb⟩ := hrel
              have HX : Hid (FL = ls ++ foldL first (nums tt)) := hx
              have HBL : Hid ((longW (fs.take k) || ls.any (fun l => decide (998 < l.length))) = bl) := hbl
              have HOW : Hid (Own wr w.heap.size u4 (acc ++ endW ls)) := how
              have HB2 : Hid (Below w.heap.size w wr) := hbb
              have hsz : w.heap.size ≤ wr.heap.size := hbb.size
              have hels : (endW ls).length ≤ 12488 := by
                have h := HFE.out
                rw [HX.out] at h
                have e : endW (ls ++ foldL first (nums tt)) = endW ls ++ endW (foldL first (nums tt)) := by simp [endW]
                rw [e, List.length_append] at h
                omega
              clear hx hbl how hbb
              by_cases h76 : 76 < tt.size
              · have hd7 : decide ((tt.size : Int) > 76) = true := by simp; omega
                have hP := place_any tt (first + 1) wr (by omega) (by omega)
                rw [show (((first + 1 : Nat)) : Int) = (first : Int) + 1 from by omega] at hP
                have hpf := plA_fold (l := nums tt) hf (by rw [nums_len]; exact h76)
                rw [nums_len] at hpf
                cases hz : foldZ first (nums tt) with
                | none =>
                  have hneg := hpf.2 hz
                  obtain ⟨pa, hpa⟩ : ∃ pa, plA (nums tt) (first + 1) tt.size = pa := ⟨_, rfl⟩
                  rw [hpa] at hneg hP
                  have hdn : decide (pa < 0) = true := by simpa using hneg
                  clear hpf hpa
                  have HFIN : Hid (FL = ls ++ [nums tt]) := by unfold Hid; rw [HX.out, foldL_none hz]
                  have hcase : (bl = true) ∨ (bl = false ∧ 998 < tt.size) ∨ (bl = false ∧ ¬ 998 < tt.size) := by cases bl <;> simp; omega
                  obtain ⟨fl, hfl⟩ : ∃ fl, acc ++ endW ls = fl := ⟨_, rfl⟩
                  rw [hfl] at HOW
                  have HFL : Hid (acc ++ endW ls = fl) := hfl
                  have hflb : fl.length ≤ 2000000 := by rw [← hfl, List.length_append]; omega
                  have OW0 : Hid (Own wr w.heap.size u4 fl) := HOW.out
                  have HZ1 : Hid (tt.size ≤ 10000) := hts
                  have HLN : Hid (longW (fs.take (k + 1)) = (bl || decide (998 < tt.size))) := by
                    unfold Hid
                    rw [HTK.out, longW_snoc, HLW.out, HFIN.out, List.any_append, ← Bool.or_assoc, HBL.out]
                    simp [nums_len]
                  have HON : Hid (outW (fs.take (k + 1)) = fl ++ nums tt ++ [13, 10]) := by
                    unfold Hid
                    rw [HTK.out, outW_snoc, HAE.out, HLW.out, HFIN.out, endW_snoc, ← List.append_assoc, ← List.append_assoc, HFL.out]
                  clear hfl
                  rcases hcase with rfl | ⟨rfl, h9⟩ | ⟨rfl, h9⟩
                  · go_wp2_with (first | (go_at_call 32; refine hP.mono ?_; rintro e w' ⟨rfl, rfl⟩) | (at_builtin; refine Lib.wpList_append_own_string _ rfl (.tmp 92) (.tmp 93) 22 9 rfl w.heap.size 5 j0 Tryd.underlying22 Tryd.underlying9 hi hz0 hz1 hz2 _ fl.length _ rfl OW0.out tt rfl (by have := HZ1.out; unfold maxLen; omega) (by have := HZ1.out; omega) hsz ?_))
                    intro v1 x1 hown1 hgrow1 _
                    have o1 : Own x1 w.heap.size v1 (fl ++ nums tt) := own_of hown1 (by simp [nums_len]) (by rw [str_cells]; simp)
                    have hb1 : Below w.heap.size wr x1 := (Below.refl _ _).grown hgrow1 hsz (fun q hq => by
                      rcases OW0.out.2 with ⟨h, _⟩ | ⟨g, cp, cur, h, h2, _⟩
                      · rw [h] at hq; simp [Value.ownBlock] at hq
                      · rw [h] at hq; simp [Value.ownBlock] at hq; omega)
                    have OW1 : Hid (Own x1 w.heap.size v1 (fl ++ nums tt)) := o1
                    have HBx1 : Hid (Below w.heap.size w x1) := HB2.out.trans hb1
                    have hsz1 : w.heap.size ≤ x1.heap.size := HBx1.out.size
                    obtain ⟨n1, hn1⟩ : ∃ n1, (fl ++ nums tt).length = n1 := ⟨_, rfl⟩
                    have hnb1 : n1 ≤ 3000000 := by have := HZ1.out; rw [← hn1, List.length_append, nums_len]; omega
                    have ol1 : Hid (x1.ownsRow w.heap.size 5 1 v1 n1 ((fl ++ nums tt).map (Value.int .u8))) := by have := OW1.out; unfold Own at this; rw [hn1] at this; exact this
                    clear hown1 hgrow1 o1 hb1
                    go_wp2_with (at_builtin; refine wpList_append_own _ rfl (.tmp 95) (.tmp 96) 22 rfl w.heap.size 5 j0 (.int .u8 0) 1 1 Tryd.underlying22 hi hz0 hz1 hz2 rfl (by decide) _ n1 _ rfl (own_keep ol1.out (keep x1 _)) ⟨x1.heap.size, 0, none⟩ 2 2 [.int .u8 13, .int .u8 10] rfl rfl (cells_new x1 _ 5) (by simp [Value.oneCell']) (by unfold maxLen; omega) (by omega) (by simp; omega) ?_)
                    intro v2 x2 hown2 hgrow2 _
                    have OW2 : Hid (Own x2 w.heap.size v2 (fl ++ nums tt ++ [13, 10])) := own_of hown2 (by simp at hn1 ⊢; omega) (by simp)
                    have HBx2 : Hid (Below w.heap.size w x2) := (HBx1.out.alloc hsz1 _).trans ((Below.refl _ _).grown hgrow2 (by simp; omega) (fun q hq => by
                      rcases ol1.out.2 with ⟨h, _⟩ | ⟨g, cp, cur, h, h2, _⟩
                      · rw [h] at hq; simp [Value.ownBlock] at hq
                      · rw [h] at hq; simp [Value.ownBlock] at hq; omega))
                    clear hown2 hgrow2 hn1
                    go_wp2
                    go_roundw
                    case rel => exact ⟨k + 1, by go_num, by omega, HTA.out, by rw [HLN.out]; rfl, by rw [HON.out]; exact OW2.out, HBx2.out⟩
                    case measure => simp [intOf]; omega
                  · have hd9 : decide ((tt.size : Int) > 998) = true := by simp; omega
                    go_wp2_with (first | (go_at_call 32; refine hP.mono ?_; rintro e w' ⟨rfl, rfl⟩) | (at_builtin; refine Lib.wpList_append_own_string _ rfl (.tmp 92) (.tmp 93) 22 9 rfl w.heap.size 5 j0 Tryd.underlying22 Tryd.underlying9 hi hz0 hz1 hz2 _ fl.length _ rfl OW0.out tt rfl (by have := HZ1.out; unfold maxLen; omega) (by have := HZ1.out; omega) hsz ?_))
                    intro v1 x1 hown1 hgrow1 _
                    have o1 : Own x1 w.heap.size v1 (fl ++ nums tt) := own_of hown1 (by simp [nums_len]) (by rw [str_cells]; simp)
                    have hb1 : Below w.heap.size wr x1 := (Below.refl _ _).grown hgrow1 hsz (fun q hq => by
                      rcases OW0.out.2 with ⟨h, _⟩ | ⟨g, cp, cur, h, h2, _⟩
                      · rw [h] at hq; simp [Value.ownBlock] at hq
                      · rw [h] at hq; simp [Value.ownBlock] at hq; omega)
                    have OW1 : Hid (Own x1 w.heap.size v1 (fl ++ nums tt)) := o1
                    have HBx1 : Hid (Below w.heap.size w x1) := HB2.out.trans hb1
                    have hsz1 : w.heap.size ≤ x1.heap.size := HBx1.out.size
                    obtain ⟨n1, hn1⟩ : ∃ n1, (fl ++ nums tt).length = n1 := ⟨_, rfl⟩
                    have hnb1 : n1 ≤ 3000000 := by have := HZ1.out; rw [← hn1, List.length_append, nums_len]; omega
                    have ol1 : Hid (x1.ownsRow w.heap.size 5 1 v1 n1 ((fl ++ nums tt).map (Value.int .u8))) := by have := OW1.out; unfold Own at this; rw [hn1] at this; exact this
                    clear hown1 hgrow1 o1 hb1
                    go_wp2_with (at_builtin; refine wpList_append_own _ rfl (.tmp 95) (.tmp 96) 22 rfl w.heap.size 5 j0 (.int .u8 0) 1 1 Tryd.underlying22 hi hz0 hz1 hz2 rfl (by decide) _ n1 _ rfl (own_keep ol1.out (keep x1 _)) ⟨x1.heap.size, 0, none⟩ 2 2 [.int .u8 13, .int .u8 10] rfl rfl (cells_new x1 _ 5) (by simp [Value.oneCell']) (by unfold maxLen; omega) (by omega) (by simp; omega) ?_)
                    intro v2 x2 hown2 hgrow2 _
                    have OW2 : Hid (Own x2 w.heap.size v2 (fl ++ nums tt ++ [13, 10])) := own_of hown2 (by simp at hn1 ⊢; omega) (by simp)
                    have HBx2 : Hid (Below w.heap.size w x2) := (HBx1.out.alloc hsz1 _).trans ((Below.refl _ _).grown hgrow2 (by simp; omega) (fun q hq => by
                      rcases ol1.out.2 with ⟨h, _⟩ | ⟨g, cp, cur, h, h2, _⟩
                      · rw [h] at hq; simp [Value.ownBlock] at hq
                      · rw [h] at hq; simp [Value.ownBlock] at hq; omega))
                    clear hown2 hgrow2 hn1
                    go_wp2
                    go_roundw
                    case rel => exact ⟨k + 1, by go_num, by omega, HTA.out, by rw [HLN.out, decide_eq_true h9]; rfl, by rw [HON.out]; exact OW2.out, HBx2.out⟩
                    case measure => simp [intOf]; omega
                  · have hd9 : decide ((tt.size : Int) > 998) = false := by simp; omega
                    go_wp2_with (first | (go_at_call 32; refine hP.mono ?_; rintro e w' ⟨rfl, rfl⟩) | (at_builtin; refine Lib.wpList_append_own_string _ rfl (.tmp 92) (.tmp 93) 22 9 rfl w.heap.size 5 j0 Tryd.underlying22 Tryd.underlying9 hi hz0 hz1 hz2 _ fl.length _ rfl OW0.out tt rfl (by have := HZ1.out; unfold maxLen; omega) (by have := HZ1.out; omega) hsz ?_))
                    intro v1 x1 hown1 hgrow1 _
                    have o1 : Own x1 w.heap.size v1 (fl ++ nums tt) := own_of hown1 (by simp [nums_len]) (by rw [str_cells]; simp)
                    have hb1 : Below w.heap.size wr x1 := (Below.refl _ _).grown hgrow1 hsz (fun q hq => by
                      rcases OW0.out.2 with ⟨h, _⟩ | ⟨g, cp, cur, h, h2, _⟩
                      · rw [h] at hq; simp [Value.ownBlock] at hq
                      · rw [h] at hq; simp [Value.ownBlock] at hq; omega)
                    have OW1 : Hid (Own x1 w.heap.size v1 (fl ++ nums tt)) := o1
                    have HBx1 : Hid (Below w.heap.size w x1) := HB2.out.trans hb1
                    have hsz1 : w.heap.size ≤ x1.heap.size := HBx1.out.size
                    obtain ⟨n1, hn1⟩ : ∃ n1, (fl ++ nums tt).length = n1 := ⟨_, rfl⟩
                    have hnb1 : n1 ≤ 3000000 := by have := HZ1.out; rw [← hn1, List.length_append, nums_len]; omega
                    have ol1 : Hid (x1.ownsRow w.heap.size 5 1 v1 n1 ((fl ++ nums tt).map (Value.int .u8))) := by have := OW1.out; unfold Own at this; rw [hn1] at this; exact this
                    clear hown1 hgrow1 o1 hb1
                    go_wp2_with (at_builtin; refine wpList_append_own _ rfl (.tmp 95) (.tmp 96) 22 rfl w.heap.size 5 j0 (.int .u8 0) 1 1 Tryd.underlying22 hi hz0 hz1 hz2 rfl (by decide) _ n1 _ rfl (own_keep ol1.out (keep x1 _)) ⟨x1.heap.size, 0, none⟩ 2 2 [.int .u8 13, .int .u8 10] rfl rfl (cells_new x1 _ 5) (by simp [Value.oneCell']) (by unfold maxLen; omega) (by omega) (by simp; omega) ?_)
                    intro v2 x2 hown2 hgrow2 _
                    have OW2 : Hid (Own x2 w.heap.size v2 (fl ++ nums tt ++ [13, 10])) := own_of hown2 (by simp at hn1 ⊢; omega) (by simp)
                    have HBx2 : Hid (Below w.heap.size w x2) := (HBx1.out.alloc hsz1 _).trans ((Below.refl _ _).grown hgrow2 (by simp; omega) (fun q hq => by
                      rcases ol1.out.2 with ⟨h, _⟩ | ⟨g, cp, cur, h, h2, _⟩
                      · rw [h] at hq; simp [Value.ownBlock] at hq
                      · rw [h] at hq; simp [Value.ownBlock] at hq; omega))
                    clear hown2 hgrow2 hn1
                    go_wp2
                    go_roundw
                    case rel => exact ⟨k + 1, by go_num, by omega, HTA.out, by rw [HLN.out, decide_eq_false h9]; rfl, by rw [HON.out]; exact OW2.out, HBx2.out⟩
                    case measure => simp [intOf]; omega
                | some kk =>
                  have hpos := hpf.1 kk hz
                  rw [hpos] at hP
                  obtain ⟨k1, k2, _⟩ := foldZ_some hf hz
                  rw [nums_len] at k2
                  have hdn : decide ((kk : Int) < 0) = false := by simp
                  clear hpf hpos
                  have HE : Hid (FL = ls ++ (nums tt).take kk :: foldL 0 ((nums tt).drop kk)) := by unfold Hid; rw [HX.out, foldL_some hf hz]
                  have hcase : (bl = true) ∨ (bl = false ∧ 998 < kk) ∨ (bl = false ∧ ¬ 998 < kk) := by cases bl <;> simp; omega
                  obtain ⟨fl, hfl⟩ : ∃ fl, acc ++ endW ls = fl := ⟨_, rfl⟩
                  rw [hfl] at HOW
                  have HFL : Hid (acc ++ endW ls = fl) := hfl
                  have hflb : fl.length ≤ 2000000 := by rw [← hfl, List.length_append]; omega
                  have OW0 : Hid (Own wr w.heap.size u4 fl) := HOW.out
                  have hzx : (tt.extract 0 kk).size = kk := by rw [← nums_len, nums_to, List.length_take, nums_len]; omega
                  have HZ2 : Hid ((tt.extract kk tt.size).size = tt.size - kk) := by unfold Hid; rw [← nums_len, nums_from, List.length_drop, nums_len]
                  have HZ1 : Hid ((tt.extract 0 kk).size ≤ 10000) := by unfold Hid; omega
                  clear hzx
                  have HON : Hid (acc ++ endW (ls ++ [(nums tt).take kk]) = fl ++ nums (tt.extract 0 kk) ++ [13, 10]) := by
                    unfold Hid; rw [endW_snoc, ← List.append_assoc, ← List.append_assoc, HFL.out, nums_to]
                  have HLN : Hid ((longW (fs.take k) || (ls ++ [(nums tt).take kk]).any (fun l => decide (998 < l.length))) = (bl || decide (998 < kk))) := by
                    unfold Hid
                    have e : ((nums tt).take kk).length = kk := by rw [List.length_take, nums_len]; omega
                    rw [List.any_append, ← Bool.or_assoc, HBL.out]
                    simp [e]
                  have HE2 : Hid (FL = (ls ++ [(nums tt).take kk]) ++ foldL 0 (nums (tt.extract kk tt.size))) := by unfold Hid; rw [HE.out, nums_from]; simp
                  clear hfl hz
                  rcases hcase with rfl | ⟨rfl, h9⟩ | ⟨rfl, h9⟩
                  · go_wp2_with (first | (go_at_call 32; refine hP.mono ?_; rintro e w' ⟨rfl, rfl⟩) | (at_builtin; refine Lib.wpList_append_own_string _ rfl (.tmp 75) (.tmp 78) 22 9 rfl w.heap.size 5 j0 Tryd.underlying22 Tryd.underlying9 hi hz0 hz1 hz2 _ fl.length _ rfl OW0.out (tt.extract 0 kk) rfl (by have := HZ1.out; unfold maxLen; omega) (by have := HZ1.out; omega) hsz ?_))
                    intro v1 x1 hown1 hgrow1 _
                    have o1 : Own x1 w.heap.size v1 (fl ++ nums (tt.extract 0 kk)) := own_of hown1 (by simp [nums_len]) (by rw [str_cells]; simp)
                    have hb1 : Below w.heap.size wr x1 := (Below.refl _ _).grown hgrow1 hsz (fun q hq => by
                      rcases OW0.out.2 with ⟨h, _⟩ | ⟨g, cp, cur, h, h2, _⟩
                      · rw [h] at hq; simp [Value.ownBlock] at hq
                      · rw [h] at hq; simp [Value.ownBlock] at hq; omega)
                    have OW1 : Hid (Own x1 w.heap.size v1 (fl ++ nums (tt.extract 0 kk))) := o1
                    have HBx1 : Hid (Below w.heap.size w x1) := HB2.out.trans hb1
                    have hsz1 : w.heap.size ≤ x1.heap.size := HBx1.out.size
                    obtain ⟨n1, hn1⟩ : ∃ n1, (fl ++ nums (tt.extract 0 kk)).length = n1 := ⟨_, rfl⟩
                    have hnb1 : n1 ≤ 3000000 := by have := HZ1.out; rw [← hn1, List.length_append, nums_len]; omega
                    have ol1 : Hid (x1.ownsRow w.heap.size 5 1 v1 n1 ((fl ++ nums (tt.extract 0 kk)).map (Value.int .u8))) := by have := OW1.out; unfold Own at this; rw [hn1] at this; exact this
                    clear hown1 hgrow1 o1 hb1
                    go_wp2_with (at_builtin; refine wpList_append_own _ rfl (.tmp 80) (.tmp 81) 22 rfl w.heap.size 5 j0 (.int .u8 0) 1 1 Tryd.underlying22 hi hz0 hz1 hz2 rfl (by decide) _ n1 _ rfl (own_keep ol1.out (keep x1 _)) ⟨x1.heap.size, 0, none⟩ 2 2 [.int .u8 13, .int .u8 10] rfl rfl (cells_new x1 _ 5) (by simp [Value.oneCell']) (by unfold maxLen; omega) (by omega) (by simp; omega) ?_)
                    intro v2 x2 hown2 hgrow2 _
                    have OW2 : Hid (Own x2 w.heap.size v2 (fl ++ nums (tt.extract 0 kk) ++ [13, 10])) := own_of hown2 (by simp at hn1 ⊢; omega) (by simp)
                    have HBx2 : Hid (Below w.heap.size w x2) := (HBx1.out.alloc hsz1 _).trans ((Below.refl _ _).grown hgrow2 (by simp; omega) (fun q hq => by
                      rcases ol1.out.2 with ⟨h, _⟩ | ⟨g, cp, cur, h, h2, _⟩
                      · rw [h] at hq; simp [Value.ownBlock] at hq
                      · rw [h] at hq; simp [Value.ownBlock] at hq; omega))
                    clear hown2 hgrow2 hn1
                    go_wp2
                    go_roundw
                    case rel => exact ⟨ls ++ [(nums tt).take kk], tt.extract kk tt.size, 0, _, rfl, rfl, by omega, by have := HZ2.out; omega, HE2.out, rfl, by rw [HLN.out]; rfl, by have := OW2.out; rw [← HON.out] at this; exact this, HBx2.out⟩
                    case measure => have := HZ2.out; simp only [szOf]; omega
                  · have hd9 : decide ((kk : Int) > 998) = true := by simp; omega
                    go_wp2_with (first | (go_at_call 32; refine hP.mono ?_; rintro e w' ⟨rfl, rfl⟩) | (at_builtin; refine Lib.wpList_append_own_string _ rfl (.tmp 75) (.tmp 78) 22 9 rfl w.heap.size 5 j0 Tryd.underlying22 Tryd.underlying9 hi hz0 hz1 hz2 _ fl.length _ rfl OW0.out (tt.extract 0 kk) rfl (by have := HZ1.out; unfold maxLen; omega) (by have := HZ1.out; omega) hsz ?_))
                    intro v1 x1 hown1 hgrow1 _
                    have o1 : Own x1 w.heap.size v1 (fl ++ nums (tt.extract 0 kk)) := own_of hown1 (by simp [nums_len]) (by rw [str_cells]; simp)
                    have hb1 : Below w.heap.size wr x1 := (Below.refl _ _).grown hgrow1 hsz (fun q hq => by
                      rcases OW0.out.2 with ⟨h, _⟩ | ⟨g, cp, cur, h, h2, _⟩
                      · rw [h] at hq; simp [Value.ownBlock] at hq
                      · rw [h] at hq; simp [Value.ownBlock] at hq; omega)
                    have OW1 : Hid (Own x1 w.heap.size v1 (fl ++ nums (tt.extract 0 kk))) := o1
                    have HBx1 : Hid (Below w.heap.size w x1) := HB2.out.trans hb1
                    have hsz1 : w.heap.size ≤ x1.heap.size := HBx1.out.size
                    obtain ⟨n1, hn1⟩ : ∃ n1, (fl ++ nums (tt.extract 0 kk)).length = n1 := ⟨_, rfl⟩
                    have hnb1 : n1 ≤ 3000000 := by have := HZ1.out; rw [← hn1, List.length_append, nums_len]; omega
                    have ol1 : Hid (x1.ownsRow w.heap.size 5 1 v1 n1 ((fl ++ nums (tt.extract 0 kk)).map (Value.int .u8))) := by have := OW1.out; unfold Own at this; rw [hn1] at this; exact this
                    clear hown1 hgrow1 o1 hb1
                    go_wp2_with (at_builtin; refine wpList_append_own _ rfl (.tmp 80) (.tmp 81) 22 rfl w.heap.size 5 j0 (.int .u8 0) 1 1 Tryd.underlying22 hi hz0 hz1 hz2 rfl (by decide) _ n1 _ rfl (own_keep ol1.out (keep x1 _)) ⟨x1.heap.size, 0, none⟩ 2 2 [.int .u8 13, .int .u8 10] rfl rfl (cells_new x1 _ 5) (by simp [Value.oneCell']) (by unfold maxLen; omega) (by omega) (by simp; omega) ?_)
                    intro v2 x2 hown2 hgrow2 _
                    have OW2 : Hid (Own x2 w.heap.size v2 (fl ++ nums (tt.extract 0 kk) ++ [13, 10])) := own_of hown2 (by simp at hn1 ⊢; omega) (by simp)
                    have HBx2 : Hid (Below w.heap.size w x2) := (HBx1.out.alloc hsz1 _).trans ((Below.refl _ _).grown hgrow2 (by simp; omega) (fun q hq => by
                      rcases ol1.out.2 with ⟨h, _⟩ | ⟨g, cp, cur, h, h2, _⟩
                      · rw [h] at hq; simp [Value.ownBlock] at hq
                      · rw [h] at hq; simp [Value.ownBlock] at hq; omega))
                    clear hown2 hgrow2 hn1
                    go_wp2
                    go_roundw
                    case rel => exact ⟨ls ++ [(nums tt).take kk], tt.extract kk tt.size, 0, _, rfl, rfl, by omega, by have := HZ2.out; omega, HE2.out, rfl, by rw [HLN.out, decide_eq_true h9]; rfl, by have := OW2.out; rw [← HON.out] at this; exact this, HBx2.out⟩
                    case measure => have := HZ2.out; simp only [szOf]; omega
                  · have hd9 : decide ((kk : Int) > 998) = false := by simp; omega
                    go_wp2_with (first | (go_at_call 32; refine hP.mono ?_; rintro e w' ⟨rfl, rfl⟩) | (at_builtin; refine Lib.wpList_append_own_string _ rfl (.tmp 75) (.tmp 78) 22 9 rfl w.heap.size 5 j0 Tryd.underlying22 Tryd.underlying9 hi hz0 hz1 hz2 _ fl.length _ rfl OW0.out (tt.extract 0 kk) rfl (by have := HZ1.out; unfold maxLen; omega) (by have := HZ1.out; omega) hsz ?_))
                    intro v1 x1 hown1 hgrow1 _
                    have o1 : Own x1 w.heap.size v1 (fl ++ nums (tt.extract 0 kk)) := own_of hown1 (by simp [nums_len]) (by rw [str_cells]; simp)
                    have hb1 : Below w.heap.size wr x1 := (Below.refl _ _).grown hgrow1 hsz (fun q hq => by
                      rcases OW0.out.2 with ⟨h, _⟩ | ⟨g, cp, cur, h, h2, _⟩
                      · rw [h] at hq; simp [Value.ownBlock] at hq
                      · rw [h] at hq; simp [Value.ownBlock] at hq; omega)
                    have OW1 : Hid (Own x1 w.heap.size v1 (fl ++ nums (tt.extract 0 kk))) := o1
                    have HBx1 : Hid (Below w.heap.size w x1) := HB2.out.trans hb1
                    have hsz1 : w.heap.size ≤ x1.heap.size := HBx1.out.size
                    obtain ⟨n1, hn1⟩ : ∃ n1, (fl ++ nums (tt.extract 0 kk)).length = n1 := ⟨_, rfl⟩
                    have hnb1 : n1 ≤ 3000000 := by have := HZ1.out; rw [← hn1, List.length_append, nums_len]; omega
                    have ol1 : Hid (x1.ownsRow w.heap.size 5 1 v1 n1 ((fl ++ nums (tt.extract 0 kk)).map (Value.int .u8))) := by have := OW1.out; unfold Own at this; rw [hn1] at this; exact this
                    clear hown1 hgrow1 o1 hb1
                    go_wp2_with (at_builtin; refine wpList_append_own _ rfl (.tmp 80) (.tmp 81) 22 rfl w.heap.size 5 j0 (.int .u8 0) 1 1 Tryd.underlying22 hi hz0 hz1 hz2 rfl (by decide) _ n1 _ rfl (own_keep ol1.out (keep x1 _)) ⟨x1.heap.size, 0, none⟩ 2 2 [.int .u8 13, .int .u8 10] rfl rfl (cells_new x1 _ 5) (by simp [Value.oneCell']) (by unfold maxLen; omega) (by omega) (by simp; omega) ?_)
                    intro v2 x2 hown2 hgrow2 _
                    have OW2 : Hid (Own x2 w.heap.size v2 (fl ++ nums (tt.extract 0 kk) ++ [13, 10])) := own_of hown2 (by simp at hn1 ⊢; omega) (by simp)
                    have HBx2 : Hid (Below w.heap.size w x2) := (HBx1.out.alloc hsz1 _).trans ((Below.refl _ _).grown hgrow2 (by simp; omega) (fun q hq => by
                      rcases ol1.out.2 with ⟨h, _⟩ | ⟨g, cp, cur, h, h2, _⟩
                      · rw [h] at hq; simp [Value.ownBlock] at hq
                      · rw [h] at hq; simp [Value.ownBlock] at hq; omega))
                    clear hown2 hgrow2 hn1
                    go_wp2
                    go_roundw
                    case rel => exact ⟨ls ++ [(nums tt).take kk], tt.extract kk tt.size, 0, _, rfl, rfl, by omega, by have := HZ2.out; omega, HE2.out, rfl, by rw [HLN.out, decide_eq_false h9]; rfl, by have := OW2.out; rw [← HON.out] at this; exact this, HBx2.out⟩
                    case measure => have := HZ2.out; simp only [szOf]; omega
              · have hd7 : decide ((tt.size : Int) > 76) = false := by simp; omega
                have hz : foldZ first (nums tt) = none := by unfold foldZ; rw [if_pos (by rw [nums_len]; omega)]
                have HFIN : Hid (FL = ls ++ [nums tt]) := by unfold Hid; rw [HX.out, foldL_none hz]
                have hcase : (bl = true) ∨ (bl = false ∧ 998 < tt.size) ∨ (bl = false ∧ ¬ 998 < tt.size) := by cases bl <;> simp; omega
                obtain ⟨fl, hfl⟩ : ∃ fl, acc ++ endW ls = fl := ⟨_, rfl⟩
                rw [hfl] at HOW
                have HFL : Hid (acc ++ endW ls = fl) := hfl
                have hflb : fl.length ≤ 2000000 := by rw [← hfl, List.length_append]; omega
                have OW0 : Hid (Own wr w.heap.size u4 fl) := HOW.out
                have HZ1 : Hid (tt.size ≤ 10000) := hts
                have HLN : Hid (longW (fs.take (k + 1)) = (bl || decide (998 < tt.size))) := by
                  unfold Hid
                  rw [HTK.out, longW_snoc, HLW.out, HFIN.out, List.any_append, ← Bool.or_assoc, HBL.out]
                  simp [nums_len]
                have HON : Hid (outW (fs.take (k + 1)) = fl ++ nums tt ++ [13, 10]) := by
                  unfold Hid
                  rw [HTK.out, outW_snoc, HAE.out, HLW.out, HFIN.out, endW_snoc, ← List.append_assoc, ← List.append_assoc, HFL.out]
                clear hfl
                rcases hcase with rfl | ⟨rfl, h9⟩ | ⟨rfl, h9⟩
                · go_wp2_with (at_builtin; refine Lib.wpList_append_own_string _ rfl (.tmp 92) (.tmp 93) 22 9 rfl w.heap.size 5 j0 Tryd.underlying22 Tryd.underlying9 hi hz0 hz1 hz2 _ fl.length _ rfl OW0.out tt rfl (by have := HZ1.out; unfold maxLen; omega) (by have := HZ1.out; omega) hsz ?_)
                  intro v1 x1 hown1 hgrow1 _
                  have o1 : Own x1 w.heap.size v1 (fl ++ nums tt) := own_of hown1 (by simp [nums_len]) (by rw [str_cells]; simp)
                  have hb1 : Below w.heap.size wr x1 := (Below.refl _ _).grown hgrow1 hsz (fun q hq => by
                    rcases OW0.out.2 with ⟨h, _⟩ | ⟨g, cp, cur, h, h2, _⟩
                    · rw [h] at hq; simp [Value.ownBlock] at hq
                    · rw [h] at hq; simp [Value.ownBlock] at hq; omega)
                  have OW1 : Hid (Own x1 w.heap.size v1 (fl ++ nums tt)) := o1
                  have HBx1 : Hid (Below w.heap.size w x1) := HB2.out.trans hb1
                  have hsz1 : w.heap.size ≤ x1.heap.size := HBx1.out.size
                  obtain ⟨n1, hn1⟩ : ∃ n1, (fl ++ nums tt).length = n1 := ⟨_, rfl⟩
                  have hnb1 : n1 ≤ 3000000 := by have := HZ1.out; rw [← hn1, List.length_append, nums_len]; omega
                  have ol1 : Hid (x1.ownsRow w.heap.size 5 1 v1 n1 ((fl ++ nums tt).map (Value.int .u8))) := by have := OW1.out; unfold Own at this; rw [hn1] at this; exact this
                  clear hown1 hgrow1 o1 hb1
                  go_wp2_with (at_builtin; refine wpList_append_own _ rfl (.tmp 95) (.tmp 96) 22 rfl w.heap.size 5 j0 (.int .u8 0) 1 1 Tryd.underlying22 hi hz0 hz1 hz2 rfl (by decide) _ n1 _ rfl (own_keep ol1.out (keep x1 _)) ⟨x1.heap.size, 0, none⟩ 2 2 [.int .u8 13, .int .u8 10] rfl rfl (cells_new x1 _ 5) (by simp [Value.oneCell']) (by unfold maxLen; omega) (by omega) (by simp; omega) ?_)
                  intro v2 x2 hown2 hgrow2 _
                  have OW2 : Hid (Own x2 w.heap.size v2 (fl ++ nums tt ++ [13, 10])) := own_of hown2 (by simp at hn1 ⊢; omega) (by simp)
                  have HBx2 : Hid (Below w.heap.size w x2) := (HBx1.out.alloc hsz1 _).trans ((Below.refl _ _).grown hgrow2 (by simp; omega) (fun q hq => by
                    rcases ol1.out.2 with ⟨h, _⟩ | ⟨g, cp, cur, h, h2, _⟩
                    · rw [h] at hq; simp [Value.ownBlock] at hq
                    · rw [h] at hq; simp [Value.ownBlock] at hq; omega))
                  clear hown2 hgrow2 hn1
                  go_wp2
                  go_roundw
                  case rel => exact ⟨k + 1, by go_num, by omega, HTA.out, by rw [HLN.out]; rfl, by rw [HON.out]; exact OW2.out, HBx2.out⟩
                  case measure => simp [intOf]; omega
                · omega
                · have hd9 : decide ((tt.size : Int) > 998) = false := by simp; omega
                  go_wp2_with (at_builtin; refine Lib.wpList_append_own_string _ rfl (.tmp 92) (.tmp 93) 22 9 rfl w.heap.size 5 j0 Tryd.underlying22 Tryd.underlying9 hi hz0 hz1 hz2 _ fl.length _ rfl OW0.out tt rfl (by have := HZ1.out; unfold maxLen; omega) (by have := HZ1.out; omega) hsz ?_)
                  intro v1 x1 hown1 hgrow1 _
                  have o1 : Own x1 w.heap.size v1 (fl ++ nums tt) := own_of hown1 (by simp [nums_len]) (by rw [str_cells]; simp)
                  have hb1 : Below w.heap.size wr x1 := (Below.refl _ _).grown hgrow1 hsz (fun q hq => by
                    rcases OW0.out.2 with ⟨h, _⟩ | ⟨g, cp, cur, h, h2, _⟩
                    · rw [h] at hq; simp [Value.ownBlock] at hq
                    · rw [h] at hq; simp [Value.ownBlock] at hq; omega)
                  have OW1 : Hid (Own x1 w.heap.size v1 (fl ++ nums tt)) := o1
                  have HBx1 : Hid (Below w.heap.size w x1) := HB2.out.trans hb1
                  have hsz1 : w.heap.size ≤ x1.heap.size := HBx1.out.size
                  obtain ⟨n1, hn1⟩ : ∃ n1, (fl ++ nums tt).length = n1 := ⟨_, rfl⟩
                  have hnb1 : n1 ≤ 3000000 := by have := HZ1.out; rw [← hn1, List.length_append, nums_len]; omega
                  have ol1 : Hid (x1.ownsRow w.heap.size 5 1 v1 n1 ((fl ++ nums tt).map (Value.int .u8))) := by have := OW1.out; unfold Own at this; rw [hn1] at this; exact this
                  clear hown1 hgrow1 o1 hb1
                  go_wp2_with (at_builtin; refine wpList_append_own _ rfl (.tmp 95) (.tmp 96) 22 rfl w.heap.size 5 j0 (.int .u8 0) 1 1 Tryd.underlying22 hi hz0 hz1 hz2 rfl (by decide) _ n1 _ rfl (own_keep ol1.out (keep x1 _)) ⟨x1.heap.size, 0, none⟩ 2 2 [.int .u8 13, .int .u8 10] rfl rfl (cells_new x1 _ 5) (by simp [Value.oneCell']) (by unfold maxLen; omega) (by omega) (by simp; omega) ?_)
                  intro v2 x2 hown2 hgrow2 _
                  have OW2 : Hid (Own x2 w.heap.size v2 (fl ++ nums tt ++ [13, 10])) := own_of hown2 (by simp at hn1 ⊢; omega) (by simp)
                  have HBx2 : Hid (Below w.heap.size w x2) := (HBx1.out.alloc hsz1 _).trans ((Below.refl _ _).grown hgrow2 (by simp; omega) (fun q hq => by
                    rcases ol1.out.2 with ⟨h, _⟩ | ⟨g, cp, cur, h, h2, _⟩
                    · rw [h] at hq; simp [Value.ownBlock] at hq
                    · rw [h] at hq; simp [Value.ownBlock] at hq; omega))
                  clear hown2 hgrow2 hn1
                  go_wp2
                  go_roundw
                  case rel => exact ⟨k + 1, by go_num, by omega, HTA.out, by rw [HLN.out, decide_eq_false h9]; rfl, by rw [HON.out]; exact OW2.out, HBx2.out⟩
                  case measure => simp [intOf]; omega
    · have hkl : len = k := by omega
      subst hkl
      have hdk : decide ((len : Int) < (len : Int)) = false := by simp
      have htl : fs.take len = fs := List.take_of_length_le (by omega)
      rw [htl] at hacc ho HA ⊢
      cases hlg : longW fs with
      | true =>
        have HC : Hid (writeC fs = 40 ∧ writeB fs = []) := by
          have h2 : writeC fs = 40 := by unfold writeC; rw [hn, if_neg h128, if_neg (by rw [HA.out]; simp), if_pos hlg]
          exact ⟨h2, by unfold writeB; rw [h2]; rfl⟩
        obtain rfl : wc = 40 := by rw [← HWC.out, HC.out.1]
        go_wp2
        go_ret2
        exact ⟨_, rfl, by rw [HC.out.2]; exact World.ownsRow_nil _ _ _ _, HB.out⟩
      | false =>
        have HC : Hid (writeC fs = 0 ∧ writeB fs = outW fs ++ [13, 10]) := by
          have h2 : writeC fs = 0 := by unfold writeC; rw [hn, if_neg h128, if_neg (by rw [HA.out]; simp), if_neg (by rw [hlg]; simp)]
          exact ⟨h2, by unfold writeB; rw [h2]; rfl⟩
        obtain rfl : wc = 0 := by rw [← HWC.out, HC.out.1]
        obtain ⟨fl, hfl⟩ : ∃ fl, outW fs = fl := ⟨_, rfl⟩
        rw [hfl] at hacc ho HC
        have HO : Hid (Own wr w.heap.size u4 fl) := ho
        clear ho hfl
        go_wp2_with (at_builtin; refine wpList_append_own _ rfl (.tmp 99) (.tmp 100) 22 rfl w.heap.size 5 j0 (.int .u8 0) 1 1 Tryd.underlying22 hi hz0 hz1 hz2 rfl (by decide) _ fl.length _ rfl (own_keep HO.out (keep wr _)) ⟨wr.heap.size, 0, none⟩ 2 2 [.int .u8 13, .int .u8 10] rfl rfl (cells_new wr _ 5) (by simp [Value.oneCell']) (by unfold maxLen; omega) (by omega) (by simp; omega) ?_)
        intro v2 x2 hown2 hgrow2 _
        have OW2 : Hid (Own x2 w.heap.size v2 (fl ++ [13, 10])) := own_of hown2 (by simp) (by simp)
        have HBx2 : Hid (Below w.heap.size w x2) := (HB.out.alloc hsw _).trans ((Below.refl _ _).grown hgrow2 (by simp; omega) (fun q hq => by
          rcases HO.out.2 with ⟨h, _⟩ | ⟨g, cp, cur, h, h2, _⟩
          · rw [h] at hq; simp [Value.ownBlock] at hq
          · rw [h] at hq; simp [Value.ownBlock] at hq; omega))
        clear hown2 hgrow2
        go_wp2
        go_ret2
        exact ⟨_, rfl, by rw [HC.out.2]; exact OW2.out, HBx2.out⟩
end Go.Proofs.YtnpjffpioimcdaaDoor
