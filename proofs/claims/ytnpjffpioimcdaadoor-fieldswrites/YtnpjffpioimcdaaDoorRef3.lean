/-
  The reference's Same, Get and place.
-/
import Derived.Test.YtnpjffpioimcdaaDoorRef2
namespace Go.Proofs.YtnpjffpioimcdaaDoor
open Go.RowKit
set_option linter.unusedVariables false

theorem smallZ_byt {c : Int} (h : 0 ≤ c ∧ c < 256) : 0 ≤ smallZ c ∧ smallZ c < 256 := by
  unfold smallZ; split <;> omega
set_option maxRecDepth 100000 in
set_option maxHeartbeats 4000000 in
theorem lower_any (s : ByteArray) (w : World) (hs : s.size ≤ 100000000) : Calls Tryd.prog 44 #[.string s] w fun e w' => e = .returned (.string (strOfNums ((nums s).map smallZ))) ∧ Below w.heap.size w w' := by
  obtain ⟨j0, hi, hz0, hz1, hz2⟩ := info_parts Tryd.info5
  go_enter Tryd.func44, Tryd.ntmps44
  go_wp2
  go_loopw [3, 4] (fun v i wr => ∃ k : Nat, i = .int .i64 k ∧ k ≤ s.size ∧ wr.ownsRow w.heap.size 5 1 v (((nums s).take k).map smallZ).length ((((nums s).take k).map smallZ).map (Value.int .u8)) ∧ Below w.heap.size w wr) (fun _ i _ => s.size - (intOf i).toNat)
  case atStart => exact ⟨0, rfl, by omega, World.ownsRow_nil _ _ _ _, Below.refl _ _⟩
  case round =>
    obtain ⟨k, rfl, hk, ho, hb⟩ := hrel
    have HO : Hid (wr.ownsRow w.heap.size 5 1 u3 (((nums s).take k).map smallZ).length ((((nums s).take k).map smallZ).map (Value.int .u8))) := ho
    have HB : Hid (Below w.heap.size w wr) := hb
    have hsz : w.heap.size ≤ wr.heap.size := hb.size
    clear ho hb
    by_cases hlt : k < s.size
    · have hdk : decide ((k : Int) < (s.size : Int)) = true := by simp; omega
      have HN : Hid ((nums s)[k]? = some (s[k].toNat : Int)) := nums_at s k hlt
      have hcb : (0 : Int) ≤ (s[k].toNat : Int) ∧ (s[k].toNat : Int) < 256 := by have := s[k].toNat_lt; omega
      obtain ⟨c, hc⟩ : ∃ c : Int, (s[k].toNat : Int) = c := ⟨_, rfl⟩
      rw [hc] at HN hcb
      have HT : Hid (((nums s).take (k + 1)).map smallZ = ((nums s).take k).map smallZ ++ [smallZ c]) := by unfold Hid; rw [List.take_add_one, HN.out]; simp
      have hln : (((nums s).take k).map smallZ).length = k := by simp [nums_len]; omega
      rw [hln] at HO
      by_cases hr : 65 ≤ c ∧ c ≤ 90
      · have hsm : smallZ c = c + 32 := by unfold smallZ; rw [if_pos hr]
        have hd1 : decide (c ≥ 65) = true := by simp; omega
        have hd2 : decide (c ≤ 90) = true := by simp; omega
        go_wp2_with (at_builtin; refine wpList_append_own _ rfl (.tmp 23) (.tmp 25) 22 rfl w.heap.size 5 j0 (.int .u8 0) 1 1 Tryd.underlying22 hi hz0 hz1 hz2 rfl (by decide) _ k _ rfl (own_keep HO.out (keep wr _)) ⟨wr.heap.size, 0, none⟩ 1 1 [.int .u8 (c + 32)] rfl rfl (cells_new wr _ 5) (by simp [Value.oneCell']) (by unfold maxLen; omega) (by omega) (by simp; omega) ?_)
        intro v2 w2 ho2 hg2 _
        have HO2 : Hid (w2.ownsRow w.heap.size 5 1 v2 (((nums s).take (k + 1)).map smallZ).length ((((nums s).take (k + 1)).map smallZ).map (Value.int .u8))) := by unfold Hid; rw [HT.out, hsm, List.length_append, hln]; simpa using ho2
        have HB2 : Hid (Below w.heap.size w w2) := (HB.out.alloc hsz _).trans ((Below.refl _ _).grown hg2 (by simp; omega) (fun q hq => by
          rcases HO.out.2 with ⟨h, _⟩ | ⟨g, cp, cur, h, h2, _⟩
          · rw [h] at hq; simp [Value.ownBlock] at hq
          · rw [h] at hq; simp [Value.ownBlock] at hq; omega))
        clear ho2 hg2
        go_wp2
        go_roundw
        case rel => exact ⟨k + 1, by go_num, by omega, HO2.out, HB2.out⟩
        case measure => simp [intOf]; omega
      · have hsm : smallZ c = c := by unfold smallZ; rw [if_neg hr]
        have key : ∀ (P : Prop), P → P := fun _ h => h
        by_cases h65 : 65 ≤ c
        · have hd1 : decide (c ≥ 65) = true := by simp; omega
          have hd2 : decide (c ≤ 90) = false := by simp; omega
          go_wp2_with (at_builtin; refine wpList_append_own _ rfl (.tmp 23) (.tmp 25) 22 rfl w.heap.size 5 j0 (.int .u8 0) 1 1 Tryd.underlying22 hi hz0 hz1 hz2 rfl (by decide) _ k _ rfl (own_keep HO.out (keep wr _)) ⟨wr.heap.size, 0, none⟩ 1 1 [.int .u8 c] rfl rfl (cells_new wr _ 5) (by simp [Value.oneCell']) (by unfold maxLen; omega) (by omega) (by simp; omega) ?_)
          intro v2 w2 ho2 hg2 _
          have HO2 : Hid (w2.ownsRow w.heap.size 5 1 v2 (((nums s).take (k + 1)).map smallZ).length ((((nums s).take (k + 1)).map smallZ).map (Value.int .u8))) := by unfold Hid; rw [HT.out, hsm, List.length_append, hln]; simpa using ho2
          have HB2 : Hid (Below w.heap.size w w2) := (HB.out.alloc hsz _).trans ((Below.refl _ _).grown hg2 (by simp; omega) (fun q hq => by
            rcases HO.out.2 with ⟨h, _⟩ | ⟨g, cp, cur, h, h2, _⟩
            · rw [h] at hq; simp [Value.ownBlock] at hq
            · rw [h] at hq; simp [Value.ownBlock] at hq; omega))
          clear ho2 hg2
          go_wp2
          go_roundw
          case rel => exact ⟨k + 1, by go_num, by omega, HO2.out, HB2.out⟩
          case measure => simp [intOf]; omega
        · have hd1 : decide (c ≥ 65) = false := by simp; omega
          go_wp2_with (at_builtin; refine wpList_append_own _ rfl (.tmp 23) (.tmp 25) 22 rfl w.heap.size 5 j0 (.int .u8 0) 1 1 Tryd.underlying22 hi hz0 hz1 hz2 rfl (by decide) _ k _ rfl (own_keep HO.out (keep wr _)) ⟨wr.heap.size, 0, none⟩ 1 1 [.int .u8 c] rfl rfl (cells_new wr _ 5) (by simp [Value.oneCell']) (by unfold maxLen; omega) (by omega) (by simp; omega) ?_)
          intro v2 w2 ho2 hg2 _
          have HO2 : Hid (w2.ownsRow w.heap.size 5 1 v2 (((nums s).take (k + 1)).map smallZ).length ((((nums s).take (k + 1)).map smallZ).map (Value.int .u8))) := by unfold Hid; rw [HT.out, hsm, List.length_append, hln]; simpa using ho2
          have HB2 : Hid (Below w.heap.size w w2) := (HB.out.alloc hsz _).trans ((Below.refl _ _).grown hg2 (by simp; omega) (fun q hq => by
            rcases HO.out.2 with ⟨h, _⟩ | ⟨g, cp, cur, h, h2, _⟩
            · rw [h] at hq; simp [Value.ownBlock] at hq
            · rw [h] at hq; simp [Value.ownBlock] at hq; omega))
          clear ho2 hg2
          go_wp2
          go_roundw
          case rel => exact ⟨k + 1, by go_num, by omega, HO2.out, HB2.out⟩
          case measure => simp [intOf]; omega
    · obtain rfl : k = s.size := by omega
      have hdk : decide ((s.size : Int) < (s.size : Int)) = false := by simp
      have HO2 : Hid (Own wr w.heap.size u3 ((nums s).map smallZ)) := by
        have h := HO.out
        rw [List.take_of_length_le (by rw [nums_len]; exact Nat.le_refl _)] at h
        exact h
      obtain ⟨a, c, hv, _, _, hrw, _⟩ := own_row' HO2.out
      obtain ⟨m, hm⟩ : ∃ m, ((nums s).map smallZ).length = m := ⟨_, rfl⟩
      rw [hm] at hv
      subst hv
      have kc := conv_row m c hm hrw
      clear hm
      go_wp2
      go_ret
      exact ⟨rfl, HB.out⟩
theorem same_str (s t : ByteArray) : ((strOfNums ((nums s).map smallZ)).toList == (strOfNums ((nums t).map smallZ)).toList) = sameZ (nums s) (nums t) := by
  have hb : ∀ u : ByteArray, Byt ((nums u).map smallZ) := fun u x hx => by
    obtain ⟨y, hy, rfl⟩ := List.mem_map.1 hx
    exact smallZ_byt (nums_byt u y hy)
  rw [eq_nums, nums_str (hb s), nums_str (hb t)]; rfl
set_option maxHeartbeats 2000000 in
theorem rsame_any (s t : ByteArray) (w : World) (hs : s.size ≤ 100000000) (ht : t.size ≤ 100000000) : Calls Tryd.prog 33 #[.string s, .string t] w fun e w' => e = .returned (.bool (sameZ (nums s) (nums t))) ∧ Below w.heap.size w w' := by
  go_enter Tryd.func33, Tryd.ntmps33
  go_wp2_with fail
  refine (lower_any s w hs).mono ?_
  rintro e w1 ⟨rfl, hb1⟩
  go_wp2_with fail
  refine (lower_any t w1 ht).mono ?_
  rintro e w2 ⟨rfl, hb2⟩
  go_wp2
  go_ret
  exact ⟨ret_bool (same_str s t), hb1.trans (hb2.mono hb1.size)⟩
def getL (nm : List Int) (fs : List (ByteArray × ByteArray)) : List ByteArray := (fs.filter (fun f => sameZ (nums f.1) nm)).map (fun f => f.2)
theorem getZ_L (nm : List Int) : ∀ (fs : List (ByteArray × ByteArray)) (v : ByteArray) (n : Nat), getZ nm fs v n = (if n = 0 then (getL nm fs).headD v else v, n + (getL nm fs).length)
  | [], v, n => by simp [getZ, getL]
  | f :: fs, v, n => by
    rw [getZ]
    by_cases h : sameZ (nums f.1) nm = true
    · have e : getL nm (f :: fs) = f.2 :: getL nm fs := by simp [getL, h]
      rw [if_pos h, getZ_L nm fs, e, if_neg (by omega)]
      simp only [List.headD_cons, List.length_cons, Prod.mk.injEq]
      exact ⟨by first | rfl | simp, by omega⟩
    · have e : getL nm (f :: fs) = getL nm fs := by simp [getL, h]
      rw [if_neg h, getZ_L nm fs, e]
set_option maxRecDepth 100000 in
set_option maxHeartbeats 4000000 in
theorem rget_any (a : Option Addr) (n c : Nat) (s : ByteArray) (fs : List (ByteArray × ByteArray)) (w : World) (hn : fs.length = n) (hbig : n ≤ 1000000) (hr : FRow w a fs) (hf : ∀ f ∈ fs, f.1.size ≤ 100000000) (hs : s.size ≤ 100000000) (gv : ByteArray) (gn : Nat) (hg : getZ (nums s) fs ⟨#[]⟩ 0 = (gv, gn)) :
    Calls Tryd.prog 17 #[.slice a n c, .string s] w fun e w' => e = .returned (.tuple #[.string gv, .int .i64 gn]) ∧ Below w.heap.size w w' := by
  obtain ⟨j0, hi, hz0, hz1, hz2⟩ := info_parts Tryd.info9
  have HR : Hid (FRow w a fs) := hr
  have HF : Hid (∀ f ∈ fs, f.1.size ≤ 100000000) := hf
  have HG : Hid (gv = (getL (nums s) fs).headD ⟨#[]⟩ ∧ gn = (getL (nums s) fs).length) := by
    have h := getZ_L (nums s) fs ⟨#[]⟩ 0
    rw [hg, if_pos rfl] at h
    simp only [Prod.mk.injEq] at h
    exact ⟨h.1, by omega⟩
  clear hr hf hg
  go_enter Tryd.func17, Tryd.ntmps17
  go_wp2
  go_loopw [6, 7] (fun v i wr => ∃ (k : Nat) (xs : List ByteArray), i = .int .i64 k ∧ k ≤ n ∧ xs.length ≤ k ∧ wr.ownsRow w.heap.size 9 1 v xs.length (xs.map Value.string) ∧ xs = getL (nums s) (fs.take k) ∧ Below w.heap.size w wr) (fun _ i _ => n - (intOf i).toNat)
  case atStart => exact ⟨0, [], rfl, by omega, by simp, World.ownsRow_nil _ _ _ _, by simp [getL], Below.refl _ _⟩
  case round =>
    obtain ⟨k, xs, rfl, hk, hx, ho, he, hb⟩ := hrel
    have HO : Hid (wr.ownsRow w.heap.size 9 1 u6 xs.length (xs.map Value.string)) := ho
    have HE : Hid (xs = getL (nums s) (fs.take k)) := he
    have HB : Hid (Below w.heap.size w wr) := hb
    have hsz : w.heap.size ≤ wr.heap.size := hb.size
    have hrw := HR.out.below hb
    clear ho he hb
    by_cases hlt : k < n
    · have hdk : decide ((k : Int) < (n : Int)) = true := by simp; omega
      obtain ⟨⟨nm, vl⟩, hfk⟩ : ∃ f, fs[k]? = some f := ⟨_, List.getElem?_eq_getElem (by omega)⟩
      have hsf : nm.size ≤ 100000000 := HF.out (nm, vl) (List.mem_of_getElem? hfk)
      have HT : Hid (getL (nums s) (fs.take (k + 1)) = getL (nums s) (fs.take k) ++ (if sameZ (nums nm) (nums s) = true then [vl] else [])) := by
        unfold Hid getL
        rw [List.take_add_one, hfk]
        simp only [Option.toList_some, List.filter_append, List.map_append]
        congr 1
        by_cases h : sameZ (nums nm) (nums s) = true <;> simp [h]
      rcases hrw with h | ⟨b, off, rfl, h⟩
      · rw [h] at hn; simp at hn; omega
      have HCC : Hid (∀ X, Below wr.heap.size wr X → X.cell? ⟨b, off + k * 2, none⟩ = some (.string nm) ∧ X.cell? ⟨b, off + k * 2 + 1, none⟩ = some (.string vl)) := by
        intro X hX
        have := h k _ hfk
        have h1 := World.block_lt_of_cell? wr _ this.1
        exact ⟨(hX.cell h1).trans this.1, (hX.cell (p := ⟨b, off + k * 2 + 1, none⟩) h1).trans this.2⟩
      obtain ⟨hc1, _⟩ := HCC.out wr (Below.refl _ _)
      clear h hfk
      go_wp2_with fail
      refine (rsame_any nm s wr hsf hs).mono ?_
      rintro e w2 ⟨rfl, hb2⟩
      obtain ⟨hc1', hc2⟩ := HCC.out w2 hb2
      have HO2 : Hid (w2.ownsRow w.heap.size 9 1 u6 xs.length (xs.map Value.string)) := own_keep HO.out hb2
      have HB2 : Hid (Below w.heap.size w w2) := HB.out.trans (hb2.mono hsz)
      have hsz2 : w.heap.size ≤ w2.heap.size := HB2.out.size
      clear hb2 hc1
      cases hsm : sameZ (nums nm) (nums s) with
      | true =>
        go_wp2_with (at_builtin; refine wpList_append_own _ rfl (.tmp 21) (.tmp 27) 61 rfl w.heap.size 9 j0 (.string ⟨#[]⟩) 1 16 Tryd.underlying61 hi hz0 hz1 hz2 rfl (by decide) _ xs.length _ rfl (own_keep HO2.out (keep w2 _)) ⟨w2.heap.size, 0, none⟩ 1 1 [.string vl] rfl rfl (cells_new w2 _ 9) (by simp [Value.oneCell']) (by unfold maxLen; omega) (by omega) (by simp; omega) ?_)
        intro v3 w3 ho3 hg3 _
        have HO3 : Hid (w3.ownsRow w.heap.size 9 1 v3 (xs ++ [vl]).length ((xs ++ [vl]).map Value.string)) := by unfold Hid; simpa using ho3
        have HB3 : Hid (Below w.heap.size w w3) := (HB2.out.alloc hsz2 _).trans ((Below.refl _ _).grown hg3 (by simp; omega) (fun q hq => by
          rcases HO2.out.2 with ⟨h, _⟩ | ⟨g, cp, cur, h, h2, _⟩
          · rw [h] at hq; simp [Value.ownBlock] at hq
          · rw [h] at hq; simp [Value.ownBlock] at hq; omega))
        clear ho3 hg3
        go_wp2
        go_roundw
        case rel => exact ⟨k + 1, xs ++ [vl], by go_num, by omega, by simp; omega, HO3.out, by rw [HT.out, if_pos hsm, ← HE.out], HB3.out⟩
        case measure => simp [intOf]; omega
      | false =>
        go_wp2
        go_roundw
        case rel => exact ⟨k + 1, xs, by go_num, by omega, by omega, HO2.out, by rw [HT.out, if_neg (by rw [hsm]; simp), List.append_nil, ← HE.out], HB2.out⟩
        case measure => simp [intOf]; omega
    · obtain rfl : k = n := by omega
      have hdk : decide ((k : Int) < (k : Int)) = false := by simp
      have HX : Hid (xs = getL (nums s) fs) := by unfold Hid; rw [HE.out, List.take_of_length_le (by omega)]
      cases xs with
      | nil =>
        obtain ⟨g1, g2⟩ := HG.out
        rw [← HX.out] at g1 g2
        simp at g1 g2
        subst g1
        subst g2
        have hv : u6 = .slice none 0 0 ∨ ∃ g cp, u6 = .slice (some ⟨g, 0, none⟩) 0 cp := by
          rcases HO.out.2 with ⟨h, _⟩ | ⟨g, cp, cur, h, _⟩
          · exact .inl h
          · exact .inr ⟨g, cp, h⟩
        rcases hv with rfl | ⟨g, cp, rfl⟩
        · go_wp2
          go_ret2
          exact ⟨rfl, HB.out⟩
        · go_wp2
          go_ret2
          exact ⟨rfl, HB.out⟩
      | cons t r =>
        obtain ⟨g1, g2⟩ := HG.out
        rw [← HX.out] at g1 g2
        simp at g1 g2
        subst g1
        subst g2
        obtain ⟨g, cp, hv⟩ : ∃ g cp, u6 = .slice (some ⟨g, 0, none⟩) (r.length + 1) cp := by
          rcases HO.out.2 with ⟨_, h⟩ | ⟨g, cp, cur, h, _⟩
          · simp at h
          · exact ⟨g, cp, h⟩
        subst hv
        have hcell : wr.cell? ⟨g, 0, none⟩ = some (.string gv) := by
          have := HO.out.cells (g := g) rfl 0 (.string gv) (by simp)
          rw [add_plain] at this
          simpa using this
        go_wp2
        go_ret2
        exact ⟨rfl, HB.out⟩
/-- Where the reference folds. -/
def plA (l : List Int) (frm : Nat) : Nat → Int
  | 0 => -1
  | j + 1 => if frm ≤ j ∧ l[j]? = some 32 then (if j ≤ 76 ∨ plA l frm j < 0 then (j : Int) else plA l frm j) else plA l frm j
theorem plA_low (l : List Int) (frm : Nat) : ∀ j, j ≤ 77 → plA l frm j = if (frm : Int) ≤ lastI l j then lastI l j else -1
  | 0, _ => by unfold plA lastI; rw [if_neg (by omega)]
  | j + 1, h => by
    have ih := plA_low l frm j (by omega)
    unfold plA lastI
    by_cases q : l[j]? = some 32
    · by_cases q2 : frm ≤ j
      · rw [if_pos ⟨q2, q⟩, if_pos (.inl (by omega)), if_pos q, if_pos (by omega)]
      · rw [if_neg (fun h => q2 h.1), if_pos q, if_neg (by omega), ih]
        rcases lastI_spec l j with ⟨e, _⟩ | ⟨i, hi, e, _⟩
        · rw [e]; simp
        · rw [e, if_neg (by omega)]
    · rw [if_neg (fun h => q h.2), if_neg q, ih]
theorem plA_high (l : List Int) (frm : Nat) (hf : frm ≤ 77) : ∀ d, (0 ≤ plA l frm 77 → plA l frm (77 + d) = plA l frm 77) ∧ (plA l frm 77 < 0 → (plA l frm (77 + d) = -1 ∧ ∀ j, j < d → (l.drop 77)[j]? ≠ some 32) ∨ (∃ i : Nat, i < d ∧ (l.drop 77)[i]? = some 32 ∧ (∀ j, j < i → (l.drop 77)[j]? ≠ some 32) ∧ plA l frm (77 + d) = 77 + i))
  | 0 => by
    refine ⟨fun _ => rfl, fun h => .inl ⟨?_, fun j hj => by omega⟩⟩
    have := plA_low l frm 77 (by omega)
    simp only [Nat.add_zero]
    rw [this] at h ⊢
    split
    · rename_i q; rw [if_pos q] at h; rcases lastI_spec l 77 with ⟨e, _⟩ | ⟨i, hi, e, _⟩ <;> omega
    · rfl
  | d + 1 => by
    obtain ⟨h1, h2⟩ := plA_high l frm hf d
    have e : (l.drop 77)[d]? = l[77 + d]? := by rw [List.getElem?_drop]
    have hu : plA l frm (77 + (d + 1)) = if frm ≤ 77 + d ∧ l[77 + d]? = some 32 then (if 77 + d ≤ 76 ∨ plA l frm (77 + d) < 0 then ((77 + d : Nat) : Int) else plA l frm (77 + d)) else plA l frm (77 + d) := rfl
    rw [hu]
    by_cases q : l[77 + d]? = some 32
    · rw [if_pos ⟨by omega, q⟩]
      refine ⟨fun h => ?_, fun h => ?_⟩
      · rw [if_neg (by rw [h1 h]; omega), h1 h]
      · rcases h2 h with ⟨g1, g2⟩ | ⟨i, i1, i2, i3, i4⟩
        · rw [if_pos (.inr (by omega))]
          exact .inr ⟨d, by omega, by rw [e]; exact q, g2, by omega⟩
        · rw [if_neg (by omega)]
          exact .inr ⟨i, by omega, i2, i3, i4⟩
    · rw [if_neg (fun h => q h.2)]
      refine ⟨h1, fun h => ?_⟩
      rcases h2 h with ⟨g1, g2⟩ | ⟨i, i1, i2, i3, i4⟩
      · refine .inl ⟨g1, fun j hj => ?_⟩
        by_cases hjd : j = d
        · subst hjd; rw [e]; exact q
        · exact g2 j (by omega)
      · exact .inr ⟨i, by omega, i2, i3, i4⟩
theorem plA_fold {l : List Int} {first : Nat} (hf : first ≤ 76) (hl : 76 < l.length) : (∀ k, foldZ first l = some k → plA l (first + 1) l.length = k) ∧ (foldZ first l = none → plA l (first + 1) l.length < 0) := by
  obtain ⟨d, hd⟩ : ∃ d, l.length = 77 + d := ⟨l.length - 77, by omega⟩
  have h77 := plA_low l (first + 1) 77 (Nat.le_refl _)
  obtain ⟨h1, h2⟩ := plA_high l (first + 1) (by omega) d
  rw [hd]
  unfold foldZ
  rw [if_neg (by omega)]
  by_cases q : (first : Int) < lastI l 77
  · rw [if_pos (by omega)] at h77
    rw [if_pos q]
    have h0 : 0 ≤ plA l (first + 1) 77 := by rw [h77]; omega
    rw [h1 h0, h77]
    exact ⟨fun k hk => by simp at hk; omega, fun h => by simp at h⟩
  · rw [if_neg (by omega)] at h77
    rw [if_neg q]
    rcases h2 (by omega) with ⟨g1, g2⟩ | ⟨i, i1, i2, i3, i4⟩
    · have hn : firstI (l.drop 77) = -1 := by
        rcases firstI_spec (l.drop 77) with ⟨e, _⟩ | ⟨i, e, hc, _⟩
        · exact e
        · exfalso
          rcases Nat.lt_or_ge i d with h | h
          · exact g2 i h hc
          · rw [List.getElem?_eq_none (by simp; omega)] at hc; simp at hc
      rw [hn, if_neg (by omega), g1]
      exact ⟨fun k hk => by simp at hk, fun _ => by omega⟩
    · have hn : firstI (l.drop 77) = i := by
        rcases firstI_spec (l.drop 77) with ⟨e, hn⟩ | ⟨i', e, hc, hn⟩
        · exact absurd i2 (hn i)
        · have : i' = i := by
            rcases Nat.lt_trichotomy i' i with h | h | h
            · exact absurd hc (i3 i' h)
            · exact h
            · exact absurd i2 (hn i h)
          rw [e, this]
      rw [hn, if_pos (by omega), i4]
      exact ⟨fun k hk => by simp at hk; omega, fun h => by simp at h⟩
set_option maxHeartbeats 2000000 in
theorem place_any (s : ByteArray) (frm : Nat) (w : World) (hs : s.size ≤ 1000000) (hf : frm ≤ s.size) : Calls Tryd.prog 32 #[.string s, .int .i64 frm] w fun e w' => e = .returned (.int .i64 (plA (nums s) frm s.size)) ∧ w = w' := by
  have HB0 : Hid (∀ j, j ≤ frm → plA (nums s) frm j = -1) := by
    intro j
    induction j with
    | zero => intro _; rfl
    | succ j ih => intro hj; unfold plA; rw [if_neg (fun h => by omega), ih (by omega)]
  go_enter Tryd.func32, Tryd.ntmps32
  go_wp2
  go_loopw [5, 6] (fun v i wr => ∃ j : Nat, i = .int .i64 j ∧ v = .int .i64 (plA (nums s) frm j) ∧ frm ≤ j ∧ j ≤ s.size ∧ w = wr) (fun _ i _ => s.size - (intOf i).toNat)
  case atStart => exact ⟨frm, rfl, by rw [HB0.out frm (Nat.le_refl _)], by omega, hf, rfl⟩
  case round =>
    obtain ⟨j, rfl, rfl, hj1, hj2, rfl⟩ := hrel
    by_cases hlt : j < s.size
    · have hdj : decide ((j : Int) < (s.size : Int)) = true := by simp; omega
      have HN : Hid ((nums s)[j]? = some (s[j].toNat : Int)) := nums_at s j hlt
      obtain ⟨c, hc⟩ : ∃ c : Int, (s[j].toNat : Int) = c := ⟨_, rfl⟩
      rw [hc] at HN
      have HU : Hid (plA (nums s) frm (j + 1) = if c = 32 then (if j ≤ 76 ∨ plA (nums s) frm j < 0 then (j : Int) else plA (nums s) frm j) else plA (nums s) frm j) := by
        have hu : plA (nums s) frm (j + 1) = if frm ≤ j ∧ (nums s)[j]? = some 32 then (if j ≤ 76 ∨ plA (nums s) frm j < 0 then (j : Int) else plA (nums s) frm j) else plA (nums s) frm j := rfl
        unfold Hid
        rw [hu, HN.out]
        by_cases q : c = 32
        · rw [if_pos ⟨hj1, by rw [q]⟩, if_pos q]
        · rw [if_neg (fun h => q (by simpa using h.2)), if_neg q]
      obtain ⟨x, hx⟩ : ∃ x, plA (nums s) frm j = x := ⟨_, rfl⟩
      rw [hx] at HU ⊢
      clear hx
      by_cases q : c = 32
      · subst q
        by_cases q7 : j ≤ 76
        · have hd7 : decide ((j : Int) ≤ 76) = true := by simp; omega
          go_wp2
          go_roundw
          case rel => exact ⟨j + 1, by go_num, by rw [HU.out, if_pos rfl, if_pos (.inl q7)], by omega, by omega, by first | trivial | rfl⟩
          case measure => simp [intOf]; omega
        · have hd7 : decide ((j : Int) ≤ 76) = false := by simp; omega
          by_cases qx : x < 0
          · have hdx : decide (x < 0) = true := by simpa using qx
            go_wp2
            go_roundw
            case rel => exact ⟨j + 1, by go_num, by rw [HU.out, if_pos rfl, if_pos (.inr (by omega))], by omega, by omega, by first | trivial | rfl⟩
            case measure => simp [intOf]; omega
          · have hdx : decide (x < 0) = false := by simpa using qx
            go_wp2
            go_roundw
            case rel => exact ⟨j + 1, by go_num, by rw [HU.out, if_pos rfl, if_neg (by omega)], by omega, by omega, by first | trivial | rfl⟩
            case measure => simp [intOf]; omega
      · have hq : (c != 32) = true := by simpa using q
        go_wp2
        go_roundw
        case rel => exact ⟨j + 1, by go_num, by rw [HU.out, if_neg q], by omega, by omega, by first | trivial | rfl⟩
        case measure => simp [intOf]; omega
    · obtain rfl : j = s.size := by omega
      have hdj : decide ((s.size : Int) < (s.size : Int)) = false := by simp
      go_wp2
      go_ret
      exact ⟨rfl, rfl⟩
end Go.Proofs.YtnpjffpioimcdaaDoor
