/-
  The document's answers: Right.
-/
import Derived.Test.YtjcjhcpaojhcfaaDoorRq
namespace Go.Proofs.YtjcjhcpaojhcfaaDoor
open Go.RowKit
set_option linter.unusedVariables false

set_option maxRecDepth 100000 in
theorem has34 (s : ByteArray) (w : World) (hs : s.size ≤ 1000000000) : Calls Tryd.prog 45 #[.string s, .string ⟨#[34]⟩] w fun e w' => e = .returned (.bool ((nums s).contains 34)) ∧ w = w' := by
  have h := has_any s ⟨#[34]⟩ w hs (by decide) (by decide)
  have e : nums ⟨#[34]⟩ = [34] := rfl
  rw [e, has_one] at h
  have e2 : (nums s).contains 34 = decide ((34 : Int) ∈ nums s) := by simp
  rw [e2]; exact h
theorem parZ_eq (pn pv : ByteArray) : parZ (nums pn, nums pv) = (nameZ (nums pn) && (decide (pv.size ≤ 256) && textZ (nums pv)) && !(nums pv).contains 34) := by
  unfold parZ; simp only; rw [nums_len]
set_option maxHeartbeats 8000000 in
set_option maxRecDepth 100000 in
theorem rright_any (nm vl : ByteArray) (a : Option Addr) (n c : Nat) (fs : List (ByteArray × ByteArray)) (w : World) (hn : fs.length = n) (hr : FRow w a fs) (h1 : nm.size ≤ 100000000) (h2 : vl.size ≤ 100000000) (hf : ∀ f ∈ fs, f.1.size ≤ 100000000 ∧ f.2.size ≤ 100000000) :
    Calls Tryd.prog 28 #[lineV nm vl a n c] w fun e w' => e = .returned (.bool (rightZ ⟨nums nm, numsP fs, nums vl⟩)) ∧ Below w.heap.size w w' := by
  have HR : Hid (FRow w a fs) := hr
  have HF : Hid (∀ f ∈ fs, f.1.size ≤ 100000000 ∧ f.2.size ≤ 100000000) := hf
  have HL : Hid ((numsP fs).length = n) := by unfold Hid numsP; rw [List.length_map]; exact hn
  have HVL : Hid ((nums vl).length = vl.size) := nums_len vl
  unfold lineV
  clear hr hf
  have hbx := heap_alloc_last w (.cells #[.string nm, .slice a n c, .string vl] 32)
  have hbk := keep w (.cells #[.string nm, .slice a n c, .string vl] 32)
  cases hty : nameZ (nums nm) with
  | false =>
    have HZ : Hid (rightZ ⟨nums nm, numsP fs, nums vl⟩ = false) := by unfold Hid rightZ; simp only; rw [hty]; rfl
    clear hbx
    go_enter Tryd.func28, Tryd.ntmps28
    go_wp2_with (go_at_call 46; refine (rname_any nm _ (by omega)).mono ?_; rintro e w1 ⟨rfl, rfl⟩; rw [hty])
    go_ret
    exact ⟨ret_bool HZ.out.symm, hbk⟩
  | true =>
    have HBX : Hid _ := hbx
    have HBK : Hid _ := hbk
    clear hbx hbk
    go_enter Tryd.func28, Tryd.ntmps28
    go_wp2_with (first
      | (go_at_call 46; refine (rname_any nm _ (by omega)).mono ?_; rintro e w1 ⟨rfl, rfl⟩; rw [hty])
      | fail)
    refine (rtext_any vl _ h2).mono ?_
    rintro e w2 ⟨rfl, hb2⟩
    have HLB : Hid (w2.heap[w.heap.size]? = some (.cells #[.string nm, .slice a n c, .string vl] 32 (0, 0))) := by
      unfold Hid; rw [hb2.block _ (by simp)]; exact HBX.out
    have HB2 : Hid (Below w.heap.size w w2) := HBK.out.trans (hb2.mono (by simp))
    have d1 : w2.cell? ⟨w.heap.size, 1, none⟩ = some (.slice a n c) := by rw [cell_of_row _ _ _ _ _ _ HLB.out]; rfl
    have d2 : w2.cell? ⟨w.heap.size, 2, none⟩ = some (.string vl) := by rw [cell_of_row _ _ _ _ _ _ HLB.out]; rfl
    have hs2 : w.heap.size < w2.heap.size := World.block_lt_of_cell? w2 _ d2
    clear hb2 HBX HBK
    cases htx : textZ (nums vl) with
    | false =>
      have HZ : Hid (rightZ ⟨nums nm, numsP fs, nums vl⟩ = false) := by unfold Hid rightZ; simp only; rw [htx]; simp
      go_wp2
      go_ret
      exact ⟨ret_bool HZ.out.symm, HB2.out⟩
    | true =>
      by_cases h4 : 4096 < vl.size
      · have e4 : decide ((4096 : Int) < (vl.size : Int)) = true := by simp; omega
        have HZ : Hid (rightZ ⟨nums nm, numsP fs, nums vl⟩ = false) := by
          unfold Hid rightZ; simp only; rw [show decide ((nums vl).length ≤ 4096) = false from by rw [HVL.out]; simp; omega]; simp
        go_wp2
        go_ret
        exact ⟨ret_bool HZ.out.symm, HB2.out⟩
      have e4 : decide ((4096 : Int) < (vl.size : Int)) = false := by simp; omega
      by_cases h16 : 16 < n
      · have hd : decide ((16 : Int) < (n : Int)) = true := by simp; omega
        have HZ : Hid (rightZ ⟨nums nm, numsP fs, nums vl⟩ = false) := by
          unfold Hid rightZ; simp only; rw [show decide ((numsP fs).length ≤ 16) = false from by rw [HL.out]; simp; omega]; simp
        go_wp2
        go_ret
        exact ⟨ret_bool HZ.out.symm, HB2.out⟩
      have hd : decide ((16 : Int) < (n : Int)) = false := by simp; omega
      have HZ : Hid (rightZ ⟨nums nm, numsP fs, nums vl⟩ = rightL [] (numsP fs)) := by
        unfold Hid rightZ; simp only
        rw [hty, htx, show decide ((nums vl).length ≤ 4096) = true from by rw [HVL.out]; simp; omega, show decide ((numsP fs).length ≤ 16) = true from by rw [HL.out]; simp; omega]; rfl
      go_wp2
      go_loopw [3, 4, 5] (fun i _ _ wr => ∃ (k : Nat), i = .int .i64 k ∧ k ≤ n ∧ wr.heap[w.heap.size]? = some (.cells #[.string nm, .slice a n c, .string vl] 32 (0, 0)) ∧ rightL ((numsP (fs.take k)).map Prod.fst) (numsP (fs.drop k)) = rightL [] (numsP fs) ∧ Below w.heap.size w wr) (fun i _ _ _ => n - (intOf i).toNat)
      case atStart => exact ⟨0, rfl, by omega, HLB.out, rfl, HB2.out⟩
      case round =>
        clear HLB HB2 d1 d2 hs2
        obtain ⟨k, rfl, hk, hlb, hrl, hb⟩ := hrel
        have HRL : Hid (rightL ((numsP (fs.take k)).map Prod.fst) (numsP (fs.drop k)) = rightL [] (numsP fs)) := hrl
        have HB : Hid (Below w.heap.size w wr) := hb
        have HLB : Hid (wr.heap[w.heap.size]? = some (.cells #[.string nm, .slice a n c, .string vl] 32 (0, 0))) := hlb
        have d1 : wr.cell? ⟨w.heap.size, 1, none⟩ = some (.slice a n c) := by rw [cell_of_row _ _ _ _ _ _ hlb]; rfl
        have hrw := HR.out.below hb
        have hsz : w.heap.size < wr.heap.size := (Array.getElem?_eq_some_iff.1 hlb).1
        clear hrl hb hlb
        by_cases hlt : k < n
        · have dk : decide ((k : Int) < (n : Int)) = true := by simp; omega
          obtain ⟨f, hfk⟩ : ∃ f, fs[k]? = some f := ⟨_, List.getElem?_eq_getElem (by omega)⟩
          have HD : Hid (fs.drop k = f :: fs.drop (k + 1)) := by
            unfold Hid
            rw [List.drop_eq_getElem_cons (by omega)]
            rw [List.getElem?_eq_getElem (by omega)] at hfk
            simp only [Option.some.injEq] at hfk
            rw [hfk]
          have HTK : Hid (fs.take (k + 1) = fs.take k ++ [f]) := by unfold Hid; rw [List.take_add_one, hfk]; rfl
          have hfz := HF.out f (List.mem_of_getElem? hfk)
          obtain ⟨pn, pv⟩ := f
          obtain ⟨hz1, hz2⟩ := hfz
          obtain ⟨b, off, rfl, hcc⟩ : ∃ b off, a = some ⟨b, off, none⟩ ∧ ∀ i f, fs[i]? = some f → wr.cell? ⟨b, off + i * 2, none⟩ = some (.string f.1) ∧ wr.cell? ⟨b, off + i * 2 + 1, none⟩ = some (.string f.2) := by
            rcases hrw with h | h
            · rw [h] at hn; simp at hn; omega
            · exact h
          obtain ⟨hc1, hc2⟩ := hcc k _ hfk
          simp only at hc1 hc2 hz1 hz2
          have HCC : Hid (∀ i f, fs[i]? = some f → wr.cell? ⟨b, off + i * 2, none⟩ = some (.string f.1) ∧ wr.cell? ⟨b, off + i * 2 + 1, none⟩ = some (.string f.2)) := hcc
          have HQ : Hid (rightL [] (numsP fs) = (!((numsP (fs.take k)).map Prod.fst).contains (nums pn) && parZ (nums pn, nums pv) && rightL ((numsP (fs.take k)).map Prod.fst ++ [nums pn]) (numsP (fs.drop (k + 1))))) := by
            unfold Hid; rw [← HRL.out, HD.out]; rfl
          have HPX := heap_alloc_last wr (.cells #[.string pn, .string pv] 42)
          have HPB : Hid _ := HPX
          clear hfk hcc HPX
          cases hA : nameZ (nums pn) with
          | false =>
            have HX : Hid (rightL [] (numsP fs) = false) := by unfold Hid; rw [HQ.out, parZ_eq, hA]; simp
            go_wp2_with (go_at_call 46; refine (rname_any pn _ (by omega)).mono ?_; rintro e w3 ⟨rfl, rfl⟩; rw [hA])
            go_ret
            exact ⟨ret_bool (by rw [HZ.out, HX.out]), HB.out.alloc HB.out.size _⟩
          | true =>
            go_wp2_with (first
              | (go_at_call 46; refine (rname_any pn _ (by omega)).mono ?_; rintro e w3 ⟨rfl, rfl⟩; rw [hA])
              | fail)
            refine (rtext_any pv _ hz2).mono ?_
            rintro e w4 ⟨rfl, hb4⟩
            have HB4 : Hid (Below w.heap.size w w4) := (HB.out.alloc HB.out.size _).trans (hb4.mono (by simp; omega))
            have HPB4 : Hid (w4.heap[wr.heap.size]? = some (.cells #[.string pn, .string pv] 42 (0, 0))) := by unfold Hid; rw [hb4.block _ (by simp)]; exact HPB.out
            have HLB4 : Hid (w4.heap[w.heap.size]? = some (.cells #[.string nm, .slice (some ⟨b, off, none⟩) n c, .string vl] 32 (0, 0))) := by
              unfold Hid; rw [hb4.block _ (by simp; omega), Below.heap_alloc _ _ _ (by omega)]; exact HLB.out
            have HC4 : Hid (∀ i f, fs[i]? = some f → w4.cell? ⟨b, off + i * 2, none⟩ = some (.string f.1)) := fun i f hfi => by
              have h := (HCC.out i f hfi).1
              have hlb := World.block_lt_of_cell? wr _ h
              rw [hb4.cell (p := ⟨b, off + i * 2, none⟩) (by simp; simp at hlb; omega), (keep wr _).cell (p := ⟨b, off + i * 2, none⟩) hlb]; exact h
            have p0 : w4.cell? ⟨wr.heap.size, 0, none⟩ = some (.string pn) := by rw [cell_of_row _ _ _ _ _ _ HPB4.out]; rfl
            have p1 : w4.cell? ⟨wr.heap.size, 1, none⟩ = some (.string pv) := by rw [cell_of_row _ _ _ _ _ _ HPB4.out]; rfl
            have l1 : w4.cell? ⟨w.heap.size, 1, none⟩ = some (.slice (some ⟨b, off, none⟩) n c) := by rw [cell_of_row _ _ _ _ _ _ HLB4.out]; rfl
            clear hb4 d1 hc1 hc2 HPB HCC HLB HB
            cases hB : textZ (nums pv) with
            | false =>
              have HX : Hid (rightL [] (numsP fs) = false) := by unfold Hid; rw [HQ.out, parZ_eq, hB]; simp
              go_wp2
              go_ret
              exact ⟨ret_bool (by rw [HZ.out, HX.out]), HB4.out⟩
            | true =>
              by_cases h25 : 256 < pv.size
              · have e5 : decide ((256 : Int) < (pv.size : Int)) = true := by simp; omega
                have HX : Hid (rightL [] (numsP fs) = false) := by unfold Hid; rw [HQ.out, parZ_eq, show decide (pv.size ≤ 256) = false from by simp; omega]; simp
                go_wp2
                go_ret
                exact ⟨ret_bool (by rw [HZ.out, HX.out]), HB4.out⟩
              have e5 : decide ((256 : Int) < (pv.size : Int)) = false := by simp; omega
              have h34 := has34 pv w4 (by omega)
              cases hD : (nums pv).contains 34 with
              | true =>
                have HX : Hid (rightL [] (numsP fs) = false) := by unfold Hid; rw [HQ.out, parZ_eq, hD]; simp
                rw [hD] at h34
                go_wp2_with (go_at_call 45; refine h34.mono ?_; rintro e w5 ⟨rfl, rfl⟩)
                go_ret
                exact ⟨ret_bool (by rw [HZ.out, HX.out]), HB4.out⟩
              | false =>
                have HPZ : Hid (parZ (nums pn, nums pv) = true) := by unfold Hid; rw [parZ_eq, hA, hB, hD, show decide (pv.size ≤ 256) = true from by simp; omega]; rfl
                rw [hD] at h34
                go_wp2_with (go_at_call 45; refine h34.mono ?_; rintro e w5 ⟨rfl, rfl⟩)
                clear h34
                go_loopw [5] (fun i wx => ∃ (j q : Nat), i = .int .i64 j ∧ j ≤ k ∧ (∀ g ∈ fs.take j, nums g.1 ≠ nums pn) ∧ wx = w4.drewN q) (fun i _ => k - (intOf i).toNat)
                case atStart => exact ⟨0, 0, rfl, by omega, by simp, rfl⟩
                case round =>
                  obtain ⟨j, q, rfl, hj, hall, rfl⟩ := hrel
                  have HAL : Hid (∀ g ∈ fs.take j, nums g.1 ≠ nums pn) := hall
                  clear hall
                  by_cases hjk : j < k
                  · have dj : decide ((j : Int) < (k : Int)) = true := by simp; omega
                    obtain ⟨g, hgj⟩ : ∃ g, fs[j]? = some g := ⟨_, List.getElem?_eq_getElem (by omega)⟩
                    have hcg := HC4.out j g hgj
                    have heq := eq_nums g.1 pn
                    have HMG : Hid (g ∈ fs.take k) := by
                      unfold Hid
                      rw [List.mem_take_iff_getElem]
                      have hjl : j < fs.length := by omega
                      refine ⟨j, by omega, ?_⟩
                      rw [List.getElem?_eq_getElem hjl] at hgj
                      simpa using hgj
                    have HTJ : Hid (∀ h ∈ fs.take (j + 1), h = g ∨ h ∈ fs.take j) := by
                      intro h hh
                      rw [List.take_add_one, hgj] at hh
                      simp at hh
                      rcases hh with hh | hh
                      · exact .inr hh
                      · exact .inl hh
                    obtain ⟨gn, gv⟩ := g
                    simp only at hcg heq
                    clear hgj
                    by_cases hsame : nums gn = nums pn
                    · rw [decide_eq_true hsame] at heq
                      have HX : Hid (rightL [] (numsP fs) = false) := by
                        unfold Hid; rw [HQ.out]
                        have : ((numsP (fs.take k)).map Prod.fst).contains (nums pn) = true := by
                          rw [List.contains_iff_mem, List.mem_map]
                          refine ⟨(nums gn, nums gv), ?_, hsame⟩
                          unfold numsP
                          exact List.mem_map.2 ⟨(gn, gv), HMG.out, rfl⟩
                        rw [this]; rfl
                      clear hsame
                      go_wp2
                      go_quiet (fail)
                      go_wp2
                      go_ret
                      exact ⟨ret_bool (by rw [HZ.out, HX.out]), below_drewN (below_drewN HB4.out q) _⟩
                    · rw [decide_eq_false hsame] at heq
                      have HNS : Hid (nums gn ≠ nums pn) := hsame
                      clear hsame
                      go_wp2
                      go_quiet (fail)
                      go_wp2
                      go_roundw
                      case rel =>
                        refine ⟨j + 1, q + nq, by go_num, by omega, ?_, by first | rfl | (simp [World.drewN, Nat.add_assoc])⟩
                        intro h hh
                        rcases HTJ.out h hh with rfl | hh
                        · exact HNS.out
                        · exact HAL.out h hh
                      case measure => simp [intOf]; omega
                  · obtain rfl : j = k := by omega
                    have dj : decide ((j : Int) < (j : Int)) = false := by simp
                    have HX : Hid (rightL ((numsP (fs.take (j + 1))).map Prod.fst) (numsP (fs.drop (j + 1))) = rightL [] (numsP fs)) := by
                      unfold Hid; rw [HQ.out, HPZ.out, HTK.out]
                      have : ((numsP (fs.take j)).map Prod.fst).contains (nums pn) = false := by
                        rw [Bool.eq_false_iff]
                        intro hc
                        rw [List.contains_iff_mem, List.mem_map] at hc
                        obtain ⟨x, hx, hxe⟩ := hc
                        unfold numsP at hx
                        obtain ⟨g, hg, rfl⟩ := List.mem_map.1 hx
                        exact HAL.out g hg hxe
                      rw [this]; simp [numsP]
                    go_wp2
                    go_roundw
                    case rel => exact ⟨j + 1, by go_num, by omega, HLB4.out, HX.out, below_drewN HB4.out q⟩
                    case measure => simp [intOf]; omega
        · obtain rfl : k = n := by omega
          have dk : decide ((k : Int) < (k : Int)) = false := by simp
          have HX : Hid (rightL [] (numsP fs) = true) := by
            unfold Hid; rw [← HRL.out, List.drop_of_length_le (by omega)]; rfl
          go_wp2
          go_ret
          exact ⟨ret_bool (by rw [HZ.out, HX.out]), HB.out⟩
end Go.Proofs.YtjcjhcpaojhcfaaDoor
