/-
  The document's answers: Plain.
-/
import Derived.Test.YtjcjhcpaojhcfaaRv
namespace Go.Proofs.Ytjcjhcpaojhcfaa
open Go.RowKit
set_option linter.unusedVariables false

theorem has1 (s : ByteArray) (u : UInt8) (w : World) (hs : s.size ≤ 1000000000) : Calls Try.prog 28 #[.string s, .string ⟨#[u]⟩] w fun e w' => e = .returned (.bool (decide ((u.toNat : Int) ∈ nums s))) ∧ w = w' := by
  have h := has_any s ⟨#[u]⟩ w hs (by exact Nat.le_refl 1) (by show 1 ≤ 10; omega)
  have e : nums ⟨#[u]⟩ = [(u.toNat : Int)] := rfl
  rw [e, has_one] at h
  exact h
theorem any_three (l : List Int) : l.any mk3 = (decide ((59 : Int) ∈ l) || decide ((58 : Int) ∈ l) || decide ((44 : Int) ∈ l)) := by
  rw [Bool.eq_iff_iff]
  simp only [List.any_eq_true, Bool.or_eq_true, decide_eq_true_eq]
  constructor
  · rintro ⟨x, hx, h⟩
    unfold mk3 at h
    simp at h
    rcases h with rfl | rfl | rfl
    · exact .inl (.inl hx)
    · exact .inl (.inr hx)
    · exact .inr hx
  · rintro ((h | h) | h)
    · exact ⟨59, h, rfl⟩
    · exact ⟨58, h, rfl⟩
    · exact ⟨44, h, rfl⟩
theorem or3 {x y z : Bool} (h : (x || y || z) = true) : x = true ∨ (x = false ∧ y = true) ∨ (x = false ∧ y = false ∧ z = true) := by
  cases x <;> cases y <;> cases z <;> simp_all
theorem or3f {x y z : Bool} (h : (x || y || z) = false) : x = false ∧ y = false ∧ z = false := by
  cases x <;> cases y <;> cases z <;> simp_all
set_option maxHeartbeats 4000000 in
set_option maxRecDepth 100000 in
theorem rplain_any (nm vl : ByteArray) (a : Option Addr) (n c : Nat) (fs : List (ByteArray × ByteArray)) (w : World) (hn : fs.length = n) (hr : FRow w a fs) (hn1 : n ≤ 1000) (h1 : nm.size ≤ 100000) (h2 : vl.size ≤ 100000) (hf : ∀ f ∈ fs, f.1.size + f.2.size ≤ 100000) :
    Calls Try.prog 21 #[lineV nm vl a n c] w fun e w' => e = .returned (.string (strOfNums (writtenZ ⟨nums nm, numsP fs, nums vl⟩))) ∧ Below w.heap.size w w' := by
  have HF : Hid (∀ f ∈ fs, f.1.size + f.2.size ≤ 100000) := hf
  unfold lineV
  have hlb := heap_alloc_last w (.cells #[.string nm, .slice a n c, .string vl] 32)
  have hbk := keep w (.cells #[.string nm, .slice a n c, .string vl] 32)
  have hrw := hr.below hbk
  have HBK : Hid (Below w.heap.size w (w.alloc (.cells #[.string nm, .slice a n c, .string vl] 32))) := hbk
  clear hf hr hbk
  go_enter Try.func21, Try.ntmps21
  go_wp2
  obtain ⟨W, hW⟩ : ∃ W, w.alloc (.cells #[.string nm, .slice a n c, .string vl] 32) = W := ⟨_, rfl⟩
  rw [hW] at hlb hrw HBK ⊢
  have d1 : W.cell? ⟨w.heap.size, 1, none⟩ = some (.slice a n c) := by rw [cell_of_row _ _ _ _ _ _ hlb]; rfl
  have d2 : W.cell? ⟨w.heap.size, 2, none⟩ = some (.string vl) := by rw [cell_of_row _ _ _ _ _ _ hlb]; rfl
  clear hlb hW
  go_loopw [4, 3, 5] (fun i o _ wr => ∃ (k : Nat) (out : ByteArray), i = .int .i64 k ∧ o = .string out ∧ k ≤ n ∧ nums out = nums nm ++ (numsP (fs.take k)).flatMap parW ∧ out.size ≤ 100000 + 100004 * k ∧ W = wr) (fun i _ _ _ => n - (intOf i).toNat)
  case atStart => exact ⟨0, nm, rfl, rfl, by omega, by simp [numsP], by omega, rfl⟩
  case round =>
    obtain ⟨k, out, rfl, rfl, hk, hout, hoz, rfl⟩ := hrel
    have HO : Hid (nums out = nums nm ++ (numsP (fs.take k)).flatMap parW) := hout
    clear hout
    by_cases hlt : k < n
    · have dk : decide ((k : Int) < (n : Int)) = true := by simp; omega
      obtain ⟨f, hfk⟩ : ∃ f, fs[k]? = some f := ⟨_, List.getElem?_eq_getElem (by omega)⟩
      have hfz := HF.out f (List.mem_of_getElem? hfk)
      have HPT : Hid ((numsP (fs.take (k + 1))).flatMap parW = (numsP (fs.take k)).flatMap parW ++ parW (nums f.1, nums f.2)) := pars_take fs k f hfk
      obtain ⟨pn, pv⟩ := f
      obtain ⟨b, off, rfl, hcc⟩ : ∃ b off, a = some ⟨b, off, none⟩ ∧ ∀ i f, fs[i]? = some f → W.cell? ⟨b, off + i * 2, none⟩ = some (.string f.1) ∧ W.cell? ⟨b, off + i * 2 + 1, none⟩ = some (.string f.2) := by
        rcases hrw with h | h
        · rw [h] at hn; simp at hn; omega
        · exact h
      obtain ⟨hc1, hc2⟩ := hcc k _ hfk
      clear hcc hfk
      simp only at hc1 hc2 hfz HPT
      have e59 := has1 pv 59 W (by omega)
      have e58 := has1 pv 58 W (by omega)
      have e44 := has1 pv 44 W (by omega)
      have u59 : ((59 : UInt8).toNat : Int) = 59 := rfl
      have u58 : ((58 : UInt8).toNat : Int) = 58 := rfl
      have u44 : ((44 : UInt8).toNat : Int) = 44 := rfl
      rw [u59] at e59
      rw [u58] at e58
      rw [u44] at e44
      have hany := any_three (nums pv)
      by_cases hmm : (nums pv).any mk3 = true
      · have hd : decide ((59 : Int) ∈ nums pv) = true ∨ (decide ((59 : Int) ∈ nums pv) = false ∧ decide ((58 : Int) ∈ nums pv) = true) ∨ (decide ((59 : Int) ∈ nums pv) = false ∧ decide ((58 : Int) ∈ nums pv) = false ∧ decide ((44 : Int) ∈ nums pv) = true) := by
          exact or3 (hany.symm.trans hmm)
        obtain ⟨sb, hsb⟩ : ∃ sb : ByteArray, (⟨#[34]⟩ : ByteArray) ++ pv ++ ⟨#[34]⟩ = sb := ⟨_, rfl⟩
        obtain ⟨so, hso⟩ : ∃ so : ByteArray, out ++ ⟨#[59]⟩ ++ pn ++ ⟨#[61]⟩ ++ sb = so := ⟨_, rfl⟩
        have HPX : Hid (nums so = nums out ++ parW (nums pn, nums pv)) := by
          unfold Hid parW; simp only; rw [if_pos hmm, ← hso, ← hsb]
          simp only [nums_append]; simp [nums]
        have HSZ : Hid (so.size ≤ out.size + 100004) := by
          unfold Hid; rw [← hso, ← hsb]; simp only [← nums_len, nums_append, List.length_append]; simp [nums]; have : pv.data.size = pv.size := rfl; have : pn.data.size = pn.size := rfl; omega
        have HREL : Hid (nums so = nums nm ++ (numsP (fs.take (k + 1))).flatMap parW) := by
          have h := HPX.out
          rw [HO.out, List.append_assoc, ← HPT.out] at h
          exact h
        have HSZ2 : Hid (so.size ≤ 100000 + 100004 * (k + 1)) := by
          have h := HSZ.out
          have h2 : so.size ≤ 100000 + 100004 * k + 100004 := by omega
          rw [Nat.mul_succ, ← Nat.add_assoc]; exact h2
        have zso : so.size ≤ 400000000 := by have := HSZ.out; omega
        have zout : out.size ≤ 300000000 := by omega
        have zsb : sb.size ≤ 100002 := by rw [← hsb]; simp only [← nums_len, nums_append, List.length_append]; simp [nums]; have : pv.data.size = pv.size := rfl; omega
        clear hany hmm
        rcases hd with q1 | ⟨q1, q2⟩ | ⟨q1, q2, q3⟩
        all_goals
          (try rw [q1] at e59)
          (try rw [q2] at e58)
          (try rw [q3] at e44)
          go_wp2_with (first
            | (go_at_call_of 28 (Value.string ⟨#[59]⟩); refine e59.mono ?_; rintro e w5 ⟨rfl, rfl⟩)
            | (go_at_call_of 28 (Value.string ⟨#[58]⟩); refine e58.mono ?_; rintro e w5 ⟨rfl, rfl⟩)
            | (go_at_call_of 28 (Value.string ⟨#[44]⟩); refine e44.mono ?_; rintro e w5 ⟨rfl, rfl⟩))
          go_roundw
          case rel => exact ⟨k + 1, so, by go_num, by first | rfl | rw [hso], by omega, HREL.out, HSZ2.out, by first | rfl | trivial⟩
          case measure => simp [intOf]; omega
      · have hmf : (nums pv).any mk3 = false := by simpa using hmm
        obtain ⟨q1, q2, q3⟩ := or3f (hany.symm.trans hmf)
        obtain ⟨so, hso⟩ : ∃ so : ByteArray, out ++ ⟨#[59]⟩ ++ pn ++ ⟨#[61]⟩ ++ pv = so := ⟨_, rfl⟩
        have HPX : Hid (nums so = nums out ++ parW (nums pn, nums pv)) := by
          unfold Hid parW; simp only; rw [if_neg hmm, ← hso]
          simp only [nums_append]; simp [nums]
        have HSZ : Hid (so.size ≤ out.size + 100004) := by
          unfold Hid; rw [← hso]; simp only [← nums_len, nums_append, List.length_append]; simp [nums]; have : pv.data.size = pv.size := rfl; have : pn.data.size = pn.size := rfl; omega
        have HREL : Hid (nums so = nums nm ++ (numsP (fs.take (k + 1))).flatMap parW) := by
          have h := HPX.out
          rw [HO.out, List.append_assoc, ← HPT.out] at h
          exact h
        have HSZ2 : Hid (so.size ≤ 100000 + 100004 * (k + 1)) := by
          have h := HSZ.out
          have h2 : so.size ≤ 100000 + 100004 * k + 100004 := by omega
          rw [Nat.mul_succ, ← Nat.add_assoc]; exact h2
        have zso : so.size ≤ 400000000 := by have := HSZ.out; omega
        have zout : out.size ≤ 300000000 := by omega
        clear hany hmm hmf
        rw [q1] at e59
        rw [q2] at e58
        rw [q3] at e44
        go_wp2_with (first
          | (go_at_call_of 28 (Value.string ⟨#[59]⟩); refine e59.mono ?_; rintro e w5 ⟨rfl, rfl⟩)
          | (go_at_call_of 28 (Value.string ⟨#[58]⟩); refine e58.mono ?_; rintro e w5 ⟨rfl, rfl⟩)
          | (go_at_call_of 28 (Value.string ⟨#[44]⟩); refine e44.mono ?_; rintro e w5 ⟨rfl, rfl⟩))
        go_roundw
        case rel => exact ⟨k + 1, so, by go_num, by first | rfl | rw [hso], by omega, HREL.out, HSZ2.out, by first | rfl | trivial⟩
        case measure => simp [intOf]; omega
    · obtain rfl : k = n := by omega
      have dk : decide ((k : Int) < (k : Int)) = false := by simp
      obtain ⟨so, hso⟩ : ∃ so : ByteArray, out ++ ⟨#[58]⟩ ++ vl = so := ⟨_, rfl⟩
      have HW : Hid (so = strOfNums (writtenZ ⟨nums nm, numsP fs, nums vl⟩)) := by
        have e : nums so = writtenZ ⟨nums nm, numsP fs, nums vl⟩ := by
          have := HO.out
          rw [List.take_of_length_le (by omega)] at this
          rw [← hso]; unfold writtenZ; simp only [nums_append]; rw [this]; simp [nums]
        unfold Hid; rw [← e, str_nums]
      go_wp2
      go_ret
      exact ⟨by rw [← HW.out]; first | rfl | (rw [hso]; rfl), HBK.out⟩
end Go.Proofs.Ytjcjhcpaojhcfaa
