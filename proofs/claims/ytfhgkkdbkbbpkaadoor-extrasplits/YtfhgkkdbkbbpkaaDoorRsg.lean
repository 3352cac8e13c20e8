/-
  The reference's Has, sign and Token.
-/
import Derived.Test.YtfhgkkdbkbbpkaaDoorRlow
namespace Go.Proofs.YtfhgkkdbkbbpkaaDoor
open Go.RowKit
set_option linter.unusedVariables false

theorem one_sub (l : List Int) (k : Nat) (d : Int) (h : l[k]? = some d) : (l.drop k).take 1 = [d] := by
  have hk : k < l.length := by
    rcases Nat.lt_or_ge k l.length with q | q
    · exact q
    · rw [List.getElem?_eq_none q] at h; cases h
  rw [List.drop_eq_getElem_cons hk]
  rw [List.getElem?_eq_getElem hk] at h
  simp at h
  simp [h]
set_option maxRecDepth 100000 in
set_option maxHeartbeats 2000000 in
theorem has_one (M one : ByteArray) (c : Int) (w : World) (h1 : one.size = 1) (hc : nums one = [c]) (hM : M.size ≤ 1000000) :
    Calls Tryd.prog 86 #[.string M, .string one] w fun e w' => e = .returned (.bool ((nums M).contains c)) ∧ w = w' := by
  have HC : Hid (nums one = [c]) := hc
  clear hc
  go_enter Tryd.func86, Tryd.ntmps86
  go_wp2
  go_loopw [5] (fun i wr => ∃ k : Nat, i = .int .i64 k ∧ k ≤ M.size ∧ ((nums M).take k).contains c = false ∧ w = wr) (fun i _ => M.size - (intOf i).toNat)
  case atStart => exact ⟨0, rfl, by omega, by simp, rfl⟩
  case round =>
    obtain ⟨k, rfl, hk, hall, rfl⟩ := hrel
    have HA : Hid (((nums M).take k).contains c = false) := hall
    clear hall
    by_cases hlt : k < M.size
    · have hd : decide ((k : Int) + 1 ≤ (M.size : Int)) = true := by simp; omega
      have HN : Hid ((nums M)[k]? = some (M[k].toNat : Int)) := nums_at M k hlt
      obtain ⟨d, hdd⟩ : ∃ d : Int, ((M[k]'hlt).toNat : Int) = d := ⟨_, rfl⟩
      rw [hdd] at HN
      have he := eq_nums (M.extract k (k + 1)) one
      have HE : Hid (nums (M.extract k (k + 1)) = [d]) := by
        unfold Hid; rw [nums_extract, Nat.add_sub_cancel_left]; exact one_sub _ _ _ HN.out
      rw [HE.out, HC.out] at he
      have e1 : ((k : Int) + 1).toNat = k + 1 := by omega
      by_cases hq : d = c
      · rw [decide_eq_true (by rw [hq])] at he
        have HR : Hid ((nums M).contains c = true) := by
          unfold Hid; rw [List.contains_iff_mem, ← hq]; exact List.mem_of_getElem? HN.out
        clear hq
        go_wp2
        go_ret
        exact ⟨ret_bool HR.out.symm, by first | trivial | rfl⟩
      · rw [decide_eq_false (by simp; exact hq)] at he
        have HR : Hid (((nums M).take (k + 1)).contains c = false) := by
          have := HA.out
          unfold Hid; rw [List.take_add_one, HN.out]
          simp only [Option.toList_some]
          rw [Bool.eq_false_iff] at this ⊢
          rw [ne_eq, List.contains_iff_mem] at this ⊢
          simp only [List.mem_append, List.mem_singleton, not_or]
          exact ⟨this, fun h => hq h.symm⟩
        clear hq
        go_wp2
        go_roundw
        case rel => exact ⟨k + 1, by go_num, by omega, HR.out, by first | trivial | rfl⟩
        case measure => simp [intOf]; omega
    · obtain rfl : k = M.size := by omega
      have hd : decide ((M.size : Int) + 1 ≤ (M.size : Int)) = false := by simp; omega
      have HR : Hid ((nums M).contains c = false) := by
        have := HA.out
        rwa [List.take_of_length_le (by rw [nums_len]; exact Nat.le_refl _)] at this
      go_wp2
      go_ret
      exact ⟨ret_bool HR.out.symm, by first | trivial | rfl⟩
set_option maxRecDepth 100000 in
theorem rsign_any (c : Int) (w : World) (h0 : 0 ≤ c) (h1 : c < 256) : Calls Tryd.prog 68 #[.int .u8 c] w fun e w' => e = .returned (.bool (tokC c)) ∧ Below w.heap.size w w' := by
  by_cases ha : 33 ≤ c
  · by_cases hb : c ≤ 126
    · have HM : Hid ((!(marksZ.contains c)) = tokC c) := by
        unfold Hid tokC; rw [decide_eq_true ha, decide_eq_true hb]; rfl
      have kc := conv_row 1 1 (l := [c]) rfl (row_new w [c])
      have hn : nums (strOfNums [c]) = [c] := nums_str (by intro x hx; simp at hx; omega)
      have hs : (strOfNums [c]).size = 1 := by rw [← nums_len, hn]; rfl
      have hcall := fun W => has_one ⟨#[40, 41, 60, 62, 64, 44, 59, 58, 92, 34, 47, 91, 93, 63, 61]⟩ (strOfNums [c]) c W hs hn (by decide)
      rw [show nums (⟨#[40, 41, 60, 62, 64, 44, 59, 58, 92, 34, 47, 91, 93, 63, 61]⟩ : ByteArray) = marksZ from rfl] at hcall
      obtain ⟨m, hm⟩ : ∃ m, marksZ.contains c = m := ⟨_, rfl⟩
      rw [hm] at hcall HM
      simp only [List.map_cons, List.map_nil] at kc
      clear hm
      go_enter Tryd.func68, Tryd.ntmps68
      go_wp2_with (go_at_call 86; refine (hcall _).mono ?_; rintro e w' ⟨rfl, rfl⟩)
      go_ret
      exact ⟨ret_bool HM.out, keep w _⟩
    · have HM : Hid (tokC c = false) := by unfold Hid tokC; simp [hb]
      go_enter Tryd.func68, Tryd.ntmps68
      go_wp2
      go_ret
      exact ⟨ret_bool HM.out.symm, Below.refl _ _⟩
  · have HM : Hid (tokC c = false) := by unfold Hid tokC; simp [ha]
    go_enter Tryd.func68, Tryd.ntmps68
    go_wp2
    go_ret
    exact ⟨ret_bool HM.out.symm, Below.refl _ _⟩
set_option maxRecDepth 100000 in
set_option maxHeartbeats 2000000 in
theorem rtoken_any (s : ByteArray) (w : World) (hs : s.size ≤ 1000000000) : Calls Tryd.prog 47 #[.string s] w fun e w' => e = .returned (.bool (tokenZ (nums s))) ∧ Below w.heap.size w w' := by
  go_enter Tryd.func47, Tryd.ntmps47
  go_wp2
  go_loopw [3] (fun i wr => ∃ k : Nat, i = .int .i64 k ∧ k ≤ s.size ∧ ((nums s).take k).all tokC = true ∧ Below w.heap.size w wr) (fun i _ => s.size - (intOf i).toNat)
  case atStart => exact ⟨0, rfl, by omega, by simp, Below.refl _ _⟩
  case round =>
    obtain ⟨k, rfl, hk, hall, hb⟩ := hrel
    have HA : Hid (((nums s).take k).all tokC = true) := hall
    have HB : Hid (Below w.heap.size w wr) := hb
    clear hall hb
    by_cases hlt : k < s.size
    · have HN : Hid ((nums s)[k]? = some (s[k].toNat : Int)) := nums_at s k hlt
      have hcb : (s[k].toNat : Int) < 256 := by have := s[k].toNat_lt; omega
      have hc0 : (0 : Int) ≤ (s[k].toNat : Int) := by omega
      obtain ⟨c, hc⟩ : ∃ c : Int, ((s[k]'hlt).toNat : Int) = c := ⟨_, rfl⟩
      rw [hc] at HN hcb hc0
      cases hn : tokC c with
      | true =>
        have HM : Hid (tokC c = true) := hn
        clear hn
        go_wp2_with (go_at_call 68; refine (rsign_any c _ hc0 hcb).mono ?_; rintro e w' ⟨rfl, hb'⟩; rw [HM.out])
        have HB' : Hid (Below w.heap.size w w') := HB.out.trans (hb'.mono HB.out.size)
        clear hb'
        go_roundw
        case rel => exact ⟨k + 1, by go_num, by omega, by rw [all_take _ _ _ _ HN.out, HA.out, HM.out]; rfl, HB'.out⟩
        case measure => simp [intOf]; omega
      | false =>
        have HM : Hid (tokC c = false) := hn
        have HR : Hid (tokenZ (nums s) = false) := by unfold Hid tokenZ; rw [all_bad _ _ _ _ HN.out hn]; simp
        clear hn
        go_wp2_with (go_at_call 68; refine (rsign_any c _ hc0 hcb).mono ?_; rintro e w' ⟨rfl, hb'⟩; rw [HM.out])
        go_ret
        exact ⟨ret_bool HR.out.symm, HB.out.trans (hb'.mono HB.out.size)⟩
    · obtain rfl : k = s.size := by omega
      have HT : Hid ((nums s).all tokC = true) := by
        have := HA.out
        rwa [List.take_of_length_le (by rw [nums_len]; exact Nat.le_refl _)] at this
      by_cases h0 : s.size = 0
      · have hd : decide ((s.size : Int) > 0) = false := decide_eq_false (by omega)
        have HR : Hid (tokenZ (nums s) = false) := by unfold Hid tokenZ; rw [empty_nums, decide_eq_true h0]; rfl
        go_wp2
        go_ret
        exact ⟨ret_bool HR.out.symm, HB.out⟩
      · have hd : decide ((s.size : Int) > 0) = true := by simp; omega
        have HR : Hid (tokenZ (nums s) = decide ((s.size : Int) ≤ 64)) := by
          unfold Hid tokenZ; rw [empty_nums, decide_eq_false h0, HT.out, nums_len, Bool.eq_iff_iff]; simp; omega
        go_wp2
        go_ret
        exact ⟨ret_bool HR.out.symm, HB.out⟩
end Go.Proofs.YtfhgkkdbkbbpkaaDoor
