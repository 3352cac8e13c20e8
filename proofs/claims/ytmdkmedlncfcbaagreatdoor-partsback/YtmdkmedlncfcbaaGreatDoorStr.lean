/-
  Strings as numbers; the contracts of small, Same and isName.
-/
import Derived.Test.YtmdkmedlncfcbaaGreatDoorBase
import Derived.Lib.AppendStr
import Derived.Laws.Strings3
import Derived.Deep.RegionWith
import Derived.Deep.RegionHeld3
namespace Go.Proofs.YtmdkmedlncfcbaaGreatDoor
open Go.RowKit
set_option linter.unusedVariables false

/-- A string's bytes, as numbers. -/
def nums (s : ByteArray) : List Int := s.data.toList.map fun b => (b.toNat : Int)
theorem nums_len (s : ByteArray) : (nums s).length = s.size := by rw [nums, List.length_map, Array.length_toList]; rfl
theorem nums_byt (s : ByteArray) : Byt (nums s) := by
  intro x hx
  simp only [nums, List.mem_map] at hx
  obtain ⟨b, _, rfl⟩ := hx
  have := b.toNat_lt
  omega
theorem nums_str {l : List Int} (h : Byt l) : nums (strOfNums l) = l := by
  have e : (strOfNums l).data.toList = l.map fun n => UInt8.ofNat n.toNat := by
    rw [← ByteArray.toList_eq]; exact toList_str l
  rw [nums, e, List.map_map]
  conv => rhs; rw [← List.map_id l]
  apply List.map_congr_left
  intro x hx
  have := h x hx
  simp only [Function.comp, id, UInt8.toNat_ofNat']
  omega
theorem str_nums (s : ByteArray) : strOfNums (nums s) = s := by
  have e : (strOfNums (nums s)).toList = s.toList := by
    rw [toList_str, nums, List.map_map, ByteArray.toList_eq]
    conv => rhs; rw [← List.map_id s.data.toList]
    apply List.map_congr_left
    intro x hx
    simp
  rw [ByteArray.toList_eq, ByteArray.toList_eq] at e
  exact ByteArray.ext (Array.toList_inj.1 e)
theorem nums_inj {s t : ByteArray} (h : nums s = nums t) : s = t := by rw [← str_nums s, ← str_nums t, h]
theorem nums_extract (s : ByteArray) (a b : Nat) : nums (s.extract a b) = ((nums s).drop a).take (b - a) := by
  simp [nums, ByteArray.data_extract, Array.toList_extract, List.map_drop, List.map_take]
theorem nums_from (s : ByteArray) (k : Nat) : nums (s.extract k s.size) = (nums s).drop k := by
  rw [nums_extract, List.take_of_length_le]; simp [nums_len]
theorem nums_to (s : ByteArray) (k : Nat) : nums (s.extract 0 k) = (nums s).take k := by
  rw [nums_extract]; simp
theorem nums_drop (s : ByteArray) (k : Nat) (h : k < s.size) : (nums s).drop k = (s[k].toNat : Int) :: (nums s).drop (k + 1) := by
  have hl : k < (nums s).length := by rw [nums_len]; exact h
  rw [List.drop_eq_getElem_cons hl]
  congr 1
  simp [nums]; rfl
/-- Two strings are one where their numbers are. -/
theorem eq_nums (s t : ByteArray) : (s.toList == t.toList) = decide (nums s = nums t) := by
  rw [Bool.eq_iff_iff]
  simp only [beq_iff_eq, decide_eq_true_eq]
  constructor
  · intro h
    rw [ByteArray.toList_eq, ByteArray.toList_eq] at h
    rw [nums, nums, h]
  · intro h; rw [nums_inj h]

theorem str_append (l m : List Int) : strOfNums l ++ strOfNums m = strOfNums (l ++ m) := by
  have e : (strOfNums l ++ strOfNums m).toList = (strOfNums (l ++ m)).toList := by
    rw [toList_str, ByteArray.toList_eq, ByteArray.data_append, Array.toList_append, ← ByteArray.toList_eq, ← ByteArray.toList_eq, toList_str, toList_str, List.map_append]
  rw [ByteArray.toList_eq, ByteArray.toList_eq] at e
  exact ByteArray.ext (Array.toList_inj.1 e)
theorem nums_at (s : ByteArray) (k : Nat) (h : k < s.size) : (nums s)[k]? = some (s[k].toNat : Int) := by
  have := nums_drop s k h
  rw [← List.head?_drop, this]; rfl
/-- A letter's small one. -/
def smallZ (c : Int) : Int := if 65 ≤ c ∧ c ≤ 90 then c + 32 else c
set_option maxRecDepth 100000 in
theorem small_any (c : Int) (w : World) (h0 : 0 ≤ c) (h1 : c < 256) : Calls Tryz.prog 87 #[.int .u8 c] w fun e w' => e = .returned (.int .u8 (smallZ c)) ∧ w = w' := by
  by_cases h : 65 ≤ c ∧ c ≤ 90
  · obtain ⟨ha, hb⟩ := h
    have HS : Hid (smallZ c = c + 32) := by unfold Hid smallZ; rw [if_pos ⟨ha, hb⟩]
    go_enter Tryz.func87, Tryz.ntmps87
    go_wp2
    go_ret
    refine ⟨ret_int ?_, rfl⟩
    rw [HS.out]; omega
  · have HS : Hid (smallZ c = c) := by unfold Hid smallZ; rw [if_neg h]
    by_cases ha : 65 ≤ c
    · have hb : ¬ c ≤ 90 := by omega
      clear h
      go_enter Tryz.func87, Tryz.ntmps87
      go_wp2
      go_ret
      exact ⟨ret_int HS.out.symm, rfl⟩
    · clear h
      go_enter Tryz.func87, Tryz.ntmps87
      go_wp2
      go_ret
      exact ⟨ret_int HS.out.symm, rfl⟩
/-- May a byte stand in a Name? -/
def nameC (c : Int) : Bool := decide (33 ≤ c) && decide (c ≤ 126) && !decide (c = 58)
def nameZ (l : List Int) : Bool := l.all nameC && !l.isEmpty && decide (l.length ≤ 64)
theorem all_take (p : Int → Bool) (l : List Int) (k : Nat) (c : Int) (h : l[k]? = some c) : (l.take (k + 1)).all p = ((l.take k).all p && p c) := by
  rw [List.take_add_one, h]; simp
theorem all_bad (p : Int → Bool) (l : List Int) (k : Nat) (c : Int) (h : l[k]? = some c) (hp : p c = false) : l.all p = false := by
  rw [List.all_eq_false]
  exact ⟨c, List.mem_of_getElem? h, by rw [hp]; simp⟩
set_option maxRecDepth 100000 in
set_option maxHeartbeats 2000000 in
theorem isName_any (s : ByteArray) (w : World) (hs : s.size ≤ 100000000) : Calls Tryz.prog 72 #[.string s] w fun e w' => e = .returned (.bool (nameZ (nums s))) ∧ w = w' := by
  go_enter Tryz.func72, Tryz.ntmps72
  go_wp2
  go_loopw [7] (fun i wr => ∃ k : Nat, i = .int .i64 k ∧ k ≤ s.size ∧ ((nums s).take k).all nameC = true ∧ w = wr) (fun i _ => s.size - (intOf i).toNat)
  case atStart => exact ⟨0, rfl, by omega, by simp, rfl⟩
  case round =>
    obtain ⟨k, rfl, hk, hall, rfl⟩ := hrel
    have HA : Hid (((nums s).take k).all nameC = true) := hall
    clear hall
    by_cases hlt : k < s.size
    · have HN : Hid ((nums s)[k]? = some (s[k].toNat : Int)) := nums_at s k hlt
      obtain ⟨c, hc⟩ : ∃ c : Int, ((s[k]'hlt).toNat : Int) = c := ⟨_, rfl⟩
      rw [hc] at HN
      cases hn : nameC c with
      | true =>
        have HM : Hid (nameC c = true) := hn
        simp only [nameC, Bool.and_eq_true, Bool.not_eq_true', decide_eq_true_eq, decide_eq_false_iff_not] at hn
        obtain ⟨⟨h1, h2⟩, h3⟩ := hn
        have hb : (c == 58) = false := by rw [beq_eq_false_iff_ne]; exact h3
        go_wp2
        go_roundw
        case rel => exact ⟨k + 1, by go_num, by omega, by rw [all_take _ _ _ _ HN.out, HA.out, HM.out]; rfl, by first | trivial | rfl⟩
        case measure => simp [intOf]; omega
      | false =>
        have HM : Hid (nameC c = false) := hn
        have HR : Hid (nameZ (nums s) = false) := by unfold Hid nameZ; rw [all_bad _ _ _ _ HN.out hn]; rfl
        have h3 : c < 33 ∨ (33 ≤ c ∧ 126 < c) ∨ c = 58 := by
          simp only [nameC, Bool.and_eq_false_iff, Bool.not_eq_false', decide_eq_true_eq, decide_eq_false_iff_not] at hn
          omega
        clear hn
        rcases h3 with h3 | ⟨h3, h4⟩ | rfl
        all_goals go_wp2
        all_goals go_ret
        all_goals exact ⟨ret_bool HR.out.symm, by first | trivial | rfl⟩
    · obtain rfl : k = s.size := by omega
      have HT : Hid ((nums s).all nameC = true) := by
        have := HA.out
        rwa [List.take_of_length_le (by rw [nums_len]; exact Nat.le_refl _)] at this
      have HE : Hid (s.toList = [] → (nums s).isEmpty = true) := by
        intro h; rw [ByteArray.toList_eq] at h; simp [nums, h]
      have HF : Hid (¬ s.toList = [] → (nums s).isEmpty = false) := by
        intro h; rw [ByteArray.toList_eq] at h; rw [List.isEmpty_eq_false_iff]; simpa [nums] using h
      go_wp2
      all_goals go_ret
      all_goals refine ⟨ret_bool ?_, by first | trivial | rfl⟩
      · rename_i h
        unfold nameZ; rw [HE.out h]; simp
      · rename_i h
        unfold nameZ; rw [HT.out, HF.out h, nums_len]
        rw [Bool.eq_iff_iff]
        clear HT HF HE HA
        have hz : s.toList.isEmpty = false := by rw [List.isEmpty_eq_false_iff]; exact h
        rw [hz]
        simp only [Bool.true_and, Bool.not_false, decide_eq_true_eq]
        omega
/-- Names that are the same. -/
def sameZ (l m : List Int) : Bool := decide (l.map smallZ = m.map smallZ)
theorem same_len {l m : List Int} (h : l.length ≠ m.length) : sameZ l m = false := by
  unfold sameZ; rw [decide_eq_false_iff_not]; intro e; have := congrArg List.length e; simp at this; exact h this
theorem same_bad {l m : List Int} {k : Nat} {c d : Int} (h1 : l[k]? = some c) (h2 : m[k]? = some d) (h : smallZ c ≠ smallZ d) : sameZ l m = false := by
  unfold sameZ; rw [decide_eq_false_iff_not]; intro e
  have := congrArg (fun x => x[k]?) e
  simp [h1, h2] at this
  exact h this
set_option maxRecDepth 100000 in
theorem same_step {l m : List Int} {k : Nat} {c d : Int} (h1 : l[k]? = some c) (h2 : m[k]? = some d) (h : smallZ c = smallZ d) (hk : (l.take k).map smallZ = (m.take k).map smallZ) : (l.take (k + 1)).map smallZ = (m.take (k + 1)).map smallZ := by
  rw [List.take_add_one, List.take_add_one, h1, h2, List.map_append, List.map_append, hk]; simp [h]
set_option maxRecDepth 100000 in
set_option maxHeartbeats 2000000 in
theorem same_any (s t : ByteArray) (w : World) (hs : s.size ≤ 100000000) : Calls Tryz.prog 48 #[.string s, .string t] w fun e w' => e = .returned (.bool (sameZ (nums s) (nums t))) ∧ Below w.heap.size w w' := by
  by_cases he : s.size = t.size
  · have hb : ((s.size : Int) != (t.size : Int)) = false := by simp [he]
    have HE : Hid (s.size = t.size) := he
    clear he
    go_enter Tryz.func48, Tryz.ntmps48
    go_wp2
    go_loopw [13] (fun i wr => ∃ k : Nat, i = .int .i64 k ∧ k ≤ s.size ∧ ((nums s).take k).map smallZ = ((nums t).take k).map smallZ ∧ Below w.heap.size w wr) (fun i _ => s.size - (intOf i).toNat)
    case atStart => exact ⟨0, rfl, by omega, by simp, Below.refl _ _⟩
    case round =>
      obtain ⟨k, rfl, hk, hall, hbw⟩ := hrel
      have HA : Hid (((nums s).take k).map smallZ = ((nums t).take k).map smallZ) := hall
      have HB : Hid (Below w.heap.size w wr) := hbw
      clear hall hbw
      by_cases hlt : k < s.size
      · have hlt2 : k < t.size := by have := HE.out; omega
        have HN : Hid ((nums s)[k]? = some (s[k].toNat : Int)) := nums_at s k hlt
        have HM : Hid ((nums t)[k]? = some (t[k].toNat : Int)) := nums_at t k hlt2
        have hc1 : (s[k].toNat : Int) < 256 := by have := s[k].toNat_lt; omega
        have hd1 : (t[k].toNat : Int) < 256 := by have := t[k].toNat_lt; omega
        have hc0 : (0 : Int) ≤ (s[k].toNat : Int) := by omega
        have hd0 : (0 : Int) ≤ (t[k].toNat : Int) := by omega
        obtain ⟨c, hc⟩ : ∃ c : Int, ((s[k]'hlt).toNat : Int) = c := ⟨_, rfl⟩
        obtain ⟨d, hd⟩ : ∃ d : Int, ((t[k]'hlt2).toNat : Int) = d := ⟨_, rfl⟩
        rw [hc] at HN hc1 hc0
        rw [hd] at HM hd1 hd0
        have HV := fun W => (small_any c W hc0 hc1).mono fun e w' h => (⟨h.1, h.2.symm⟩ : e = .returned (.int .u8 (smallZ c)) ∧ w' = W)
        have HW := fun W => (small_any d W hd0 hd1).mono fun e w' h => (⟨h.1, h.2.symm⟩ : e = .returned (.int .u8 (smallZ d)) ∧ w' = W)
        by_cases hq : smallZ c = smallZ d
        · have hq2 : (smallZ c != smallZ d) = false := by simp [hq]
          have HQ : Hid (smallZ c = smallZ d) := hq
          clear hq
          go_wp2
          go_quiet (first | (go_at_call_of 87 (Value.int IntKind.u8 c); exact Calls.quiet_of_same (HV _)) | (go_at_call_of 87 (Value.int IntKind.u8 d); exact Calls.quiet_of_same (HW _)))
          have HX : Hid (Below w.heap.size w (wr.drewN nq)) := below_drewN HB.out _
          go_wp2
          go_roundw
          case rel => exact ⟨k + 1, by go_num, by omega, same_step HN.out HM.out HQ.out HA.out, HX.out⟩
          case measure => simp [intOf]; omega
        · have hq2 : (smallZ c != smallZ d) = true := by simp [hq]
          have HR : Hid (sameZ (nums s) (nums t) = false) := same_bad HN.out HM.out hq
          clear hq
          go_wp2
          go_quiet (first | (go_at_call_of 87 (Value.int IntKind.u8 c); exact Calls.quiet_of_same (HV _)) | (go_at_call_of 87 (Value.int IntKind.u8 d); exact Calls.quiet_of_same (HW _)))
          have HX : Hid (Below w.heap.size w (wr.drewN nq)) := below_drewN HB.out _
          go_wp2
          go_ret
          exact ⟨ret_bool HR.out.symm, HX.out⟩
      · obtain rfl : k = s.size := by omega
        have HR : Hid (sameZ (nums s) (nums t) = true) := by
          have := HA.out
          rw [List.take_of_length_le (by rw [nums_len]; exact Nat.le_refl _), List.take_of_length_le (by rw [nums_len, HE.out]; exact Nat.le_refl _)] at this
          unfold Hid sameZ; rw [this]; simp
        go_wp2
        go_ret
        exact ⟨ret_bool HR.out.symm, HB.out⟩
  · have hb : ((s.size : Int) != (t.size : Int)) = true := by simp; omega
    have HR : Hid (sameZ (nums s) (nums t) = false) := same_len (by rw [nums_len, nums_len]; exact he)
    go_enter Tryz.func48, Tryz.ntmps48
    go_wp2
    go_ret
    exact ⟨ret_bool HR.out.symm, Below.refl _ _⟩
end Go.Proofs.YtmdkmedlncfcbaaGreatDoor
