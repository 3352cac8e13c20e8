/-
  What stands behind blanks: the contracts of TrimLeft, HasPrefix at (, behindBlanks.
-/
import Derived.Test.YtomcjkghneingabDoorKTrim
import Derived.Test.YtomcjkghneingabDoorIdx
namespace Go.Proofs.YtomcjkghneingabDoor
open Go.RowKit
set_option linter.unusedVariables false
set_option linter.unusedSimpArgs false

set_option maxRecDepth 100000 in
theorem trimL_any (s : ByteArray) (w : World) : Calls Tryd.prog 21 #[.string s, .string ⟨#[32, 9]⟩] w fun e w' => e = .returned (.string (strOfNums (trimQ (nums s)))) ∧ Below w.heap.size w w' := by
  by_cases h : 0 < s.size
  · exact trimLeft_any s w h
  · obtain rfl : s = ⟨#[]⟩ := nums_inj (List.eq_nil_of_length_eq_zero (by rw [nums_len]; omega))
    go_enter Tryd.func21, Tryd.ntmps21
    go_wp2
    go_ret
    exact ⟨rfl, Below.refl _ _⟩
def parB (l : List Int) : Bool := decide (l.head? = some 40)
theorem par_iff (s : ByteArray) (h : 0 < s.size) : ((s.extract 0 1).toList == [40]) = parB (nums s) := by
  rw [Bool.eq_iff_iff, beq_iff_eq]
  unfold parB
  rw [decide_eq_true_iff]
  have h1 : nums (s.extract 0 1) = (nums s).take 1 := nums_to s 1
  have h2 : (nums s).take 1 = [((s[0]'h).toNat : Int)] := by
    have := nums_drop s 0 h
    rw [List.drop_zero] at this
    rw [this]; rfl
  have h3 : (nums s).head? = some ((s[0]'h).toNat : Int) := by
    have := nums_drop s 0 h
    rw [List.drop_zero] at this
    rw [this]; rfl
  rw [h3]
  constructor
  · intro e
    have e2 : nums (s.extract 0 1) = [40] := by unfold nums; rw [← ByteArray.toList_eq, e]; rfl
    rw [h1, h2] at e2
    simpa using e2
  · intro e
    have e3 : ((s[0]'h).toNat : Int) = 40 := by simpa using e
    have e2 : nums (s.extract 0 1) = nums ⟨#[40]⟩ := by rw [h1, h2, e3]; rfl
    rw [nums_inj e2, ByteArray.toList_eq]
set_option maxRecDepth 100000 in
theorem par_any (s : ByteArray) (w : World) : Calls Tryd.prog 62 #[.string s, .string ⟨#[40]⟩] w fun e w' => e = .returned (.bool (parB (nums s))) ∧ w = w' := by
  have h98 : Calls Tryd.prog 61 #[.string s, .string ⟨#[40]⟩] w fun e w' => e = .returned (.bool (parB (nums s))) ∧ w = w' := by
    by_cases h : 0 < s.size
    · have hp := par_iff s h
      have d1 : decide ((s.size : Int) ≥ 1) = true := by simp; omega
      have d2 : (1 : Int) ≤ (s.size : Int) := by omega
      obtain ⟨b, hb⟩ : ∃ b, parB (nums s) = b := ⟨_, rfl⟩
      rw [hb] at hp ⊢
      clear hb
      go_enter Tryd.func61, Tryd.ntmps61
      go_wp2
      go_ret
      exact ⟨rfl, rfl⟩
    · have hz : nums s = [] := List.eq_nil_of_length_eq_zero (by rw [nums_len]; omega)
      have d1 : decide ((s.size : Int) ≥ 1) = false := by simp; omega
      rw [hz]
      go_enter Tryd.func61, Tryd.ntmps61
      go_wp2
      go_ret
      exact ⟨rfl, rfl⟩
  go_enter Tryd.func62, Tryd.ntmps62
  go_wp2_with fail
  refine h98.mono ?_
  rintro e w' ⟨rfl, rfl⟩
  go_wp2
  go_ret
  exact ⟨rfl, rfl⟩
/-- What is left behind blanks, and texts between ( and ). -/
def bhF : Nat → List Int → List Int
  | 0, l => l
  | n + 1, l => if parB (trimQ l) = true then (if idxZ 41 (trimQ l) < 0 then trimQ l else bhF n ((trimQ l).drop ((idxZ 41 (trimQ l)).toNat + 1))) else trimQ l
def behZ (l : List Int) : List Int := bhF (l.length + 1) l
theorem bh_fuel : ∀ (n m : Nat) (l : List Int), l.length < n → l.length < m → bhF n l = bhF m l
  | 0, _, l, h, _ => by omega
  | n + 1, 0, l, _, h => by omega
  | n + 1, m + 1, l, h1, h2 => by
    unfold bhF
    split
    · split
      · rfl
      · rename_i h3
        have h4 := trim_len l
        rcases idx_ge 41 (trimQ l) with h5 | h5
        · rw [h5] at h3; omega
        · exact bh_fuel n m _ (by rw [List.length_drop]; omega) (by rw [List.length_drop]; omega)
    · rfl
theorem beh_step (l : List Int) : behZ l = if parB (trimQ l) = true then (if idxZ 41 (trimQ l) < 0 then trimQ l else behZ ((trimQ l).drop ((idxZ 41 (trimQ l)).toNat + 1))) else trimQ l := by
  unfold behZ
  rw [bhF]
  split
  · split
    · rfl
    · rename_i h3
      have h4 := trim_len l
      rcases idx_ge 41 (trimQ l) with h5 | h5
      · rw [h5] at h3; omega
      · exact bh_fuel _ _ _ (by rw [List.length_drop]; omega) (by rw [List.length_drop]; omega)
  · rfl
set_option maxHeartbeats 8000000 in
set_option maxRecDepth 100000 in
theorem behind_any (s : ByteArray) (w : World) (hs : s.size ≤ 100000000) (hb : Byt (nums s)) : Calls Tryd.prog 49 #[.string s] w fun e w' => e = .returned (.string (strOfNums (behZ (nums s)))) ∧ Below w.heap.size w w' := by
  have HT : Hid (∀ x V, Calls Tryd.prog 21 #[.string x, .string ⟨#[32, 9]⟩] V fun e w' => e = .returned (.string (strOfNums (trimQ (nums x)))) ∧ Below V.heap.size V w') := trimL_any
  have HP : Hid (∀ x V, Calls Tryd.prog 62 #[.string x, .string ⟨#[40]⟩] V fun e w' => e = .returned (.bool (parB (nums x))) ∧ V = w') := par_any
  have HI : Hid (∀ x V, Calls Tryd.prog 22 #[.string x, .int .u8 41] V fun e w' => e = .returned (.int .i64 (idxZ 41 (nums x))) ∧ V = w') := fun x V => index46_any x 41 V (by decide) (by decide)
  go_enter Tryd.func49, Tryd.ntmps49
  go_wp2
  go_loopw [0, 3] (fun v _ wr => ∃ x : ByteArray, v = .string x ∧ x.size ≤ s.size ∧ Hid (behZ (nums s) = behZ (nums x)) ∧ Hid (Below w.heap.size w wr)) (fun v _ _ => strSize v)
  case atStart => exact ⟨s, rfl, Nat.le_refl _, rfl, Below.refl _ _⟩
  case round =>
    obtain ⟨x, rfl, hx, HZ, HB⟩ := hrel
    have hstep := beh_step (nums x)
    have hbyt : Byt (trimQ (nums x)) := by
      obtain ⟨b, e, _⟩ := trim_split (nums x)
      intro c hc
      have hm : c ∈ nums x := by rw [e]; exact List.mem_append_right _ hc
      unfold nums at hm
      obtain ⟨y, _, rfl⟩ := List.mem_map.1 hm
      have := y.toNat_lt
      omega
    have hlen := trim_len (nums x)
    rw [nums_len] at hlen
    obtain ⟨t, ht⟩ : ∃ t, strOfNums (trimQ (nums x)) = t := ⟨_, rfl⟩
    have hnt : nums t = trimQ (nums x) := by rw [← ht]; exact nums_str hbyt
    have hts : t.size ≤ x.size := by rw [← nums_len, hnt]; exact hlen
    have htrim := HT.out x wr
    rw [ht] at htrim
    rw [← hnt] at hstep
    have htt : strOfNums (nums t) = t := str_nums t
    clear hlen hbyt ht hnt
    go_wp2_with fail
    refine htrim.mono ?_
    clear htrim
    rintro e w2 ⟨rfl, hb2⟩
    have HB2 : Hid (Below w.heap.size w w2) := HB.out.trans (hb2.mono HB.out.size)
    clear hb2
    have hpar := HP.out t w2
    cases hp : parB (nums t) with
    | false =>
      rw [hp] at hpar hstep
      rw [if_neg (by decide)] at hstep
      have HR : Hid (strOfNums (behZ (nums s)) = t) := by unfold Hid; rw [HZ.out, hstep, htt]
      clear hp hstep htt
      go_wp2_with fail
      refine hpar.mono ?_
      rintro e w3 ⟨rfl, rfl⟩
      go_wp2
      go_ret
      exact ⟨by rw [HR.out] <;> rfl, HB2.out⟩
    | true =>
      rw [hp] at hpar hstep
      rw [if_pos rfl] at hstep
      have hidx := HI.out t w2
      rcases idx_ge 41 (nums t) with hi | hi
      · rw [hi] at hidx hstep
        rw [if_pos (by decide)] at hstep
        have HR : Hid (strOfNums (behZ (nums s)) = t) := by unfold Hid; rw [HZ.out, hstep, htt]
        clear hp hstep htt hi
        go_wp2_with fail
        refine hpar.mono ?_
        rintro e w3 ⟨rfl, rfl⟩
        go_wp2_with fail
        refine hidx.mono ?_
        rintro e w3 ⟨rfl, rfl⟩
        go_wp2
        go_ret
        exact ⟨by rw [HR.out] <;> rfl, HB2.out⟩
      · obtain ⟨k, hk⟩ : ∃ k : Nat, idxZ 41 (nums t) = k := ⟨(idxZ 41 (nums t)).toNat, by omega⟩
        rw [hk] at hidx hstep hi
        rw [if_neg (by omega), Int.toNat_natCast] at hstep
        rw [nums_len] at hi
        have hkt : k < t.size := by omega
        have k0 : (0 : Int) ≤ (k : Int) := by omega
        have k1 : (k : Int) < (t.size : Int) := by omega
        have k2 : (k : Int) + 1 ≤ (t.size : Int) := by omega
        have k3 : ¬ (k : Int) < 0 := by omega
        have hsz : t.size ≤ 100000000 := by omega
        have HR : Hid (behZ (nums s) = behZ (nums (t.extract (k + 1) t.size))) := by unfold Hid; rw [HZ.out, hstep, nums_from]
        clear hp hstep htt hi hk
        go_wp2_with fail
        refine hpar.mono ?_
        rintro e w3 ⟨rfl, rfl⟩
        go_wp2_with fail
        refine hidx.mono ?_
        rintro e w3 ⟨rfl, rfl⟩
        go_wp2
        go_roundw
        case rel => exact ⟨t.extract (k + 1) t.size, rfl, by rw [ByteArray.size_extract]; omega, HR, HB2⟩
        case measure => simp [strSize, ByteArray.size_extract]; omega
end Go.Proofs.YtomcjkghneingabDoor
