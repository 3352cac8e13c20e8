/-
  Where a byte may stand: the contracts of places, stand, isLabel and isName.
-/
import Derived.Test.YtomcjkghneingabDoorIdx
namespace Go.Proofs.YtomcjkghneingabDoor
open Go.RowKit
set_option linter.unusedVariables false
set_option linter.unusedSimpArgs false

def signsZ : List Int := [33, 35, 36, 37, 38, 39, 42, 43, 47, 61, 63, 94, 95, 123, 124, 125, 96]
def edgeC (c : Int) : Bool := decide (97 ≤ c ∧ c ≤ 122) || decide (65 ≤ c ∧ c ≤ 90) || decide (48 ≤ c ∧ c ≤ 57)
def labC (c : Int) : Bool := edgeC c || decide (c = 45)
def atomC (c : Int) : Bool := labC c || signsZ.contains c
def placesZ (c : Int) : Int := if edgeC c = true then 7 else if c = 45 then 3 else if signsZ.contains c = true then 1 else 0
theorem sg_all : ∀ c : Fin 256, decide (idxZ (c.val : Int) signsZ ≥ 0) = signsZ.contains (c.val : Int) := by decide +kernel
theorem sg_z (c : Int) (h0 : 0 ≤ c) (h1 : c < 256) : decide (idxZ c signsZ ≥ 0) = signsZ.contains c := by
  have := sg_all ⟨c.toNat, by omega⟩
  simpa [Int.toNat_of_nonneg h0] using this
set_option maxRecDepth 100000 in
set_option maxHeartbeats 1000000 in
theorem places_any (c : Int) (w : World) (h0 : 0 ≤ c) (h1 : c < 256) : Calls Tryd.prog 70 #[.int .u8 c] w fun e w' => e = .returned (.int .i64 (placesZ c)) ∧ w = w' := by
  have hsg := sg_z c h0 h1
  have hcall := fun V => index46_any ⟨#[33, 35, 36, 37, 38, 39, 42, 43, 47, 61, 63, 94, 95, 123, 124, 125, 96]⟩ c V h0 h1
  rw [show nums (⟨#[33, 35, 36, 37, 38, 39, 42, 43, 47, 61, 63, 94, 95, 123, 124, 125, 96]⟩ : ByteArray) = signsZ from rfl] at hcall
  obtain ⟨i, hi⟩ : ∃ i, idxZ c signsZ = i := ⟨_, rfl⟩
  rw [hi] at hsg hcall
  clear hi
  have hcase : c ≤ 47 ∨ (48 ≤ c ∧ c ≤ 57) ∨ (58 ≤ c ∧ c ≤ 64) ∨ (65 ≤ c ∧ c ≤ 90) ∨ (91 ≤ c ∧ c ≤ 96) ∨ (97 ≤ c ∧ c ≤ 122) ∨ 123 ≤ c := by omega
  rcases hcase with hr | hr | hr | hr | hr | hr | hr
  · have t0 : decide (c ≥ 97) = false := decide_eq_false (by omega)
    have t1 : decide (c ≤ 122) = true := decide_eq_true (by omega)
    have t2 : decide (c ≥ 65) = false := decide_eq_false (by omega)
    have t3 : decide (c ≤ 90) = true := decide_eq_true (by omega)
    have t4 : decide (c ≥ 48) = false := decide_eq_false (by omega)
    have t5 : decide (c ≤ 57) = true := decide_eq_true (by omega)
    have he : edgeC c = false := by unfold edgeC; simp; omega
    clear hr
    by_cases h45 : c = 45
    · have b45 : (c == 45) = true := by simp [h45]
      have HP : Hid (placesZ c = 3) := by unfold Hid placesZ; rw [if_neg (by rw [he]; simp), if_pos h45]
      clear h45
      go_enter Tryd.func70, Tryd.ntmps70
      go_wp2
      go_ret
      exact ⟨by rw [HP.out]; rfl, rfl⟩
    · have b45 : (c == 45) = false := by simp [h45]
      cases hs : signsZ.contains c with
      | true =>
        rw [hs] at hsg
        have HP : Hid (placesZ c = 1) := by unfold Hid placesZ; rw [if_neg (by rw [he]; simp), if_neg h45, if_pos hs]
        clear h45 hs
        go_enter Tryd.func70, Tryd.ntmps70
        go_wp2_with (go_at_call 22; refine (hcall _).mono ?_; rintro e w' ⟨rfl, rfl⟩)
        go_ret
        exact ⟨by rw [HP.out]; rfl, rfl⟩
      | false =>
        rw [hs] at hsg
        have HP : Hid (placesZ c = 0) := by unfold Hid placesZ; rw [if_neg (by rw [he]; simp), if_neg h45, if_neg (by rw [hs]; simp)]
        clear h45 hs
        go_enter Tryd.func70, Tryd.ntmps70
        go_wp2_with (go_at_call 22; refine (hcall _).mono ?_; rintro e w' ⟨rfl, rfl⟩)
        go_ret
        exact ⟨by rw [HP.out]; rfl, rfl⟩
  · have t0 : decide (c ≥ 97) = false := decide_eq_false (by omega)
    have t1 : decide (c ≤ 122) = true := decide_eq_true (by omega)
    have t2 : decide (c ≥ 65) = false := decide_eq_false (by omega)
    have t3 : decide (c ≤ 90) = true := decide_eq_true (by omega)
    have t4 : decide (c ≥ 48) = true := decide_eq_true (by omega)
    have t5 : decide (c ≤ 57) = true := decide_eq_true (by omega)
    have HP : Hid (placesZ c = 7) := by unfold Hid placesZ edgeC; rw [if_pos]; simp; omega
    clear hr
    go_enter Tryd.func70, Tryd.ntmps70
    go_wp2
    go_ret
    exact ⟨by rw [HP.out]; rfl, rfl⟩
  · have t0 : decide (c ≥ 97) = false := decide_eq_false (by omega)
    have t1 : decide (c ≤ 122) = true := decide_eq_true (by omega)
    have t2 : decide (c ≥ 65) = false := decide_eq_false (by omega)
    have t3 : decide (c ≤ 90) = true := decide_eq_true (by omega)
    have t4 : decide (c ≥ 48) = true := decide_eq_true (by omega)
    have t5 : decide (c ≤ 57) = false := decide_eq_false (by omega)
    have he : edgeC c = false := by unfold edgeC; simp; omega
    clear hr
    by_cases h45 : c = 45
    · have b45 : (c == 45) = true := by simp [h45]
      have HP : Hid (placesZ c = 3) := by unfold Hid placesZ; rw [if_neg (by rw [he]; simp), if_pos h45]
      clear h45
      go_enter Tryd.func70, Tryd.ntmps70
      go_wp2
      go_ret
      exact ⟨by rw [HP.out]; rfl, rfl⟩
    · have b45 : (c == 45) = false := by simp [h45]
      cases hs : signsZ.contains c with
      | true =>
        rw [hs] at hsg
        have HP : Hid (placesZ c = 1) := by unfold Hid placesZ; rw [if_neg (by rw [he]; simp), if_neg h45, if_pos hs]
        clear h45 hs
        go_enter Tryd.func70, Tryd.ntmps70
        go_wp2_with (go_at_call 22; refine (hcall _).mono ?_; rintro e w' ⟨rfl, rfl⟩)
        go_ret
        exact ⟨by rw [HP.out]; rfl, rfl⟩
      | false =>
        rw [hs] at hsg
        have HP : Hid (placesZ c = 0) := by unfold Hid placesZ; rw [if_neg (by rw [he]; simp), if_neg h45, if_neg (by rw [hs]; simp)]
        clear h45 hs
        go_enter Tryd.func70, Tryd.ntmps70
        go_wp2_with (go_at_call 22; refine (hcall _).mono ?_; rintro e w' ⟨rfl, rfl⟩)
        go_ret
        exact ⟨by rw [HP.out]; rfl, rfl⟩
  · have t0 : decide (c ≥ 97) = false := decide_eq_false (by omega)
    have t1 : decide (c ≤ 122) = true := decide_eq_true (by omega)
    have t2 : decide (c ≥ 65) = true := decide_eq_true (by omega)
    have t3 : decide (c ≤ 90) = true := decide_eq_true (by omega)
    have t4 : decide (c ≥ 48) = true := decide_eq_true (by omega)
    have t5 : decide (c ≤ 57) = false := decide_eq_false (by omega)
    have HP : Hid (placesZ c = 7) := by unfold Hid placesZ edgeC; rw [if_pos]; simp; omega
    clear hr
    go_enter Tryd.func70, Tryd.ntmps70
    go_wp2
    go_ret
    exact ⟨by rw [HP.out]; rfl, rfl⟩
  · have t0 : decide (c ≥ 97) = false := decide_eq_false (by omega)
    have t1 : decide (c ≤ 122) = true := decide_eq_true (by omega)
    have t2 : decide (c ≥ 65) = true := decide_eq_true (by omega)
    have t3 : decide (c ≤ 90) = false := decide_eq_false (by omega)
    have t4 : decide (c ≥ 48) = true := decide_eq_true (by omega)
    have t5 : decide (c ≤ 57) = false := decide_eq_false (by omega)
    have he : edgeC c = false := by unfold edgeC; simp; omega
    clear hr
    by_cases h45 : c = 45
    · have b45 : (c == 45) = true := by simp [h45]
      have HP : Hid (placesZ c = 3) := by unfold Hid placesZ; rw [if_neg (by rw [he]; simp), if_pos h45]
      clear h45
      go_enter Tryd.func70, Tryd.ntmps70
      go_wp2
      go_ret
      exact ⟨by rw [HP.out]; rfl, rfl⟩
    · have b45 : (c == 45) = false := by simp [h45]
      cases hs : signsZ.contains c with
      | true =>
        rw [hs] at hsg
        have HP : Hid (placesZ c = 1) := by unfold Hid placesZ; rw [if_neg (by rw [he]; simp), if_neg h45, if_pos hs]
        clear h45 hs
        go_enter Tryd.func70, Tryd.ntmps70
        go_wp2_with (go_at_call 22; refine (hcall _).mono ?_; rintro e w' ⟨rfl, rfl⟩)
        go_ret
        exact ⟨by rw [HP.out]; rfl, rfl⟩
      | false =>
        rw [hs] at hsg
        have HP : Hid (placesZ c = 0) := by unfold Hid placesZ; rw [if_neg (by rw [he]; simp), if_neg h45, if_neg (by rw [hs]; simp)]
        clear h45 hs
        go_enter Tryd.func70, Tryd.ntmps70
        go_wp2_with (go_at_call 22; refine (hcall _).mono ?_; rintro e w' ⟨rfl, rfl⟩)
        go_ret
        exact ⟨by rw [HP.out]; rfl, rfl⟩
  · have t0 : decide (c ≥ 97) = true := decide_eq_true (by omega)
    have t1 : decide (c ≤ 122) = true := decide_eq_true (by omega)
    have t2 : decide (c ≥ 65) = true := decide_eq_true (by omega)
    have t3 : decide (c ≤ 90) = false := decide_eq_false (by omega)
    have t4 : decide (c ≥ 48) = true := decide_eq_true (by omega)
    have t5 : decide (c ≤ 57) = false := decide_eq_false (by omega)
    have HP : Hid (placesZ c = 7) := by unfold Hid placesZ edgeC; rw [if_pos]; simp; omega
    clear hr
    go_enter Tryd.func70, Tryd.ntmps70
    go_wp2
    go_ret
    exact ⟨by rw [HP.out]; rfl, rfl⟩
  · have t0 : decide (c ≥ 97) = true := decide_eq_true (by omega)
    have t1 : decide (c ≤ 122) = false := decide_eq_false (by omega)
    have t2 : decide (c ≥ 65) = true := decide_eq_true (by omega)
    have t3 : decide (c ≤ 90) = false := decide_eq_false (by omega)
    have t4 : decide (c ≥ 48) = true := decide_eq_true (by omega)
    have t5 : decide (c ≤ 57) = false := decide_eq_false (by omega)
    have he : edgeC c = false := by unfold edgeC; simp; omega
    clear hr
    by_cases h45 : c = 45
    · have b45 : (c == 45) = true := by simp [h45]
      have HP : Hid (placesZ c = 3) := by unfold Hid placesZ; rw [if_neg (by rw [he]; simp), if_pos h45]
      clear h45
      go_enter Tryd.func70, Tryd.ntmps70
      go_wp2
      go_ret
      exact ⟨by rw [HP.out]; rfl, rfl⟩
    · have b45 : (c == 45) = false := by simp [h45]
      cases hs : signsZ.contains c with
      | true =>
        rw [hs] at hsg
        have HP : Hid (placesZ c = 1) := by unfold Hid placesZ; rw [if_neg (by rw [he]; simp), if_neg h45, if_pos hs]
        clear h45 hs
        go_enter Tryd.func70, Tryd.ntmps70
        go_wp2_with (go_at_call 22; refine (hcall _).mono ?_; rintro e w' ⟨rfl, rfl⟩)
        go_ret
        exact ⟨by rw [HP.out]; rfl, rfl⟩
      | false =>
        rw [hs] at hsg
        have HP : Hid (placesZ c = 0) := by unfold Hid placesZ; rw [if_neg (by rw [he]; simp), if_neg h45, if_neg (by rw [hs]; simp)]
        clear h45 hs
        go_enter Tryd.func70, Tryd.ntmps70
        go_wp2_with (go_at_call 22; refine (hcall _).mono ?_; rintro e w' ⟨rfl, rfl⟩)
        go_ret
        exact ⟨by rw [HP.out]; rfl, rfl⟩
/-- A place's number, and which bytes it takes. -/
def PlaceOf (p : Int) (f : Int → Bool) : Prop := ∀ c : Int, (bits BinOp.and .i64 (placesZ c) p == 0) = !(f c)
theorem place1 : PlaceOf 1 atomC := by
  intro c
  unfold placesZ atomC labC
  cases he : edgeC c with
  | true => simp only [if_true, Bool.true_or]; decide +kernel
  | false =>
    by_cases h : c = 45
    · simp only [h, Bool.false_eq_true, if_false, if_true, decide_true, Bool.or_true, Bool.true_or, Bool.false_or]; decide +kernel
    · cases hs : signsZ.contains c with
      | true => simp only [h, Bool.false_eq_true, if_false, if_true, decide_false, Bool.or_false, Bool.false_or]; decide +kernel
      | false => simp only [h, Bool.false_eq_true, if_false, decide_false, Bool.or_false]; decide +kernel
theorem place2 : PlaceOf 2 labC := by
  intro c
  unfold placesZ labC
  cases he : edgeC c with
  | true => simp only [if_true, Bool.true_or]; decide +kernel
  | false =>
    by_cases h : c = 45
    · simp only [h, Bool.false_eq_true, if_false, if_true, decide_true, Bool.or_true, Bool.true_or, Bool.false_or]; decide +kernel
    · cases hs : signsZ.contains c with
      | true => simp only [h, Bool.false_eq_true, if_false, if_true, decide_false, Bool.or_false, Bool.false_or]; decide +kernel
      | false => simp only [h, Bool.false_eq_true, if_false, decide_false, Bool.or_false]; decide +kernel
theorem place4 : PlaceOf 4 edgeC := by
  intro c
  unfold placesZ
  cases he : edgeC c with
  | true => simp only [if_true]; decide +kernel
  | false =>
    by_cases h : c = 45
    · simp only [h, Bool.false_eq_true, if_false, if_true]; decide +kernel
    · cases hs : signsZ.contains c with
      | true => simp only [h, Bool.false_eq_true, if_false, if_true]; decide +kernel
      | false => simp only [h, Bool.false_eq_true, if_false]; decide +kernel
set_option maxRecDepth 100000 in
set_option maxHeartbeats 1000000 in
theorem stand_any (s : ByteArray) (p : Int) (f : Int → Bool) (hp : PlaceOf p f) (w : World) (hs : s.size ≤ 1000000000) : Calls Tryd.prog 64 #[.string s, .int .i64 p] w fun e w' => e = .returned (.bool ((nums s).all f)) ∧ w = w' := by
  go_enter Tryd.func64, Tryd.ntmps64
  go_wp2
  go_loopw [8] (fun i wr => ∃ k : Nat, i = .int .i64 k ∧ k ≤ s.size ∧ ((nums s).take k).all f = true ∧ w = wr) (fun i _ => s.size - (intOf i).toNat)
  case atStart => exact ⟨0, rfl, by omega, by simp, rfl⟩
  case round =>
    obtain ⟨k, rfl, hk, hall, rfl⟩ := hrel
    have HA : Hid (((nums s).take k).all f = true) := hall
    clear hall
    by_cases hlt : k < s.size
    · have HN : Hid ((nums s)[k]? = some (s[k].toNat : Int)) := nums_at s k hlt
      have hcb : (s[k].toNat : Int) < 256 := by have := s[k].toNat_lt; omega
      have hc0 : (0 : Int) ≤ (s[k].toNat : Int) := by omega
      obtain ⟨c, hc⟩ : ∃ c : Int, ((s[k]'hlt).toNat : Int) = c := ⟨_, rfl⟩
      rw [hc] at HN hcb hc0
      have hb := hp c
      cases hn : f c with
      | true =>
        have HM : Hid (f c = true) := hn
        rw [hn] at hb
        clear hn
        go_wp2_with (go_at_call 70; refine (places_any c _ hc0 hcb).mono ?_; rintro e w' ⟨rfl, rfl⟩)
        go_roundw
        case rel => exact ⟨k + 1, by go_num, by omega, by rw [all_take _ _ _ _ HN.out, HA.out, HM.out]; rfl, by first | trivial | rfl⟩
        case measure => simp [intOf]; omega
      | false =>
        have HR : Hid ((nums s).all f = false) := all_bad _ _ _ _ HN.out hn
        rw [hn] at hb
        clear hn
        go_wp2_with (go_at_call 70; refine (places_any c _ hc0 hcb).mono ?_; rintro e w' ⟨rfl, rfl⟩)
        go_ret
        exact ⟨ret_bool HR.out.symm, by first | trivial | rfl⟩
    · obtain rfl : k = s.size := by omega
      have HT : Hid ((nums s).all f = true) := by
        have := HA.out
        rwa [List.take_of_length_le (by rw [nums_len]; exact Nat.le_refl _)] at this
      go_wp2
      go_ret
      exact ⟨ret_bool HT.out.symm, by first | trivial | rfl⟩
theorem empty_nums (s : ByteArray) : (nums s).isEmpty = decide (s.size = 0) := by
  rw [Bool.eq_iff_iff]; simp only [decide_eq_true_eq, List.isEmpty_iff, ← nums_len, List.length_eq_zero_iff]
theorem empty_list (s : ByteArray) : (s.toList == ([] : List UInt8)) = decide (s.size = 0) := by
  rw [Bool.eq_iff_iff]
  simp only [beq_iff_eq, decide_eq_true_eq, ByteArray.toList_eq, ← List.length_eq_zero_iff, Array.length_toList]
  exact Iff.rfl
/-- May a text be a label? -/
def labelZ (l : List Int) : Bool := !l.isEmpty && decide (l.length ≤ 63) && l.all labC && (l.take 1).all edgeC && (l.drop (l.length - 1)).all edgeC
set_option maxRecDepth 100000 in
set_option maxHeartbeats 1000000 in
theorem isLabel_any (s : ByteArray) (w : World) (hs : s.size ≤ 1000000000) : Calls Tryd.prog 54 #[.string s] w fun e w' => e = .returned (.bool (labelZ (nums s))) ∧ w = w' := by
  have he := empty_list s
  have HE := empty_nums s
  by_cases h0 : s.size = 0
  · have HR : Hid (labelZ (nums s) = false) := by unfold Hid labelZ; rw [HE, decide_eq_true h0]; rfl
    rw [decide_eq_true h0] at he
    have he2 : s.toList = [] := by simpa using he
    go_enter Tryd.func54, Tryd.ntmps54
    go_wp2
    go_ret
    exact ⟨ret_bool HR.out.symm, rfl⟩
  · rw [decide_eq_false h0] at he
    have he2 : ¬ s.toList = [] := by simpa using he
    by_cases h63 : s.size ≤ 63
    · have hd : decide ((s.size : Int) > 63) = false := decide_eq_false (by omega)
      have HZ : Hid (labelZ (nums s) = ((nums s).all labC && ((nums s).take 1).all edgeC && ((nums s).drop (s.size - 1)).all edgeC)) := by
        unfold Hid labelZ; rw [HE, decide_eq_false h0, nums_len, decide_eq_true h63]; simp
      have k1 : (1 : Int) ≤ (s.size : Int) := by omega
      have k2 : (0 : Int) ≤ (s.size : Int) - 1 := by omega
      have k3 : (s.size : Int) - 1 ≤ (s.size : Int) := by omega
      have k4 : ((s.size : Int) - 1).toNat = s.size - 1 := by omega
      have z1 : (s.extract 0 1).size ≤ 1000000000 := by rw [← nums_len, nums_to, List.length_take]; omega
      have z2 : (s.extract (s.size - 1) s.size).size ≤ 1000000000 := by rw [← nums_len, nums_from, List.length_drop, nums_len]; omega
      have c1 := fun V => stand_any s 2 labC place2 V hs
      have c2 := fun V => stand_any (s.extract 0 1) 4 edgeC place4 V z1
      have c3 := fun V => stand_any (s.extract (s.size - 1) s.size) 4 edgeC place4 V z2
      rw [nums_to] at c2
      rw [nums_from] at c3
      generalize (nums s).all labC = b1 at c1 HZ
      generalize ((nums s).take 1).all edgeC = b2 at c2 HZ
      generalize ((nums s).drop (s.size - 1)).all edgeC = b3 at c3 HZ
      clear HE h0
      cases b1 with
      | false =>
        go_enter Tryd.func54, Tryd.ntmps54
        go_wp2_with (first | (go_at_call_of 64 (Value.int .i64 2); refine (c1 _).mono ?_; rintro e w' ⟨rfl, rfl⟩))
        go_ret
        exact ⟨ret_bool (by rw [HZ.out]; rfl), rfl⟩
      | true =>
        cases b2 with
        | false =>
          go_enter Tryd.func54, Tryd.ntmps54
          go_wp2_with (first | (go_at_call_of 64 (Value.int .i64 2); refine (c1 _).mono ?_; rintro e w' ⟨rfl, rfl⟩) | (go_at_call_of 64 (Value.string (s.extract 0 1)); refine (c2 _).mono ?_; rintro e w' ⟨rfl, rfl⟩))
          go_ret
          exact ⟨ret_bool (by rw [HZ.out]; rfl), rfl⟩
        | true =>
          go_enter Tryd.func54, Tryd.ntmps54
          go_wp2_with (first | (go_at_call_of 64 (Value.int .i64 2); refine (c1 _).mono ?_; rintro e w' ⟨rfl, rfl⟩) | (go_at_call_of 64 (Value.string (s.extract 0 1)); refine (c2 _).mono ?_; rintro e w' ⟨rfl, rfl⟩) | (go_at_call 64; refine (c3 _).mono ?_; rintro e w' ⟨rfl, rfl⟩))
          go_ret
          exact ⟨ret_bool (by rw [HZ.out]; simp), rfl⟩
    · have hd : decide ((s.size : Int) > 63) = true := decide_eq_true (by omega)
      have HR : Hid (labelZ (nums s) = false) := by unfold Hid labelZ; rw [nums_len, decide_eq_false h63]; simp
      go_enter Tryd.func54, Tryd.ntmps54
      go_wp2
      go_ret
      exact ⟨ret_bool HR.out.symm, rfl⟩
/-- May a text be a Name? -/
def valC (c : Int) : Bool := decide (32 ≤ c) && decide (c ≤ 126)
def nameZ (l : List Int) : Bool := l.all valC && decide (l.length ≤ 128)
set_option maxRecDepth 100000 in
set_option maxHeartbeats 2000000 in
theorem isName_any (s : ByteArray) (w : World) (hs : s.size ≤ 1000000000) : Calls Tryd.prog 37 #[.string s] w fun e w' => e = .returned (.bool (nameZ (nums s))) ∧ w = w' := by
  go_enter Tryd.func37, Tryd.ntmps37
  go_wp2
  go_loopw [6] (fun i wr => ∃ k : Nat, i = .int .i64 k ∧ k ≤ s.size ∧ ((nums s).take k).all valC = true ∧ w = wr) (fun i _ => s.size - (intOf i).toNat)
  case atStart => exact ⟨0, rfl, by omega, by simp, rfl⟩
  case round =>
    obtain ⟨k, rfl, hk, hall, rfl⟩ := hrel
    have HA : Hid (((nums s).take k).all valC = true) := hall
    clear hall
    by_cases hlt : k < s.size
    · have HN : Hid ((nums s)[k]? = some (s[k].toNat : Int)) := nums_at s k hlt
      obtain ⟨c, hc⟩ : ∃ c : Int, ((s[k]'hlt).toNat : Int) = c := ⟨_, rfl⟩
      rw [hc] at HN
      by_cases h1 : 32 ≤ c
      · by_cases h2 : c ≤ 126
        · have HM : Hid (valC c = true) := by unfold Hid valC; simp [h1, h2]
          go_wp2
          go_roundw
          case rel => exact ⟨k + 1, by go_num, by omega, by rw [all_take _ _ _ _ HN.out, HA.out, HM.out]; rfl, by first | trivial | rfl⟩
          case measure => simp [intOf]; omega
        · have HR : Hid (nameZ (nums s) = false) := by unfold Hid nameZ; rw [all_bad _ _ _ _ HN.out (by unfold valC; simp [h2])]; rfl
          go_wp2
          go_ret
          exact ⟨ret_bool HR.out.symm, by first | trivial | rfl⟩
      · have HR : Hid (nameZ (nums s) = false) := by unfold Hid nameZ; rw [all_bad _ _ _ _ HN.out (by unfold valC; simp [h1])]; rfl
        go_wp2
        go_ret
        exact ⟨ret_bool HR.out.symm, by first | trivial | rfl⟩
    · obtain rfl : k = s.size := by omega
      have HT : Hid (nameZ (nums s) = decide ((s.size : Int) ≤ 128)) := by
        have := HA.out
        rw [List.take_of_length_le (by rw [nums_len]; exact Nat.le_refl _)] at this
        unfold Hid nameZ; rw [this, nums_len]
        rw [Bool.eq_iff_iff]; simp; omega
      go_wp2
      go_ret
      exact ⟨ret_bool HT.out.symm, by first | trivial | rfl⟩
end Go.Proofs.YtomcjkghneingabDoor
