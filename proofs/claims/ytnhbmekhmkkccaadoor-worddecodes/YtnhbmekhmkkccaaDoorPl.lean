/-
  The contracts of strings.HasSuffix, CutPrefix, CutSuffix, Contains at two bytes, and of Plain.
-/
import Derived.Test.YtnhbmekhmkkccaaDoorIdx
import Derived.Test.YtnhbmekhmkkccaaDoorShelf
import Derived.Test.YtnhbmekhmkkccaaDoorQDec
namespace Go.Proofs.YtnhbmekhmkkccaaDoor
open Go.RowKit
set_option linter.unusedVariables false

theorem hasPrefix_any (s p : ByteArray) (w : World) : Calls Tryd.prog 25 #[.string s, .string p] w fun e w' => e = .returned (.bool (decide ((nums s).take p.size = nums p))) ∧ w = w' := Qu.hasPrefix_any s p w
set_option maxRecDepth 100000 in
theorem hasSuffix_any (s p : ByteArray) (w : World) (hs : s.size ≤ 1000000000) : Calls Tryd.prog 26 #[.string s, .string p] w fun e w' => e = .returned (.bool (decide (p.size ≤ s.size) && decide ((nums s).drop (s.size - p.size) = nums p))) ∧ w = w' := by
  have q : ∀ t : ByteArray, (t.toList == p.toList) = decide (nums t = nums p) := fun t => eq_nums t p
  by_cases h : p.size ≤ s.size
  · have k1 : (0 : Int) ≤ (s.size : Int) - (p.size : Int) := by omega
    have k2 : (s.size : Int) - (p.size : Int) ≤ (s.size : Int) := by omega
    have k3 : ((s.size : Int) - (p.size : Int)).toNat = s.size - p.size := by omega
    go_enter Tryd.func26, Tryd.ntmps26
    go_wp2
    go_ret
    refine ⟨ret_bool ?_, rfl⟩
    rw [nums_from, decide_eq_true h, Bool.true_and]
  · go_enter Tryd.func26, Tryd.ntmps26
    go_wp2
    go_ret
    refine ⟨ret_bool ?_, rfl⟩
    rw [decide_eq_false h, Bool.false_and]
/-- What CutPrefix and CutSuffix answer. -/
def PfxA (p : List Int) (s x : ByteArray) (b : Bool) : Prop := (b = true → nums s = p ++ nums x) ∧ (b = false → x = s ∧ ∀ r, nums s ≠ p ++ r)
def SfxA (p : List Int) (s x : ByteArray) (b : Bool) : Prop := (b = true → nums s = nums x ++ p) ∧ (b = false → x = s ∧ ∀ r, nums s ≠ r ++ p)
set_option maxRecDepth 100000 in
theorem cutPrefix_any (s p : ByteArray) (w : World) :
    Calls Tryd.prog 29 #[.string s, .string p] w fun e w' => ∃ x b, e = .returned (.tuple #[.string x, .bool b]) ∧ PfxA (nums p) s x b ∧ w = w' ∧ x.size ≤ s.size := by
  have q : ∀ t : ByteArray, (t.toList == p.toList) = decide (nums t = nums p) := fun t => eq_nums t p
  by_cases h : p.size ≤ s.size
  · cases hb : decide ((nums s).take p.size = nums p) with
    | true =>
      have HP : Hid (PfxA (nums p) s (s.extract p.size s.size) true) := ⟨fun _ => by rw [nums_from, ← of_decide_eq_true hb, List.take_append_drop], fun e => (by cases e)⟩
      have hz : (s.extract p.size s.size).size ≤ s.size := by rw [← nums_len, nums_from, List.length_drop, nums_len]; omega
      have q2 := q (s.extract 0 p.size)
      rw [nums_to, hb] at q2
      clear q hb
      go_enter Tryd.func29, Tryd.ntmps29
      go_wp2
      go_ret2
      exact ⟨_, true, rfl, HP.out, rfl, hz⟩
    | false =>
      have HP : Hid (PfxA (nums p) s s false) := ⟨fun e => (by cases e), fun _ => ⟨rfl, fun r hr => by
        have := of_decide_eq_false hb
        exact this (by rw [hr, ← nums_len p, List.take_left])⟩⟩
      have q2 := q (s.extract 0 p.size)
      rw [nums_to, hb] at q2
      clear q hb
      go_enter Tryd.func29, Tryd.ntmps29
      go_wp2
      go_ret2
      exact ⟨_, false, rfl, HP.out, rfl, Nat.le_refl _⟩
  · have HP : Hid (PfxA (nums p) s s false) := ⟨fun e => (by cases e), fun _ => ⟨rfl, fun r hr => by
      have := congrArg List.length hr
      rw [List.length_append, nums_len, nums_len] at this
      omega⟩⟩
    clear q
    go_enter Tryd.func29, Tryd.ntmps29
    go_wp2
    go_ret2
    exact ⟨_, false, rfl, HP.out, rfl, Nat.le_refl _⟩
set_option maxRecDepth 100000 in
theorem cutSuffix_any (s p : ByteArray) (w : World) (hs : s.size ≤ 1000000000) :
    Calls Tryd.prog 30 #[.string s, .string p] w fun e w' => ∃ x b, e = .returned (.tuple #[.string x, .bool b]) ∧ SfxA (nums p) s x b ∧ w = w' ∧ x.size ≤ s.size := by
  have q : ∀ t : ByteArray, (t.toList == p.toList) = decide (nums t = nums p) := fun t => eq_nums t p
  by_cases h : p.size ≤ s.size
  · have k1 : (0 : Int) ≤ (s.size : Int) - (p.size : Int) := by omega
    have k2 : (s.size : Int) - (p.size : Int) ≤ (s.size : Int) := by omega
    have k3 : ((s.size : Int) - (p.size : Int)).toNat = s.size - p.size := by omega
    cases hb : decide ((nums s).drop (s.size - p.size) = nums p) with
    | true =>
      have HP : Hid (SfxA (nums p) s (s.extract 0 (s.size - p.size)) true) := ⟨fun _ => by rw [nums_to, ← of_decide_eq_true hb, List.take_append_drop], fun e => (by cases e)⟩
      have hz : (s.extract 0 (s.size - p.size)).size ≤ s.size := by rw [← nums_len, nums_to, List.length_take, nums_len]; omega
      have q2 := q (s.extract (s.size - p.size) s.size)
      rw [nums_from, hb] at q2
      clear q hb
      go_enter Tryd.func30, Tryd.ntmps30
      go_wp2
      go_ret2
      exact ⟨_, true, rfl, HP.out, rfl, hz⟩
    | false =>
      have HP : Hid (SfxA (nums p) s s false) := ⟨fun e => (by cases e), fun _ => ⟨rfl, fun r hr => by
        have := of_decide_eq_false hb
        have hl := congrArg List.length hr
        rw [List.length_append, nums_len, nums_len] at hl
        exact this (by rw [hr, show s.size - p.size = r.length by omega, List.drop_left])⟩⟩
      have q2 := q (s.extract (s.size - p.size) s.size)
      rw [nums_from, hb] at q2
      clear q hb
      go_enter Tryd.func30, Tryd.ntmps30
      go_wp2
      go_ret2
      exact ⟨_, false, rfl, HP.out, rfl, Nat.le_refl _⟩
  · have HP : Hid (SfxA (nums p) s s false) := ⟨fun e => (by cases e), fun _ => ⟨rfl, fun r hr => by
      have := congrArg List.length hr
      rw [List.length_append, nums_len, nums_len] at this
      omega⟩⟩
    clear q
    go_enter Tryd.func30, Tryd.ntmps30
    go_wp2
    go_ret2
    exact ⟨_, false, rfl, HP.out, rfl, Nat.le_refl _⟩
/-- Do two signs stand one behind the other? -/
def has2 (a b : Int) : List Int → Bool
  | c :: d :: r => (decide (c = a) && decide (d = b)) || has2 a b (d :: r)
  | _ => false
theorem contains_two (x y : UInt8) : ∀ l : List UInt8, Lib.contains l [x, y] = has2 (x.toNat : Int) (y.toNat : Int) (l.map fun b => (b.toNat : Int))
  | [] => by rfl
  | [c] => by simp [Lib.contains, Lib.index, has2, List.isPrefixOf]
  | c :: d :: r => by
    have ih := contains_two x y (d :: r)
    have hge := Lib.index_ge (d :: r) [x, y]
    simp only [List.map_cons]
    rw [has2]
    simp only [List.map_cons] at ih
    rw [← ih]
    unfold Lib.contains
    rw [Lib.index]
    have hp : [x, y].isPrefixOf (c :: d :: r) = (decide ((c.toNat : Int) = (x.toNat : Int)) && decide ((d.toNat : Int) = (y.toNat : Int))) := by
      rw [Bool.eq_iff_iff]
      simp [List.isPrefixOf]
      constructor
      · rintro ⟨h1, h2⟩; exact ⟨by rw [h1], by rw [h2]⟩
      · rintro ⟨h1, h2⟩; exact ⟨(UInt8.toNat_inj.1 (by omega)).symm, (UInt8.toNat_inj.1 (by omega)).symm⟩
    rw [hp]
    generalize (decide ((c.toNat : Int) = (x.toNat : Int)) && decide ((d.toNat : Int) = (y.toNat : Int))) = b1
    cases b1 with
    | true => simp
    | false =>
      simp only [Bool.false_eq_true, if_false, Bool.false_or]
      rw [Bool.eq_iff_iff]
      simp only [decide_eq_true_eq, beq_iff_eq]
      split <;> omega
theorem contains_any (s : ByteArray) (x y : UInt8) (m : Int) (w : World) (hs : s.size ≤ 1000000000) (hm : w.cell? ⟨0, 0, none⟩ = some (.int .i64 m)) :
    Calls Tryd.prog 27 #[.string s, .string ⟨#[x, y]⟩] w fun e w' => e = .returned (.bool (has2 (x.toNat : Int) (y.toNat : Int) (nums s))) ∧ w = w' := by
  refine (strings_Contains s ⟨#[x, y]⟩ m w (by omega) hm).mono ?_
  rintro e w' ⟨rfl, rfl⟩
  exact ⟨ret_bool (contains_two x y s.data.toList), rfl⟩
def valC (c : Int) : Bool := decide (32 ≤ c) && decide (c ≤ 126)
def endsB (l : List Int) : Bool := decide (l.take 1 = [32]) || decide (l.drop (l.length - 1) = [32])
def plainZ (l : List Int) : Bool := l.all valC && !endsB l && !has2 32 32 l && !has2 61 63 l
set_option maxHeartbeats 2000000 in
set_option maxRecDepth 100000 in
theorem plain_any (s : ByteArray) (m : Int) (w : World) (hs : s.size ≤ 1000000000) (hm : w.cell? ⟨0, 0, none⟩ = some (.int .i64 m)) :
    Calls Tryd.prog 12 #[.string s] w fun e w' => e = .returned (.bool (plainZ (nums s))) ∧ w = w' := by
  have HC1 := contains_any s 32 32 m w hs hm
  have HC2 := contains_any s 61 63 m w hs hm
  have hpre := hasPrefix_any s ⟨#[32]⟩ w
  have hsuf := hasSuffix_any s ⟨#[32]⟩ w hs
  have e1 : (⟨#[32]⟩ : ByteArray).size = 1 := rfl
  have e2 : nums (⟨#[32]⟩ : ByteArray) = [32] := rfl
  rw [e1, e2] at hpre hsuf
  have ha : ((32 : UInt8).toNat : Int) = 32 := rfl
  have hb : ((61 : UInt8).toNat : Int) = 61 := rfl
  have hc : ((63 : UInt8).toNat : Int) = 63 := rfl
  rw [ha] at HC1
  rw [hb, hc] at HC2
  clear ha hb hc hm e1 e2
  have HE : Hid (endsB (nums s) = (decide ((nums s).take 1 = [32]) || (decide (1 ≤ s.size) && decide ((nums s).drop (s.size - 1) = [32])))) := by
    unfold Hid endsB
    rw [nums_len]
    by_cases h : 1 ≤ s.size
    · rw [decide_eq_true h, Bool.true_and]
    · rw [decide_eq_false h, Bool.false_and]
      have : nums s = [] := List.eq_nil_of_length_eq_zero (by rw [nums_len]; omega)
      rw [this]; simp
  generalize hq1 : decide ((nums s).take 1 = [32]) = b1 at hpre HE
  generalize hq2 : (decide (1 ≤ s.size) && decide ((nums s).drop (s.size - 1) = [32])) = b2 at hsuf HE
  generalize hq3 : has2 32 32 (nums s) = b3 at HC1
  generalize hq4 : has2 61 63 (nums s) = b4 at HC2
  have HZ : Hid (plainZ (nums s) = ((nums s).all valC && !(b1 || b2) && !b3 && !b4)) := by unfold Hid plainZ; rw [HE.out, hq3, hq4]
  clear HE hq1 hq2 hq3 hq4
  go_enter Tryd.func12, Tryd.ntmps12
  go_wp2
  go_loopw [6] (fun i wr => ∃ k : Nat, i = .int .i64 k ∧ k ≤ s.size ∧ ((nums s).take k).all valC = true ∧ w = wr) (fun i _ => s.size - (intOf i).toNat)
  case atStart => exact ⟨0, rfl, by omega, by simp, rfl⟩
  case round =>
    obtain ⟨k, rfl, hk, hal, rfl⟩ := hrel
    have HA : Hid (((nums s).take k).all valC = true) := hal
    clear hal
    by_cases hlt : k < s.size
    · have HN : Hid ((nums s)[k]? = some (s[k].toNat : Int)) := nums_at s k hlt
      obtain ⟨c, hc⟩ : ∃ c : Int, (s[k].toNat : Int) = c := ⟨_, rfl⟩
      rw [hc] at HN
      by_cases h32 : c < 32
      · have HV : Hid (plainZ (nums s) = false) := by
          unfold Hid; rw [HZ.out, all_bad _ _ _ _ HN.out (by simp [valC]; omega)]; simp
        go_wp2
        go_ret
        exact ⟨ret_bool HV.out.symm, by first | trivial | rfl⟩
      · by_cases h126 : 126 < c
        · have HV : Hid (plainZ (nums s) = false) := by
            unfold Hid; rw [HZ.out, all_bad _ _ _ _ HN.out (by simp [valC]; omega)]; simp
          have hd1 : decide (c < 32) = false := decide_eq_false h32
          go_wp2
          go_ret
          exact ⟨ret_bool HV.out.symm, by first | trivial | rfl⟩
        · have HV : Hid (((nums s).take (k + 1)).all valC = true) := by
            unfold Hid; rw [all_take _ _ _ _ HN.out, HA.out]; simp [valC]; omega
          have hd1 : decide (c < 32) = false := decide_eq_false h32
          go_wp2
          go_roundw
          case rel => exact ⟨k + 1, by go_num, by omega, HV.out, by first | trivial | rfl⟩
          case measure => simp [intOf]; omega
    · obtain rfl : k = s.size := by omega
      have HV : Hid (plainZ (nums s) = (!(b1 || b2) && !b3 && !b4)) := by
        unfold Hid; rw [HZ.out]
        have := HA.out
        rw [List.take_of_length_le (by rw [nums_len]; exact Nat.le_refl _)] at this
        rw [this, Bool.true_and]
      clear HZ HA
      cases b1 with
      | true =>
        go_wp2_with (go_at_call 25; refine hpre.mono ?_; rintro e w' ⟨rfl, rfl⟩)
        go_ret
        exact ⟨ret_bool HV.out.symm, by first | trivial | rfl⟩
      | false =>
        cases b2 with
        | true =>
          go_wp2_with (first
            | (go_at_call 25; refine hpre.mono ?_; rintro e w' ⟨rfl, rfl⟩)
            | (go_at_call 26; refine hsuf.mono ?_; rintro e w' ⟨rfl, rfl⟩))
          go_ret
          exact ⟨ret_bool HV.out.symm, by first | trivial | rfl⟩
        | false =>
          cases b3 with
          | true =>
            go_wp2_with (first
              | (go_at_call 25; refine hpre.mono ?_; rintro e w' ⟨rfl, rfl⟩)
              | (go_at_call 26; refine hsuf.mono ?_; rintro e w' ⟨rfl, rfl⟩)
              | (go_at_call 27; refine HC1.mono ?_; rintro e w' ⟨rfl, rfl⟩))
            go_ret
            exact ⟨ret_bool HV.out.symm, by first | trivial | rfl⟩
          | false =>
            go_wp2_with (first
              | (go_at_call 25; refine hpre.mono ?_; rintro e w' ⟨rfl, rfl⟩)
              | (go_at_call 26; refine hsuf.mono ?_; rintro e w' ⟨rfl, rfl⟩)
              | (go_at_call_of 27 (Value.string ⟨#[32, 32]⟩); refine HC1.mono ?_; rintro e w' ⟨rfl, rfl⟩)
              | (go_at_call 27; refine HC2.mono ?_; rintro e w' ⟨rfl, rfl⟩))
            go_ret
            exact ⟨ret_bool HV.out.symm, by first | trivial | rfl⟩
end Go.Proofs.YtnhbmekhmkkccaaDoor
