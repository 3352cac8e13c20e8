/-
  Numbers, persons and domains: the contracts of number, personOf and isDomain.
-/
import Derived.Test.YtbckbonffajmeaaGreatDoorPlain
import Derived.Test.YtbckbonffajmeaaGreatDoorShelf
namespace Go.Proofs.YtbckbonffajmeaaGreatDoor
open Go.RowKit
set_option linter.unusedVariables false
set_option linter.unusedSimpArgs false

theorem toList_emp (s : ByteArray) : s.toList.isEmpty = decide (s.size = 0) := by
  rw [ByteArray.toList_eq, Bool.eq_iff_iff]
  simp only [List.isEmpty_iff, decide_eq_true_eq]
  rw [← List.length_eq_zero_iff, Array.length_toList]
  exact Iff.rfl
def digC (c : Int) : Bool := decide (48 ≤ c) && decide (c ≤ 57)
def valN (l : List Int) : Int := l.foldl (fun n c => 10 * n + (c - 48)) 0
def numZ (l : List Int) : Int × Bool := if l = [] ∨ 9 < l.length then (0, false) else if l.all digC = true then (valN l, true) else (0, false)
theorem valN_snoc (l : List Int) (c : Int) : valN (l ++ [c]) = 10 * valN l + (c - 48) := by simp [valN]
theorem valN_bound : ∀ (k : Nat) (l : List Int), l.length = k → l.all digC = true → 0 ≤ valN l ∧ valN l < 10 ^ k := by
  intro k
  induction k with
  | zero => intro l h _; rw [List.eq_nil_of_length_eq_zero h]; simp [valN]
  | succ k ih =>
    intro l h hd
    obtain ⟨a, c, rfl⟩ : ∃ a c, l = a ++ [c] := ⟨l.dropLast, l.getLast (by intro e; rw [e] at h; simp at h), (List.dropLast_concat_getLast _).symm⟩
    rw [List.all_append, Bool.and_eq_true] at hd
    have h1 := ih a (by simp at h; exact h) hd.1
    have h2 : digC c = true := by simpa using hd.2
    unfold digC at h2
    simp only [Bool.and_eq_true, decide_eq_true_eq] at h2
    rw [valN_snoc]
    rw [Int.pow_succ]
    omega
set_option maxHeartbeats 4000000 in
set_option maxRecDepth 100000 in
theorem number_any (s : ByteArray) (w : World) (hs : s.size ≤ 1000000000) : Calls Tryz.prog 153 #[.string s] w fun e w' => e = .returned (.tuple #[.int .i64 (numZ (nums s)).1, .bool (numZ (nums s)).2]) ∧ w = w' := by
  by_cases h0 : s.size = 0
  · have he : s = ⟨#[]⟩ := nums_inj (List.eq_nil_of_length_eq_zero (by rw [nums_len]; exact h0))
    subst he
    go_enter Tryz.func153, Tryz.ntmps153
    go_wp2
    go_ret2
    exact ⟨rfl, rfl⟩
  have he : s.toList.isEmpty = false := by rw [toList_emp]; simp [h0]
  by_cases h9 : 9 < s.size
  · have hd : decide ((s.size : Int) > 9) = true := by simp; omega
    have HZ : Hid (numZ (nums s) = (0, false)) := by unfold Hid numZ; rw [if_pos (.inr (by rw [nums_len]; exact h9))]
    go_enter Tryz.func153, Tryz.ntmps153
    go_wp2
    go_ret2
    exact ⟨by rw [HZ.out]; rfl, rfl⟩
  have hd : decide ((s.size : Int) > 9) = false := by simp; omega
  have HQ : Hid (∀ b, (nums s).all digC = b → numZ (nums s) = if b = true then (valN (nums s), true) else (0, false)) := fun b hb => by
    unfold numZ; rw [if_neg (by rw [← List.length_eq_zero_iff, nums_len]; omega), hb]
  go_enter Tryz.func153, Tryz.ntmps153
  go_wp2
  go_loopw [15, 4, 5] (fun i n _ wr => ∃ k : Nat, i = .int .i64 k ∧ k ≤ s.size ∧ n = .int .i64 (valN ((nums s).take k)) ∧ ((nums s).take k).all digC = true ∧ w = wr) (fun i _ _ _ => s.size - (intOf i).toNat)
  case atStart => exact ⟨0, rfl, by omega, rfl, by simp, rfl⟩
  case round =>
    obtain ⟨k, rfl, hk, rfl, hall, rfl⟩ := hrel
    have HA : Hid (((nums s).take k).all digC = true) := hall
    have hvb := valN_bound k ((nums s).take k) (by rw [List.length_take, nums_len]; omega) hall
    have hk9 : k ≤ 9 := by omega
    have hp : (10 : Int) ^ k ≤ 10 ^ 9 := by
      have : k = 0 ∨ k = 1 ∨ k = 2 ∨ k = 3 ∨ k = 4 ∨ k = 5 ∨ k = 6 ∨ k = 7 ∨ k = 8 ∨ k = 9 := by omega
      rcases this with rfl | rfl | rfl | rfl | rfl | rfl | rfl | rfl | rfl | rfl <;> decide
    obtain ⟨V, hV⟩ : ∃ V, valN ((nums s).take k) = V := ⟨_, rfl⟩
    have HV : Hid (valN ((nums s).take k) = V) := hV
    rw [hV] at hvb ⊢
    have hv0 := hvb.1
    have hv1 : V < 1000000000 := by have := hvb.2; omega
    clear hall hvb hp hV
    by_cases hlt : k < s.size
    · have HN : Hid ((nums s)[k]? = some (s[k].toNat : Int)) := nums_at s k hlt
      have hcb : ((s[k]'hlt).toNat : Int) < 256 := by have := (s[k]'hlt).toNat_lt; omega
      obtain ⟨c, hc⟩ : ∃ c : Int, ((s[k]'hlt).toNat : Int) = c := ⟨_, rfl⟩
      rw [hc] at HN hcb
      by_cases h1 : 48 ≤ c
      · by_cases h2 : c ≤ 57
        · have HM : Hid (digC c = true) := by unfold Hid digC; simp [h1, h2]
          have HT : Hid (valN ((nums s).take (k + 1)) = 10 * V + (c - 48)) := by
            unfold Hid; rw [List.take_add_one, HN.out]; simp only [Option.toList]; rw [valN_snoc, HV.out]
          go_wp2
          go_roundw
          case rel => exact ⟨k + 1, by go_num, by omega, by rw [HT.out], by rw [all_take _ _ _ _ HN.out, HA.out, HM.out]; rfl, by first | trivial | rfl⟩
          case measure => simp [intOf]; omega
        · have HR : Hid (numZ (nums s) = (0, false)) := by unfold Hid; rw [HQ.out false (all_bad _ _ _ _ HN.out (by unfold digC; simp [h2]))]; rfl
          go_wp2
          go_ret2
          exact ⟨by rw [HR.out]; rfl, by first | trivial | rfl⟩
      · have HR : Hid (numZ (nums s) = (0, false)) := by unfold Hid; rw [HQ.out false (all_bad _ _ _ _ HN.out (by unfold digC; simp [h1]))]; rfl
        go_wp2
        go_ret2
        exact ⟨by rw [HR.out]; rfl, by first | trivial | rfl⟩
    · obtain rfl : k = s.size := by omega
      have HT : Hid (numZ (nums s) = (V, true)) := by
        have h1 := HA.out
        have h2 := HV.out
        rw [List.take_of_length_le (by rw [nums_len]; exact Nat.le_refl _)] at h1 h2
        unfold Hid; rw [HQ.out true h1, h2]; rfl
      go_wp2
      go_ret2
      exact ⟨by rw [HT.out]; rfl, by first | trivial | rfl⟩
/-- The person of an address. -/
def perZ (z : List Int) : Option (List Int) :=
  if (64 : Int) ∈ z ∧ rightZ [] (z.takeWhile (· != 64)) ((z.dropWhile (· != 64)).drop 1) = true then some (normL (z.takeWhile (· != 64)) ((z.dropWhile (· != 64)).drop 1)) else none
theorem tw_at : ∀ (l d : List Int), (64 : Int) ∉ l → (l ++ 64 :: d).takeWhile (· != 64) = l ∧ ((l ++ 64 :: d).dropWhile (· != 64)).drop 1 = d
  | [], d, _ => by simp
  | c :: l, d, h => by
    have hc : c ≠ 64 := fun e => h (by rw [e]; simp)
    have ih := tw_at l d (fun q => h (List.mem_cons_of_mem _ q))
    simp only [List.cons_append, List.takeWhile_cons, List.dropWhile_cons, bne_iff_ne, ne_eq, hc, not_false_eq_true, if_true]
    exact ⟨by rw [ih.1], ih.2⟩
theorem per_yes {z l d : List Int} (h : z = l ++ 64 :: d) (hr : rightZ [] l d = true) : perZ z = some (normL l d) := by
  obtain ⟨h1, h2⟩ := tw_at l d (at_not hr)
  unfold perZ
  rw [h, h1, h2, if_pos ⟨by simp, hr⟩]
theorem split_at : ∀ z : List Int, (64 : Int) ∈ z → z = z.takeWhile (· != 64) ++ 64 :: (z.dropWhile (· != 64)).drop 1
  | [], h => by simp at h
  | c :: z, h => by
    by_cases hc : c = 64
    · subst hc; simp
    · have hz : (64 : Int) ∈ z := by
        rcases List.mem_cons.1 h with e | e
        · exact absurd e.symm hc
        · exact e
      have ih := split_at z hz
      simp only [List.takeWhile_cons, List.dropWhile_cons, bne_iff_ne, ne_eq, hc, not_false_eq_true, if_true, List.cons_append]
      rw [← ih]
theorem per_no {z : List Int} (h : ∀ l d, z = l ++ 64 :: d → rightZ [] l d = false) : perZ z = none := by
  unfold perZ
  rw [if_neg]
  rintro ⟨h1, h2⟩
  rw [h _ _ (split_at z h1)] at h2; cases h2
/-- What personOf answers. -/
def PerAns (z : List Int) (x : ByteArray) (ok : Bool) : Prop := (ok = (perZ z).isSome) ∧ nums x = (perZ z).getD []
set_option maxHeartbeats 4000000 in
set_option maxRecDepth 100000 in
theorem person_any (s : ByteArray) (w : World) (hs : s.size ≤ 100000000) : Calls Tryz.prog 26 #[.string s] w fun e w' => ∃ x ok, e = .returned (.tuple #[.string x, .bool ok]) ∧ Below w.heap.size w w' ∧ PerAns (nums s) x ok := by
  have hpl := plain_any s w (by omega)
  go_enter Tryz.func26, Tryz.ntmps26
  go_wp2_with fail
  refine hpl.mono ?_
  rintro e w1 ⟨n, l, d, c, rfl, hb1, hans⟩
  clear hpl
  have hk := keep w1 (.cells #[.string n, .string l, .string d] 90)
  have HB1 : Hid (Below w.heap.size w (w1.alloc (.cells #[.string n, .string l, .string d] 90))) := hb1.trans (hk.mono hb1.size)
  have hsz : n.size ≤ 100000000 ∧ l.size ≤ 100000000 ∧ d.size ≤ 100000000 := by
    rcases hans with ⟨_, rfl, _, _, h1, h2⟩ | ⟨_, rfl, rfl, rfl, _⟩
    · exact ⟨by decide, by omega, by omega⟩
    · exact ⟨by decide, by decide, by decide⟩
  have hno := normal_any n l d (w1.alloc (.cells #[.string n, .string l, .string d] 90)) hsz.1 hsz.2.1 hsz.2.2
  have HA : Hid (PAns s n l d c) := hans
  unfold addrV at hno ⊢
  clear hans hb1 hk hsz
  go_wp2_with fail
  refine hno.mono ?_
  rintro e w2 ⟨x, rfl, hb2, hx⟩
  have HB2 : Hid (Below w.heap.size w w2) := HB1.out.trans (hb2.mono HB1.out.size)
  clear hno hb2
  have HP : Hid (PerAns (nums s) x (c == 0)) := by
    rcases HA.out with ⟨rfl, rfl, h1, h2, _⟩ | ⟨rfl, rfl, rfl, rfl, h1⟩
    · have h3 := per_yes h2 h1
      exact ⟨by rw [h3]; rfl, by rw [h3]; exact hx.1 h1⟩
    · have h3 := per_no h1
      refine ⟨by rw [h3]; rfl, ?_⟩
      have h4 : rightZ (nums ⟨#[]⟩) (nums ⟨#[]⟩) (nums ⟨#[]⟩) = false := by decide
      rw [h3, hx.2 h4]; rfl
  clear hx HA
  go_wp2
  go_ret2
  exact ⟨x, _, rfl, HB2.out, HP.out⟩
theorem aDom (d : List Int) : rightZ [] (nums ⟨#[97]⟩) d = domainZ d := by
  unfold rightZ
  rw [show localZ (nums ⟨#[97]⟩) = true by decide, show nameZ [] = true by decide, Bool.true_and, Bool.and_true]
set_option maxHeartbeats 4000000 in
set_option maxRecDepth 100000 in
theorem isDom_any (s : ByteArray) (w : World) (hs : s.size ≤ 1000000000) : Calls Tryz.prog 25 #[.string s] w fun e w' => e = .returned (.bool (domainZ (nums s))) ∧ Below w.heap.size w w' := by
  have hri := right_any ⟨#[]⟩ ⟨#[97]⟩ s w (by decide) (by decide) hs
  rw [show nums ⟨#[]⟩ = [] from rfl, aDom] at hri
  unfold addrV at hri
  go_enter Tryz.func25, Tryz.ntmps25
  go_wp2_with fail
  refine hri.mono ?_
  rintro e w1 ⟨rfl, hb1⟩
  clear hri
  go_wp2
  go_ret
  exact ⟨rfl, hb1⟩
end Go.Proofs.YtbckbonffajmeaaGreatDoor
