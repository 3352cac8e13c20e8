/-
  The contracts of strings.Trim and bytes.Trim at a blank and a tab, and of isValue.
-/
import Derived.Test.YtmdkmedlncfcbaaGreatDoorShelf
import Derived.Test.YtmdkmedlncfcbaaGreatDoorStr
namespace Go.Proofs.YtmdkmedlncfcbaaGreatDoor
open Go.RowKit
set_option linter.unusedVariables false

/-- A blank or a tab. -/
def blankC (c : Int) : Bool := decide (c = 32) || decide (c = 9)
def trimR (l : List Int) : List Int := (l.reverse.dropWhile blankC).reverse
def trimZ (l : List Int) : List Int := (trimR l).dropWhile blankC
theorem map_dropWhile (l : List UInt8) (cs : List UInt8) (p : Int → Bool) (h : ∀ b, cs.contains b = p (b.toNat : Int)) : (l.dropWhile (cs.contains ·)).map (fun b => (b.toNat : Int)) = (l.map fun b => (b.toNat : Int)).dropWhile p := by
  induction l with
  | nil => rfl
  | cons b l ih =>
    simp only [List.dropWhile_cons, List.map_cons, ← h b]
    cases cs.contains b
    · simp only [Bool.false_eq_true, if_false, List.map_cons]
    · simp only [if_true]; exact ih
theorem blank_byte : ∀ b : UInt8, ([32, 9] : List UInt8).contains b = blankC (b.toNat : Int) := by
  intro b
  rw [Bool.eq_iff_iff]
  simp only [blankC, List.contains_iff_mem, List.mem_cons, List.not_mem_nil, or_false, Bool.or_eq_true, decide_eq_true_eq, ← UInt8.toNat_inj]
  simp
  omega
theorem map_trimR (l : List UInt8) : (Lib.trimRightS l [32, 9]).map (fun b => (b.toNat : Int)) = trimR (l.map fun b => (b.toNat : Int)) := by
  rw [Lib.trimRightS, trimR, List.map_reverse, map_dropWhile _ _ _ blank_byte, List.map_reverse]
theorem map_trimZ (l : List UInt8) : (Lib.trimS l [32, 9]).map (fun b => (b.toNat : Int)) = trimZ (l.map fun b => (b.toNat : Int)) := by
  rw [Lib.trimS, Lib.trimLeftS, trimZ, map_dropWhile _ _ _ blank_byte, map_trimR]
set_option maxRecDepth 100000 in
theorem info_set : (Tryz.prog.info? (lays160_ren.t 116)).map (fun i => (i.zero, i.size)) = some (some (.agg (Array.replicate 256 (.bool false))), 256) := by kernel_rfl
set_option maxRecDepth 100000 in
/-- strings.Trim. -/
theorem trim_any (s : ByteArray) (w : World) (hs : s.size ≤ 10000000000) : Calls Tryz.prog 120 #[.string s, .string ⟨#[32, 9]⟩] w fun e w' => ∃ t : ByteArray, e = .returned (.string t) ∧ nums t = trimZ (nums s) ∧ Below w.heap.size w w' := by
  refine (Any.strings_Trim_laid lays160 info_set s ⟨#[32, 9]⟩ w (by omega) (by decide) (ascii_of_all (by decide))).mono ?_
  rintro e w' ⟨rfl, hb⟩
  refine ⟨_, rfl, ?_, hb⟩
  rw [nums, nums, ← map_trimZ]
/-- May a byte stand in a Value? -/
def valC (c : Int) : Bool := (decide (32 ≤ c) && decide (c ≤ 126)) || decide (c = 9)
def valueZ (l : List Int) : Bool := l.all valC && decide (l.length ≤ 4096) && decide (trimZ l = l)
set_option maxRecDepth 100000 in
set_option maxHeartbeats 2000000 in
theorem isValue_any (s : ByteArray) (w : World) (hs : s.size ≤ 10000000000) : Calls Tryz.prog 73 #[.string s] w fun e w' => e = .returned (.bool (valueZ (nums s))) ∧ Below w.heap.size w w' := by
  go_enter Tryz.func73, Tryz.ntmps73
  go_wp2
  go_loopw [7] (fun i wr => ∃ k : Nat, i = .int .i64 k ∧ k ≤ s.size ∧ ((nums s).take k).all valC = true ∧ w = wr) (fun i _ => s.size - (intOf i).toNat)
  case atStart => exact ⟨0, rfl, by omega, by simp, rfl⟩
  case round =>
    obtain ⟨k, rfl, hk, hall, rfl⟩ := hrel
    have HA : Hid (((nums s).take k).all valC = true) := hall
    clear hall
    by_cases hlt : k < s.size
    · have HN : Hid ((nums s)[k]? = some (s[k].toNat : Int)) := nums_at s k hlt
      obtain ⟨c, hc⟩ : ∃ c : Int, ((s[k]'hlt).toNat : Int) = c := ⟨_, rfl⟩
      rw [hc] at HN
      cases hn : valC c with
      | true =>
        have HM : Hid (valC c = true) := hn
        have h3 : (32 ≤ c ∧ c ≤ 126) ∨ c = 9 := by
          simp only [valC, Bool.and_eq_true, Bool.or_eq_true, decide_eq_true_eq] at hn
          exact hn
        clear hn
        rcases h3 with ⟨h1, h2⟩ | rfl
        · go_wp2
          go_roundw
          case rel => exact ⟨k + 1, by go_num, by omega, by rw [all_take _ _ _ _ HN.out, HA.out, HM.out]; rfl, by first | trivial | rfl⟩
          case measure => simp [intOf]; omega
        · go_wp2
          go_roundw
          case rel => exact ⟨k + 1, by go_num, by omega, by rw [all_take _ _ _ _ HN.out, HA.out, HM.out]; rfl, by first | trivial | rfl⟩
          case measure => simp [intOf]; omega
      | false =>
        have HR : Hid (valueZ (nums s) = false) := by unfold Hid valueZ; rw [all_bad _ _ _ _ HN.out hn]; rfl
        have h3 : (c < 32 ∨ (32 ≤ c ∧ 126 < c)) ∧ c ≠ 9 := by
          simp only [valC, Bool.or_eq_false_iff, Bool.and_eq_false_iff, decide_eq_false_iff_not] at hn
          omega
        clear hn
        have hb : (c != 9) = true := by simp [h3.2]
        obtain ⟨h3 | ⟨h3, h4⟩, h9⟩ := h3
        all_goals go_wp2
        all_goals go_ret
        all_goals exact ⟨ret_bool HR.out.symm, Below.refl _ _⟩
    · obtain rfl : k = s.size := by omega
      have HT : Hid ((nums s).all valC = true) := by
        have := HA.out
        rwa [List.take_of_length_le (by rw [nums_len]; exact Nat.le_refl _)] at this
      by_cases h4 : s.size ≤ 4096
      · have hd : decide ((s.size : Int) ≤ 4096) = true := by simp; omega
        go_wp2_with (go_at_call 120; refine (trim_any _ _ hs).mono ?_; rintro e w' ⟨t, rfl, ht, hb⟩)
        go_ret
        refine ⟨ret_bool ?_, hb⟩
        unfold valueZ
        rw [HT.out, eq_nums, ht, nums_len, decide_eq_true h4]; rfl
      · have hd : decide ((s.size : Int) ≤ 4096) = false := by simp; omega
        go_wp2
        go_ret
        refine ⟨ret_bool ?_, Below.refl _ _⟩
        unfold valueZ
        rw [HT.out, nums_len, decide_eq_false h4]; rfl
end Go.Proofs.YtmdkmedlncfcbaaGreatDoor
