/-
  The contracts of inToken, tokenEnd, isToken and isValue.
-/
import Derived.Test.YtfhgkkdbkbbpkaaDoorStr
import Derived.Lib.Bytealg
namespace Go.Proofs.YtfhgkkdbkbbpkaaDoor
open Go.RowKit
set_option linter.unusedVariables false

/-- The signs that no token has. -/
def marksZ : List Int := [40, 41, 60, 62, 64, 44, 59, 58, 92, 34, 47, 91, 93, 63, 61]
def tokC (c : Int) : Bool := decide (33 ≤ c) && decide (c ≤ 126) && !marksZ.contains c
def markI (c : Int) : Int := Lib.indexByte [40, 41, 60, 62, 64, 44, 59, 58, 92, 34, 47, 91, 93, 63, 61] c.toNat.toUInt8
theorem mark_all : ∀ c : Fin 256, decide (markI (c.val : Int) < 0) = !marksZ.contains (c.val : Int) := by decide +kernel
theorem mark_z (c : Int) (h0 : 0 ≤ c) (h1 : c < 256) : decide (markI c < 0) = !marksZ.contains c := by
  have := mark_all ⟨c.toNat, by omega⟩
  simpa [Int.toNat_of_nonneg h0] using this
set_option maxRecDepth 100000 in
theorem index_any (c : Int) (w : World) :
    Calls Tryd.prog 51 #[.string ⟨#[40, 41, 60, 62, 64, 44, 59, 58, 92, 34, 47, 91, 93, 63, 61]⟩, .int .u8 c] w fun e w' => e = .returned (.int .i64 (markI c)) ∧ w = w' := by
  go_enter Tryd.func51, Tryd.ntmps51
  go_wp2
  rw [run_callFunc_extern Tryd.func87 (by kernel_rfl) (by kernel_rfl) (by kernel_rfl) (e := Extern.BytealgIndexByte.indexByte) (by kernel_rfl), Lib.run_indexByteString]
  simp only [Result.andThen]
  rw [Oper.upon_value]
  go_wp2
  go_ret
  exact ⟨rfl, rfl⟩
set_option maxRecDepth 100000 in
theorem inToken_any (c : Int) (w : World) (h0 : 0 ≤ c) (h1 : c < 256) : Calls Tryd.prog 88 #[.int .u8 c] w fun e w' => e = .returned (.bool (tokC c)) ∧ w = w' := by
  by_cases ha : 33 ≤ c
  · by_cases hb : c ≤ 126
    · have HM : Hid (decide (markI c < 0) = tokC c) := by
        unfold Hid tokC; rw [mark_z c h0 h1, decide_eq_true ha, decide_eq_true hb]; rfl
      go_enter Tryd.func88, Tryd.ntmps88
      go_wp2_with (go_at_call 51; refine (index_any c _).mono ?_; rintro e w' ⟨rfl, rfl⟩)
      go_ret
      exact ⟨ret_bool HM.out, rfl⟩
    · have HM : Hid (tokC c = false) := by unfold Hid tokC; simp [hb]
      go_enter Tryd.func88, Tryd.ntmps88
      go_wp2
      go_ret
      exact ⟨ret_bool HM.out.symm, rfl⟩
  · have HM : Hid (tokC c = false) := by unfold Hid tokC; simp [ha]
    go_enter Tryd.func88, Tryd.ntmps88
    go_wp2
    go_ret
    exact ⟨ret_bool HM.out.symm, rfl⟩
/-- How many bytes at the front may be in a token. -/
def tokN (l : List Int) : Nat := (l.takeWhile tokC).length
theorem takeWhile_le (p : Int → Bool) : ∀ l : List Int, (l.takeWhile p).length ≤ l.length
  | [] => by simp
  | c :: l => by
    rw [List.takeWhile_cons]; split
    · simp; exact takeWhile_le p l
    · simp
theorem tok_stop : ∀ (l : List Int) (k : Nat) (c : Int), l[k]? = some c → (l.take k).all tokC = true → tokC c = false → tokN l = k
  | [], k, c, h, _, _ => by simp at h
  | d :: l, 0, c, h, _, hc => by
    simp only [List.getElem?_cons_zero, Option.some.injEq] at h
    subst h
    simp [tokN, hc]
  | d :: l, k + 1, c, h, ha, hc => by
    simp only [List.take_succ_cons, List.all_cons, Bool.and_eq_true] at ha
    simp only [List.getElem?_cons_succ] at h
    have ih := tok_stop l k c h ha.2 hc
    simp only [tokN, List.takeWhile_cons, ha.1, if_true, List.length_cons] at ih ⊢
    omega
theorem tok_all : ∀ l : List Int, l.all tokC = true → tokN l = l.length
  | [], _ => rfl
  | d :: l, h => by
    simp only [List.all_cons, Bool.and_eq_true] at h
    have ih := tok_all l h.2
    simp only [tokN, List.takeWhile_cons, h.1, if_true, List.length_cons] at ih ⊢
    omega
theorem tok_whole : ∀ l : List Int, decide (tokN l = l.length) = l.all tokC
  | [] => rfl
  | d :: l => by
    have ih := tok_whole l
    have hle := takeWhile_le tokC l
    simp only [tokN, List.takeWhile_cons, List.all_cons] at ih ⊢
    cases hd : tokC d with
    | true => simp only [if_true, List.length_cons, Bool.true_and, ← ih]; apply decide_eq_decide.2; omega
    | false => simp
theorem tok_take (l : List Int) : l.take (tokN l) = l.takeWhile tokC := by
  unfold tokN
  induction l with
  | nil => rfl
  | cons c l ih =>
    rw [List.takeWhile_cons]; split
    · simp only [List.length_cons, List.take_succ_cons, ih]
    · rfl
theorem tok_drop (l : List Int) : l.drop (tokN l) = l.dropWhile tokC := by
  unfold tokN
  induction l with
  | nil => rfl
  | cons c l ih =>
    rw [List.takeWhile_cons, List.dropWhile_cons]; split
    · simp only [List.length_cons, List.drop_succ_cons, ih]
    · rfl
set_option maxRecDepth 100000 in
set_option maxHeartbeats 2000000 in
theorem tokenEnd_any (s : ByteArray) (w : World) (hs : s.size ≤ 1000000000) : Calls Tryd.prog 71 #[.string s] w fun e w' => e = .returned (.int .i64 (tokN (nums s))) ∧ w = w' := by
  go_enter Tryd.func71, Tryd.ntmps71
  go_wp2
  go_loopw [6] (fun i wr => ∃ k : Nat, i = .int .i64 k ∧ k ≤ s.size ∧ ((nums s).take k).all tokC = true ∧ w = wr) (fun i _ => s.size - (intOf i).toNat)
  case atStart => exact ⟨0, rfl, by omega, by simp, rfl⟩
  case round =>
    obtain ⟨k, rfl, hk, hall, rfl⟩ := hrel
    have HA : Hid (((nums s).take k).all tokC = true) := hall
    clear hall
    by_cases hlt : k < s.size
    · have HN : Hid ((nums s)[k]? = some (s[k].toNat : Int)) := nums_at s k hlt
      have hcb : (s[k].toNat : Int) < 256 := by have := s[k].toNat_lt; omega
      have hc0 : (0 : Int) ≤ (s[k].toNat : Int) := by omega
      obtain ⟨c, hc⟩ : ∃ c : Int, ((s[k]'hlt).toNat : Int) = c := ⟨_, rfl⟩
      rw [hc] at HN hcb hc0
      cases hn : tokC c with
      | true =>
        have HM : Hid (tokC c = true) := hn
        clear hn
        go_wp2_with (go_at_call 88; refine (inToken_any c _ hc0 hcb).mono ?_; rintro e w' ⟨rfl, rfl⟩; rw [HM.out])
        go_roundw
        case rel => exact ⟨k + 1, by go_num, by omega, by rw [all_take _ _ _ _ HN.out, HA.out, HM.out]; rfl, by first | trivial | rfl⟩
        case measure => simp [intOf]; omega
      | false =>
        have HM : Hid (tokC c = false) := hn
        have HR : Hid (tokN (nums s) = k) := tok_stop _ _ _ HN.out HA.out hn
        clear hn
        go_wp2_with (go_at_call 88; refine (inToken_any c _ hc0 hcb).mono ?_; rintro e w' ⟨rfl, rfl⟩; rw [HM.out])
        go_ret
        exact ⟨by rw [HR.out]; rfl, by first | trivial | rfl⟩
    · obtain rfl : k = s.size := by omega
      have HT : Hid (tokN (nums s) = s.size) := by
        have := HA.out
        rw [List.take_of_length_le (by rw [nums_len]; exact Nat.le_refl _)] at this
        rw [← nums_len]; exact tok_all _ this
      go_wp2
      go_ret
      exact ⟨by rw [HT.out]; rfl, by first | trivial | rfl⟩
/-- Is a text a token? -/
def tokenZ (l : List Int) : Bool := !l.isEmpty && decide (l.length ≤ 64) && l.all tokC
theorem empty_nums (s : ByteArray) : (nums s).isEmpty = decide (s.size = 0) := by
  rw [Bool.eq_iff_iff]; simp only [decide_eq_true_eq, List.isEmpty_iff, ← nums_len, List.length_eq_zero_iff]
theorem empty_list (s : ByteArray) : (s.toList == ([] : List UInt8)) = decide (s.size = 0) := by
  rw [Bool.eq_iff_iff]
  simp only [beq_iff_eq, decide_eq_true_eq, ByteArray.toList_eq, ← List.length_eq_zero_iff, Array.length_toList]
  exact Iff.rfl
set_option maxRecDepth 100000 in
set_option maxHeartbeats 2000000 in
theorem isToken_any (s : ByteArray) (w : World) (hs : s.size ≤ 1000000000) : Calls Tryd.prog 53 #[.string s] w fun e w' => e = .returned (.bool (tokenZ (nums s))) ∧ w = w' := by
  have he := empty_list s
  have HE := empty_nums s
  by_cases h0 : s.size = 0
  · have HR : Hid (tokenZ (nums s) = false) := by unfold Hid tokenZ; rw [HE, decide_eq_true h0]; rfl
    rw [decide_eq_true h0] at he
    have he2 : s.toList = [] := by simpa using he
    go_enter Tryd.func53, Tryd.ntmps53
    go_wp2
    go_ret
    exact ⟨ret_bool HR.out.symm, rfl⟩
  · rw [decide_eq_false h0] at he
    have he2 : ¬ s.toList = [] := by simpa using he
    by_cases h64 : s.size ≤ 64
    · have hd : decide ((s.size : Int) ≤ 64) = true := by simp; omega
      have HR : Hid (((tokN (nums s) : Int) == (s.size : Int)) = tokenZ (nums s)) := by
        unfold Hid tokenZ
        rw [HE, decide_eq_false h0, nums_len, decide_eq_true h64, ← tok_whole, nums_len]
        rw [Bool.eq_iff_iff]
        simp
        omega
      go_enter Tryd.func53, Tryd.ntmps53
      go_wp2_with (go_at_call 71; refine (tokenEnd_any s _ hs).mono ?_; rintro e w' ⟨rfl, rfl⟩)
      go_ret
      exact ⟨ret_bool HR.out, rfl⟩
    · have hd : decide ((s.size : Int) ≤ 64) = false := by simp; omega
      have HR : Hid (tokenZ (nums s) = false) := by unfold Hid tokenZ; rw [nums_len, decide_eq_false h64]; simp
      go_enter Tryd.func53, Tryd.ntmps53
      go_wp2
      go_ret
      exact ⟨ret_bool HR.out.symm, rfl⟩
/-- May a byte stand in a Value? -/
def valC (c : Int) : Bool := decide (32 ≤ c) && decide (c ≤ 126)
def valueZ (l : List Int) : Bool := l.all valC && decide (l.length ≤ 256)
set_option maxRecDepth 100000 in
set_option maxHeartbeats 2000000 in
theorem isValue_any (s : ByteArray) (w : World) (hs : s.size ≤ 1000000000) : Calls Tryd.prog 35 #[.string s] w fun e w' => e = .returned (.bool (valueZ (nums s))) ∧ w = w' := by
  go_enter Tryd.func35, Tryd.ntmps35
  go_wp2
  go_loopw [6] (fun i wr => ∃ k : Nat, i = .int .i64 k ∧ k ≤ s.size ∧ ((nums s).take k).all valC = true ∧ w = wr) (fun i _ => s.size - (intOf i).toNat)
  case atStart => exact ⟨0, rfl, by omega, by simp, rfl⟩
  case round =>
    obtain ⟨k, rfl, hk, hall, rfl⟩ := hrel
    have HA : Hid (((nums s).take k).all valC = true) := hall
    clear hall
    by_cases hlt : k < s.size
    · have HN : Hid ((nums s)[k]? = some (s[k].toNat : Int)) := nums_at s k hlt
      obtain ⟨c, hc⟩ : ∃ c : Int, ((s[k]'hlt).toNat : Int) = c := ⟨_, rfl⟩
      rw [hc] at HN
      by_cases h1 : 32 ≤ c
      · by_cases h2 : c ≤ 126
        · have HM : Hid (valC c = true) := by unfold Hid valC; simp [h1, h2]
          go_wp2
          go_roundw
          case rel => exact ⟨k + 1, by go_num, by omega, by rw [all_take _ _ _ _ HN.out, HA.out, HM.out]; rfl, by first | trivial | rfl⟩
          case measure => simp [intOf]; omega
        · have HR : Hid (valueZ (nums s) = false) := by unfold Hid valueZ; rw [all_bad _ _ _ _ HN.out (by unfold valC; simp [h2])]; rfl
          go_wp2
          go_ret
          exact ⟨ret_bool HR.out.symm, by first | trivial | rfl⟩
      · have HR : Hid (valueZ (nums s) = false) := by unfold Hid valueZ; rw [all_bad _ _ _ _ HN.out (by unfold valC; simp [h1])]; rfl
        go_wp2
        go_ret
        exact ⟨ret_bool HR.out.symm, by first | trivial | rfl⟩
    · obtain rfl : k = s.size := by omega
      have HT : Hid (valueZ (nums s) = decide ((s.size : Int) ≤ 256)) := by
        have := HA.out
        rw [List.take_of_length_le (by rw [nums_len]; exact Nat.le_refl _)] at this
        unfold Hid valueZ; rw [this, nums_len]
        rw [Bool.eq_iff_iff]; simp; omega
      go_wp2
      go_ret
      exact ⟨ret_bool HT.out.symm, by first | trivial | rfl⟩
end Go.Proofs.YtfhgkkdbkbbpkaaDoor
