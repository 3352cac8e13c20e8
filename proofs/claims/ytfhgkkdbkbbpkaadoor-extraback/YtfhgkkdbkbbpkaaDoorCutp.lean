/-
  The contracts of strings.CutPrefix and CutSuffix at one byte, of nameEnd and unquote.
-/
import Derived.Test.YtfhgkkdbkbbpkaaDoorIdx
namespace Go.Proofs.YtfhgkkdbkbbpkaaDoor
open Go.RowKit
set_option linter.unusedVariables false

theorem one_sub (l : List Int) (k : Nat) (d : Int) (h : l[k]? = some d) : (l.drop k).take 1 = [d] := by
  have hk : k < l.length := by
    rcases Nat.lt_or_ge k l.length with q | q
    · exact q
    · rw [List.getElem?_eq_none q] at h; cases h
  rw [List.drop_eq_getElem_cons hk]
  rw [List.getElem?_eq_getElem hk] at h
  simp at h
  simp [h]
/-- What CutPrefix and CutSuffix answer at one byte. -/
theorem nums_last (s : ByteArray) (h : 0 < s.size) : nums s = nums (s.extract 0 (s.size - 1)) ++ [(s[s.size - 1].toNat : Int)] := by
  have h1 := nums_at s (s.size - 1) (by omega)
  rw [nums_to]
  conv => lhs; rw [← List.take_append_drop (s.size - 1) (nums s)]
  congr 1
  rw [nums_drop s (s.size - 1) (by omega), show s.size - 1 + 1 = s.size by omega, List.drop_of_length_le (by rw [nums_len]; exact Nat.le_refl _)]
def PfxA (c : Int) (s x : ByteArray) (b : Bool) : Prop := (b = true → nums s = c :: nums x) ∧ (b = false → x = s ∧ ∀ r, nums s ≠ c :: r)
def SfxA (c : Int) (s x : ByteArray) (b : Bool) : Prop := (b = true → nums s = nums x ++ [c]) ∧ (b = false → x = s ∧ ∀ r, nums s ≠ r ++ [c])
set_option maxRecDepth 100000 in
theorem cutSuffix_any (s : ByteArray) (u : UInt8) (w : World) (hs : s.size ≤ 1000000000) :
    Calls Tryd.prog 55 #[.string s, .string ⟨#[u]⟩] w fun e w' => ∃ x b, e = .returned (.tuple #[.string x, .bool b]) ∧ SfxA (u.toNat : Int) s x b ∧ w = w' ∧ x.size ≤ s.size := by
  have h1 : (⟨#[u]⟩ : ByteArray).size = 1 := rfl
  have hn : nums (⟨#[u]⟩ : ByteArray) = [(u.toNat : Int)] := rfl
  have h61 : ∃ b : Bool, (∀ V, Calls Tryd.prog 89 #[.string s, .string ⟨#[u]⟩] V fun e w' => e = .returned (.bool b) ∧ V = w') ∧ (b = true → 0 < s.size) ∧ SfxA (u.toNat : Int) s (if b = true then s.extract 0 (s.size - 1) else s) b := by
    by_cases h0 : 0 < s.size
    · have HD := nums_last s h0
      have hen := eq_nums (s.extract (s.size - 1) s.size) ⟨#[u]⟩
      rw [nums_from, hn] at hen
      rw [ByteArray.toList_eq (⟨#[u]⟩)] at hen
      simp only at hen
      have ht : (nums s).drop (s.size - 1) = [(s[s.size - 1].toNat : Int)] := by
        rw [nums_drop s (s.size - 1) (by omega), show s.size - 1 + 1 = s.size by omega, List.drop_of_length_le (by rw [nums_len]; exact Nat.le_refl _)]
      rw [ht] at hen
      have hd : decide ((s.size : Int) ≥ 1) = true := decide_eq_true (by omega)
      have k1 : (0 : Int) ≤ (s.size : Int) - 1 := by omega
      have k2 : (s.size : Int) - 1 ≤ (s.size : Int) := by omega
      have k3 : ((s.size : Int) - 1).toNat = s.size - 1 := by omega
      by_cases hq : (s[s.size - 1].toNat : Int) = (u.toNat : Int)
      · refine ⟨true, ?_, fun _ => h0, ⟨fun _ => by rw [if_pos rfl, ← hq]; exact HD, fun q => (by cases q)⟩⟩
        rw [decide_eq_true (by rw [hq])] at hen
        have hen2 : (s.extract (s.size - 1) s.size).toList = [u] := by simpa using hen
        clear hq HD ht hn
        intro V
        go_enter Tryd.func89, Tryd.ntmps89
        go_wp2
        go_ret
        exact ⟨rfl, rfl⟩
      · refine ⟨false, ?_, fun q => (by cases q), ⟨fun q => (by cases q), fun _ => ⟨rfl, fun r hr => ?_⟩⟩⟩
        · rw [decide_eq_false (by simp; simpa using hq)] at hen
          have hen2 : ¬ (s.extract (s.size - 1) s.size).toList = [u] := by simpa using hen
          clear hq HD ht hn
          intro V
          go_enter Tryd.func89, Tryd.ntmps89
          go_wp2
          go_ret
          exact ⟨rfl, rfl⟩
        · rw [HD] at hr
          have := congrArg List.getLast? hr
          simp at this
          exact hq (by exact_mod_cast this)
    · have hd : decide ((s.size : Int) ≥ 1) = false := decide_eq_false (by omega)
      refine ⟨false, ?_, fun q => (by cases q), ⟨fun q => (by cases q), fun _ => ⟨rfl, fun r hr => ?_⟩⟩⟩
      · clear hn
        intro V
        go_enter Tryd.func89, Tryd.ntmps89
        go_wp2
        go_ret
        exact ⟨rfl, rfl⟩
      · have := congrArg List.length hr; rw [nums_len] at this; simp at this; omega
  obtain ⟨b, hc, hpos, hp⟩ := h61
  have HP : Hid (SfxA (u.toNat : Int) s (if b = true then s.extract 0 (s.size - 1) else s) b) := hp
  have h43 : ∀ V, Calls Tryd.prog 72 #[.string s, .string ⟨#[u]⟩] V fun e w' => e = .returned (.tuple #[.string (if b = true then s.extract 0 (s.size - 1) else s), .bool b]) ∧ V = w' := by
    intro V
    clear hp hn
    cases b with
    | true =>
      have h0 := hpos rfl
      have k1 : (0 : Int) ≤ (s.size : Int) - 1 := by omega
      have k2 : (s.size : Int) - 1 ≤ (s.size : Int) := by omega
      have k3 : ((s.size : Int) - 1).toNat = s.size - 1 := by omega
      simp only [if_true]
      clear hpos
      go_enter Tryd.func72, Tryd.ntmps72
      go_wp2_with (go_at_call 89; refine (hc _).mono ?_; rintro e w' ⟨rfl, rfl⟩)
      go_ret2
      exact ⟨rfl, rfl⟩
    | false =>
      simp only [Bool.false_eq_true, if_false]
      clear hpos
      go_enter Tryd.func72, Tryd.ntmps72
      go_wp2_with (go_at_call 89; refine (hc _).mono ?_; rintro e w' ⟨rfl, rfl⟩)
      go_ret2
      exact ⟨rfl, rfl⟩
  have hz : (if b = true then s.extract 0 (s.size - 1) else s).size ≤ s.size := by
    split
    · rw [← nums_len, nums_to, List.length_take, nums_len]; omega
    · exact Nat.le_refl _
  obtain ⟨x, hx⟩ : ∃ x, (if b = true then s.extract 0 (s.size - 1) else s) = x := ⟨_, rfl⟩
  rw [hx] at h43 HP hz
  clear hx hp hpos hc
  go_enter Tryd.func55, Tryd.ntmps55
  go_wp2_with (go_at_call 72; refine (h43 _).mono ?_; rintro e w' ⟨rfl, rfl⟩)
  go_ret2
  exact ⟨x, b, rfl, HP.out, rfl, hz⟩
end Go.Proofs.YtfhgkkdbkbbpkaaDoor
