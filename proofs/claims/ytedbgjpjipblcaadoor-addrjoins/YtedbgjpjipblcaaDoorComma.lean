/-
  The place of the comma behind an address that is written: the contract of comma.
-/
import Derived.Test.YtedbgjpjipblcaaDoorBmath
namespace Go.Proofs.YtedbgjpjipblcaaDoor
open Go.RowKit
set_option linter.unusedVariables false

/-- Neither a comma nor the sign 34. -/
def plainC (c : Int) : Bool := decide (c ≠ 44) && decide (c ≠ 34)
/-- What may stand behind a piece. -/
def Behind (r : List Int) : Prop := r = [] ∨ ∃ q, r = 44 :: q
/-- A piece of a list: plain, or a plain front, a name between two signs 34, and a plain rest. -/
def Piece (p : List Int) : Prop := p.all plainC = true ∨ ∃ (f : List Int) (n y : List Int), p = f ++ 34 :: (escL n ++ 34 :: y) ∧ f.all plainC = true ∧ (92 : Int) ∉ f ∧ y.all plainC = true
theorem plain_at {p r : List Int} {k : Nat} {c : Int} (h : (p.drop k).all plainC = true) (hk : k < p.length) (hc : (p ++ r)[k]? = some c) : c ≠ 44 ∧ c ≠ 34 := by
  rw [List.getElem?_append_left hk] at hc
  have hm : c ∈ p.drop k := by
    have : (p.drop k)[0]? = some c := by rw [List.getElem?_drop]; simpa using hc
    exact List.mem_of_getElem? this
  have := List.all_eq_true.1 h c hm
  simp [plainC] at this
  exact this
theorem drop_all {p : List Int} {k : Nat} (h : (p.drop k).all plainC = true) : (p.drop (k + 1)).all plainC = true := by
  rw [List.all_eq_true] at h ⊢
  intro x hx
  rw [← List.drop_drop] at hx
  exact h x (List.mem_of_mem_drop hx)
/-- Where the walk through a piece may stand. -/
def Here (p : List Int) (k : Nat) : Prop := (p.drop k).all plainC = true ∨ ∃ (f : List Int) (n y : List Int), p = f ++ 34 :: (escL n ++ 34 :: y) ∧ f.all plainC = true ∧ (92 : Int) ∉ f ∧ y.all plainC = true ∧ k ≤ f.length
theorem piece_here {p : List Int} (h : Piece p) : Here p 0 := by
  rcases h with h | ⟨f, n, y, h1, h2, h3, h4⟩
  · exact .inl h
  · exact .inr ⟨f, n, y, h1, h2, h3, h4, Nat.zero_le _⟩
set_option maxHeartbeats 4000000 in
theorem comma_any (s : ByteArray) (p r : List Int) (w : World) (hs : s.size ≤ 1000000000) (hp : Piece p) (hr : Behind r) (he : nums s = p ++ r) :
    Calls Tryd.prog 56 #[.string s] w fun e w' => e = .returned (.int .i64 p.length) ∧ w = w' := by
  have HSZ : Hid (s.size = p.length + r.length) := by unfold Hid; rw [← nums_len, he, List.length_append]
  have hle : p.length ≤ s.size := by have := HSZ.out; omega
  have HE : Hid (nums s = p ++ r) := he
  have HR : Hid (Behind r) := hr
  have HP : Hid (Piece p) := hp
  clear he hr hp
  go_enter Tryd.func56, Tryd.ntmps56
  go_wp2
  go_loopw [3] (fun i wr => ∃ k : Nat, i = .int .i64 k ∧ k ≤ p.length ∧ Here p k ∧ w = wr) (fun i _ => p.length - (intOf i).toNat)
  case atStart => exact ⟨0, rfl, Nat.zero_le _, piece_here HP.out, rfl⟩
  case round =>
    obtain ⟨k, rfl, hk, hh, rfl⟩ := hrel
    by_cases hlt : k < p.length
    · have hls : k < s.size := by omega
      have hd : decide ((k : Int) < (s.size : Int)) = true := decide_eq_true (by omega)
      have HN : Hid ((p ++ r)[k]? = some (s[k].toNat : Int)) := by rw [← HE.out]; exact nums_at s k hls
      obtain ⟨c, hc⟩ : ∃ c : Int, ((s[k]'hls).toNat : Int) = c := ⟨_, rfl⟩
      rw [hc] at HN
      rcases hh with hpl | ⟨f, n, y, e1, e2, e3, e4, hkf⟩
      · obtain ⟨h44, h34⟩ := plain_at hpl hlt HN.out
        have b44 : (c == 44) = false := by rw [beq_eq_false_iff_ne]; exact h44
        have b34 : (c == 34) = false := by rw [beq_eq_false_iff_ne]; exact h34
        have HH : Hid (Here p (k + 1)) := .inl (drop_all hpl)
        clear hpl h44 h34
        go_wp2
        go_roundw
        case rel => exact ⟨k + 1, by go_num, by omega, HH.out, by first | trivial | rfl⟩
        case measure => simp [intOf]; omega
      · by_cases hkl : k < f.length
        · have hcf : f[k]? = some c := by
            have := HN.out
            rw [e1, List.append_assoc, List.getElem?_append_left hkl] at this
            exact this
          have hpc := List.all_eq_true.1 e2 c (List.mem_of_getElem? hcf)
          simp [plainC] at hpc
          have b44 : (c == 44) = false := by rw [beq_eq_false_iff_ne]; exact hpc.1
          have b34 : (c == 34) = false := by rw [beq_eq_false_iff_ne]; exact hpc.2
          have HH : Hid (Here p (k + 1)) := .inr ⟨f, n, y, e1, e2, e3, e4, by omega⟩
          clear hpc hcf e1 e2 e3 e4
          go_wp2
          go_roundw
          case rel => exact ⟨k + 1, by go_num, by omega, HH.out, by first | trivial | rfl⟩
          case measure => simp [intOf]; omega
        · obtain rfl : k = f.length := by omega
          obtain rfl : c = 34 := by
            have := HN.out
            rw [e1, List.append_assoc, List.getElem?_append_right (Nat.le_refl _)] at this
            simpa using this.symm
          have hrest : (nums s).drop (f.length + 1) = escL n ++ 34 :: (y ++ r) := by
            rw [HE.out, e1, List.append_assoc, ← List.drop_drop, List.drop_left]; simp
          have hne := nameEnd_any (s.extract (f.length + 1) s.size) w (by rw [← nums_len, nums_from, List.length_drop, nums_len]; omega)
          rw [nums_from, hrest, end_esc] at hne
          have hpl : f.length + 1 + (escL n).length + 1 ≤ p.length := by rw [e1]; simp; omega
          have HH : Hid (Here p (f.length + 1 + (escL n).length + 1)) := by
            refine .inl ?_
            have : p.drop (f.length + 1 + (escL n).length + 1) = y := by
              rw [e1, show f ++ 34 :: (escL n ++ 34 :: y) = (f ++ 34 :: (escL n ++ [34])) ++ y by simp, show f.length + 1 + (escL n).length + 1 = (f ++ 34 :: (escL n ++ [34])).length by simp; omega, List.drop_left]
            rw [this]; exact e4
          have k1 : (f.length : Int) + 1 ≤ (s.size : Int) := by omega
          have k2 : (0 : Int) ≤ (f.length : Int) + 1 := by omega
          have k3 : ((f.length : Int) + 1).toNat = f.length + 1 := by omega
          have HE1 : Hid (p = f ++ 34 :: (escL n ++ 34 :: y)) := e1
          have HE3 : Hid ((92 : Int) ∉ f) := e3
          clear hrest e1 e2 e3 e4 hkf hkl
          obtain ⟨m, hm⟩ : ∃ m, f.length = m := ⟨_, rfl⟩
          have HM : Hid (f.length = m) := hm
          obtain ⟨v, hv⟩ : ∃ v, (escL n).length = v := ⟨_, rfl⟩
          have hls0 : m < s.size := by omega
          rw [hm] at hne hpl HH k1 k2 k3 hlt
          rw [hv] at hne hpl HH
          have hc0 : (s[m].toNat : Int) = 34 := by
            have := hc
            simp only [hm] at this
            exact this
          rw [hm]
          clear hm hv hc HN hls hd
          have hd : decide ((m : Int) < (s.size : Int)) = true := decide_eq_true (by omega)
          by_cases hf0 : m = 0
          · subst hf0
            simp only [Nat.zero_add] at hne hpl HH k3
            go_wp2_with (go_at_call 44; refine hne.mono ?_; rintro e w' ⟨rfl, rfl⟩)
            go_roundw
            case rel => exact ⟨1 + v + 1, by rw [show ((1 + v + 1 : Nat) : Int) = 1 + (v : Int) + 1 by omega], by omega, HH.out, by first | trivial | rfl⟩
            case measure => simp [intOf]; omega
          · have bf : ((m : Int) == 0) = false := by rw [beq_eq_false_iff_ne]; omega
            have hl1 : m - 1 < s.size := by omega
            have hN1 : f[m - 1]? = some (s[m - 1].toNat : Int) := by
              have h1 := nums_at s (m - 1) hl1
              rw [HE.out, HE1.out, List.append_assoc, List.getElem?_append_left (by rw [HM.out]; omega)] at h1
              exact h1
            have hne92 : (s[m - 1].toNat : Int) ≠ 92 := fun q => HE3.out (by rw [← q]; exact List.mem_of_getElem? hN1)
            obtain ⟨c2, hc2⟩ : ∃ c2 : Int, ((s[m - 1]'hl1).toNat : Int) = c2 := ⟨_, rfl⟩
            rw [hc2] at hne92
            have b92 : (c2 != 92) = true := by simp [hne92]
            have k4 : (0 : Int) ≤ (m : Int) - 1 := by omega
            have k5 : (m : Int) - 1 < (s.size : Int) := by omega
            have k6 : ((m : Int) - 1).toNat = m - 1 := by omega
            clear hN1 hne92 hf0
            go_wp2_with (go_at_call 44; refine hne.mono ?_; rintro e w' ⟨rfl, rfl⟩)
            go_roundw
            case rel => exact ⟨m + 1 + v + 1, by rw [show ((m + 1 + v + 1 : Nat) : Int) = (m : Int) + (1 + (v : Int)) + 1 by omega], by omega, HH.out, by first | trivial | rfl⟩
            case measure => simp [intOf]; omega
    · obtain rfl : k = p.length := by omega
      rcases HR.out with rfl | ⟨q, rfl⟩
      · have hd : decide ((p.length : Int) < (s.size : Int)) = false := decide_eq_false (by have := HSZ.out; simp at this; omega)
        have HSE : Hid ((s.size : Int) = (p.length : Int)) := by have := HSZ.out; simp at this; unfold Hid; omega
        have hd2 : ¬ (p.length < s.size) := by have := HSZ.out; simp at this; omega
        clear hh hle
        go_wp2
        go_ret
        exact ⟨by rw [← HSE.out]; rfl, by first | trivial | rfl⟩
      · have hls : p.length < s.size := by have := HSZ.out; simp at this; omega
        have hd : decide ((p.length : Int) < (s.size : Int)) = true := decide_eq_true (by omega)
        have hN : (nums s)[p.length]? = some (s[p.length].toNat : Int) := nums_at s p.length hls
        have hc : (s[p.length].toNat : Int) = 44 := by
          rw [HE.out, List.getElem?_append_right (Nat.le_refl _)] at hN
          simp at hN
          exact hN.symm
        clear hh hN
        go_wp2
        go_ret
        exact ⟨rfl, by first | trivial | rfl⟩
end Go.Proofs.YtedbgjpjipblcaaDoor
