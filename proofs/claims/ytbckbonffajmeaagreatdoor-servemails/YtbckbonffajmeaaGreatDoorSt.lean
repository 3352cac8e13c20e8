/-
  How long replies are; what a session keeps.
-/
import Derived.Test.YtbckbonffajmeaaGreatDoorSs
namespace Go.Proofs.YtbckbonffajmeaaGreatDoor
open Go.RowKit Go.Shelf Go.Maps
set_option linter.unusedVariables false
set_option linter.unusedSimpArgs false

theorem replyZ_size {host : ByteArray} {c : Int} (h0 : 0 ≤ c) (h1 : c < 600) (hh : host.size ≤ 1000) : (replyZ host c).size ≤ 1010 := by
  have a := itoa_sz h0 h1
  have b : (saidZ host c).size ≤ 1000 := by
    unfold saidZ
    split
    · exact hh
    · split
      · exact (by decide : (2 : Nat) ≤ 1000)
      · exact (by decide : (2 : Nat) ≤ 1000)
  unfold replyZ
  simp only [ByteArray.size_append]
  have e1 : (⟨#[32]⟩ : ByteArray).size = 1 := rfl
  have e2 : (⟨#[13, 10]⟩ : ByteArray).size = 2 := rfl
  omega
theorem greetZ_size {s : SS} (h : SOk s) (v r : ByteArray) : (greetZ s v r).2.size ≤ 1200 := by
  have hh := h.host
  have h0 := h.size0
  have h1 := h.size1
  unfold greetZ
  split
  · have := replyZ_size (c := 501) (by decide) (by decide) hh
    show (replyZ s.host 501).size ≤ 1200
    omega
  · show ByteArray.size (if _ then heloZ s.host else ehloZ s.host s.size) ≤ 1200
    have e2 : (⟨#[13, 10]⟩ : ByteArray).size = 2 := rfl
    split
    · unfold heloZ
      simp only [ByteArray.size_append]
      have e1 : (⟨#[50, 53, 48, 32]⟩ : ByteArray).size = 4 := rfl
      omega
    · have hi : (strL (Lib.itoa s.size)).size ≤ 100 := by
        rw [strL_size]
        have := Lib.itoa_length_le s.size (by omega) (by omega)
        omega
      unfold ehloZ
      simp only [ByteArray.size_append]
      have e1 : (⟨#[50, 53, 48, 45]⟩ : ByteArray).size = 4 := rfl
      have e3 : (⟨#[50, 53, 48, 45, 83, 73, 90, 69, 32]⟩ : ByteArray).size = 9 := rfl
      have e4 : (⟨#[50, 53, 48, 45, 56, 66, 73, 84, 77, 73, 77, 69]⟩ : ByteArray).size = 12 := rfl
      have e5 : (⟨#[50, 53, 48, 32, 80, 73, 80, 69, 76, 73, 78, 73, 78, 71]⟩ : ByteArray).size = 14 := rfl
      omega
theorem codeZ_size {s : SS} (h : SOk s) {p : SS × Int} (h0 : 0 ≤ p.2) (h1 : p.2 < 600) : (codeZ s.host p).2.size ≤ 1200 := by
  have := replyZ_size h0 h1 h.host
  show (replyZ s.host p.2).size ≤ 1200
  omega
theorem doZ_size {s : SS} (h : SOk s) (v r : ByteArray) : (doZ s v r).2.size ≤ 1200 := by
  have rp : ∀ c : Int, 0 ≤ c → c < 600 → (replyZ s.host c).size ≤ 1200 := fun c h0 h1 => Nat.le_trans (replyZ_size h0 h1 h.host) (by decide)
  unfold doZ
  split
  · exact greetZ_size h v r
  · split
    · exact codeZ_size h (fromZ_ok s r).1 (fromZ_ok s r).2.1
    · split
      · exact codeZ_size h (gotoZ_ok s r).1 (gotoZ_ok s r).2.1
      · split
        · exact codeZ_size h (beginZ_ok s r).1 (beginZ_ok s r).2.1
        · split
          · exact rp 250 (by decide) (by decide)
          · split
            · exact rp 252 (by decide) (by decide)
            · split
              · exact codeZ_size h (leaveC_ok s v r).1 (leaveC_ok s v r).2.1
              · exact rp 500 (by decide) (by decide)
theorem byteZ_size {s : SS} (h : SOk s) (c : Int) : (byteZ s c).2.size ≤ 1200 := by
  unfold byteZ
  split
  · unfold seZ
    split
    · exact Nat.le_trans (replyZ_size (c := 500) (by decide) (by decide) h.host) (by decide)
    · exact doZ_size (s := offZ (halfZ s c)) ⟨h.host, h.size0, h.size1, h.takes0, h.takes1, h.sender, h.tos, h.tosz, fun c hc => by simp [offZ] at hc, Nat.zero_le _⟩ _ _
  · exact Nat.zero_le _
theorem textS_size {s : SS} (h : SOk s) (r : Dt.RS × Nat) : (textS s r).2.1.size ≤ 1200 := by
  unfold textS
  split
  · split
    · exact Nat.zero_le _
    · split
      · exact Nat.le_trans (replyZ_size (c := 552) (by decide) (by decide) h.host) (by decide)
      · exact Nat.le_trans (replyZ_size (c := 554) (by decide) (by decide) h.host) (by decide)
  · exact Nat.zero_le _
theorem runS_byt : ∀ (l : List Int) (s : SS), Byt (runS s l).2.1
  | [], s => by intro x hx; simp [runS] at hx
  | c :: l, s => by
    unfold runS
    split
    · exact (nums_byt _).append (runS_byt l _)
    · intro x hx; simp at hx
theorem fromZ_host (s : SS) (r : ByteArray) : (fromZ s r).1.host = s.host := (fromZ_ok s r).2.2
theorem doZ_host (s : SS) (v r : ByteArray) : (doZ s v r).1.host = s.host := by
  unfold doZ codeZ
  split
  · unfold greetZ; split <;> rfl
  · split
    · exact (fromZ_ok s r).2.2
    · split
      · exact (gotoZ_ok s r).2.2
      · split
        · exact (beginZ_ok s r).2.2
        · split
          · rfl
          · split
            · rfl
            · split
              · exact (leaveC_ok s v r).2.2
              · rfl
theorem byteZ_host (s : SS) (c : Int) : (byteZ s c).1.host = s.host := by
  unfold byteZ
  split
  · unfold seZ
    split
    · rfl
    · exact doZ_host _ _ _
  · have a := (addS_keeps (halfZ s c) 13).2.2
    dsimp only
    split
    · split
      · exact a
      · rfl
    · split
      · exact (addS_keeps (addS (halfZ s c) 13) c).2.2.trans a
      · exact (addS_keeps (halfZ s c) c).2.2
theorem textS_host (s : SS) (r : Dt.RS × Nat) : (textS s r).1.host = s.host := by
  unfold textS
  split
  · split <;> rfl
  · rfl
theorem sb_host (s : SS) (c : Int) : (sb s c).1.host = s.host := by
  unfold sb
  split
  · exact byteZ_host s c
  · split
    · rfl
    · exact textS_host _ _
theorem runS_host : ∀ (l : List Int) (s : SS), (runS s l).1.host = s.host
  | [], s => rfl
  | c :: l, s => by
    unfold runS
    split
    · exact (runS_host l _).trans (sb_host s c)
    · rfl
end Go.Proofs.YtbckbonffajmeaaGreatDoor
