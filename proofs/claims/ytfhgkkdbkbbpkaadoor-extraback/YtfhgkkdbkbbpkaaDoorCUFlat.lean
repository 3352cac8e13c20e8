/-
  The plain mathematics of texts that are points' bytes.
-/
import Derived.Test.YtfhgkkdbkbbpkaaDoorCUDec
namespace Go.Proofs.YtfhgkkdbkbbpkaaDoor.Cs.Ut
open Go.RowKit

def AllPt (ps : List Int) : Prop := ∀ p ∈ ps, ptB p = true
/-- The bytes of points. -/
def flat (ps : List Int) : List Int := ps.flatMap encZ
theorem flat_nil : flat [] = [] := rfl
theorem flat_cons (p : Int) (ps : List Int) : flat (p :: ps) = encZ p ++ flat ps := by simp [flat]
theorem flat_append (ps qs : List Int) : flat (ps ++ qs) = flat ps ++ flat qs := by simp [flat]
theorem AllPt.tail {p : Int} {ps : List Int} (h : AllPt (p :: ps)) : AllPt ps := fun x hx => h x (by simp [hx])
theorem AllPt.head {p : Int} {ps : List Int} (h : AllPt (p :: ps)) : ptB p = true := h p (by simp)
theorem AllPt.append {ps qs : List Int} (h : AllPt ps) (k : AllPt qs) : AllPt (ps ++ qs) := fun x hx => by
  rcases List.mem_append.1 hx with q | q
  · exact h x q
  · exact k x q
theorem AllPt.left {ps qs : List Int} (h : AllPt (ps ++ qs)) : AllPt ps := fun x hx => h x (by simp [hx])
theorem AllPt.right {ps qs : List Int} (h : AllPt (ps ++ qs)) : AllPt qs := fun x hx => h x (by simp [hx])
theorem enc_pos (p : Int) : 0 < (encZ p).length := (enc_len p).1
theorem flat_byt {ps : List Int} (h : AllPt ps) : Byt (flat ps) := by
  intro x hx
  simp only [flat, List.mem_flatMap] at hx
  obtain ⟨p, hp, hx⟩ := hx
  exact enc_byte p (h p hp) x hx
theorem enc_ne (p : Int) : encZ p ≠ [] := fun h => by have := enc_pos p; rw [h] at this; simp at this
theorem dec_flat {p : Int} {ps r : List Int} (h : AllPt (p :: ps)) : decZ (flat (p :: ps) ++ r) = some p := by
  rw [flat_cons, List.append_assoc]; exact dec_enc h.head _
theorem drop_flat (p : Int) (ps r : List Int) : (flat (p :: ps) ++ r).drop (encZ p).length = flat ps ++ r := by
  rw [flat_cons, List.append_assoc, List.drop_left]
theorem flat_ne (p : Int) (ps r : List Int) : flat (p :: ps) ++ r ≠ [] := by
  rw [flat_cons]; simp [enc_ne]
theorem flat_len (p : Int) (ps r : List Int) : (flat (p :: ps) ++ r).length = (encZ p).length + (flat ps ++ r).length := by
  rw [flat_cons]; simp
theorem dec_nil : decZ [] = none := rfl
/-- Every text is points' bytes, and a rest at whose front no point stands. -/
theorem split_n : ∀ (n : Nat) (l : List Int), l.length ≤ n → Byt l → ∃ ps r, AllPt ps ∧ l = flat ps ++ r ∧ decZ r = none
  | 0, l, hn, _ => ⟨[], l, by simp [AllPt], by simp [flat], by
      have : l = [] := List.eq_nil_of_length_eq_zero (by omega)
      rw [this]; rfl⟩
  | n + 1, l, hn, hl => by
    cases hd : decZ l with
    | none => exact ⟨[], l, by simp [AllPt], by simp [flat], hd⟩
    | some p =>
      obtain ⟨hp, r, rfl⟩ := dec_sound hl hd
      have hlen := enc_pos p
      obtain ⟨ps, r', h1, h2, h3⟩ := split_n n r (by simp at hn; omega) (fun x hx => hl x (by simp [hx]))
      refine ⟨p :: ps, r', ?_, by rw [flat_cons, h2, List.append_assoc], h3⟩
      intro x hx
      rcases List.mem_cons.1 hx with rfl | hx
      · exact hp
      · exact h1 x hx
theorem split_ex (l : List Int) (h : Byt l) : ∃ ps r, AllPt ps ∧ l = flat ps ++ r ∧ decZ r = none := split_n l.length l (Nat.le_refl _) h
/-- In one way alone. -/
theorem split_one : ∀ {ps qs r s : List Int}, AllPt ps → AllPt qs → decZ r = none → decZ s = none → flat ps ++ r = flat qs ++ s → ps = qs ∧ r = s
  | [], [], r, s, _, _, _, _, h => ⟨rfl, by simpa [flat] using h⟩
  | [], q :: qs, r, s, _, hq, hr, _, h => by
    have := dec_flat (r := s) hq
    rw [← h] at this
    simp [flat, hr] at this
  | p :: ps, [], r, s, hp, _, _, hs, h => by
    have := dec_flat (r := r) hp
    rw [h] at this
    simp [flat, hs] at this
  | p :: ps, q :: qs, r, s, hp, hq, hr, hs, h => by
    have h1 := dec_flat (r := r) hp
    have h2 := dec_flat (r := s) hq
    rw [h, h2] at h1
    obtain rfl : q = p := by simpa using h1
    rw [flat_cons, flat_cons, List.append_assoc, List.append_assoc] at h
    obtain ⟨rfl, rfl⟩ := split_one hp.tail hq.tail hr hs (List.append_cancel_left h)
    exact ⟨rfl, rfl⟩
end Go.Proofs.YtfhgkkdbkbbpkaaDoor.Cs.Ut
