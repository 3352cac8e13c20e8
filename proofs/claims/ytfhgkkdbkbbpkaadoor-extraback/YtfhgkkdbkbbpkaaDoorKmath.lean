/-
  What a text says as a kind; how long its parts are.
-/
import Derived.Test.YtfhgkkdbkbbpkaaDoorQuot
import Derived.Test.YtfhgkkdbkbbpkaaDoorRight
namespace Go.Proofs.YtfhgkkdbkbbpkaaDoor
open Go.RowKit
set_option linter.unusedVariables false

/-- The parameters that stand in a text, behind those that are there. -/
def parsR : Nat → List (List Int × List Int) → List Int → Option (List (List Int × List Int))
  | _, acc, [] => some acc
  | 0, _, _ :: _ => none
  | n + 1, acc, c :: r =>
    if c = 59 then
      (if trimQ r = [] then some acc else
        match paramR (trimQ r) with
        | none => none
        | some x => parsR n (acc ++ [x.1]) (trimQ x.2))
    else none
def headR (l : List Int) : List Int := (trimQ l).dropWhile tokC
def subR (l : List Int) : List Int := signR 47 (headR l)
def kindR (l : List Int) : Option (List Int × List Int × List (List Int × List Int)) :=
  if signB 47 (headR l) = true then
    (parsR l.length [] (trimQ ((subR l).dropWhile tokC))).map fun ps => (((trimQ l).takeWhile tokC).map smallZ, ((subR l).takeWhile tokC).map smallZ, ps)
  else none
theorem quot_len : ∀ {l v t : List Int}, quotR l = some (v, t) → v.length + t.length < l.length
  | [], v, t, h => by simp [quotR] at h
  | [c], v, t, h => by
    rw [quotR] at h
    split at h
    · simp at h; obtain ⟨rfl, rfl⟩ := h; simp
    · simp at h
  | c :: d :: q, v, t, h => by
    rw [quotR] at h
    split at h
    · simp at h; obtain ⟨rfl, rfl⟩ := h; simp
    · split at h
      · rw [Option.map_eq_some_iff] at h
        obtain ⟨⟨v', t'⟩, h1, h2⟩ := h
        have := quot_len h1
        simp at h2
        obtain ⟨rfl, rfl⟩ := h2
        simp; omega
      · rw [Option.map_eq_some_iff] at h
        obtain ⟨⟨v', t'⟩, h1, h2⟩ := h
        have := quot_len h1
        simp at h2
        obtain ⟨rfl, rfl⟩ := h2
        simp at this ⊢; omega
theorem while_len (p : Int → Bool) (l : List Int) : (l.takeWhile p).length + (l.dropWhile p).length = l.length := by
  rw [← List.length_append, List.takeWhile_append_dropWhile]
theorem value_len {l v t : List Int} (h : valueR l = some (v, t)) : v.length + t.length ≤ l.length := by
  unfold valueR at h
  split at h
  · have := quot_len h
    have := sign_le 34 l
    omega
  · split at h
    · simp at h
      obtain ⟨rfl, rfl⟩ := h
      rw [while_len]; exact Nat.le_refl _
    · simp at h
theorem sign_lt {c : Int} {l : List Int} (h : signB c l = true) : (signR c l).length + 1 = l.length := by
  unfold signR; rw [if_pos h]
  cases l
  · simp [signB] at h
  · simp
theorem param_len {l n v t : List Int} (h : paramR l = some ((n, v), t)) : n.length + v.length + t.length < l.length := by
  unfold paramR at h
  split at h
  · rename_i hs
    rw [Option.map_eq_some_iff] at h
    obtain ⟨⟨v', t'⟩, h1, h2⟩ := h
    have h3 := value_len h1
    have h4 := sign_lt hs
    have h5 := while_len tokC l
    simp at h2
    obtain ⟨⟨rfl, rfl⟩, rfl⟩ := h2
    simp; omega
  · simp at h
/-- What is there stays. -/
theorem pars_len : ∀ (n : Nat) {acc ps : List (List Int × List Int)} {l : List Int}, parsR n acc l = some ps → acc.length ≤ ps.length
  | n, acc, ps, [], h => by simp [parsR] at h; rw [h]; exact Nat.le_refl _
  | 0, acc, ps, c :: r, h => by simp [parsR] at h
  | n + 1, acc, ps, c :: r, h => by
    rw [parsR] at h
    split at h
    · split at h
      · simp at h; rw [h]; exact Nat.le_refl _
      · split at h
        · simp at h
        · have := pars_len n h
          simp at this; omega
    · simp at h
/-- What Read says of a text. -/
def readR (l : List Int) : Option (List Int × List Int × List (List Int × List Int)) :=
  match kindR l with
  | none => none
  | some z => if rightZ z.1 z.2.1 z.2.2 = true then some z else none
end Go.Proofs.YtfhgkkdbkbbpkaaDoor
