/-
  The contract of Points.
-/
import Derived.Test.YtfhgkkdbkbbpkaaDoorCBase
import Derived.Test.YtfhgkkdbkbbpkaaDoorCUValid
namespace Go.Proofs.YtfhgkkdbkbbpkaaDoor.Cs.Ut
open Go.RowKit
set_option linter.unusedVariables false

theorem Tryd.info21 : (Tryd.prog.info? 21).map (fun i => (i.zero, i.size, i.bytes)) = some (some (.int .i32 0), 1, 4) := by kernel_rfl
/-- What a slice value owns, as points. -/
def Own32 (w : World) (B : Nat) (v : Value) (l : List Int) : Prop := w.ownsRow B 21 1 v l.length (l.map (Value.int .i32))
theorem ints_one32 (l : List Int) : ∀ u ∈ l.map (Value.int .i32), u.oneCell' = true := by
  intro u hu; simp at hu; obtain ⟨a, _, rfl⟩ := hu; rfl

theorem own_base {w : World} {B B' : Nat} {e : TypeId} {size : Nat} {v : Value} {n : Nat} {xs : List Value} (hB : B' ≤ B) (h : w.ownsRow B e size v n xs) : w.ownsRow B' e size v n xs := by
  refine ⟨h.1, ?_⟩
  rcases h.2 with h | ⟨g, cap, cur, h1, h2, h3⟩
  · exact .inl h
  · exact .inr ⟨g, cap, cur, h1, Nat.le_trans hB h2, h3⟩
theorem flat_ge : ∀ ps : List Int, ps.length ≤ (flat ps).length
  | [] => by simp
  | p :: ps => by have := flat_ge ps; have := enc_len p; rw [flat_cons, List.length_append, List.length_cons]; omega


end Go.Proofs.YtfhgkkdbkbbpkaaDoor.Cs.Ut
