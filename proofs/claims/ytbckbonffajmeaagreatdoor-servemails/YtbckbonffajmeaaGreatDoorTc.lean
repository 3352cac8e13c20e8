/-
  Two sessions side by side; bytes that are not all taken.
-/
import Derived.Test.YtbckbonffajmeaaGreatDoorTb
namespace Go.Proofs.YtbckbonffajmeaaGreatDoor
open Go.RowKit Go.Shelf Go.Maps
set_option linter.unusedVariables false
set_option linter.unusedSimpArgs false

/-- Where a part is not all taken, what stands behind it is of no matter. -/
theorem runS_pre : ∀ (l k : List Int) (s : SS), (runS s l).2.2 < l.length → runS s (l ++ k) = runS s l
  | [], k, s, h => by simp [runS] at h
  | c :: l, k, s, h => by
    rw [List.cons_append]
    by_cases ho : s.takes = 0 ∨ s.takes = 1
    · have e : runS s (c :: l) = ((runS (sb s c).1 l).1, nums (sb s c).2 ++ (runS (sb s c).1 l).2.1, (runS (sb s c).1 l).2.2 + 1) := by rw [runS, if_pos ho]
      have e2 : runS s (c :: (l ++ k)) = ((runS (sb s c).1 (l ++ k)).1, nums (sb s c).2 ++ (runS (sb s c).1 (l ++ k)).2.1, (runS (sb s c).1 (l ++ k)).2.2 + 1) := by rw [runS, if_pos ho]
      rw [e] at h
      have ih := runS_pre l k (sb s c).1 (by simpa using h)
      rw [e2, e, ih]
    · rw [runS_stop ho, runS_stop ho]
/-- Two sessions of which neither has what is the other's. -/
structure Ap (m u : Sm) (w : World) : Prop where
  l : ∀ k, sO m w k → ¬ (sO u w k ∨ k = u.ob)
  r : ∀ k, sO u w k → ¬ (sO m w k ∨ k = m.ob)
theorem Ap.symm {m u : Sm} {w : World} (h : Ap m u w) : Ap u m w := ⟨h.r, h.l⟩
theorem Ap.step {N K : Nat} {w w' : World} {m m' u : Sm} {s t : SS} (ha : Ap m u w) (hs : SvAt N w m s) (hu : SvAt K w u t) (hm : Mv m m' w w') : SvAt K w' u t ∧ Ap m' u w' := by
  obtain ⟨h1, h2⟩ := hu.keep hm.tk.size (fun k hk => hm.tk.2.2.2.2 k (sO_lt hu hk) (fun q => ha.l k q hk))
  refine ⟨h1, fun k q => ?_, fun k q => ?_⟩
  · rcases hm.fresh k q with q | q
    · intro q2
      exact ha.l k q (q2.imp_left (h2 k))
    · intro q2
      have := sO_lt hu (q2.imp_left (h2 k))
      omega
  · have q1 := h2 k q
    have hlt := sO_lt hu (.inl q1)
    intro q2
    rcases q2 with q2 | q2
    · rcases hm.fresh k q2 with q3 | q3
      · exact ha.r k q1 (.inl q3)
      · omega
    · exact ha.r k q1 (.inr (by rw [q2, hm.ob]))
theorem SG.other {N K : Nat} {mx : Int} {w w' : World} {m m' u : Sm} {s t : SS} (ha : Ap m u w) (hs : SvAt N w m s) (hu : SG K mx w u t) (hm : Mv m m' w w') (hgl : Gl mx w') : SG K mx w' u t ∧ Ap m' u w' := by
  obtain ⟨h1, h2⟩ := ha.step hs hu.at' hm
  refine ⟨⟨h1, hgl, fun k q => ?_⟩, h2⟩
  obtain ⟨_, h4⟩ := hu.at'.keep hm.tk.size (fun k hk => hm.tk.2.2.2.2 k (sO_lt hu.at' hk) (fun q => ha.l k q hk))
  exact hu.lo k (h4 k q)
end Go.Proofs.YtbckbonffajmeaaGreatDoor
