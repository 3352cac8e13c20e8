/-
  Small letters of addresses.
-/
import Derived.Test.YtedbgjpjipblcaaDoorAlive
import Derived.Deep.RegionHeld3
namespace Go.Proofs.YtedbgjpjipblcaaDoor
set_option linter.unusedVariables false

theorem small_small (c : Int) : smallZ (smallZ c) = smallZ c := by
  unfold smallZ
  split <;> first | rfl | (split <;> omega)
theorem small_eq {c k : Int} (hk : k < 65 ∨ 122 < k) : smallZ c = k ↔ c = k := by unfold smallZ; split <;> omega
theorem edge_small (c : Int) : edgeC (smallZ c) = edgeC c := by
  unfold edgeC smallZ
  split
  · rw [Bool.eq_iff_iff]; simp; omega
  · rfl
theorem lab_small (c : Int) : labC (smallZ c) = labC c := by
  unfold labC
  rw [edge_small]
  congr 1
  rw [Bool.eq_iff_iff, decide_eq_true_eq, decide_eq_true_eq]
  exact small_eq (by omega)
theorem signs_small (c : Int) : atomC (smallZ c) = atomC c := by
  unfold atomC
  rw [lab_small]
  by_cases h : 65 ≤ c ∧ c ≤ 90
  · have e : labC c = true := by unfold labC edgeC; simp; omega
    rw [e]; rfl
  · have : smallZ c = c := by unfold smallZ; rw [if_neg h]
    rw [this]
theorem pieces_small : ∀ l : List Int, pieces 46 (l.map smallZ) = (pieces 46 l).map (List.map smallZ)
  | [] => rfl
  | d :: r => by
    have ih := pieces_small r
    rw [List.map_cons, pieces, pieces]
    by_cases h : d = 46
    · rw [if_pos h, if_pos ((small_eq (by omega)).2 h), ih]; rfl
    · rw [if_neg h, if_neg (fun q => h ((small_eq (by omega)).1 q)), ih]
      cases hp : pieces 46 r with
      | nil => exact absurd hp (pieces_ne 46 r)
      | cons p ps => rfl
theorem all_small (f : Int → Bool) (hf : ∀ c, f (smallZ c) = f c) (l : List Int) : (l.map smallZ).all f = l.all f := by
  rw [List.all_map]
  congr 1
  funext c
  exact hf c
theorem atom_small (l : List Int) : atomZ (l.map smallZ) = atomZ l := by
  unfold atomZ; rw [all_small _ signs_small]; cases l <;> rfl
theorem label_small (l : List Int) : labelZ (l.map smallZ) = labelZ l := by
  unfold labelZ
  rw [List.length_map, all_small _ lab_small, ← List.map_take, all_small _ edge_small, ← List.map_drop, all_small _ edge_small]
  cases l <;> rfl
theorem local_small (l : List Int) : localZ (l.map smallZ) = localZ l := by
  unfold localZ atomsZ
  rw [List.length_map, pieces_small, List.all_map]
  congr 2
  funext q
  exact atom_small q
theorem domain_small (l : List Int) : domainZ (l.map smallZ) = domainZ l := by
  unfold domainZ
  rw [List.length_map, pieces_small, List.all_map]
  congr 2
  funext q
  exact label_small q
theorem name_nil : nameZ [] = true := by decide
theorem right_small {n l d : List Int} (h : rightZ n l d = true) : rightZ [] (l.map smallZ) (d.map smallZ) = true := by
  simp only [rightZ, Bool.and_eq_true] at h ⊢
  rw [local_small, domain_small]
  exact ⟨h.1, name_nil⟩
theorem norm_eq (l d : List Int) : normL l d = l.map smallZ ++ 64 :: d.map smallZ := by unfold normL; simp; decide
theorem norm_inj {n l d n2 l2 d2 : List Int} (h : rightZ n l d = true) (h2 : rightZ n2 l2 d2 = true) : normL l d = normL l2 d2 ↔ l.map smallZ = l2.map smallZ ∧ d.map smallZ = d2.map smallZ := by
  rw [norm_eq, norm_eq]
  constructor
  · intro q; exact first_one (at_not (right_small h)) (at_not (right_small h2)) q
  · rintro ⟨q1, q2⟩; rw [q1, q2]
theorem map_small_small (l : List Int) : (l.map smallZ).map smallZ = l.map smallZ := by
  rw [List.map_map]; apply List.map_congr_left; intro c _; exact small_small c
theorem norm_norm (l d : List Int) : normL (l.map smallZ) (d.map smallZ) = normL l d := by rw [norm_eq, norm_eq, map_small_small, map_small_small]
theorem norm_plain {n l d : List Int} (h : rightZ n l d = true) : plainR (normL l d) = some (l.map smallZ, d.map smallZ) := by
  rw [norm_eq, plainR_at (at_not (right_small h)), if_pos (right_small h)]
/-- 'wpAnyH_take', the slot told. -/
theorem takeD {P : Program} {ops : Array Oper} {Q : Exit → Act → World → Prop} {md : Region.Mode} {S : World → Prop} (d : Option Tmp) {i : Nat} {oi : Oper} {v : Value} {fuel : Nat} {listed : Array Bool} {a : Act} {w : World} (hi : ops[i]? = some oi) (hd : oi.dst = d)
    (hs : Region.noSelect ops = true) (hf : Region.free md ops listed i = true) (hr : (Region.ready md ops listed).contains i = true)
    (hQ : ∀ c a w, Q (.panic c) (a.put oi.dst v) w → Q (.panic c) a w) (hy : YieldsIf P ops S oi v a) (hS : S w)
    (h : wpAnyH P md ops Q S fuel (listed.setIfInBounds i true) (a.put d v) w) : wpAnyH P md ops Q S (fuel + 1) listed a w := by
  subst hd
  exact wpAnyH_take hi hs hf hr hQ hy hS h
end Go.Proofs.YtedbgjpjipblcaaDoor
