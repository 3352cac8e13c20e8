/-
  Kinds without stars, and ones whose Values are printable: what Join and Split make of them.
-/
import Derived.Test.YtfhgkkdbkbbpkaaDoorFg
import Derived.Test.YtfhgkkdbkbbpkaaDoorEk
namespace Go.Proofs.YtfhgkkdbkbbpkaaDoor
open Go.RowKit
set_option linter.unusedVariables false
set_option linter.unusedSimpArgs false

theorem last_none {c : Int} : ∀ {l : List Int}, c ∉ l → lastZ c l = -1
  | [], _ => rfl
  | x :: r, h => by
    have h1 : c ∉ r := fun q => h (by simp [q])
    have h2 : ¬ x = c := fun q => h (by simp [q])
    simp only [lastZ]
    rw [last_none h1, if_neg (by omega), if_neg h2]
theorem piece_none {s : List Int} (h : 42 ∉ s) : pieceZ s = (s, -1, false, false) := by
  have hn : ¬ s.getLast? = some 42 := fun q => h (List.mem_of_getLast? q)
  unfold pieceZ
  simp only [hn, if_false, decide_false]
  rw [last_none h, if_neg (by omega)]
theorem gather_none : ∀ {ps : List (List Int × List Int)}, (∀ p ∈ ps, 42 ∉ p.1) → gatherZ ps [] = some []
  | [], _ => rfl
  | p :: r, h => by
    simp only [gatherZ]
    rw [piece_none (h p (by simp)), if_pos rfl]
    exact gather_none (fun q hq => h q (by simp [hq]))
theorem join_none {fs : List (ByteArray × ByteArray)} : ∀ {ps : List (List Int × List Int)}, (∀ p ∈ ps, 42 ∉ p.1) → JoinR [] fs ps [] ps
  | [], _ => .nil []
  | p :: r, h => .keep p r [] r (by rw [piece_none (h p (by simp))]) (join_none (fun q hq => h q (by simp [hq])))
theorem flat_low : ∀ {l : List Int}, (∀ x ∈ l, 0 ≤ x ∧ x < 128) → Cs.Ut.flat l = l ∧ Cs.Ut.AllPt l
  | [], _ => ⟨rfl, fun p h => (by cases h)⟩
  | c :: l, h => by
    obtain ⟨h1, h2⟩ := flat_low (l := l) (fun x hx => h x (by simp [hx]))
    have hc := h c (by simp)
    refine ⟨by rw [Cs.Ut.flat_cons, Cs.Ut.enc1 hc.2, h1]; rfl, fun p hp => ?_⟩
    rcases List.mem_cons.1 hp with rfl | hp
    · rw [Cs.Ut.ptB_iff]; omega
    · exact h2 p hp
theorem value_low {l : List Int} (h : valueZ l = true) : (∀ x ∈ l, 32 ≤ x ∧ x ≤ 126) ∧ l.length ≤ 256 := by
  unfold valueZ at h
  simp only [Bool.and_eq_true, decide_eq_true_eq, List.all_eq_true] at h
  refine ⟨fun x hx => ?_, h.2⟩
  have := h.1 x hx
  unfold valC at this
  simp only [Bool.and_eq_true, decide_eq_true_eq] at this
  exact this
theorem bare_rightL : ∀ {fs : List (ByteArray × ByteArray)} {seen : List (List Int)}, rightL seen (numsP fs) = true → rightL seen (numsP (bareF fs)) = true
  | [], _, _ => rfl
  | f :: r, seen, h => by
    have h' : rightL seen ((nums f.1, nums f.2) :: numsP r) = true := h
    show rightL seen ((nums f.1, nums (⟨#[]⟩ : ByteArray)) :: numsP (bareF r)) = true
    simp only [rightL, Bool.and_eq_true] at h' ⊢
    exact ⟨⟨h'.1.1, by decide⟩, bare_rightL h'.2⟩
theorem bare_right {ty sub : List Int} {fs : List (ByteArray × ByteArray)} (h : rightZ ty sub (numsP fs) = true) : rightZ ty sub (numsP (bareF fs)) = true := by
  obtain ⟨h1, h2, h3, h4⟩ := rightZ_parts h
  unfold rightZ
  rw [h1, h2, bare_rightL h4]
  simp [numsP, bareF] at h3 ⊢
  omega
theorem right_splits {ty sub : ByteArray} {fs : List (ByteArray × ByteArray)} (h : rightZ (nums ty) (nums sub) (numsP fs) = true) : SplitsP ty sub fs ∧ PtsOf fs (numsP fs) := by
  obtain ⟨h1, h2, h3, h4⟩ := rightZ_parts h
  have hv : ∀ p ∈ numsP fs, Cs.Ut.flat p.2 = p.2 ∧ Cs.Ut.AllPt p.2 := fun p hp => flat_low (fun x hx => by
    have := (value_low (rightL_mem h4 p hp).2).1 x hx
    omega)
  refine ⟨⟨by simpa [numsP] using h3, fun f hf => ?_, bare_right h⟩, ?_, fun q hq => (hv q hq).2⟩
  · have hm : (nums f.1, nums f.2) ∈ numsP fs := List.mem_map.2 ⟨f, hf, rfl⟩
    have h5 := value_low (rightL_mem h4 _ hm).2
    have h6 := hv _ hm
    simp only [nums_len] at h5
    exact ⟨by omega, _, h6.2, h6.1.symm⟩
  · have : (numsP fs).map flatQ = numsP fs := by
      conv => rhs; rw [← List.map_id (numsP fs)]
      apply List.map_congr_left
      intro p hp
      unfold flatQ
      rw [(hv p hp).1]; rfl
    exact this.symm
theorem split_short {ty sub : List Int} : ∀ {ps : List (List Int × List Int)}, (∀ p ∈ ps, valueZ p.2 = true ∧ p.2.length ≤ 60) → splitZ ps = some ps
  | [], _ => rfl
  | p :: r, h => by
    obtain ⟨h1, h2⟩ := h p (by simp)
    have hl := (value_low h1).1
    have hf := flat_low (l := p.2) (fun x hx => by have := hl x hx; omega)
    simp only [splitZ]
    rw [split_short (ty := ty) (sub := sub) (fun q hq => h q (by simp [hq]))]
    have hs : staysZ (Cs.Ut.flat p.2) = true := by
      unfold staysZ
      rw [hf.1]
      simp only [Bool.and_eq_true, decide_eq_true_eq, List.all_eq_true]
      exact ⟨fun x hx => by unfold inB; exact decide_eq_true (hl x hx), h2⟩
    unfold partedZ
    rw [if_pos hs, hf.1]
    rfl
end Go.Proofs.YtfhgkkdbkbbpkaaDoor
