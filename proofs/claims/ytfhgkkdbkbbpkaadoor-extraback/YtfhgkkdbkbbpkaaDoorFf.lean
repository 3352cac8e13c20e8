/-
  Long parameters written: the contract of Split.
-/
import Derived.Test.YtfhgkkdbkbbpkaaDoorFe
namespace Go.Proofs.YtfhgkkdbkbbpkaaDoor
open Go.RowKit
set_option linter.unusedVariables false
set_option linter.unusedSimpArgs false

theorem rightL_mem : ∀ {ps : List (List Int × List Int)} {seen : List (List Int)}, rightL seen ps = true → ∀ p ∈ ps, nameZ p.1 = true ∧ valueZ p.2 = true
  | [], _, _, p, hp => by cases hp
  | q :: r, seen, h, p, hp => by
    simp only [rightL, Bool.and_eq_true] at h
    rcases List.mem_cons.1 hp with rfl | hp
    · exact ⟨h.1.1.2, h.1.2⟩
    · exact rightL_mem h.2 p hp
theorem rightZ_parts {ty sub : List Int} {ps : List (List Int × List Int)} (h : rightZ ty sub ps = true) : nameZ ty = true ∧ nameZ sub = true ∧ ps.length ≤ 16 ∧ rightL [] ps = true := by
  unfold rightZ at h
  simp only [Bool.and_eq_true, decide_eq_true_eq] at h
  exact ⟨h.1.1.1, h.1.1.2, h.1.2, h.2⟩
theorem name_len {l : List Int} (h : nameZ l = true) : l.length ≤ 64 := by
  unfold nameZ tokenZ at h
  simp only [Bool.and_eq_true, decide_eq_true_eq] at h
  omega
theorem piecesL_len (nm : List Int) : ∀ (cs : List (List Int)) (i : Nat), (piecesL nm i cs).length = cs.length
  | [], _ => rfl
  | c :: r, i => by simp [piecesL, piecesL_len nm r (i + 1)]
theorem parted_len {nm ps : List Int} {l : List (List Int × List Int)} (h : partedZ nm ps = some l) : l.length ≤ 100 := by
  unfold partedZ at h
  split at h
  · cases h; simp
  · split at h
    · cases h
    · split at h
      · cases h; simp
      · split at h
        · cases h
        · cases h; rw [piecesL_len]; omega
def splitZ : List (List Int × List Int) → Option (List (List Int × List Int))
  | [] => some []
  | q :: r => (partedZ q.1 q.2).bind fun x => (splitZ r).map fun y => x ++ y
def flatQ (q : List Int × List Int) : List Int × List Int := (q.1, Cs.Ut.flat q.2)
/-- A kind's Values, as points. -/
def PtsOf (fs : List (ByteArray × ByteArray)) (qs : List (List Int × List Int)) : Prop := numsP fs = qs.map flatQ ∧ ∀ q ∈ qs, Cs.Ut.AllPt q.2
theorem pts_ex : ∀ {fs : List (ByteArray × ByteArray)}, (∀ f ∈ fs, GoodV f.2) → ∃ qs, PtsOf fs qs
  | [], _ => ⟨[], rfl, fun q h => (by cases h)⟩
  | f :: r, h => by
    obtain ⟨qs, h1, h2⟩ := pts_ex (fs := r) (fun g hg => h g (by simp [hg]))
    obtain ⟨_, ps, hp, hf⟩ := h f (by simp)
    refine ⟨(nums f.1, ps) :: qs, ?_, fun q hq => ?_⟩
    · show (nums f.1, nums f.2) :: numsP r = flatQ (nums f.1, ps) :: qs.map flatQ
      rw [h1, hf]; rfl
    · rcases List.mem_cons.1 hq with rfl | hq
      · exact hp
      · exact h2 q hq
theorem pts_at {fs : List (ByteArray × ByteArray)} {qs : List (List Int × List Int)} (h : PtsOf fs qs) {k : Nat} {f : ByteArray × ByteArray} (hk : fs[k]? = some f) :
    ∃ ps, qs.drop k = (nums f.1, ps) :: qs.drop (k + 1) ∧ Cs.Ut.AllPt ps ∧ nums f.2 = Cs.Ut.flat ps := by
  have h1 : (numsP fs)[k]? = some (nums f.1, nums f.2) := by unfold numsP; rw [List.getElem?_map, hk]; rfl
  rw [h.1, List.getElem?_map] at h1
  cases hq : qs[k]? with
  | none => rw [hq] at h1; cases h1
  | some q =>
    rw [hq] at h1
    simp only [Option.map_some, Option.some.injEq] at h1
    obtain ⟨q1, q2⟩ := q
    simp only [flatQ, Prod.mk.injEq] at h1
    have hlt : k < qs.length := by
      rcases Nat.lt_or_ge k qs.length with h' | h'
      · exact h'
      · rw [List.getElem?_eq_none h'] at hq; cases hq
    rw [List.getElem?_eq_getElem hlt] at hq
    simp only [Option.some.injEq] at hq
    refine ⟨q2, ?_, h.2 (q1, q2) (by rw [← hq]; exact List.getElem_mem hlt), h1.2.symm⟩
    rw [List.drop_eq_getElem_cons hlt, hq, h1.1]
theorem pts_len {fs : List (ByteArray × ByteArray)} {qs : List (List Int × List Int)} (h : PtsOf fs qs) : qs.length = fs.length := by
  have := congrArg List.length h.1
  simp [numsP] at this
  exact this.symm
set_option maxRecDepth 100000 in
theorem split_bad (ty sub : ByteArray) (a : Option Addr) (n c : Nat) (fs : List (ByteArray × ByteArray)) (w : World) (hn : fs.length = n) (hr : FRow w a fs) (h1 : ty.size ≤ 1000000000) (h2 : sub.size ≤ 1000000000) (hf : ∀ f ∈ fs, f.1.size ≤ 1000000000 ∧ f.2.size ≤ 1000000000) (hbig : n ≤ 1000000000)
    (hz : ¬ SplitsP ty sub fs) :
    Calls Tryd.prog 10 #[kindV ty sub a n c] w fun e w' => e = .returned (.tuple #[kindV ⟨#[]⟩ ⟨#[]⟩ none 0 0, .int .i64 70]) ∧ Below w.heap.size w w' := by
  have K : ∀ V, Below w.heap.size w V → Calls Tryd.prog 21 #[kindV ty sub a n c] V fun e w' => e = .returned (.bool false) ∧ Below V.heap.size V w' := fun V hV => by
    refine (splits_any ty sub a n c fs V hn (hr.below hV) h1 h2 hf hbig).mono ?_
    rintro e w' ⟨b, rfl, hb, h⟩
    cases b with
    | false => exact ⟨rfl, h⟩
    | true => exact absurd (hb.1 rfl) hz
  clear hr hf hz
  unfold kindV at K ⊢
  go_enter Tryd.func10, Tryd.ntmps10
  go_wp2_with fail
  refine (K _ ((keep w _).alloc (by simp) _)).mono ?_
  rintro e w1 ⟨rfl, hb1⟩
  have hs1 := hb1.size
  have hX : ((w.alloc (.cells #[.string ty, .string sub, .slice a n c] 24)).alloc (.cells #[.string ⟨#[]⟩, .string ⟨#[]⟩, .slice none 0 0] 24)).heap[w.heap.size + 1]? = some (.cells #[.string ⟨#[]⟩, .string ⟨#[]⟩, .slice none 0 0] 24) := by
    have := (MapKept.heap_alloc (w.alloc (.cells #[.string ty, .string sub, .slice a n c] 24)) (.cells #[.string ⟨#[]⟩, .string ⟨#[]⟩, .slice none 0 0] 24)).1
    simpa using this
  have r0 : w1.heap[w.heap.size + 1]? = some (.cells #[.string ⟨#[]⟩, .string ⟨#[]⟩, .slice none 0 0] 24) := by
    rw [hb1.block _ (by simp)]; exact hX
  have c0 : w1.cell? ⟨w.heap.size + 1, 0, none⟩ = some (.string ⟨#[]⟩) := cell_of r0 rfl
  have c1 : w1.cell? ⟨w.heap.size + 1, 1, none⟩ = some (.string ⟨#[]⟩) := cell_of r0 rfl
  have c2 : w1.cell? ⟨w.heap.size + 1, 2, none⟩ = some (.slice none 0 0) := cell_of r0 rfl
  have f0 : w1.frozen? ⟨w.heap.size + 1, 0, none⟩ = false := frozen_of r0
  have f1 : w1.frozen? ⟨w.heap.size + 1, 1, none⟩ = false := frozen_of r0
  have f2 : w1.frozen? ⟨w.heap.size + 1, 2, none⟩ = false := frozen_of r0
  have HB : Hid (Below w.heap.size w w1) := ((keep w _).alloc (by simp) _).trans (hb1.mono (by simp; omega))
  clear r0 hX hb1 K
  go_wp2
  exact bodyPost_ret (v := .tuple #[.agg #[.string ⟨#[]⟩, .string ⟨#[]⟩, .slice none 0 0], .int .i64 70]) (by simp [results, Tryd.results10, go_sem, c0, c1, c2]) rfl
    ⟨rfl, ((HB.out.setCell (by simp) _).setCell (by simp) _).setCell (by simp) _⟩
end Go.Proofs.YtfhgkkdbkbbpkaaDoor
