/-
  The contract of bytes.Clone; what begin does.
-/
import Derived.Test.YtmdkmedlncfcbaaGreatDoorCut
namespace Go.Proofs.YtmdkmedlncfcbaaGreatDoor
open Go.RowKit
set_option linter.unusedVariables false

set_option maxRecDepth 100000 in
theorem own_nil (w : World) (B : Nat) (hB : B ≤ w.heap.size) : Own w B (.slice none 0 0) [] := ⟨by simp, .inl ⟨rfl, rfl⟩⟩
set_option maxRecDepth 100000 in
/-- bytes.Clone. -/
theorem clone_any (a : Option Addr) (n c : Nat) (l : List Int) (w : World) (hl : l.length = n) (hr : Row w a l) (hn : n ≤ 10000000) :
    Calls Tryz.prog 31 #[.slice a n c] w fun e w' => ∃ v, e = .returned v ∧ Own w' w.heap.size v l ∧ Below w.heap.size w w' := by
  cases a with
  | none =>
    have h0 : l = [] := by
      rcases hr with h | ⟨b, off, h, _⟩
      · exact h
      · simp at h
    subst h0
    refine (Any.bytes_Clone_nil laysSlK4 n c w).mono ?_
    rintro e w' ⟨rfl, rfl⟩
    exact ⟨_, rfl, own_nil _ _ (Nat.le_refl _), Below.refl _ _⟩
  | some ad =>
    have hc : ∀ i, i < n → w.cell? (ad.add i) = some (.int .u8 (l.getD i 0)) := by
      intro i hi
      rcases hr with rfl | ⟨b, off, h, hr⟩
      · simp at hl; omega
      · simp only [Option.some.injEq] at h
        subst h
        rw [add_plain]
        exact hr i (by omega)
    refine (Any.bytes_Clone_at laysSlK4 ad n c l w hl (by omega) hc).mono ?_
    rintro e w' ⟨v, rfl, ho, _, hb⟩
    refine ⟨v, rfl, ?_, hb⟩
    unfold Own
    rw [hl]
    exact ho
/-- May a field be shut? -/
def shutB (s : HS) : Bool := s.nm.toList.isEmpty || (valueZ (trimZ s.val) && !decide (s.fs.length = 128))
theorem shutF_eq (s : HS) : shutF s = if shutB s = true then faultV 0 0 else faultV s.beg 50 := by
  unfold shutF shutB
  by_cases h : s.nm.toList = []
  · simp [h]
  · have h1 : s.nm.toList.isEmpty = false := by rw [List.isEmpty_eq_false_iff]; exact h
    rw [if_neg h, h1]
    simp
theorem shutZ_bad {s : HS} (h : shutB s = false) : shutZ s = s := by
  unfold shutB at h
  unfold shutZ
  by_cases hn : s.nm.toList = []
  · rw [if_pos hn]
  · rw [if_neg hn, if_neg]
    intro q
    simp [q.1, q.2] at h
/-- begin. -/
def beginB (s : HS) (l : List Int) : Bool := decide (0 ≤ colonI l) && nameZ (l.take (colonI l).toNat)
def beginZ (s : HS) (p : Int) (l : List Int) : HS :=
  if shutB s = true then
    (if beginB s l = true then { shutZ s with nm := strOfNums (l.take (colonI l).toNat), val := l.drop ((colonI l).toNat + 1), beg := p } else shutZ s)
  else s
def beginF (s : HS) (p : Int) (l : List Int) : Value :=
  if shutB s = true then (if beginB s l = true then faultV 0 0 else faultV p 50) else faultV s.beg 50
end Go.Proofs.YtmdkmedlncfcbaaGreatDoor
