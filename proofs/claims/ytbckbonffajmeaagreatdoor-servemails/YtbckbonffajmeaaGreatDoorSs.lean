/-
  A session as a machine over bytes.
-/
import Derived.Test.YtbckbonffajmeaaGreatDoorSr
namespace Go.Proofs.YtbckbonffajmeaaGreatDoor
open Go.RowKit Go.Shelf Go.Maps
set_option linter.unusedVariables false
set_option linter.unusedSimpArgs false

/-- What a byte does, and what is replied. -/
def sb (s : SS) (c : Int) : SS × ByteArray :=
  if s.takes = 0 then byteZ s c
  else match s.text with
    | none => (s, ⟨#[]⟩)
    | some rs => ((textS s (Dt.takeZ rs c, 1)).1, (textS s (Dt.takeZ rs c, 1)).2.1)
/-- What bytes do: what the session is then, what is replied, how many were taken. -/
def runS : SS → List Int → SS × List Int × Nat
  | s, [] => (s, [], 0)
  | s, c :: l => if s.takes = 0 ∨ s.takes = 1 then ((runS (sb s c).1 l).1, nums (sb s c).2 ++ (runS (sb s c).1 l).2.1, (runS (sb s c).1 l).2.2 + 1) else (s, [], 0)
theorem runS_len : ∀ (l : List Int) (s : SS), (runS s l).2.2 ≤ l.length
  | [], s => by simp [runS]
  | c :: l, s => by
    unfold runS
    split
    · have := runS_len l (sb s c).1
      simp; omega
    · simp
theorem runS_stop {s : SS} (h : ¬ (s.takes = 0 ∨ s.takes = 1)) (l : List Int) : runS s l = (s, [], 0) := by
  cases l with
  | nil => rfl
  | cons c l => unfold runS; rw [if_neg h]
theorem runS_byte {s : SS} (h : s.takes = 0) (c : Int) (l : List Int) : runS s (c :: l) = ((runS (byteZ s c).1 l).1, nums (byteZ s c).2 ++ (runS (byteZ s c).1 l).2.1, (runS (byteZ s c).1 l).2.2 + 1) := by
  rw [runS, if_pos (.inl h)]
  have : sb s c = byteZ s c := by unfold sb; rw [if_pos h]
  rw [this]
theorem nums_nil : nums ⟨#[]⟩ = [] := rfl
theorem textS_over (s : SS) (rs : Dt.RS) (r : Dt.RS × Nat) : textS { s with text := some rs } r = textS s r := by
  unfold textS
  split
  · split
    · rfl
    · rfl
  · rfl
theorem textS_two (s : SS) (r : Dt.RS) (n m : Nat) : (textS s (r, n)).1 = (textS s (r, m)).1 ∧ (textS s (r, n)).2.1 = (textS s (r, m)).2.1 ∧ (textS s (r, n)).2.2 = n := by
  unfold textS
  dsimp only
  split
  · split
    · exact ⟨rfl, rfl, rfl⟩
    · exact ⟨rfl, rfl, rfl⟩
  · exact ⟨rfl, rfl, rfl⟩
/-- Bytes of a text, at once. -/
theorem runS_text : ∀ (l : List Int) (s : SS) (rs : Dt.RS), s.takes = 1 → s.text = some rs → rs.over = false →
    runS s l = ((runS (textS s (Dt.runZ rs l)).1 (l.drop (Dt.runZ rs l).2)).1, nums (textS s (Dt.runZ rs l)).2.1 ++ (runS (textS s (Dt.runZ rs l)).1 (l.drop (Dt.runZ rs l).2)).2.1, (runS (textS s (Dt.runZ rs l)).1 (l.drop (Dt.runZ rs l).2)).2.2 + (Dt.runZ rs l).2)
  | [], s, rs, h1, h2, h3 => by
    have e : textS s (Dt.runZ rs []) = (s, ⟨#[]⟩, 0) := by
      have : Dt.runZ rs [] = (rs, 0) := rfl
      rw [this]
      unfold textS
      rw [if_neg (by rw [h3]; decide)]
      have : { s with text := some rs } = s := by cases s; simp_all
      rw [this]
    rw [e]
    simp [runS, nums_nil, Dt.runZ]
  | c :: l, s, rs, h1, h2, h3 => by
    have e : sb s c = ((textS s (Dt.takeZ rs c, 1)).1, (textS s (Dt.takeZ rs c, 1)).2.1) := by
      unfold sb
      rw [if_neg (by rw [h1]; decide), h2]
    rw [runS, if_pos (.inr h1), e]
    dsimp only
    by_cases ov : (Dt.takeZ rs c).over = true
    · have r : Dt.runZ rs (c :: l) = (Dt.takeZ rs c, 1) := by rw [Dt.runZ, if_pos ov]
      rw [r]; rfl
    · have r : Dt.runZ rs (c :: l) = ((Dt.runZ (Dt.takeZ rs c) l).1, (Dt.runZ (Dt.takeZ rs c) l).2 + 1) := by rw [Dt.runZ, if_neg ov]
      have t : textS s (Dt.takeZ rs c, 1) = ({ s with text := some (Dt.takeZ rs c) }, ⟨#[]⟩, 1) := by
        unfold textS; rw [if_neg ov]
      have ih := runS_text l { s with text := some (Dt.takeZ rs c) } (Dt.takeZ rs c) h1 rfl (by simpa using ov)
      rw [textS_over] at ih
      generalize Dt.runZ (Dt.takeZ rs c) l = x at ih r
      obtain ⟨x1, x2⟩ := x
      have q := textS_two s x1 (x2 + 1) x2
      rw [r]
      dsimp only at ih ⊢
      rw [t, q.1, q.2.1, ih, List.drop_succ_cons, nums_nil]
      simp only [List.nil_append]
      refine Prod.ext rfl (Prod.ext rfl ?_)
      show _ + _ + 1 = _ + (_ + 1)
      omega
/-- What holds of a session between calls. -/
structure WfS (s : SS) : Prop where
  t0 : s.takes = 0 → s.text = none
  t1 : s.takes = 1 → ∃ rs, s.text = some rs ∧ rs.over = false
  t2 : s.takes = 2 → ∃ rs, s.text = some rs ∧ Dt.faultZ rs = 0
  t3 : s.takes = 3 → s.text = none
/-- What a command leaves. -/
def OutC (s : SS) : Prop := (s.text = none ∧ (s.takes = 0 ∨ s.takes = 3)) ∨ (s.takes = 1 ∧ ∃ rs, s.text = some rs ∧ rs.over = false)
theorem OutC.wf {s : SS} (h : OutC s) : WfS s := by
  rcases h with ⟨h1, h2 | h2⟩ | ⟨h1, h2⟩
  · exact ⟨fun _ => h1, fun e => (by rw [h2] at e; cases e), fun e => (by rw [h2] at e; cases e), fun _ => h1⟩
  · exact ⟨fun _ => h1, fun e => (by rw [h2] at e; cases e), fun e => (by rw [h2] at e; cases e), fun _ => h1⟩
  · exact ⟨fun e => (by rw [h1] at e; cases e), fun _ => h2, fun e => (by rw [h1] at e; cases e), fun e => (by rw [h1] at e; cases e)⟩
theorem greetZ_out {s : SS} (h0 : s.takes = 0) (ht : s.text = none) (v r : ByteArray) : OutC (greetZ s v r).1 := by
  unfold greetZ
  split
  · exact .inl ⟨ht, .inl h0⟩
  · exact .inl ⟨ht, .inl h0⟩
theorem fromZ_out {s : SS} (h0 : s.takes = 0) (ht : s.text = none) (r : ByteArray) : OutC (fromZ s r).1 := by
  unfold fromZ
  split
  · exact .inl ⟨ht, .inl h0⟩
  · split
    · exact .inl ⟨ht, .inl h0⟩
    · split
      · exact .inl ⟨ht, .inl h0⟩
      · exact .inl ⟨ht, .inl h0⟩
theorem gotoZ_out {s : SS} (h0 : s.takes = 0) (ht : s.text = none) (r : ByteArray) : OutC (gotoZ s r).1 := by
  unfold gotoZ
  split
  · exact .inl ⟨ht, .inl h0⟩
  · split
    · exact .inl ⟨ht, .inl h0⟩
    · split
      · exact .inl ⟨ht, .inl h0⟩
      · split
        · exact .inl ⟨ht, .inl h0⟩
        · split
          · exact .inl ⟨ht, .inl h0⟩
          · exact .inl ⟨ht, .inl h0⟩
theorem beginZ_out {s : SS} (h0 : s.takes = 0) (ht : s.text = none) (r : ByteArray) : OutC (beginZ s r).1 := by
  unfold beginZ
  split
  · exact .inl ⟨ht, .inl h0⟩
  · split
    · exact .inl ⟨ht, .inl h0⟩
    · exact .inr ⟨rfl, _, rfl, rfl⟩
theorem leaveC_out {s : SS} (h0 : s.takes = 0) (ht : s.text = none) (v r : ByteArray) : OutC (leaveC s v r).1 := by
  unfold leaveC
  split
  · exact .inl ⟨ht, .inl h0⟩
  · split
    · exact .inl ⟨ht, .inr rfl⟩
    · exact .inl ⟨ht, .inl h0⟩
theorem doZ_out {s : SS} (h0 : s.takes = 0) (ht : s.text = none) (v r : ByteArray) : OutC (doZ s v r).1 := by
  unfold doZ codeZ
  split
  · exact greetZ_out h0 ht v r
  · split
    · exact fromZ_out h0 ht r
    · split
      · exact gotoZ_out h0 ht r
      · split
        · exact beginZ_out h0 ht r
        · split
          · exact .inl ⟨ht, .inl h0⟩
          · split
            · exact .inl ⟨ht, .inl h0⟩
            · split
              · exact leaveC_out h0 ht v r
              · exact .inl ⟨ht, .inl h0⟩
theorem addS_takes (s : SS) (c : Int) : (addS s c).takes = s.takes ∧ (addS s c).text = s.text := by
  unfold addS
  split
  · exact ⟨rfl, rfl⟩
  · split
    · exact ⟨rfl, rfl⟩
    · exact ⟨rfl, rfl⟩
theorem byteZ_out {s : SS} (h0 : s.takes = 0) (ht : s.text = none) (c : Int) : OutC (byteZ s c).1 := by
  unfold byteZ
  split
  · unfold seZ
    split
    · exact .inl ⟨ht, .inl h0⟩
    · exact doZ_out (s := offZ (halfZ s c)) h0 ht _ _
  · have a := addS_takes (halfZ s c) 13
    dsimp only
    split
    · split
      · exact .inl ⟨a.2.trans ht, .inl (a.1.trans h0)⟩
      · exact .inl ⟨ht, .inl h0⟩
    · split
      · have b := addS_takes (addS (halfZ s c) 13) c
        exact .inl ⟨b.2.trans (a.2.trans ht), .inl (b.1.trans (a.1.trans h0))⟩
      · have b := addS_takes (halfZ s c) c
        exact .inl ⟨b.2.trans ht, .inl (b.1.trans h0)⟩
theorem wf_two {s : SS} (h : s.takes = 2) (h2 : ∃ rs, s.text = some rs ∧ Dt.faultZ rs = 0) : WfS s :=
  ⟨fun e => (by rw [h] at e; cases e), fun e => (by rw [h] at e; cases e), fun _ => h2, fun e => (by rw [h] at e; cases e)⟩
theorem leaveZ_wf (s : SS) : WfS (leaveZ s) := OutC.wf (.inl ⟨rfl, .inl rfl⟩)
theorem textS_wf {s : SS} (h1 : s.takes = 1) (r : Dt.RS × Nat) : WfS (textS s r).1 := by
  unfold textS
  split
  · rename_i ov
    split
    · rename_i f
      exact wf_two rfl ⟨r.1, rfl, f⟩
    · exact leaveZ_wf s
  · rename_i ov
    exact OutC.wf (.inr ⟨h1, r.1, rfl, by simpa using ov⟩)
theorem sb_wf {s : SS} (h : WfS s) (ho : s.takes = 0 ∨ s.takes = 1) (c : Int) : WfS (sb s c).1 := by
  unfold sb
  by_cases h0 : s.takes = 0
  · rw [if_pos h0]; exact (byteZ_out h0 (h.t0 h0) c).wf
  · have h1 : s.takes = 1 := ho.resolve_left h0
    rw [if_neg h0]
    obtain ⟨rs, e, _⟩ := h.t1 h1
    rw [e]
    exact textS_wf h1 _
theorem runS_wf : ∀ (l : List Int) {s : SS}, WfS s → WfS (runS s l).1
  | [], s, h => h
  | c :: l, s, h => by
    unfold runS
    split
    · rename_i ho
      exact runS_wf l (sb_wf h ho c)
    · exact h
/-- Bytes in two parts. -/
theorem runS_app : ∀ (l k : List Int) (s : SS), (runS s l).2.2 = l.length → runS s (l ++ k) = ((runS (runS s l).1 k).1, (runS s l).2.1 ++ (runS (runS s l).1 k).2.1, l.length + (runS (runS s l).1 k).2.2)
  | [], k, s, _ => by simp [runS]
  | c :: l, k, s, h => by
    rw [List.cons_append]
    by_cases ho : s.takes = 0 ∨ s.takes = 1
    · have e : runS s (c :: l) = ((runS (sb s c).1 l).1, nums (sb s c).2 ++ (runS (sb s c).1 l).2.1, (runS (sb s c).1 l).2.2 + 1) := by rw [runS, if_pos ho]
      have e2 : runS s (c :: (l ++ k)) = ((runS (sb s c).1 (l ++ k)).1, nums (sb s c).2 ++ (runS (sb s c).1 (l ++ k)).2.1, (runS (sb s c).1 (l ++ k)).2.2 + 1) := by rw [runS, if_pos ho]
      rw [e] at h
      have ih := runS_app l k (sb s c).1 (by simpa using h)
      rw [e2, e, ih]
      refine Prod.ext rfl (Prod.ext ?_ ?_)
      · simp
      · simp; omega
    · rw [runS_stop ho] at h
      simp at h
/-- Bytes that were not all taken: the session takes none. -/
theorem runS_over : ∀ (l : List Int) (s : SS), (runS s l).2.2 < l.length → ¬ ((runS s l).1.takes = 0 ∨ (runS s l).1.takes = 1)
  | [], s, h => by simp [runS] at h
  | c :: l, s, h => by
    by_cases ho : s.takes = 0 ∨ s.takes = 1
    · have e : runS s (c :: l) = ((runS (sb s c).1 l).1, nums (sb s c).2 ++ (runS (sb s c).1 l).2.1, (runS (sb s c).1 l).2.2 + 1) := by rw [runS, if_pos ho]
      rw [e] at h ⊢
      exact runS_over l (sb s c).1 (by simpa using h)
    · rw [runS_stop ho]; exact ho
end Go.Proofs.YtbckbonffajmeaaGreatDoor
