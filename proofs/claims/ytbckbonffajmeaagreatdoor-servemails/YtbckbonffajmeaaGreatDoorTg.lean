/-
  What a line without a pair, and the pair behind it, do: one reply.
-/
import Derived.Test.YtbckbonffajmeaaGreatDoorTf
namespace Go.Proofs.YtbckbonffajmeaaGreatDoor
open Go.RowKit Go.Shelf Go.Maps
set_option linter.unusedVariables false
set_option linter.unusedSimpArgs false

theorem addS_more (s : SS) (c : Int) : (addS s c).takes = s.takes ∧ (addS s c).text = s.text ∧ (addS s c).half = s.half ∧ (addS s c).host = s.host ∧ (addS s c).size = s.size := by
  unfold addS
  split
  · exact ⟨rfl, rfl, rfl, rfl, rfl⟩
  · split
    · exact ⟨rfl, rfl, rfl, rfl, rfl⟩
    · exact ⟨rfl, rfl, rfl, rfl, rfl⟩
/-- No pair stands in a text. -/
def noPr (l : List Int) : Prop := ∀ i : Nat, ¬ (l[i]? = some 13 ∧ l[i + 1]? = some 10)
theorem byte_quiet {s : SS} {c : Int} (h0 : s.takes = 0) (hn : ¬ (s.half = true ∧ c = 10)) : ∃ t, byteZ s c = (t, ⟨#[]⟩) ∧ t.takes = 0 ∧ t.half = (c == 13) ∧ t.host = s.host ∧ t.size = s.size ∧ t.text = s.text := by
  unfold byteZ
  rw [if_neg hn]
  refine ⟨_, rfl, ?_⟩
  by_cases p : c = 13
  · rw [if_pos p]
    by_cases q : s.half = true
    · rw [if_pos q]
      obtain ⟨a1, a2, a3, a4, a5⟩ := addS_more (halfZ s c) 13
      exact ⟨a1.trans h0, a3, a4, a5, a2⟩
    · rw [if_neg q]
      exact ⟨h0, rfl, rfl, rfl, rfl⟩
  · rw [if_neg p]
    by_cases q : s.half = true
    · rw [if_pos q]
      obtain ⟨a1, a2, a3, a4, a5⟩ := addS_more (halfZ s c) 13
      obtain ⟨b1, b2, b3, b4, b5⟩ := addS_more (addS (halfZ s c) 13) c
      exact ⟨b1.trans (a1.trans h0), b3.trans a3, b4.trans a4, b5.trans a5, b2.trans a2⟩
    · rw [if_neg q]
      obtain ⟨b1, b2, b3, b4, b5⟩ := addS_more (halfZ s c) c
      exact ⟨b1.trans h0, b3, b4, b5, b2⟩
theorem run_line : ∀ (l : List Int) (s : SS), s.takes = 0 → noPr l → (s.half = true → ∃ c r, l = c :: r ∧ c ≠ 10) → l.getLast? ≠ some 13 →
    ∃ s', runS s l = (s', [], l.length) ∧ s'.takes = 0 ∧ s'.half = false ∧ s'.host = s.host ∧ s'.size = s.size ∧ s'.text = s.text
  | [], s, h0, _, hh, _ => ⟨s, rfl, h0, (by
      cases e : s.half with
      | false => rfl
      | true =>
        obtain ⟨_, _, e2, _⟩ := hh e
        cases e2), rfl, rfl, rfl⟩
  | c :: l, s, h0, hp, hh, hl => by
    have hne : ¬ (s.half = true ∧ c = 10) := fun h => by
      obtain ⟨d, r, e, hd⟩ := hh h.1
      cases e
      exact hd h.2
    obtain ⟨t, e, t0, th, t1, t2, t3⟩ := byte_quiet h0 hne
    have hp' : noPr l := fun i h => hp (i + 1) (by simpa using h)
    have hh' : t.half = true → ∃ d r, l = d :: r ∧ d ≠ 10 := fun h => by
      rw [th] at h
      have hc : c = 13 := by simpa using h
      cases l with
      | nil => exact absurd (by rw [hc]; rfl) hl
      | cons d r => exact ⟨d, r, rfl, fun hd => hp 0 (by rw [hc, hd]; exact ⟨rfl, rfl⟩)⟩
    have hl' : l.getLast? ≠ some 13 := fun h => hl (by
      cases l with
      | nil => cases h
      | cons d r => rw [List.getLast?_cons_cons]; exact h)
    obtain ⟨s', k1, k2, k3, k4, k5, k6⟩ := run_line l t t0 hp' hh' hl'
    refine ⟨s', ?_, k2, k3, k4.trans t1, k5.trans t2, k6.trans t3⟩
    rw [runS_byte h0, e, k1]
    simp [nums_nil]
def xH : ByteArray := ⟨#[120]⟩
def codesL : List Int := [500, 501, 503, 250, 550, 552, 452, 252, 221]
def repL : List ByteArray := heloZ xH :: ehloZ xH 1000 :: codesL.map (replyZ xH)
theorem repL_ok : repL.all (fun r => decide (linesZ (nums r) = 1) && decide (r.size ≤ 100) && decide (3 ≤ r.size) && !decide ((r.extract 0 3).toList = [51, 53, 52])) = true := by decide +kernel
theorem rep354 : linesZ (nums (replyZ xH 354)) = 1 ∧ replyZ xH 354 = ⟨#[51, 53, 52, 32, 111, 107, 13, 10]⟩ := by
  constructor
  · decide +kernel
  · kernel_rfl
structure OutR (s : SS) (p : SS × ByteArray) : Prop where
  host : p.1.host = s.host
  size : p.1.size = s.size
  half : p.1.half = s.half
  said : ((p.1.takes = 0 ∨ p.1.takes = 3) ∧ p.2 ∈ repL) ∨ (p.1.takes = 1 ∧ p.2 = replyZ xH 354)
structure OutI (s : SS) (p : SS × Int) : Prop where
  host : p.1.host = s.host
  size : p.1.size = s.size
  half : p.1.half = s.half
  said : ((p.1.takes = 0 ∨ p.1.takes = 3) ∧ p.2 ∈ codesL) ∨ (p.1.takes = 1 ∧ p.2 = 354)
theorem rep_code {c : Int} (h : c ∈ codesL) : replyZ xH c ∈ repL := List.mem_cons_of_mem _ (List.mem_cons_of_mem _ (List.mem_map.2 ⟨c, h, rfl⟩))
theorem OutI.code {s : SS} {p : SS × Int} (h : OutI s p) (hh : s.host = xH) : OutR s (codeZ s.host p) :=
  ⟨h.host, h.size, h.half, by
    unfold codeZ
    rw [hh]
    rcases h.said with ⟨h1, h2⟩ | ⟨h1, h2⟩
    · exact .inl ⟨h1, rep_code h2⟩
    · exact .inr ⟨h1, by show replyZ xH p.2 = _; rw [h2]⟩⟩
theorem fromZ_r {s : SS} (h0 : s.takes = 0) (r : ByteArray) : OutI s (fromZ s r) := by
  unfold fromZ
  split
  · exact ⟨rfl, rfl, rfl, .inl ⟨.inl h0, by simp [codesL]⟩⟩
  · split
    · exact ⟨rfl, rfl, rfl, .inl ⟨.inl h0, by simp [codesL]⟩⟩
    · split
      · exact ⟨rfl, rfl, rfl, .inl ⟨.inl h0, by simp [codesL]⟩⟩
      · exact ⟨rfl, rfl, rfl, .inl ⟨.inl h0, by simp [codesL]⟩⟩
theorem gotoZ_r {s : SS} (h0 : s.takes = 0) (r : ByteArray) : OutI s (gotoZ s r) := by
  unfold gotoZ
  split
  · exact ⟨rfl, rfl, rfl, .inl ⟨.inl h0, by simp [codesL]⟩⟩
  · split
    · exact ⟨rfl, rfl, rfl, .inl ⟨.inl h0, by simp [codesL]⟩⟩
    · split
      · exact ⟨rfl, rfl, rfl, .inl ⟨.inl h0, by simp [codesL]⟩⟩
      · split
        · exact ⟨rfl, rfl, rfl, .inl ⟨.inl h0, by simp [codesL]⟩⟩
        · split
          · exact ⟨rfl, rfl, rfl, .inl ⟨.inl h0, by simp [codesL]⟩⟩
          · exact ⟨rfl, rfl, rfl, .inl ⟨.inl h0, by simp [codesL]⟩⟩
theorem beginZ_r {s : SS} (h0 : s.takes = 0) (r : ByteArray) : OutI s (beginZ s r) := by
  unfold beginZ
  split
  · exact ⟨rfl, rfl, rfl, .inl ⟨.inl h0, by simp [codesL]⟩⟩
  · split
    · exact ⟨rfl, rfl, rfl, .inl ⟨.inl h0, by simp [codesL]⟩⟩
    · exact ⟨rfl, rfl, rfl, .inr ⟨rfl, rfl⟩⟩
theorem leaveC_r {s : SS} (h0 : s.takes = 0) (v r : ByteArray) : OutI s (leaveC s v r) := by
  unfold leaveC
  split
  · exact ⟨rfl, rfl, rfl, .inl ⟨.inl h0, by simp [codesL]⟩⟩
  · split
    · exact ⟨rfl, rfl, rfl, .inl ⟨.inr rfl, by simp [codesL]⟩⟩
    · exact ⟨rfl, rfl, rfl, .inl ⟨.inl h0, by simp [codesL]⟩⟩
theorem doZ_r {s : SS} (h0 : s.takes = 0) (hh : s.host = xH) (hz : s.size = 1000) (v r : ByteArray) : OutR s (doZ s v r) := by
  have plain : ∀ c ∈ codesL, OutR s (s, replyZ s.host c) := fun c hc => ⟨rfl, rfl, rfl, .inl ⟨.inl h0, by rw [hh]; exact rep_code hc⟩⟩
  unfold doZ
  split
  · unfold greetZ
    split
    · exact plain 501 (by simp [codesL])
    · refine ⟨rfl, rfl, rfl, .inl ⟨.inl h0, ?_⟩⟩
      show (if v.toList = [72, 69, 76, 79] then heloZ s.host else ehloZ s.host s.size) ∈ repL
      rw [hh, hz]
      split
      · exact List.mem_cons_self
      · exact List.mem_cons_of_mem _ List.mem_cons_self
  · split
    · exact (fromZ_r h0 r).code hh
    · split
      · exact (gotoZ_r h0 r).code hh
      · split
        · exact (beginZ_r h0 r).code hh
        · split
          · exact plain 250 (by simp [codesL])
          · split
            · exact plain 252 (by simp [codesL])
            · split
              · exact (leaveC_r h0 v r).code hh
              · exact plain 500 (by simp [codesL])
theorem seZ_r {s : SS} (h0 : s.takes = 0) (hh : s.host = xH) (hz : s.size = 1000) : OutR s (seZ s) := by
  unfold seZ
  split
  · exact ⟨rfl, rfl, rfl, .inl ⟨.inl h0, by show replyZ s.host 500 ∈ repL; rw [hh]; exact rep_code (by simp [codesL])⟩⟩
  · obtain ⟨a, b, c, d⟩ := doZ_r (s := offZ s) h0 hh hz (verbZ s.line) (restZ s.line)
    exact ⟨a, b, c, d⟩
/-- A session at rest, that takes commands or nothing. -/
structure Rst (s : SS) : Prop where
  host : s.host = xH
  size : s.size = 1000
  half : s.half = false
  wf : WfS s
theorem Rst.text {s : SS} (h : Rst s) (h0 : s.takes = 0 ∨ s.takes = 3) : s.text = none := h0.elim h.wf.t0 h.wf.t3
/-- A line, and the pair behind it. -/
theorem line_pair {s : SS} (h : Rst s) (h0 : s.takes = 0) {l : List Int} (hp : noPr l) (hl : l.getLast? ≠ some 13) :
    ∃ s1 s2 r, runS s l = (s1, [], l.length) ∧ s1.text = none ∧ Rst s1 ∧ runS s1 [13, 10] = (s2, nums r, 2) ∧ Rst s2 ∧ (((s2.takes = 0 ∨ s2.takes = 3) ∧ r ∈ repL) ∨ (s2.takes = 1 ∧ r = replyZ xH 354)) := by
  obtain ⟨s1, a1, a2, a3, a4, a5, a6⟩ := run_line l s h0 hp (fun e => by rw [h.half] at e; cases e) hl
  have w1 : WfS s1 := by have := runS_wf l h.wf; rw [a1] at this; exact this
  have e1 : byteZ s1 13 = (halfZ s1 13, ⟨#[]⟩) := by
    unfold byteZ
    rw [if_neg (by rw [a3]; simp), if_pos rfl, if_neg (by rw [a3]; simp)]
  have e2 : byteZ (halfZ s1 13) 10 = seZ (halfZ (halfZ s1 13) 10) := by
    unfold byteZ
    rw [if_pos ⟨rfl, rfl⟩]
  have o := seZ_r (s := halfZ (halfZ s1 13) 10) a2 (a4.trans h.host) (a5.trans h.size)
  have e3 : runS s1 [13, 10] = ((seZ (halfZ (halfZ s1 13) 10)).1, nums (seZ (halfZ (halfZ s1 13) 10)).2, 2) := by
    rw [runS_byte a2, e1, runS_byte (s := halfZ s1 13) a2, e2]
    simp [runS, nums_nil]
  have w2 : WfS (seZ (halfZ (halfZ s1 13) 10)).1 := by have := runS_wf [13, 10] w1; rw [e3] at this; exact this
  exact ⟨s1, _, _, a1, a6.trans (h.wf.t0 h0), ⟨a4.trans h.host, a5.trans h.size, a3, w1⟩, e3, ⟨o.host.trans (a4.trans h.host), o.size.trans (a5.trans h.size), o.half, w2⟩, o.said⟩
end Go.Proofs.YtbckbonffajmeaaGreatDoor
