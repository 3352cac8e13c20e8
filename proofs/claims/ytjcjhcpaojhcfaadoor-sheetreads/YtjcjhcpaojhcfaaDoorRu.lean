/-
  What is read of bytes is one thing alone.
-/
import Derived.Test.YtjcjhcpaojhcfaaDoorRy
import Derived.Test.YtjcjhcpaojhcfaaDoorSa
namespace Go.Proofs.YtjcjhcpaojhcfaaDoor
open Go.RowKit
set_option linter.unusedVariables false

theorem good_ne {q : List Int} (h : (goodP q).isSome = true) : q ≠ [] := by
  rintro rfl
  revert h
  decide
theorem rf_rf {l : List Int} {p p' : Nat} {c c' : Int} (h : RF l p c) (h' : RF l p' c') : p = p' ∧ c = c' := by
  rcases h with ⟨h1, rfl, rfl⟩ | ⟨h1, ps, r, a1, a2, a3, a4, a5, rfl, rfl⟩ | ⟨h1, ⟨ps, v1, v2⟩, k, q, b1, b2, b3, b4, rfl, b5⟩
  · rcases h' with ⟨g1, rfl, rfl⟩ | ⟨g1, _⟩ | ⟨g1, _⟩
    · exact ⟨rfl, rfl⟩
    · omega
    · omega
  · rcases h' with ⟨g1, rfl, rfl⟩ | ⟨g1, ps', r', d1, d2, d3, d4, d5, rfl, rfl⟩ | ⟨g1, ⟨ps', d1, d2⟩, _⟩
    · omega
    · have := Ut.split_one a1 d1 a4 d4 (by rw [← a3, d3])
      rw [this.1]; exact ⟨rfl, rfl⟩
    · have := Ut.split_one a1 d1 a4 (show Ut.decZ [] = none from rfl) (by rw [← a3, d2, List.append_nil])
      exact absurd this.2 a5
  · rcases h' with ⟨g1, rfl, rfl⟩ | ⟨g1, ps', r', d1, d2, d3, d4, d5, rfl, rfl⟩ | ⟨g1, _, k', q', d1, d2, d3, d4, rfl, d5⟩
    · omega
    · have := Ut.split_one d1 v1 d4 (show Ut.decZ [] = none from rfl) (by rw [← d3, v2, List.append_nil])
      exact absurd this.2 d5
    · have key : ∀ {k k' : Nat} {q q' : List Int}, (splitP (unfoldZ l).length (unfoldZ l))[k]? = some q → (∀ i r, i < k' → (splitP (unfoldZ l).length (unfoldZ l))[i]? = some r → (goodP r).isSome = true) → k' ≤ 4096 → ((goodP q = none ∧ c = 90) ∨ ((goodP q).isSome = true ∧ k = 4096 ∧ c = 2)) → ¬ k < k' := by
        intro k k' q q' e1 e2 e3 e4 hlt
        have := e2 k q hlt e1
        rcases e4 with ⟨e4, _⟩ | ⟨_, e4, _⟩
        · rw [e4] at this; cases this
        · omega
      have key' : ∀ {k k' : Nat} {q q' : List Int}, (splitP (unfoldZ l).length (unfoldZ l))[k]? = some q → (∀ i r, i < k' → (splitP (unfoldZ l).length (unfoldZ l))[i]? = some r → (goodP r).isSome = true) → k' ≤ 4096 → ((goodP q = none ∧ c' = 90) ∨ ((goodP q).isSome = true ∧ k = 4096 ∧ c' = 2)) → ¬ k < k' := by
        intro k k' q q' e1 e2 e3 e4 hlt
        have := e2 k q hlt e1
        rcases e4 with ⟨e4, _⟩ | ⟨_, e4, _⟩
        · rw [e4] at this; cases this
        · omega
      have n1 := key (q' := q') b1 d3 d4 b5
      have n2 := key' (q' := q) d1 b3 b4 d5
      obtain rfl : k = k' := by omega
      rw [b1] at d1
      cases d1
      refine ⟨rfl, ?_⟩
      rcases b5 with ⟨e, rfl⟩ | ⟨e, _, rfl⟩ <;> rcases d5 with ⟨f, rfl⟩ | ⟨f, _, rfl⟩
      · rfl
      · rw [e] at f; cases f
      · rw [f] at e; cases e
      · rfl
theorem rf_rok {l : List Int} {p : Nat} {c : Int} {ls : List Lm} (h : RF l p c) (h' : ROk l ls) : False := by
  obtain ⟨g1, ⟨qs, g2, g3⟩, g4, g5, g6⟩ := h'
  rcases h with ⟨h1, _, _⟩ | ⟨_, ps, r, a1, a2, a3, a4, a5, _, _⟩ | ⟨_, _, k, q, b1, b2, b3, b4, _, b5⟩
  · omega
  · have := Ut.split_one a1 g2 a4 (show Ut.decZ [] = none from rfl) (by rw [← a3, g3, List.append_nil])
    exact a5 this.2
  · have hk : k < ls.length := by
      rw [g4]
      have := linesV_at (splitP (unfoldZ l).length (unfoldZ l)) 0 k q b1 (fun i r hi hr => good_ne (b3 i r hi hr)) b2
      exact (List.getElem?_eq_some_iff.1 this).1
    obtain ⟨q', e1, e2⟩ := g6 k ls[k] (List.getElem?_eq_getElem hk)
    rw [b1] at e1
    cases e1
    rcases b5 with ⟨b5, _⟩ | ⟨_, b5, _⟩
    · rw [e2] at b5; cases b5
    · omega
theorem ln_inj {m m' : Lm} (e : m'.ln = m.ln) : m'.nm = m.nm ∧ m'.vl = m.vl ∧ m'.fs = m.fs := by
  unfold Lm.ln at e
  injection e with e1 e2 e3
  exact ⟨nums_inj e1, nums_inj e3, numsP_inj e2⟩
theorem rok_rok {l : List Int} {ls ks : List Lm} (h : ROk l ls) (h' : ROk l ks) : SameL ls ks := by
  obtain ⟨_, _, g4, _, g6⟩ := h
  obtain ⟨_, _, d4, _, d6⟩ := h'
  refine ⟨by rw [g4, d4], fun i m m' hm hm' => ?_⟩
  obtain ⟨q, h1, h2⟩ := g6 i m hm
  obtain ⟨q', h3, h4⟩ := d6 i m' hm'
  rw [h1] at h3
  cases h3
  rw [h2] at h4
  exact ln_inj (Option.some.inj h4).symm
theorem both_read {l : List Int} {w1 w2 : World} {v1 v2 : Value} {p1 p2 : Nat} {c1 c2 : Int}
    (h1 : (RF l p1 c1 ∧ v1 = .slice none 0 0) ∨ (p1 = 0 ∧ c1 = 0 ∧ ∃ (a : Option Addr) (cap : Nat) (ls : List Lm), v1 = .slice a ls.length cap ∧ LRow w1 a ls ∧ ROk l ls))
    (h2 : (RF l p2 c2 ∧ v2 = .slice none 0 0) ∨ (p2 = 0 ∧ c2 = 0 ∧ ∃ (a : Option Addr) (cap : Nat) (ls : List Lm), v2 = .slice a ls.length cap ∧ LRow w2 a ls ∧ ROk l ls)) :
    p1 = p2 ∧ c1 = c2 ∧ ∃ (a b : Option Addr) (n k ca cb : Nat) (ls ks : List Lm), v1 = .slice a n ca ∧ v2 = .slice b k cb ∧ ls.length = n ∧ ks.length = k ∧ n ≤ 5000 ∧ (∀ m ∈ ls, m.fs.length ≤ 1000) ∧ LRow w1 a ls ∧ LRow w2 b ks ∧ SameL ls ks := by
  rcases h1 with ⟨f1, rfl⟩ | ⟨rfl, rfl, a, ca, ls, rfl, r1, o1⟩ <;> rcases h2 with ⟨f2, rfl⟩ | ⟨rfl, rfl, b, cb, ks, rfl, r2, o2⟩
  · obtain ⟨e1, e2⟩ := rf_rf f1 f2
    exact ⟨e1, e2, none, none, 0, 0, 0, 0, [], [], rfl, rfl, rfl, rfl, by omega, by simp, .inl rfl, .inl rfl, rfl, by simp⟩
  · exact (rf_rok f1 o2).elim
  · exact (rf_rok f2 o1).elim
  · refine ⟨rfl, rfl, a, b, _, _, ca, cb, ls, ks, rfl, rfl, rfl, rfl, by have := o1.2.2.2.1; omega, fun m hm => ?_, r1, r2, rok_rok o1 o2⟩
    have hall := (read_right o1).1
    exact (ok_fit (List.all_eq_true.1 hall m hm)).2.2.1
theorem both_one {x : Option Ln} {c c' : Int} {nm nm' vl vl' : ByteArray} {fs fs' : List (ByteArray × ByteArray)} {l : List Int} (hx : x = oneR l) (h : OAns x c nm vl fs) (h' : OAns x c' nm' vl' fs') : c' = c ∧ nm' = nm ∧ vl' = vl ∧ fs' = fs ∧ fs.length ≤ 1000 := by
  rcases h with ⟨h1, rfl⟩ | ⟨h1, rfl, rfl, rfl, rfl⟩ <;> rcases h' with ⟨g1, rfl⟩ | ⟨g1, rfl, rfl, rfl, rfl⟩
  · rw [h1] at g1
    have e := Option.some.inj g1
    injection e with e1 e2 e3
    refine ⟨rfl, (nums_inj e1).symm, (nums_inj e3).symm, (numsP_inj e2).symm, ?_⟩
    have hr := one_right (hx.symm.trans h1)
    have := (ok_fit (m := ⟨nm, vl, none, 0, fs⟩) hr).2.2.1
    exact this
  · rw [h1] at g1; cases g1
  · rw [h1] at g1; cases g1
  · exact ⟨rfl, rfl, rfl, rfl, by simp⟩
theorem one_row {W : World} {g : Nat} {nm vl : ByteArray} {a : Option Addr} {n c : Nat} {fs : List (ByteArray × ByteArray)} (h : Blk W g #[.string nm, .slice a n c, .string vl] 32) (hn : fs.length = n) (hf : FRow W a fs) : LRow W (some ⟨g, 0, none⟩) [⟨nm, vl, a, c, fs⟩] := by
  obtain ⟨c0, c1, c2, _⟩ := three_cells h
  subst hn
  refine .inr ⟨g, 0, rfl, fun i m hi => ?_⟩
  cases i with
  | zero =>
    simp at hi
    subst hi
    exact ⟨⟨by simpa using c0, by simpa using c1, by simpa using c2⟩, hf⟩
  | succ i => simp at hi
end Go.Proofs.YtjcjhcpaojhcfaaDoor
