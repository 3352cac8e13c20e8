/-
  What is written is read as it was.
-/
import Derived.Test.YtfhgkkdbkbbpkaaDoorKmath
import Derived.Test.YtfhgkkdbkbbpkaaDoorWk
namespace Go.Proofs.YtfhgkkdbkbbpkaaDoor
set_option linter.unusedVariables false

/-- Nothing that a token has stands at the front. -/
def Stop (r : List Int) : Prop := r = [] ∨ ∃ c t, r = c :: t ∧ tokC c = false
theorem stop_take {r : List Int} (h : Stop r) : r.takeWhile tokC = [] ∧ r.dropWhile tokC = r := by
  rcases h with rfl | ⟨c, t, rfl, h⟩
  · exact ⟨rfl, rfl⟩
  · simp [h]
theorem take_tok : ∀ {l r : List Int}, l.all tokC = true → Stop r → (l ++ r).takeWhile tokC = l ∧ (l ++ r).dropWhile tokC = r
  | [], r, _, h => stop_take h
  | c :: l, r, hl, h => by
    simp only [List.all_cons, Bool.and_eq_true] at hl
    have ih := take_tok hl.2 h
    simp only [List.cons_append, List.takeWhile_cons, List.dropWhile_cons, hl.1, if_true, ih.1, ih.2]
    exact ⟨trivial, trivial⟩
def Blank (p : List Int) : Prop := ∀ x ∈ p, x = 32 ∨ x = 9
theorem trim_blank : ∀ {p : List Int}, Blank p → ∀ r, trimQ (p ++ r) = trimQ r
  | [], _, r => rfl
  | c :: p, h, r => by
    rw [List.cons_append, trimQ, if_pos (h c (by simp))]
    exact trim_blank (fun x hx => h x (by simp [hx])) r
theorem trim_nil {p : List Int} (h : Blank p) : trimQ p = [] := by
  have := trim_blank h []
  rwa [List.append_nil] at this
theorem trim_cons {c : Int} (h1 : c ≠ 32) (h2 : c ≠ 9) (r : List Int) : trimQ (c :: r) = c :: r := by
  rw [trimQ, if_neg (by omega)]
theorem tok_ne {c : Int} (h : tokC c = true) : 33 ≤ c ∧ c ≤ 126 ∧ c ≠ 34 ∧ c ≠ 47 ∧ c ≠ 59 ∧ c ≠ 61 ∧ c ≠ 92 := by
  simp only [tokC, marksZ, Bool.and_eq_true, decide_eq_true_eq, Bool.not_eq_true', List.contains_cons, List.contains_nil, Bool.or_false, Bool.or_eq_false_iff, beq_eq_false_iff_ne] at h
  omega
theorem tok_47 : tokC 47 = false := by decide
theorem tok_59 : tokC 59 = false := by decide
theorem tok_61 : tokC 61 = false := by decide
theorem tok_32 : tokC 32 = false := by decide
theorem tok_9 : tokC 9 = false := by decide
theorem tok_34 : tokC 34 = false := by decide
theorem stop_blank : ∀ {p : List Int}, Blank p → ∀ {r}, Stop r → Stop (p ++ r)
  | [], _, r, h => h
  | c :: p, h, r, _ => by
    refine .inr ⟨c, p ++ r, rfl, ?_⟩
    rcases h c (by simp) with rfl | rfl
    · exact tok_32
    · exact tok_9
theorem sign_yes (c : Int) (r : List Int) : signB c (c :: r) = true ∧ signR c (c :: r) = r := by
  have e : signB c (c :: r) = true := by simp [signB]
  exact ⟨e, by rw [signR, if_pos e]; rfl⟩
theorem quot_esc_all : ∀ (v r : List Int), quotR (escL v ++ 34 :: r) = some (v, r)
  | [], r => by rw [escL, List.nil_append, quot_34]
  | c :: v, r => by
    rw [escL]
    split
    · rw [List.cons_append, List.cons_append, quot_esc, quot_esc_all v r]; rfl
    · rename_i h
      rw [List.cons_append, quot_oth (fun q => h (.inl q)) (fun q => h (.inr q)), quot_esc_all v r]; rfl
theorem token_all {l : List Int} (h : tokenZ l = true) : l.all tokC = true ∧ l ≠ [] ∧ l.length ≤ 64 := by
  simp only [tokenZ, Bool.and_eq_true, decide_eq_true_eq, Bool.not_eq_true', List.isEmpty_eq_false_iff] at h
  exact ⟨h.2, h.1.1, h.1.2⟩
theorem value_back (v : List Int) {r : List Int} (hr : Stop r) : valueR (writtenZ v ++ r) = some (v, r) := by
  unfold writtenZ
  split
  · rename_i ht
    obtain ⟨ha, hn, hl⟩ := token_all ht
    have htk := take_tok ha hr
    have hs : signB 34 (v ++ r) = false := by
      cases v with
      | nil => exact absurd rfl hn
      | cons c v =>
        simp only [List.all_cons, Bool.and_eq_true] at ha
        have := tok_ne ha.1
        simp [signB]; omega
    rw [valueR, if_neg (by rw [hs]; simp), htk.1, htk.2, if_pos ht]
  · rw [List.cons_append, valueR, if_pos (sign_yes 34 _).1, (sign_yes 34 _).2, List.append_assoc]
    exact quot_esc_all v r
theorem param_back {n : List Int} (hn : n.all tokC = true) (v : List Int) {r : List Int} (hr : Stop r) : paramR (n ++ 61 :: (writtenZ v ++ r)) = some ((n.map smallZ, v), r) := by
  have ht := take_tok hn (r := 61 :: (writtenZ v ++ r)) (.inr ⟨61, _, rfl, tok_61⟩)
  rw [paramR, ht.1, ht.2, if_pos (sign_yes 61 _).1, (sign_yes 61 _).2, value_back v hr]
  rfl
/-- A parameter as it may be written. -/
def parX (bl : List Int) (q : List Int × List Int) : List Int := 59 :: (bl ++ (q.1 ++ 61 :: writtenZ q.2))
def Tail (T : List Int) : Prop := Stop T ∧ (trimQ T = [] ∨ ∃ r, trimQ T = 59 :: r ∧ trimQ r = [])
theorem pars_back {bl : List Int} (hb : Blank bl) {T : List Int} (hT : Tail T) : ∀ (qs : List (List Int × List Int)) (m : Nat) (acc : List (List Int × List Int)), (∀ q ∈ qs, q.1.all tokC = true ∧ q.1 ≠ []) → qs.length < m →
    parsR m acc (trimQ (qs.flatMap (parX bl) ++ T)) = some (acc ++ qs.map fun q => (q.1.map smallZ, q.2))
  | [], m, acc, _, hm => by
    obtain ⟨k, rfl⟩ : ∃ k, m = k + 1 := ⟨m - 1, by simp at hm; omega⟩
    rw [List.flatMap_nil, List.nil_append]
    rcases hT.2 with h | ⟨r, h, h2⟩
    · rw [h, parsR]; simp
    · rw [h, parsR, if_pos rfl, if_pos h2]; simp
  | q :: qs, m, acc, hq, hm => by
    obtain ⟨k, rfl⟩ : ∃ k, m = k + 1 := ⟨m - 1, by simp at hm; omega⟩
    have h1 := hq q (by simp)
    have hst : Stop (qs.flatMap (parX bl) ++ T) := by
      cases qs with
      | nil => exact hT.1
      | cons p ps => exact .inr ⟨59, _, by rw [List.flatMap_cons, parX, List.cons_append, List.cons_append], tok_59⟩
    have e : (q :: qs).flatMap (parX bl) ++ T = 59 :: (bl ++ (q.1 ++ 61 :: (writtenZ q.2 ++ (qs.flatMap (parX bl) ++ T)))) := by
      rw [List.flatMap_cons, parX]; simp
    rw [e, trim_cons (by decide) (by decide), parsR, if_pos rfl, trim_blank hb]
    obtain ⟨c, n, hcn⟩ : ∃ c n, q.1 = c :: n := by
      cases hx : q.1 with
      | nil => exact absurd hx h1.2
      | cons c n => exact ⟨c, n, rfl⟩
    have htr : trimQ (q.1 ++ 61 :: (writtenZ q.2 ++ (qs.flatMap (parX bl) ++ T))) = q.1 ++ 61 :: (writtenZ q.2 ++ (qs.flatMap (parX bl) ++ T)) := by
      have hc : tokC c = true := by have := h1.1; rw [hcn] at this; simp only [List.all_cons, Bool.and_eq_true] at this; exact this.1
      have := tok_ne hc
      rw [hcn, List.cons_append, trim_cons (by omega) (by omega)]
    rw [htr, if_neg (by rw [hcn]; simp), param_back h1.1 q.2 hst]
    simp only []
    rw [pars_back hb hT qs k _ (fun x hx => hq x (by simp [hx])) (by simp at hm; omega)]
    simp
theorem kind_back {P bl : List Int} (hP : Blank P) (hb : Blank bl) {T : List Int} (hT : Tail T) {ty sub : List Int} (h1 : ty.all tokC = true ∧ ty ≠ []) (h2 : sub.all tokC = true) (qs : List (List Int × List Int)) (hq : ∀ q ∈ qs, q.1.all tokC = true ∧ q.1 ≠ []) :
    kindR (P ++ (ty ++ 47 :: (sub ++ (qs.flatMap (parX bl) ++ T)))) = some (ty.map smallZ, sub.map smallZ, qs.map fun q => (q.1.map smallZ, q.2)) := by
  have hst : Stop (qs.flatMap (parX bl) ++ T) := by
    cases qs with
    | nil => exact hT.1
    | cons p ps => exact .inr ⟨59, _, by rw [List.flatMap_cons, parX, List.cons_append, List.cons_append], tok_59⟩
  have htr : trimQ (P ++ (ty ++ 47 :: (sub ++ (qs.flatMap (parX bl) ++ T)))) = ty ++ 47 :: (sub ++ (qs.flatMap (parX bl) ++ T)) := by
    rw [trim_blank hP]
    cases ty with
    | nil => exact absurd rfl h1.2
    | cons c n =>
      have hc := h1.1
      simp only [List.all_cons, Bool.and_eq_true] at hc
      have := tok_ne hc.1
      rw [List.cons_append, trim_cons (by omega) (by omega)]
  have ht := take_tok h1.1 (r := 47 :: (sub ++ (qs.flatMap (parX bl) ++ T))) (.inr ⟨47, _, rfl, tok_47⟩)
  have ht2 := take_tok h2 hst
  have hlen : ∀ (l : List (List Int × List Int)), l.length ≤ (l.flatMap (parX bl)).length := by
    intro l
    induction l with
    | nil => simp
    | cons p ps ih => rw [List.flatMap_cons, List.length_append, parX]; simp only [List.length_append, List.length_cons]; omega
  rw [kindR, headR, subR, headR, htr, ht.1, ht.2, if_pos (sign_yes 47 _).1, (sign_yes 47 _).2, ht2.1, ht2.2]
  rw [pars_back hb hT qs _ [] hq (by have := hlen qs; simp only [List.length_append, List.length_cons]; omega)]
  rfl
theorem flat_par (ps : List (List Int × List Int)) : ps.flatMap parW = ps.flatMap (parX [32]) := by
  induction ps with
  | nil => rfl
  | cons p ps ih => rw [List.flatMap_cons, List.flatMap_cons, ih]; simp [parW, parX]
theorem name_all {l : List Int} (h : nameZ l = true) : l.all tokC = true ∧ l ≠ [] ∧ l.length ≤ 64 ∧ l.map smallZ = l := by
  simp only [nameZ, Bool.and_eq_true, decide_eq_true_eq] at h
  have := token_all h.1
  exact ⟨this.1, this.2.1, this.2.2, h.2⟩
theorem right_names : ∀ (ps : List (List Int × List Int)) (seen : List (List Int)), rightL seen ps = true → ∀ p ∈ ps, nameZ p.1 = true ∧ valueZ p.2 = true
  | [], _, _, p, hp => by simp at hp
  | q :: ps, seen, h, p, hp => by
    simp only [rightL, Bool.and_eq_true] at h
    rcases List.mem_cons.1 hp with rfl | hp
    · exact ⟨h.1.1.2, h.1.2⟩
    · exact right_names ps _ h.2 p hp
theorem right_all {ty sub : List Int} {ps : List (List Int × List Int)} (h : rightZ ty sub ps = true) : nameZ ty = true ∧ nameZ sub = true ∧ ps.length ≤ 16 ∧ ∀ p ∈ ps, nameZ p.1 = true ∧ valueZ p.2 = true := by
  simp only [rightZ, Bool.and_eq_true, decide_eq_true_eq] at h
  exact ⟨h.1.1.1, h.1.1.2, h.1.2, right_names ps [] h.2⟩
theorem read_back {P T ty sub : List Int} {ps : List (List Int × List Int)} (hP : Blank P) (hT : Tail T) (h : rightZ ty sub ps = true) : readR (P ++ (writeL ty sub ps ++ T)) = some (ty, sub, ps) := by
  obtain ⟨h1, h2, h3, h4⟩ := right_all h
  have n1 := name_all h1
  have n2 := name_all h2
  have hb : Blank [32] := by intro x hx; simp at hx; exact .inl hx
  have hk := kind_back hP hb hT ⟨n1.1, n1.2.1⟩ n2.1 ps (fun q hq => by have := name_all (h4 q hq).1; exact ⟨this.1, this.2.1⟩)
  have e1 : ps.map (fun q => (q.1.map smallZ, q.2)) = ps := by
    conv => rhs; rw [← List.map_id ps]
    apply List.map_congr_left
    intro q hq
    have := name_all (h4 q hq).1
    rw [this.2.2.2]; rfl
  rw [n1.2.2.2, n2.2.2.2, e1] at hk
  have e2 : P ++ (writeL ty sub ps ++ T) = P ++ (ty ++ 47 :: (sub ++ (ps.flatMap (parX [32]) ++ T))) := by
    rw [writeL, flat_par]; simp
  rw [readR, e2, hk]
  simp only []
  rw [if_pos h]
theorem tail_nil : Tail [] := ⟨.inl rfl, .inl rfl⟩
theorem tail_pad {p : List Int} (h : Blank p) : Tail (p ++ 59 :: p) := by
  refine ⟨stop_blank h (.inr ⟨59, p, rfl, tok_59⟩), .inr ⟨p, ?_, trim_nil h⟩⟩
  rw [trim_blank h, trim_cons (by decide) (by decide)]
theorem value_len2 {l : List Int} (h : valueZ l = true) : l.length ≤ 256 := by
  simp only [valueZ, Bool.and_eq_true, decide_eq_true_eq] at h; exact h.2
theorem flat_len {ps : List (List Int × List Int)} (h : ∀ p ∈ ps, nameZ p.1 = true ∧ valueZ p.2 = true) : (ps.flatMap parW).length ≤ ps.length * 600 := by
  induction ps with
  | nil => simp
  | cons p ps ih =>
    have h1 := h p (by simp)
    have ih := ih (fun x hx => h x (by simp [hx]))
    have q1 := (name_all h1.1).2.2.1
    have q2 := value_len2 h1.2
    have q3 := written_len p.2
    rw [List.flatMap_cons, List.length_append, parW]
    simp only [List.length_append, List.length_cons, List.length_nil]
    omega
theorem write_len {ty sub : List Int} {ps : List (List Int × List Int)} (h : rightZ ty sub ps = true) : (writeL ty sub ps).length ≤ 10000 := by
  obtain ⟨h1, h2, h3, h4⟩ := right_all h
  have q1 := (name_all h1).2.2.1
  have q2 := (name_all h2).2.2.1
  have q3 := flat_len h4
  rw [writeL]
  simp only [List.length_append, List.length_cons, List.length_nil]
  omega
theorem read_right {l : List Int} {z : List Int × List Int × List (List Int × List Int)} (h : readR l = some z) : rightZ z.1 z.2.1 z.2.2 = true := by
  unfold readR at h
  split at h
  · cases h
  · split at h
    · rename_i h2; simp at h; subst h; exact h2
    · cases h
end Go.Proofs.YtfhgkkdbkbbpkaaDoor
