/-
  Lengths piece by piece.
-/
import Derived.Test.YtomcjkghneingabDoorWMc
namespace Go.Proofs.YtomcjkghneingabDoor.Wn
set_option linter.unusedVariables false

def valueZ (l : List Int) : Int := if l.length = 0 ∨ 10 < l.length ∨ l.all isD = false then -1 else valL l
def ordZ (c : Int) : Int := if c = 68 then 0 else if c = 84 then 1 else if c = 72 then 2 else if c = 77 then 3 else if c = 83 then 4 else -1
def worthZ (c : Int) : Int := if c = 68 then 86400 else if c = 72 then 3600 else if c = 77 then 60 else if c = 83 then 1 else 0
/-- Numbers with units. -/
def pcs : List Int → List Int → Option (List (Int × Int))
  | cur, [] => if cur = [] then some [] else none
  | cur, c :: l => if isD c = true then pcs (cur ++ [c]) l else
    if c = 84 ∧ cur = [] then (pcs [] l).map fun ps => (0, 84) :: ps else
    if valueZ cur < 0 ∨ c = 84 then none else (pcs [] l).map fun ps => (valueZ cur, c) :: ps
abbrev badZ (was at_ : Int) : Prop := was = -1 ∧ 1 < at_ ∨ was = 0 ∧ at_ ≠ 1 ∨ was = 1 ∧ at_ < 2 ∨ 2 ≤ was ∧ at_ ≠ was + 1
def sumK : Int → Int → List (Int × Int) → Int
  | was, acc, [] => if was = -1 ∨ was = 1 then -1 else acc
  | was, acc, p :: ps => if ordZ p.2 < 0 ∨ badZ was (ordZ p.2) then -1 else sumK (ordZ p.2) (acc + p.1 * worthZ p.2) ps
def sumR (ps : List (Int × Int)) : Int :=
  match ps with
  | [(n, 87)] => 604800 * n
  | _ => sumK (-1) 0 ps
def given (n : Int) : Option Int := if n < 0 then none else some n
def refFull (l : List Int) : Option Int := (pcs [] l).bind fun ps => given (sumR ps)
theorem split_dig : ∀ l : List Int, ∃ ds r, l = ds ++ r ∧ (∀ c ∈ ds, isD c = true) ∧ noD r
  | [] => ⟨[], [], rfl, by simp, .inl rfl⟩
  | c :: l => by
    by_cases h : isD c = true
    · obtain ⟨ds, r, e, hd, hr⟩ := split_dig l
      refine ⟨c :: ds, r, by rw [e]; rfl, ?_, hr⟩
      intro x hx
      rcases List.mem_cons.1 hx with rfl | hx
      · exact h
      · exact hd x hx
    · exact ⟨[], c :: l, rfl, by simp, .inr ⟨c, l, rfl, by simpa using h⟩⟩
theorem pcs_dig : ∀ (cur ds r : List Int), (∀ c ∈ ds, isD c = true) → pcs cur (ds ++ r) = pcs (cur ++ ds) r
  | cur, [], r, _ => by simp
  | cur, d :: ds, r, h => by
    have hd := h d (by simp)
    rw [List.cons_append]
    simp only [pcs, hd, if_true]
    rw [pcs_dig (cur ++ [d]) ds r (fun c hc => h c (by simp [hc]))]
    simp
theorem all_dig {ds : List Int} (h : ∀ c ∈ ds, isD c = true) : ds.all isD = true := List.all_eq_true.2 h
theorem value_ok {ds : List Int} (h : ∀ c ∈ ds, isD c = true) (h0 : ds ≠ []) (h1 : ds.length ≤ 10) : valueZ ds = valL ds := by
  unfold valueZ
  rw [if_neg]
  rintro (a | a | a)
  · exact h0 (List.length_eq_zero_iff.1 a)
  · omega
  · rw [all_dig h] at a; cases a
theorem value_no {ds : List Int} (h : ds = [] ∨ 10 < ds.length) : valueZ ds = -1 := by
  unfold valueZ
  rw [if_pos]
  rcases h with rfl | h
  · exact .inl rfl
  · exact .inr (.inl h)
theorem val_ge {ds : List Int} (h : ∀ c ∈ ds, isD c = true) : 0 ≤ valL ds := by
  have key : ∀ (ds : List Int) (n : Int), (∀ c ∈ ds, isD c = true) → 0 ≤ n → 0 ≤ ds.foldl (fun n c => n * 10 + (c - 48)) n := by
    intro ds
    induction ds with
    | nil => intro n _ h; exact h
    | cons d ds ih =>
      intro n h hn
      have hd := h d (by simp)
      rw [isD_iff] at hd
      exact ih _ (fun c hc => h c (by simp [hc])) (by show 0 ≤ n * 10 + (d - 48); omega)
  exact key ds 0 h (by omega)
theorem pcs_none (ds r : List Int) (c : Int) (hc : isD c = false) (h0 : ds ≠ []) (h : 10 < ds.length ∨ c = 84) : pcs ds (c :: r) = none := by
  simp only [pcs, hc, Bool.false_eq_true, if_false]
  rw [if_neg (fun x => h0 x.2), if_pos]
  rcases h with h | h
  · rw [value_no (.inr h)]; exact .inl (by omega)
  · exact .inr h
theorem pcs_some (ds r : List Int) (c : Int) (hd : ∀ c ∈ ds, isD c = true) (hc : isD c = false) (h0 : ds ≠ []) (h1 : ds.length ≤ 10) (h : c ≠ 84) :
    pcs ds (c :: r) = (pcs [] r).map fun ps => (valL ds, c) :: ps := by
  simp only [pcs, hc, Bool.false_eq_true, if_false]
  rw [if_neg (fun x => h0 x.2), value_ok hd h0 h1, if_neg]
  rintro (a | a)
  · have := val_ge hd; omega
  · exact h a
theorem pcs_end (ds : List Int) (h0 : ds ≠ []) : pcs ds [] = none := by simp [pcs, h0]
theorem pcs_T (r : List Int) : pcs [] (84 :: r) = (pcs [] r).map fun ps => (0, 84) :: ps := by simp [pcs, isD]
theorem pcs_bare (c : Int) (r : List Int) (hc : isD c = false) (h : c ≠ 84) : pcs [] (c :: r) = none := by
  simp only [pcs, hc, Bool.false_eq_true, if_false]
  rw [if_neg (fun x => h x.1), value_no (.inl rfl), if_pos (.inl (by omega))]
theorem dig_long (ds r : List Int) (hd : ∀ c ∈ ds, isD c = true) (h : 10 < ds.length) : (digR 10 0 (ds ++ r)).2 = 10 ∧ ∃ d q, (ds ++ r).drop 10 = d :: q ∧ isD d = true := by
  have e : ds = ds.take 10 ++ ds.drop 10 := (List.take_append_drop 10 ds).symm
  have hl : (ds.take 10).length = 10 := by simp; omega
  have key := digR_all 10 0 (ds.take 10) (ds.drop 10 ++ r) (fun c hc => hd c (List.mem_of_mem_take hc)) (by omega) (.inr hl)
  rw [← List.append_assoc, ← e, hl] at key
  refine ⟨by rw [key], ?_⟩
  rw [List.drop_append_of_le_length (by omega)]
  cases hq : ds.drop 10 with
  | nil => have := congrArg List.length hq; simp at this; omega
  | cons d q => exact ⟨d, q ++ r, rfl, hd d (List.mem_of_mem_drop (i := 10) (by rw [hq]; simp))⟩
theorem dig_short (ds r : List Int) (hd : ∀ c ∈ ds, isD c = true) (h : ds.length ≤ 10) (hr : noD r) : digR 10 0 (ds ++ r) = (valL ds, ds.length) := digR_all 10 0 ds r hd h (.inl hr)
theorem unit_dig (c : Int) (h : isD c = true) : unitZ c = -1 := by
  rw [isD_iff] at h; unfold unitZ; rw [if_neg (by omega), if_neg (by omega), if_neg (by omega)]
theorem unit_ord (c : Int) : unitZ c = -1 ∧ (ordZ c = -1 ∨ ordZ c = 0 ∨ ordZ c = 1) ∨ (unitZ c = 0 ∨ unitZ c = 1 ∨ unitZ c = 2) ∧ ordZ c = unitZ c + 2 ∧ worthZ c = sizeU (unitZ c) := by
  unfold unitZ ordZ worthZ sizeU
  by_cases a : c = 72
  · subst a; right; decide
  · by_cases b : c = 77
    · subst b; right; decide
    · by_cases d : c = 83
      · subst d; right; decide
      · left
        rw [if_neg a, if_neg b, if_neg d]
        refine ⟨rfl, ?_⟩
        by_cases e : c = 68
        · rw [if_pos e]; simp
        · rw [if_neg e]
          by_cases g : c = 84
          · rw [if_pos g]; simp
          · rw [if_neg g, if_neg a, if_neg b, if_neg d]; simp
theorem given_neg : given (-1) = none := rfl
theorem given_ok {n : Int} (h : 0 ≤ n) : given n = some n := by unfold given; rw [if_neg (by omega)]
theorem size_ge (u : Int) : 0 ≤ sizeU u := by unfold sizeU; split <;> (try split) <;> omega
/-- The clock's pieces. -/
theorem clock_ref : ∀ (f : Nat) (was acc : Int) (l : List Int), l.length < f → (1 ≤ was ∧ was ≤ 4) → 0 ≤ acc →
    ((pcs [] l).bind fun ps => given (sumK was acc ps)) = clockR f acc (was - 2) l
  | 0, was, acc, l, h, _, _ => by omega
  | f + 1, was, acc, [], h, hw, ha => by
    simp only [pcs, if_true, Option.bind_some, sumK, clockR]
    by_cases h1 : was = 1
    · rw [if_pos (.inr h1), if_neg (by omega)]; rfl
    · rw [if_neg (by omega), if_pos (by omega), given_ok ha]
  | f + 1, was, acc, c :: l, h, hw, ha => by
    obtain ⟨ds, r, e, hd, hr⟩ := split_dig (c :: l)
    by_cases h0 : ds = []
    · subst h0
      rw [List.nil_append] at e
      subst e
      rcases hr with hr | ⟨c', r', e', hc⟩
      · cases hr
      · injection e' with e1 e2
        subst e1 e2
        have hk : (digR 10 0 (c :: l)).2 = 0 := by simp [digR, hc]
        simp only [clockR, hk, if_true]
        by_cases h84 : c = 84
        · subst h84
          rw [pcs_T]
          cases pcs [] l with
          | none => rfl
          | some ps =>
            simp only [Option.map_some, Option.bind_some, sumK]
            rw [if_pos]
            · rfl
            · right; unfold badZ; simp only [show ordZ 84 = 1 from rfl]; omega
        · rw [pcs_bare c l hc h84]; rfl
    · have hlen := congrArg List.length e
      rw [List.length_append] at hlen
      by_cases hl : 10 < ds.length
      · obtain ⟨k1, d, q, k2, k3⟩ := dig_long ds r hd hl
        rw [← e] at k1 k2
        simp only [clockR, k1, k2, unit_dig d k3]
        rw [if_neg (by omega), if_pos (.inl (by omega)), e, pcs_dig [] ds r hd, List.nil_append]
        rcases hr with rfl | ⟨c', r', rfl, hc⟩
        · rw [pcs_end ds h0]; rfl
        · rw [pcs_none ds r' c' hc h0 (.inl hl)]; rfl
      · have hs := dig_short ds r hd (by omega) hr
        have hdr : (ds ++ r).drop ds.length = r := by simp
        rw [← e] at hs hdr
        have hp : ds.length ≠ 0 := fun x => h0 (List.length_eq_zero_iff.1 x)
        simp only [clockR, hs, hdr]
        rw [if_neg hp, e, pcs_dig [] ds r hd, List.nil_append]
        rcases hr with rfl | ⟨u, r', rfl, hc⟩
        · rw [pcs_end ds h0]; rfl
        · by_cases h84 : u = 84
          · rw [pcs_none ds r' u hc h0 (.inr h84)]
            subst h84
            rfl
          · rw [pcs_some ds r' u hd hc h0 (by omega) h84]
            have hge := val_ge hd
            simp only [List.length_cons] at hlen h
            dsimp only
            rcases unit_ord u with ⟨a, b⟩ | ⟨a, b, k⟩
            · rw [if_pos (.inl (by omega))]
              cases pcs [] r' with
              | none => rfl
              | some ps =>
                simp only [Option.map_some, Option.bind_some, sumK]
                rw [if_pos]
                · rfl
                · unfold badZ; omega
            · by_cases hb : badZ was (ordZ u)
              · have hb' := hb
                unfold badZ at hb'
                rw [if_pos (.inr (by omega))]
                cases pcs [] r' with
                | none => rfl
                | some ps =>
                  simp only [Option.map_some, Option.bind_some, sumK]
                  rw [if_pos (.inr hb)]; rfl
              · have hb' := hb
                unfold badZ at hb'
                have hnn : 0 ≤ valL ds * sizeU (unitZ u) := Int.mul_nonneg hge (size_ge _)
                rw [if_neg (by omega), ← show ordZ u - 2 = unitZ u by omega, ← clock_ref f (ordZ u) (acc + valL ds * sizeU (ordZ u - 2)) r' (by omega) (by omega) (by rw [show ordZ u - 2 = unitZ u by omega]; omega)]
                cases pcs [] r' with
                | none => rfl
                | some ps =>
                  simp only [Option.map_some, Option.bind_some, sumK]
                  rw [if_neg (by rintro (x | x); · omega
                                 · exact hb x), k, show unitZ u = ordZ u - 2 by omega]
theorem clockR_add : ∀ (f : Nat) (a sum last : Int) (l : List Int), clockR f (a + sum) last l = (clockR f sum last l).map fun n => a + n
  | 0, _, _, _, _ => rfl
  | f + 1, a, sum, last, [] => by simp only [clockR]; split <;> rfl
  | f + 1, a, sum, last, c :: l => by
    simp only [clockR]
    split
    · rfl
    · split
      · rfl
      · split
        · rfl
        · rw [Int.add_assoc, clockR_add f a]
theorem pcs_nil (l : List Int) (h : pcs [] l = some []) : l = [] := by
  obtain ⟨ds, r, rfl, hd, hr⟩ := split_dig l
  rw [pcs_dig [] ds r hd, List.nil_append] at h
  rcases hr with rfl | ⟨c, r, rfl, hc⟩
  · by_cases h0 : ds = []
    · rw [h0]; rfl
    · rw [pcs_end ds h0] at h; cases h
  · simp only [pcs, hc, Bool.false_eq_true, if_false] at h
    split at h
    · cases hq : pcs [] r <;> rw [hq] at h <;> simp at h
    · split at h
      · cases h
      · cases hq : pcs [] r <;> rw [hq] at h <;> simp at h
theorem pcs_noT (l : List Int) (h : ∀ r, l ≠ 84 :: r) (p : Int × Int) (ps : List (Int × Int)) (e : pcs [] l = some (p :: ps)) : p.2 ≠ 84 := by
  obtain ⟨ds, r, rfl, hd, hr⟩ := split_dig l
  rw [pcs_dig [] ds r hd, List.nil_append] at e
  rcases hr with rfl | ⟨c, r, rfl, hc⟩
  · simp only [pcs] at e
    split at e <;> cases e
  · by_cases h0 : ds = []
    · subst h0
      by_cases h84 : c = 84
      · subst h84; exact absurd rfl (h r)
      · rw [pcs_bare c r hc h84] at e; cases e
    · by_cases h84 : c = 84
      · rw [pcs_none ds r c hc h0 (.inr h84)] at e; cases e
      · by_cases hl : 10 < ds.length
        · rw [pcs_none ds r c hc h0 (.inl hl)] at e; cases e
        · rw [pcs_some ds r c hd hc h0 (by omega) h84] at e
          cases hq : pcs [] r with
          | none => rw [hq] at e; cases e
          | some qs =>
            rw [hq] at e
            simp only [Option.map_some, Option.some.injEq, List.cons.injEq] at e
            obtain ⟨rfl, _⟩ := e
            exact h84
theorem sumR_K (ps : List (Int × Int)) (h : ∀ n, ps ≠ [(n, 87)]) : sumR ps = sumK (-1) 0 ps := by
  unfold sumR
  split
  · rename_i n; exact absurd rfl (h n)
  · rfl
def wholeR (o : Option (Int × List Int)) : Option Int :=
  match o with
  | some (n, []) => some n
  | _ => none
theorem whole_map (o : Option Int) (g : Int → Int) : wholeR (o.map fun n => (g n, [])) = o.map g := by cases o <;> rfl
/-- What is read piece by piece is what is read from the front. -/
theorem ref_full (l : List Int) : refFull l = wholeR (lenR l) := by
  unfold refFull
  by_cases hT : ∃ r, l = 84 :: r
  · obtain ⟨r, rfl⟩ := hT
    rw [lenR_T, whole_map, pcs_T]
    have := clock_ref (r.length + 1) 1 0 r (by omega) (by omega) (by omega)
    rw [show (1 : Int) - 2 = -1 from rfl] at this
    show _ = Option.map (fun n => n) (clockR (r.length + 1) 0 (-1) r)
    rw [← this]
    cases pcs [] r with
    | none => rfl
    | some ps =>
      simp only [Option.map_some, Option.bind_some]
      rw [sumR_K _ (fun n e => by injection e with e1 e2; injection e1 with e3 e4; cases e4), sumK, if_neg (by decide)]
      rw [show ordZ ((0 : Int), (84 : Int)).2 = 1 from rfl, show (0 : Int) + ((0 : Int), (84 : Int)).1 * worthZ ((0 : Int), (84 : Int)).2 = 0 from rfl]
      cases given (sumK 1 0 ps) <;> rfl
  · have hT' : ∀ r, l ≠ 84 :: r := fun r e => hT ⟨r, e⟩
    have hlen : lenR l = if (digR 10 0 l).2 = 0 then none else
        match l.drop (digR 10 0 l).2 with
        | 87 :: r => some ((digR 10 0 l).1 * 604800, r)
        | 68 :: 84 :: r => (clockZ r).map fun n => ((digR 10 0 l).1 * 86400 + n, [])
        | 68 :: r => some ((digR 10 0 l).1 * 86400, r)
        | _ => none := by
      conv => lhs; unfold lenR
      split
      · rename_i r; exact absurd rfl (hT' r)
      · rfl
    rw [hlen]
    obtain ⟨ds, r, rfl, hd, hr⟩ := split_dig l
    rw [pcs_dig [] ds r hd, List.nil_append]
    by_cases h0 : ds = []
    · subst h0
      rcases hr with rfl | ⟨c, r, rfl, hc⟩
      · rfl
      · rw [pcs_bare c r hc (fun e => hT' r (by rw [e]; rfl))]
        have hk : (digR 10 0 ([] ++ c :: r)).2 = 0 := by simp [digR, hc]
        rw [if_pos hk]; rfl
    · by_cases hl : 10 < ds.length
      · obtain ⟨k1, d, q, k2, k3⟩ := dig_long ds r hd hl
        rw [k1, k2, if_neg (by omega)]
        rw [isD_iff] at k3
        have e2 : pcs ds r = none := by
          rcases hr with rfl | ⟨c', r', rfl, hc⟩
          · exact pcs_end ds h0
          · exact pcs_none ds r' c' hc h0 (.inl hl)
        rw [e2]
        split
        · rename_i e; injection e with e1 _; omega
        · rename_i e; injection e with e1 _; omega
        · rename_i e; injection e with e1 _; omega
        · rfl
      · have hs := dig_short ds r hd (by omega) hr
        have hdr : (ds ++ r).drop ds.length = r := by simp
        have hp : ds.length ≠ 0 := fun x => h0 (List.length_eq_zero_iff.1 x)
        have hge := val_ge hd
        rw [hs]
        dsimp only
        rw [hdr, if_neg hp]
        clear hlen hT hT' hs hdr
        rcases hr with rfl | ⟨u, r', rfl, hc⟩
        · rw [pcs_end ds h0]; rfl
        · by_cases h84 : u = 84
          · rw [pcs_none ds r' u hc h0 (.inr h84)]
            subst h84; rfl
          · rw [pcs_some ds r' u hd hc h0 (by omega) h84]
            by_cases hW : u = 87
            · subst hW
              by_cases hr' : r' = []
              · subst hr'
                show given (sumR [(valL ds, 87)]) = some (valL ds * 604800)
                show given (604800 * valL ds) = _
                rw [given_ok (by omega), Int.mul_comm]
              · have e1 : wholeR (some (valL ds * 604800, r')) = none := by
                  cases r' with
                  | nil => exact absurd rfl hr'
                  | cons a b => rfl
                show _ = wholeR (some (valL ds * 604800, r'))
                rw [e1]
                cases hq : pcs [] r' with
                | none => rfl
                | some ps =>
                  simp only [Option.map_some, Option.bind_some]
                  rw [sumR_K _ (fun n e => by injection e with _ e2; subst e2; exact hr' (pcs_nil r' hq)), sumK, if_pos (.inl (by show ordZ 87 < 0; decide))]
                  rfl
            · have hK : ∀ ps, sumR ((valL ds, u) :: ps) = sumK (-1) 0 ((valL ds, u) :: ps) := fun ps =>
                sumR_K _ (fun n e => by injection e with e1 e2; injection e1 with e3 e4; exact hW e4)
              by_cases hD : u = 68
              · subst hD
                have hstep : ∀ ps, sumK (-1) 0 ((valL ds, 68) :: ps) = sumK 0 (valL ds * 86400) ps := by
                  intro ps
                  rw [sumK, if_neg (by show ¬ (ordZ 68 < 0 ∨ badZ (-1) (ordZ 68)); decide)]
                  show sumK 0 (0 + valL ds * 86400) ps = _
                  rw [Int.zero_add]
                cases r' with
                | nil =>
                  show given (sumR ((valL ds, 68) :: [])) = some (valL ds * 86400)
                  rw [hK, hstep]
                  show given (valL ds * 86400) = _
                  exact given_ok (by omega)
                | cons c r2 =>
                  by_cases hc84 : c = 84
                  · subst hc84
                    show _ = wholeR ((clockZ r2).map fun n => (valL ds * 86400 + n, []))
                    rw [whole_map, pcs_T]
                    have := clock_ref (r2.length + 1) 1 (valL ds * 86400) r2 (by omega) (by omega) (by omega)
                    rw [show (1 : Int) - 2 = -1 from rfl, ← Int.add_zero (valL ds * 86400), clockR_add] at this
                    unfold clockZ
                    rw [← this]
                    cases pcs [] r2 with
                    | none => rfl
                    | some ps =>
                      simp only [Option.map_some, Option.bind_some]
                      rw [hK, hstep, sumK, if_neg (by decide)]
                      show given (sumK 1 (valL ds * 86400 + 0 * 0) ps) = _
                      simp
                  · have e1 : wholeR (match 68 :: c :: r2 with
                        | 87 :: r => some (valL ds * 604800, r)
                        | 68 :: 84 :: r => (clockZ r).map fun n => (valL ds * 86400 + n, [])
                        | 68 :: r => some (valL ds * 86400, r)
                        | _ => none) = none := by
                      split
                      · rename_i e; injection e with a _; omega
                      · rename_i e; injection e with _ a; injection a with a _; exact absurd a hc84
                      · rename_i e; injection e with _ a; subst a; rfl
                      · rfl
                    rw [e1]
                    cases hq : pcs [] (c :: r2) with
                    | none => rfl
                    | some ps =>
                      simp only [Option.map_some, Option.bind_some]
                      rw [hK, hstep]
                      cases ps with
                      | nil => have := pcs_nil _ hq; cases this
                      | cons p ps =>
                        have hn := pcs_noT (c :: r2) (fun r e => by injection e with a _; exact hc84 a) p ps hq
                        rw [sumK, if_pos]
                        · rfl
                        · right; right; left
                          refine ⟨rfl, ?_⟩
                          unfold ordZ
                          split
                          · omega
                          · split <;> (try split) <;> (try split) <;> omega
              · have e1 : wholeR (match u :: r' with
                    | 87 :: r => some (valL ds * 604800, r)
                    | 68 :: 84 :: r => (clockZ r).map fun n => (valL ds * 86400 + n, [])
                    | 68 :: r => some (valL ds * 86400, r)
                    | _ => none) = none := by
                  split
                  · rename_i e; injection e with a _; exact absurd a hW
                  · rename_i e; injection e with a _; exact absurd a hD
                  · rename_i e; injection e with a _; exact absurd a hD
                  · rfl
                rw [e1]
                cases pcs [] r' with
                | none => rfl
                | some ps =>
                  simp only [Option.map_some, Option.bind_some]
                  rw [hK, sumK, if_pos]
                  · rfl
                  · show ordZ u < 0 ∨ badZ (-1) (ordZ u)
                    unfold badZ ordZ
                    rw [if_neg hD, if_neg h84]
                    split
                    · omega
                    · split
                      · omega
                      · split <;> omega
end Go.Proofs.YtomcjkghneingabDoor.Wn
