/-
  What a reader that takes no text makes of any bytes.
-/
import Derived.Test.YtlpbgfepneoajaaBmath
namespace Go.Proofs.Ytlpbgfepneoajaa
open Go.RowKit
set_option linter.unusedVariables false

def bodyL (u : List Int) : List Int := if u.getLast? = some 13 then u.dropLast else u
def hasB (l : List Int) : Bool := l.any (fun c => c == 13 || c == 10)
/-- A reader within a line of which u came. -/
structure Mid (c l : Bool) (z m : Int) (s : RS) (u : List Int) : Prop where
  came : s.came = (bodyL u).length
  half : s.half = decide (u.getLast? = some 13)
  pt : s.pointed = decide ((bodyL u).head? = some 46)
  bare : s.bare = (c || hasB (bodyL u))
  wide : s.wide = (l || decide (999 < (bodyL u).length))
  size : s.size = z
  most : s.most = m
  over : s.over = false

theorem addZ_bare (s : RS) (c : Int) : (addZ s c).bare = s.bare := by
  unfold addZ; by_cases h : s.came = 0 ∧ c = 46
  · rw [if_pos h]; simp only []; split <;> rfl
  · rw [if_neg h]; simp only []; split <;> simp [keepZ_bare]
theorem addZ_size (s : RS) (c : Int) : (addZ s c).size = s.size := by
  unfold addZ; by_cases h : s.came = 0 ∧ c = 46
  · rw [if_pos h]; simp only []; split <;> rfl
  · rw [if_neg h]; simp only []; split <;> simp [keepZ_size]
theorem addZ_most (s : RS) (c : Int) : (addZ s c).most = s.most := by
  unfold addZ; by_cases h : s.came = 0 ∧ c = 46
  · rw [if_pos h]; simp only []; split <;> rfl
  · rw [if_neg h]; simp only []; split <;> simp [keepZ_most]
theorem addZ_pt (s : RS) (c : Int) : (addZ s c).pointed = (s.pointed || decide (s.came = 0 ∧ c = 46)) := by
  unfold addZ; by_cases h : s.came = 0 ∧ c = 46
  · rw [if_pos h]; simp only []; split <;> simp [h]
  · rw [if_neg h]; simp only []; split <;> simp [keepZ_pointed, h]
theorem addZ_wide (s : RS) (c : Int) : (addZ s c).wide = (s.wide || decide (999 < s.came + 1)) := by
  unfold addZ; by_cases h : s.came = 0 ∧ c = 46
  · rw [if_pos h]; simp only []; split
    · rename_i q; simp [q]
    · rename_i q; simp [show ¬ 999 < s.came + 1 from q]
  · rw [if_neg h]; simp only [keepZ_came]; split
    · rename_i q; simp [q]
    · rename_i q; simp [keepZ_wide, show ¬ 999 < s.came + 1 from q]

/-- A byte more, of no pair. -/
theorem mid_add {c l : Bool} {s : RS} {b : List Int} {x : Int} (h1 : s.came = b.length) (h2 : s.pointed = decide (b.head? = some 46)) (h3 : s.bare = (c || hasB (b ++ [x]))) (h4 : s.wide = (l || decide (999 < b.length))) :
    (addZ s x).came = (b ++ [x]).length ∧ (addZ s x).pointed = decide ((b ++ [x]).head? = some 46) ∧ (addZ s x).bare = (c || hasB (b ++ [x])) ∧ (addZ s x).wide = (l || decide (999 < (b ++ [x]).length)) := by
  refine ⟨by rw [addZ_came, h1]; simp, ?_, by rw [addZ_bare, h3], ?_⟩
  · rw [addZ_pt, h2, h1]
    cases b with
    | nil => simp
    | cons y b =>
      simp
      intro hh; omega
  · rw [addZ_wide, h4, h1]
    simp only [List.length_append, List.length_cons, List.length_nil]
    cases l
    · simp only [Bool.false_or]
      rw [Bool.eq_iff_iff]
      simp only [Bool.or_eq_true, decide_eq_true_eq]
      omega
    · simp
theorem hasB_snoc (b : List Int) (x : Int) : hasB (b ++ [x]) = (hasB b || (x == 13 || x == 10)) := by simp [hasB]
theorem bodyL_snoc (u : List Int) (x : Int) : bodyL (u ++ [x]) = if x = 13 then u else u ++ [x] := by
  unfold bodyL; simp

theorem mid_step {c l : Bool} {z m : Int} {s : RS} {u : List Int} (h : Mid c l z m s u) (x : Int) (hx : ¬ (u.getLast? = some 13 ∧ x = 10)) : Mid c l z m (takeZ s x) (u ++ [x]) := by
  by_cases hh : u.getLast? = some 13
  · have hs : s.half = true := by rw [h.half]; simpa using hh
    have hx10 : x ≠ 10 := fun e => hx ⟨hh, e⟩
    obtain ⟨b, rfl⟩ : ∃ b, u = b ++ [13] := List.getLast?_eq_some_iff.1 hh
    have hb : bodyL (b ++ [13]) = b := by rw [bodyL_snoc]; simp
    have e1 := h.came; have e2 := h.pt; have e3 := h.bare; have e4 := h.wide
    rw [hb] at e1 e2 e3 e4
    have htk : takeZ s x = if x = 13 then addZ { s with half := decide (x = 13), bare := true } 13 else addZ (addZ { s with half := decide (x = 13), bare := true } 13) x := by
      unfold takeZ
      rw [if_neg (fun q => hx10 q.2), if_pos hs]
      simp only []
      split
      · rfl
      · have : (addZ { s with half := decide (x = 13), bare := true } 13).bare = true := by rw [addZ_bare]
        have e : ({ addZ { s with half := decide (x = 13), bare := true } 13 with bare := (addZ { s with half := decide (x = 13), bare := true } 13).bare || decide (x = 10) } : RS) = addZ { s with half := decide (x = 13), bare := true } 13 := by
          generalize addZ { s with half := decide (x = 13), bare := true } 13 = t at this ⊢
          cases t
          simp only at this
          simp [this]
        rw [e]
    have m1 := mid_add (c := c) (l := l) (s := { s with half := decide (x = 13), bare := true }) (b := b) (x := 13) e1 e2 (by simp [hasB_snoc]) e4
    rw [htk]
    by_cases hx13 : x = 13
    · rw [if_pos hx13]
      have hb' : bodyL (b ++ [13] ++ [x]) = b ++ [13] := by rw [bodyL_snoc, if_pos hx13]
      refine ⟨by rw [hb']; exact m1.1, by rw [addZ_half]; simp, by rw [hb']; exact m1.2.1, by rw [hb']; exact m1.2.2.1, by rw [hb']; exact m1.2.2.2, by rw [addZ_size]; exact h.size, by rw [addZ_most]; exact h.most, by rw [addZ_over]; exact h.over⟩
    · rw [if_neg hx13]
      have hb' : bodyL (b ++ [13] ++ [x]) = b ++ [13] ++ [x] := by rw [bodyL_snoc, if_neg hx13]
      have m2 := mid_add (c := c) (l := l) (s := addZ { s with half := decide (x = 13), bare := true } 13) (b := b ++ [13]) (x := x) m1.1 m1.2.1 (by rw [m1.2.2.1, hasB_snoc (b ++ [13]) x, hasB_snoc]; simp) m1.2.2.2
      refine ⟨by rw [hb']; exact m2.1, by rw [addZ_half, addZ_half]; simp, by rw [hb']; exact m2.2.1, by rw [hb']; exact m2.2.2.1, by rw [hb']; exact m2.2.2.2, by rw [addZ_size, addZ_size]; exact h.size, by rw [addZ_most, addZ_most]; exact h.most, by rw [addZ_over, addZ_over]; exact h.over⟩
  · have hs : ¬ s.half = true := by rw [h.half]; simpa using hh
    have hb : bodyL u = u := by unfold bodyL; rw [if_neg hh]
    have e1 := h.came; have e2 := h.pt; have e3 := h.bare; have e4 := h.wide
    rw [hb] at e1 e2 e3 e4
    have htk : takeZ s x = if x = 13 then { s with half := true } else addZ { s with half := false, bare := s.bare || decide (x = 10) } x := by
      unfold takeZ
      rw [if_neg (fun q => hs q.1), if_neg hs]
      by_cases q : x = 13 <;> simp [q]
    rw [htk]
    by_cases hx13 : x = 13
    · rw [if_pos hx13]
      have hb' : bodyL (u ++ [x]) = u := by rw [bodyL_snoc, if_pos hx13]
      exact ⟨by rw [hb']; exact e1, by simp [hx13], by rw [hb']; exact e2, by rw [hb']; exact e3, by rw [hb']; exact e4, h.size, h.most, h.over⟩
    · rw [if_neg hx13]
      have hb' : bodyL (u ++ [x]) = u ++ [x] := by rw [bodyL_snoc, if_neg hx13]
      have m1 := mid_add (c := c) (l := l) (s := { s with half := false, bare := s.bare || decide (x = 10) }) (b := u) (x := x) e1 e2 (by simp only []; rw [e3, hasB_snoc, Bool.or_assoc]; congr 2; by_cases q : x = 10 <;> simp [q, hx13]) e4
      refine ⟨by rw [hb']; exact m1.1, by rw [addZ_half]; simp [hx13], by rw [hb']; exact m1.2.1, by rw [hb']; exact m1.2.2.1, by rw [hb']; exact m1.2.2.2, by rw [addZ_size]; exact h.size, by rw [addZ_most]; exact h.most, by rw [addZ_over]; exact h.over⟩

def noPair (w : List Int) : Prop := ∀ a b, w ≠ a ++ 13 :: 10 :: b
theorem run_mid {c l : Bool} {z m : Int} : ∀ (v u : List Int) (s : RS), Mid c l z m s u → noPair (u ++ v) → Mid c l z m (runZ s v).1 (u ++ v)
  | [], u, s, h, _ => by simpa [runZ] using h
  | x :: v, u, s, h, hn => by
    have hx : ¬ (u.getLast? = some 13 ∧ x = 10) := by
      rintro ⟨q1, q2⟩
      obtain ⟨b, rfl⟩ := List.getLast?_eq_some_iff.1 q1
      refine hn b v ?_
      rw [q2]
      simp
    have h1 := mid_step h x hx
    have ih := run_mid v (u ++ [x]) (takeZ s x) h1 (by simpa using hn)
    unfold runZ
    rw [if_neg (by rw [h1.over]; simp)]
    simpa using ih

theorem pairI_le : ∀ (u r : List Int), 0 ≤ pairI (u ++ 13 :: 10 :: r) ∧ pairI (u ++ 13 :: 10 :: r) ≤ u.length
  | [], r => by simp [pairI]
  | c :: u, r => by
    have ih := pairI_le u r
    rw [List.cons_append]
    unfold pairI
    split
    · simp; omega
    · rw [if_neg (by omega)]; simp; omega
theorem noPair_none {l : List Int} (h : ¬ 0 ≤ pairI l) : noPair l := by
  intro a b e
  rw [e] at h
  exact h (pairI_le a b).1
theorem noPair_some {l : List Int} {i : Nat} (h : pairI l = i) (hi : i + 2 ≤ l.length) : noPair (l.take i ++ [13]) := by
  intro a b e
  have hsp := pairI_split l i h
  have hlen := congrArg List.length e
  simp only [List.length_append, List.length_take, List.length_cons, List.length_nil] at hlen
  have h2 : l = a ++ 13 :: 10 :: (b ++ 10 :: l.drop (i + 2)) := by
    conv => lhs; rw [hsp]
    have : l.take i ++ 13 :: 10 :: l.drop (i + 2) = (l.take i ++ [13]) ++ 10 :: l.drop (i + 2) := by simp
    rw [this, e]; simp
  have := pairI_le a (b ++ 10 :: l.drop (i + 2))
  rw [← h2, h] at this
  omega

/-- The pair that ends a line. -/
theorem mid_end {c l : Bool} {z m : Int} {s : RS} {pc : List Int} (h : Mid c l z m s (pc ++ [13])) :
    (pc = [46] → (takeZ s 10).over = true ∧ faultZ (takeZ s 10) = (if (c || hasB pc) = true then 41 else if (l || decide (999 < pc.length)) = true then 40 else if m < z then 2 else 0)) ∧
    (pc ≠ [46] → Mid (c || hasB pc) (l || decide (999 < pc.length) || decide (998 < pc.length - (if pc.head? = some 46 then 1 else 0))) (z + (pc.length - (if pc.head? = some 46 then 1 else 0) : Nat) + 2) m (takeZ s 10) []) := by
  have hb : bodyL (pc ++ [13]) = pc := by rw [bodyL_snoc]; simp
  have e1 := h.came; have e2 := h.pt; have e3 := h.bare; have e4 := h.wide
  rw [hb] at e1 e2 e3 e4
  have hs : s.half = true := by rw [h.half]; simp
  have htk : takeZ s 10 = endZ { s with half := false } := by unfold takeZ; rw [if_pos ⟨hs, rfl⟩]
  have hown : ownZ { s with half := false } = (pc.length - (if pc.head? = some 46 then 1 else 0) : Nat) := by
    unfold ownZ
    simp only [e2, e1, decide_eq_true_eq]
    split
    · have : 0 < pc.length := by cases pc with | nil => simp at * | cons _ _ => simp
      omega
    · omega
  have hpo : (({ s with half := false } : RS).pointed = true ∧ ownZ { s with half := false } = 0) ↔ pc = [46] := by
    rw [hown]
    simp only [e2, decide_eq_true_eq]
    constructor
    · rintro ⟨q1, q2⟩
      rw [if_pos q1] at q2
      cases pc with
      | nil => simp at q1
      | cons x pc =>
        have q3 : (x :: pc).length - 1 = 0 := by omega
        simp at q1 q3
        rw [q1, q3]
    · rintro rfl; simp
  rw [htk]
  unfold endZ
  constructor
  · intro hp
    rw [if_pos (hpo.2 hp)]
    refine ⟨rfl, ?_⟩
    unfold faultZ
    simp only [e3, e4, h.size, h.most]
  · intro hp
    rw [if_neg (fun q => hp (hpo.1 q)), hown]
    have hk := fun (t : RS) => keepZ_bare t [13, 10]
    refine ⟨by simp [bodyL], by simp [keepZ_half], by simp [bodyL], ?_, ?_, ?_, ?_, ?_⟩
    · simp [keepZ_bare, bodyL, hasB, e3]
    · simp only [keepZ_wide, bodyL, e4]
      simp only [List.getLast?_nil, reduceCtorEq, if_false, List.length_nil, Nat.not_lt_zero, decide_false, Bool.or_false]
      congr 1
      exact decide_eq_decide.2 (by omega)
    · simp only [keepZ_size, h.size]; omega
    · simp only [keepZ_most, h.most]
    · simp only [keepZ_over, h.over]

def faultB (c l f : Bool) : Int := if c = true then 41 else if l = true then 40 else if f = true then 2 else 0
/-- What the document says of a frame of which no text is taken. -/
def frL (zs : List Int) : Bool → Bool → Bool → List (Nat × Nat × Bool) → Option (Nat × Int)
  | _, _, _, [] => none
  | c, l, f, x :: ls => if x.2.2 = false then none else if pieceZ zs x = [46] then some (x.1 + 3, faultB c l f) else
      frL zs (c || hasB (pieceZ zs x)) (l || decide (999 < (pieceZ zs x).length) || decide (998 < (pieceZ zs x).length - (if (pieceZ zs x).head? = some 46 then 1 else 0))) true ls

theorem frame_any : ∀ (k : Nat) (l pre : List Int) (s : RS) (c lg : Bool) (z : Int), l.length ≤ k → Mid c lg z 0 s [] → 0 ≤ z →
    (∀ kk e, frL (pre ++ l) c lg (decide (0 < z)) (linesZ pre.length l) = some (kk, e) → (runZ s l).1.over = true ∧ pre.length + (runZ s l).2 = kk ∧ faultZ (runZ s l).1 = e) ∧
    (frL (pre ++ l) c lg (decide (0 < z)) (linesZ pre.length l) = none → (runZ s l).1.over = false)
  | 0, l, pre, s, c, lg, z, hk, hs, hz => by
    obtain rfl : l = [] := List.eq_nil_of_length_eq_zero (by omega)
    rw [linesZ_nil]
    refine ⟨fun kk e h => by simp [frL] at h, fun _ => by simp [runZ, hs.over]⟩
  | k + 1, l, pre, s, c, lg, z, hk, hs, hz => by
    by_cases hl : l = []
    · subst hl
      rw [linesZ_nil]
      exact ⟨fun kk e h => by simp [frL] at h, fun _ => by simp [runZ, hs.over]⟩
    · by_cases hi : 0 ≤ pairI l
      · have hroom := pairI_room l hi
        obtain ⟨i, hii⟩ : ∃ i : Nat, pairI l = i := ⟨(pairI l).toNat, by omega⟩
        have hsp := pairI_split l i hii
        have hlz := linesZ_pair pre.length l hi
        rw [hii] at hlz hroom
        simp only [Int.toNat_natCast] at hlz
        rw [hlz]
        have hpc : pieceZ (pre ++ l) (pre.length, i, true) = l.take i := by simp [pieceZ]
        have hil : (l.take i).length = i := by simp; omega
        have hm := run_mid (c := c) (l := lg) (z := z) (m := 0) (l.take i ++ [13]) [] s hs (by simpa using noPair_some hii (by omega))
        rw [List.nil_append] at hm
        have hme := mid_end hm
        have hrun1 : runZ s (l.take i ++ [13] ++ [10]) = (takeZ (runZ s (l.take i ++ [13])).1 10, i + 2) := by
          rw [run_app _ _ _ hm.over]
          have h2 := run_all _ _ hm.over
          rw [h2]
          simp only [runZ, List.length_append, hil, List.length_cons, List.length_nil]
          split <;> simp
        have hl2 : l = (l.take i ++ [13] ++ [10]) ++ l.drop (i + 2) := by
          conv => lhs; rw [hsp]
          simp
        unfold frL
        simp only [hpc, Bool.true_eq_false, if_false]
        by_cases h46 : l.take i = [46]
        · rw [if_pos h46]
          have ho := hme.1 h46
          have hi1 : i = 1 := by rw [h46] at hil; simpa using hil.symm
          have hrl : runZ s l = (takeZ (runZ s (l.take i ++ [13])).1 10, i + 2) := by
            conv => lhs; rw [hl2]
            rw [run_over _ _ _ (by rw [hrun1]; exact ho.1) hs.over, hrun1]
          refine ⟨fun kk e h => ?_, fun h => by simp at h⟩
          simp only [Option.some.injEq, Prod.mk.injEq] at h
          rw [hrl]
          refine ⟨ho.1, by rw [← h.1, hi1], ?_⟩
          rw [ho.2, ← h.2, h46]
          unfold faultB
          simp [hasB]
        · rw [if_neg h46]
          have hn := hme.2 h46
          rw [hil] at hn ⊢
          have hrl : runZ s l = ((runZ (takeZ (runZ s (l.take i ++ [13])).1 10) (l.drop (i + 2))).1, i + 2 + (runZ (takeZ (runZ s (l.take i ++ [13])).1 10) (l.drop (i + 2))).2) := by
            conv => lhs; rw [hl2]
            rw [run_app _ _ _ (by rw [hrun1]; exact hn.over), hrun1]
          have hlen : (pre ++ (l.take i ++ [13, 10])).length = pre.length + i + 2 := by simp; omega
          have ih := frame_any k (l.drop (i + 2)) (pre ++ (l.take i ++ [13, 10])) _ _ _ _ (by simp; omega) hn (by omega)
          have hall : pre ++ (l.take i ++ [13, 10]) ++ l.drop (i + 2) = pre ++ l := by
            conv => rhs; rw [hsp]
            simp
          rw [hlen, hall] at ih
          rw [show decide (0 < z + ((i - if (l.take i).head? = some 46 then 1 else 0 : Nat) : Int) + 2) = true from by simp; omega] at ih
          rw [hrl]
          refine ⟨fun kk e h => ?_, fun h => ih.2 h⟩
          have := ih.1 kk e h
          exact ⟨this.1, by simp only; omega, this.2.2⟩
      · have hlz := linesZ_last pre.length l hl hi
        rw [hlz]
        have hm := run_mid (c := c) (l := lg) (z := z) (m := 0) l [] s hs (by simpa using noPair_none hi)
        unfold frL
        simp only [if_true]
        exact ⟨fun kk e h => by simp at h, fun _ => hm.over⟩
end Go.Proofs.Ytlpbgfepneoajaa
