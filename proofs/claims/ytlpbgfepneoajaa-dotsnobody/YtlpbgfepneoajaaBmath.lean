/-
  What a reader makes of a text's frame.
-/
import Derived.Test.YtlpbgfepneoajaaAmath
import Derived.Test.YtlpbgfepneoajaaText
namespace Go.Proofs.Ytlpbgfepneoajaa
open Go.RowKit
set_option linter.unusedVariables false

theorem run_app : ∀ (l : List Int) (s : RS) (m : List Int), (runZ s l).1.over = false → runZ s (l ++ m) = ((runZ (runZ s l).1 m).1, (runZ s l).2 + (runZ (runZ s l).1 m).2)
  | [], s, m, _ => by simp [runZ]
  | c :: l, s, m, h => by
    unfold runZ at h
    have ht : ¬ (takeZ s c).over = true := by
      intro q; rw [if_pos q] at h; simp only at h; rw [q] at h; cases h
    rw [if_neg ht] at h
    have ih := run_app l (takeZ s c) m h
    simp only [List.cons_append, runZ, if_neg ht]
    rw [ih]
    simp only [Prod.mk.injEq, true_and]
    omega
theorem run_over : ∀ (l : List Int) (s : RS) (m : List Int), (runZ s l).1.over = true → s.over = false → runZ s (l ++ m) = runZ s l
  | [], s, m, h, h0 => by simp [runZ] at h; rw [h0] at h; cases h
  | c :: l, s, m, h, h0 => by
    unfold runZ at h
    by_cases ht : (takeZ s c).over = true
    · simp only [List.cons_append, runZ, if_pos ht]
    · rw [if_neg ht] at h
      simp only [List.cons_append, runZ, if_neg ht]
      rw [run_over l (takeZ s c) m h (by simpa using ht)]

/-- A reader within a line. -/
def ad (m : Int) (z : Int) (K : List Int) (c : Int) (p : Bool) : RS := { most := m, kept := K, size := z, came := c, pointed := p, half := false, bare := false, wide := false, over := false }
theorem fault_ad {m z : Int} {K : List Int} {c : Int} {p : Bool} (h : z ≤ m) : faultZ (ad m z K c p) = 0 := by
  rw [fault_or]; exact ⟨rfl, rfl, by show ¬ m < z; omega⟩
theorem take_ad {m z : Int} {K : List Int} {c : Int} {p : Bool} {x : Int} (hx : x ≠ 13) (hy : x ≠ 10) (h : ¬ (c = 0 ∧ x = 46)) (hc : c + 1 ≤ 999) (hz : z ≤ m) : takeZ (ad m z K c p) x = ad m z (K ++ [x]) (c + 1) p := by
  have h1 : takeZ (ad m z K c p) x = addZ (ad m z K c p) x := by simp [takeZ, ad, hx, hy]
  rw [h1]
  have hf := fault_ad (K := K) (c := c) (p := p) hz
  unfold addZ
  rw [if_neg (show ¬ ((ad m z K c p).came = 0 ∧ x = 46) from h)]
  have hk : keepZ (ad m z K c p) [x] = ad m z (K ++ [x]) c p := by unfold keepZ; rw [if_pos hf]; rfl
  rw [hk, if_neg (show ¬ 999 < (ad m z (K ++ [x]) c p).came + 1 from by show ¬ 999 < c + 1; omega)]
  rfl
theorem take_dot {m z : Int} {K : List Int} : takeZ (ad m z K 0 false) 46 = ad m z K 1 true := by
  have h1 : takeZ (ad m z K 0 false) 46 = addZ (ad m z K 0 false) 46 := by simp [takeZ, ad]
  rw [h1]; simp [addZ, ad]
theorem run_plain {m z : Int} {p : Bool} (hz : z ≤ m) : ∀ (l K : List Int) (c : Int), noB l → 0 ≤ c → (c = 0 → l.head? ≠ some 46) → c + l.length ≤ 999 → (runZ (ad m z K c p) l).1 = ad m z (K ++ l) (c + l.length) p
  | [], K, c, _, _, _, _ => by simp [runZ]
  | x :: l, K, c, hb, h0, hh, hl => by
    have hx := hb x (by simp)
    simp only [List.length_cons] at hl
    have ht := take_ad (m := m) (z := z) (K := K) (c := c) (p := p) hx.1 hx.2 (by rintro ⟨e1, e2⟩; exact hh e1 (by simp [e2])) (by omega) hz
    have ih := run_plain (p := p) hz l (K ++ [x]) (c + 1) (fun y hy => hb y (by simp [hy])) (by omega) (by omega) (by omega)
    unfold runZ
    rw [ht, if_neg (by simp [ad])]
    simp only []
    rw [ih]
    simp only [List.append_assoc, List.singleton_append, List.length_cons]
    congr 1
    omega
theorem run_pair {m z : Int} {K : List Int} {c : Int} {p : Bool} (hn : ¬ (p = true ∧ c = 1)) (hw : c ≤ 998 + b2i p) (hz : z + (c - b2i p) + 2 ≤ m) :
    (runZ (ad m z K c p) [13, 10]).1 = ad m (z + (c - b2i p) + 2) (K ++ [13, 10]) 0 false := by
  have h1 : takeZ (ad m z K c p) 13 = { ad m z K c p with half := true } := by simp [takeZ, ad]
  have ho : ownZ (ad m z K c p) = c - b2i p := by unfold ownZ b2i; show (if p = true then c - 1 else c) = _; split <;> omega
  have h2 : takeZ { ad m z K c p with half := true } 10 = endZ (ad m z K c p) := by simp [takeZ, ad]
  have h3 : endZ (ad m z K c p) = ad m (z + (c - b2i p) + 2) (K ++ [13, 10]) 0 false := by
    unfold endZ
    rw [ho, if_neg (by rintro ⟨e1, e2⟩; have e1' : p = true := e1; subst e1'; simp [b2i] at e2; exact hn ⟨rfl, by omega⟩)]
    have hd : ((ad m z K c p).wide || decide (998 < c - b2i p)) = false := by
      show (false || decide (998 < c - b2i p)) = false
      simp; omega
    rw [hd]
    have hk : keepZ { ad m z K c p with wide := false, size := (ad m z K c p).size + (c - b2i p + 2) } [13, 10] = ad m (z + (c - b2i p) + 2) (K ++ [13, 10]) c p := by
      have e : ({ ad m z K c p with wide := false, size := (ad m z K c p).size + (c - b2i p + 2) } : RS) = ad m (z + (c - b2i p) + 2) K c p := by
        simp [ad]; omega
      rw [e]
      unfold keepZ
      rw [if_pos (fault_ad hz)]; rfl
    rw [hk]; rfl
  unfold runZ
  rw [h1, if_neg (by simp [ad])]
  simp only []
  unfold runZ
  rw [h2, h3, if_neg (by simp [ad])]
  simp [runZ]
theorem run_line {m z : Int} {K pc : List Int} (hb : noB pc) (hl : pc.length ≤ 998) (hz : z + pc.length + 2 ≤ m) (hz0 : 0 ≤ z) :
    (runZ (ad m z K 0 false) (px pc ++ [13, 10])).1 = ad m (z + pc.length + 2) (K ++ pc ++ [13, 10]) 0 false := by
  unfold px
  by_cases hd : pc.head? = some 46
  · rw [if_pos hd]
    have hne : 0 < pc.length := by cases pc with | nil => simp at hd | cons _ _ => simp
    have h1 := run_plain (m := m) (z := z) (p := true) (by omega) pc K 1 hb (by omega) (by omega) (by omega)
    have h2 : (runZ (ad m z K 0 false) ([46] ++ pc)).1 = ad m z (K ++ pc) (1 + pc.length) true := by
      rw [List.singleton_append]
      unfold runZ
      rw [take_dot, if_neg (by simp [ad])]
      exact h1
    rw [run_app ([46] ++ pc) _ [13, 10] (by rw [h2]; rfl), h2]
    simp only []
    rw [run_pair (by rintro ⟨_, e⟩; omega) (by simp [b2i]; omega) (by simp [b2i]; omega)]
    congr 1
    simp [b2i]; omega
  · rw [if_neg hd, List.nil_append]
    have h1 := run_plain (m := m) (z := z) (p := false) (by omega) pc K 0 hb (by omega) (fun _ => hd) (by omega)
    rw [run_app pc _ [13, 10] (by rw [h1]; rfl), h1]
    simp only []
    rw [run_pair (by simp) (by simp [b2i]; omega) (by simp [b2i]; omega)]
    congr 1
    simp [b2i]
theorem run_lines (zs : List Int) {m : Int} : ∀ (ls : List (Nat × Nat × Bool)) (K : List Int), (∀ x ∈ ls, noB (pieceZ zs x) ∧ (pieceZ zs x).length ≤ 998) → ((K ++ ls.flatMap (fun x => pieceZ zs x ++ [13, 10])).length : Int) ≤ m →
    (runZ (ad m K.length K 0 false) (flatZ zs ls)).1 = ad m (K ++ ls.flatMap (fun x => pieceZ zs x ++ [13, 10])).length (K ++ ls.flatMap (fun x => pieceZ zs x ++ [13, 10])) 0 false
  | [], K, _, _ => by simp [flatZ, runZ]
  | x :: ls, K, hx, hm => by
    have h0 := hx x (by simp)
    rw [List.flatMap_cons] at hm
    simp only [List.length_append, List.length_cons, List.length_nil] at hm
    have h1 := run_line (m := m) (z := K.length) (K := K) h0.1 h0.2 (by omega) (by omega)
    have h3 : flatZ zs (x :: ls) = (px (pieceZ zs x) ++ [13, 10]) ++ flatZ zs ls := by simp [flatZ, lineF_px]
    have ih := run_lines zs (m := m) ls (K ++ pieceZ zs x ++ [13, 10]) (fun y hy => hx y (by simp [hy])) (by simp only [List.length_append, List.length_cons, List.length_nil]; omega)
    rw [h3, run_app _ _ _ (by rw [h1]; rfl), h1]
    simp only []
    have e : (K.length : Int) + (pieceZ zs x).length + 2 = ((K ++ pieceZ zs x ++ [13, 10]).length : Int) := by simp; omega
    rw [e, ih]
    simp [List.flatMap_cons]
/-- A text's frame is read as it was. -/
theorem frame_run {zs : List Int} {m : Int} (h : (rightZ zs).2 = 0) (hm : (zs.length : Int) ≤ m) :
    runZ (ad m 0 [] 0 false) (frameZ zs) = ({ ad m zs.length zs 1 true with over := true }, (frameZ zs).length) := by
  have hf := fun x hx => fault_none (right_zero h x hx)
  have htx := text_flat zs.length zs [] (Nat.le_refl _) (fun x hx => (hf x hx).2.2)
  simp only [List.length_nil, List.nil_append] at htx
  have h1 := run_lines zs (m := m) (linesZ 0 zs) [] (fun x hx => ⟨(hf x hx).1, by
    have := (hf x hx).2.1
    simp only [pieceZ, List.length_take]; omega⟩) (by rw [List.nil_append, htx]; exact hm)
  rw [List.nil_append, htx] at h1
  have h2 : runZ (ad m zs.length zs 0 false) [46, 13, 10] = ({ ad m zs.length zs 1 true with over := true }, 3) := by
    have t1 := take_dot (m := m) (z := zs.length) (K := zs)
    have t2 : takeZ (ad m zs.length zs 1 true) 13 = { ad m zs.length zs 1 true with half := true } := by simp [takeZ, ad]
    have t3 : takeZ { ad m zs.length zs 1 true with half := true } 10 = { ad m zs.length zs 1 true with over := true } := by simp [takeZ, ad, endZ, ownZ]
    unfold runZ
    rw [t1, if_neg (by simp [ad])]
    unfold runZ
    rw [t2, if_neg (by simp [ad])]
    unfold runZ
    rw [t3, if_pos rfl]
  have h3 : (runZ (ad m 0 [] 0 false) (flatZ zs (linesZ 0 zs))).1.over = false := by
    have e : ad m 0 [] 0 false = ad m (([] : List Int).length : Nat) [] 0 false := rfl
    rw [e, h1]; rfl
  have h4 := run_all _ _ h3
  unfold frameZ
  rw [run_app _ _ _ h3, h4]
  have e : ad m 0 [] 0 false = ad m (([] : List Int).length : Nat) [] 0 false := rfl
  rw [e, h1, h2]
  simp
end Go.Proofs.Ytlpbgfepneoajaa
