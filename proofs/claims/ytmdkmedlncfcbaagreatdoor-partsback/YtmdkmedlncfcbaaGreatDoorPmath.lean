/-
  What Parse does, line by line.
-/
import Derived.Test.YtmdkmedlncfcbaaGreatDoorIter
namespace Go.Proofs.YtmdkmedlncfcbaaGreatDoor
open Go.RowKit
set_option linter.unusedVariables false

def pieceZ (zs : List Int) (x : Nat × Nat × Bool) : List Int := (zs.drop x.1).take x.2.1
def blankH : List Int → Bool
  | [] => false
  | c :: _ => blankC c
/-- A line that goes on. -/
def stepR (zs : List Int) (s : HS) (x : Nat × Nat × Bool) : Option HS :=
  if x.2.2 = false then none else if x.2.1 = 0 then none else if 998 < x.2.1 then none
  else if blankH (pieceZ zs x) = true then (if s.nm.toList = [] then none else some (goOnZ s (pieceZ zs x)))
  else if shutB s = true ∧ beginB s (pieceZ zs x) = true then some (beginZ s x.1 (pieceZ zs x)) else none
/-- What is left where a line ends it. -/
def stopS (zs : List Int) (s : HS) (x : Nat × Nat × Bool) : HS :=
  if x.2.2 = false then s else if x.2.1 = 0 then shutZ s else if 998 < x.2.1 then s
  else if blankH (pieceZ zs x) = true then s else beginZ s x.1 (pieceZ zs x)
def stopN (x : Nat × Nat × Bool) : Int := if x.2.2 = true ∧ x.2.1 = 0 then (x.1 : Int) + 2 else 0
def stopF (zs : List Int) (s : HS) (x : Nat × Nat × Bool) : Int × Int :=
  if x.2.2 = false then ((x.1 : Int), 42) else if x.2.1 = 0 then (if shutB s = true then (0, 0) else (s.beg, 50)) else if 998 < x.2.1 then ((x.1 : Int), 40)
  else if blankH (pieceZ zs x) = true then ((x.1 : Int), 50) else if shutB s = true then ((x.1 : Int), 50) else (s.beg, 50)
def runL (zs : List Int) : HS → List (Nat × Nat × Bool) → Option HS
  | s, [] => some s
  | s, x :: r => (stepR zs s x).bind fun s' => runL zs s' r
def parseL (zs : List Int) : HS → List (Nat × Nat × Bool) → HS × Int × (Int × Int)
  | s, [] => (s, 0, (0, 0))
  | s, x :: r => match stepR zs s x with
    | some s' => parseL zs s' r
    | none => (stopS zs s x, stopN x, stopF zs s x)
def hs0 : HS := ⟨[], ⟨#[]⟩, [], 0⟩
/-- Parse. -/
def parseZ (zs : List Int) : HS × Int × (Int × Int) := parseL zs hs0 (linesF 0 zs)

theorem runL_snoc (zs : List Int) : ∀ (pre : List (Nat × Nat × Bool)) (s : HS) (x : Nat × Nat × Bool), runL zs s (pre ++ [x]) = (runL zs s pre).bind fun s' => stepR zs s' x
  | [], s, x => by simp [runL]
  | y :: pre, s, x => by
    simp only [List.cons_append, runL]
    cases h : stepR zs s y with
    | none => rfl
    | some s' => simp only [Option.bind_some]; exact runL_snoc zs pre s' x
theorem parse_go (zs : List Int) : ∀ (pre : List (Nat × Nat × Bool)) (s s' : HS) (t : List (Nat × Nat × Bool)), runL zs s pre = some s' → parseL zs s (pre ++ t) = parseL zs s' t
  | [], s, s', t, h => by simp [runL] at h; rw [h]; rfl
  | y :: pre, s, s', t, h => by
    simp only [runL] at h
    cases hy : stepR zs s y with
    | none => rw [hy] at h; simp at h
    | some s2 =>
      rw [hy] at h
      simp only [Option.bind_some] at h
      simp only [List.cons_append, parseL, hy]
      exact parse_go zs pre s2 s' t h
theorem parse_stop {zs : List Int} {L pre : List (Nat × Nat × Bool)} {x : Nat × Nat × Bool} {s0 s : HS} (hp : pre ++ [x] <+: L) (h : runL zs s0 pre = some s) (hx : stepR zs s x = none) : parseL zs s0 L = (stopS zs s x, stopN x, stopF zs s x) := by
  obtain ⟨t, rfl⟩ := hp
  rw [List.append_assoc, parse_go zs pre s0 s _ h]
  simp only [List.singleton_append, parseL, hx]
theorem runL_none (zs : List Int) : ∀ (k p : Nat) (l : List Int) (s : HS), l.length ≤ k → runL zs s (linesF p l) = none
  | 0, p, l, s, h => by
    obtain rfl : l = [] := List.eq_nil_of_length_eq_zero (by omega)
    rw [linesF_last p [] (by simp [pairI])]; simp [runL, stepR]
  | k + 1, p, l, s, h => by
    by_cases hi : 0 ≤ pairI l
    · rw [linesF_pair p l hi]
      have hr := pairI_room l hi
      simp only [runL]
      cases hs : stepR zs s (p, (pairI l).toNat, true) with
      | none => rfl
      | some s' => simp only [Option.bind_some]; exact runL_none zs k _ _ s' (by simp; omega)
    · rw [linesF_last p l hi]; simp [runL, stepR]
/-- What holds of a header behind k lines. -/
def OkS (k : Nat) (s : HS) : Prop := Byt s.val ∧ s.val.length ≤ 998 * k ∧ s.fs.length ≤ 128
theorem ok0 : OkS 0 hs0 := ⟨fun x hx => by simp [hs0] at hx, by simp [hs0], by simp [hs0]⟩
theorem shutZ_len {s : HS} (h : s.fs.length ≤ 128) : (shutZ s).fs.length ≤ 128 := by
  unfold shutZ
  split
  · exact h
  · split
    · rename_i h2; have := h2.2; simp; omega
    · exact h
theorem ok_step {zs : List Int} {k : Nat} {s s' : HS} {x : Nat × Nat × Bool} (hz : Byt zs) (h : OkS k s) (hx : stepR zs s x = some s') : OkS (k + 1) s' := by
  obtain ⟨h1, h2, h3⟩ := h
  have hb : Byt (pieceZ zs x) := (hz.drop _).take _
  unfold stepR at hx
  by_cases q1 : x.2.2 = false
  · rw [if_pos q1] at hx; simp at hx
  rw [if_neg q1] at hx
  by_cases q2 : x.2.1 = 0
  · rw [if_pos q2] at hx; simp at hx
  rw [if_neg q2] at hx
  by_cases q3 : 998 < x.2.1
  · rw [if_pos q3] at hx; simp at hx
  rw [if_neg q3] at hx
  have hl : (pieceZ zs x).length ≤ 998 := by simp [pieceZ]; omega
  by_cases q4 : blankH (pieceZ zs x) = true
  · rw [if_pos q4] at hx
    by_cases q5 : s.nm.toList = []
    · rw [if_pos q5] at hx; simp at hx
    · rw [if_neg q5, Option.some.injEq] at hx
      subst hx
      unfold goOnZ
      rw [if_neg q5]
      exact ⟨h1.append hb, by simp only [List.length_append]; omega, h3⟩
  · rw [if_neg q4] at hx
    by_cases q5 : shutB s = true ∧ beginB s (pieceZ zs x) = true
    · rw [if_pos q5, Option.some.injEq] at hx
      subst hx
      unfold beginZ
      rw [if_pos q5.1, if_pos q5.2]
      exact ⟨hb.drop _, by simp only [List.length_drop]; omega, shutZ_len h3⟩
    · rw [if_neg q5] at hx; simp at hx

/-- A block of cells. -/
def Blk (W : World) (B : Nat) (cs : Array Value) (t : TypeId) : Prop := W.heap[B]? = some (.cells cs t (0, 0))
theorem Blk.lt {W : World} {B : Nat} {cs : Array Value} {t : TypeId} (h : Blk W B cs t) : B < W.heap.size := (Array.getElem?_eq_some_iff.1 h).1
theorem Blk.kept {W W' : World} {row : Option Nat} {B : Nat} {cs : Array Value} {t : TypeId} (h : Blk W B cs t) (hg : W.grownBy W' row) (hne : some B ≠ row) : Blk W' B cs t := (hg.block B h.lt hne).trans h
theorem Blk.alloc {W : World} {B : Nat} {cs : Array Value} {t : TypeId} (h : Blk W B cs t) (o : Obj) : Blk (W.alloc o) B cs t := (Below.heap_alloc W o B h.lt).trans h
theorem Blk.new (W : World) (cs : Array Value) (t : TypeId) : Blk (W.alloc (.cells cs t)) W.heap.size cs t := World.alloc_heap_new W _
theorem Blk.other {W : World} {B : Nat} {cs : Array Value} {t : TypeId} (h : Blk W B cs t) {g i : Nat} (hne : B ≠ g) (u : Value) : Blk (W.setCell ⟨g, i, none⟩ u) B cs t := (heap_setCell_other W ⟨g, i, none⟩ B u hne).trans h
theorem Blk.below {W W' : World} {B : Nat} {cs : Array Value} {t : TypeId} (h : Blk W B cs t) {n : Nat} (hb : Below n W W') (hn : B < n) : Blk W' B cs t := (hb.block B hn).trans h
theorem Blk.cell {W : World} {B : Nat} {cs : Array Value} {t : TypeId} (h : Blk W B cs t) (i : Nat) : W.cell? ⟨B, i, none⟩ = cs[i]? := cell_of_row W _ _ _ _ _ h
theorem Blk.frozen {W : World} {B : Nat} {cs : Array Value} {t : TypeId} (h : Blk W B cs t) (i : Nat) : W.frozen? ⟨B, i, none⟩ = false := frozen_of_row W _ _ _ _ h
theorem blk_own {β : Type} (B : Nat) (t : TypeId) (f : β → Array Value) : Go.Own (fun s W => Blk W B (f s) t) := fun s X Y row hs hg hrow =>
  hs.kept hg (fun e' => by obtain ⟨o, ho, hc⟩ := hrow B e'.symm; rw [show X.heap[B]? = _ from hs] at ho; cases ho; cases hc)
theorem scope_wide {n : Nat} {P : Program} {Q : Exit → Act → World → Prop} {a : Act} {w : World} {c : Code} (h : c.wpIn Fence.wide n P (Exit.noGoto Q) a w) : (Code.scope c).wpIn Fence.wide n P Q a w :=
  wpIn_wide.2 (wp_scope_straight (wpIn_wide.1 h))
theorem ownsRow_kept {X Y : World} {B e size : Nat} {v : Value} {n : Nat} {xs : List Value} {row : Option Nat} (h : X.ownsRow B e size v n xs) (hg : X.grownBy Y row) (hrow : ∀ r, row = some r → ∃ o : Obj, X.heap[r]? = some o ∧ o.isCells = false) : Y.ownsRow B e size v n xs := by
  refine ⟨h.1, ?_⟩
  rcases h.2 with h | ⟨b, cap, cur, h1, h2, h3, h4⟩
  · exact .inl h
  · refine .inr ⟨b, cap, cur, h1, h2, ?_, h4⟩
    rw [hg.block b (Array.getElem?_eq_some_iff.1 h3).1 (fun e => by obtain ⟨o, ho, hc⟩ := hrow b e.symm; rw [h3] at ho; cases ho; cases hc)]
    exact h3
/-- A header is kept where no cells change. -/
theorem hd_own {X Y : World} {B g : Nat} {s : HS} {row : Option Nat} (h : Hd X B g s) (hg : X.grownBy Y row) (hrow : ∀ r, row = some r → ∃ o : Obj, X.heap[r]? = some o ∧ o.isCells = false) : Hd Y B g s := by
  obtain ⟨h1, h2, vf, v, h3, h4, h5⟩ := h
  refine ⟨h1, Nat.le_trans h2 hg.size, vf, v, ?_, ownsRow_kept h4 hg hrow, ownsRow_kept h5 hg hrow⟩
  rw [hg.block g (Array.getElem?_eq_some_iff.1 h3).1 (fun e => by obtain ⟨o, ho, hc⟩ := hrow g e.symm; rw [h3] at ho; cases ho; cases hc)]
  exact h3
theorem Tk.keeps {W W' : World} (h : Tk W W') (hs : W.heap.size ≤ W'.heap.size) : KeepsOthers W W' :=
  ⟨hs, fun k o hk ho => h k o hk (fun cs q => ⟨(fun e => by subst e; cases ho), (fun e => by subst e; cases ho), (fun e => by subst e; cases ho)⟩)⟩
end Go.Proofs.YtmdkmedlncfcbaaGreatDoor
