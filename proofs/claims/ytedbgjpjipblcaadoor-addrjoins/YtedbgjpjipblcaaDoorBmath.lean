/-
  What is written is read as it was.
-/
import Derived.Test.YtedbgjpjipblcaaDoorNmath
namespace Go.Proofs.YtedbgjpjipblcaaDoor
set_option linter.unusedVariables false

theorem atoms_ends {c : Int} {l : List Int} (hc : atomC c = false) (h : atomsZ c l = true) : ∃ a m, l = a :: m ∧ a ≠ c := by
  cases l with
  | nil => revert h; unfold atomsZ; simp [pieces, atomZ]
  | cons a m =>
    refine ⟨a, m, rfl, fun e => ?_⟩
    unfold atomsZ at h
    rw [pieces, if_pos e] at h
    simp [atomZ] at h
theorem pieces_snoc (c : Int) : ∀ l : List Int, ∃ ps, pieces c (l ++ [c]) = ps ++ [[]]
  | [] => ⟨[[]], by simp [pieces]⟩
  | d :: r => by
    obtain ⟨ps, ih⟩ := pieces_snoc c r
    rw [List.cons_append, pieces]
    split
    · exact ⟨[] :: ps, by rw [ih]; rfl⟩
    · rw [ih]
      cases ps with
      | nil =>
        exfalso
        have : (pieces c (r ++ [c])).length = 1 := by rw [ih]; rfl
        have h2 : ∀ x : List Int, 2 ≤ (pieces c (x ++ [c])).length := by
          intro x
          induction x with
          | nil => simp [pieces]
          | cons e x ihx =>
            rw [List.cons_append, pieces]
            split
            · simp; omega
            · simp; omega
        have := h2 r
        omega
      | cons p ps => exact ⟨(d :: p) :: ps, rfl⟩
theorem atoms_last {c : Int} {l : List Int} (h : atomsZ c l = true) : ∃ m a, l = m ++ [a] ∧ a ≠ c := by
  have hne : l ≠ [] := by rintro rfl; revert h; unfold atomsZ; simp [pieces, atomZ]
  obtain ⟨m, a, rfl⟩ : ∃ m a, l = m ++ [a] := ⟨_, _, (List.dropLast_concat_getLast hne).symm⟩
  refine ⟨m, a, rfl, fun e => ?_⟩
  subst e
  obtain ⟨ps, hp⟩ := pieces_snoc a m
  unfold atomsZ at h
  rw [hp] at h
  simp [atomZ] at h
theorem pieces_last {a c : Int} (h : a ≠ c) : ∀ m : List Int, ∃ ps q, pieces c (m ++ [a]) = ps ++ [q ++ [a]]
  | [] => ⟨[], [], by rw [List.nil_append, pieces, if_neg h]; rfl⟩
  | d :: r => by
    obtain ⟨ps, q, ih⟩ := pieces_last h r
    rw [List.cons_append, pieces]
    split
    · exact ⟨[] :: ps, q, by rw [ih]; rfl⟩
    · rw [ih]
      cases ps with
      | nil => exact ⟨[], d :: q, rfl⟩
      | cons p ps => exact ⟨(d :: p) :: ps, q, rfl⟩
theorem label_nil : labelZ [] = false := by decide
theorem label_last {d : List Int} (h : (pieces 46 d).all labelZ = true) : ∃ m a, d = m ++ [a] ∧ edgeC a = true := by
  have hne : d ≠ [] := by
    rintro rfl
    rw [show pieces 46 [] = [[]] from rfl] at h
    simp [label_nil] at h
  obtain ⟨m, a, rfl⟩ : ∃ m a, d = m ++ [a] := ⟨_, _, (List.dropLast_concat_getLast hne).symm⟩
  refine ⟨m, a, rfl, ?_⟩
  by_cases ha : a = 46
  · subst ha
    obtain ⟨ps, hp⟩ := pieces_snoc 46 m
    rw [hp] at h
    simp [label_nil] at h
  · obtain ⟨ps, q, hp⟩ := pieces_last ha m
    rw [hp] at h
    simp only [List.all_append, List.all_cons, List.all_nil, Bool.and_true, Bool.and_eq_true] at h
    have := h.2
    unfold labelZ at this
    simp only [Bool.and_eq_true] at this
    have h2 := this.2
    rw [show (q ++ [a]).length - 1 = q.length by simp] at h2
    simpa using h2
/-- Blanks around. -/
def Blk (p : List Int) : Prop := ∀ x ∈ p, x = 32
theorem ltrim_pad : ∀ {p : List Int}, Blk p → ∀ r, ltrim (p ++ r) = ltrim r
  | [], _, r => rfl
  | c :: p, h, r => by
    obtain rfl := h c (by simp)
    rw [List.cons_append, ltrim_32]
    exact ltrim_pad (fun x hx => h x (by simp [hx])) r
theorem rtrim_rev (l : List Int) : rtrim l = (ltrim l.reverse).reverse := rfl
theorem rtrim_pad {p : List Int} (h : Blk p) (r : List Int) : rtrim (r ++ p) = rtrim r := by
  rw [rtrim_rev, rtrim_rev, List.reverse_append, ltrim_pad (fun x hx => h x (by simpa using hx))]
theorem trim_pad {p x m : List Int} {a b : Int} {k : List Int} (hp : Blk p) (h1 : x = a :: m) (ha : a ≠ 32) (h2 : x = k ++ [b]) (hb : b ≠ 32) : ltrim (rtrim (p ++ x ++ p)) = x := by
  have e : p ++ x = (p ++ k) ++ [b] := by rw [h2]; simp
  rw [rtrim_pad hp, e, rtrim_snoc hb, ← e, ltrim_pad hp, h1, ltrim_cons ha]
theorem edge_ne {a : Int} (h : edgeC a = true) : 48 ≤ a ∧ a ≠ 62 ∧ a ≠ 60 ∧ a ≠ 64 := by
  unfold edgeC at h; simp at h; omega
theorem atom_ne {a : Int} (h : atomC a = true) : a ≠ 32 ∧ a ≠ 34 ∧ a ≠ 60 ∧ a ≠ 62 ∧ a ≠ 64 ∧ a ≠ 44 ∧ a ≠ 92 ∧ a ≠ 46 := by
  refine ⟨?_, ?_, ?_, ?_, ?_, ?_, ?_, ?_⟩ <;> (rintro rfl; revert h; decide)
theorem end_esc : ∀ (n r : List Int), endZ (escL n ++ 34 :: r) = (escL n).length
  | [], r => by rw [escL, List.nil_append, end_34]; rfl
  | c :: n, r => by
    have ih := end_esc n r
    rw [escL]
    split
    · rw [List.cons_append, List.cons_append, end_92, List.tail_cons, ih]
      unfold up; rw [if_neg (by omega)]; simp; omega
    · rename_i h
      rw [List.cons_append, end_oth (fun q => h (.inl q)) (fun q => h (.inr q)), ih]
      unfold up; rw [if_neg (by omega)]; simp
theorem unq_esc : ∀ n : List Int, unqR (escL n) = some n
  | [] => rfl
  | c :: n => by
    have ih := unq_esc n
    rw [escL]
    split
    · rename_i h; rw [unq_92, if_pos h, ih]; rfl
    · rename_i h; rw [unq_oth (fun q => h (.inr q)), ih]; rfl
theorem right_nil {n l d : List Int} (h : rightZ n l d = true) : rightZ [] l d = true := by
  simp only [rightZ, Bool.and_eq_true] at h ⊢
  exact ⟨h.1, name_nil⟩
theorem bare_plain {n l d : List Int} (h : rightZ n l d = true) : plainR (bareL l d) = some (l, d) := by
  unfold bareL
  rw [plainR_at (at_not h), if_pos (right_nil h)]
theorem bareR_some {n l d : List Int} (h : rightZ n l d = true) : bareR n (60 :: bareL l d) = some (n, l, d) := by
  show (match plainR (bareL l d) with | some x => if rightZ n x.1 x.2 = true then some (n, x.1, x.2) else none | none => none) = _
  rw [bare_plain h]
  simp only [h, if_true]
theorem bare_ends {n l d : List Int} (h : rightZ n l d = true) : (∃ a m, bareL l d = a :: m ∧ atomC a = true) ∧ ∃ k b, bareL l d = k ++ [b] ∧ edgeC b = true := by
  obtain ⟨⟨_, hl⟩, ⟨_, hd⟩, _⟩ := right_parts h
  constructor
  · obtain ⟨a, m, rfl, ha⟩ := atoms_ends (c := 46) (by decide) hl
    rcases atoms_mem hl (x := a) (by simp) with q | q
    · exact absurd q ha
    · exact ⟨a, m ++ 64 :: d, rfl, q⟩
  · obtain ⟨m, b, rfl, hb⟩ := label_last hd
    exact ⟨l ++ 64 :: m, b, by unfold bareL; simp, hb⟩
/-- A name with what stands behind it is taken off. -/
theorem head_name {n : List Int} (h0 : n ≠ []) (r : List Int) : nameR (headL n ++ 32 :: 60 :: r) = some (n, if atomsZ 32 n = true then 60 :: r else 32 :: 60 :: r) := by
  unfold headL
  by_cases hat : atomsZ 32 n = true
  · rw [if_pos hat, if_pos hat]
    obtain ⟨a, m, hn, ha⟩ := atoms_ends (c := 32) (by decide) hat
    obtain ⟨k, b, hk, hb⟩ := atoms_last hat
    have haC : atomC a = true := by
      rcases atoms_mem hat (x := a) (by rw [hn]; simp) with q | q
      · exact absurd q ha
      · exact q
    have hno : ∀ x, n ++ 32 :: 60 :: r ≠ 34 :: x := by
      intro x hx
      rw [hn, List.cons_append, List.cons.injEq] at hx
      exact (atom_ne haC).2.1 hx.1
    have h60 : (60 : Int) ∉ n ++ [32] := by
      intro hx
      rcases List.mem_append.1 hx with q | q
      · rcases atoms_mem hat q with e | e
        · omega
        · exact (atom_ne e).2.2.1 rfl
      · simp at q
    have e : n ++ 32 :: 60 :: r = (n ++ [32]) ++ 60 :: r := by simp
    rw [nameR_oth hno, e, idx_app r h60, if_neg (by omega), Int.toNat_natCast, List.take_left, List.drop_left, rtrim_32]
    have hr : rtrim n = n := by rw [hk, rtrim_snoc hb]
    rw [hr, if_pos hat]
  · rw [if_neg hat, if_neg hat]
    have e : 34 :: (escL n ++ [34]) ++ 32 :: 60 :: r = 34 :: (escL n ++ 34 :: 32 :: 60 :: r) := by simp
    rw [e, nameR_34, end_esc, if_neg (by omega), Int.toNat_natCast, List.take_left, unq_esc]
    simp only [Option.map_some]
    rw [show escL n ++ 34 :: 32 :: 60 :: r = (escL n ++ [34]) ++ 32 :: 60 :: r by simp, show (escL n).length + 1 = (escL n ++ [34]).length by simp, List.drop_left]
theorem head_first {n : List Int} (h0 : n ≠ []) : ∃ a m, headL n = a :: m ∧ a ≠ 32 := by
  unfold headL
  by_cases hat : atomsZ 32 n = true
  · rw [if_pos hat]
    obtain ⟨a, m, hn, ha⟩ := atoms_ends (c := 32) (by decide) hat
    exact ⟨a, m, hn, ha⟩
  · rw [if_neg hat]
    exact ⟨34, _, rfl, by decide⟩
theorem write_ends {n l d : List Int} (h : rightZ n l d = true) : (∃ a m, writeL n l d = a :: m ∧ a ≠ 32) ∧ ∃ k b, writeL n l d = k ++ [b] ∧ b ≠ 32 := by
  unfold writeL
  obtain ⟨⟨a, m, e1, ha⟩, k, b, e2, hb⟩ := bare_ends h
  by_cases h0 : n = []
  · rw [if_pos h0]
    exact ⟨⟨a, m, e1, (atom_ne ha).1⟩, k, b, e2, by have := edge_ne hb; omega⟩
  · rw [if_neg h0]
    obtain ⟨a2, m2, e3, ha2⟩ := head_first h0
    exact ⟨⟨a2, m2 ++ [32, 60] ++ bareL l d ++ [62], by rw [e3]; simp, ha2⟩, _, 62, rfl, by decide⟩
theorem read_write {n l d : List Int} (h : rightZ n l d = true) : readT (writeL n l d) = some (n, l, d) := by
  unfold writeL
  by_cases h0 : n = []
  · subst h0
    rw [if_pos rfl]
    obtain ⟨_, k, b, e2, hb⟩ := bare_ends h
    have hno : ∀ r, bareL l d ≠ r ++ [62] := by
      intro r hr
      rw [e2] at hr
      have := congrArg List.getLast? hr
      simp at this
      exact (edge_ne hb).2.1 this
    rw [readT_no hno, bare_plain h]; rfl
  · rw [if_neg h0, readT_62, pointR]
    rw [show headL n ++ [32, 60] ++ bareL l d = headL n ++ 32 :: 60 :: bareL l d by simp, head_name h0]
    simp only
    split
    · rw [ltrim_cons (by decide), bareR_some h]
    · rw [ltrim_32, ltrim_cons (by decide), bareR_some h]
theorem read_back {p n l d : List Int} (hp : Blk p) (h : rightZ n l d = true) : readR (p ++ writeL n l d ++ p) = some (n, l, d) := by
  obtain ⟨⟨a, m, e1, ha⟩, k, b, e2, hb⟩ := write_ends h
  unfold readR
  rw [trim_pad hp e1 ha e2 hb, read_write h]
/-- With a name it is no plain address. -/
theorem write_plain {n l d : List Int} (h : rightZ n l d = true) (h0 : n ≠ []) : plainR (writeL n l d) = none := by
  apply plainR_no
  intro l' d' he
  cases hq : rightZ [] l' d' with
  | false => rfl
  | true =>
    exfalso
    have hat' := (right_parts hq).1.2
    unfold writeL headL at he
    rw [if_neg h0] at he
    by_cases hat : atomsZ 32 n = true
    · rw [if_pos hat] at he
      have h64 : (64 : Int) ∉ n ++ [32, 60] := by
        intro hx
        rcases List.mem_append.1 hx with q | q
        · rcases atoms_mem hat q with e | e
          · omega
          · exact (atom_ne e).2.2.2.2.1 rfl
        · simp at q
      have hl : (32 : Int) ∈ l' := by
        have e2 : n ++ [32, 60] ++ bareL l d ++ [62] = (n ++ [32, 60] ++ l) ++ 64 :: (d ++ [62]) := by unfold bareL; simp
        have h64l : (64 : Int) ∉ n ++ [32, 60] ++ l := by
          intro hx
          rcases List.mem_append.1 hx with q | q
          · exact h64 q
          · exact at_not h q
        rw [e2] at he
        obtain ⟨e3, _⟩ := first_one h64l (at_not hq) he
        rw [← e3]; simp
      rcases atoms_mem hat' hl with e | e
      · omega
      · exact (atom_ne e).1 rfl
    · rw [if_neg hat] at he
      obtain ⟨a, m, e1, ha⟩ := atoms_ends (c := 46) (by decide) hat'
      rw [e1] at he
      simp only [List.cons_append, List.cons.injEq] at he
      rcases atoms_mem hat' (x := a) (by rw [e1]; simp) with e | e
      · exact ha e
      · exact (atom_ne e).2.1 he.1.symm
theorem write_nil {l d : List Int} (h : rightZ [] l d = true) : plainR (writeL [] l d) = some (l, d) := by
  unfold writeL; rw [if_pos rfl, bare_plain h]
theorem write_len {n l d : List Int} (h : rightZ n l d = true) : (writeL n l d).length ≤ 2000 := by
  obtain ⟨⟨h1, _⟩, ⟨h2, _⟩, _, h3⟩ := right_parts h
  have := escL_len n
  unfold writeL headL bareL
  split
  · simp; omega
  · split <;> (simp; omega)
end Go.Proofs.YtedbgjpjipblcaaDoor
