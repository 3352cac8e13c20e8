/-
  The document's Read.
-/
import Derived.Test.YtjcjhcpaojhcfaaDoorRf
namespace Go.Proofs.YtjcjhcpaojhcfaaDoor
open Go.RowKit
set_option linter.unusedVariables false

theorem pairI_spec : ∀ l : List Int, 0 ≤ pairI l → l.drop (pairI l).toNat = 13 :: 10 :: l.drop ((pairI l).toNat + 2)
  | [], h => by simp [pairI] at h
  | c :: l, h => by
    have hg := pairI_ge l
    rw [pairI_cons] at h ⊢
    by_cases h1 : c = 13 ∧ l.head? = some 10
    · rw [if_pos h1]
      obtain ⟨rfl, h2⟩ := h1
      cases l with
      | nil => simp at h2
      | cons d l => simp at h2; subst h2; simp
    · rw [if_neg h1] at h ⊢
      by_cases h2 : pairI l = -1
      · rw [if_pos h2] at h; omega
      · rw [if_neg h2]
        have ih := pairI_spec l (by omega)
        have e : (pairI l + 1).toNat = (pairI l).toNat + 1 := by omega
        rw [e]
        simpa using ih
theorem pairI_none : ∀ (t x : List Int), 0 ≤ pairI (t ++ 13 :: 10 :: x)
  | [], x => by simp [pairI]
  | c :: t, x => by
    have ih := pairI_none t x
    rw [List.cons_append, pairI_cons]
    split
    · omega
    · split <;> omega
/-- The lines, out of the pieces. -/
def conv : Nat → List (List Int) → List (Nat × Nat × Bool)
  | _, [] => []
  | p, q :: r => if q = [] then [] else (p, (if endsZ q = true then q.length - 2 else q.length), endsZ q) :: conv (p + q.length) r
theorem lines_split : ∀ (n : Nat) (U : List Int) (p : Nat), U.length ≤ n → linesZ p U = conv p (splitP n U)
  | 0, U, p, h => by
    have : U = [] := List.eq_nil_of_length_eq_zero (by omega)
    subst this
    rw [linesZ_nil]; rfl
  | n + 1, U, p, h => by
    rw [splitP]
    by_cases hp : 0 ≤ pairI U
    · have hroom := pairI_room U hp
      have hsp := pairI_spec U hp
      rw [if_pos hp, linesZ_pair p U hp, conv]
      have hlen : (U.take ((pairI U).toNat + 2)).length = (pairI U).toNat + 2 := by rw [List.length_take]; omega
      have hne : U.take ((pairI U).toNat + 2) ≠ [] := by intro e; rw [e] at hlen; simp at hlen
      have hends : endsZ (U.take ((pairI U).toNat + 2)) = true := by
        unfold endsZ
        rw [decide_eq_true_eq, hlen]
        refine ⟨by omega, ?_⟩
        rw [show (pairI U).toNat + 2 - 2 = (pairI U).toNat by omega, List.drop_take, hsp, show (pairI U).toNat + 2 - (pairI U).toNat = 2 by omega]
        rfl
      rw [if_neg hne, hends, if_pos rfl, hlen, lines_split n _ _ (by rw [List.length_drop]; omega)]
      congr 1
    · rw [if_neg hp]
      by_cases hne : U = []
      · subst hne; rw [linesZ_nil]; rfl
      · rw [linesZ_last p U hne hp, conv, if_neg hne]
        have hends : endsZ U = false := by
          cases he : endsZ U with
          | false => rfl
          | true =>
            exfalso
            unfold endsZ at he
            rw [decide_eq_true_eq] at he
            have := List.take_append_drop (U.length - 2) U
            rw [he.2] at this
            exact hp (by rw [← this]; exact pairI_none _ [])
        rw [hends, if_neg (by simp)]
        rfl
theorem conv_len : ∀ (S : List (List Int)) (p a : Nat), (conv p S).length = (linesV a S).length
  | [], p, a => rfl
  | q :: r, p, a => by
    rw [conv, linesV]
    split
    · rfl
    · rw [List.length_cons, List.length_cons, conv_len r _ (a + q.length)]
theorem conv_at : ∀ (S : List (List Int)) (p k : Nat) (x : Nat × Nat × Bool), (conv p S)[k]? = some x → ∃ q, S[k]? = some q ∧ q ≠ [] ∧ x = (p + (S.take k).flatten.length, (if endsZ q = true then q.length - 2 else q.length), endsZ q)
  | [], p, k, x, h => by simp [conv] at h
  | q :: r, p, k, x, h => by
    rw [conv] at h
    split at h
    · simp at h
    · rename_i hne
      cases k with
      | zero =>
        simp only [List.getElem?_cons_zero, Option.some.injEq] at h
        exact ⟨q, rfl, hne, by rw [← h]; simp⟩
      | succ k =>
        simp only [List.getElem?_cons_succ] at h
        obtain ⟨q', h1, h2, h3⟩ := conv_at r _ k x h
        refine ⟨q', by simpa using h1, h2, ?_⟩
        rw [h3]
        simp only [List.take_succ_cons, List.flatten_cons, List.length_append, Prod.mk.injEq, and_true]
        omega
theorem split_count : ∀ (n : Nat) (l : List Int), (splitP n l).length ≤ n + 1
  | 0, l => by simp [splitP]
  | n + 1, l => by
    rw [splitP]
    split
    · have := split_count n (l.drop ((pairI l).toNat + 2))
      rw [List.length_cons]; omega
    · simp
theorem part_at {S : List (List Int)} {k : Nat} {q : List Int} (h : S[k]? = some q) (n : Nat) (hn : n ≤ q.length) : (S.flatten.drop (S.take k).flatten.length).take n = q.take n ∧ (S.take k).flatten.length + q.length ≤ S.flatten.length := by
  have hlt := (List.getElem?_eq_some_iff.1 h).1
  have hx := (List.getElem?_eq_some_iff.1 h).2
  have e : S = S.take k ++ q :: S.drop (k + 1) := by
    conv => lhs; rw [← List.take_append_drop k S, List.drop_eq_getElem_cons hlt, hx]
  have ef : S.flatten = (S.take k).flatten ++ (q ++ (S.drop (k + 1)).flatten) := by
    conv => lhs; rw [e]
    simp
  rw [ef]
  refine ⟨?_, by simp⟩
  rw [List.drop_left, List.take_append_of_le_length hn]
theorem row_piece {w : World} {b off q : Nat} {zs x : List Int} (h : Row w (some ⟨b, off, none⟩) zs) (hx : (zs.drop q).take x.length = x) (hq : q + x.length ≤ zs.length) : Row w (some ⟨b, off + q, none⟩) x := by
  rcases h with rfl | ⟨b', off', e, h⟩
  · left
    simpa using hx
  · simp at e
    obtain ⟨rfl, rfl⟩ := e
    refine .inr ⟨b, off + q, rfl, fun i hi => ?_⟩
    rw [Nat.add_assoc, h (q + i) (by omega)]
    congr 2
    rw [List.getD_eq_getElem?_getD, List.getD_eq_getElem?_getD]
    congr 1
    conv => rhs; rw [← hx]
    rw [List.getElem?_take, if_pos hi, List.getElem?_drop]
theorem ownL_cells {w : World} {B : Nat} {v : Value} {b off cap : Nat} {ls : List (Nat × Nat × Bool)} (h : OwnL w B v b off cap ls) (hne : ls ≠ []) :
    ∃ g c, v = .slice (some ⟨g, 0, none⟩) ls.length c ∧ ∀ i x, ls[i]? = some x → w.cell? ⟨g, i * 3, none⟩ = some (.int .i64 (x.1 : Nat)) ∧ w.cell? ⟨g, i * 3 + 1, none⟩ = some (.slice (some ⟨b, off + x.1, none⟩) x.2.1 (cap - x.1)) ∧ w.cell? ⟨g, i * 3 + 2, none⟩ = some (.bool x.2.2) := by
  have h0 := h
  rcases h.2 with ⟨rfl, hn⟩ | ⟨g, c, cur, rfl, hb, hg, hn, hm, hs, ht⟩
  · exact absurd (List.eq_nil_of_length_eq_zero hn) hne
  · refine ⟨g, c, rfl, fun i x hx => ?_⟩
    have key : ∀ j, j < 3 → (ls.flatMap (cellL b off cap))[i * 3 + j]? = (cellL b off cap x)[j]? := by
      intro j hj
      clear h0 h hg hn hm hs ht hb hne
      induction ls generalizing i with
      | nil => simp at hx
      | cons y r ih =>
        cases i with
        | zero =>
          simp only [List.getElem?_cons_zero, Option.some.injEq] at hx
          subst hx
          rw [List.flatMap_cons, List.getElem?_append_left (by simp [cellL]; omega)]
          simp
        | succ i =>
          simp only [List.getElem?_cons_succ] at hx
          rw [List.flatMap_cons, List.getElem?_append_right (by simp [cellL]; omega)]
          rw [← ih i hx]
          congr 1
          simp [cellL]; omega
    have c0 := h0.cells (g := g) rfl (i * 3 + 0) _ (by rw [key 0 (by omega)]; rfl)
    have c1 := h0.cells (g := g) rfl (i * 3 + 1) _ (by rw [key 1 (by omega)]; rfl)
    have c2 := h0.cells (g := g) rfl (i * 3 + 2) _ (by rw [key 2 (by omega)]; rfl)
    rw [add_plain] at c0 c1 c2
    exact ⟨by simpa using c0, by simpa using c1, by simpa using c2⟩
/-- Between two lines: k lines have been read. -/
def QJ (W0 : World) (S : List (List Int)) (k : Nat) (v : Value) (V : World) : Prop :=
  ∃ (ls : List Lm), V.ownsRow W0.heap.size 32 3 v ls.length (ls.flatMap cellM) ∧ (∀ m ∈ ls, FRow V m.a m.fs ∧ ∀ x, m.a = some x → W0.heap.size ≤ x.block ∧ ∃ cs, V.heap[x.block]? = some (.cells cs 42 (0, 0))) ∧
    ls.length = k ∧ k ≤ 4096 ∧ (∀ (i : Nat) (m : Lm), ls[i]? = some m → ∃ q, S[i]? = some q ∧ goodP q = some m.ln) ∧ Below W0.heap.size W0 V
theorem QJ.below {W0 V V' : World} {S : List (List Int)} {k : Nat} {v : Value} (h : QJ W0 S k v V) (hb : Below V.heap.size V V') : QJ W0 S k v V' := by
  obtain ⟨ls, h1, h2, h3, h4, h5, h6⟩ := h
  refine ⟨ls, own_keep h1 hb, fun m hm => ⟨(h2 m hm).1.below hb, fun x hx => ⟨((h2 m hm).2 x hx).1, ?_⟩⟩, h3, h4, h5, h6.trans (hb.mono h6.size)⟩
  obtain ⟨cs, hcs⟩ := ((h2 m hm).2 x hx).2
  exact ⟨cs, (hb.block _ (Array.getElem?_eq_some_iff.1 hcs).1).trans hcs⟩
theorem QJ.app {W0 V V' : World} {S : List (List Int)} {k : Nat} {v v' : Value} {m : Lm} {ls : List Lm} {p : List Int} (h1 : V.ownsRow W0.heap.size 32 3 v k (ls.flatMap cellM))
    (h2 : ∀ m', m' ∈ ls ++ [m] → FRow V m'.a m'.fs ∧ ∀ x, m'.a = some x → W0.heap.size ≤ x.block ∧ ∃ cs, V.heap[x.block]? = some (.cells cs 42 (0, 0))) (h3 : ls.length = k) (h4 : k < 4096)
    (h5 : ∀ (i : Nat) (m : Lm), ls[i]? = some m → ∃ q, S[i]? = some q ∧ goodP q = some m.ln) (h6 : Below W0.heap.size W0 V) (hp : S[k]? = some p) (hg : goodP p = some m.ln)
    (hown : V'.ownsRow W0.heap.size 32 3 v' (k + 1) (ls.flatMap cellM ++ cellM m)) (hgr : V.grownBy V' v.ownBlock) : QJ W0 S (k + 1) v' V' := by
  have hpar : ∀ (x : Addr) cs, V.heap[x.block]? = some (.cells cs 42 (0, 0)) → V'.heap[x.block]? = V.heap[x.block]? := fun x cs hx => hgr.block _ (Array.getElem?_eq_some_iff.1 hx).1 (ne_type h1 hx (by decide))
  refine ⟨ls ++ [m], by rw [List.length_append, h3, List.flatMap_append]; simpa using hown, ?_, by simp [h3], by omega, ?_, h6.grown hgr h6.size (fun g hg => (h1.lt g hg).1)⟩
  · intro m' hm'
    obtain ⟨q1, q2⟩ := h2 m' hm'
    refine ⟨q1.blk (fun x hx => ?_), fun x hx => ⟨(q2 x hx).1, ?_⟩⟩
    · obtain ⟨cs, hcs⟩ := (q2 x hx).2
      exact hpar x cs hcs
    · obtain ⟨cs, hcs⟩ := (q2 x hx).2
      exact ⟨cs, (hpar x cs hcs).trans hcs⟩
  · intro i m' hi
    by_cases hik : i < ls.length
    · rw [List.getElem?_append_left hik] at hi
      exact h5 i m' hi
    · have hlt := (List.getElem?_eq_some_iff.1 hi).1
      simp at hlt
      obtain rfl : i = ls.length := by omega
      simp at hi
      subst hi
      exact ⟨p, by rw [h3]; exact hp, hg⟩
theorem rread_ret {w X : World} {l : List Int} {p : Nat} {code : Int} {v : Value} {A : Act} (hX : Blk X w.heap.size #[.int .i64 (p : Nat), .int .i64 code] 27) (hb : Below w.heap.size w X)
    (hans : (RF l p code ∧ v = .slice none 0 0) ∨ (p = 0 ∧ code = 0 ∧ ∃ (a : Option Addr) (cap : Nat) (ls : List Lm), v = .slice a ls.length cap ∧ LRow X a ls ∧ ROk l ls))
    (hd : A.defers = []) (h2 : A.tmps[2]?.getD undef = v) (h3 : A.tmps[3]?.getD undef = .pointer (some ⟨w.heap.size, 0, none⟩)) : bodyPost Tryd.prog Tryd.f8 (RPost w l) .ret A X := by
  have q0 := hX.cell 0
  have q1 := hX.cell 1
  simp only [List.getElem?_toArray, List.getElem?_cons_zero, List.getElem?_cons_succ] at q0 q1
  refine bodyPost_ret (v := .tuple #[v, .agg #[.int .i64 (p : Nat), .int .i64 code]]) ?_ hd ⟨v, p, code, rfl, hb, hans⟩
  simp [results, Tryd.results8, go_sem, q0, q1, h2, h3]
theorem blk_set2 {W : World} {R : Nat} {a b x y : Value} {t : TypeId} (h : Blk W R #[a, b] t) : Blk ((W.setCell ⟨R, 0, none⟩ x).setCell ⟨R, 1, none⟩ y) R #[x, y] t := blk_two h
theorem two_facts {W : World} {R : Nat} {a b : Value} {t : TypeId} (h : Blk W R #[a, b] t) : W.cell? ⟨R, 0, none⟩ = some a ∧ W.cell? ⟨R, 1, none⟩ = some b ∧ W.frozen? ⟨R, 0, none⟩ = false ∧ W.frozen? ⟨R, 1, none⟩ = false := by
  have q0 := h.cell 0
  have q1 := h.cell 1
  simp only [List.getElem?_toArray, List.getElem?_cons_zero, List.getElem?_cons_succ] at q0 q1
  exact ⟨q0, q1, h.frozen 0, h.frozen 1⟩
/-- The world before the lines are gone through, and what was read. -/
structure At (w W0 : World) (l : List Int) (b off cap g : Nat) : Prop where
  res : Blk W0 w.heap.size #[.int .i64 0, .int .i64 0] 27
  bel : Below w.heap.size w W0
  row : Row W0 (some ⟨b, off, none⟩) (unfoldZ l)
  cells : ∀ i x, (linesZ 0 (unfoldZ l))[i]? = some x → W0.cell? ⟨g, i * 3, none⟩ = some (.int .i64 (x.1 : Nat)) ∧ W0.cell? ⟨g, i * 3 + 1, none⟩ = some (.slice (some ⟨b, off + x.1, none⟩) x.2.1 (cap - x.1)) ∧ W0.cell? ⟨g, i * 3 + 2, none⟩ = some (.bool x.2.2)
  len : l.length ≤ 1048576
  valid : ∃ ps, Ut.AllPt ps ∧ unfoldZ l = Ut.flat ps
/-- What a round meets. -/
theorem At.piece {w W0 : World} {l : List Int} {b off cap g : Nat} (h : At w W0 l b off cap g) {i : Nat} (hi : i < (linesZ 0 (unfoldZ l)).length) :
    ∃ (q B : List Int) (p : Nat) (e : Bool), (splitP (unfoldZ l).length (unfoldZ l))[i]? = some q ∧ q ≠ [] ∧ p = ((splitP (unfoldZ l).length (unfoldZ l)).take i).flatten.length ∧ goodP q = (if e = true then oneR B else none) ∧ Byt B ∧ B.length ≤ 1048576 ∧
      Row W0 (some ⟨b, off + p, none⟩) B ∧ W0.cell? ⟨g, i * 3, none⟩ = some (.int .i64 (p : Nat)) ∧ W0.cell? ⟨g, i * 3 + 1, none⟩ = some (.slice (some ⟨b, off + p, none⟩) B.length (cap - p)) ∧ W0.cell? ⟨g, i * 3 + 2, none⟩ = some (.bool e) := by
  have hls := lines_split (unfoldZ l).length (unfoldZ l) 0 (Nat.le_refl _)
  obtain ⟨x, hx⟩ : ∃ x, (linesZ 0 (unfoldZ l))[i]? = some x := ⟨_, List.getElem?_eq_getElem hi⟩
  obtain ⟨c0, c1, c2⟩ := h.cells i x hx
  rw [hls] at hx
  obtain ⟨q, h1, h2, rfl⟩ := conv_at _ _ _ _ hx
  rw [Nat.zero_add] at c0 c1
  have hbyt : Byt (unfoldZ l) := by
    obtain ⟨ps, h1, h2⟩ := h.valid
    rw [h2]; exact Ut.flat_byt h1
  have hul := unf_len l
  have hfl := split_flat (unfoldZ l).length (unfoldZ l)
  have hn : (if endsZ q = true then q.length - 2 else q.length) ≤ q.length := by split <;> omega
  obtain ⟨p1, p2⟩ := part_at h1 _ hn
  rw [hfl] at p1 p2
  obtain ⟨B, hB⟩ : ∃ B, q.take (if endsZ q = true then q.length - 2 else q.length) = B := ⟨_, rfl⟩
  have hBl : B.length = (if endsZ q = true then q.length - 2 else q.length) := by rw [← hB, List.length_take]; omega
  rw [hB] at p1
  rw [← hBl] at c1 p1
  have hlen := h.len
  refine ⟨q, B, _, _, h1, h2, rfl, ?_, ?_, by omega, row_piece h.row p1 (by omega), c0, c1, c2⟩
  · unfold goodP
    split
    · rename_i he
      rw [← hB, if_pos he]
    · rfl
  · rw [← p1]
    exact fun y hy => hbyt y (List.mem_of_mem_drop (List.mem_of_mem_take hy))
set_option maxHeartbeats 16000000 in
set_option maxRecDepth 100000 in
theorem rread_any (a : Option Addr) (len cap : Nat) (l : List Int) (w : World) (hl : l.length = len) (hb : Byt l) (hcap : len ≤ cap) (hcm : cap ≤ maxLen) (hr : Row w a l) : Calls Tryd.prog 8 #[.slice a len cap] w (RPost w l) := by
  obtain ⟨j0, hi, hz0, hz1, hz2⟩ := info_parts Tryd.info32
  have hbig : len ≤ 9223372036854775807 := by have : maxLen = 9223372036854775807 := rfl; omega
  have HL : Hid (l.length = len) := hl
  have HR0 : Hid (Blk (w.alloc (.cells #[.int .i64 0, .int .i64 0] 27)) w.heap.size #[.int .i64 0, .int .i64 0] 27) := Blk.new w _ 27
  have hk0 : Below w.heap.size w (w.alloc (.cells #[.int .i64 0, .int .i64 0] 27)) := keep w _
  obtain ⟨c0, c1, f0, f1⟩ := two_facts HR0.out
  clear hl
  by_cases hlong : 1048576 < len
  · have HF : Hid (RF l 0 2) := .inl ⟨by rw [HL.out]; exact hlong, rfl, rfl⟩
    go_enter Tryd.func8, Tryd.ntmps8
    go_wp2
    refine rread_ret (p := 0) (code := 2) ?_ ?_ (.inl ⟨HF.out, rfl⟩) rfl rfl rfl
    · exact Blk.new w #[.int .i64 ((0 : Nat) : Int), .int .i64 2] 27
    · exact keep w _
  have HUL : Hid ((unfoldZ l).length ≤ 1048576) := by have := unf_len l; have := HL.out; unfold Hid; omega
  go_enter Tryd.func8, Tryd.ntmps8
  go_wp2_with fail
  refine (runfold_any a len cap l _ HL.out hb (by omega) hcap hcm (row_below hr hk0)).mono ?_
  rintro e w1 ⟨v1, rfl, hown1, hb1⟩
  obtain ⟨a1, c1', rfl, hcl1, hcm1, hrow1, _⟩ := own_row' hown1
  have HB1 : Hid (Below w.heap.size w w1) := hk0.trans (hb1.mono (by simp))
  have HR1 : Hid (Blk w1 w.heap.size #[.int .i64 0, .int .i64 0] 27) := HR0.out.below hb1 (by simp)
  have HRW : Hid (Row w1 a1 (unfoldZ l)) := hrow1
  have hUB : Byt (unfoldZ l) := unfold_byt hb
  obtain ⟨ps, r, hps, hur, hdr⟩ := Ut.split_ex (unfoldZ l) hUB
  obtain ⟨ul, hule⟩ : ∃ ul, (unfoldZ l).length = ul := ⟨_, rfl⟩
  have hul2 : ul ≤ 1048576 := by rw [← hule]; exact HUL.out
  rw [hule] at hcl1 ⊢
  have HULE : Hid ((unfoldZ l).length = ul) := hule
  clear hown1 hb1 hrow1 c0 c1 f0 f1 hk0 hule
  by_cases hrn : r = []
  case neg =>
    have HF : Hid (RF l (Ut.flat ps).length 20) := .inr (.inl ⟨by rw [HL.out]; omega, ps, r, hps, fun y hy => hUB y (by rw [hur]; simp [hy]), hur, hdr, hrn, rfl, rfl⟩)
    have hpts := Ut.rpoints_no a1 ul c1' ps r w1 (by rw [← hur]; exact HULE.out) hps hdr hrn (fun y hy => hUB y (by rw [hur]; simp [hy])) hcl1 hcm1 (by omega) (by rw [← hur]; exact HRW.out)
    obtain ⟨fp, hfp⟩ : ∃ fp, (Ut.flat ps).length = fp := ⟨_, rfl⟩
    rw [hfp] at HF hpts
    clear hur hdr hps hrn hfp hUB
    go_wp2_with fail
    refine hpts.mono ?_
    rintro e w2 ⟨rfl, hb2⟩
    have HB2 : Hid (Below w.heap.size w w2) := HB1.out.trans (hb2.mono HB1.out.size)
    have hR2 : Blk w2 w.heap.size #[.int .i64 0, .int .i64 0] 27 := HR1.out.below hb2 (by exact HR1.out.lt)
    have hR3 : Blk (w2.alloc (.cells #[.int .i64 (fp : Nat), .int .i64 20] 27)) w.heap.size #[.int .i64 0, .int .i64 0] 27 := hR2.below (keep w2 _) hR2.lt
    obtain ⟨d0, d1, g0, g1⟩ := two_facts hR3
    obtain ⟨e0, e1, _, _⟩ := two_facts (Blk.new w2 #[.int .i64 (fp : Nat), .int .i64 20] 27)
    have HR3 : Hid (Blk (w2.alloc (.cells #[.int .i64 (fp : Nat), .int .i64 20] 27)) w.heap.size #[.int .i64 0, .int .i64 0] 27) := hR3
    have HB3 : Hid (Below w.heap.size w (w2.alloc (.cells #[.int .i64 (fp : Nat), .int .i64 20] 27))) := HB2.out.alloc HB2.out.size _
    clear hb2 hR2 hR3
    go_wp2
    generalize w2.alloc (.cells #[.int .i64 (fp : Nat), .int .i64 20] 27) = w3 at d0 d1 g0 g1 e0 e1 HR3 HB3 ⊢
    go_region
    go_wp2
    exact rread_ret (p := fp) (code := 20) (blk_set2 HR3.out) (below_drew ((HB3.out.setCell (p := ⟨w.heap.size, 0, none⟩) (Nat.le_refl _) _).setCell (p := ⟨w.heap.size, 1, none⟩) (Nat.le_refl _) _)) (.inl ⟨HF.out, rfl⟩) rfl rfl rfl
  subst hrn
  rw [List.append_nil] at hur
  have hpts := Ut.rpoints_yes a1 ul c1' ps w1 (by rw [← hur]; exact HULE.out) hps hcl1 hcm1 (by omega) (by rw [← hur]; exact HRW.out)
  have HV : Hid (∃ ps, Ut.AllPt ps ∧ unfoldZ l = Ut.flat ps) := ⟨ps, hps, hur⟩
  clear hur hdr hps hUB
  go_wp2_with fail
  refine hpts.mono ?_
  rintro e w2 ⟨v2, rfl, _, hb2⟩
  have HB2 : Hid (Below w.heap.size w w2) := HB1.out.trans (hb2.mono HB1.out.size)
  have HR2 : Hid (Blk w2 w.heap.size #[.int .i64 0, .int .i64 0] 27) := HR1.out.below hb2 HR1.out.lt
  have HRW2 : Hid (Row w2 a1 (unfoldZ l)) := row_below HRW.out hb2
  obtain ⟨e0, e1, _, _⟩ := two_facts (Blk.new w2 #[.int .i64 0, .int .i64 0] 27)
  obtain ⟨bb, oo, ha⟩ : ∃ bb oo, unfoldZ l ≠ [] → a1 = some ⟨bb, oo, none⟩ := by
    rcases HRW.out with h | ⟨bb, oo, h, _⟩
    · exact ⟨0, 0, fun q => absurd h q⟩
    · exact ⟨bb, oo, fun _ => h⟩
  have hk2 := keep w2 (.cells #[.int .i64 0, .int .i64 0] 27)
  have hlr := lines_ref a1 bb oo ul c1' (unfoldZ l) (w2.alloc (.cells #[.int .i64 0, .int .i64 0] 27)) HULE.out (by omega) hcl1 hcm1 (row_below HRW2.out hk2) ha
  clear hb2 hpts
  go_wp2_with fail
  refine hlr.mono ?_
  rintro e w3 ⟨v3, rfl, hown3, hb3⟩
  have HB3 : Hid (Below w.heap.size w w3) := (HB2.out.alloc HB2.out.size _).trans (hb3.mono (by have := HB2.out.size; simp; omega))
  have HR3 : Hid (Blk w3 w.heap.size #[.int .i64 0, .int .i64 0] 27) := (HR2.out.below hk2 HR2.out.lt).below hb3 (by have := HR2.out.lt; simp; omega)
  have HRW3 : Hid (Row w3 a1 (unfoldZ l)) := row_below (row_below HRW2.out hk2) hb3
  obtain ⟨n, hne⟩ : ∃ n, (linesZ 0 (unfoldZ l)).length = n := ⟨_, rfl⟩
  have HN : Hid ((linesZ 0 (unfoldZ l)).length = n) := hne
  have hnle : n ≤ 1048577 := by
    rw [← hne, lines_split (unfoldZ l).length _ 0 (Nat.le_refl _), conv_len _ 0 0]
    have h1 := linesV_le (splitP (unfoldZ l).length (unfoldZ l)) 0
    have h2 := split_count (unfoldZ l).length (unfoldZ l)
    have := HUL.out
    omega
  obtain ⟨a3, c3, rfl, HAT⟩ : ∃ a3 c3, v3 = .slice a3 n c3 ∧ Hid (0 < n → ∃ b off g, a3 = some ⟨g, 0, none⟩ ∧ At w w3 l b off c1' g) := by
    by_cases hn0 : linesZ 0 (unfoldZ l) = []
    · rw [hn0] at hne hown3
      obtain rfl : n = 0 := hne.symm
      rcases hown3.2 with ⟨rfl, _⟩ | ⟨g, c, cur, rfl, _⟩
      · exact ⟨none, 0, rfl, fun h => by omega⟩
      · exact ⟨_, c, rfl, fun h => by omega⟩
    · obtain ⟨g, c, e, hc⟩ := ownL_cells hown3 hn0
      rw [hne] at e
      refine ⟨_, c, e, fun _ => ⟨bb, oo, g, rfl, HR3.out, HB3.out, ?_, hc, by rw [HL.out]; omega, HV.out⟩⟩
      have hUne : unfoldZ l ≠ [] := fun h => hn0 (by rw [h, linesZ_nil])
      rw [← ha hUne]; exact HRW3.out
  clear hown3 hb3 hlr hk2 e0 e1 hne ha
  obtain ⟨S, hS⟩ : ∃ S, splitP (unfoldZ l).length (unfoldZ l) = S := ⟨_, rfl⟩
  have HSS : Hid (splitP (unfoldZ l).length (unfoldZ l) = S) := hS
  clear hS
  go_wp2
  go_loopw [8, 7, 9, 10] (fun i v _ _ wr => ∃ k : Nat, i = .int .i64 k ∧ k ≤ n ∧ QJ w3 S k v wr) (fun i _ _ _ _ => n - (intOf i).toNat)
  case atStart => exact ⟨0, rfl, by omega, [], ⟨rfl, .inl ⟨rfl, rfl⟩⟩, by simp, rfl, by omega, by simp, Below.refl _ _⟩
  case round =>
    obtain ⟨k, rfl, hk, hq⟩ := hrel
    have HQ : Hid (QJ w3 S k u7 wr) := hq
    obtain ⟨ls, _, _, hlk, hk4, _, hbel⟩ := hq
    have HBW : Hid (Below w3.heap.size w3 wr) := hbel
    obtain ⟨av, cv, hv⟩ : ∃ av cv, u7 = .slice av k cv := by
      obtain ⟨ls', h1, _, h3, _⟩ := HQ.out
      rcases h1.2 with ⟨e, hn⟩ | ⟨g, c, cur, e, _⟩
      · exact ⟨none, 0, by rw [e]; rw [← h3, hn]⟩
      · exact ⟨_, c, by rw [e, h3]⟩
    subst hv
    clear hlk hbel
    by_cases hlt : k < n
    · have dl : decide ((k : Int) < (n : Int)) = true := by simp; omega
      obtain ⟨b, off, g, rfl, hat⟩ := HAT.out (by omega)
      obtain ⟨q, B, p, e, hq1, hq2, hq3, hq4, hq5, hq6, hrow, m0, m1, m2⟩ := hat.piece (i := k) (by rw [HN.out]; exact hlt)
      rw [HSS.out] at hq1 hq3
      have HQ1 : Hid (S[k]? = some q) := hq1
      have HQ3 : Hid (p = (S.take k).flatten.length) := hq3
      have HQ4 : Hid (goodP q = if e = true then oneR B else none) := hq4
      have HQ2 : Hid (q ≠ []) := hq2
      have x0 : wr.cell? ⟨g, k * 3, none⟩ = some (.int .i64 (p : Nat)) := cell_keep HBW.out m0
      have x1 : wr.cell? ⟨g, k * 3 + 1, none⟩ = some (.slice (some ⟨b, off + p, none⟩) B.length (c1' - p)) := cell_keep HBW.out m1
      have x2 : wr.cell? ⟨g, k * 3 + 2, none⟩ = some (.bool e) := cell_keep HBW.out m2
      have kc := conv_row B.length (c1' - p) rfl (row_below hrow HBW.out)
      have hadd : (⟨g, 0, none⟩ : Addr).add (k * 3) = ⟨g, k * 3, none⟩ := by rw [add_plain, Nat.zero_add]
      have hsB : (strOfNums B).size ≤ 2000000 := by have := nums_len (strOfNums B); rw [nums_str hq5] at this; omega
      have hone := fun V => rone_any (strOfNums B) V hsB
      rw [nums_str hq5] at hone
      have HK4 : Hid (k ≤ 4096) := hk4
      obtain ⟨bl, hbl⟩ : ∃ bl, B.length = bl := ⟨_, rfl⟩
      rw [hbl] at x1 kc
      have hbl2 : bl ≤ 1048576 := by omega
      clear hq1 hq2 hq3 hq4 hq5 hq6 hrow m0 m1 m2 hat hsB hbl
      go_wp2_with fail
      refine (hone _).mono ?_
      rintro e' w4 ⟨nm, vl, fa, fc, fs, code, rfl, hans, hln, hb4⟩
      have HJ4 : Hid (QJ w3 S k (.slice av k cv) w4) := HQ.out.below hb4
      have y0 := cell_keep hb4 x0
      have y2 := cell_keep hb4 x2
      have HB4 : Hid (Below w3.heap.size w3 w4) := HBW.out.trans (hb4.mono HBW.out.size)
      clear x0 x1 x2 kc hone HQ
      unfold lineV
      have hk4' := keep w4 (.cells #[.string nm, .slice fa fs.length fc, .string vl] 32)
      have z0 := cell_keep hk4' y0
      have z2 := cell_keep hk4' y2
      have HJ5 : Hid (QJ w3 S k (.slice av k cv) (w4.alloc (.cells #[.string nm, .slice fa fs.length fc, .string vl] 32))) := HJ4.out.below hk4'
      have HR5 : Hid (Blk (w4.alloc (.cells #[.string nm, .slice fa fs.length fc, .string vl] 32)) w.heap.size #[.int .i64 0, .int .i64 0] 27) := (HR3.out.below HB4.out HR3.out.lt).below hk4' (by have := HR3.out.lt; have := HB4.out.size; omega)
      obtain ⟨d0, d1, g0, g1⟩ := two_facts HR5.out
      have HB5 : Hid (Below w.heap.size w (w4.alloc (.cells #[.string nm, .slice fa fs.length fc, .string vl] 32))) := (HB3.out.trans (HB4.out.mono HB3.out.size)).alloc (by have := HB3.out.size; have := HB4.out.size; omega) _
      have hlow : w.heap.size < w4.heap.size := by have := HR3.out.lt; have := HB4.out.size; omega
      have good : goodP q = none → Hid (RF l p 90) := fun hn => .inr (.inr ⟨by rw [HL.out]; omega, HV.out, k, q, by rw [HSS.out]; exact HQ1.out, HQ2.out, (by
        intro i r hik hr
        obtain ⟨ls', _, _, h3, _, h5, _⟩ := HJ4.out
        rw [HSS.out] at hr
        obtain ⟨q', hq', hg'⟩ := h5 i ls'[i] (List.getElem?_eq_getElem (by omega))
        rw [hr] at hq'; cases hq'; rw [hg']; rfl), HK4.out, by rw [HSS.out]; exact HQ3.out, .inl ⟨hn, rfl⟩⟩)
      have many : (goodP q).isSome = true → k = 4096 → Hid (RF l p 2) := fun hn h4 => .inr (.inr ⟨by rw [HL.out]; omega, HV.out, k, q, by rw [HSS.out]; exact HQ1.out, HQ2.out, (by
        intro i r hik hr
        obtain ⟨ls', _, _, h3, _, h5, _⟩ := HJ4.out
        rw [HSS.out] at hr
        obtain ⟨q', hq', hg'⟩ := h5 i ls'[i] (List.getElem?_eq_getElem (by omega))
        rw [hr] at hq'; cases hq'; rw [hg']; rfl), HK4.out, by rw [HSS.out]; exact HQ3.out, .inr ⟨hn, h4, rfl⟩⟩)
      have bad : ∀ cc (HF : Hid (RF l p cc)) (A : Act) (X : World), X = ((w4.alloc (.cells #[.string nm, .slice fa fs.length fc, .string vl] 32)).setCell ⟨w.heap.size, 0, none⟩ (.int .i64 (p : Nat))).setCell ⟨w.heap.size, 1, none⟩ (.int .i64 cc) → A.defers = [] → A.tmps[2]?.getD undef = .slice none 0 0 → A.tmps[3]?.getD undef = .pointer (some ⟨w.heap.size, 0, none⟩) → ∀ j, bodyPost Tryd.prog Tryd.f8 (RPost w l) .ret A (X.drewN j) := by
        intro cc HF A X hX h1 h2 h3 j
        subst hX
        exact rread_ret (p := p) (code := cc) (show Blk (World.drewN _ j) _ _ _ from blk_set2 HR5.out) (below_drewN ((HB5.out.setCell (p := ⟨w.heap.size, 0, none⟩) (Nat.le_refl _) _).setCell (p := ⟨w.heap.size, 1, none⟩) (Nat.le_refl _) _) j) (.inl ⟨HF.out, rfl⟩) h1 h2 h3
      rcases hans with ⟨hsome, rfl⟩ | ⟨hnone, rfl, hno⟩
      case inr =>
        have HF := good (by rw [HQ4.out, hnone]; split <;> rfl)
        clear hln hnone hno good many
        go_wp2
        generalize w4.alloc (.cells #[.string nm, .slice fa fs.length fc, .string vl] 32) = w5 at z0 z2 d0 d1 g0 g1 bad HR5 HB5 HJ5 hk4' ⊢
        go_region
        go_wp2
        exact bad 90 HF _ _ rfl rfl rfl rfl _
      cases e with
      | false =>
        have HF := good (by rw [HQ4.out]; rfl)
        clear hln hsome good many
        go_wp2
        generalize w4.alloc (.cells #[.string nm, .slice fa fs.length fc, .string vl] 32) = w5 at z0 z2 d0 d1 g0 g1 bad HR5 HB5 HJ5 hk4' ⊢
        go_region
        go_wp2
        exact bad 90 HF _ _ rfl rfl rfl rfl _
      | true =>
        have hgq : goodP q = some ⟨nums nm, numsP fs, nums vl⟩ := by rw [HQ4.out, if_pos rfl, hsome]
        by_cases h4096 : k = 4096
        · have HF := many (by rw [hgq]; rfl) h4096
          have e4 : ((k : Int) == 4096) = true := by simp [h4096]
          clear hln hsome good many hgq h4096
          go_wp2
          generalize w4.alloc (.cells #[.string nm, .slice fa fs.length fc, .string vl] 32) = w5 at z0 z2 d0 d1 g0 g1 bad HR5 HB5 HJ5 hk4' ⊢
          go_region
          go_wp2
          exact bad 2 HF _ _ rfl rfl rfl rfl _
        · have e4 : ((k : Int) == 4096) = false := by rw [beq_eq_false_iff_ne]; omega
          obtain ⟨l0, l1, l2, _, _, _⟩ := three_cells (heap_alloc_last w4 (.cells #[.string nm, .slice fa fs.length fc, .string vl] 32))
          obtain ⟨ls', o1, o2, o3, o4, o5, o6⟩ := HJ5.out
          have HO1 : Hid ((w4.alloc (.cells #[.string nm, .slice fa fs.length fc, .string vl] 32)).ownsRow w3.heap.size 32 3 (.slice av k cv) k (ls'.flatMap cellM)) := by rw [o3] at o1; exact o1
          have HFR : Hid (FRow (w4.alloc (.cells #[.string nm, .slice fa fs.length fc, .string vl] 32)) fa fs ∧ ∀ x, fa = some x → w3.heap.size ≤ x.block ∧ ∃ cs, (w4.alloc (.cells #[.string nm, .slice fa fs.length fc, .string vl] 32)).heap[x.block]? = some (.cells cs 42 (0, 0))) := by
            refine ⟨hln.1.below hk4', fun x hx => ?_⟩
            obtain ⟨h1, cs, h2⟩ := hln.2.1 x hx
            exact ⟨by have := HBW.out.size; omega, cs, (hk4'.block _ (Array.getElem?_eq_some_iff.1 h2).1).trans h2⟩
          have H26 : Hid ((∀ m ∈ ls', FRow (w4.alloc (.cells #[.string nm, .slice fa fs.length fc, .string vl] 32)) m.a m.fs ∧ ∀ x, m.a = some x → w3.heap.size ≤ x.block ∧ ∃ cs, (w4.alloc (.cells #[.string nm, .slice fa fs.length fc, .string vl] 32)).heap[x.block]? = some (.cells cs 42 (0, 0))) ∧ ls'.length = k ∧ (∀ (i : Nat) (m : Lm), ls'[i]? = some m → ∃ q, S[i]? = some q ∧ goodP q = some m.ln)) := ⟨o2, o3, o5⟩
          have HB6 : Hid (Below w3.heap.size w3 (w4.alloc (.cells #[.string nm, .slice fa fs.length fc, .string vl] 32))) := o6
          have HGQ : Hid (goodP q = some ⟨nums nm, numsP fs, nums vl⟩) := hgq
          have hsz5 : (w4.alloc (.cells #[.string nm, .slice fa fs.length fc, .string vl] 32)).heap.size = w4.heap.size + 1 := by simp
          have hw34 := HB4.out.size
          clear hln hsome good many hgq o1 o2 o3 o4 o5 o6 HJ4 HJ5 bad hb4
          go_wp2_with (at_builtin; refine wpList_append_own _ rfl (.tmp 69) (.tmp 71) 24 rfl w3.heap.size 32 j0 _ 3 56 Tryd.underlying24 hi hz0 hz1 hz2 rfl (by decide) (.slice av k cv) k _ rfl (own_keep HO1.out (keep _ _)) ⟨w4.heap.size + 1, 0, none⟩ 1 1 [.string nm, .slice fa fs.length fc, .string vl] rfl rfl ?a0 ?a4 ?a1 ?a2 ?a3 ?_)
          case a0 =>
            intro j u hu
            have q := cells_new (w4.alloc (.cells #[.string nm, .slice fa fs.length fc, .string vl] 32)) [.string nm, .slice fa fs.length fc, .string vl] 32 j u hu
            rwa [hsz5] at q
          case a4 => intro u hu; simp at hu; rcases hu with rfl | rfl | rfl <;> rfl
          case a1 => unfold maxLen; omega
          case a2 => omega
          case a3 => simp; omega
          intro v' w6 hown6 hgrow6 _
          have hk5 := keep (w4.alloc (.cells #[.string nm, .slice fa fs.length fc, .string vl] 32)) (.cells #[.string nm, .slice fa fs.length fc, .string vl] 32)
          have HJ6 : Hid (QJ w3 S (k + 1) v' w6) := by
            refine QJ.app (m := ⟨nm, vl, fa, fc, fs⟩) (own_keep HO1.out hk5) ?_ H26.out.2.1 (by have := HK4.out; omega) H26.out.2.2 (HB6.out.trans (hk5.mono HB6.out.size)) HQ1.out HGQ.out hown6 hgrow6
            intro m' hm'
            have key : FRow (w4.alloc (.cells #[.string nm, .slice fa fs.length fc, .string vl] 32)) m'.a m'.fs ∧ ∀ x, m'.a = some x → w3.heap.size ≤ x.block ∧ ∃ cs, (w4.alloc (.cells #[.string nm, .slice fa fs.length fc, .string vl] 32)).heap[x.block]? = some (.cells cs 42 (0, 0)) := by
              rcases List.mem_append.1 hm' with h | h
              · exact H26.out.1 m' h
              · simp at h; subst h; exact HFR.out
            refine ⟨key.1.below hk5, fun x hx => ⟨(key.2 x hx).1, ?_⟩⟩
            obtain ⟨cs, hcs⟩ := (key.2 x hx).2
            exact ⟨cs, (hk5.block _ (Array.getElem?_eq_some_iff.1 hcs).1).trans hcs⟩
          clear hown6 hgrow6
          go_wp2
          go_roundw
          case rel => exact ⟨k + 1, by go_num, by omega, HJ6.out⟩
          case measure => simp [intOf]; omega
    · have dl : decide ((k : Int) < (n : Int)) = false := by simp; omega
      have HRk : Hid (Blk wr w.heap.size #[.int .i64 0, .int .i64 0] 27) := HR3.out.below HBW.out HR3.out.lt
      have HBk : Hid (Below w.heap.size w wr) := HB3.out.trans (HBW.out.mono HB3.out.size)
      obtain ⟨d0, d1, g0, g1⟩ := two_facts HRk.out
      have HANS : Hid (∃ (a : Option Addr) (cap : Nat) (ls : List Lm), (.slice av k cv : Value) = .slice a ls.length cap ∧ LRow ((wr.setCell ⟨w.heap.size, 0, none⟩ (.int .i64 0)).setCell ⟨w.heap.size, 1, none⟩ (.int .i64 0)) a ls ∧ ROk l ls) := by
        obtain ⟨ls', o1, o2, o3, o4, o5, o6⟩ := HQ.out
        have hRlt := HR3.out.lt
        have o1' := own_set (f := w.heap.size) (o := 1) (u := .int .i64 0) hRlt (own_set (f := w.heap.size) (o := 0) (u := .int .i64 0) hRlt o1)
        obtain ⟨a', cap', e', hlr⟩ := ownM_view o1' (fun m hm => ((o2 m hm).1.blk (fun x hx => heap_setCell_other _ _ _ _ (by have := ((o2 m hm).2 x hx).1; simp; omega))).blk (fun x hx => heap_setCell_other _ _ _ _ (by have := ((o2 m hm).2 x hx).1; simp; omega)))
        refine ⟨a', cap', ls', e', hlr, by rw [HL.out]; omega, HV.out, ?_, by omega, by rw [HSS.out]; exact o5⟩
        rw [← conv_len _ 0 0, ← lines_split _ _ 0 (Nat.le_refl _), HN.out]
        omega
      go_wp2
      refine rread_ret (p := 0) (code := 0) ?_ ?_ (.inr ⟨rfl, rfl, ?_⟩) rfl rfl rfl
      · exact blk_set2 HRk.out
      · exact (HBk.out.setCell (p := ⟨w.heap.size, 0, none⟩) (Nat.le_refl _) _).setCell (p := ⟨w.heap.size, 1, none⟩) (Nat.le_refl _) _
      · exact HANS.out
end Go.Proofs.YtjcjhcpaojhcfaaDoor
