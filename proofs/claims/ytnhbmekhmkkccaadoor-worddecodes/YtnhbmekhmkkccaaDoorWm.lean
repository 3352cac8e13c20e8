/-
  The plain mathematics of words.
-/
import Derived.Test.YtnhbmekhmkkccaaDoorDj
namespace Go.Proofs.YtnhbmekhmkkccaaDoor
open Go.RowKit
set_option linter.unusedVariables false

/-- Texts with a blank between any two. -/
def joinS : List (List Int) → List Int
  | [] => []
  | [p] => p
  | p :: q :: r => p ++ 32 :: joinS (q :: r)
theorem joinS_cons (p : List Int) {ps : List (List Int)} (h : ps ≠ []) : joinS (p :: ps) = p ++ 32 :: joinS ps := by
  cases ps with
  | nil => exact absurd rfl h
  | cons q r => rfl
theorem joinS_flat : ∀ (p : List Int) (ps : List (List Int)), joinS (p :: ps) = p ++ ps.flatMap (fun q => 32 :: q)
  | p, [] => by simp [joinS]
  | p, q :: r => by rw [joinS, joinS_flat q r]; simp
theorem join_pieces : ∀ l : List Int, joinS (pieces 32 l) = l
  | [] => rfl
  | d :: r => by
    have ih := join_pieces r
    have hne := pieces_ne 32 r
    unfold pieces
    split
    · rename_i h; rw [joinS_cons _ hne, ih, h]; rfl
    · obtain ⟨p, ps, hps⟩ : ∃ p ps, pieces 32 r = p :: ps := by cases h : pieces 32 r with | nil => exact absurd h hne | cons p ps => exact ⟨p, ps, rfl⟩
      rw [hps] at ih ⊢
      rw [joinS_flat] at ih ⊢
      simp only [List.headD_cons, List.tail_cons, List.cons_append, ih]
theorem pieces_join : ∀ ps : List (List Int), ps ≠ [] → (∀ p ∈ ps, (32 : Int) ∉ p) → pieces 32 (joinS ps) = ps
  | [], h, _ => absurd rfl h
  | [p], _, h => pieces_none (h p (by simp))
  | p :: q :: r, _, h => by
    rw [joinS, pieces_app _ (h p (by simp)), pieces_join (q :: r) (by simp) (fun x hx => h x (List.mem_cons_of_mem _ hx))]
theorem pieces_front {c : Int} : ∀ r : List Int, ∃ y, r = (pieces c r).headD [] ++ y
  | [] => ⟨[], rfl⟩
  | d :: r => by
    unfold pieces
    split
    · exact ⟨d :: r, rfl⟩
    · obtain ⟨y, e⟩ := pieces_front (c := c) r
      exact ⟨y, by rw [List.headD_cons, List.cons_append, ← e]⟩
theorem piece_in {c : Int} : ∀ (l p : List Int), p ∈ pieces c l → ∃ x y, l = x ++ p ++ y
  | [], p, h => by simp [pieces] at h; subst h; exact ⟨[], [], rfl⟩
  | d :: r, p, h => by
    have ih := piece_in (c := c) r
    unfold pieces at h
    split at h
    · rcases List.mem_cons.1 h with rfl | h
      · exact ⟨[], d :: r, rfl⟩
      · obtain ⟨x, y, e⟩ := ih p h; exact ⟨d :: x, y, by rw [e]; rfl⟩
    · have hne := pieces_ne c r
      obtain ⟨q, qs, hps⟩ : ∃ q qs, pieces c r = q :: qs := by cases h : pieces c r with | nil => exact absurd h hne | cons p ps => exact ⟨p, ps, rfl⟩
      rw [hps] at h ih
      simp only [List.headD_cons, List.tail_cons] at h
      rcases List.mem_cons.1 h with rfl | h
      · clear ih
        have hq : ∃ y, r = q ++ y := by
          have := pieces_front (c := c) r
          rw [hps] at this
          exact this
        obtain ⟨y, e⟩ := hq
        exact ⟨[], y, by rw [e]; rfl⟩
      · obtain ⟨x, y, e⟩ := ih p (List.mem_cons_of_mem _ h); exact ⟨d :: x, y, by rw [e]; rfl⟩
theorem has2_left {a b : Int} : ∀ (x p : List Int), has2 a b p = true → has2 a b (x ++ p) = true
  | [], p, h => h
  | c :: x, p, h => by
    have ih := has2_left x p h
    rw [List.cons_append]
    cases hx : x ++ p with
    | nil => rw [hx] at ih; simp [has2] at ih
    | cons d r => rw [hx] at ih; rw [has2, ih, Bool.or_true]
theorem has2_right {a b : Int} : ∀ (p y : List Int), has2 a b p = true → has2 a b (p ++ y) = true
  | [], y, h => by simp [has2] at h
  | [c], y, h => by simp [has2] at h
  | c :: d :: r, y, h => by
    have ih := has2_right (a := a) (b := b) (d :: r) y
    rw [has2, Bool.or_eq_true] at h
    show has2 a b (c :: d :: (r ++ y)) = true
    rw [has2, Bool.or_eq_true]
    rcases h with h | h
    · exact .inl h
    · exact .inr (ih h)
theorem has2_snoc {a b c d : Int} : ∀ (l : List Int), has2 a b (l ++ [c, d]) = (has2 a b (l ++ [c]) || (decide (c = a) && decide (d = b)))
  | [] => by simp [has2]
  | [x] => by simp [has2]
  | x :: y :: r => by
    have ih := has2_snoc (a := a) (b := b) (c := c) (d := d) (y :: r)
    simp only [List.cons_append] at ih ⊢
    rw [has2, ih, has2, Bool.or_assoc]
theorem one_has {l x : List Int} (h : oneR l = some x) : has2 61 63 l = true := by
  unfold oneR at h
  split at h
  · cases h
  · split at h
    · rename_i i hi
      unfold innerR at hi
      split at hi
      · rename_i hh
        obtain ⟨h1, _, _⟩ := hh
        rw [← List.take_append_drop 2 l, h1]
        exact has2_right [61, 63] _ rfl
      · cases hi
    · cases h
theorem one_not {l : List Int} (h : has2 61 63 l = false) : oneR l = none := by
  cases hx : oneR l with
  | none => rfl
  | some x => rw [one_has hx] at h; cases h
theorem dec_none : ∀ (ps : List (List Int)) (wd : Bool), (∀ p ∈ ps, oneR p = none) → decP false wd ps = ps.flatMap (fun q => 32 :: q)
  | [], wd, _ => rfl
  | p :: ps, wd, h => by
    rw [decP, h p (by simp), dec_none ps _ (fun q hq => h q (List.mem_cons_of_mem _ hq))]
    simp
theorem decode_others {l : List Int} (h : has2 61 63 l = false) : decodeL l = l := by
  have hp : ∀ p ∈ pieces 32 l, oneR p = none := by
    intro p hp
    obtain ⟨x, y, e⟩ := piece_in l p hp
    apply one_not
    cases hh : has2 61 63 p with
    | false => rfl
    | true =>
      have := has2_right (x ++ p) y (has2_left x p hh)
      rw [← e, h] at this
      cases this
  have hne := pieces_ne 32 l
  have hj := join_pieces l
  unfold decodeL
  obtain ⟨q, qs, hps⟩ : ∃ q qs, pieces 32 l = q :: qs := by cases h : pieces 32 l with | nil => exact absurd h hne | cons p ps => exact ⟨p, ps, rfl⟩
  rw [hps] at hp hj ⊢
  rw [decP, hp q (by simp), dec_none qs _ (fun p h => hp p (List.mem_cons_of_mem _ h)), ← hj, joinS_flat]
  simp
theorem sgn_range : ∀ i : Fin 64, 33 ≤ Bt.sgn i.val ∧ Bt.sgn i.val ≤ 126 ∧ Bt.sgn i.val ≠ 63 := by decide
/-- A sign of the encoding. -/
def SgB (x : Int) : Prop := 33 ≤ x ∧ x ≤ 126 ∧ x ≠ 63
theorem sgb_sgn (v : Int) : SgB (Bt.sgn (v % 64).toNat) := sgn_range ⟨(v % 64).toNat, by omega⟩
theorem sgb_four (x y z : Int) (t : Nat) : ∀ c ∈ Bt.fourL x y z t, SgB c := by
  intro c hc
  simp only [Bt.fourL, List.mem_cons, List.not_mem_nil, or_false] at hc
  have h61 : SgB 61 := by unfold SgB; omega
  rcases hc with rfl | rfl | rfl | rfl
  · exact sgb_sgn _
  · exact sgb_sgn _
  · split
    · exact sgb_sgn _
    · exact h61
  · split
    · exact sgb_sgn _
    · exact h61
theorem brk0 (ln : Int) : Bt.brk 0 ln = [] := by unfold Bt.brk; rw [if_neg (by omega)]
theorem enc0_sgb : ∀ (n : Nat) (ln : Int) (l : List Int), l.length ≤ n → (∀ c ∈ Bt.encW 0 ln l, SgB c) ∧ (Bt.encW 0 ln l).length = (l.length + 2) / 3 * 4
  | n, ln, [], h => by simp [Bt.encW]
  | n, ln, [x], h => by
    rw [Bt.encW, brk0, List.nil_append]
    exact ⟨sgb_four _ _ _ _, by rw [Bt.fourL_len]; simp⟩
  | n, ln, [x, y], h => by
    rw [Bt.encW, brk0, List.nil_append]
    exact ⟨sgb_four _ _ _ _, by rw [Bt.fourL_len]; simp⟩
  | 0, ln, x :: y :: z :: r, h => by simp at h
  | n + 1, ln, x :: y :: z :: r, h => by
    obtain ⟨h1, h2⟩ := enc0_sgb n (Bt.nxt 0 ln) r (by simp at h; omega)
    rw [Bt.encW, brk0, List.nil_append]
    refine ⟨fun c hc => ?_, ?_⟩
    · rcases List.mem_append.1 hc with hc | hc
      · exact sgb_four _ _ _ _ c hc
      · exact h1 c hc
    · rw [List.length_append, h2, Bt.fourL_len]; simp; omega
/-- A word. -/
def wordL (set way b : List Int) : List Int := [61, 63] ++ (set ++ 63 :: (way ++ 63 :: Bt.encW 0 0 b)) ++ [63, 61]
theorem decB_enc {b : List Int} (hb : Byt b) : decB (Bt.encW 0 0 b) = some b := by
  obtain ⟨st, e1, e2, e3⟩ := Bt.scan_enc 0 _ 0 0 [] b (Nat.le_refl _) hb
  unfold decB
  rw [e1]
  simp only
  rw [if_pos e2, e3, List.nil_append]
theorem one_word {set way b : List Int} (hs : (63 : Int) ∉ set) (hsl : set.length = 5) (hw : way = [66] ∨ way = [98]) (hset : set.map smallZ = [117, 116, 102, 45, 56]) (hb : Byt b) (hl : b.length ≤ 45) (hv : validZ b = true) : oneR (wordL set way b) = some b := by
  obtain ⟨h1, h2⟩ := enc0_sgb _ 0 b (Nat.le_refl _)
  have hn : (63 : Int) ∉ Bt.encW 0 0 b := fun h => (h1 63 h).2.2 rfl
  have hw1 : (63 : Int) ∉ way ∧ way.length = 1 := by rcases hw with rfl | rfl <;> simp
  unfold oneR
  rw [if_neg (by simp only [wordL, List.length_append, List.length_cons, List.length_nil, h2, hsl, hw1.2]; omega)]
  unfold wordL
  rw [inner_some]
  simp only
  rw [pieces_app _ hs, pieces_app _ hw1.1, pieces_none hn]
  simp only [partsR]
  unfold saidR contR
  rw [if_pos hw, decB_enc hb]
  simp only
  unfold setR
  rw [if_pos hset, if_pos hv]
theorem dec_words (set way : List Int) : ∀ (bs : List (List Int)), (∀ b ∈ bs, oneR (wordL set way b) = some b) → decP false true (bs.map (wordL set way)) = bs.flatten
  | [], _ => rfl
  | b :: bs, h => by
    rw [List.map_cons, decP, h b (by simp), Option.isSome_some, dec_words set way bs (fun q hq => h q (List.mem_cons_of_mem _ hq))]
    simp
theorem word_blank {set way b : List Int} (hs : (32 : Int) ∉ set) (hw : (32 : Int) ∉ way) : (32 : Int) ∉ wordL set way b := by
  obtain ⟨h1, h2⟩ := enc0_sgb _ 0 b (Nat.le_refl _)
  have hn : (32 : Int) ∉ Bt.encW 0 0 b := fun h => by have := (h1 32 h).1; omega
  unfold wordL
  simp [hs, hw, hn]
def setU : List Int := [117, 116, 102, 45, 56]
theorem decode_words {bs : List (List Int)} (hne : bs ≠ []) (h : ∀ b ∈ bs, oneR (wordL setU [66] b) = some b) : decodeL (joinS (bs.map (wordL setU [66]))) = bs.flatten := by
  unfold decodeL
  rw [pieces_join _ (by simpa using hne) (fun p hp => by obtain ⟨b, _, rfl⟩ := List.mem_map.1 hp; exact word_blank (by decide) (by decide))]
  cases bs with
  | nil => exact absurd rfl hne
  | cons b bs =>
    rw [List.map_cons, decP, h b (by simp), Option.isSome_some, dec_words _ _ bs (fun q hq => h q (List.mem_cons_of_mem _ hq))]
    simp
/-- What becomes one word each. -/
def chunkN : Nat → List Int → List (List Int)
  | 0, _ => []
  | n + 1, l => if l = [] then [] else l.take (Ut.cutZ l (min 45 l.length)) :: chunkN n (l.drop (Ut.cutZ l (min 45 l.length)))
def chunks (l : List Int) : List (List Int) := chunkN l.length l
theorem chunk_cut {ps : List Int} (hps : Ut.AllPt ps) (hne : Ut.flat ps ≠ []) : ∃ qs rs, ps = qs ++ rs ∧ Ut.cutZ (Ut.flat ps) (min 45 (Ut.flat ps).length) = (Ut.flat qs).length ∧ 0 < (Ut.flat qs).length ∧ (Ut.flat qs).length ≤ 45 := by
  have hpos : 0 < (Ut.flat ps).length := List.length_pos_iff.2 hne
  by_cases h : (Ut.flat ps).length ≤ 45
  · refine ⟨ps, [], by simp, ?_, hpos, h⟩
    rw [Nat.min_eq_right h]
    exact Ut.cut_stop (by omega)
  · obtain ⟨qs, rs, h1, h2, h3, h4⟩ := Ut.cut_split ps hps 45 (by omega)
    exact ⟨qs, rs, h1, by rw [Nat.min_eq_left (by omega)]; exact h2, by omega, h3⟩
theorem valid_pts {ps : List Int} (hps : Ut.AllPt ps) : validZ (Ut.flat ps) = true := by
  have := valid_flat ps [] (Ut.flat ps).length hps rfl (by simp)
  rw [List.append_nil] at this
  exact this
theorem chunk_good : ∀ (n : Nat) (ps : List Int), (Ut.flat ps).length ≤ n → Ut.AllPt ps → (chunkN n (Ut.flat ps)).flatten = Ut.flat ps ∧ ∀ b ∈ chunkN n (Ut.flat ps), Byt b ∧ b.length ≤ 45 ∧ validZ b = true
  | 0, ps, h, _ => by
    have : Ut.flat ps = [] := List.eq_nil_of_length_eq_zero (by omega)
    rw [this]; simp [chunkN]
  | n + 1, ps, h, hps => by
    by_cases hne : Ut.flat ps = []
    · rw [hne]; simp [chunkN]
    · obtain ⟨qs, rs, rfl, h2, h3, h4⟩ := chunk_cut hps hne
      have e : Ut.flat (qs ++ rs) = Ut.flat qs ++ Ut.flat rs := Ut.flat_append qs rs
      have et : (Ut.flat (qs ++ rs)).take (Ut.flat qs).length = Ut.flat qs := by rw [e, List.take_left]
      have ed : (Ut.flat (qs ++ rs)).drop (Ut.flat qs).length = Ut.flat rs := by rw [e, List.drop_left]
      rw [chunkN, if_neg hne, h2, et, ed]
      obtain ⟨i1, i2⟩ := chunk_good n rs (by rw [e, List.length_append] at h; omega) hps.right
      refine ⟨by rw [List.flatten_cons, i1, e], fun b hb => ?_⟩
      rcases List.mem_cons.1 hb with rfl | hb
      · exact ⟨Ut.flat_byt hps.left, h4, valid_pts hps.left⟩
      · exact i2 b hb
theorem chunk_ne {l : List Int} (h : l ≠ []) : chunks l ≠ [] := by
  unfold chunks
  obtain ⟨n, hn⟩ : ∃ n, l.length = n + 1 := ⟨l.length - 1, by have := List.length_pos_iff.2 h; omega⟩
  rw [hn, chunkN, if_neg h]; simp
/-- The words of a text. -/
def wordsL (l : List Int) : List (List Int) := (chunks l).map (wordL setU [66])
def encL (l : List Int) : List Int := if l = [] ∨ plainZ l = true then l else joinS (wordsL l)
theorem valid_split {l : List Int} (hb : Byt l) (hv : validZ l = true) : ∃ ps, Ut.AllPt ps ∧ l = Ut.flat ps := by
  obtain ⟨ps, r, hps, rfl, hr⟩ := Ut.split_ex l hb
  have := valid_flat ps r _ hps hr (Nat.le_refl _)
  rw [show validN (Ut.flat ps ++ r).length (Ut.flat ps ++ r) = validZ (Ut.flat ps ++ r) from rfl, hv] at this
  have hr0 : r = [] := by simpa using this.symm
  exact ⟨ps, hps, by rw [hr0, List.append_nil]⟩
theorem words_one {l : List Int} (hb : Byt l) (hv : validZ l = true) : ∀ b ∈ chunks l, oneR (wordL setU [66] b) = some b := by
  obtain ⟨ps, hps, rfl⟩ := valid_split hb hv
  intro b hbm
  obtain ⟨h1, h2, h3⟩ := (chunk_good _ ps (Nat.le_refl _) hps).2 b hbm
  exact one_word (by decide) rfl (.inl rfl) (by decide) h1 h2 h3
theorem chunks_flat {l : List Int} (hb : Byt l) (hv : validZ l = true) : (chunks l).flatten = l := by
  obtain ⟨ps, hps, rfl⟩ := valid_split hb hv
  exact (chunk_good _ ps (Nat.le_refl _) hps).1
theorem back_all {l : List Int} (hb : Byt l) (hv : validZ l = true) : decodeL (encL l) = l := by
  unfold encL
  split
  · rename_i h
    rcases h with rfl | h
    · rfl
    · apply decode_others
      unfold plainZ at h
      simp only [Bool.and_eq_true, Bool.not_eq_true'] at h
      exact h.2
  · rename_i h
    have hne : l ≠ [] := fun e => h (.inl e)
    rw [wordsL, decode_words (chunk_ne hne) (words_one hb hv), chunks_flat hb hv]
end Go.Proofs.YtnhbmekhmkkccaaDoor
