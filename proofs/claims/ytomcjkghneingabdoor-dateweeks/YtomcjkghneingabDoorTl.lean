/-
  The words of a text, as words hands them on; a range over a function that may be left early.
-/
import Derived.Test.YtomcjkghneingabDoorTk
import Derived.Test.YtomcjkghneingabDoorSplit
import Derived.Maps.AppendAt
namespace Go.Proofs.YtomcjkghneingabDoor
open Go.RowKit Go.Shelf
set_option linter.unusedVariables false
set_option linter.unusedSimpArgs false
attribute [local go_sem] Oper.semAt_some

/-- The words of a text, of what is left of it. -/
def wsF : Nat → List Int → List (List Int)
  | 0, _ => []
  | n + 1, x => if x = [] then [] else x.take (weZ x).toNat :: wsF n (behZ (x.drop (weZ x).toNat))
def wsZ (x : List Int) : List (List Int) := wsF (x.length + 1) x
theorem any_front {cs : List Int} : ∀ (a : List Int) (r : List Int), (∀ x ∈ a, cs.contains x = false) → anyI cs (a ++ r) = if anyI cs r < 0 then -1 else a.length + anyI cs r
  | [], r, _ => by
    rw [List.nil_append]
    rcases any_range cs r with h | ⟨k, h, _⟩
    · rw [h]; rfl
    · rw [h, if_neg (by omega)]; simp
  | c :: a, r, h => by
    have ih := any_front a r (fun x hx => h x (List.mem_cons_of_mem _ hx))
    have hc := h c (by simp)
    rw [List.cons_append]
    have e : anyI cs (c :: (a ++ r)) = if anyI cs (a ++ r) < 0 then -1 else anyI cs (a ++ r) + 1 := by
      unfold anyI
      rw [List.any_cons, hc, Bool.false_or, List.takeWhile_cons_of_pos (by simp only [hc]; rfl)]
      by_cases q : (a ++ r).any cs.contains = true
      · rw [if_pos q, if_pos q, if_neg (by omega)]; simp
      · rw [if_neg q, if_neg q]; rfl
    rw [e, ih]
    rcases any_range cs r with h | ⟨k, h, _⟩
    · rw [h]; rfl
    · rw [h, if_neg (by omega), if_neg (by omega), if_neg (by omega)]; simp; omega
/-- A word that may stand in a date: no blank, no tab, no bracket. -/
def Gd (a : List Int) : Prop := a ≠ [] ∧ ∀ x ∈ a, ([32, 9, 40] : List Int).contains x = false
theorem we_end {a : List Int} (h : Gd a) : weZ a = a.length := by
  have := any_front a [] h.2
  rw [List.append_nil] at this
  unfold weZ
  rw [this, show anyI [32, 9, 40] [] = -1 from rfl, if_pos (show (-1 : Int) < 0 by decide), if_pos (.inl (by decide))]
theorem we_mid {a : List Int} (r : List Int) (h : Gd a) : weZ (a ++ 32 :: r) = a.length := by
  have e : anyI [32, 9, 40] (32 :: r) = 0 := by
    unfold anyI
    rw [if_pos (by simp), List.takeWhile_cons_of_neg (by decide)]; rfl
  have := any_front a (32 :: r) h.2
  rw [e, if_neg (by decide)] at this
  unfold weZ
  rw [this, if_neg, Int.add_zero]
  rintro (q | ⟨q, _⟩)
  · omega
  · rw [show ((a.length : Int) + 0).toNat = a.length by omega] at q
    rw [List.getD_eq_getElem?_getD, List.getElem?_append_right (by omega)] at q
    simp at q
theorem beh_word {a : List Int} (r : List Int) (h : Gd a) : behZ (a ++ r) = a ++ r := by
  obtain ⟨c, b, rfl⟩ : ∃ c b, a = c :: b := by
    cases a with
    | nil => exact absurd rfl h.1
    | cons c b => exact ⟨c, b, rfl⟩
  have hc := h.2 c (by simp)
  have hc1 : ¬ (c = 32 ∨ c = 9) := by rintro (rfl | rfl) <;> simp at hc
  have hc2 : c ≠ 40 := by rintro rfl; simp at hc
  have ht : trimQ (c :: (b ++ r)) = c :: (b ++ r) := by rw [trimQ, if_neg hc1]
  rw [beh_step, List.cons_append, ht]
  have hp : ¬ parB (c :: (b ++ r)) = true := by unfold parB; simpa using hc2
  rw [if_neg hp]
theorem beh_blank (c : Int) (l : List Int) (h : c = 32 ∨ c = 9) : behZ (c :: l) = behZ l := by
  rw [beh_step, beh_step l, trimQ, if_pos h]
/-- What stands behind a word: words with a blank ahead of each, and an end. -/
def restL : List (List Int) → List Int → List Int
  | [], t => t
  | a :: r, t => 32 :: (a ++ restL r t)
/-- Nothing, or a blank and what is as good as one. -/
def Tl (t : List Int) : Prop := t = [] ∨ ∃ u, t = 32 :: u ∧ behZ t = []
theorem beh_nil : behZ [] = [] := by decide
theorem ws_rest : ∀ (r : List (List Int)) (a t : List Int) (n : Nat), Gd a → (∀ b ∈ r, Gd b) → Tl t → r.length + 2 ≤ n → wsF n (a ++ restL r t) = a :: r
  | r, a, t, 0, _, _, _, h => by omega
  | r, a, t, 1, _, _, _, h => by omega
  | [], a, t, n + 2, ha, _, ht, _ => by
    have hz : restL [] t = t := rfl
    rw [hz]
    have hne : a ++ t ≠ [] := by simp [ha.1]
    rcases ht with rfl | ⟨u, rfl, hb⟩
    · rw [wsF, if_neg hne, List.append_nil, we_end ha, Int.toNat_natCast, List.take_length, List.drop_length, beh_nil, wsF, if_pos rfl]
    · rw [wsF, if_neg hne, we_mid u ha, Int.toNat_natCast, List.take_left, List.drop_left, hb, wsF, if_pos rfl]
  | b :: r, a, t, n + 2, ha, hr, ht, hn => by
    have hz : restL (b :: r) t = 32 :: (b ++ restL r t) := rfl
    rw [hz]
    have hne : a ++ 32 :: (b ++ restL r t) ≠ [] := by simp
    have hgb : Gd b := hr b (by simp)
    rw [wsF, if_neg hne, we_mid _ ha, Int.toNat_natCast, List.take_left, List.drop_left, beh_blank 32 _ (.inl rfl), beh_word _ hgb]
    rw [ws_rest r b t (n + 1) hgb (fun x hx => hr x (List.mem_cons_of_mem _ hx)) ht (by simp at hn ⊢; omega)]
theorem rest_len : ∀ (r : List (List Int)) (t : List Int), r.length ≤ (restL r t).length
  | [], t => by simp
  | a :: r, t => by have := rest_len r t; simp [restL]; omega
theorem ws_all {r : List (List Int)} {a t : List Int} (ha : Gd a) (hr : ∀ b ∈ r, Gd b) (ht : Tl t) : wsZ (a ++ restL r t) = a :: r := by
  refine ws_rest r a t _ ha hr ht ?_
  have := rest_len r t
  have h1 : 0 < a.length := List.length_pos_iff.2 ha.1
  rw [List.length_append]; omega
theorem bhF_len : ∀ (n : Nat) (l : List Int), (bhF n l).length ≤ l.length
  | 0, l => Nat.le_refl _
  | n + 1, l => by
    have h4 := trim_len l
    unfold bhF
    split
    · split
      · exact h4
      · have := bhF_len n ((trimQ l).drop ((idxZ 41 (trimQ l)).toNat + 1))
        rw [List.length_drop] at this
        omega
    · exact h4
theorem beh_len (l : List Int) : (behZ l).length ≤ l.length := bhF_len _ l
/-- A text at whose front no blank stands, nor what is as good as one. -/
def Fr (x : List Int) : Prop := ∀ c t, x = c :: t → c ≠ 32 ∧ c ≠ 9 ∧ (c = 40 → idxZ 41 x < 0)
theorem bhF_fr : ∀ (n : Nat) (l : List Int), l.length < n → Fr (bhF n l)
  | 0, l, h => by omega
  | n + 1, l, h => by
    have h4 := trim_len l
    unfold bhF
    split
    · rename_i hp
      split
      · rename_i hi
        intro c t e
        obtain ⟨h1, h2⟩ := trim_head l c t e
        exact ⟨h1, h2, fun _ => hi⟩
      · rename_i hi
        exact bhF_fr n _ (by
          rw [List.length_drop]
          rcases idx_ge 41 (trimQ l) with h5 | h5 <;> omega)
    · rename_i hp
      intro c t e
      obtain ⟨h1, h2⟩ := trim_head l c t e
      refine ⟨h1, h2, fun h => ?_⟩
      exfalso
      apply hp
      rw [e, h]
      unfold parB; simp
theorem beh_fr (l : List Int) : Fr (behZ l) := bhF_fr _ l (Nat.lt_succ_self _)
theorem we_pos {x : List Int} (h : Fr x) (hx : x ≠ []) : 0 < weZ x ∧ weZ x ≤ x.length := by
  obtain ⟨c, t, rfl⟩ : ∃ c t, x = c :: t := by
    cases x with
    | nil => exact absurd rfl hx
    | cons c b => exact ⟨c, b, rfl⟩
  obtain ⟨h1, h2, h3⟩ := h c t rfl
  unfold weZ
  rcases any_range [32, 9, 40] (c :: t) with q | ⟨k, q, hk⟩
  · rw [q, if_pos (.inl (by decide)), List.length_cons]; omega
  · rw [q]
    cases k with
    | succ k => split <;> (try rw [List.length_cons]) <;> (try rw [List.length_cons] at hk) <;> omega
    | zero =>
      have hc : c = 40 := by
        unfold anyI at q
        split at q
        · by_cases hc : ([32, 9, 40] : List Int).contains c = true
          · simp at hc; omega
          · rw [List.takeWhile_cons_of_pos (by simpa using hc)] at q
            simp at q; omega
        · cases q
      rw [if_pos]
      · rw [List.length_cons]; omega
      · refine .inr ⟨?_, ?_⟩
        · simpa using hc
        · simpa using h3 hc
theorem ws_fuel : ∀ (n m : Nat) (x : List Int), Fr x → x.length < n → x.length < m → wsF n x = wsF m x := by
  intro n
  induction n with
  | zero => intro m x _ h; omega
  | succ n ih =>
    intro m x hf h1 h2
    cases m with
    | zero => omega
    | succ m =>
      rw [wsF, wsF]
      split
      · rfl
      · rename_i hx
        have hp := we_pos hf hx
        have hl := beh_len (x.drop (weZ x).toNat)
        rw [List.length_drop] at hl
        rw [ih m _ (beh_fr _) (by omega) (by omega)]
theorem ws_step {x : List Int} (hf : Fr x) (hx : x ≠ []) : wsZ x = x.take (weZ x).toNat :: wsZ (behZ (x.drop (weZ x).toNat)) := by
  have hp := we_pos hf hx
  have hl := beh_len (x.drop (weZ x).toNat)
  rw [List.length_drop] at hl
  unfold wsZ
  rw [wsF, if_neg hx, ws_fuel x.length _ _ (beh_fr _) (by omega) (Nat.lt_succ_self _)]
theorem ws_nil : wsZ [] = [] := rfl
/-- Words that have something. -/
def Wds (L : List (List Int)) (n : Nat) : Prop := ∀ a ∈ L, 0 < a.length ∧ a.length ≤ n
theorem ws_wds : ∀ (n : Nat) (x : List Int), Fr x → x.length < n → Wds (wsF n x) x.length
  | 0, x, _, h => by omega
  | n + 1, x, hf, h => by
    rw [wsF]
    split
    · intro a ha; cases ha
    · rename_i hx
      have hp := we_pos hf hx
      have hl := beh_len (x.drop (weZ x).toNat)
      rw [List.length_drop] at hl
      intro a ha
      rcases List.mem_cons.1 ha with rfl | ha
      · rw [List.length_take]; omega
      · have := ws_wds n _ (beh_fr _) (by omega) a ha
        omega
/-- All but the blocks of O lies as it lay. -/
def Tk (O : Nat → Prop) (V V' : World) : Prop := V'.os = V.os ∧ V'.tape = V.tape ∧ V'.output = V.output ∧ V.heap.size ≤ V'.heap.size ∧ ∀ b, b < V.heap.size → ¬ O b → V'.heap[b]? = V.heap[b]?
theorem Tk.refl (O : Nat → Prop) (V : World) : Tk O V V := ⟨rfl, rfl, rfl, Nat.le_refl _, fun _ _ _ => rfl⟩
theorem Tk.trans {O : Nat → Prop} {U V W : World} (h : Tk O U V) (k : Tk O V W) : Tk O U W :=
  ⟨k.1.trans h.1, k.2.1.trans h.2.1, k.2.2.1.trans h.2.2.1, Nat.le_trans h.2.2.2.1 k.2.2.2.1, fun b hb hO => (k.2.2.2.2 b (by have := h.2.2.2.1; omega) hO).trans (h.2.2.2.2 b hb hO)⟩
theorem Tk.mono {O O' : Nat → Prop} {V W : World} (h : Tk O V W) (hO : ∀ b, O b → O' b) : Tk O' V W :=
  ⟨h.1, h.2.1, h.2.2.1, h.2.2.2.1, fun b hb q => h.2.2.2.2 b hb (fun r => q (hO b r))⟩
theorem Tk.of_below {O : Nat → Prop} {V W : World} (h : Below V.heap.size V W) : Tk O V W := ⟨h.os, h.tape, h.output, h.size, fun b hb _ => h.block b hb⟩
theorem Tk.alloc (O : Nat → Prop) (V : World) (o : Obj) : Tk O V (V.alloc o) := .of_below (keep V o)
theorem Tk.set {O : Nat → Prop} (V : World) (b i : Nat) (v : Value) (hO : O b) : Tk O V (V.setCell ⟨b, i, none⟩ v) := by
  have h := (Below.refl 0 V).setCell (p := ⟨b, i, none⟩) (Nat.zero_le _) v
  exact ⟨h.os, h.tape, h.output, h.size, fun k _ hk => heap_setCell_other _ _ _ _ (by rintro rfl; exact hk hO)⟩
theorem Tk.put {O : Nat → Prop} (V : World) (b : Nat) (o : Obj) (hO : O b) : Tk O V (V.putObj b o) := by
  have h := (Below.refl 0 V).grown (grownBy_putObj' V b o) (Nat.zero_le _) (fun k e => Nat.zero_le _)
  exact ⟨h.os, h.tape, h.output, h.size, fun k _ hk => World.putObj_heap_other (by rintro rfl; exact hk hO)⟩
theorem Tk.size {O : Nat → Prop} {V W : World} (h : Tk O V W) : V.heap.size ≤ W.heap.size := h.2.2.2.1
theorem Tk.kept {O : Nat → Prop} {V W : World} (h : Tk O V W) {b : Nat} {o : Obj} (hb : V.heap[b]? = some o) (hO : ¬ O b) : W.heap[b]? = some o := (h.2.2.2.2 b (Array.getElem?_eq_some_iff.1 hb).1 hO).trans hb
/-- An iterator: it hands on xs in their order, till it is stopped. -/
def ItG (n K : Nat) (caps : List Value) (O : Nat → Prop) (xs : List (Array Value)) (G : World → Prop) (W : World) : Prop :=
  ∀ (lp : Nat) (J : Nat → World → Prop) (Jx : World → Prop), (∀ k V V', J k V → Tk O V V' → J k V') → (∀ V V', Jx V → Tk O V V' → Jx V') → (∀ k V, J k V → G V) →
    (∀ k x V, xs[k]? = some x → J k V → (∀ b, O b → b < V.heap.size) → YieldAt Fence.wide (n - 1) Tryd.prog lp x V fun e V' => (e = .returned (.bool true) ∧ J (k + 1) V' ∧ ∀ b, O b → V'.heap[b]? = V.heap[b]?) ∨ (e = .returned (.bool false) ∧ Jx V' ∧ ∀ b, O b → V'.heap[b]? = V.heap[b]?)) →
    J 0 W → CallsIn Fence.wide n Tryd.prog K (.func (.yield lp) #[] #[] :: caps).toArray W fun e W' => (∃ v, e = .returned v) ∧ (J xs.length W' ∨ Jx W')
/-- How a round is left. -/
def leaveG (I : Nat → World → Prop) (Ix : Code → World → Prop) (k : Nat) (O : Nat → Prop) (W : World) : Exit → Act → World → Prop
  | .normal, _, W' => I k W' ∧ ∀ b, O b → W'.heap[b]? = W.heap[b]?
  | .ret, _, W' => Ix .ret W' ∧ ∀ b, O b → W'.heap[b]? = W.heap[b]?
  | .goto t, _, W' => Ix (.goto t) W' ∧ ∀ b, O b → W'.heap[b]? = W.heap[b]?
  | .exit t, _, W' => Ix (.exit t) W' ∧ ∀ b, O b → W'.heap[b]? = W.heap[b]?
  | _, _, _ => False
set_option maxHeartbeats 2000000 in
theorem range_g {g : Operand} {ps : Array Tmp} {assign body : Code} {Q : Exit → Act → World → Prop} {a : Act} {w : World} (n : Nat) (K : Nat) (caps : List Value) (O : Nat → Prop) (xs : List (Array Value)) (G : World → Prop)
    (hit : ∀ W, Below w.heap.size w W → W.heap.size = w.heap.size + 2 → ItG (n - 1) K caps O xs G W)
    (hO : ∀ b, O b → b ≠ w.heap.size ∧ b ≠ w.heap.size + 1)
    (hps : ∀ (k : Nat) x, xs[k]? = some x → x.size = ps.size)
    (hg : a.eval g = .func (.func K) #[] caps.toArray)
    (hen : ∀ args w, (callFunc K args).run Tryd.prog w = .ok (.enter K args) w)
    (I : Nat → World → Prop) (Ix : Code → World → Prop)
    (hI : ∀ k W W', I k W → Tk (fun b => O b ∨ b = w.heap.size + 1) W W' → I k W')
    (hIx : ∀ c W W', Ix c W → Tk (fun b => O b ∨ b = w.heap.size + 1) W W' → Ix c W')
    (hG : ∀ k W, I k W → G W)
    (h0 : I 0 w) (a₁ : Array Value → Act)
    (hassign : ∀ (l k : Nat) (x : Array Value) (W : World) (K : Act → World → Prop), xs[k]? = some x → K (a₁ x) W → assign.wpIn (Fence.wide.inRound l) (n - 1 - 1) Tryd.prog (Exit.then K (fun _ _ _ => False)) { tmps := (ps.zip x).foldl (fun t (q, v) => t.setIfInBounds q v) a.tmps, defers := [] } W)
    (hbody : ∀ (l : Nat) (k : Nat) (x : Array Value) (W : World), xs[k]? = some x → I k W → w.heap.size + 2 ≤ W.heap.size → (∀ b, O b → b < W.heap.size) → body.wpIn (Fence.wide.inRound l) (n - 1 - 1) Tryd.prog (leaveG I Ix (k + 1) (fun b => O b ∨ b = w.heap.size ∨ b = w.heap.size + 1) W) (a₁ x) W)
    (hdone : ∀ (W : World), I xs.length W → W.heap[w.heap.size]? = some (.deferred (some [])) → Q .normal { a with defers := { target := .collected w.heap.size, args := #[] } :: a.defers } W)
    (hstop : ∀ (c : Code) (W : World), Ix c W → W.heap[w.heap.size]? = some (.deferred (some [])) → c.wpIn Fence.wide n Tryd.prog Q { a with defers := { target := .collected w.heap.size, args := #[] } :: a.defers } W) :
    (Code.rangeFunc g ps assign body).wpIn Fence.wide n Tryd.prog Q a w := by
  refine wpIn_rangeFunc ?_
  intro fn hfn
  obtain ⟨rec, hrec⟩ : ∃ rec : LoopState → Option Code → Loop, rec = fun st pe => { state := st, pending := pe, fn, tmps := a.tmps, params := ps, assign, body, defers := w.heap.size } := ⟨_, rfl⟩
  obtain ⟨W1, hW1⟩ : ∃ W1, (w.alloc (.deferred (some []))).alloc (.loop (rec .ready none)) = W1 := ⟨_, rfl⟩
  have hL1 : W1.heap[w.heap.size + 1]? = some (.loop (rec .ready none)) := by
    have h := World.alloc_heap_new (w.alloc (.deferred (some []))) (.loop (rec .ready none))
    rw [World.size_alloc] at h
    rw [← hW1]; exact h
  have hD1 : W1.heap[w.heap.size]? = some (.deferred (some [])) := by
    rw [← hW1, Below.heap_alloc _ _ _ (by simp)]; exact World.alloc_heap_new w _
  have hB1 : Below w.heap.size w W1 := by rw [← hW1]; exact (keep w _).alloc (by simp) _
  have hz1 : W1.heap.size = w.heap.size + 2 := by rw [← hW1]; simp
  have hi1 : I 0 W1 := hI _ _ _ h0 (.of_below hB1)
  refine ⟨w.heap.size + 1, [{ target := .collected w.heap.size, args := #[] }], W1, { target := .fn (.func K) caps.toArray, args := #[.func (.yield (w.heap.size + 1)) #[] #[]] }, W1, K, (.func (.yield (w.heap.size + 1)) #[] #[] :: caps).toArray, W1, ?_, ?_, fun _ _ => trivial, ?_, fun h => (by cases h), ?_⟩
  · rw [← hW1, hrec]; exact run_enterLoop_outer _ _ _ _ _
  · simp only [resolve, hg]
    simp [go_sem]
  · simp [invoke, go_sem, hen]
  · refine (hit W1 hB1 hz1 (w.heap.size + 1)
      (fun k W => I k W ∧ W.heap[w.heap.size + 1]? = some (.loop (rec .ready none)) ∧ W.heap[w.heap.size]? = some (.deferred (some [])))
      (fun W => ∃ c, Ix c W ∧ W.heap[w.heap.size + 1]? = some (.loop (rec .done (some c))) ∧ W.heap[w.heap.size]? = some (.deferred (some [])))
      ?_ ?_ (fun k W h => hG k W h.1) ?_ ⟨hi1, hL1, hD1⟩).mono ?_
    · rintro k W W' ⟨h1, h2, h3⟩ ht
      exact ⟨hI _ _ _ h1 (ht.mono fun b hb => .inl hb), ht.kept h2 (fun q => (hO _ q).2 rfl), ht.kept h3 (fun q => (hO _ q).1 rfl)⟩
    · rintro W W' ⟨c, h1, h2, h3⟩ ht
      exact ⟨c, hIx _ _ _ h1 (ht.mono fun b hb => .inl hb), ht.kept h2 (fun q => (hO _ q).2 rfl), ht.kept h3 (fun q => (hO _ q).1 rfl)⟩
    · rintro k x W hx ⟨h1, h2, h3⟩ hob
      have hlt : w.heap.size + 1 < W.heap.size := (Array.getElem?_eq_some_iff.1 h2).1
      have hy := run_yield (P := Tryd.prog) (args := x) h2 (by rw [hrec]; exact hps k x hx)
      rw [hrec] at hy
      refine ⟨fn, _, assign, body, hy, roundIn_of_wpIn hfn (hassign _ k x W _ hx ?_)⟩
      refine ⟨_, run_beginRound h2 (by rw [hrec]), ?_⟩
      have hl2 : (W.putObj (w.heap.size + 1) (.loop { rec .ready none with state := .busy })).heap[w.heap.size + 1]? = some (.loop { rec .ready none with state := .busy }) := World.putObj_heap_same hlt
      have hd2 : (W.putObj (w.heap.size + 1) (.loop { rec .ready none with state := .busy })).heap[w.heap.size]? = some (.deferred (some [])) := (World.putObj_heap_other (by omega)).trans h3
      have ht2 : Tk (fun b => O b ∨ b = w.heap.size + 1) W (W.putObj (w.heap.size + 1) (.loop { rec .ready none with state := .busy })) := Tk.put _ _ _ (.inr rfl)
      have hi2 := hI _ _ _ h1 ht2
      have ho2 : ∀ b, O b → (W.putObj (w.heap.size + 1) (.loop { rec .ready none with state := .busy })).heap[b]? = W.heap[b]? := fun b hb => World.putObj_heap_other (hO b hb).2
      have hz2 := ht2.size
      generalize W.putObj (w.heap.size + 1) (.loop { rec .ready none with state := .busy }) = V at hl2 hd2 hi2 ho2 hz2 ht2
      refine wpIn_mono (hbody _ k x V hx hi2 (by omega) (fun b hb => Nat.lt_of_lt_of_le (hob b hb) hz2)) ?_
      have fin : ∀ (jump : Option Code) (W3 : World), (∀ b, O b ∨ b = w.heap.size ∨ b = w.heap.size + 1 → W3.heap[b]? = V.heap[b]?) →
          (Instr.endRound (w.heap.size + 1) jump).run Tryd.prog W3 = .ok (.bool jump.isNone) (W3.putObj (w.heap.size + 1) (.loop (rec (if jump.isNone then .ready else .done) jump))) ∧
          (W3.putObj (w.heap.size + 1) (.loop (rec (if jump.isNone then .ready else .done) jump))).heap[w.heap.size + 1]? = some (.loop (rec (if jump.isNone then .ready else .done) jump)) ∧
          (W3.putObj (w.heap.size + 1) (.loop (rec (if jump.isNone then .ready else .done) jump))).heap[w.heap.size]? = some (.deferred (some [])) := fun jump W3 hk3 => by
        have hl3 := (hk3 _ (.inr (.inr rfl))).trans hl2
        have hd3 := (hk3 _ (.inr (.inl rfl))).trans hd2
        have := run_endRound (P := Tryd.prog) jump hl3
        rw [hrec] at this ⊢
        exact ⟨this, World.putObj_heap_same (Array.getElem?_eq_some_iff.1 hl3).1, (World.putObj_heap_other (by omega)).trans hd3⟩
      rintro e a3 W3 hq
      cases e with
      | normal =>
        obtain ⟨hi3, hk3⟩ := hq
        obtain ⟨hr, hl4, hd4⟩ := fin none W3 hk3
        exact ⟨_, _, hr, .inl ⟨rfl, ⟨hI _ _ _ hi3 (Tk.put _ _ _ (.inr rfl)), hl4, hd4⟩, fun b hb => (World.putObj_heap_other (hO b hb).2).trans ((hk3 b (.inl hb)).trans (ho2 b hb))⟩⟩
      | ret =>
        obtain ⟨hi3, hk3⟩ := hq
        obtain ⟨hr, hl4, hd4⟩ := fin (some .ret) W3 hk3
        exact ⟨_, _, hr, .inr ⟨rfl, ⟨.ret, hIx _ _ _ hi3 (Tk.put _ _ _ (.inr rfl)), hl4, hd4⟩, fun b hb => (World.putObj_heap_other (hO b hb).2).trans ((hk3 b (.inl hb)).trans (ho2 b hb))⟩⟩
      | goto t =>
        obtain ⟨hi3, hk3⟩ := hq
        obtain ⟨hr, hl4, hd4⟩ := fin (some (.goto t)) W3 hk3
        exact ⟨_, _, hr, .inr ⟨rfl, ⟨.goto t, hIx _ _ _ hi3 (Tk.put _ _ _ (.inr rfl)), hl4, hd4⟩, fun b hb => (World.putObj_heap_other (hO b hb).2).trans ((hk3 b (.inl hb)).trans (ho2 b hb))⟩⟩
      | exit t =>
        obtain ⟨hi3, hk3⟩ := hq
        obtain ⟨hr, hl4, hd4⟩ := fin (some (.exit t)) W3 hk3
        exact ⟨_, _, hr, .inr ⟨rfl, ⟨.exit t, hIx _ _ _ hi3 (Tk.put _ _ _ (.inr rfl)), hl4, hd4⟩, fun b hb => (World.putObj_heap_other (hO b hb).2).trans ((hk3 b (.inl hb)).trans (ho2 b hb))⟩⟩
      | panic ch => exact hq.elim
      | outgrown => exact hq.elim
    · rintro e W2 ⟨⟨v, rfl⟩, (⟨h1, h2, h3⟩ | ⟨c, h1, h2, h3⟩)⟩
      · exact ⟨none, _, by have := run_endLoop (P := Tryd.prog) h2 (by rw [hrec]; simp); rw [hrec] at this; exact this, hdone _ (hI _ _ _ h1 (Tk.put _ _ _ (.inr rfl))) ((World.putObj_heap_other (by omega)).trans h3)⟩
      · exact ⟨some c, _, by have := run_endLoop (P := Tryd.prog) h2 (by rw [hrec]; simp); rw [hrec] at this; exact this, hstop _ _ (hIx _ _ _ h1 (Tk.put _ _ _ (.inr rfl))) ((World.putObj_heap_other (by omega)).trans h3)⟩
theorem round_wide {n m l l' : Nat} {P : Program} {fn : FuncId} {tmps : Array Value} {assign body : Code} {W : World} {R : Ending → World → Prop} (h : RoundIn Fence.wide n P l fn tmps assign body W R) : RoundIn (Fence.wide.inRound l') m P l fn tmps assign body W R :=
  ⟨trivial, fun c cs _ => h.2 c cs (room_wide _)⟩
theorem own_tk {O : Nat → Prop} {V V' : World} {B e sz n : Nat} {v : Value} {xs : List Value} (h : V.ownsRow B e sz v n xs) (ht : Tk O V V') (hO : ∀ b, O b → b < B) : V'.ownsRow B e sz v n xs := by
  refine ⟨h.1, ?_⟩
  rcases h.2 with h | ⟨g, cap, cur, h1, h2, h3, h4⟩
  · exact .inl h
  · exact .inr ⟨g, cap, cur, h1, h2, ht.kept h3 (fun q => by have := hO g q; omega), h4⟩
theorem own_set {w : World} {B e size : Nat} {v : Value} {n : Nat} {xs : List Value} {f o : Nat} {u : Value} (hf : f < B) (h : w.ownsRow B e size v n xs) : (w.setCell ⟨f, o, none⟩ u).ownsRow B e size v n xs := by
  refine ⟨h.1, ?_⟩
  rcases h.2 with h | ⟨g, cap, cur, h1, h2, h3, h4⟩
  · exact .inl h
  · refine .inr ⟨g, cap, cur, h1, h2, ?_, h4⟩
    rw [heap_setCell_other _ _ _ _ (by simp; omega)]
    exact h3
theorem ownS_view {W : World} {B : Nat} {v : Value} {xs : List ByteArray} (h : W.ownsRow B 9 1 v xs.length (xs.map Value.string)) : ∃ a cap, v = .slice a xs.length cap ∧ (xs = [] ∨ ∃ g, a = some ⟨g, 0, none⟩ ∧ ∀ i x, xs[i]? = some x → W.cell? ⟨g, i, none⟩ = some (.string x)) := by
  rcases h.2 with ⟨rfl, hn⟩ | ⟨g, cap, cur, rfl, hb, hg, hn, hm, hss, ht⟩
  · exact ⟨none, 0, by rw [hn], .inl (List.eq_nil_of_length_eq_zero hn)⟩
  · refine ⟨some ⟨g, 0, none⟩, cap, rfl, .inr ⟨g, rfl, fun i x hx => ?_⟩⟩
    have hc := h.cells (g := g) rfl i (.string x) (by rw [List.getElem?_map, hx]; rfl)
    rw [add_plain] at hc
    simpa using hc
/-- The values that words hands on. -/
def wordsV (l : List Int) : List (Array Value) := (wsZ (behZ l)).map fun a => #[.string (strOfNums a)]
theorem bhF_mem : ∀ (n : Nat) (l : List Int), ∀ x ∈ bhF n l, x ∈ l
  | 0, l, x, h => h
  | n + 1, l, x, h => by
    obtain ⟨b, e, _⟩ := trim_split l
    have ht : ∀ y ∈ trimQ l, y ∈ l := fun y hy => by rw [e]; exact List.mem_append_right _ hy
    unfold bhF at h
    split at h
    · split at h
      · exact ht x h
      · exact ht x (List.mem_of_mem_drop (bhF_mem n _ x h))
    · exact ht x h
theorem wsF_byt : ∀ (n : Nat) (x : List Int), (∀ c ∈ x, 0 ≤ c ∧ c < 256) → ∀ a ∈ wsF n x, ∀ c ∈ a, 0 ≤ c ∧ c < 256
  | 0, x, _, a, ha => by cases ha
  | n + 1, x, h, a, ha => by
    rw [wsF] at ha
    split at ha
    · cases ha
    · rcases List.mem_cons.1 ha with rfl | ha
      · exact fun c hc => h c (List.mem_of_mem_take hc)
      · exact wsF_byt n _ (fun c hc => h c (List.mem_of_mem_drop (bhF_mem _ _ c hc))) a ha
theorem ws_byt {x : List Int} (h : ∀ c ∈ x, 0 ≤ c ∧ c < 256) : ∀ a ∈ wsZ x, ∀ c ∈ a, 0 ≤ c ∧ c < 256 := wsF_byt _ _ h
/-- What is written of a date, as a list of words. -/
def listZ (l : List Int) : List (List Int) := (wsZ (behZ l)).take 8
set_option maxRecDepth 100000 in
theorem beh_byt {l : List Int} (h : Byt l) : Byt (behZ l) := fun x hx => h x (bhF_mem _ _ x hx)
set_option maxRecDepth 100000 in
theorem words_any (s : ByteArray) (w : World) : Calls Tryd.prog 29 #[.string s] w fun e w' => e = .returned (.func (.func 48) #[] #[.pointer (some ⟨w.heap.size, 0, none⟩)]) ∧ w' = w.alloc (.cells #[.string s] 9) := by
  go_enter Tryd.func29, Tryd.ntmps29
  go_wp2
  go_ret
  exact ⟨rfl, rfl⟩
set_option maxRecDepth 100000 in
set_option maxHeartbeats 8000000 in
theorem words_iter (n : Nat) (hn : 2 ≤ n) (Bs : Nat) (s : ByteArray) (hs : s.size ≤ 100000000) (W : World) (h0 : Sx W Bs s) : ItG n 48 [.pointer (some ⟨Bs, 0, none⟩)] (fun _ => False) (wordsV (nums s)) (fun _ => True) W := by
  intro lp J Jx hJ hJx hG hY hj
  have c0 := h0.cell
  have hbeh := behind_any s W hs (nums_byt s)
  have hbz := beh_byt (nums_byt s)
  have hbl := beh_len (nums s)
  have hfr := beh_fr (nums s)
  rw [nums_len] at hbl
  have HV : Hid (∀ (k : Nat) (a : List Int), (wsZ (behZ (nums s)))[k]? = some a → (wordsV (nums s))[k]? = some #[.string (strOfNums a)]) := fun k a h => by unfold wordsV; rw [List.getElem?_map, h]; rfl
  have HLV : Hid ((wordsV (nums s)).length = (wsZ (behZ (nums s))).length) := by unfold Hid wordsV; rw [List.length_map]
  obtain ⟨B, hB⟩ : ∃ B, behZ (nums s) = B := ⟨_, rfl⟩
  rw [hB] at hbeh hbz hbl hfr HV HLV
  obtain ⟨t, ht⟩ : ∃ t, strOfNums B = t := ⟨_, rfl⟩
  have hnt : nums t = B := by rw [← ht]; exact nums_str hbz
  have hts : t.size ≤ 100000000 := by rw [← nums_len, hnt]; omega
  rw [ht] at hbeh
  rw [← hnt] at hfr HV HLV
  obtain ⟨L, hL⟩ : ∃ L, wsZ (nums t) = L := ⟨_, rfl⟩
  rw [hL] at HV HLV
  have HFR : Hid (Fr (nums t)) := hfr
  have HL : Hid (wsZ (nums t) = L) := hL
  obtain ⟨xs, hxs⟩ : ∃ xs, wordsV (nums s) = xs := ⟨_, rfl⟩
  rw [hxs] at HV HLV hY ⊢
  have HJ : Hid (∀ k V V', J k V → Tk (fun _ => False) V V' → J k V') := hJ
  have HJX : Hid (∀ V V', Jx V → Tk (fun _ => False) V V' → Jx V') := hJx
  have HY : Hid _ := hY
  have HJ0 : Hid (J 0 W) := hj
  have HBEH : Hid _ := hbeh
  clear hB hbz hbl hfr ht hnt hL hxs hJ hJx hG hY hj h0 hbeh
  refine callsIn_of_wp Tryd.func48 rfl trivial ?_ rfl
  simp only [Tryd.ntmps48, List.size_toArray, List.length_cons, List.length_nil, Nat.reduceAdd, Nat.reduceSub, Array.replicate_succ, Array.replicate_zero, List.push_toArray, List.append_toArray, List.nil_append, List.cons_append]
  gi_wp2_with fail
  refine ⟨trivial, fun _ => by omega, (callsIn_wide.2 HBEH.out).mono ?_⟩
  rintro e w1 ⟨rfl, hb1⟩
  have HJ1 : Hid (J 0 w1) := HJ.out _ _ _ HJ0.out (.of_below hb1)
  clear hb1 c0 HBEH HJ0
  gi_wp2
  gi_loopw [3, 4] (fun v b wr => ∃ (k : Nat) (x : ByteArray), v = .string x ∧ x.size ≤ 100000000 ∧ Hid (J k wr ∧ Fr (nums x) ∧ wsZ (nums x) = L.drop k ∧ k + (wsZ (nums x)).length = L.length)) (fun v b _ => strSize v)
  case atStart => exact ⟨0, t, rfl, hts, HJ1.out, HFR.out, by rw [HL.out]; rfl, by rw [HL.out]; omega⟩
  case round =>
    obtain ⟨k, x, rfl, hxz, HR⟩ := hrel
    clear hts HJ1 HFR HL
    by_cases hx0 : x.size = 0
    · have hxe : x = ⟨#[]⟩ := nums_inj (List.eq_nil_of_length_eq_zero (by rw [nums_len]; omega))
      subst hxe
      have HF : Hid (J xs.length wr) := by
        obtain ⟨h1, h2, h3, h4⟩ := HR.out
        have : wsZ (nums (⟨#[]⟩ : ByteArray)) = [] := rfl
        rw [this] at h4
        unfold Hid
        rw [HLV.out, ← h4]
        exact h1
      clear HR hxz hx0
      gi_wp2
      go_end0
      exact ⟨⟨_, rfl⟩, .inl HF.out⟩
    · have hxne : nums x ≠ [] := fun h => by have := congrArg List.length h; rw [nums_len] at this; exact hx0 this
      have hd1 : (x.toList == (⟨#[]⟩ : ByteArray).toList) = false := by
        rw [eq_nums, decide_eq_false_iff_not]; exact hxne
      have hd2 : ¬ x.toList = [] := by
        intro h
        have h' : x.toList = (⟨#[]⟩ : ByteArray).toList := h.trans (by rw [ByteArray.toList_eq])
        rw [h'] at hd1; simp at hd1
      have hd3 : x.toList.isEmpty = false := by rw [List.isEmpty_eq_false_iff]; exact hd2
      obtain ⟨h1, h2, h3, h4⟩ := HR.out
      have hp := we_pos h2 hxne
      rw [nums_len] at hp
      have hst := ws_step h2 hxne
      have hwe := wordEnd_any x wr hxz
      obtain ⟨m, hm⟩ : ∃ m : Nat, weZ (nums x) = m := ⟨(weZ (nums x)).toNat, by omega⟩
      rw [hm] at hp hst hwe
      rw [Int.toNat_natCast] at hst
      have m0 : (0 : Int) ≤ (m : Int) := by omega
      have m1 : (m : Int) ≤ (x.size : Int) := by omega
      have m2 : m ≤ x.size := by omega
      have m3 : 0 < m := by omega
      have hvk : xs[k]? = some #[.string (x.extract 0 m)] := by
        have := HV.out k ((nums x).take m) (by rw [← List.head?_drop, ← h3, hst]; rfl)
        rw [← nums_to, str_nums] at this
        exact this
      have hbeh2 : ∀ V, Calls Tryd.prog 49 #[.string (x.extract m x.size)] V fun e w' => e = .returned (.string (strOfNums (behZ (nums (x.extract m x.size))))) ∧ Below V.heap.size V w' := fun V => behind_any (x.extract m x.size) V (by rw [ByteArray.size_extract]; omega) (nums_byt _)
      rw [nums_from] at hbeh2
      have hbz2 : Byt (behZ ((nums x).drop m)) := beh_byt ((nums_byt x).drop m)
      have hbl2 := beh_len ((nums x).drop m)
      rw [List.length_drop, nums_len] at hbl2
      have hfr2 := beh_fr ((nums x).drop m)
      obtain ⟨y, hy⟩ : ∃ y, strOfNums (behZ ((nums x).drop m)) = y := ⟨_, rfl⟩
      have hny : nums y = behZ ((nums x).drop m) := by rw [← hy]; exact nums_str hbz2
      have hyz : y.size ≤ x.size - m := by rw [← nums_len, hny]; exact hbl2
      rw [hy] at hbeh2
      rw [← hny] at hst hfr2
      have HBEH2 : Hid _ := hbeh2
      have HST : Hid (wsZ (nums y) = L.drop (k + 1) ∧ k + 1 + (wsZ (nums y)).length = L.length ∧ Fr (nums y)) := by
        refine ⟨?_, ?_, hfr2⟩
        · rw [← List.drop_drop, ← h3, hst]; rfl
        · rw [hst, List.length_cons] at h4; omega
      have HVK : Hid (xs[k]? = some #[.string (x.extract 0 m)]) := hvk
      have HJK : Hid (J k wr) := h1
      clear h1 h2 h3 h4 HR hst hvk hbeh2 hbz2 hbl2 hfr2 hy hny hp hm hxne HV HLV
      gi_wp2_with fail
      refine ⟨trivial, fun _ => by omega, (callsIn_wide.2 hwe).mono ?_⟩
      rintro e w2 ⟨rfl, hb2⟩
      have HJ2 : Hid (J k w2) := HJ.out _ _ _ HJK.out (.of_below hb2)
      clear hb2 hwe HJK
      obtain ⟨fn, tmps, assign, body, hy, hRd⟩ := HY.out k _ w2 HVK.out HJ2.out (fun b hb => hb.elim)
      gi_wp2
      refine ⟨fun _ => by omega, hRd.mono ?_⟩
      rintro e V3 (⟨rfl, hJ3, _⟩ | ⟨rfl, hJx3, _⟩)
      · clear hy hRd
        gi_wp2_with fail
        refine ⟨trivial, fun _ => by omega, (callsIn_wide.2 (HBEH2.out _)).mono ?_⟩
        rintro e w4 ⟨rfl, hb4⟩
        have HJ4 : Hid (J (k + 1) w4) := HJ.out _ _ _ hJ3 (.of_below hb4)
        clear hb4 hJ3
        gi_wp2
        go_roundw
        case rel => exact ⟨k + 1, y, rfl, by omega, HJ4.out, HST.out.2.2, HST.out.1, HST.out.2.1⟩
        case measure => simp [strSize]; omega
      · clear hy hRd
        gi_wp2
        refine bodyPost_ret (results_none rfl _ _ _) rfl ?_
        exact ⟨⟨_, rfl⟩, .inr hJx3⟩
end Go.Proofs.YtomcjkghneingabDoor
