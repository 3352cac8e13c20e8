/-
  The contract of Decode: what stands between the blanks, one by one.
-/
import Derived.Test.YtnhbmekhmkkccaaDoorRg
import Derived.Lib.BufStepsIn
namespace Go.Proofs.YtnhbmekhmkkccaaDoor
open Go.RowKit Go.Shelf
set_option linter.unusedVariables false
attribute [local go_sem] Oper.semAt_some

theorem wpListIn_append_str {F : Fence} {n' : Nat} {P : Program} {ops : Array Oper} {rest : List Oper} {o : Oper} {a : Act} {Q : Exit → Act → World → Prop} (w : World) (hgd : o.guard = none) (sl x : Operand) (t u : TypeId)
    (ho : o.op = .call { callee := .builtin .append, args := #[sl, x], argTypes := #[t, u] })
    (base : Nat) (e : TypeId) (i : TypeInfo) (ht : P.underlying t = some (.slice e)) (hu : P.underlying u = some .string) (hi : P.info? e = some i) (hz : i.zero = some (.int .u8 0))
    (hsize : i.size = 1) (hby : i.bytes = 1)
    (v : Value) (n : Nat) (xs : List Value) (hs : a.eval sl = v) (hown : w.ownsRow base e 1 v n xs) (s : ByteArray) (hx : a.eval x = .string s)
    (h63 : n + s.size ≤ maxLen) (hbytes : n + s.size ≤ 140737488355328) (hbase : base ≤ w.heap.size)
    (h : ∀ v' w', w'.ownsRow base e 1 v' (n + s.size) (xs ++ Lib.strCells s) → w.grownBy w' v.ownBlock → (v' = .slice none 0 0 ↔ v = .slice none 0 0 ∧ s.size = 0) → wpListIn F n' P ops Q rest (a.put o.dst v') w') : wpListIn F n' P ops Q (o :: rest) a w := by
  refine wpListIn_plain hgd fun K hK => ?_
  obtain ⟨v', w', hr, h2, h3, h4⟩ := Lib.run_append_own_string (P := P) w base t u o.type e i ht hu hi hz hsize hby v n xs hown s h63 hbytes hbase
  unfold Oper.wpIn
  refine ⟨?_, ?_⟩
  · simp [Oper.about, ho, resolve, Target.leads, Sem.run_pure]
  · rw [Oper.semAt_plain F _ _ (by rw [ho]; intro c hc'; cases hc')]
    simp [execOp, ho, resolve, invoke, builtin, hs, hx, hr, Result.andThen]
    exact hK _ _ (h v' w' h2 h3 h4)
theorem strCells_nums (s : ByteArray) : Lib.strCells s = (nums s).map (Value.int .u8) := by
  unfold Lib.strCells nums; rw [List.map_map]; rfl
theorem take_len3 {s s' : Bt.Rs} {c i : Int} (h : Bt.takeZ s c i = .inr s') : s'.out.length ≤ s.out.length + 3 := by
  unfold Bt.takeZ at h
  repeat' split at h
  all_goals first
    | (cases h; done)
    | (simp only [Sum.inr.injEq] at h; subst h; simp [Bt.fresh, Bt.bytesD] <;> omega)
    | (simp only [Sum.inr.injEq] at h; subst h; simp [Bt.fresh, Bt.bytesD])
theorem scan_len : ∀ (n : Nat) (l : List UInt8) (i : Int) (s st : Bt.Rs), l.length ≤ n → Bt.scanU i l s = .inr st → st.out.length ≤ s.out.length + 3 * l.length
  | n, [], i, s, st, _, h => by
    rw [Bt.scanU.eq_def] at h
    simp only [Sum.inr.injEq] at h
    subst h; simp
  | 0, c :: r, i, s, st, hn, _ => by simp at hn
  | n + 1, c :: r, i, s, st, hn, h => by
    cases hc : Bt.crlf (c :: r) with
    | true =>
      obtain ⟨q, hq⟩ := Bt.crlf_two hc
      simp only [List.cons.injEq] at hq
      obtain ⟨rfl, rfl⟩ := hq
      rw [Bt.scan_yes] at h
      have := scan_len n q _ s st (by simp at hn; omega) h
      simp; omega
    | false =>
      rw [Bt.scan_no hc] at h
      split at h
      · cases h
      · rename_i s' hs'
        have h1 := scan_len n r _ s' st (by simp at hn; omega) h
        have h2 := take_len3 hs'
        simp; omega
theorem mark_len : ∀ (l : List Int) (k : Nat) (x : List Int), markR k l = some x → x.length ≤ l.length
  | [], k, x, h => by cases k <;> (simp [markR] at h; subst h; simp)
  | c :: r, k + 1, x, h => by
    rw [markR] at h
    have := mark_len r k x h
    simp; omega
  | c :: r, 0, x, h => by
    rw [markR] at h
    repeat' split at h
    all_goals first
      | (cases h; done)
      | (obtain ⟨y, hy, rfl⟩ := Option.map_eq_some_iff.1 h; have := mark_len r _ y hy; simp; omega)
theorem piece_len {c : Int} : ∀ (l q : List Int), q ∈ pieces c l → q.length ≤ l.length
  | [], q, hq => by simp [pieces] at hq; rw [hq]; simp
  | d :: r, q, hq => by
    unfold pieces at hq
    split at hq
    · rcases List.mem_cons.1 hq with rfl | hq
      · simp
      · have := piece_len r q hq; simp; omega
    · have hne := pieces_ne c r
      obtain ⟨p, ps, hps⟩ : ∃ p ps, pieces c r = p :: ps := by cases h : pieces c r with | nil => exact absurd h hne | cons p ps => exact ⟨p, ps, rfl⟩
      have ih := piece_len (c := c) r
      rw [hps] at hq ih
      rcases List.mem_cons.1 hq with rfl | hq
      · have := ih p (by simp); simp; omega
      · have := ih q (by simp at hq ⊢; exact .inr hq); simp; omega
theorem pieces_count {c : Int} : ∀ l : List Int, (pieces c l).length ≤ l.length + 1
  | [] => by simp [pieces]
  | d :: r => by
    have ih := pieces_count (c := c) r
    unfold pieces
    split
    · simp; omega
    · have hne := pieces_ne c r
      obtain ⟨p, ps, hps⟩ : ∃ p ps, pieces c r = p :: ps := by cases h : pieces c r with | nil => exact absurd h hne | cons p ps => exact ⟨p, ps, rfl⟩
      rw [hps] at ih ⊢
      simp at ih ⊢; omega
theorem one_len {l x : List Int} (h : oneR l = some x) : x.length ≤ 300 := by
  unfold oneR at h
  split at h
  · cases h
  · rename_i h75
    split at h
    · rename_i i hi
      have hil : i.length ≤ 75 := by
        unfold innerR at hi
        split at hi
        · simp only [Option.some.injEq] at hi
          rw [← hi, List.length_take, List.length_drop]; omega
        · cases hi
      unfold partsR at h
      split at h
      · rename_i set way txt hp
        have htl := piece_len (c := 63) i txt (by rw [hp]; simp)
        unfold saidR at h
        split at h
        · rename_i said hc
          split at h
          · simp only [Option.some.injEq] at h
            subst h
            unfold contR at hc
            split at hc
            · unfold decB at hc
              split at hc
              · rename_i st hst
                split at hc
                · simp only [Option.some.injEq] at hc
                  subst hc
                  have := scan_len _ _ _ _ _ (Nat.le_refl _) hst
                  simp [Bt.B, Bt.fresh] at this
                  omega
                · cases hc
              · cases hc
            · split at hc
              · have := mark_len _ _ _ hc; omega
              · cases hc
          · cases h
        · cases h
      · cases h
    · cases h
/-- What is read of what stands between the blanks. -/
def decP : Bool → Bool → List (List Int) → List Int
  | _, _, [] => []
  | f, wd, p :: ps => (if f = false ∧ (wd && (oneR p).isSome) = false then [32] else []) ++ (oneR p).getD p ++ decP false (oneR p).isSome ps
def decodeL (l : List Int) : List Int := decP true false (pieces 32 l)
theorem own_set {w : World} {B e size : Nat} {v : Value} {n : Nat} {xs : List Value} {f o : Nat} {u : Value} (hf : f < B) (h : w.ownsRow B e size v n xs) : (w.setCell ⟨f, o, none⟩ u).ownsRow B e size v n xs := by
  refine ⟨h.1, ?_⟩
  rcases h.2 with h | ⟨g, cap, cur, h1, h2, h3, h4⟩
  · exact .inl h
  · refine .inr ⟨g, cap, cur, h1, h2, ?_, h4⟩
    rw [heap_setCell_other _ _ _ _ (by simp; omega)]
    exact h3
theorem below_put {n l : Nat} {w W : World} (h : Below n w W) (hn : n ≤ W.heap.size) (hl : n ≤ l) (o' : Obj) : Below n w (W.putObj l o') :=
  h.trans ((Below.refl n W).grown (grownBy_putObj' W l o') hn (fun k e => by cases e; exact hl))
theorem keepN_below {W W' : World} (h : Below W.heap.size W W') : KeepN W W' := fun k o hk _ => (h.block k (Array.getElem?_eq_some_iff.1 hk).1).trans hk
theorem KeepN.trans {a b c : World} (h : KeepN a b) (k : KeepN b c) : KeepN a c := fun j o hj ho => k j o (h j o hj ho) ho
theorem keepN_set {W : World} (p : Addr) (v : Value) : KeepN W (W.setCell p v) := keepN_of (KeepsOthers.setCell _ _ _)
/-- What lies between two rounds. -/
def DJ (w : World) (s : ByteArray) (v : Value) (pre : List Int) (f wd : Bool) (W : World) : Prop :=
  Below w.heap.size w W ∧ w.heap.size + 4 ≤ W.heap.size ∧ Sx W (w.heap.size + 3) s ∧ W.heap[w.heap.size]? = some (.cells #[v] 31 (0, 0)) ∧ W.heap[w.heap.size + 1]? = some (.cells #[.bool f] 4 (0, 0)) ∧ W.heap[w.heap.size + 2]? = some (.cells #[.bool wd] 4 (0, 0)) ∧ W.ownsRow (w.heap.size + 4) 5 1 v pre.length (pre.map (Value.int .u8))
theorem DJ.below {w : World} {s : ByteArray} {v : Value} {pre : List Int} {f wd : Bool} {W W' : World} (h : DJ w s v pre f wd W) (hb : Below W.heap.size W W') : DJ w s v pre f wd W' := by
  obtain ⟨h1, h2, h3, h4, h5, h6, h7⟩ := h
  have b : ∀ k, k < W.heap.size → W'.heap[k]? = W.heap[k]? := fun k hk => hb.block k hk
  exact ⟨h1.trans (hb.mono (by omega)), Nat.le_trans h2 hb.size, (b _ (by omega)).trans h3, (b _ (by omega)).trans h4, (b _ (by omega)).trans h5, (b _ (by omega)).trans h6, own_keep h7 hb⟩
theorem DJ.put {w : World} {s : ByteArray} {v : Value} {pre : List Int} {f wd : Bool} {W : World} {l : Nat} {o : Obj} (h : DJ w s v pre f wd W) (o' : Obj) (hl : w.heap.size + 4 ≤ l) (ho : W.heap[l]? = some o) (hc : o.isCells = false) : DJ w s v pre f wd (W.putObj l o') := by
  obtain ⟨h1, h2, h3, h4, h5, h6, h7⟩ := h
  exact ⟨below_put h1 (by omega) (by omega) _, by simp; omega, (World.putObj_heap_other (by omega)).trans h3, (World.putObj_heap_other (by omega)).trans h4, (World.putObj_heap_other (by omega)).trans h5, (World.putObj_heap_other (by omega)).trans h6, ownsRow_putObj h7 _ ho hc⟩
/-- Something is put behind the text, and the text is stored. -/
theorem DJ.grow {w : World} {s : ByteArray} {v : Value} {pre x : List Int} {f wd : Bool} {W Wa w2 : World} {v' : Value} (h : DJ w s v pre f wd W) (hb : Below W.heap.size W Wa) (ho : w2.ownsRow (w.heap.size + 4) 5 1 v' (pre ++ x).length ((pre ++ x).map (Value.int .u8))) (hg : Wa.grownBy w2 v.ownBlock) :
    (w2.heap[w.heap.size]? = some (.cells #[v] 31 (0, 0))) ∧ DJ w s v' (pre ++ x) f wd (w2.setCell ⟨w.heap.size, 0, none⟩ v') ∧ KeepN W (w2.setCell ⟨w.heap.size, 0, none⟩ v') := by
  have hA := h.below hb
  obtain ⟨h1, h2, h3, h4, h5, h6, h7⟩ := hA
  have blk : ∀ k, k < w.heap.size + 4 → w2.heap[k]? = Wa.heap[k]? := fun k hk => hg.block k (by omega) (fun e => by have := (h7.lt _ e.symm).1; omega)
  have hB : Below w.heap.size w w2 := h1.grown hg (by omega) (fun k hk => by have := (h7.lt k hk).1; omega)
  have hT : w2.heap[w.heap.size]? = some (.cells #[v] 31 (0, 0)) := (blk _ (by omega)).trans h4
  have hsz : Wa.heap.size ≤ w2.heap.size := hg.size
  have hkp : KeepsOthers Wa w2 := KeepsOthers.of_grownBy hg (fun j o e hj => by
    rcases h7.2 with ⟨q, _⟩ | ⟨g, cp, cur, q, _, hg', _⟩
    · rw [q] at e; cases e
    · rw [q] at e
      obtain rfl : g = j := by simpa [Value.ownBlock] using e
      rw [hg'] at hj
      cases hj
      rfl)
  refine ⟨hT, ⟨hB.setCell (p := ⟨w.heap.size, 0, none⟩) (Nat.le_refl _) _, ?_, (heap_setCell_other _ _ _ _ (by simp)).trans ((blk _ (by omega)).trans h3), heap_setCell_same _ _ 0 _ 31 _ hT, (heap_setCell_other _ _ _ _ (by simp)).trans ((blk _ (by omega)).trans h5), (heap_setCell_other _ _ _ _ (by simp)).trans ((blk _ (by omega)).trans h6), own_set (by omega) ho⟩, (keepN_below hb).trans ((keepN_of hkp).trans (keepN_set _ _))⟩
  have := ((Below.refl 0 w2).setCell (p := ⟨w.heap.size, 0, none⟩) (Nat.zero_le _) v').size
  omega
theorem DJ.flags {w : World} {s : ByteArray} {v : Value} {pre : List Int} {f wd : Bool} {W : World} (h : DJ w s v pre f wd W) (f' wd' : Bool) :
    DJ w s v pre f' wd' ((W.setCell ⟨w.heap.size + 1, 0, none⟩ (.bool f')).setCell ⟨w.heap.size + 2, 0, none⟩ (.bool wd')) ∧ KeepN W ((W.setCell ⟨w.heap.size + 1, 0, none⟩ (.bool f')).setCell ⟨w.heap.size + 2, 0, none⟩ (.bool wd')) := by
  obtain ⟨h1, h2, h3, h4, h5, h6, h7⟩ := h
  refine ⟨⟨(h1.setCell (p := ⟨w.heap.size + 1, 0, none⟩) (by simp) _).setCell (p := ⟨w.heap.size + 2, 0, none⟩) (by simp) _, ?_, (heap_setCell_other _ _ _ _ (by simp)).trans ((heap_setCell_other _ _ _ _ (by simp)).trans h3), (heap_setCell_other _ _ _ _ (by simp)).trans ((heap_setCell_other _ _ _ _ (by simp)).trans h4), (heap_setCell_other _ _ _ _ (by simp)).trans (heap_setCell_same _ _ 0 _ 4 _ h5), heap_setCell_same _ _ 0 _ 4 _ ((heap_setCell_other _ _ _ _ (by simp)).trans h6), own_set (by omega) (own_set (by omega) h7)⟩, (keepN_set _ _).trans (keepN_set _ _)⟩
  have a1 := ((Below.refl 0 W).setCell (p := ⟨w.heap.size + 1, 0, none⟩) (Nat.zero_le _) (.bool f')).size
  have a2 := ((Below.refl 0 (W.setCell ⟨w.heap.size + 1, 0, none⟩ (.bool f'))).setCell (p := ⟨w.heap.size + 2, 0, none⟩) (Nat.zero_le _) (.bool wd')).size
  omega
end Go.Proofs.YtnhbmekhmkkccaaDoor
