/-
  A range over a function that keeps its state in a captured cell; the lines that folded hands on.
-/
import Derived.Test.YtenclgnkogmgiaaDoorFo
namespace Go.Proofs.YtenclgnkogmgiaaDoor
open Go.RowKit Go.Shelf
set_option linter.unusedVariables false
attribute [local go_sem] Oper.semAt_some

theorem Sx.below {w w' : World} {g : Nat} {t : ByteArray} (h : Sx w g t) (hb : Below w.heap.size w w') : Sx w' g t := (hb.block g h.lt).trans h
/-- An iterator with its state in block Bs: whatever holds from value to value holds at its end. -/
def IterS (n K : Nat) (Bs : Nat) (s : ByteArray) (xs : List Value) : Prop :=
  ∀ (lp : Nat) (J : Nat → World → Prop), (∀ k V v, J k V → J k (V.setCell ⟨Bs, 0, none⟩ (.string v))) → (∀ k V V', J k V → Below V.heap.size V V' → J k V') →
    (∀ k x V, xs[k]? = some x → J k V → YieldAt Fence.wide (n - 1) Tryd.prog lp #[x] V fun e V' => e = .returned (.bool true) ∧ J (k + 1) V' ∧ V'.heap[Bs]? = V.heap[Bs]?) →
    ∀ W, Sx W Bs s → J 0 W → CallsIn Fence.wide n Tryd.prog K #[.func (.yield lp) #[] #[], .pointer (some ⟨Bs, 0, none⟩)] W fun e W' => (∃ v, e = .returned v) ∧ J xs.length W'
/-- How a round is left. -/
def leaveF (I : Nat → World → Prop) (k Bs : Nat) (W : World) : Exit → Act → World → Prop
  | .normal, _, W' => I k W' ∧ KeepN W W' ∧ W'.heap[Bs]? = W.heap[Bs]?
  | _, _, _ => False
set_option maxHeartbeats 1000000 in
theorem range_st {g : Operand} {p : Tmp} {assign body : Code} {Q : Exit → Act → World → Prop} {a : Act} {w : World} (n : Nat) (hn : 2 ≤ n) (K Bs : Nat) (s : ByteArray) (xs : List Value)
    (hit : IterS (n - 1) K Bs s xs) (hS : Sx w Bs s)
    (hg : a.eval g = .func (.func K) #[] #[.pointer (some ⟨Bs, 0, none⟩)])
    (I : Nat → World → Prop)
    (hen : ∀ args w, (callFunc K args).run Tryd.prog w = .ok (.enter K args) w)
    (hI1 : ∀ k W v, I k W → I k (W.setCell ⟨Bs, 0, none⟩ (.string v)))
    (hI4 : ∀ k W W', I k W → Below W.heap.size W W' → I k W')
    (hI2 : ∀ k W l o o', I k W → w.heap.size ≤ l → W.heap[l]? = some o → o.isCells = false → I k (W.putObj l o'))
    (h0 : I 0 w) (a₁ : Value → Act)
    (hassign : ∀ (l : Nat) (x : Value) (W : World) (K : Act → World → Prop), K (a₁ x) W → assign.wpIn (Fence.wide.inRound l) (n - 1 - 1) Tryd.prog (Exit.then K (fun _ _ _ => False)) { tmps := ((#[p] : Array Tmp).zip #[x]).foldl (fun t (q, v) => t.setIfInBounds q v) a.tmps, defers := [] } W)
    (hbody : ∀ (l : Nat) (k : Nat) (x : Value) (W : World), xs[k]? = some x → I k W → body.wpIn (Fence.wide.inRound l) (n - 1 - 1) Tryd.prog (leaveF I (k + 1) Bs W) (a₁ x) W)
    (hdone : ∀ (D : Nat) (W : World), w.heap.size ≤ D → I xs.length W → W.heap[D]? = some (.deferred (some [])) → Q .normal { a with defers := { target := .collected D, args := #[] } :: a.defers } W) :
    (Code.rangeFunc g #[p] assign body).wpIn Fence.wide n Tryd.prog Q a w := by
  have hBs := hS.lt
  have hI3 : ∀ k W o, I k W → I k (W.alloc o) := fun k W o h => hI4 k W _ h (keep W o)
  refine wpIn_rangeFunc ?_
  intro fn hfn
  obtain ⟨rec, hrec⟩ : ∃ rec : LoopState → Option Code → Loop, rec = fun st pe => { state := st, pending := pe, fn, tmps := a.tmps, params := #[p], assign, body, defers := w.heap.size } := ⟨_, rfl⟩
  obtain ⟨W1, hW1⟩ : ∃ W1, (w.alloc (.deferred (some []))).alloc (.loop (rec .ready none)) = W1 := ⟨_, rfl⟩
  have hL1 : W1.heap[w.heap.size + 1]? = some (.loop (rec .ready none)) := by
    have h := World.alloc_heap_new (w.alloc (.deferred (some []))) (.loop (rec .ready none))
    rw [World.size_alloc] at h
    rw [← hW1]; exact h
  have hD1 : W1.heap[w.heap.size]? = some (.deferred (some [])) := by
    rw [← hW1, Below.heap_alloc _ _ _ (by simp)]; exact World.alloc_heap_new w _
  have hi1 : I 0 W1 := by rw [← hW1]; exact hI3 _ _ _ (hI3 _ _ _ h0)
  refine ⟨w.heap.size + 1, [{ target := .collected w.heap.size, args := #[] }], W1, { target := .fn (.func K) #[.pointer (some ⟨Bs, 0, none⟩)], args := #[.func (.yield (w.heap.size + 1)) #[] #[]] }, W1, K, #[.func (.yield (w.heap.size + 1)) #[] #[], .pointer (some ⟨Bs, 0, none⟩)], W1, ?_, ?_, fun _ _ => trivial, ?_, fun _ => by omega, ?_⟩
  · rw [← hW1, hrec]; exact run_enterLoop_outer _ _ _ _ _
  · simp only [resolve, hg]
    simp [go_sem]
  · simp [invoke, go_sem, hen]
  · refine (hit (w.heap.size + 1)
      (fun k W => I k W ∧ W.heap[w.heap.size + 1]? = some (.loop (rec .ready none)) ∧ W.heap[w.heap.size]? = some (.deferred (some [])))
      ?_ ?_ ?_ W1 (by rw [← hW1]; exact (hS.below (keep w _)).below (keep _ _)) ⟨hi1, hL1, hD1⟩).mono ?_
    · rintro k W v ⟨h1, h2, h3⟩
      exact ⟨hI1 k W v h1, (heap_setCell_other _ _ _ _ (by simp; omega)).trans h2, (heap_setCell_other _ _ _ _ (by simp; omega)).trans h3⟩
    · rintro k W W' ⟨h1, h2, h3⟩ hb
      exact ⟨hI4 k W W' h1 hb, (hb.block _ (Array.getElem?_eq_some_iff.1 h2).1).trans h2, (hb.block _ (Array.getElem?_eq_some_iff.1 h3).1).trans h3⟩
    · rintro k x W hx ⟨h1, h2, h3⟩
      have hlt : w.heap.size + 1 < W.heap.size := (Array.getElem?_eq_some_iff.1 h2).1
      have hy := run_yield (P := Tryd.prog) (args := #[x]) h2 (by rw [hrec]; rfl)
      rw [hrec] at hy
      refine ⟨fn, _, assign, body, hy, roundIn_of_wpIn hfn (hassign _ x W _ ?_)⟩
      refine ⟨_, run_beginRound h2 (by rw [hrec]), ?_⟩
      have hl2 : (W.putObj (w.heap.size + 1) (.loop { rec .ready none with state := .busy })).heap[w.heap.size + 1]? = some (.loop { rec .ready none with state := .busy }) := World.putObj_heap_same hlt
      have hd2 : (W.putObj (w.heap.size + 1) (.loop { rec .ready none with state := .busy })).heap[w.heap.size]? = some (.deferred (some [])) := (World.putObj_heap_other (by omega)).trans h3
      have hi2 : I k (W.putObj (w.heap.size + 1) (.loop { rec .ready none with state := .busy })) := hI2 _ _ _ _ _ h1 (by omega) h2 rfl
      have hbs2 : (W.putObj (w.heap.size + 1) (.loop { rec .ready none with state := .busy })).heap[Bs]? = W.heap[Bs]? := World.putObj_heap_other (by omega)
      generalize W.putObj (w.heap.size + 1) (.loop { rec .ready none with state := .busy }) = V at hl2 hd2 hi2 hbs2
      refine wpIn_mono (hbody _ k x V hx hi2) ?_
      rintro e a3 W3 hq
      cases e with
      | normal =>
        obtain ⟨hi3, hkn, hbs3⟩ := hq
        have hl3 := hkn _ _ hl2 rfl
        have hd3 := hkn _ _ hd2 rfl
        have hr := run_endRound (P := Tryd.prog) none hl3
        refine ⟨_, _, hr, rfl, ⟨hI2 _ _ _ _ _ hi3 (by omega) hl3 rfl, ?_, (World.putObj_heap_other (by omega)).trans hd3⟩, (World.putObj_heap_other (by omega)).trans (hbs3.trans hbs2)⟩
        rw [World.putObj_heap_same (Array.getElem?_eq_some_iff.1 hl3).1, hrec]; rfl
      | ret => exact hq.elim
      | exit id => exact hq.elim
      | goto t => exact hq.elim
      | panic ch => exact hq.elim
      | outgrown => exact hq.elim
    · rintro e W2 ⟨⟨v, rfl⟩, h1, h2, h3⟩
      exact ⟨none, _, by have := run_endLoop (P := Tryd.prog) h2 (by rw [hrec]; simp); rw [hrec] at this; exact this, hdone _ _ (Nat.le_refl _) (hI2 _ _ _ _ _ h1 (by omega) h2 rfl) ((World.putObj_heap_other (by omega)).trans h3)⟩
def restSx (w : World) (g : Nat) : Nat :=
  match w.cell? ⟨g, 0, none⟩ with
  | some (.string t) => t.size
  | _ => 0
theorem restSx_of {w : World} {g : Nat} {t : ByteArray} (h : Sx w g t) : restSx w g = t.size := by unfold restSx; rw [h.cell]
theorem str_add (a b : ByteArray) : strOfNums (nums a ++ nums b) = a ++ b := by rw [← str_append, str_nums, str_nums]
theorem foldZ_ge {n : Nat} {f l : List Int} (h : f.length + l.length ≤ 75) : foldZ n f l = [f ++ l] := by
  cases n with
  | zero => rfl
  | succ n => rw [foldZ, if_neg (by omega)]
set_option maxRecDepth 100000 in
set_option maxHeartbeats 8000000 in
theorem fold_iter (n : Nat) (hn : 1 ≤ n) (Bs : Nat) (s : ByteArray) (ps0 : List Int) (hps0 : Ut.AllPt ps0) (hsp0 : nums s = Ut.flat ps0) (hs : s.size ≤ 100000000) : IterS n 64 Bs s (foldV (foldL (nums s))) := by
  intro lp J hJ1 hJ2 hY W hS0 h0
  have c0 := hS0.cell
  refine callsIn_of_wp Tryd.func64 rfl trivial ?_ rfl
  simp only [Tryd.ntmps64, List.size_toArray, List.length_cons, List.length_nil, Nat.reduceAdd, Nat.reduceSub, Array.replicate_succ, Array.replicate_zero, List.push_toArray, List.append_toArray, List.nil_append, List.cons_append]
  gi_wp2
  clear c0
  gi_loopw [3, 4] (fun v _ wr => ∃ (k fuel : Nat) (t fr : ByteArray) (ps : List Int), J k wr ∧ Sx wr Bs t ∧ v = .string fr ∧ (fr = ⟨#[]⟩ ∨ fr = ⟨#[32]⟩) ∧ t.size ≤ fuel ∧ t.size ≤ s.size ∧ Ut.AllPt ps ∧ nums t = Ut.flat ps ∧ foldV (foldZ fuel (nums fr) (nums t)) = (foldV (foldL (nums s))).drop k) (fun _ _ wr => restSx wr Bs)
  case atStart => exact ⟨0, s.size, s, ⟨#[]⟩, ps0, h0, hS0, rfl, .inl rfl, Nat.le_refl _, Nat.le_refl _, hps0, hsp0, by unfold foldL; rw [nums_len]; rfl⟩
  case round =>
    obtain ⟨k, fuel, t, fr, ps, hj, hst, rfl, hfr, hfu, hts, hps, hsp, hd⟩ := hrel
    have HJ : Hid (J k wr) := hj
    have HST : Hid (Sx wr Bs t) := hst
    have HY : Hid _ := hY
    have HPS : Hid (Ut.AllPt ps) := hps
    have HSP : Hid (nums t = Ut.flat ps) := hsp
    have HD : Hid (foldV (foldZ fuel (nums fr) (nums t)) = (foldV (foldL (nums s))).drop k) := hd
    have HL : Hid (restSx wr Bs = t.size) := restSx_of hst
    have hfs : fr.size ≤ 1 := by rcases hfr with rfl | rfl <;> decide
    have c2 := hst.cell
    have f2 := hst.frozen
    clear hj hst hY h0 hS0 hps hsp hd hsp0
    by_cases hlong : 75 < fr.size + t.size
    · have hdl : decide ((75 : Int) < (fr.size : Int) + (t.size : Int)) = true := by simp; omega
      obtain ⟨fuel', rfl⟩ : ∃ f', fuel = f' + 1 := ⟨fuel - 1, by omega⟩
      have hm : ∃ m : Nat, (75 : Int) - (fr.size : Int) = m ∧ m = 75 - fr.size := ⟨75 - fr.size, by omega, rfl⟩
      obtain ⟨m, hm1, hm2⟩ := hm
      have hml : m ≤ t.size := by omega
      obtain ⟨qs, rs, e1, e2, e3, e4⟩ := Ut.cut_split ps HPS.out m (by rw [← HSP.out, nums_len]; exact hml)
      rw [← HSP.out] at e2
      have hcut := fun V => cut_valid t ps m V (by omega) HPS.out HSP.out hml
      obtain ⟨at', hat⟩ : ∃ at', Ut.cutZ (nums t) m = at' := ⟨_, rfl⟩
      rw [hat] at e2
      simp only [hat] at hcut
      have ha1 : at' ≤ m := by omega
      have ha2 : 71 ≤ at' := by omega
      have hw1 : IntKind.i64.wrap ((75 : Int) - (fr.size : Int)) = m := by rw [hm1, IntKind.wrap_i64]; omega
      have hz1 : (t.extract 0 at').size = at' := by rw [← nums_len, nums_to, List.length_take, nums_len]; omega
      have hz2 : (t.extract at' t.size).size + at' = t.size := by rw [← nums_len, nums_from, List.length_drop, nums_len]; omega
      have HF : Hid (foldZ (fuel' + 1) (nums fr) (nums t) = (nums fr ++ nums (t.extract 0 at')) :: foldZ fuel' (nums ⟨#[32]⟩) (nums (t.extract at' t.size))) := by
        unfold Hid; rw [foldZ, if_pos (by rw [nums_len, nums_len]; exact hlong), nums_len, ← hm2, hat, nums_to, nums_from]; rfl
      have hpv : (foldV (foldL (nums s))).drop k = .string (fr ++ t.extract 0 at') :: foldV (foldZ fuel' (nums ⟨#[32]⟩) (nums (t.extract at' t.size))) := by
        rw [← HD.out, HF.out]; unfold foldV; rw [List.map_cons, str_add]
      have hx : (foldV (foldL (nums s)))[k]? = some (.string (fr ++ t.extract 0 at')) := by rw [← List.head?_drop, hpv]; rfl
      have HD2 : Hid (foldV (foldZ fuel' (nums ⟨#[32]⟩) (nums (t.extract at' t.size))) = (foldV (foldL (nums s))).drop (k + 1)) := by unfold Hid; rw [← List.drop_drop, hpv]; rfl
      have HRS : Hid (Ut.AllPt rs ∧ nums (t.extract at' t.size) = Ut.flat rs) := by
        refine ⟨fun x hx => HPS.out x (by rw [e1]; simp [hx]), ?_⟩
        rw [nums_from, HSP.out, e1, Ut.flat_append, e2, List.drop_left]
      have k0 : (0 : Int) ≤ (at' : Int) := by omega
      have k1 : (at' : Int) ≤ (t.size : Int) := by omega
      clear hpv e1 e2 e3 e4 hat HD hm2
      gi_wp2_with fail
      refine ⟨trivial, ?_⟩
      refine (callsIn_wide.2 (hcut _)).mono ?_
      rintro e w1 ⟨rfl, hb1⟩
      have HJ1 : Hid (J k w1) := hJ2 _ _ _ HJ.out hb1
      have HS1 : Hid (Sx w1 Bs t) := HST.out.below hb1
      have c3 := HS1.out.cell
      obtain ⟨fn, tmps, assign, body, hy, hRd⟩ := HY.out k _ w1 hx HJ1.out
      clear hx hcut c2 f2 hb1
      gi_wp2
      refine hRd.mono ?_
      rintro e W3 ⟨rfl, hJ3, hbs3⟩
      have hst3 : Sx W3 Bs t := hbs3.trans HS1.out
      have HJ3 : Hid (J (k + 1) W3) := hJ3
      have HST4 : Hid (Sx (W3.setCell ⟨Bs, 0, none⟩ (.string (t.extract at' t.size))) Bs (t.extract at' t.size)) := hst3.set _
      have g2 := hst3.cell
      have g3 := hst3.frozen
      clear hy hRd hbs3 hst3 hJ3 c3
      gi_wp2
      go_roundw
      case rel => exact ⟨k + 1, fuel', _, ⟨#[32]⟩, rs, hJ1 _ _ _ HJ3.out, HST4.out, rfl, .inr rfl, by omega, by omega, HRS.out.1, HRS.out.2, HD2.out⟩
      case measure => rw [restSx_of HST4.out, HL.out]; omega
    · have hdl : decide ((75 : Int) < (fr.size : Int) + (t.size : Int)) = false := by simp; omega
      have hpv : (foldV (foldL (nums s))).drop k = [.string (fr ++ t)] := by
        rw [← HD.out, foldZ_ge (by rw [nums_len, nums_len]; omega)]; unfold foldV; rw [List.map_cons, str_add]; rfl
      have hx : (foldV (foldL (nums s)))[k]? = some (.string (fr ++ t)) := by rw [← List.head?_drop, hpv]; rfl
      have HK : Hid (k + 1 = (foldV (foldL (nums s))).length) := by
        have := congrArg List.length hpv
        rw [List.length_drop] at this
        simp at this
        unfold Hid; omega
      obtain ⟨fn, tmps, assign, body, hy, hRd⟩ := HY.out k _ wr hx HJ.out
      clear hx hpv HD
      gi_wp2
      refine hRd.mono ?_
      rintro e W3 ⟨rfl, hJ3, hbs3⟩
      clear hy hRd
      gi_wp2
      go_end0
      exact ⟨⟨_, rfl⟩, by rw [← HK.out]; exact hJ3⟩
end Go.Proofs.YtenclgnkogmgiaaDoor
