/-
  Long parameters joined: the contract of Join where it reads.
-/
import Derived.Test.YtfhgkkdbkbbpkaaDoorEi
namespace Go.Proofs.YtfhgkkdbkbbpkaaDoor
open Go.RowKit Go.Maps
set_option linter.unusedVariables false
set_option linter.unusedSimpArgs false

theorem Tryd.info37 : (Tryd.prog.info? 37).map (fun i => (i.zero, i.size, i.bytes)) = some (some (.agg #[.string ⟨#[]⟩, .string ⟨#[]⟩]), 2, 32) := by kernel_rfl
def cellF (f : ByteArray × ByteArray) : List Value := [.string f.1, .string f.2]
def OwnF (w : World) (B : Nat) (v : Value) (fs : List (ByteArray × ByteArray)) : Prop := w.ownsRow B 37 2 v fs.length (fs.flatMap cellF)
theorem ownF_view {w : World} {B : Nat} {v : Value} {fs : List (ByteArray × ByteArray)} (h : OwnF w B v fs) : ∃ a cap, v = .slice a fs.length cap ∧ FRow w a fs := by
  have h0 := h
  rcases h.2 with ⟨rfl, hn⟩ | ⟨g, cap, cur, rfl, hb, hg, hn, hm, hs, ht⟩
  · exact ⟨none, 0, by rw [hn], .inl (List.eq_nil_of_length_eq_zero hn)⟩
  · refine ⟨some ⟨g, 0, none⟩, cap, rfl, .inr ⟨g, 0, rfl, fun i f hf => ?_⟩⟩
    have key : ∀ j, j < 2 → (fs.flatMap cellF)[i * 2 + j]? = (cellF f)[j]? := by
      intro j hj
      clear h0 h hg hn hm hs ht hb
      induction fs generalizing i with
      | nil => simp at hf
      | cons x r ih =>
        cases i with
        | zero =>
          simp only [List.getElem?_cons_zero, Option.some.injEq] at hf
          subst hf
          rw [List.flatMap_cons, List.getElem?_append_left (by simp [cellF]; omega)]
          simp
        | succ i =>
          simp only [List.getElem?_cons_succ] at hf
          rw [List.flatMap_cons, List.getElem?_append_right (by simp [cellF]; omega)]
          rw [← ih i hf]
          congr 1
          simp [cellF]; omega
    have c0 := h0.cells (g := g) rfl (i * 2 + 0) (.string f.1) (by rw [key 0 (by omega)]; rfl)
    have c1 := h0.cells (g := g) rfl (i * 2 + 1) (.string f.2) (by rw [key 1 (by omega)]; rfl)
    rw [add_plain] at c0 c1
    exact ⟨by simpa using c0, by simpa [Nat.add_assoc] using c1⟩
theorem gather_mem : ∀ {ps : List (List Int × List Int)} {M L : List Pc} {n : Nat}, gatherZ ps M = some L → (∀ p ∈ ps, p.2.length ≤ n) → (∀ p ∈ M, p.2.2.1.length ≤ n) → ∀ p ∈ L, p.2.2.1.length ≤ n
  | [], M, L, n, h, _, hm => by simp [gatherZ] at h; rw [← h]; exact hm
  | p :: r, M, L, n, h, hp, hm => by
    simp only [gatherZ] at h
    split at h
    · exact gather_mem h (fun q hq => hp q (by simp [hq])) hm
    · split at h
      · cases h
      · refine gather_mem h (fun q hq => hp q (by simp [hq])) (fun q hq => ?_)
        rcases List.mem_append.1 hq with hq | hq
        · exact hm q hq
        · simp at hq; subst hq; exact hp p (by simp)
theorem wpList_del_run {P : Program} {w w' : World} {ops : Array Oper} {rest : List Oper} {o : Oper} {a : Act} {Q : Exit → Act → World → Prop} (hg : o.guard = none) (m x : Operand) (t k : TypeId) (hop : o.op = Op.call { callee := Callee.builtin Builtin.delete, args := #[m, x], argTypes := #[t, k] })
    (hrun : (Builtin.delete_ #[t, k] o.type #[a.eval m, a.eval x]).run P w = .ok (.tuple #[]) w') (hK : wpList P ops Q rest (a.put o.dst (.tuple #[])) w') : wpList P ops Q (o :: rest) a w := by
  refine wpList_plain hg fun K' hK' => ?_
  unfold Oper.wp
  simp [execOp, hop, resolve, invoke, builtin, hrun, Result.andThen]
  exact hK' _ _ hK
def leftZ (L : List Pc) (done : List (List Int)) (x : List Int) : Nat := if x ∈ done then 0 else cntZ L x
theorem left_cons (L : List Pc) (done : List (List Int)) (b x : List Int) : (if x = b then 0 else leftZ L done x) = leftZ L (b :: done) x := by
  unfold leftZ
  by_cases e : x = b <;> simp [e]
inductive JoinR (L : List Pc) (fs : List (ByteArray × ByteArray)) : List (List Int × List Int) → List (List Int) → List (List Int × List Int) → Prop
  | nil (done) : JoinR L fs [] done []
  | keep (p r done out) : (pieceZ p.1).2.2.2 = false → JoinR L fs r done out → JoinR L fs (p :: r) done (p :: out)
  | skip (p r done out) : (pieceZ p.1).2.2.2 = true → leftZ L done (pieceZ p.1).1 = 0 → JoinR L fs r done out → JoinR L fs (p :: r) done out
  | join (p r done out t pts) : (pieceZ p.1).2.2.2 = true → leftZ L done (pieceZ p.1).1 ≠ 0 → (getZ (pieceZ p.1).1 fs).2 = false → leftZ L done (pieceZ p.1).1 = (rowZ L (pieceZ p.1).1).length →
      allZ (rowZ L (pieceZ p.1).1) = some t → Cs.Ut.AllPt pts → t = Cs.Ut.flat pts → t.length ≤ 4000 → JoinR L fs r ((pieceZ p.1).1 :: done) out → JoinR L fs (p :: r) done (((pieceZ p.1).1, t) :: out)
theorem JoinR.keep_inv {L : List Pc} {fs : List (ByteArray × ByteArray)} {p : List Int × List Int} {r done out} (h : JoinR L fs (p :: r) done out) (hf : (pieceZ p.1).2.2.2 = false) : ∃ o, out = p :: o ∧ JoinR L fs r done o := by
  cases h with
  | keep _ _ _ o h1 h2 => exact ⟨o, rfl, h2⟩
  | skip _ _ _ _ h1 => rw [hf] at h1; cases h1
  | join _ _ _ _ _ _ h1 => rw [hf] at h1; cases h1
theorem JoinR.skip_inv {L : List Pc} {fs : List (ByteArray × ByteArray)} {p : List Int × List Int} {r done out} (h : JoinR L fs (p :: r) done out) (hf : (pieceZ p.1).2.2.2 = true) (h0 : leftZ L done (pieceZ p.1).1 = 0) : JoinR L fs r done out := by
  cases h with
  | keep _ _ _ o h1 h2 => rw [hf] at h1; cases h1
  | skip _ _ _ _ h1 h2 h3 => exact h3
  | join _ _ _ _ _ _ h1 h2 => exact absurd h0 h2
theorem JoinR.join_inv {L : List Pc} {fs : List (ByteArray × ByteArray)} {p : List Int × List Int} {r done out} (h : JoinR L fs (p :: r) done out) (hf : (pieceZ p.1).2.2.2 = true) (h0 : leftZ L done (pieceZ p.1).1 ≠ 0) :
    ∃ t pts o, out = ((pieceZ p.1).1, t) :: o ∧ (getZ (pieceZ p.1).1 fs).2 = false ∧ leftZ L done (pieceZ p.1).1 = (rowZ L (pieceZ p.1).1).length ∧ allZ (rowZ L (pieceZ p.1).1) = some t ∧ Cs.Ut.AllPt pts ∧ t = Cs.Ut.flat pts ∧ t.length ≤ 4000 ∧ JoinR L fs r ((pieceZ p.1).1 :: done) o := by
  cases h with
  | keep _ _ _ o h1 h2 => rw [hf] at h1; cases h1
  | skip _ _ _ _ h1 h2 h3 => exact absurd h2 h0
  | join _ _ _ o t pts h1 h2 h3 h4 h5 h6 h7 h8 h9 => exact ⟨t, pts, o, rfl, h3, h4, h5, h6, h7, h8, h9⟩
theorem heap_keep {w w' : World} {b : Nat} {o : Obj} (h : w.heap[b]? = some o) (hb : Below w.heap.size w w') : w'.heap[b]? = some o := (hb.block b (Array.getElem?_eq_some_iff.1 h).1).trans h
theorem heap_grown {w w' : World} {b : Nat} {o : Obj} {row : Option Nat} (h : w.heap[b]? = some o) (hg : w.grownBy w' row) (hne : some b ≠ row) : w'.heap[b]? = some o := (hg.block b (Array.getElem?_eq_some_iff.1 h).1 hne).trans h
theorem heap_other {w : World} {b : Nat} {o : Obj} (h : w.heap[b]? = some o) {a : Addr} (hne : b ≠ a.block) (u : Value) : (w.setCell a u).heap[b]? = some o := (Below.heap_setCell w a u b hne).trans h
theorem heap_set {w : World} {b i : Nat} {cs : Array Value} {t : TypeId} (h : w.heap[b]? = some (.cells cs t)) (u : Value) : (w.setCell ⟨b, i, none⟩ u).heap[b]? = some (.cells (cs.setIfInBounds i u) t) := by
  simp [World.setCell, Array.getElem?_modify, h]
theorem ne_own {w : World} {B e size n : Nat} {v : Value} {xs : List Value} (h : w.ownsRow B e size v n xs) {b : Nat} (hb : b < B) : some b ≠ v.ownBlock := fun q => by
  have := (h.lt _ q.symm).1
  omega
set_option maxRecDepth 100000 in
set_option maxHeartbeats 4000000 in
theorem join_bad (ty sub : ByteArray) (a : Option Addr) (n c : Nat) (fs : List (ByteArray × ByteArray)) (w : World) (hn : fs.length = n) (hr : FRow w a fs) (h1 : ty.size ≤ 1000000000) (h2 : sub.size ≤ 1000000000) (hf : ∀ f ∈ fs, f.1.size ≤ 1000000000 ∧ f.2.size ≤ 1000000000)
    (hz : rightZ (nums ty) (nums sub) (numsP fs) = false) :
    Calls Tryd.prog 18 #[kindV ty sub a n c] w fun e w' => e = .returned (.tuple #[kindV ⟨#[]⟩ ⟨#[]⟩ none 0 0, .int .i64 70]) ∧ Below w.heap.size w w' := by
  have K : ∀ V, Below w.heap.size w V → Calls Tryd.prog 17 #[kindV ty sub a n c] V fun e w' => e = .returned (.bool false) ∧ Below V.heap.size V w' := fun V hV => by
    have := right_any ty sub a n c fs V hn (hr.below hV) h1 h2 hf
    rw [hz] at this
    exact this
  clear hr hf hz
  unfold kindV at K ⊢
  go_enter Tryd.func18, Tryd.ntmps18
  go_wp2_with fail
  refine (K _ ((keep w _).alloc (by simp) _)).mono ?_
  rintro e w1 ⟨rfl, hb1⟩
  have hs1 := hb1.size
  have hX : ((w.alloc (.cells #[.string ty, .string sub, .slice a n c] 24)).alloc (.cells #[.string ⟨#[]⟩, .string ⟨#[]⟩, .slice none 0 0] 24)).heap[w.heap.size + 1]? = some (.cells #[.string ⟨#[]⟩, .string ⟨#[]⟩, .slice none 0 0] 24) := by
    have := (MapKept.heap_alloc (w.alloc (.cells #[.string ty, .string sub, .slice a n c] 24)) (.cells #[.string ⟨#[]⟩, .string ⟨#[]⟩, .slice none 0 0] 24)).1
    simpa using this
  have r0 : w1.heap[w.heap.size + 1]? = some (.cells #[.string ⟨#[]⟩, .string ⟨#[]⟩, .slice none 0 0] 24) := by
    rw [hb1.block _ (by simp)]; exact hX
  have c0 : w1.cell? ⟨w.heap.size + 1, 0, none⟩ = some (.string ⟨#[]⟩) := cell_of r0 rfl
  have c1 : w1.cell? ⟨w.heap.size + 1, 1, none⟩ = some (.string ⟨#[]⟩) := cell_of r0 rfl
  have c2 : w1.cell? ⟨w.heap.size + 1, 2, none⟩ = some (.slice none 0 0) := cell_of r0 rfl
  have f0 : w1.frozen? ⟨w.heap.size + 1, 0, none⟩ = false := frozen_of r0
  have f1 : w1.frozen? ⟨w.heap.size + 1, 1, none⟩ = false := frozen_of r0
  have f2 : w1.frozen? ⟨w.heap.size + 1, 2, none⟩ = false := frozen_of r0
  have HB : Hid (Below w.heap.size w w1) := ((keep w _).alloc (by simp) _).trans (hb1.mono (by simp; omega))
  clear r0 hX hb1 K
  go_wp2
  exact bodyPost_ret (v := .tuple #[.agg #[.string ⟨#[]⟩, .string ⟨#[]⟩, .slice none 0 0], .int .i64 70]) (by simp [results, Tryd.results18, go_sem, c0, c1, c2]) rfl
    ⟨rfl, ((HB.out.setCell (by simp) _).setCell (by simp) _).setCell (by simp) _⟩
set_option maxRecDepth 100000 in
set_option maxHeartbeats 16000000 in
theorem join_ok (ty sub : ByteArray) (a : Option Addr) (n c : Nat) (fs : List (ByteArray × ByteArray)) (L : List Pc) (out : List (List Int × List Int)) (w : World) (hn : fs.length = n) (hr : FRow w a fs) (h1 : ty.size ≤ 1000000000) (h2 : sub.size ≤ 1000000000) (hf : ∀ f ∈ fs, f.1.size ≤ 1000000 ∧ f.2.size ≤ 10000)
    (hz : rightZ (nums ty) (nums sub) (numsP fs) = true) (hg : gatherZ (numsP fs) [] = some L) (hj : JoinR L fs (numsP fs) [] out) :
    Calls Tryd.prog 18 #[kindV ty sub a n c] w fun e w' => ∃ v gs, e = .returned (.tuple #[.agg #[.string ty, .string sub, v], .int .i64 0]) ∧ OwnF w' w.heap.size v gs ∧ numsP gs = out ∧ Below w.heap.size w w' := by
  obtain ⟨j0, hi, hj0, hj1, hj2⟩ := info_parts Tryd.info37
  have hf9 : ∀ f ∈ fs, f.1.size ≤ 1000000000 ∧ f.2.size ≤ 1000000000 := fun f hf' => by have := hf f hf'; omega
  have hn16 : n ≤ 16 := by
    unfold rightZ at hz
    simp [numsP] at hz
    omega
  have KR : ∀ V, Below w.heap.size w V → Calls Tryd.prog 17 #[kindV ty sub a n c] V fun e w' => e = .returned (.bool true) ∧ Below V.heap.size V w' := fun V hV => by
    have := right_any ty sub a n c fs V hn (hr.below hV) h1 h2 hf9
    rw [hz] at this
    exact this
  have KG : ∀ V, Below w.heap.size w V → Calls Tryd.prog 36 #[kindV ty sub a n c] V fun e w' => ∃ m1 m2 k, e = .returned (.tuple #[.agg #[.map (some m1), .map (some m2)], .bool true]) ∧ PMap w' m1 k L ∧ CMap w' m2 k (cntZ L) ∧ k ≤ n ∧ V.heap.size ≤ m1 ∧ V.heap.size ≤ m2 ∧ m1 ≠ m2 ∧ Below V.heap.size V w' :=
    fun V hV => gather_ok ty sub a n c fs L V hn (by omega) (hr.below hV) hf9 hg
  have HLL : Hid (∀ p ∈ L, p.2.2.1.length ≤ 10000) := gather_mem hg (by
    intro p hp
    obtain ⟨f, hf', rfl⟩ := List.mem_map.1 hp
    have := hf f hf'
    simp only [nums_len]
    exact this.2) (by intro p hp; cases hp)
  have KT : ∀ V, Below w.heap.size w V → ∀ s : ByteArray, Calls Tryd.prog 38 #[kindV ty sub a n c, .string s] V fun e w' => e = .returned (.tuple #[.string (getZ (nums s) fs).1, .bool (getZ (nums s) fs).2]) ∧ Below V.heap.size V w' :=
    fun V hV s => get_any ty sub a n c s fs V hn (by omega) (hr.below hV)
  have HR : Hid (FRow w a fs) := hr
  have HF : Hid (∀ f ∈ fs, f.1.size ≤ 1000000 ∧ f.2.size ≤ 10000) := hf
  have HJ : Hid (JoinR L fs (numsP fs) [] out) := hj
  clear hr hf hf9 hz hg hj
  unfold kindV at KR KG KT ⊢
  go_enter Tryd.func18, Tryd.ntmps18
  go_wp2_with fail
  refine (KR _ ((keep w _).alloc (by simp) _)).mono ?_
  rintro e w1 ⟨rfl, hb1⟩
  have hs1 := hb1.size
  have hX : ((w.alloc (.cells #[.string ty, .string sub, .slice a n c] 24)).alloc (.cells #[.string ⟨#[]⟩, .string ⟨#[]⟩, .slice none 0 0] 24)).heap[w.heap.size + 1]? = some (.cells #[.string ⟨#[]⟩, .string ⟨#[]⟩, .slice none 0 0] 24) := by
    have := (MapKept.heap_alloc (w.alloc (.cells #[.string ty, .string sub, .slice a n c] 24)) (.cells #[.string ⟨#[]⟩, .string ⟨#[]⟩, .slice none 0 0] 24)).1
    simpa using this
  have hY : ((w.alloc (.cells #[.string ty, .string sub, .slice a n c] 24)).alloc (.cells #[.string ⟨#[]⟩, .string ⟨#[]⟩, .slice none 0 0] 24)).heap[w.heap.size]? = some (.cells #[.string ty, .string sub, .slice a n c] 24) := by
    rw [(MapKept.heap_alloc _ _).2 _ (by simp)]
    exact (MapKept.heap_alloc w _).1
  have s1 : w.heap.size + 2 ≤ w1.heap.size := by simp at hs1; omega
  have HB1 : Hid (Below w.heap.size w w1) := ((keep w _).alloc (by simp) _).trans (hb1.mono (by simp; omega))
  have hY1 : w1.heap[w.heap.size]? = some (.cells #[.string ty, .string sub, .slice a n c] 24) := by rw [hb1.block _ (by simp; omega)]; exact hY
  have hX1 : w1.heap[w.heap.size + 1]? = some (.cells #[.string ⟨#[]⟩, .string ⟨#[]⟩, .slice none 0 0] 24) := by rw [hb1.block _ (by simp)]; exact hX
  have b0 : w1.cell? ⟨w.heap.size, 0, none⟩ = some (.string ty) := cell_of hY1 rfl
  have b1 : w1.cell? ⟨w.heap.size, 1, none⟩ = some (.string sub) := cell_of hY1 rfl
  have b2 : w1.cell? ⟨w.heap.size, 2, none⟩ = some (.slice a n c) := cell_of hY1 rfl
  clear hX hY hb1 KR
  go_wp2_with fail
  refine (KG _ HB1.out).mono ?_
  rintro e w2 ⟨m1, m2, nk, rfl, hP, hC, hnk, hm1, hm2, hmm, hb2⟩
  clear KG b0 b1 b2
  have s2 := hb2.size
  have hm1l := hP.lt
  have hm2l := hC.lt
  have HB2 : Hid (Below w.heap.size w w2) := HB1.out.trans (hb2.mono (by omega))
  have hY2 : w2.heap[w.heap.size]? = some (.cells #[.string ty, .string sub, .slice a n c] 24) := by rw [hb2.block _ (by omega)]; exact hY1
  have hX2 : w2.heap[w.heap.size + 1]? = some (.cells #[.string ⟨#[]⟩, .string ⟨#[]⟩, .slice none 0 0] 24) := by rw [hb2.block _ (by omega)]; exact hX1
  have hY3 : (w2.alloc (.cells #[.map (some m1), .map (some m2)] 57)).heap[w.heap.size]? = some (.cells #[.string ty, .string sub, .slice a n c] 24) := by rw [(MapKept.heap_alloc _ _).2 _ (by omega)]; exact hY2
  have hX3 : (w2.alloc (.cells #[.map (some m1), .map (some m2)] 57)).heap[w.heap.size + 1]? = some (.cells #[.string ⟨#[]⟩, .string ⟨#[]⟩, .slice none 0 0] 24) := by rw [(MapKept.heap_alloc _ _).2 _ (by omega)]; exact hX2
  have b0 : (w2.alloc (.cells #[.map (some m1), .map (some m2)] 57)).cell? ⟨w.heap.size, 0, none⟩ = some (.string ty) := cell_of hY3 rfl
  have b1 : (w2.alloc (.cells #[.map (some m1), .map (some m2)] 57)).cell? ⟨w.heap.size, 1, none⟩ = some (.string sub) := cell_of hY3 rfl
  have hY4 : ((w2.alloc (.cells #[.map (some m1), .map (some m2)] 57)).alloc (.cells #[.string ty, .string sub, .slice none 0 0] 24)).heap[w.heap.size]? = some (.cells #[.string ty, .string sub, .slice a n c] 24) := by rw [(MapKept.heap_alloc _ _).2 _ (by simp; omega)]; exact hY3
  have hX4 : ((w2.alloc (.cells #[.map (some m1), .map (some m2)] 57)).alloc (.cells #[.string ty, .string sub, .slice none 0 0] 24)).heap[w.heap.size + 1]? = some (.cells #[.string ⟨#[]⟩, .string ⟨#[]⟩, .slice none 0 0] 24) := by rw [(MapKept.heap_alloc _ _).2 _ (by simp; omega)]; exact hX3
  have hG4 : ((w2.alloc (.cells #[.map (some m1), .map (some m2)] 57)).alloc (.cells #[.string ty, .string sub, .slice none 0 0] 24)).heap[w2.heap.size]? = some (.cells #[.map (some m1), .map (some m2)] 57) := by rw [(MapKept.heap_alloc _ _).2 _ (by simp)]; exact (MapKept.heap_alloc w2 _).1
  have hO4 : ((w2.alloc (.cells #[.map (some m1), .map (some m2)] 57)).alloc (.cells #[.string ty, .string sub, .slice none 0 0] 24)).heap[w2.heap.size + 1]? = some (.cells #[.string ty, .string sub, .slice none 0 0] 24) := by
    have := (MapKept.heap_alloc (w2.alloc (.cells #[.map (some m1), .map (some m2)] 57)) (.cells #[.string ty, .string sub, .slice none 0 0] 24)).1
    simpa using this
  have b2 : ((w2.alloc (.cells #[.map (some m1), .map (some m2)] 57)).alloc (.cells #[.string ty, .string sub, .slice none 0 0] 24)).cell? ⟨w.heap.size, 2, none⟩ = some (.slice a n c) := cell_of hY4 rfl
  have HP : Hid (PMap ((w2.alloc (.cells #[.map (some m1), .map (some m2)] 57)).alloc (.cells #[.string ty, .string sub, .slice none 0 0] 24)) m1 nk L) := (hP.alloc _).alloc _
  have HC : Hid (CMap ((w2.alloc (.cells #[.map (some m1), .map (some m2)] 57)).alloc (.cells #[.string ty, .string sub, .slice none 0 0] 24)) m2 nk (leftZ L [])) := CMap.congr ((hC.alloc _).alloc _) (fun x => by simp [leftZ])
  have HB4 : Hid (Below w.heap.size w ((w2.alloc (.cells #[.map (some m1), .map (some m2)] 57)).alloc (.cells #[.string ty, .string sub, .slice none 0 0] 24))) := (HB2.out.alloc (by omega) _).alloc (by simp; omega) _
  clear hb2 hP hC hX1 hY1 hX2 hY2 hX3 hY3
  go_wp2
  go_loopw [36] (fun i wr => ∃ (k : Nat) (done : List (List Int)) (rest : List (List Int × List Int)) (gs : List (ByteArray × ByteArray)) (v : Value), i = .int .i64 k ∧ k ≤ n ∧ Hid (JoinR L fs (numsP (fs.drop k)) done rest) ∧ Hid (numsP gs ++ rest = out) ∧ Hid (PMap wr m1 nk L) ∧ Hid (CMap wr m2 nk (leftZ L done))
    ∧ Hid (wr.heap[w.heap.size]? = some (.cells #[.string ty, .string sub, .slice a n c] 24)) ∧ Hid (wr.heap[w.heap.size + 1]? = some (.cells #[.string ⟨#[]⟩, .string ⟨#[]⟩, .slice none 0 0] 24)) ∧ Hid (wr.heap[w2.heap.size]? = some (.cells #[.map (some m1), .map (some m2)] 57))
    ∧ Hid (wr.heap[w2.heap.size + 1]? = some (.cells #[.string ty, .string sub, v] 24)) ∧ Hid (OwnF wr (w2.heap.size + 2) v gs) ∧ gs.length ≤ k ∧ Hid (Below w.heap.size w wr)) (fun i _ => n - (intOf i).toNat)
  case atStart => exact ⟨0, [], out, [], .slice none 0 0, rfl, by omega, HJ.out, rfl, HP, HC, hY4, hX4, hG4, hO4, World.ownsRow_nil _ _ _ _, by simp, HB4⟩
  case round =>
    clear HJ HP HC hY4 hX4 hG4 hO4 HB4 b0 b1 b2 HB2 HB1
    obtain ⟨k, done, rest, gs, v, rfl, hk, HJ, HQ, HP, HC, HY, HX, HG, HO, HV, hgl, HB⟩ := hrel
    have hso : w2.heap.size + 1 < wr.heap.size := (Array.getElem?_eq_some_iff.1 HO.out).1
    have hrw := HR.out.below HB.out
    by_cases hlt : k < n
    · obtain ⟨f, hfk⟩ : ∃ f, fs[k]? = some f := ⟨_, List.getElem?_eq_getElem (by omega)⟩
      have HD : Hid (fs.drop k = f :: fs.drop (k + 1)) := by
        unfold Hid
        rw [List.drop_eq_getElem_cons (by omega)]
        rw [List.getElem?_eq_getElem (by omega)] at hfk
        simp only [Option.some.injEq] at hfk
        rw [hfk]
      have hfz := HF.out f (List.mem_of_getElem? hfk)
      obtain ⟨nm, vl⟩ := f
      obtain ⟨hz1, hz2⟩ := hfz
      rcases hrw with h | ⟨b, off, rfl, h⟩
      · rw [h] at hn; simp at hn; omega
      obtain ⟨hc1, hc2⟩ := h k _ hfk
      clear h hfk
      simp only at hc1 hc2 hz1 hz2
      have HJ2 : Hid (JoinR L fs ((nums nm, nums vl) :: numsP (fs.drop (k + 1))) done rest) := by
        have := HJ.out
        rw [HD.out] at this
        exact this
      clear HJ HD
      have hpn := piece_num (nums nm)
      go_wp2_with fail
      refine (pieceOf_any nm _ (by omega)).mono ?_
      rintro e w3 ⟨bs, rfl, hbs, hbz, hb3⟩
      unfold plV
      have HBS : Hid (nums bs = (pieceZ (nums nm)).1) := hbs
      obtain ⟨m, hm⟩ : ∃ m, (pieceZ (nums nm)).2.1 = m := ⟨_, rfl⟩
      obtain ⟨cd, hcd⟩ : ∃ cd, (pieceZ (nums nm)).2.2.1 = cd := ⟨_, rfl⟩
      rw [hm, hcd]
      have hx3 := hb3.size
      have s3 : wr.heap.size < w3.heap.size := by have : (wr.alloc (.cells #[.string nm, .string vl] 37)).heap.size = wr.heap.size + 1 := (by simp); omega
      have p0 : w3.cell? ⟨wr.heap.size, 0, none⟩ = some (.string nm) := by rw [hb3.cell (p := ⟨wr.heap.size, 0, none⟩) (by simp)]; rw [World.cell?_alloc_mark]; rfl
      have p1 : w3.cell? ⟨wr.heap.size, 1, none⟩ = some (.string vl) := by rw [hb3.cell (p := ⟨wr.heap.size, 1, none⟩) (by simp)]; rw [World.cell?_alloc_mark]; rfl
      have hbw : Below wr.heap.size wr w3 := (keep wr _).trans (hb3.mono (by simp))
      have hbv : Below wr.heap.size wr (w3.alloc (.cells #[.string bs, .int .i64 m] 61)) := hbw.alloc (by omega) _
      have hvl : ∀ g, v.ownBlock = some g → g < wr.heap.size := fun g h => (World.ownsRow.lt HV.out g h).2
      have q0 : (w3.alloc (.cells #[.string bs, .int .i64 m] 61)).cell? ⟨w3.heap.size, 0, none⟩ = some (.string bs) := by rw [World.cell?_alloc_mark]; rfl
      have kx : Below w3.heap.size w3 (w3.alloc (.cells #[.string bs, .int .i64 m] 61)) := keep w3 _
      have t0 : (w3.alloc (.cells #[.string bs, .int .i64 m] 61)).cell? ⟨wr.heap.size, 0, none⟩ = some (.string nm) := (kx.cell s3).trans p0
      have t1 : (w3.alloc (.cells #[.string bs, .int .i64 m] 61)).cell? ⟨wr.heap.size, 1, none⟩ = some (.string vl) := (kx.cell s3).trans p1
      have hxs : (w3.alloc (.cells #[.string bs, .int .i64 m] 61)).heap.size = w3.heap.size + 1 := by simp
      have HYx : Hid ((w3.alloc (.cells #[.string bs, .int .i64 m] 61)).heap[w.heap.size]? = some (.cells #[.string ty, .string sub, .slice (some ⟨b, off, none⟩) n c] 24)) := heap_keep HY.out hbv
      have HXx : Hid ((w3.alloc (.cells #[.string bs, .int .i64 m] 61)).heap[w.heap.size + 1]? = some (.cells #[.string ⟨#[]⟩, .string ⟨#[]⟩, .slice none 0 0] 24)) := heap_keep HX.out hbv
      have HGx : Hid ((w3.alloc (.cells #[.string bs, .int .i64 m] 61)).heap[w2.heap.size]? = some (.cells #[.map (some m1), .map (some m2)] 57)) := heap_keep HG.out hbv
      have HOx : Hid ((w3.alloc (.cells #[.string bs, .int .i64 m] 61)).heap[w2.heap.size + 1]? = some (.cells #[.string ty, .string sub, v] 24)) := heap_keep HO.out hbv
      have HPx : Hid (PMap (w3.alloc (.cells #[.string bs, .int .i64 m] 61)) m1 nk L) := HP.out.below hbv
      have HCx : Hid (CMap (w3.alloc (.cells #[.string bs, .int .i64 m] 61)) m2 nk (leftZ L done)) := HC.out.below hbv
      have HVx : Hid ((w3.alloc (.cells #[.string bs, .int .i64 m] 61)).ownsRow (w2.heap.size + 2) 37 2 v gs.length (gs.flatMap cellF)) := own_keep HV.out hbv
      have HBx : Hid (Below w.heap.size w (w3.alloc (.cells #[.string bs, .int .i64 m] 61))) := HB.out.trans (hbv.mono (by have := HB.out.size; omega))
      have s5 : wr.heap.size < (w3.alloc (.cells #[.string bs, .int .i64 m] 61)).heap.size := by omega
      have s6 : w2.heap.size + 2 < (w3.alloc (.cells #[.string bs, .int .i64 m] 61)).heap.size := by omega
      have s7 : w.heap.size + 1 < w2.heap.size := by omega
      clear hbs hm hcd hb3 hx3 hbw p0 p1 kx hbv HY HX HG HO HP HC HV HB
      cases hfd : (pieceZ (nums nm)).2.2.2 with
      | false =>
        obtain ⟨rest2, hr2, HJ3⟩ := HJ2.out.keep_inv hfd
        have HJ4 : Hid (JoinR L fs (numsP (fs.drop (k + 1))) done rest2) := HJ3
        have HQ2 : Hid (numsP (gs ++ [(nm, vl)]) ++ rest2 = out) := by unfold Hid; rw [← HQ.out, hr2]; simp [numsP]
        have o2 : (w3.alloc (.cells #[.string bs, .int .i64 m] 61)).cell? ⟨w2.heap.size + 1, 2, none⟩ = some v := cell_of HOx.out rfl
        clear hr2 HJ3 HJ2 HQ
        go_wp2_with (at_builtin; refine wpList_append_own _ rfl _ _ 22 rfl (w2.heap.size + 2) 37 j0 _ 2 32 Tryd.underlying22 hi hj0 hj1 hj2 rfl (by decide) v gs.length (gs.flatMap cellF) rfl (World.ownsRow.alloc (w := (w3.alloc (.cells #[.string bs, .int .i64 m] 61))) HVx.out _) ⟨w3.heap.size + 1, 0, none⟩ 1 1 [.string nm, .string vl] rfl rfl ?c2 ?c6 ?c3 ?c4 ?c5 ?_)
        case c2 =>
          have := cells_new (w3.alloc (.cells #[.string bs, .int .i64 m] 61)) [.string nm, .string vl] 37
          simpa using this
        case c6 => intro u hu; simp at hu; rcases hu with rfl | rfl <;> rfl
        case c3 => unfold maxLen; omega
        case c4 => omega
        case c5 => simp; omega
        intro v' w5 hown5 hgrow5 _
        have kv := keep (w3.alloc (.cells #[.string bs, .int .i64 m] 61)) (.cells #[.string nm, .string vl] 37)
        have HY5 : Hid (w5.heap[w.heap.size]? = some (.cells #[.string ty, .string sub, .slice (some ⟨b, off, none⟩) n c] 24)) := heap_grown (heap_keep HYx.out kv) hgrow5 (ne_own HVx.out (by omega))
        have HX5 : Hid (w5.heap[w.heap.size + 1]? = some (.cells #[.string ⟨#[]⟩, .string ⟨#[]⟩, .slice none 0 0] 24)) := heap_grown (heap_keep HXx.out kv) hgrow5 (ne_own HVx.out (by omega))
        have HG5 : Hid (w5.heap[w2.heap.size]? = some (.cells #[.map (some m1), .map (some m2)] 57)) := heap_grown (heap_keep HGx.out kv) hgrow5 (ne_own HVx.out (by omega))
        have HO5 : Hid (w5.heap[w2.heap.size + 1]? = some (.cells #[.string ty, .string sub, v] 24)) := heap_grown (heap_keep HOx.out kv) hgrow5 (ne_own HVx.out (by omega))
        have HP5 : Hid (PMap w5 m1 nk L) := (HPx.out.below kv).kept hgrow5 (ne_own HVx.out (by omega))
        have HC5 : Hid (CMap w5 m2 nk (leftZ L done)) := (HCx.out.below kv).kept hgrow5 (ne_own HVx.out (by omega))
        have HB5 : Hid (Below w.heap.size w w5) := (HBx.out.alloc (by omega) _).grown hgrow5 (by simp; omega) (fun z hz => by have := (HVx.out.lt z hz).1; omega)
        have HV5 : Hid (OwnF w5 (w2.heap.size + 2) v' (gs ++ [(nm, vl)])) := by
          unfold Hid OwnF; rw [List.length_append, List.flatMap_append]; exact hown5
        have u2 : w5.cell? ⟨w2.heap.size + 1, 2, none⟩ = some v := cell_of HO5.out rfl
        have g2 : w5.frozen? ⟨w2.heap.size + 1, 2, none⟩ = false := frozen_of HO5.out
        obtain ⟨va, vc, hv', _⟩ := ownF_view HV5.out
        rw [show (gs ++ [(nm, vl)]).length = gs.length + 1 by simp] at hv'
        subst hv'
        clear hown5 hgrow5 kv HYx HXx HGx HOx HPx HCx HVx HBx o2 q0 t0 t1
        go_wp2
        go_roundw
        case rel => exact ⟨k + 1, done, rest2, _, _, by go_num, by omega, HJ4, HQ2, HP5.out.setCell (by dsimp only; omega) _, HC5.out.setCell (by dsimp only; omega) _, heap_other HY5.out (by dsimp only; omega) _, heap_other HX5.out (by dsimp only; omega) _, heap_other HG5.out (by dsimp only; omega) _, heap_set HO5.out _, ownsRow_setCell_below HV5.out (by show w2.heap.size + 1 < _; omega) _, by simp; omega, HB5.out.setCell (by dsimp only; omega) _⟩
        case measure => simp [intOf]; omega
      | true =>
        have hbmx : bs.size ≤ maxLen := by unfold maxLen; omega
        have hlk := HCx.out.look bs hbmx
        have g1 : (w3.alloc (.cells #[.string bs, .int .i64 m] 61)).cell? ⟨w2.heap.size, 1, none⟩ = some (.map (some m2)) := cell_of HGx.out rfl
        by_cases h0 : leftZ L done (nums bs) = 0
        · have HJ4 : Hid (JoinR L fs (numsP (fs.drop (k + 1))) done rest) := HJ2.out.skip_inv hfd (by rw [← HBS.out]; exact h0)
          rw [h0] at hlk
          clear HJ2
          go_wp2_with (at_lookup; refine wpList_look_miss rfl _ _ _ _ rfl _ hlk ?_)
          go_roundw
          case rel => exact ⟨k + 1, done, rest, gs, v, by go_num, by omega, HJ4, HQ, HPx, HCx, HYx, HXx, HGx, HOx, HVx, by omega, HBx⟩
          case measure => simp [intOf]; omega
        · obtain ⟨t, pts, rest2, hr2, hget, hcnt, hall, hpts, hflat, ht4, HJ3⟩ := HJ2.out.join_inv hfd (by rw [← HBS.out]; exact h0)
          rw [← HBS.out] at hr2 hget hcnt hall HJ3
          have hbt : Byt t := by rw [hflat]; exact Cs.Ut.flat_byt hpts
          have hnt : nums (strOfNums t) = t := nums_str hbt
          have HJ4 : Hid (JoinR L fs (numsP (fs.drop (k + 1))) (nums bs :: done) rest2) := HJ3
          have HQ2 : Hid (numsP (gs ++ [(bs, strOfNums t)]) ++ rest2 = out) := by unfold Hid; rw [← HQ.out, hr2]; simp [numsP, hnt]
          have hne : ((leftZ L done (nums bs) : Int) == 0) = false := by simp; omega
          have y0 : (w3.alloc (.cells #[.string bs, .int .i64 m] 61)).cell? ⟨w.heap.size, 0, none⟩ = some (.string ty) := cell_of HYx.out rfl
          have y1 : (w3.alloc (.cells #[.string bs, .int .i64 m] 61)).cell? ⟨w.heap.size, 1, none⟩ = some (.string sub) := cell_of HYx.out rfl
          have y2 : (w3.alloc (.cells #[.string bs, .int .i64 m] 61)).cell? ⟨w.heap.size, 2, none⟩ = some (.slice (some ⟨b, off, none⟩) n c) := cell_of HYx.out rfl
          have KG := KT _ HBx.out bs
          rw [hget] at KG
          clear HJ2 HJ3 HQ hr2 hget hnt
          go_wp2_with (at_lookup; refine wpList_look_miss rfl _ _ _ _ rfl _ hlk ?_)
          refine KG.mono ?_
          rintro e w5 ⟨rfl, hb5⟩
          clear KG y0 y1 y2 hlk g1
          have x5 := hb5.size
          have q5 : w5.cell? ⟨w3.heap.size, 0, none⟩ = some (.string bs) := (hb5.cell (p := ⟨w3.heap.size, 0, none⟩) (by dsimp only; omega)).trans q0
          have HY5 := heap_keep HYx.out hb5
          have HX5 := heap_keep HXx.out hb5
          have HG5 := heap_keep HGx.out hb5
          have HO5 := heap_keep HOx.out hb5
          have HP5 : Hid (PMap w5 m1 nk L) := HPx.out.below hb5
          have HC5 : Hid (CMap w5 m2 nk (leftZ L done)) := HCx.out.below hb5
          have HV5 := own_keep HVx.out hb5
          have HB5 : Hid (Below w.heap.size w w5) := HBx.out.trans (hb5.mono (by omega))
          have g0 : w5.cell? ⟨w2.heap.size, 0, none⟩ = some (.map (some m1)) := cell_of HG5 rfl
          have g1 : w5.cell? ⟨w2.heap.size, 1, none⟩ = some (.map (some m2)) := cell_of HG5 rfl
          have HY5 : Hid _ := HY5
          have HX5 : Hid _ := HX5
          have HG5 : Hid _ := HG5
          have HO5 : Hid _ := HO5
          have HV5 : Hid _ := HV5
          have KX := text_ok m1 m2 nk nk L (leftZ L done) bs t pts w5 (by omega) HP5.out HC5.out HLL.out hcnt hall hpts hflat ht4
          clear hflat hpts
          clear hb5 HYx HXx HGx HOx HPx HCx HVx HBx q0 t0 t1 hall hcnt
          go_wp2_with fail
          refine KX.mono ?_
          rintro e w6 ⟨rfl, hb6⟩
          have x6 := hb6.size
          clear KX g0 g1
          have q6 : w6.cell? ⟨w3.heap.size, 0, none⟩ = some (.string bs) := (hb6.cell (p := ⟨w3.heap.size, 0, none⟩) (by dsimp only; omega)).trans q5
          have HY6 : Hid _ := heap_keep HY5.out hb6
          have HX6 : Hid _ := heap_keep HX5.out hb6
          have HG6 : Hid _ := heap_keep HG5.out hb6
          have HO6 : Hid _ := heap_keep HO5.out hb6
          have HP6 : Hid (PMap w6 m1 nk L) := HP5.out.below hb6
          have HC6 : Hid (CMap w6 m2 nk (leftZ L done)) := HC5.out.below hb6
          have HV6 : Hid (w6.ownsRow (w2.heap.size + 2) 37 2 v gs.length (gs.flatMap cellF)) := own_keep HV5.out hb6
          have HB6 : Hid (Below w.heap.size w w6) := HB5.out.trans (hb6.mono (by omega))
          have o6 : w6.cell? ⟨w2.heap.size + 1, 2, none⟩ = some v := cell_of HO6.out rfl
          clear hb6 HY5 HX5 HG5 HO5 HP5 HC5 HV5 HB5 q5
          go_wp2_with (at_builtin; refine wpList_append_own _ rfl _ _ 22 rfl (w2.heap.size + 2) 37 j0 _ 2 32 Tryd.underlying22 hi hj0 hj1 hj2 rfl (by decide) v gs.length (gs.flatMap cellF) rfl (World.ownsRow.alloc (w := w6) HV6.out _) ⟨w6.heap.size, 0, none⟩ 1 1 [.string bs, .string (strOfNums t)] rfl rfl ?c2 ?c6 ?c3 ?c4 ?c5 ?_)
          case c2 => exact cells_new w6 [.string bs, .string (strOfNums t)] 37
          case c6 => intro u hu; simp at hu; rcases hu with rfl | rfl <;> rfl
          case c3 => unfold maxLen; omega
          case c4 => omega
          case c5 => simp; omega
          intro v' w7 hown7 hgrow7 _
          have kv := keep w6 (.cells #[.string bs, .string (strOfNums t)] 37)
          have x7 := hgrow7.size
          have HY7 : Hid _ := heap_grown (heap_keep HY6.out kv) hgrow7 (ne_own HV6.out (by omega))
          have HX7 : Hid _ := heap_grown (heap_keep HX6.out kv) hgrow7 (ne_own HV6.out (by omega))
          have HG7 : Hid _ := heap_grown (heap_keep HG6.out kv) hgrow7 (ne_own HV6.out (by omega))
          have HO7 : Hid _ := heap_grown (heap_keep HO6.out kv) hgrow7 (ne_own HV6.out (by omega))
          have HP7 : Hid (PMap w7 m1 nk L) := (HP6.out.below kv).kept hgrow7 (ne_own HV6.out (by omega))
          have HC7 : Hid (CMap w7 m2 nk (leftZ L done)) := (HC6.out.below kv).kept hgrow7 (ne_own HV6.out (by omega))
          have HB7 : Hid (Below w.heap.size w w7) := (HB6.out.alloc (by omega) _).grown hgrow7 (by simp; omega) (fun z hz => by have := (HV6.out.lt z hz).1; omega)
          have HV7 : Hid (OwnF w7 (w2.heap.size + 2) v' (gs ++ [(bs, strOfNums t)])) := by
            unfold Hid OwnF; rw [List.length_append, List.flatMap_append]; exact hown7
          obtain ⟨va, vc, hv', _⟩ := ownF_view HV7.out
          rw [show (gs ++ [(bs, strOfNums t)]).length = gs.length + 1 by simp] at hv'
          subst hv'
          have u2 : w7.cell? ⟨w2.heap.size + 1, 2, none⟩ = some v := cell_of HO7.out rfl
          have g2 : w7.frozen? ⟨w2.heap.size + 1, 2, none⟩ = false := frozen_of HO7.out
          have q7 : w7.cell? ⟨w3.heap.size, 0, none⟩ = some (.string bs) := hgrow7.cell ((kv.cell (p := ⟨w3.heap.size, 0, none⟩) (by dsimp only; omega)).trans q6) (fun q => by have := hvl _ q.symm; dsimp only at this; omega)
          have q8 : (w7.setCell ⟨w2.heap.size + 1, 2, none⟩ (.slice va (gs.length + 1) vc)).cell? ⟨w3.heap.size, 0, none⟩ = some (.string bs) := by rw [World.cell?_setCell_other _ _ _ _ (fun q => by injection q with q1 _ _; omega)]; exact q7
          have HG8 : Hid ((w7.setCell ⟨w2.heap.size + 1, 2, none⟩ (.slice va (gs.length + 1) vc)).heap[w2.heap.size]? = _) := heap_other HG7.out (by dsimp only; omega) _
          have g8 : (w7.setCell ⟨w2.heap.size + 1, 2, none⟩ (.slice va (gs.length + 1) vc)).cell? ⟨w2.heap.size, 1, none⟩ = some (.map (some m2)) := cell_of HG8.out rfl
          obtain ⟨w9, hrun9, hC9, hg9⟩ := (HC7.out.setCell (a := ⟨w2.heap.size + 1, 2, none⟩) (by dsimp only; omega) (.slice va (gs.length + 1) vc)).del bs hbmx 0
          have HY9 : Hid (w9.heap[w.heap.size]? = _) := heap_grown (heap_other HY7.out (by dsimp only; omega) _) hg9 (fun q => by injection q; omega)
          have HX9 : Hid (w9.heap[w.heap.size + 1]? = _) := heap_grown (heap_other HX7.out (by dsimp only; omega) _) hg9 (fun q => by injection q; omega)
          have HG9 : Hid (w9.heap[w2.heap.size]? = _) := heap_grown HG8.out hg9 (fun q => by injection q; omega)
          have HO9 : Hid (w9.heap[w2.heap.size + 1]? = _) := heap_grown (heap_set (i := 2) HO7.out (.slice va (gs.length + 1) vc)) hg9 (fun q => by injection q; omega)
          have HP9 : Hid (PMap w9 m1 nk L) := (HP7.out.setCell (a := ⟨w2.heap.size + 1, 2, none⟩) (by dsimp only; omega) (.slice va (gs.length + 1) vc)).kept hg9 (fun q => by injection q; omega)
          have HC9 : Hid (CMap w9 m2 nk (leftZ L (nums bs :: done))) := CMap.congr hC9 (left_cons L done (nums bs))
          have HV9 : Hid (w9.ownsRow (w2.heap.size + 2) 37 2 (.slice va (gs.length + 1) vc) _ _) := (ownsRow_setCell_below HV7.out (a := ⟨w2.heap.size + 1, 2, none⟩) (by show w2.heap.size + 1 < _; omega) (.slice va (gs.length + 1) vc)).kept hg9 (.inr (fun q => by have := (World.ownsRow.lt HV7.out _ q).1; omega))
          have HB9 : Hid (Below w.heap.size w w9) := (HB7.out.setCell (p := ⟨w2.heap.size + 1, 2, none⟩) (by dsimp only; omega) (.slice va (gs.length + 1) vc)).grown hg9 (by have := HB7.out.size; simpa using this) (fun j hj => by cases hj; omega)
          clear hown7 hgrow7 kv HY6 HX6 HG6 HO6 HP6 HC6 HV6 HB6 HY7 HX7 HG7 HO7 HP7 HC7 HV7 HB7 HG8 hC9 hg9 q6 q7 o6
          go_wp2_with (at_delete; refine wpList_del_run rfl _ _ 53 9 rfl hrun9 ?_)
          go_roundw
          case rel => exact ⟨k + 1, nums bs :: done, rest2, gs ++ [(bs, strOfNums t)], _, by go_num, by omega, HJ4, HQ2, HP9, HC9, HY9, HX9, HG9, HO9, HV9, by simp; omega, HB9⟩
          case measure => simp [intOf]; omega
    · obtain rfl : k = n := by omega
      have hrest : rest = [] := by
        have := HJ.out
        rw [List.drop_of_length_le (by omega)] at this
        cases this
        rfl
      subst hrest
      have HQ2 : Hid (numsP gs = out) := by have := HQ.out; rwa [List.append_nil] at this
      have c0 : wr.cell? ⟨w.heap.size + 1, 0, none⟩ = some (.string ⟨#[]⟩) := cell_of HX.out rfl
      have c1 : wr.cell? ⟨w.heap.size + 1, 1, none⟩ = some (.string ⟨#[]⟩) := cell_of HX.out rfl
      have c2 : wr.cell? ⟨w.heap.size + 1, 2, none⟩ = some (.slice none 0 0) := cell_of HX.out rfl
      have f0 : wr.frozen? ⟨w.heap.size + 1, 0, none⟩ = false := frozen_of HX.out
      have f1 : wr.frozen? ⟨w.heap.size + 1, 1, none⟩ = false := frozen_of HX.out
      have f2 : wr.frozen? ⟨w.heap.size + 1, 2, none⟩ = false := frozen_of HX.out
      have o0 : wr.cell? ⟨w2.heap.size + 1, 0, none⟩ = some (.string ty) := cell_of HO.out rfl
      have o1 : wr.cell? ⟨w2.heap.size + 1, 1, none⟩ = some (.string sub) := cell_of HO.out rfl
      have o2 : wr.cell? ⟨w2.heap.size + 1, 2, none⟩ = some v := cell_of HO.out rfl
      obtain ⟨va, vc, rfl, _⟩ := ownF_view HV.out
      clear HQ HJ
      go_wp2
      refine bodyPost_ret (v := .tuple #[.agg #[.string ty, .string sub, .slice va gs.length vc], .int .i64 0]) (by simp [results, Tryd.results18, go_sem, c0, c1, c2]) rfl
        ⟨_, gs, rfl, ownB (by omega) (ownsRow_setCell_below (ownsRow_setCell_below (ownsRow_setCell_below HV.out (by show w.heap.size + 1 < _; omega) _) (by show w.heap.size + 1 < _; omega) _) (by show w.heap.size + 1 < _; omega) _), HQ2.out, ((HB.out.setCell (by simp) _).setCell (by simp) _).setCell (by simp) _⟩
end Go.Proofs.YtfhgkkdbkbbpkaaDoor
