/-
  The greatest SIZE of the words behind a path: the contract of sizeOf.
-/
import Derived.Test.YtbckbonffajmeaaGreatDoorSd
namespace Go.Proofs.YtbckbonffajmeaaGreatDoor
open Go.RowKit Go.Shelf
set_option linter.unusedVariables false
set_option linter.unusedSimpArgs false
attribute [local go_sem] Oper.semAt_some

def sizeB : List UInt8 := [83, 73, 90, 69, 61]
def b7B : List UInt8 := [66, 79, 68, 89, 61, 55, 66, 73, 84]
def b8B : List UInt8 := [66, 79, 68, 89, 61, 56, 66, 73, 84, 77, 73, 77, 69]
/-- A word more. -/
def stepW (mo : Int) (x : List UInt8) : Option Int :=
  if (Lib.hasPrefix (Lib.toUpperA x) sizeB && (numZ (nums (strL (Lib.trimPrefix (Lib.toUpperA x) sizeB)))).2) = true then some (max mo (numZ (nums (strL (Lib.trimPrefix (Lib.toUpperA x) sizeB)))).1)
  else if Lib.toUpperA x ≠ b7B ∧ Lib.toUpperA x ≠ b8B then none else some mo
def foldW : Int → List (List UInt8) → Option Int
  | mo, [] => some mo
  | mo, x :: r => match stepW mo x with
    | none => none
    | some mo' => foldW mo' r
/-- The greatest SIZE, and whether the words may be. -/
def sizeZ (s : ByteArray) : Int × Bool :=
  if s.size ≠ 0 ∧ Lib.hasPrefix s.data.toList [32] = false then (0, false)
  else match foldW 0 (wordsZ s.data.toList) with
    | none => (0, false)
    | some mo => (mo, true)
theorem foldW_take {mo : Int} : ∀ (l : List (List UInt8)) (k : Nat) (x : List UInt8) (m : Int), l[k]? = some x → foldW mo (l.take k) = some m → (∀ m', stepW m x = some m' → foldW mo (l.take (k + 1)) = some m') ∧ (stepW m x = none → foldW mo l = none) := by
  intro l
  induction l generalizing mo with
  | nil => intro k x m h; simp at h
  | cons y l ih =>
    intro k x m h hf
    cases k with
    | zero =>
      simp at h
      subst h
      simp [foldW] at hf
      subst hf
      constructor
      · intro m' hm; simp [foldW, hm]
      · intro hm; simp [foldW, hm]
    | succ k =>
      simp only [List.take_succ_cons, foldW] at hf ⊢
      cases hs : stepW mo y with
      | none => rw [hs] at hf; cases hf
      | some q =>
        rw [hs] at hf
        exact ih k x m (by simpa using h) hf
theorem wordsF_sub : ∀ (n : Nat) (s x : List UInt8), x ∈ wordsF n s → (∀ b ∈ x, b ∈ s) ∧ x.length ≤ s.length
  | 0, s, x, h => by
    simp [wordsF] at h
    subst h
    refine ⟨fun b hb => ?_, (cutB_len s).1⟩
    unfold cutB Lib.cut at hb
    split at hb
    · exact List.mem_of_mem_take hb
    · exact hb
  | n + 1, s, x, h => by
    have hs1 : ∀ b ∈ (cutB s).1, b ∈ s := fun b hb => by
      unfold cutB Lib.cut at hb
      split at hb
      · exact List.mem_of_mem_take hb
      · exact hb
    have hs2 : ∀ b ∈ (cutB s).2.1, b ∈ s := fun b hb => by
      unfold cutB Lib.cut at hb
      split at hb
      · exact List.mem_of_mem_drop hb
      · simp at hb
    simp only [wordsF, List.mem_cons] at h
    rcases h with rfl | h
    · exact ⟨hs1, (cutB_len s).1⟩
    · split at h
      · obtain ⟨h1, h2⟩ := wordsF_sub n _ x h
        exact ⟨fun b hb => hs2 b (h1 b hb), Nat.le_trans h2 (cutB_len s).2.1⟩
      · simp at h
theorem words_sub (s x : List UInt8) (h : x ∈ wordsZ s) : (∀ b ∈ x, b ∈ s) ∧ x.length ≤ s.length := by
  unfold wordsZ wordsB at h
  split at h
  · obtain ⟨h1, h2⟩ := wordsF_sub _ _ x h
    refine ⟨fun b hb => ?_, Nat.le_trans h2 (cutB_len s).2.1⟩
    have := h1 b hb
    unfold cutB Lib.cut at this
    split at this
    · exact List.mem_of_mem_drop this
    · simp at this
  · simp at h
theorem sz_leave {w X : World} {s : ByteArray} {a : Int} {b : Bool} {A : Act} (h0 : X.heap[w.heap.size]? = some (.cells #[.int .i64 a] 3 (0, 0))) (h1 : X.heap[w.heap.size + 1]? = some (.cells #[.bool b] 4 (0, 0))) (h4 : X.heap[w.heap.size + 4]? = some (.deferred (some [])))
    (hb : Below w.heap.size w X) (hz : sizeZ s = (a, b)) (hd : A.defers = [{ target := .collected (w.heap.size + 4), args := #[] }]) (h2 : A.tmps[2]?.getD undef = .pointer (some ⟨w.heap.size, 0, none⟩)) (h3 : A.tmps[3]?.getD undef = .pointer (some ⟨w.heap.size + 1, 0, none⟩)) :
    bodyPostM Fence.wide 20 Tryz.prog Tryz.f123 (fun e w' => e = .returned (.tuple #[.int .i64 (sizeZ s).1, .bool (sizeZ s).2]) ∧ Below w.heap.size w w') .ret A X := by
  obtain ⟨tmps, defers⟩ := A
  simp only at hd h2 h3
  subst hd
  have g0 : (X.putObj (w.heap.size + 4) (.deferred none)).heap[w.heap.size]? = some (.cells #[.int .i64 a] 3 (0, 0)) := (World.putObj_heap_other (by omega)).trans h0
  have g1 : (X.putObj (w.heap.size + 4) (.deferred none)).heap[w.heap.size + 1]? = some (.cells #[.bool b] 4 (0, 0)) := (World.putObj_heap_other (by omega)).trans h1
  have d0 := cell_of_row _ _ 0 _ _ _ g0
  have d1 := cell_of_row _ _ 0 _ _ _ g1
  simp only [List.getElem?_toArray, List.getElem?_cons_zero] at d0 d1
  refine ⟨by simp, .inl ⟨_, _, rfl, run_takeDeferred h4, ?_⟩⟩
  refine ⟨.tuple #[.int .i64 a, .bool b], by simp [results, Tryz.results123, go_sem, d0, d1, h2, h3], by rw [hz], ?_⟩
  exact hb.trans (belowK_b (w := w) (Nat.le_refl _) _ _ _ _ (by omega) h4 rfl rfl)
/-- What lies between two words. -/
def SzI (w : World) (s : ByteArray) (m : Int) (XS : List (List UInt8)) (k : Nat) (V : World) : Prop :=
  ∃ mo : Int, foldW 0 (XS.take k) = some mo ∧ V.heap[w.heap.size]? = some (.cells #[.int .i64 0] 3 (0, 0)) ∧ V.heap[w.heap.size + 1]? = some (.cells #[.bool false] 4 (0, 0)) ∧ V.heap[w.heap.size + 2]? = some (.cells #[.int .i64 mo] 3 (0, 0)) ∧ V.heap[w.heap.size + 3]? = some (.cells #[.string s] 9 (0, 0)) ∧ Below w.heap.size w V
def SzX (w : World) (XS : List (List UInt8)) (c : Code) (V : World) : Prop :=
  c = .ret ∧ foldW 0 XS = none ∧ V.heap[w.heap.size]? = some (.cells #[.int .i64 0] 3 (0, 0)) ∧ V.heap[w.heap.size + 1]? = some (.cells #[.bool false] 4 (0, 0)) ∧ Below w.heap.size w V
theorem bel_tk {w V V' : World} (h : Below w.heap.size w V) (ht : Tk (fun b => w.heap.size + 4 ≤ b) V V') : Below w.heap.size w V' :=
  ⟨ht.1.trans h.os, ht.2.1.trans h.tape, ht.2.2.1.trans h.output, Nat.le_trans h.size ht.size, fun b hb => (ht.2.2.2.2 b (by have := h.size; omega) (by omega)).trans (h.block b hb)⟩
theorem szI_tk {w V V' : World} {s : ByteArray} {m : Int} {XS : List (List UInt8)} {k : Nat} (h : SzI w s m XS k V) (ht : Tk (fun b => w.heap.size + 4 ≤ b) V V') : SzI w s m XS k V' := by
  obtain ⟨mo, h1, h2, h3, h4, h5, h6⟩ := h
  exact ⟨mo, h1, ht.kept h2 (by omega), ht.kept h3 (by omega), ht.kept h4 (by omega), ht.kept h5 (by omega), bel_tk h6 ht⟩
theorem szX_tk {w V V' : World} {XS : List (List UInt8)} {c : Code} (h : SzX w XS c V) (ht : Tk (fun b => w.heap.size + 4 ≤ b) V V') : SzX w XS c V' := by
  obtain ⟨h1, h2, h3, h4, h5⟩ := h
  exact ⟨h1, h2, ht.kept h3 (by omega), ht.kept h4 (by omega), bel_tk h5 ht⟩
set_option maxHeartbeats 16000000 in
set_option maxRecDepth 100000 in
theorem size_any (s : ByteArray) (m : Int) (w : World) (hs : s.size ≤ 100000) (ha : Asc s) (hm : w.cell? ⟨0, 0, none⟩ = some (.int .i64 m)) :
    Calls Tryz.prog 123 #[.string s] w fun e w' => e = .returned (.tuple #[.int .i64 (sizeZ s).1, .bool (sizeZ s).2]) ∧ Below w.heap.size w w' := by
  have HM : Hid (w.cell? ⟨0, 0, none⟩ = some (.int .i64 m)) := hm
  have HA : Hid (Asc s) := ha
  have hpf := fun V => strings_HasPrefix s ⟨#[32]⟩ V
  obtain ⟨pb, hpb⟩ : ∃ b, Lib.hasPrefix s.data.toList [32] = b := ⟨_, rfl⟩
  have hpf : ∀ V, Calls Tryz.prog 151 #[.string s, .string ⟨#[32]⟩] V fun e w' => e = .returned (.bool pb) ∧ w' = V := fun V => by have := hpf V; rw [show Lib.hasPrefix s.data.toList (⟨#[32]⟩ : ByteArray).data.toList = pb from hpb] at this; exact this
  obtain ⟨W0, hW0⟩ : ∃ W0, ((w.alloc (.cells #[.int .i64 0] 3)).alloc (.cells #[.bool false] 4)) = W0 := ⟨_, rfl⟩
  have hz0 : W0.heap.size = w.heap.size + 2 := by rw [← hW0, World.size_alloc, World.size_alloc]
  have hb0 : Below w.heap.size w W0 := by rw [← hW0]; exact (keep w _).alloc (by simp) _
  have r0 : W0.heap[w.heap.size]? = some (.cells #[.int .i64 0] 3 (0, 0)) := by rw [← hW0, Below.heap_alloc _ _ _ (by simp)]; exact World.alloc_heap_new w _
  have r1 : W0.heap[w.heap.size + 1]? = some (.cells #[.bool false] 4 (0, 0)) := by
    have := World.alloc_heap_new (w.alloc (.cells #[.int .i64 0] 3)) (.cells #[.bool false] 4)
    rw [World.size_alloc] at this
    rw [← hW0]; exact this
  have HB0 : Hid (Below w.heap.size w W0) := hb0
  have HR0 : Hid (W0.heap[w.heap.size]? = some (.cells #[.int .i64 0] 3 (0, 0))) := r0
  have HR1 : Hid (W0.heap[w.heap.size + 1]? = some (.cells #[.bool false] 4 (0, 0))) := r1
  by_cases hbad : s.size ≠ 0 ∧ pb = false
  · have HZ : Hid (sizeZ s = (0, false)) := by unfold Hid sizeZ; rw [if_pos ⟨hbad.1, hpb.trans hbad.2⟩]
    obtain ⟨h1, rfl⟩ := hbad
    have he : s.toList.isEmpty = false := by rw [toList_emp]; simp [h1]
    have c0 : W0.cell? ⟨w.heap.size, 0, none⟩ = some (.int .i64 0) := by rw [cell_of_row _ _ _ _ _ _ r0]; rfl
    have c1 : W0.cell? ⟨w.heap.size + 1, 0, none⟩ = some (.bool false) := by rw [cell_of_row _ _ _ _ _ _ r1]; rfl
    have f0 : W0.frozen? ⟨w.heap.size, 0, none⟩ = false := frozen_of_row _ _ _ _ _ r0
    have f1 : W0.frozen? ⟨w.heap.size + 1, 0, none⟩ = false := frozen_of_row _ _ _ _ _ r1
    clear hb0 r0 r1 hz0
    go_enter Tryz.func123, Tryz.ntmps123
    go_wp2_with fail
    refine (hpf _).mono ?_
    rintro e w1 ⟨rfl, rfl⟩
    go_wp2
    have e0 : (w1.setCell ⟨w.heap.size, 0, none⟩ (.int .i64 0)).heap[w.heap.size]? = some (.cells #[.int .i64 0] 3 (0, 0)) := heap_setCell_same _ _ 0 _ 3 _ HR0.out
    have e1 : (w1.setCell ⟨w.heap.size, 0, none⟩ (.int .i64 0)).heap[w.heap.size + 1]? = some (.cells #[.bool false] 4 (0, 0)) := (heap_setCell_other _ _ _ _ (by simp)).trans HR1.out
    have g1 : ((w1.setCell ⟨w.heap.size, 0, none⟩ (.int .i64 0)).setCell ⟨w.heap.size + 1, 0, none⟩ (.bool false)).heap[w.heap.size + 1]? = some (.cells #[.bool false] 4 (0, 0)) := heap_setCell_same _ _ 0 _ 4 _ e1
    have g0 : ((w1.setCell ⟨w.heap.size, 0, none⟩ (.int .i64 0)).setCell ⟨w.heap.size + 1, 0, none⟩ (.bool false)).heap[w.heap.size]? = some (.cells #[.int .i64 0] 3 (0, 0)) := (heap_setCell_other _ _ _ _ (by simp)).trans e0
    have d0 := cell_of_row _ _ 0 _ _ _ g0
    have d1 := cell_of_row _ _ 0 _ _ _ g1
    simp only [List.getElem?_toArray, List.getElem?_cons_zero] at d0 d1
    refine bodyPost_ret (v := .tuple #[.int .i64 0, .bool false]) (by simp [results, Tryz.results123, go_sem, d0, d1]) rfl ⟨by rw [HZ.out], ?_⟩
    exact (HB0.out.setCell (p := ⟨w.heap.size, 0, none⟩) (Nat.le_refl _) _).setCell (p := ⟨w.heap.size + 1, 0, none⟩) (Nat.le_succ _) _
  · have HZ : Hid (sizeZ s = match foldW 0 (wordsZ s.data.toList) with | none => (0, false) | some mo => (mo, true)) := by
      unfold Hid sizeZ; rw [if_neg (fun q => hbad ⟨q.1, hpb.symm.trans q.2⟩)]
    obtain ⟨F, hF⟩ : ∃ f, foldW 0 (wordsZ s.data.toList) = f := ⟨_, rfl⟩
    have HF : Hid (foldW 0 (wordsZ s.data.toList) = F) := hF
    obtain ⟨XS, hXS⟩ : ∃ xs, wordsZ s.data.toList = xs := ⟨_, rfl⟩
    have HXS : Hid (wordsZ s.data.toList = XS) := hXS
    obtain ⟨eb, heb⟩ : ∃ b, s.toList.isEmpty = b := ⟨_, rfl⟩
    have hep : eb = false → pb = true := fun h => by
      cases pb with
      | true => rfl
      | false => exact absurd ⟨by rw [h, toList_emp] at heb; simpa using heb, rfl⟩ hbad
    refine (callsIn_wide (n := 20)).1 ?_
    refine callsIn_of_wp_marks Tryz.func123 rfl trivial ?_ rfl
    simp only [Tryz.ntmps123, List.size_toArray, List.length_cons, List.length_nil, Nat.reduceAdd, Nat.reduceSub, Array.replicate_succ, Array.replicate_zero, List.push_toArray, List.append_toArray, List.nil_append, List.cons_append]
    have hwd := fun V => words_any s V
    clear hF hXS hb0 r0 r1 hm ha
    cases eb with
    | true =>
      clear hpf hep
      gi_wp2_with fail
      refine ⟨trivial, ?_⟩
      gi_wp2_with fail
      refine ⟨trivial, (callsIn_wide.2 (hwd _)).mono ?_⟩
      rintro e W1 ⟨rfl, hW1⟩
      have hz1 : (W0.alloc (.cells #[.int .i64 0] 3)).heap.size = w.heap.size + 3 := by rw [World.size_alloc, hz0]
      have hz2 : W1.heap.size = w.heap.size + 4 := by rw [hW1, World.size_alloc, hz1]
      have hb1 : Below W0.heap.size W0 W1 := by rw [hW1]; exact (keep W0 _).alloc (by simp) _
      have HB1 : Hid (Below w.heap.size w W1) := HB0.out.trans (hb1.mono HB0.out.size)
      have q0 : W1.heap[w.heap.size]? = some (.cells #[.int .i64 0] 3 (0, 0)) := (hb1.block _ (by omega)).trans HR0.out
      have q1 : W1.heap[w.heap.size + 1]? = some (.cells #[.bool false] 4 (0, 0)) := (hb1.block _ (by omega)).trans HR1.out
      have q2 : W1.heap[w.heap.size + 2]? = some (.cells #[.int .i64 0] 3 (0, 0)) := by
        rw [hW1, Below.heap_alloc _ _ _ (by omega)]
        have := World.alloc_heap_new W0 (.cells #[.int .i64 0] 3)
        rw [hz0] at this; exact this
      have q3 : W1.heap[w.heap.size + 3]? = some (.cells #[.string s] 9 (0, 0)) := by
        have := World.alloc_heap_new (W0.alloc (.cells #[.int .i64 0] 3)) (.cells #[.string s] 9)
        rw [hz1] at this
        rw [hW1]; exact this
      rw [hz1]
      have hit0 := fun X => words_iter 19 (by omega) (w.heap.size + 3) s m (by omega) X
      rw [HXS.out] at hit0
      have HI0 : Hid (SzI w s m XS 0 W1) := ⟨0, by simp [foldW], q0, q1, q2, q3, HB1.out⟩
      clear hW1 hz1 hb1 q0 q1 q2 q3 hwd
      gi_wp2_with fail
      refine range_g 20 172 [.pointer (some ⟨w.heap.size + 3, 0, none⟩)] (fun _ => False) (wordsV XS) (fun V => V.cell? ⟨w.heap.size + 3, 0, none⟩ = some (.string s) ∧ V.cell? ⟨0, 0, none⟩ = some (.int .i64 m))
        (fun X hX hz => hit0 X) (fun b hb => hb.elim) ?ps rfl (fun args W => by simp [go_sem]) (fun k V => SzI w s m XS k V) (fun c V => SzX w XS c V) ?cI ?cX ?cG HI0.out
        (fun x => { tmps := #[.string s, undef, .pointer (some ⟨w.heap.size, 0, none⟩), .pointer (some ⟨w.heap.size + 1, 0, none⟩), .pointer (some ⟨w.heap.size + 2, 0, none⟩), x.getD 0 undef, undef, undef, undef, undef, .string s, .bool false, .bool false, undef, undef, undef, .bool false, .string s, .func (.func 172) #[] #[.pointer (some ⟨w.heap.size + 3, 0, none⟩)], x.getD 0 undef, undef, undef, undef, undef, undef, undef, undef, undef, undef, undef, undef, undef, undef, undef, undef, undef, undef, undef, undef, undef, undef, undef, undef, undef, undef, undef], defers := [] }) ?cA ?cB ?cD ?cS
      case ps =>
        intro k x hx
        unfold wordsV at hx
        rw [List.getElem?_map] at hx
        cases h : XS[k]? with
        | none => rw [h] at hx; simp at hx
        | some y => rw [h] at hx; simp at hx; subst hx; rfl
      case cI => exact fun k V V' h ht => szI_tk h (ht.mono (fun b hb => by rcases hb with hb | hb; exact hb.elim; exact (show w.heap.size + 4 ≤ b by omega)))
      case cX => exact fun c V V' h ht => szX_tk h (ht.mono (fun b hb => by rcases hb with hb | hb; exact hb.elim; exact (show w.heap.size + 4 ≤ b by omega)))
      case cG =>
        rintro k V ⟨mo, _, _, _, _, h5, h6⟩
        refine ⟨by rw [cell_of_row _ _ _ _ _ _ h5]; rfl, ?_⟩
        exact (h6.cell (World.block_lt_of_cell? w _ HM.out)).trans HM.out
      case cA =>
        intro l k x V K hx hK
        unfold wordsV at hx
        rw [List.getElem?_map] at hx
        cases h : XS[k]? with
        | none => rw [h] at hx; simp at hx
        | some y =>
          rw [h] at hx; simp at hx; subst hx
          gi_wp2
          exact hK
      case cB =>
        intro l k x V hx hI hsz hob
        unfold wordsV at hx
        rw [List.getElem?_map] at hx
        cases h : XS[k]? with
        | none => rw [h] at hx; simp at hx
        | some y =>
        rw [h] at hx; simp at hx; subst hx
        have HXK : Hid (XS[k]? = some y) := h
        obtain ⟨hy1, hy2⟩ := words_sub s.data.toList y (by rw [HXS.out]; exact List.mem_of_getElem? h)
        have hyz : y.length ≤ 100000 := by have : s.data.toList.length = s.size := Array.length_toList; omega
        have hya : ∀ (j : Nat) (b : UInt8), (strL y).data.toList[j]? = some b → b.toNat < 128 := fun j b hb => (Asc.mem.1 HA.out) b (hy1 b (List.mem_of_getElem? hb))
        obtain ⟨mo, i1, i2, i3, i4, i5, i6⟩ := hI
        have HI1 : Hid (foldW 0 (XS.take k) = some mo) := i1
        have HI : Hid (V.heap[w.heap.size]? = some (.cells #[.int .i64 0] 3 (0, 0)) ∧ V.heap[w.heap.size + 1]? = some (.cells #[.bool false] 4 (0, 0)) ∧ V.heap[w.heap.size + 2]? = some (.cells #[.int .i64 mo] 3 (0, 0)) ∧ V.heap[w.heap.size + 3]? = some (.cells #[.string s] 9 (0, 0)) ∧ Below w.heap.size w V) := ⟨i2, i3, i4, i5, i6⟩
        clear h i1 i2 i3 i4 i5 i6 hy1 hy2
        have hup := strings_ToUpper_ascii (strL y) V (by rw [strL_size]; omega) hya
        rw [strL_list] at hup
        obtain ⟨ul, hul⟩ : ∃ u, Lib.toUpperA y = u := ⟨_, rfl⟩
        rw [hul] at hup
        obtain ⟨u, hu⟩ : ∃ u, (⟨ul.toArray⟩ : ByteArray) = u := ⟨_, rfl⟩
        have hud : u.data.toList = ul := by rw [← hu]
        have hcp := fun X => strings_CutPrefix u ⟨#[83, 73, 90, 69, 61]⟩ X
        obtain ⟨hp, hhp⟩ : ∃ b, Lib.hasPrefix ul sizeB = b := ⟨_, rfl⟩
        obtain ⟨dg, hdg⟩ : ∃ d, strL (Lib.trimPrefix ul sizeB) = d := ⟨_, rfl⟩
        have hcp : ∀ X, Calls Tryz.prog 150 #[.string u, .string ⟨#[83, 73, 90, 69, 61]⟩] X fun e w' => e = .returned (.tuple #[.string dg, .bool hp]) ∧ w' = X := fun X => by
          have := hcp X
          rw [hud] at this
          rw [← hdg, ← hhp]
          exact this
        have hdz : dg.size ≤ 1000000000 := by
          rw [← hdg, strL_size]
          have h1 : (Lib.trimPrefix ul sizeB).length ≤ ul.length := by
            unfold Lib.trimPrefix; split
            · simp
            · exact Nat.le_refl _
          have h2 : ul.length = y.length := by rw [← hul]; unfold Lib.toUpperA; simp
          omega
        have hnb := fun X => number_any dg X hdz
        obtain ⟨nv, hnv⟩ : ∃ v, (numZ (nums dg)).1 = v := ⟨_, rfl⟩
        obtain ⟨rt, hrt⟩ : ∃ v, (numZ (nums dg)).2 = v := ⟨_, rfl⟩
        rw [hnv, hrt] at hnb
        have HST : Hid (stepW mo y = if (hp && rt) = true then some (max mo nv) else if ul ≠ b7B ∧ ul ≠ b8B then none else some mo) := by
          unfold Hid stepW; rw [hul, hhp, hdg, hnv, hrt]
        have HE7 : Hid (u.toList = b7B ↔ ul = b7B) := by unfold Hid; rw [ByteArray.toList_eq, hud]
        have HE8 : Hid (u.toList = b8B ↔ ul = b8B) := by unfold Hid; rw [ByteArray.toList_eq, hud]
        have HFT := foldW_take XS k y mo HXK.out HI1.out
        have HFT : Hid ((∀ m', stepW mo y = some m' → foldW 0 (XS.take (k + 1)) = some m') ∧ (stepW mo y = none → foldW 0 XS = none)) := HFT
        rw [hu] at hup
        clear hul hu hud hhp hdg hnv hrt hdz hyz hya
        show Code.wpIn _ _ _ _ _ { tmps := #[.string s, undef, .pointer (some ⟨w.heap.size, 0, none⟩), .pointer (some ⟨w.heap.size + 1, 0, none⟩), .pointer (some ⟨w.heap.size + 2, 0, none⟩), .string (strL y), undef, undef, undef, undef, .string s, .bool false, .bool false, undef, undef, undef, .bool false, .string s, .func (.func 172) #[] #[.pointer (some ⟨w.heap.size + 3, 0, none⟩)], .string (strL y), undef, undef, undef, undef, undef, undef, undef, undef, undef, undef, undef, undef, undef, undef, undef, undef, undef, undef, undef, undef, undef, undef, undef, undef, undef, undef], defers := [] } V
        gi_wp2_with fail
        refine ⟨trivial, (CallsIn.inRound l (callsIn_wide.2 hup)).mono ?_⟩
        rintro e V1 ⟨rfl, hb1⟩
        clear hup
        obtain ⟨v0, v1, v2, v3, v4⟩ := HI.out
        have HV : Hid (V1.heap[w.heap.size]? = some (.cells #[.int .i64 0] 3 (0, 0)) ∧ V1.heap[w.heap.size + 1]? = some (.cells #[.bool false] 4 (0, 0)) ∧ V1.heap[w.heap.size + 2]? = some (.cells #[.int .i64 mo] 3 (0, 0)) ∧ V1.heap[w.heap.size + 3]? = some (.cells #[.string s] 9 (0, 0)) ∧ Below w.heap.size w V1) :=
          ⟨(hb1.block _ (by omega)).trans v0, (hb1.block _ (by omega)).trans v1, (hb1.block _ (by omega)).trans v2, (hb1.block _ (by omega)).trans v3, v4.trans (hb1.mono v4.size)⟩
        have HK : Hid (∀ b, (False ∨ b = W1.heap.size ∨ b = W1.heap.size + 1) → V1.heap[b]? = V.heap[b]?) := fun b hb => hb1.block b (by rcases hb with hb | hb | hb; exact hb.elim; omega; omega)
        obtain ⟨v0, v1, v2, v3, v4⟩ := HV.out
        have c0 : V1.cell? ⟨w.heap.size, 0, none⟩ = some (.int .i64 0) := by rw [cell_of_row _ _ _ _ _ _ v0]; rfl
        have c1 : V1.cell? ⟨w.heap.size + 1, 0, none⟩ = some (.bool false) := by rw [cell_of_row _ _ _ _ _ _ v1]; rfl
        have c2 : V1.cell? ⟨w.heap.size + 2, 0, none⟩ = some (.int .i64 mo) := by rw [cell_of_row _ _ _ _ _ _ v2]; rfl
        have f0 : V1.frozen? ⟨w.heap.size, 0, none⟩ = false := frozen_of_row _ _ _ _ _ v0
        have f1 : V1.frozen? ⟨w.heap.size + 1, 0, none⟩ = false := frozen_of_row _ _ _ _ _ v1
        have f2 : V1.frozen? ⟨w.heap.size + 2, 0, none⟩ = false := frozen_of_row _ _ _ _ _ v2
        have hz5 : w.heap.size + 4 ≤ V1.heap.size := by have := hb1.size; omega
        clear v0 v1 v2 v3 v4 hb1
        gi_wp2_with fail
        refine ⟨trivial, (CallsIn.inRound l (callsIn_wide.2 (hcp V1))).mono ?_⟩
        rintro e V2 ⟨rfl, rfl⟩
        gi_wp2_with fail
        refine ⟨trivial, (CallsIn.inRound l (callsIn_wide.2 (hnb V2))).mono ?_⟩
        rintro e V3 ⟨rfl, rfl⟩
        clear hcp hnb
        have tail : ∀ (mo' : Int) (A : Act), stepW mo y = some mo' → leaveG (fun k V => SzI w s m XS k V) (fun c V => SzX w XS c V) (k + 1) (fun b => False ∨ b = W1.heap.size ∨ b = W1.heap.size + 1) V .normal A (V2.setCell ⟨w.heap.size + 2, 0, none⟩ (.int .i64 mo')) := by
          intro mo' A hmo
          obtain ⟨v0, v1, v2, v3, v4⟩ := HV.out
          refine ⟨⟨mo', HFT.out.1 mo' hmo, (heap_setCell_other _ _ _ _ (by simp)).trans v0, (heap_setCell_other _ _ _ _ (by simp)).trans v1, heap_setCell_same _ _ 0 _ 3 _ v2, (heap_setCell_other _ _ _ _ (by simp)).trans v3, v4.setCell (p := ⟨w.heap.size + 2, 0, none⟩) (by simp) _⟩, fun b hb => ?_⟩
          rw [heap_setCell_other _ _ _ _ (by simp; rcases hb with hb | hb | hb; exact hb.elim; omega; omega)]
          exact HK.out b hb
        have HTL : Hid (∀ (mo' : Int) (A : Act), stepW mo y = some mo' → leaveG (fun k V => SzI w s m XS k V) (fun c V => SzX w XS c V) (k + 1) (fun b => False ∨ b = W1.heap.size ∨ b = W1.heap.size + 1) V .normal A (V2.setCell ⟨w.heap.size + 2, 0, none⟩ (.int .i64 mo'))) := tail
        clear tail
        cases hpr : (hp && rt) with
        | true =>
          have hS : stepW mo y = some (max mo nv) := by rw [HST.out, hpr]; rfl
          have HS : Hid (stepW mo y = some (max mo nv)) := hS
          rw [Bool.and_eq_true] at hpr
          obtain ⟨rfl, rfl⟩ := hpr
          clear hS
          gi_wp2
          exact HTL.out _ _ HS.out
        | false =>
          have hS : stepW mo y = if ul ≠ b7B ∧ ul ≠ b8B then none else some mo := by rw [HST.out, hpr]; rfl
          have HTN : Hid (∀ A : Act, stepW mo y = some mo → leaveG (fun k V => SzI w s m XS k V) (fun c V => SzX w XS c V) (k + 1) (fun b => False ∨ b = W1.heap.size ∨ b = W1.heap.size + 1) V .normal A V2) := fun A hmo => by
            obtain ⟨v0, v1, v2, v3, v4⟩ := HV.out
            exact ⟨⟨mo, HFT.out.1 mo hmo, v0, v1, v2, v3, v4⟩, fun b hb => HK.out b hb⟩
          have HTX : Hid (∀ A : Act, stepW mo y = none → leaveG (fun k V => SzI w s m XS k V) (fun c V => SzX w XS c V) (k + 1) (fun b => False ∨ b = W1.heap.size ∨ b = W1.heap.size + 1) V .ret A ((V2.setCell ⟨w.heap.size, 0, none⟩ (.int .i64 0)).setCell ⟨w.heap.size + 1, 0, none⟩ (.bool false))) := fun A hmo => by
            obtain ⟨v0, v1, v2, v3, v4⟩ := HV.out
            refine ⟨⟨rfl, HFT.out.2 hmo, (heap_setCell_other _ _ _ _ (by simp)).trans (heap_setCell_same _ _ 0 _ 3 _ v0), heap_setCell_same _ _ 0 _ 4 _ ((heap_setCell_other _ _ _ _ (by simp)).trans v1), (v4.setCell (p := ⟨w.heap.size, 0, none⟩) (Nat.le_refl _) _).setCell (p := ⟨w.heap.size + 1, 0, none⟩) (by simp) _⟩, fun b hb => ?_⟩
            rw [heap_setCell_other _ _ _ _ (by simp; rcases hb with hb | hb | hb; exact hb.elim; omega; omega), heap_setCell_other _ _ _ _ (by simp; rcases hb with hb | hb | hb; exact hb.elim; omega; omega)]
            exact HK.out b hb
          by_cases p7 : u.toList = [66, 79, 68, 89, 61, 55, 66, 73, 84]
          · have p7' : (u.toList == [66, 79, 68, 89, 61, 55, 66, 73, 84]) = true := by rw [p7]; rfl
            have HS : Hid (stepW mo y = some mo) := by unfold Hid; rw [hS, if_neg (fun q => q.1 (HE7.out.1 p7))]
            clear hS
            cases hp <;> cases rt
            · gi_wp2
              exact HTN.out _ HS.out
            · gi_wp2
              exact HTN.out _ HS.out
            · gi_wp2
              exact HTN.out _ HS.out
            · cases hpr
          · have p7' : (u.toList == [66, 79, 68, 89, 61, 55, 66, 73, 84]) = false := by simpa using p7
            by_cases p8 : u.toList = [66, 79, 68, 89, 61, 56, 66, 73, 84, 77, 73, 77, 69]
            · have p8' : (u.toList == [66, 79, 68, 89, 61, 56, 66, 73, 84, 77, 73, 77, 69]) = true := by rw [p8]; rfl
              have HS : Hid (stepW mo y = some mo) := by unfold Hid; rw [hS, if_neg (fun q => q.2 (HE8.out.1 p8))]
              clear hS
              cases hp <;> cases rt
              · gi_wp2
                exact HTN.out _ HS.out
              · gi_wp2
                exact HTN.out _ HS.out
              · gi_wp2
                exact HTN.out _ HS.out
              · cases hpr
            · have p8' : (u.toList == [66, 79, 68, 89, 61, 56, 66, 73, 84, 77, 73, 77, 69]) = false := by simpa using p8
              have HS : Hid (stepW mo y = none) := by unfold Hid; rw [hS, if_pos ⟨fun q => p7 (HE7.out.2 q), fun q => p8 (HE8.out.2 q)⟩]
              clear hS
              cases hp <;> cases rt
              · gi_wp2
                exact HTX.out _ HS.out
              · gi_wp2
                exact HTX.out _ HS.out
              · gi_wp2
                exact HTX.out _ HS.out
              · cases hpr
      case cD =>
        intro V hI hd
        obtain ⟨mo, h1, h2, h3, h4, h5, h6⟩ := hI
        have hlw : (wordsV XS).length = XS.length := by unfold wordsV; simp
        rw [hlw, List.take_length] at h1
        have HZZ : Hid (sizeZ s = (mo, true)) := by unfold Hid; rw [HZ.out, HXS.out, h1]
        have c0 : V.cell? ⟨w.heap.size, 0, none⟩ = some (.int .i64 0) := by rw [cell_of_row _ _ _ _ _ _ h2]; rfl
        have c1 : V.cell? ⟨w.heap.size + 1, 0, none⟩ = some (.bool false) := by rw [cell_of_row _ _ _ _ _ _ h3]; rfl
        have c2 : V.cell? ⟨w.heap.size + 2, 0, none⟩ = some (.int .i64 mo) := by rw [cell_of_row _ _ _ _ _ _ h4]; rfl
        have f0 : V.frozen? ⟨w.heap.size, 0, none⟩ = false := frozen_of_row _ _ _ _ _ h2
        have f1 : V.frozen? ⟨w.heap.size + 1, 0, none⟩ = false := frozen_of_row _ _ _ _ _ h3
        rw [hz2] at hd ⊢
        have HD : Hid (V.heap[w.heap.size + 4]? = some (.deferred (some []))) := hd
        have H2 : Hid (V.heap[w.heap.size]? = some (.cells #[.int .i64 0] 3 (0, 0)) ∧ V.heap[w.heap.size + 1]? = some (.cells #[.bool false] 4 (0, 0)) ∧ Below w.heap.size w V) := ⟨h2, h3, h6⟩
        clear h1 h2 h3 h4 h5 h6 hd
        gi_wp2
        obtain ⟨h2, h3, h6⟩ := H2.out
        have e0 : ((V.setCell ⟨w.heap.size, 0, none⟩ (.int .i64 mo)).setCell ⟨w.heap.size + 1, 0, none⟩ (.bool true)).heap[w.heap.size]? = some (.cells #[.int .i64 mo] 3 (0, 0)) := (heap_setCell_other _ _ _ _ (by simp)).trans (heap_setCell_same _ _ 0 _ 3 _ h2)
        have e1 : ((V.setCell ⟨w.heap.size, 0, none⟩ (.int .i64 mo)).setCell ⟨w.heap.size + 1, 0, none⟩ (.bool true)).heap[w.heap.size + 1]? = some (.cells #[.bool true] 4 (0, 0)) := heap_setCell_same _ _ 0 _ 4 _ ((heap_setCell_other _ _ _ _ (by simp)).trans h3)
        have e4 : ((V.setCell ⟨w.heap.size, 0, none⟩ (.int .i64 mo)).setCell ⟨w.heap.size + 1, 0, none⟩ (.bool true)).heap[w.heap.size + 4]? = some (.deferred (some [])) := (heap_setCell_other _ _ _ _ (by simp)).trans ((heap_setCell_other _ _ _ _ (by simp)).trans HD.out)
        refine sz_leave e0 e1 e4 ((h6.setCell (p := ⟨w.heap.size, 0, none⟩) (Nat.le_refl _) _).setCell (p := ⟨w.heap.size + 1, 0, none⟩) (by simp) _) HZZ.out rfl rfl rfl
      case cS =>
        intro c V hx hd
        obtain ⟨rfl, h1, h2, h3, h6⟩ := hx
        have HZZ : Hid (sizeZ s = (0, false)) := by unfold Hid; rw [HZ.out, HXS.out, h1]
        rw [hz2] at hd ⊢
        gi_wp2
        exact sz_leave h2 h3 hd h6 HZZ.out rfl rfl rfl
    | false =>
      obtain rfl := hep rfl
      clear hep
      gi_wp2_with fail
      refine ⟨trivial, (callsIn_wide.2 (hpf _)).mono ?_⟩
      rintro e w1 ⟨rfl, rfl⟩
      clear hpf
      gi_wp2_with fail
      refine ⟨trivial, (callsIn_wide.2 (hwd _)).mono ?_⟩
      rintro e W1 ⟨rfl, hW1⟩
      have hz1 : (w1.alloc (.cells #[.int .i64 0] 3)).heap.size = w.heap.size + 3 := by rw [World.size_alloc, hz0]
      have hz2 : W1.heap.size = w.heap.size + 4 := by rw [hW1, World.size_alloc, hz1]
      have hb1 : Below w1.heap.size w1 W1 := by rw [hW1]; exact (keep w1 _).alloc (by simp) _
      have HB1 : Hid (Below w.heap.size w W1) := HB0.out.trans (hb1.mono HB0.out.size)
      have q0 : W1.heap[w.heap.size]? = some (.cells #[.int .i64 0] 3 (0, 0)) := (hb1.block _ (by omega)).trans HR0.out
      have q1 : W1.heap[w.heap.size + 1]? = some (.cells #[.bool false] 4 (0, 0)) := (hb1.block _ (by omega)).trans HR1.out
      have q2 : W1.heap[w.heap.size + 2]? = some (.cells #[.int .i64 0] 3 (0, 0)) := by
        rw [hW1, Below.heap_alloc _ _ _ (by omega)]
        have := World.alloc_heap_new w1 (.cells #[.int .i64 0] 3)
        rw [hz0] at this; exact this
      have q3 : W1.heap[w.heap.size + 3]? = some (.cells #[.string s] 9 (0, 0)) := by
        have := World.alloc_heap_new (w1.alloc (.cells #[.int .i64 0] 3)) (.cells #[.string s] 9)
        rw [hz1] at this
        rw [hW1]; exact this
      rw [hz1]
      have hit0 := fun X => words_iter 19 (by omega) (w.heap.size + 3) s m (by omega) X
      rw [HXS.out] at hit0
      have HI0 : Hid (SzI w s m XS 0 W1) := ⟨0, by simp [foldW], q0, q1, q2, q3, HB1.out⟩
      clear hW1 hz1 hb1 q0 q1 q2 q3 hwd
      gi_wp2_with fail
      refine range_g 20 172 [.pointer (some ⟨w.heap.size + 3, 0, none⟩)] (fun _ => False) (wordsV XS) (fun V => V.cell? ⟨w.heap.size + 3, 0, none⟩ = some (.string s) ∧ V.cell? ⟨0, 0, none⟩ = some (.int .i64 m))
        (fun X hX hz => hit0 X) (fun b hb => hb.elim) ?ps rfl (fun args W => by simp [go_sem]) (fun k V => SzI w s m XS k V) (fun c V => SzX w XS c V) ?cI ?cX ?cG HI0.out
        (fun x => { tmps := #[.string s, undef, .pointer (some ⟨w.heap.size, 0, none⟩), .pointer (some ⟨w.heap.size + 1, 0, none⟩), .pointer (some ⟨w.heap.size + 2, 0, none⟩), x.getD 0 undef, undef, undef, undef, undef, .string s, .bool true, .bool true, .string s, .bool true, .bool false, .bool false, .string s, .func (.func 172) #[] #[.pointer (some ⟨w.heap.size + 3, 0, none⟩)], x.getD 0 undef, undef, undef, undef, undef, undef, undef, undef, undef, undef, undef, undef, undef, undef, undef, undef, undef, undef, undef, undef, undef, undef, undef, undef, undef, undef, undef], defers := [] }) ?cA ?cB ?cD ?cS
      case ps =>
        intro k x hx
        unfold wordsV at hx
        rw [List.getElem?_map] at hx
        cases h : XS[k]? with
        | none => rw [h] at hx; simp at hx
        | some y => rw [h] at hx; simp at hx; subst hx; rfl
      case cI => exact fun k V V' h ht => szI_tk h (ht.mono (fun b hb => by rcases hb with hb | hb; exact hb.elim; exact (show w.heap.size + 4 ≤ b by omega)))
      case cX => exact fun c V V' h ht => szX_tk h (ht.mono (fun b hb => by rcases hb with hb | hb; exact hb.elim; exact (show w.heap.size + 4 ≤ b by omega)))
      case cG =>
        rintro k V ⟨mo, _, _, _, _, h5, h6⟩
        refine ⟨by rw [cell_of_row _ _ _ _ _ _ h5]; rfl, ?_⟩
        exact (h6.cell (World.block_lt_of_cell? w _ HM.out)).trans HM.out
      case cA =>
        intro l k x V K hx hK
        unfold wordsV at hx
        rw [List.getElem?_map] at hx
        cases h : XS[k]? with
        | none => rw [h] at hx; simp at hx
        | some y =>
          rw [h] at hx; simp at hx; subst hx
          gi_wp2
          exact hK
      case cB =>
        intro l k x V hx hI hsz hob
        unfold wordsV at hx
        rw [List.getElem?_map] at hx
        cases h : XS[k]? with
        | none => rw [h] at hx; simp at hx
        | some y =>
        rw [h] at hx; simp at hx; subst hx
        have HXK : Hid (XS[k]? = some y) := h
        obtain ⟨hy1, hy2⟩ := words_sub s.data.toList y (by rw [HXS.out]; exact List.mem_of_getElem? h)
        have hyz : y.length ≤ 100000 := by have : s.data.toList.length = s.size := Array.length_toList; omega
        have hya : ∀ (j : Nat) (b : UInt8), (strL y).data.toList[j]? = some b → b.toNat < 128 := fun j b hb => (Asc.mem.1 HA.out) b (hy1 b (List.mem_of_getElem? hb))
        obtain ⟨mo, i1, i2, i3, i4, i5, i6⟩ := hI
        have HI1 : Hid (foldW 0 (XS.take k) = some mo) := i1
        have HI : Hid (V.heap[w.heap.size]? = some (.cells #[.int .i64 0] 3 (0, 0)) ∧ V.heap[w.heap.size + 1]? = some (.cells #[.bool false] 4 (0, 0)) ∧ V.heap[w.heap.size + 2]? = some (.cells #[.int .i64 mo] 3 (0, 0)) ∧ V.heap[w.heap.size + 3]? = some (.cells #[.string s] 9 (0, 0)) ∧ Below w.heap.size w V) := ⟨i2, i3, i4, i5, i6⟩
        clear h i1 i2 i3 i4 i5 i6 hy1 hy2
        have hup := strings_ToUpper_ascii (strL y) V (by rw [strL_size]; omega) hya
        rw [strL_list] at hup
        obtain ⟨ul, hul⟩ : ∃ u, Lib.toUpperA y = u := ⟨_, rfl⟩
        rw [hul] at hup
        obtain ⟨u, hu⟩ : ∃ u, (⟨ul.toArray⟩ : ByteArray) = u := ⟨_, rfl⟩
        have hud : u.data.toList = ul := by rw [← hu]
        have hcp := fun X => strings_CutPrefix u ⟨#[83, 73, 90, 69, 61]⟩ X
        obtain ⟨hp, hhp⟩ : ∃ b, Lib.hasPrefix ul sizeB = b := ⟨_, rfl⟩
        obtain ⟨dg, hdg⟩ : ∃ d, strL (Lib.trimPrefix ul sizeB) = d := ⟨_, rfl⟩
        have hcp : ∀ X, Calls Tryz.prog 150 #[.string u, .string ⟨#[83, 73, 90, 69, 61]⟩] X fun e w' => e = .returned (.tuple #[.string dg, .bool hp]) ∧ w' = X := fun X => by
          have := hcp X
          rw [hud] at this
          rw [← hdg, ← hhp]
          exact this
        have hdz : dg.size ≤ 1000000000 := by
          rw [← hdg, strL_size]
          have h1 : (Lib.trimPrefix ul sizeB).length ≤ ul.length := by
            unfold Lib.trimPrefix; split
            · simp
            · exact Nat.le_refl _
          have h2 : ul.length = y.length := by rw [← hul]; unfold Lib.toUpperA; simp
          omega
        have hnb := fun X => number_any dg X hdz
        obtain ⟨nv, hnv⟩ : ∃ v, (numZ (nums dg)).1 = v := ⟨_, rfl⟩
        obtain ⟨rt, hrt⟩ : ∃ v, (numZ (nums dg)).2 = v := ⟨_, rfl⟩
        rw [hnv, hrt] at hnb
        have HST : Hid (stepW mo y = if (hp && rt) = true then some (max mo nv) else if ul ≠ b7B ∧ ul ≠ b8B then none else some mo) := by
          unfold Hid stepW; rw [hul, hhp, hdg, hnv, hrt]
        have HE7 : Hid (u.toList = b7B ↔ ul = b7B) := by unfold Hid; rw [ByteArray.toList_eq, hud]
        have HE8 : Hid (u.toList = b8B ↔ ul = b8B) := by unfold Hid; rw [ByteArray.toList_eq, hud]
        have HFT := foldW_take XS k y mo HXK.out HI1.out
        have HFT : Hid ((∀ m', stepW mo y = some m' → foldW 0 (XS.take (k + 1)) = some m') ∧ (stepW mo y = none → foldW 0 XS = none)) := HFT
        rw [hu] at hup
        clear hul hu hud hhp hdg hnv hrt hdz hyz hya
        show Code.wpIn _ _ _ _ _ { tmps := #[.string s, undef, .pointer (some ⟨w.heap.size, 0, none⟩), .pointer (some ⟨w.heap.size + 1, 0, none⟩), .pointer (some ⟨w.heap.size + 2, 0, none⟩), .string (strL y), undef, undef, undef, undef, .string s, .bool true, .bool true, .string s, .bool true, .bool false, .bool false, .string s, .func (.func 172) #[] #[.pointer (some ⟨w.heap.size + 3, 0, none⟩)], .string (strL y), undef, undef, undef, undef, undef, undef, undef, undef, undef, undef, undef, undef, undef, undef, undef, undef, undef, undef, undef, undef, undef, undef, undef, undef, undef, undef], defers := [] } V
        gi_wp2_with fail
        refine ⟨trivial, (CallsIn.inRound l (callsIn_wide.2 hup)).mono ?_⟩
        rintro e V1 ⟨rfl, hb1⟩
        clear hup
        obtain ⟨v0, v1, v2, v3, v4⟩ := HI.out
        have HV : Hid (V1.heap[w.heap.size]? = some (.cells #[.int .i64 0] 3 (0, 0)) ∧ V1.heap[w.heap.size + 1]? = some (.cells #[.bool false] 4 (0, 0)) ∧ V1.heap[w.heap.size + 2]? = some (.cells #[.int .i64 mo] 3 (0, 0)) ∧ V1.heap[w.heap.size + 3]? = some (.cells #[.string s] 9 (0, 0)) ∧ Below w.heap.size w V1) :=
          ⟨(hb1.block _ (by omega)).trans v0, (hb1.block _ (by omega)).trans v1, (hb1.block _ (by omega)).trans v2, (hb1.block _ (by omega)).trans v3, v4.trans (hb1.mono v4.size)⟩
        have HK : Hid (∀ b, (False ∨ b = W1.heap.size ∨ b = W1.heap.size + 1) → V1.heap[b]? = V.heap[b]?) := fun b hb => hb1.block b (by rcases hb with hb | hb | hb; exact hb.elim; omega; omega)
        obtain ⟨v0, v1, v2, v3, v4⟩ := HV.out
        have c0 : V1.cell? ⟨w.heap.size, 0, none⟩ = some (.int .i64 0) := by rw [cell_of_row _ _ _ _ _ _ v0]; rfl
        have c1 : V1.cell? ⟨w.heap.size + 1, 0, none⟩ = some (.bool false) := by rw [cell_of_row _ _ _ _ _ _ v1]; rfl
        have c2 : V1.cell? ⟨w.heap.size + 2, 0, none⟩ = some (.int .i64 mo) := by rw [cell_of_row _ _ _ _ _ _ v2]; rfl
        have f0 : V1.frozen? ⟨w.heap.size, 0, none⟩ = false := frozen_of_row _ _ _ _ _ v0
        have f1 : V1.frozen? ⟨w.heap.size + 1, 0, none⟩ = false := frozen_of_row _ _ _ _ _ v1
        have f2 : V1.frozen? ⟨w.heap.size + 2, 0, none⟩ = false := frozen_of_row _ _ _ _ _ v2
        have hz5 : w.heap.size + 4 ≤ V1.heap.size := by have := hb1.size; omega
        clear v0 v1 v2 v3 v4 hb1
        gi_wp2_with fail
        refine ⟨trivial, (CallsIn.inRound l (callsIn_wide.2 (hcp V1))).mono ?_⟩
        rintro e V2 ⟨rfl, rfl⟩
        gi_wp2_with fail
        refine ⟨trivial, (CallsIn.inRound l (callsIn_wide.2 (hnb V2))).mono ?_⟩
        rintro e V3 ⟨rfl, rfl⟩
        clear hcp hnb
        have tail : ∀ (mo' : Int) (A : Act), stepW mo y = some mo' → leaveG (fun k V => SzI w s m XS k V) (fun c V => SzX w XS c V) (k + 1) (fun b => False ∨ b = W1.heap.size ∨ b = W1.heap.size + 1) V .normal A (V2.setCell ⟨w.heap.size + 2, 0, none⟩ (.int .i64 mo')) := by
          intro mo' A hmo
          obtain ⟨v0, v1, v2, v3, v4⟩ := HV.out
          refine ⟨⟨mo', HFT.out.1 mo' hmo, (heap_setCell_other _ _ _ _ (by simp)).trans v0, (heap_setCell_other _ _ _ _ (by simp)).trans v1, heap_setCell_same _ _ 0 _ 3 _ v2, (heap_setCell_other _ _ _ _ (by simp)).trans v3, v4.setCell (p := ⟨w.heap.size + 2, 0, none⟩) (by simp) _⟩, fun b hb => ?_⟩
          rw [heap_setCell_other _ _ _ _ (by simp; rcases hb with hb | hb | hb; exact hb.elim; omega; omega)]
          exact HK.out b hb
        have HTL : Hid (∀ (mo' : Int) (A : Act), stepW mo y = some mo' → leaveG (fun k V => SzI w s m XS k V) (fun c V => SzX w XS c V) (k + 1) (fun b => False ∨ b = W1.heap.size ∨ b = W1.heap.size + 1) V .normal A (V2.setCell ⟨w.heap.size + 2, 0, none⟩ (.int .i64 mo'))) := tail
        clear tail
        cases hpr : (hp && rt) with
        | true =>
          have hS : stepW mo y = some (max mo nv) := by rw [HST.out, hpr]; rfl
          have HS : Hid (stepW mo y = some (max mo nv)) := hS
          rw [Bool.and_eq_true] at hpr
          obtain ⟨rfl, rfl⟩ := hpr
          clear hS
          gi_wp2
          exact HTL.out _ _ HS.out
        | false =>
          have hS : stepW mo y = if ul ≠ b7B ∧ ul ≠ b8B then none else some mo := by rw [HST.out, hpr]; rfl
          have HTN : Hid (∀ A : Act, stepW mo y = some mo → leaveG (fun k V => SzI w s m XS k V) (fun c V => SzX w XS c V) (k + 1) (fun b => False ∨ b = W1.heap.size ∨ b = W1.heap.size + 1) V .normal A V2) := fun A hmo => by
            obtain ⟨v0, v1, v2, v3, v4⟩ := HV.out
            exact ⟨⟨mo, HFT.out.1 mo hmo, v0, v1, v2, v3, v4⟩, fun b hb => HK.out b hb⟩
          have HTX : Hid (∀ A : Act, stepW mo y = none → leaveG (fun k V => SzI w s m XS k V) (fun c V => SzX w XS c V) (k + 1) (fun b => False ∨ b = W1.heap.size ∨ b = W1.heap.size + 1) V .ret A ((V2.setCell ⟨w.heap.size, 0, none⟩ (.int .i64 0)).setCell ⟨w.heap.size + 1, 0, none⟩ (.bool false))) := fun A hmo => by
            obtain ⟨v0, v1, v2, v3, v4⟩ := HV.out
            refine ⟨⟨rfl, HFT.out.2 hmo, (heap_setCell_other _ _ _ _ (by simp)).trans (heap_setCell_same _ _ 0 _ 3 _ v0), heap_setCell_same _ _ 0 _ 4 _ ((heap_setCell_other _ _ _ _ (by simp)).trans v1), (v4.setCell (p := ⟨w.heap.size, 0, none⟩) (Nat.le_refl _) _).setCell (p := ⟨w.heap.size + 1, 0, none⟩) (by simp) _⟩, fun b hb => ?_⟩
            rw [heap_setCell_other _ _ _ _ (by simp; rcases hb with hb | hb | hb; exact hb.elim; omega; omega), heap_setCell_other _ _ _ _ (by simp; rcases hb with hb | hb | hb; exact hb.elim; omega; omega)]
            exact HK.out b hb
          by_cases p7 : u.toList = [66, 79, 68, 89, 61, 55, 66, 73, 84]
          · have p7' : (u.toList == [66, 79, 68, 89, 61, 55, 66, 73, 84]) = true := by rw [p7]; rfl
            have HS : Hid (stepW mo y = some mo) := by unfold Hid; rw [hS, if_neg (fun q => q.1 (HE7.out.1 p7))]
            clear hS
            cases hp <;> cases rt
            · gi_wp2
              exact HTN.out _ HS.out
            · gi_wp2
              exact HTN.out _ HS.out
            · gi_wp2
              exact HTN.out _ HS.out
            · cases hpr
          · have p7' : (u.toList == [66, 79, 68, 89, 61, 55, 66, 73, 84]) = false := by simpa using p7
            by_cases p8 : u.toList = [66, 79, 68, 89, 61, 56, 66, 73, 84, 77, 73, 77, 69]
            · have p8' : (u.toList == [66, 79, 68, 89, 61, 56, 66, 73, 84, 77, 73, 77, 69]) = true := by rw [p8]; rfl
              have HS : Hid (stepW mo y = some mo) := by unfold Hid; rw [hS, if_neg (fun q => q.2 (HE8.out.1 p8))]
              clear hS
              cases hp <;> cases rt
              · gi_wp2
                exact HTN.out _ HS.out
              · gi_wp2
                exact HTN.out _ HS.out
              · gi_wp2
                exact HTN.out _ HS.out
              · cases hpr
            · have p8' : (u.toList == [66, 79, 68, 89, 61, 56, 66, 73, 84, 77, 73, 77, 69]) = false := by simpa using p8
              have HS : Hid (stepW mo y = none) := by unfold Hid; rw [hS, if_pos ⟨fun q => p7 (HE7.out.2 q), fun q => p8 (HE8.out.2 q)⟩]
              clear hS
              cases hp <;> cases rt
              · gi_wp2
                exact HTX.out _ HS.out
              · gi_wp2
                exact HTX.out _ HS.out
              · gi_wp2
                exact HTX.out _ HS.out
              · cases hpr
      case cD =>
        intro V hI hd
        obtain ⟨mo, h1, h2, h3, h4, h5, h6⟩ := hI
        have hlw : (wordsV XS).length = XS.length := by unfold wordsV; simp
        rw [hlw, List.take_length] at h1
        have HZZ : Hid (sizeZ s = (mo, true)) := by unfold Hid; rw [HZ.out, HXS.out, h1]
        have c0 : V.cell? ⟨w.heap.size, 0, none⟩ = some (.int .i64 0) := by rw [cell_of_row _ _ _ _ _ _ h2]; rfl
        have c1 : V.cell? ⟨w.heap.size + 1, 0, none⟩ = some (.bool false) := by rw [cell_of_row _ _ _ _ _ _ h3]; rfl
        have c2 : V.cell? ⟨w.heap.size + 2, 0, none⟩ = some (.int .i64 mo) := by rw [cell_of_row _ _ _ _ _ _ h4]; rfl
        have f0 : V.frozen? ⟨w.heap.size, 0, none⟩ = false := frozen_of_row _ _ _ _ _ h2
        have f1 : V.frozen? ⟨w.heap.size + 1, 0, none⟩ = false := frozen_of_row _ _ _ _ _ h3
        rw [hz2] at hd ⊢
        have HD : Hid (V.heap[w.heap.size + 4]? = some (.deferred (some []))) := hd
        have H2 : Hid (V.heap[w.heap.size]? = some (.cells #[.int .i64 0] 3 (0, 0)) ∧ V.heap[w.heap.size + 1]? = some (.cells #[.bool false] 4 (0, 0)) ∧ Below w.heap.size w V) := ⟨h2, h3, h6⟩
        clear h1 h2 h3 h4 h5 h6 hd
        gi_wp2
        obtain ⟨h2, h3, h6⟩ := H2.out
        have e0 : ((V.setCell ⟨w.heap.size, 0, none⟩ (.int .i64 mo)).setCell ⟨w.heap.size + 1, 0, none⟩ (.bool true)).heap[w.heap.size]? = some (.cells #[.int .i64 mo] 3 (0, 0)) := (heap_setCell_other _ _ _ _ (by simp)).trans (heap_setCell_same _ _ 0 _ 3 _ h2)
        have e1 : ((V.setCell ⟨w.heap.size, 0, none⟩ (.int .i64 mo)).setCell ⟨w.heap.size + 1, 0, none⟩ (.bool true)).heap[w.heap.size + 1]? = some (.cells #[.bool true] 4 (0, 0)) := heap_setCell_same _ _ 0 _ 4 _ ((heap_setCell_other _ _ _ _ (by simp)).trans h3)
        have e4 : ((V.setCell ⟨w.heap.size, 0, none⟩ (.int .i64 mo)).setCell ⟨w.heap.size + 1, 0, none⟩ (.bool true)).heap[w.heap.size + 4]? = some (.deferred (some [])) := (heap_setCell_other _ _ _ _ (by simp)).trans ((heap_setCell_other _ _ _ _ (by simp)).trans HD.out)
        refine sz_leave e0 e1 e4 ((h6.setCell (p := ⟨w.heap.size, 0, none⟩) (Nat.le_refl _) _).setCell (p := ⟨w.heap.size + 1, 0, none⟩) (by simp) _) HZZ.out rfl rfl rfl
      case cS =>
        intro c V hx hd
        obtain ⟨rfl, h1, h2, h3, h6⟩ := hx
        have HZZ : Hid (sizeZ s = (0, false)) := by unfold Hid; rw [HZ.out, HXS.out, h1]
        rw [hz2] at hd ⊢
        gi_wp2
        exact sz_leave h2 h3 hd h6 HZZ.out rfl rfl rfl
end Go.Proofs.YtbckbonffajmeaaGreatDoor
