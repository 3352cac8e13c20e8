/-
  The lines of a text, as lines hands them on.
-/
import Derived.Test.YtenclgnkogmgiaaDoorSp
namespace Go.Proofs.YtenclgnkogmgiaaDoor
open Go.RowKit Go.Shelf
set_option linter.unusedVariables false
attribute [local go_sem] Oper.semAt_some

/-- The lines with their places. -/
def linesV : Nat → List (List Int) → List (Array Value)
  | _, [] => []
  | at', p :: r => if p = [] then [] else #[.int .i64 (at' : Nat), .string (strOfNums p)] :: linesV (at' + p.length) r
theorem linesV_at : ∀ (L : List (List Int)) (a k : Nat) (p : List Int), L[k]? = some p → (∀ i q, i < k → L[i]? = some q → q ≠ []) → p ≠ [] → (linesV a L)[k]? = some #[.int .i64 ((a + (L.take k).flatten.length : Nat) : Int), .string (strOfNums p)]
  | [], a, k, p, h, _, _ => by simp at h
  | q :: L, a, 0, p, h, _, hp => by
    simp only [List.getElem?_cons_zero, Option.some.injEq] at h
    subst h
    rw [linesV, if_neg hp]; simp
  | q :: L, a, k + 1, p, h, hb, hp => by
    simp only [List.getElem?_cons_succ] at h
    have h1 : q ≠ [] := hb 0 q (by omega) rfl
    have ih := linesV_at L (a + q.length) k p h (fun i r hi hr => hb (i + 1) r (by omega) (by simpa using hr)) hp
    rw [linesV, if_neg h1, List.getElem?_cons_succ, ih]
    simp [Nat.add_assoc]
theorem linesV_end : ∀ (L : List (List Int)) (a k : Nat), L[k]? = some [] → (∀ i q, i < k → L[i]? = some q → q ≠ []) → (linesV a L).length = k
  | [], a, k, h, _ => by simp at h
  | q :: L, a, 0, h, _ => by
    simp only [List.getElem?_cons_zero, Option.some.injEq] at h
    rw [linesV, if_pos h]; rfl
  | q :: L, a, k + 1, h, hb => by
    simp only [List.getElem?_cons_succ] at h
    have h1 : q ≠ [] := hb 0 q (by omega) rfl
    have ih := linesV_end L (a + q.length) k h (fun i r hi hr => hb (i + 1) r (by omega) (by simpa using hr))
    rw [linesV, if_neg h1, List.length_cons, ih]
theorem linesV_le : ∀ (L : List (List Int)) (a : Nat), (linesV a L).length ≤ L.length
  | [], a => by simp [linesV]
  | q :: L, a => by
    have := linesV_le L (a + q.length)
    rw [linesV]
    split
    · simp
    · simp; omega
theorem split_ne : ∀ (n : Nat) (l : List Int) (i : Nat) (q : List Int), (splitP n l)[i]? = some q → i + 1 < (splitP n l).length → q ≠ []
  | 0, l, i, q, h, hi => by simp [splitP] at hi
  | n + 1, l, i, q, h, hi => by
    rw [splitP] at h hi
    split at h
    · rename_i hp
      rw [if_pos hp] at hi
      cases i with
      | zero =>
        simp only [List.getElem?_cons_zero, Option.some.injEq] at h
        have := pairI_room l hp
        intro e
        rw [e] at h
        have := congrArg List.length h
        rw [List.length_take, List.length_nil] at this
        omega
      | succ i =>
        simp only [List.getElem?_cons_succ] at h
        exact split_ne n _ i q h (by simpa using hi)
    · rename_i hp
      rw [if_neg hp] at hi
      simp at hi
theorem split_flat : ∀ (n : Nat) (l : List Int), (splitP n l).flatten = l
  | 0, l => by simp [splitP]
  | n + 1, l => by
    rw [splitP]
    split
    · rw [List.flatten_cons, split_flat n, List.take_append_drop]
    · simp
theorem lines_fin {n : Nat} {J : Nat → World → Prop} {Jx : World → Prop} {M : Nat} (V : World) (n0 D : Nat) (hD : n0 ≤ D ∧ D < n0 + 7) (hd : V.heap[D]? = some (.deferred (some []))) (h : J M V ∨ Jx V)
    (hJ : ∀ k V V', J k V → Tk (fun b => n0 ≤ b ∧ b < n0 + 7) V V' → J k V') (hJx : ∀ V V', Jx V → Tk (fun b => n0 ≤ b ∧ b < n0 + 7) V V' → Jx V') {tmps : Array Value} :
    LeavesInM Fence.wide n Tryd.prog Tryd.f75 tmps (fun e W' => (∃ v, e = .returned v) ∧ (J M W' ∨ Jx W')) [mark D] .returning V := by
  refine leaves_marks [D] V ⟨by simp, by simpa using hd⟩ (fun W' hb hs => ?_)
  have hB := hb 0 (by simp)
  have ht : Tk (fun b => n0 ≤ b ∧ b < n0 + 7) V W' := ⟨hB.os, hB.tape, hB.output, hB.size, fun b _ hO => hs b (by simp; rintro rfl; exact hO hD)⟩
  exact ⟨_, results_none rfl _ _ _, ⟨_, rfl⟩, h.elim (fun h => .inl (hJ _ _ _ h ht)) (fun h => .inr (hJx _ _ h ht))⟩
set_option maxRecDepth 100000 in
set_option maxHeartbeats 8000000 in
theorem lines1_iter (n : Nat) (hn : 4 ≤ n) (Bt : Nat) (s : ByteArray) (m : Int) (hs : s.size ≤ 1000000000) (W : World) (hT : Sx W Bt s) :
    ItG n 75 [.pointer (some ⟨Bt, 0, none⟩)] (fun b => W.heap.size ≤ b ∧ b < W.heap.size + 7) (linesV 0 (splitP s.size (nums s))) (fun V => V.cell? ⟨0, 0, none⟩ = some (.int .i64 m)) W := by
  intro lp J Jx hJ hJx hG hY h0
  have c0 := hT.cell
  have HJ : Hid (∀ k V V', J k V → Tk (fun b => W.heap.size ≤ b ∧ b < W.heap.size + 7) V V' → J k V') := hJ
  have HJx : Hid (∀ V V', Jx V → Tk (fun b => W.heap.size ≤ b ∧ b < W.heap.size + 7) V V' → Jx V') := hJx
  have HG : Hid (∀ k V, J k V → V.cell? ⟨0, 0, none⟩ = some (.int .i64 m)) := hG
  have HY : Hid _ := hY
  clear hJ hJx hG hY
  obtain ⟨L, hL⟩ : ∃ L, splitP s.size (nums s) = L := ⟨_, rfl⟩
  have hLn := split_ne s.size (nums s)
  have hit0 := fun X (h : Sx X (W.heap.size + 2) s) => split_iter (n - 1) (by omega) (W.heap.size + 3) (W.heap.size + 2) (W.heap.size + 4) s m hs X h
  have hfl : L.flatten.length ≤ 1000000000 := by rw [← hL, split_flat, nums_len]; exact hs
  rw [hL] at HY hLn ⊢
  simp only [hL] at hit0
  have HBY : Hid (∀ p ∈ L, Byt p) := by
    intro p hp x hx
    have : x ∈ L.flatten := List.mem_flatten.2 ⟨p, hp, hx⟩
    rw [← hL, split_flat] at this
    exact nums_byt s x this
  have HLN : Hid (∀ (i : Nat) (q : List Int), L[i]? = some q → i + 1 < L.length → q ≠ []) := hLn
  clear hLn hL
  obtain ⟨M, hM⟩ : ∃ M, (linesV 0 L).length = M := ⟨_, rfl⟩
  have hML : M ≤ L.length := by rw [← hM]; exact linesV_le L 0
  have HM : Hid ((linesV 0 L).length = M) := hM
  rw [hM]
  clear hM
  have c1 : ((W.alloc (.cells #[.func (.yield lp) #[] #[]] 105)).alloc (.cells #[.int .i64 0] 3)).cell? ⟨Bt, 0, none⟩ = some (.string s) := ((hT.below (keep W _)).below (keep _ _)).cell
  refine callsIn_of_wp_marks Tryd.func75 rfl trivial ?_ rfl
  simp only [Tryd.ntmps75, List.size_toArray, List.length_cons, List.length_nil, Nat.reduceAdd, Nat.reduceSub, Array.replicate_succ, Array.replicate_zero, List.push_toArray, List.append_toArray, List.nil_append, List.cons_append]
  gi_wp2_with fail
  refine ⟨trivial, fun _ => by omega, (callsIn_wide.2 (splitAfter_any s _)).mono ?_⟩
  rintro e w5 ⟨rfl, hw5⟩
  have hz5 : w5.heap.size = W.heap.size + 5 := by rw [hw5]; simp
  have b0 : Blk w5 W.heap.size #[.func (.yield lp) #[] #[]] 105 := by
    rw [hw5]; exact ((((Blk.new W _ 105).alloc _).alloc _).alloc _).alloc _
  have b1 : Blk w5 (W.heap.size + 1) #[.int .i64 0] 3 := by
    have := ((((Blk.new (W.alloc (.cells #[.func (.yield lp) #[] #[]] 105)) #[.int .i64 0] 3).alloc (.cells #[.string s] 9)).alloc (.cells #[.string ⟨#[13, 10]⟩] 9)).alloc (.cells #[.int .i64 2] 3))
    rw [World.size_alloc] at this
    rw [hw5]; exact this
  have b2 : Sx w5 (W.heap.size + 2) s := by
    have := (((Blk.new ((W.alloc (.cells #[.func (.yield lp) #[] #[]] 105)).alloc (.cells #[.int .i64 0] 3)) #[.string s] 9).alloc (.cells #[.string ⟨#[13, 10]⟩] 9)).alloc (.cells #[.int .i64 2] 3))
    rw [World.size_alloc, World.size_alloc] at this
    rw [hw5]; exact this
  have b3 : Blk w5 (W.heap.size + 3) #[.string ⟨#[13, 10]⟩] 9 := by
    have := ((Blk.new (((W.alloc (.cells #[.func (.yield lp) #[] #[]] 105)).alloc (.cells #[.int .i64 0] 3)).alloc (.cells #[.string s] 9)) #[.string ⟨#[13, 10]⟩] 9).alloc (.cells #[.int .i64 2] 3))
    rw [World.size_alloc, World.size_alloc, World.size_alloc] at this
    rw [hw5]; exact this
  have b4 : Blk w5 (W.heap.size + 4) #[.int .i64 2] 3 := by
    have := (Blk.new ((((W.alloc (.cells #[.func (.yield lp) #[] #[]] 105)).alloc (.cells #[.int .i64 0] 3)).alloc (.cells #[.string s] 9)).alloc (.cells #[.string ⟨#[13, 10]⟩] 9)) #[.int .i64 2] 3)
    rw [World.size_alloc, World.size_alloc, World.size_alloc, World.size_alloc] at this
    rw [hw5]; exact this
  have hB5 : Below W.heap.size W w5 := by
    rw [hw5]
    exact ((((keep W _).alloc (by simp) _).alloc (by simp; omega) _).alloc (by simp; omega) _).alloc (by simp; omega) _
  have hj5 : J 0 w5 := HJ.out _ _ _ h0 (.of_below hB5)
  clear hw5 c0 c1 h0
  obtain ⟨n0, hn0⟩ : ∃ n0, W.heap.size = n0 := ⟨_, rfl⟩
  have HB2 : Hid (Sx w5 (n0 + 2) s) := by rw [← hn0]; exact b2
  have HCI : Hid (Blk w5 n0 #[.func (.yield lp) #[] #[]] 105 ∧ Blk w5 (n0 + 1) #[.int .i64 0] 3 ∧ Blk w5 (n0 + 3) #[.string ⟨#[13, 10]⟩] 9 ∧ Blk w5 (n0 + 4) #[.int .i64 2] 3) := by rw [← hn0]; exact ⟨b0, b1, b3, b4⟩
  rw [hn0] at HJ HJx HY hz5
  simp only [hn0] at hit0
  clear b0 b1 b2 b3 b4 hB5 hT
  simp only [World.size_alloc, hn0]
  clear hn0
  gi_wp2_with fail
  refine range_g n 104 [.pointer (some ⟨n0 + 3, 0, none⟩), .pointer (some ⟨n0 + 2, 0, none⟩), .pointer (some ⟨n0 + 4, 0, none⟩)] (fun b => b = n0 + 2) (splitV L) (fun V => V.cell? ⟨n0 + 3, 0, none⟩ = some (.string ⟨#[13, 10]⟩) ∧ V.cell? ⟨n0 + 4, 0, none⟩ = some (.int .i64 2) ∧ V.cell? ⟨0, 0, none⟩ = some (.int .i64 m))
    (fun X hX _ => hit0 X (HB2.out.below hX)) (fun b hb => by subst hb; omega) ?ps rfl (fun args W => by simp [go_sem])
    (fun k V => k ≤ M ∧ J k V ∧ Blk V n0 #[.func (.yield lp) #[] #[]] 105 ∧ Blk V (n0 + 1) #[.int .i64 ((L.take k).flatten.length : Nat)] 3 ∧ Blk V (n0 + 3) #[.string ⟨#[13, 10]⟩] 9 ∧ Blk V (n0 + 4) #[.int .i64 2] 3)
    (fun c V => c = .ret ∧ (J M V ∨ Jx V)) ?cI ?cX ?cG ?c0
    (fun x => { tmps := #[.func (.yield lp) #[] #[], .pointer (some ⟨Bt, 0, none⟩), .pointer (some ⟨n0, 0, none⟩), .pointer (some ⟨n0 + 1, 0, none⟩), x.getD 0 undef, .string s, .func (.func 104) #[] #[.pointer (some ⟨n0 + 3, 0, none⟩), .pointer (some ⟨n0 + 2, 0, none⟩), .pointer (some ⟨n0 + 4, 0, none⟩)], x.getD 0 undef, undef, undef, undef, undef, undef, undef, undef, undef, undef, undef, undef, undef, undef], defers := [] }) ?assign ?body ?done ?stop
  case ps =>
    intro k x hx
    unfold splitV at hx
    rw [List.getElem?_map, Option.map_eq_some_iff] at hx
    obtain ⟨p, _, rfl⟩ := hx
    rfl
  case cI =>
    rintro k V V' ⟨h1, h2, h3, h4, h5, h6⟩ ht
    have hw : Tk (fun b => n0 ≤ b ∧ b < n0 + 7) V V' := ht.mono (fun b hb => by rcases hb with rfl | rfl <;> omega)
    exact ⟨h1, HJ.out _ _ _ h2 hw, ht.kept h3 (by omega), ht.kept h4 (by omega), ht.kept h5 (by omega), ht.kept h6 (by omega)⟩
  case cX =>
    rintro c V V' ⟨h1, h2⟩ ht
    have hw : Tk (fun b => n0 ≤ b ∧ b < n0 + 7) V V' := ht.mono (fun b hb => by rcases hb with rfl | rfl <;> omega)
    exact ⟨h1, h2.elim (fun h => .inl (HJ.out _ _ _ h hw)) (fun h => .inr (HJx.out _ _ h hw))⟩
  case cG =>
    rintro k V ⟨_, h2, _, _, h5, h6⟩
    exact ⟨(h5.cell 0).trans rfl, (h6.cell 0).trans rfl, HG.out _ _ h2⟩
  case c0 => exact ⟨by omega, hj5, HCI.out.1, by simpa using HCI.out.2.1, HCI.out.2.2.1, HCI.out.2.2.2⟩
  case assign =>
    intro l k x V K hx hK
    unfold splitV at hx
    rw [List.getElem?_map, Option.map_eq_some_iff] at hx
    obtain ⟨p, _, rfl⟩ := hx
    gi_wp2
    exact hK
  case body =>
    rintro l k x V hx ⟨hkM, hj, h3, h4, h5, h6⟩ hsz hob
    unfold splitV at hx
    rw [List.getElem?_map, Option.map_eq_some_iff] at hx
    obtain ⟨p, hp, rfl⟩ := hx
    have hkl : k < L.length := (List.getElem?_eq_some_iff.1 hp).1
    have hbefore : ∀ i q, i < k → L[i]? = some q → q ≠ [] := fun i q hi hq => HLN.out i q hq (by omega)
    have HJk : Hid (J k V) := hj
    have H3 : Hid (Blk V n0 #[.func (.yield lp) #[] #[]] 105) := h3
    have H4 : Hid (Blk V (n0 + 1) #[.int .i64 ((L.take k).flatten.length : Nat)] 3) := h4
    have H5 : Hid (Blk V (n0 + 3) #[.string ⟨#[13, 10]⟩] 9) := h5
    have H6 : Hid (Blk V (n0 + 4) #[.int .i64 2] 3) := h6
    have e1 := h3.cell 0
    have e2 := h4.cell 0
    simp only [List.getElem?_toArray, List.getElem?_cons_zero] at e1 e2
    clear h3 h4 h5 h6 hj
    show Code.wpIn _ _ _ _ _ { tmps := #[.func (.yield lp) #[] #[], .pointer (some ⟨Bt, 0, none⟩), .pointer (some ⟨n0, 0, none⟩), .pointer (some ⟨n0 + 1, 0, none⟩), .string (strOfNums p), .string s, .func (.func 104) #[] #[.pointer (some ⟨n0 + 3, 0, none⟩), .pointer (some ⟨n0 + 2, 0, none⟩), .pointer (some ⟨n0 + 4, 0, none⟩)], .string (strOfNums p), undef, undef, undef, undef, undef, undef, undef, undef, undef, undef, undef, undef, undef], defers := [] } V
    have hpb : Byt p := HBY.out p (List.mem_of_getElem? hp)
    by_cases hpe : p = []
    · subst hpe
      have hk : M = k := by rw [← HM.out]; exact linesV_end L 0 k hp hbefore
      have hse : strOfNums [] = (⟨#[]⟩ : ByteArray) := rfl
      rw [hse]
      have ht : ((⟨#[]⟩ : ByteArray).toList == (⟨#[]⟩ : ByteArray).toList) = true := by simp
      clear e1 e2 hp hbefore
      gi_wp2
      refine ⟨fun f hf => (by cases hf), ?_⟩
      gi_wp2
      exact ⟨⟨rfl, .inl (by rw [hk]; exact HJk.out)⟩, fun _ _ => rfl⟩
    · have hx := linesV_at L 0 k p hp hbefore hpe
      rw [Nat.zero_add] at hx
      obtain ⟨q, hq⟩ : ∃ q, strOfNums p = q := ⟨_, rfl⟩
      have hqz : q.size = p.length := by rw [← hq]; rw [← nums_len, nums_str hpb]
      have hqne : (q.toList == (⟨#[]⟩ : ByteArray).toList) = false := by
        rw [eq_nums]
        have : nums (⟨#[]⟩ : ByteArray) = [] := rfl
        rw [this, decide_eq_false_iff_not]
        intro h
        have := congrArg List.length h
        rw [nums_len, hqz] at this
        exact hpe (List.eq_nil_of_length_eq_zero this)
      have hqne2 : ¬ q.toList = [] := by
        intro h
        have h' : q.toList = (⟨#[]⟩ : ByteArray).toList := h.trans (by rw [ByteArray.toList_eq])
        rw [h'] at hqne; simp at hqne
      have hqe : q.toList.isEmpty = false := by rw [List.isEmpty_eq_false_iff]; exact hqne2
      have HPL : Hid ((L.take (k + 1)).flatten.length = (L.take k).flatten.length + q.size) := by
        unfold Hid
        rw [List.take_add_one, hp, hqz]; simp
      have hle : (L.take (k + 1)).flatten.length ≤ 1000000000 := by
        refine Nat.le_trans ?_ hfl
        conv => rhs; rw [← List.take_append_drop (k + 1) L]
        rw [List.flatten_append, List.length_append]
        omega
      rw [HPL.out] at hle
      have hkM2 : k < M := by
        rw [← HM.out]
        exact (List.getElem?_eq_some_iff.1 hx).1
      obtain ⟨pk, hpk⟩ : ∃ pk, (L.take k).flatten.length = pk := ⟨_, rfl⟩
      rw [hpk] at hx e2 HPL hle H4
      rw [hq] at hx ⊢
      obtain ⟨fn, tmps, assign, body, hy, hRd⟩ := HY.out k _ V hx HJk.out (fun b hb => by omega)
      clear hx hp hbefore hpe hqz hq hkl hpk
      gi_wp2
      refine ⟨fun _ => by omega, (round_wide hRd).mono ?_⟩
      rintro e V3 (⟨rfl, hJ3, hk3⟩ | ⟨rfl, hJx3, hk3⟩)
      · have g3 : Blk V3 n0 #[.func (.yield lp) #[] #[]] 105 := (hk3 n0 (by omega)).trans H3.out
        have g4 : Blk V3 (n0 + 1) #[.int .i64 (pk : Nat)] 3 := (hk3 (n0 + 1) (by omega)).trans H4.out
        have g5 : Blk V3 (n0 + 3) #[.string ⟨#[13, 10]⟩] 9 := (hk3 (n0 + 3) (by omega)).trans H5.out
        have g6 : Blk V3 (n0 + 4) #[.int .i64 2] 3 := (hk3 (n0 + 4) (by omega)).trans H6.out
        have HFin : Hid ((k + 1 ≤ M ∧ J (k + 1) (V3.setCell ⟨n0 + 1, 0, none⟩ (.int .i64 ((pk : Int) + (q.size : Int)))) ∧ Blk (V3.setCell ⟨n0 + 1, 0, none⟩ (.int .i64 ((pk : Int) + (q.size : Int)))) n0 #[.func (.yield lp) #[] #[]] 105 ∧ Blk (V3.setCell ⟨n0 + 1, 0, none⟩ (.int .i64 ((pk : Int) + (q.size : Int)))) (n0 + 1) #[.int .i64 ((L.take (k + 1)).flatten.length : Nat)] 3 ∧ Blk (V3.setCell ⟨n0 + 1, 0, none⟩ (.int .i64 ((pk : Int) + (q.size : Int)))) (n0 + 3) #[.string ⟨#[13, 10]⟩] 9 ∧ Blk (V3.setCell ⟨n0 + 1, 0, none⟩ (.int .i64 ((pk : Int) + (q.size : Int)))) (n0 + 4) #[.int .i64 2] 3) ∧ ∀ b, (b = n0 + 2 ∨ b = w5.heap.size ∨ b = w5.heap.size + 1) → (V3.setCell ⟨n0 + 1, 0, none⟩ (.int .i64 ((pk : Int) + (q.size : Int)))).heap[b]? = V.heap[b]?) := by
          refine ⟨⟨by omega, HJ.out _ _ _ hJ3 (Tk.set _ _ _ _ (by omega)), g3.other (by omega) _, ?_, g5.other (by omega) _, g6.other (by omega) _⟩, fun b hb => ?_⟩
          · have := g4.same0 (.int .i64 ((pk : Int) + (q.size : Int)))
            rw [HPL.out]
            rw [show (((pk + q.size : Nat)) : Int) = (pk : Int) + (q.size : Int) by omega]
            exact this
          · rw [heap_setCell_other _ _ _ _ (by rcases hb with rfl | rfl | rfl <;> simp <;> omega)]
            exact hk3 b (by rcases hb with rfl | rfl | rfl <;> omega)
        have m1 := g4.cell 0
        have m2 := g4.frozen 0
        simp only [List.getElem?_toArray, List.getElem?_cons_zero] at m1
        clear g3 g4 g5 g6 hk3 hy hRd e1 e2 hJ3
        gi_wp2
        exact HFin.out
      · clear hy hRd e1 e2
        gi_wp2
        exact ⟨⟨rfl, .inr hJx3⟩, fun b hb => hk3 b (by rcases hb with rfl | rfl | rfl <;> omega)⟩
  case done =>
    rintro V ⟨h1, h2, _⟩ hd
    have : (splitV L).length = M := by unfold splitV at h1 ⊢; rw [List.length_map] at h1 ⊢; omega
    rw [this] at h2
    refine (lines_fin V n0 _ (by omega) hd (.inl h2) HJ.out HJx.out)
  case stop =>
    rintro c V ⟨rfl, h2⟩ hd
    gi_wp2
    exact lines_fin V n0 _ (by omega) hd h2 HJ.out HJx.out
end Go.Proofs.YtenclgnkogmgiaaDoor
