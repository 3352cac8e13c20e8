/-
  begins: whether a line begins so.
-/
import Derived.Test.YtmdkmedlncfcbaaGreatDoorSq
import Derived.Test.YtmdkmedlncfcbaaGreatDoorPb
import Derived.Test.YtmdkmedlncfcbaaGreatDoorKSmall
namespace Go.Proofs.YtmdkmedlncfcbaaGreatDoor
open Go.RowKit Go.Shelf
set_option linter.unusedVariables false
attribute [local go_sem] Oper.semAt_some

/-- The lines, without their pairs. -/
def bareP : Nat → List Int → List (List Int)
  | 0, l => [l]
  | n + 1, l => if 0 ≤ pairI l then l.take (pairI l).toNat :: bareP n (l.drop ((pairI l).toNat + 2)) else [l]
def beginsZ (l front : List Int) : Bool := (bareP l.length l).any fun q => decide (q.take front.length = front)
theorem sbV_at0 : ∀ (f : Nat) (l : List Int) (a : Option Addr) (cap k : Nat) (x : Array Value), l.length ≤ cap → (sbV 0 a cap (splitP f l))[k]? = some x → ∃ q a', (bareP f l)[k]? = some q ∧ x = #[.slice a' q.length q.length] ∧ (∀ V, Row V a l → Row V a' q)
  | 0, l, a, cap, k, x, hc, h => by
    rw [splitP, sbV, if_pos rfl] at h
    cases k with
    | zero => simp at h; exact ⟨l, a, rfl, h.symm, fun _ q => q⟩
    | succ k => simp at h
  | f + 1, l, a, cap, k, x, hc, h => by
    by_cases hp : 0 ≤ pairI l
    · obtain ⟨i, hi⟩ : ∃ i : Nat, pairI l = i := ⟨(pairI l).toNat, by omega⟩
      have hrm := pairI_room l hp
      rw [sbV_pair hi (by omega)] at h
      rw [bareP, if_pos hp, hi]
      simp only [Int.toNat_natCast]
      cases k with
      | zero =>
        simp at h
        exact ⟨l.take i, a, rfl, by rw [← h, List.length_take, Nat.min_eq_left (by omega)], fun V hV => row_take i hV⟩
      | succ k =>
        simp only [List.getElem?_cons_succ] at h ⊢
        obtain ⟨q, a', h1, h2, h3⟩ := sbV_at0 f _ _ _ k x (by rw [List.length_drop]; omega) h
        exact ⟨q, a', h1, h2, fun V hV => h3 V (row_drop hV hc)⟩
    · rw [sbV_last hp] at h
      rw [bareP, if_neg hp]
      cases k with
      | zero => simp at h; exact ⟨l, a, rfl, h.symm, fun _ q => q⟩
      | succ k => simp at h
theorem sbV_len : ∀ (s f : Nat) (l : List Int) (a : Option Addr) (cap : Nat), (sbV s a cap (splitP f l)).length = (splitP f l).length
  | s, 0, l, a, cap => by simp [splitP, sbV]
  | s, f + 1, l, a, cap => by
    by_cases hp : 0 ≤ pairI l
    · obtain ⟨i, hi⟩ : ∃ i : Nat, pairI l = i := ⟨(pairI l).toNat, by omega⟩
      have hrm := pairI_room l hp
      rw [sbV_pair hi (by omega), splitP_pair hi, List.length_cons, List.length_cons, sbV_len s f]
    · rw [sbV_last hp, splitP, if_neg hp]; rfl
theorem bareP_len : ∀ (f : Nat) (l : List Int), (bareP f l).length = (splitP f l).length
  | 0, l => rfl
  | f + 1, l => by
    rw [bareP, splitP]
    split
    · rw [List.length_cons, List.length_cons, bareP_len f]
    · rfl
theorem bareP_mem : ∀ (f : Nat) (l q : List Int), q ∈ bareP f l → q.length ≤ l.length ∧ ∀ x ∈ q, x ∈ l
  | 0, l, q, h => by simp [bareP] at h; subst h; exact ⟨Nat.le_refl _, fun _ h => h⟩
  | f + 1, l, q, h => by
    rw [bareP] at h
    split at h
    · rcases List.mem_cons.1 h with rfl | h
      · exact ⟨by rw [List.length_take]; omega, fun x hx => List.mem_of_mem_take hx⟩
      · obtain ⟨h1, h2⟩ := bareP_mem f _ q h
        rw [List.length_drop] at h1
        exact ⟨by omega, fun x hx => List.mem_of_mem_drop (h2 x hx)⟩
    · simp at h; subst h; exact ⟨Nat.le_refl _, fun _ h => h⟩
theorem bytesOf_nums' (l : List Int) (h : Byt l) : (l.map fun n => UInt8.ofNat n.toNat).map (fun b : UInt8 => (b.toNat : Int)) = l := by
  rw [List.map_map]
  conv => rhs; rw [← List.map_id l]
  apply List.map_congr_left
  intro x hx
  have := h x hx
  simp only [Function.comp, id, UInt8.toNat_ofNat']
  omega
theorem prefix_take {s p : List Int} (hs : Byt s) (hp : Byt p) : Lib.hasPrefix (Lib.bytesOf s) (Lib.bytesOf p) = decide (s.take p.length = p) := by
  unfold Lib.hasPrefix
  rw [Bool.eq_iff_iff, List.isPrefixOf_iff_prefix, List.prefix_iff_eq_take, decide_eq_true_eq]
  unfold Lib.bytesOf
  rw [List.length_map, ← List.map_take]
  constructor
  · intro h
    have h2 := congrArg (List.map fun b : UInt8 => (b.toNat : Int)) h
    have e : ∀ l : List Int, Byt l → (l.map fun n => UInt8.ofNat n.toNat).map (fun b : UInt8 => (b.toNat : Int)) = l := bytesOf_nums'
    rw [e p hp, e _ (fun x hx => hs x (List.mem_of_mem_take hx))] at h2
    exact h2.symm
  · intro h; rw [h]
/-- Below, where blocks of its own are changed. -/
theorem below_tg {n : Nat} {O : Nat → Prop} {w V V' : World} (h : Below n w V) (hn : n ≤ V.heap.size) (ht : Tg O V V') (hO : ∀ b, O b → n ≤ b) : Below n w V' :=
  ⟨ht.1.trans h.os, ht.2.1.trans h.tape, ht.2.2.1.trans h.output, Nat.le_trans h.size ht.size, fun b hb => (ht.2.2.2.2 b (by omega) (fun q => by have := hO b q; omega)).trans (h.block b hb)⟩
theorem cell1 {W : World} {B : Nat} {v : Value} {t : TypeId} (h : Blk W B #[v] t) : W.cell? ⟨B, 0, none⟩ = some v := by
  have := h.cell 0
  simpa using this
/-- The pair's bytes, in a block that is never written. -/
def PrB (V : World) (g : Nat) : Prop := V.heap[g]? = some (.cells #[.int .u8 13, .int .u8 10] 5 (2, 3))
theorem PrB.lt {V : World} {g : Nat} (h : PrB V g) : g < V.heap.size := (Array.getElem?_eq_some_iff.1 h).1
theorem PrB.alloc {V : World} {g : Nat} (h : PrB V g) (o : Obj) : PrB (V.alloc o) g := (Below.heap_alloc V o g h.lt).trans h
theorem PrB.below {V V' : World} {g n : Nat} (h : PrB V g) (hb : Below n V V') (hn : g < n) : PrB V' g := (hb.block g hn).trans h
theorem PrB.row {V : World} {g : Nat} (h : PrB V g) : Row V (some ⟨g, 0, none⟩) [13, 10] := by
  refine .inr ⟨g, 0, rfl, fun i hi => ?_⟩
  rw [cell_of_row V _ _ _ _ _ h]
  match i, hi with
  | 0, _ => rfl
  | 1, _ => rfl
theorem begins_leave {w V : World} {b : Bool} {rs : List Nat} {tmps : Array Value} {l f : List Int} (hR : Blk V (w.heap.size + 1) #[.bool b] 4) (h4 : tmps[4]?.getD undef = .pointer (some ⟨w.heap.size + 1, 0, none⟩)) (hmk : Mks rs V) (hrs : ∀ r ∈ rs, w.heap.size + 1 < r) (hB : Below w.heap.size w V) (hb : b = beginsZ l f) :
    LeavesInM Fence.wide 20 Tryz.prog Tryz.f41 tmps (fun e w' => e = .returned (.bool (beginsZ l f)) ∧ Below w.heap.size w w') (rs.map mark) .returning V := by
  refine leaves_marks rs V hmk (fun W' hb' hs => ?_)
  have hR' : Blk W' (w.heap.size + 1) #[.bool b] 4 := (hs _ (fun q => by have := hrs _ q; omega)).trans hR
  have c0 := cell1 hR'
  refine ⟨.bool b, ?_, by rw [hb], hB.trans (hb' _ (fun r h => by have := hrs r h; omega))⟩
  simp [results, Tryz.results41, go_sem, c0, h4]
set_option maxHeartbeats 8000000 in
set_option maxRecDepth 100000 in
theorem begins_any (a : Option Addr) (n c : Nat) (f : ByteArray) (l : List Int) (w : World) (hl : l.length = n) (hb : Byt l) (hr : Row w a l) (hcap : n ≤ c) (hcm : c ≤ maxLen) (hnil : a = none → c = 0) (hn : n ≤ 2000000) (hf : f.size ≤ 1000) (hm : Mx w) :
    Calls Tryz.prog 41 #[.slice a n c, .string f] w fun e w' => e = .returned (.bool (beginsZ l (nums f))) ∧ Below w.heap.size w w' := by
  have HR : Hid (Row w a l) := hr
  have HBY : Hid (Byt l) := hb
  have HL : Hid (l.length = n) := hl
  have HM : Hid (Mx w) := hm
  clear hr hb hm
  refine (callsIn_wide (n := 20)).1 ?_
  refine callsIn_of_wp_marks Tryz.func41 rfl trivial ?_ rfl
  simp only [Tryz.ntmps41, List.size_toArray, List.length_cons, List.length_nil, Nat.reduceAdd, Nat.reduceSub, Array.replicate_succ, Array.replicate_zero, List.push_toArray, List.append_toArray, List.nil_append, List.cons_append]
  have kc := conv_const ((w.alloc (.cells #[.string f] 9)).alloc (.cells #[.bool false] 4)) #[.int .u8 13, .int .u8 10] 2 2 (w.heap.size + 1 + 1) (by simp)
  gi_wp2_with fail
  refine ⟨trivial, (callsIn_wide.2 (split_seq a n c (w.heap.size + 2) _)).mono ?_⟩
  rintro e w6 ⟨rfl, hw6⟩
  obtain ⟨B, hB⟩ : ∃ B, w.heap.size = B := ⟨_, rfl⟩
  have E0 : Blk w6 B #[.string f] 9 := by rw [hw6, ← hB]; exact (((((Blk.new w _ 9).alloc _).alloc _).alloc _).alloc _).alloc _
  have E1 : Blk w6 (B + 1) #[.bool false] 4 := by
    have := Blk.new (w.alloc (.cells #[.string f] 9)) #[.bool false] 4
    rw [World.size_alloc, hB] at this
    rw [hw6]; exact (((this.alloc _).alloc _).alloc _).alloc _
  have E2 : PrB w6 (B + 2) := by
    have := World.alloc_heap_new ((w.alloc (.cells #[.string f] 9)).alloc (.cells #[.bool false] 4)) (.cells #[.int .u8 13, .int .u8 10] 5 (2, 3))
    rw [World.size_alloc, World.size_alloc, hB] at this
    rw [hw6]; exact ((PrB.alloc this _).alloc _).alloc _
  have E3 : Blk w6 (B + 3) #[.slice a n c] 22 := by
    have := Blk.new (((w.alloc (.cells #[.string f] 9)).alloc (.cells #[.bool false] 4)).alloc (.cells #[.int .u8 13, .int .u8 10] 5 (2, 3))) #[.slice a n c] 22
    rw [World.size_alloc, World.size_alloc, World.size_alloc, hB] at this
    rw [hw6]; exact (this.alloc _).alloc _
  have E4 : Blk w6 (B + 4) #[.slice (some ⟨B + 2, 0, none⟩) 2 2] 22 := by
    have := Blk.new ((((w.alloc (.cells #[.string f] 9)).alloc (.cells #[.bool false] 4)).alloc (.cells #[.int .u8 13, .int .u8 10] 5 (2, 3))).alloc (.cells #[.slice a n c] 22)) #[.slice (some ⟨w.heap.size + 2, 0, none⟩) 2 2] 22
    rw [World.size_alloc, World.size_alloc, World.size_alloc, World.size_alloc, hB] at this
    rw [hw6, hB]; exact this.alloc _
  have E5 : Blk w6 (B + 5) #[.int .i64 0] 3 := by
    have := Blk.new (((((w.alloc (.cells #[.string f] 9)).alloc (.cells #[.bool false] 4)).alloc (.cells #[.int .u8 13, .int .u8 10] 5 (2, 3))).alloc (.cells #[.slice a n c] 22)).alloc (.cells #[.slice (some ⟨w.heap.size + 2, 0, none⟩) 2 2] 22)) #[.int .i64 0] 3
    rw [World.size_alloc, World.size_alloc, World.size_alloc, World.size_alloc, World.size_alloc, hB] at this
    rw [hw6, hB]; exact this
  have hz6 : w6.heap.size = B + 6 := by rw [hw6, ← hB]; simp
  have HB6 : Hid (Below w.heap.size w w6) := by
    rw [Hid, hw6]
    exact (((((keep w _).alloc (by simp) _).alloc (by simp; omega) _).alloc (by simp; omega) _).alloc (by simp; omega) _).alloc (by simp; omega) _
  simp only [World.size_alloc, hB]
  clear hw6
  have HBE : Hid (w.heap.size = B) := hB
  clear hB
  have GBV : ∀ V, Below w.heap.size w V → PrB V (B + 2) → Blk V (B + 4) #[.slice (some ⟨B + 2, 0, none⟩) 2 2] 22 → Blk V (B + 5) #[.int .i64 0] 3 → GB (B + 4) (B + 5) (B + 2) 0 a l V := by
    intro V h1 h2 h4 h5
    refine ⟨cell1 h4, h2.row, cell1 h5, ?_, row_below HR.out h1⟩
    · obtain ⟨m, hm⟩ := HM.out
      exact ⟨m, keep_cell h1 hm⟩
  have hit0 := fun X (h : Sb X (B + 3) (.slice a n c)) => splitB0_iter 19 (by omega) (B + 4) (B + 3) (B + 5) (B + 2) a n c l HL.out HBY.out hcap hcm hnil (by omega) X h
  gi_wp2_with fail
  refine range_g 20 141 [.pointer (some ⟨B + 4, 0, none⟩), .pointer (some ⟨B + 3, 0, none⟩), .pointer (some ⟨B + 5, 0, none⟩)] (fun b => b = B + 3) (sbV 0 a c (splitP n l)) (GB (B + 4) (B + 5) (B + 2) 0 a l)
    (fun X hX hz => hit0 X (E3.below hX (by omega))) (fun b hb => by omega) ?ps rfl (fun args W => by simp [go_sem])
    (fun k V => (∀ i q, i < k → (bareP n l)[i]? = some q → ¬ q.take (nums f).length = nums f) ∧ Below w.heap.size w V ∧ Blk V B #[.string f] 9 ∧ Blk V (B + 1) #[.bool false] 4 ∧ PrB V (B + 2) ∧ Blk V (B + 4) #[.slice (some ⟨B + 2, 0, none⟩) 2 2] 22 ∧ Blk V (B + 5) #[.int .i64 0] 3)
    (fun cd V => cd = .ret ∧ beginsZ l (nums f) = true ∧ Blk V (B + 1) #[.bool true] 4 ∧ Below w.heap.size w V) ?cI ?cX ?cG ?c0
    (fun x => { tmps := #[.slice a n c, .string f, undef, .pointer (some ⟨B, 0, none⟩), .pointer (some ⟨B + 1, 0, none⟩), x.getD 0 undef, .slice a n c, .slice (some ⟨B + 2, 0, none⟩) 2 2, .slice (some ⟨B + 2, 0, none⟩) 2 2, .func (.func 141) #[] #[.pointer (some ⟨B + 4, 0, none⟩), .pointer (some ⟨B + 3, 0, none⟩), .pointer (some ⟨B + 5, 0, none⟩)], x.getD 0 undef, undef, undef, undef, undef], defers := [] }) ?assign ?body ?done ?stop
  case ps =>
    intro k x hx
    obtain ⟨q, a', _, rfl, _⟩ := sbV_at0 n l a c k x (by rw [HL.out]; exact hcap) hx
    rfl
  case cI =>
    rintro k V V' ⟨h1, h2, h3, h4, h5, h6, h7⟩ ht
    have hbe := HBE.out
    exact ⟨h1, below_tg h2 h2.size ht (fun b hb => by omega), ht.kept h3 (by omega), ht.kept h4 (by omega), ht.kept h5 (by omega), ht.kept h6 (by omega), ht.kept h7 (by omega)⟩
  case cX =>
    rintro cd V V' ⟨h1, h2, h3, h4⟩ ht
    have hbe := HBE.out
    exact ⟨h1, h2, ht.kept h3 (by omega), below_tg h4 h4.size ht (fun b hb => by omega)⟩
  case cG =>
    rintro k V ⟨h1, h2, h3, h4, h5, h6, h7⟩
    exact GBV V h2 h5 h6 h7
  case c0 => exact ⟨fun i q hi => by omega, HB6.out, E0, E1, E2, E4, E5⟩
  case assign =>
    intro i k x V K hx hK
    obtain ⟨q, a', _, rfl, _⟩ := sbV_at0 n l a c k x (by rw [HL.out]; exact hcap) hx
    gi_wp2
    exact hK
  case body =>
    rintro i k x V hx ⟨h1, h2, h3, h4, h5, h6, h7⟩ hsz hob
    obtain ⟨q, a', hq, rfl, hrow⟩ := sbV_at0 n l a c k x (by rw [HL.out]; exact hcap) hx
    obtain ⟨hql, hqm⟩ := bareP_mem n l q (List.mem_of_getElem? hq)
    have hqb : Byt q := fun x hx => HBY.out x (hqm x hx)
    have hrV := hrow V (row_below HR.out h2)
    obtain ⟨cp, W1, kc, hcp, hcx, hrw, hbw, _⟩ := Kd.conv_bytes f V (by unfold maxLen; omega)
    have hpre := bytes_HasPrefix_all a' (some ⟨V.heap.size, 0, none⟩) q.length q.length f.size cp q (nums f) W1 rfl (nums_len f) (Nat.le_refl _) (bytesIn_row (row_below hrV hbw)) (by rw [← nums_len f]; exact bytesIn_row hrw)
    rw [prefix_take hqb (nums_byt f)] at hpre
    have c3 := cell1 h3
    have hbe := HBE.out
    have g1 : Blk W1 (B + 1) #[.bool false] 4 := h4.below hbw h4.lt
    have c4 := cell1 g1
    have f4 := g1.frozen 0
    have HQ : Hid ((bareP n l)[k]? = some q) := hq
    have H1 : Hid (∀ i q, i < k → (bareP n l)[i]? = some q → ¬ q.take (nums f).length = nums f) := h1
    have HBW : Hid (Below V.heap.size V W1) := hbw
    have H2 : Hid (Below w.heap.size w V) := h2
    obtain ⟨ql, hqle⟩ : ∃ ql, q.length = ql := ⟨_, rfl⟩
    rw [hqle] at hpre
    have HG1 : Hid (Blk W1 (B + 1) #[.bool false] 4) := g1
    have HI : Hid (Blk V B #[.string f] 9 ∧ Blk V (B + 1) #[.bool false] 4 ∧ PrB V (B + 2) ∧ Blk V (B + 4) #[.slice (some ⟨B + 2, 0, none⟩) 2 2] 22 ∧ Blk V (B + 5) #[.int .i64 0] 3) := ⟨h3, h4, h5, h6, h7⟩
    rw [hqle]
    clear hx hql hqm hqb hrV hrow hrw hbw hq h1 h2 h3 h4 h5 h6 h7 hqle hit0
    show Code.wpIn _ _ _ _ _ { tmps := #[.slice a n c, .string f, undef, .pointer (some ⟨B, 0, none⟩), .pointer (some ⟨B + 1, 0, none⟩), .slice a' ql ql, .slice a n c, .slice (some ⟨B + 2, 0, none⟩) 2 2, .slice (some ⟨B + 2, 0, none⟩) 2 2, .func (.func 141) #[] #[.pointer (some ⟨B + 4, 0, none⟩), .pointer (some ⟨B + 3, 0, none⟩), .pointer (some ⟨B + 5, 0, none⟩)], .slice a' ql ql, undef, undef, undef, undef], defers := [] } _
    gi_wp2_with fail
    refine ⟨trivial, (CallsIn.inRound i (callsIn_wide.2 hpre)).mono ?_⟩
    rintro e V0 ⟨rfl, rfl⟩
    by_cases hp : q.take (nums f).length = nums f
    · rw [decide_eq_true hp]
      have HZ : Hid (beginsZ l (nums f) = true) := by
        unfold Hid beginsZ
        rw [List.any_eq_true]
        exact ⟨q, by rw [HL.out]; exact List.mem_of_getElem? HQ.out, decide_eq_true hp⟩
      clear hp
      gi_wp2
      refine ⟨⟨rfl, HZ.out, HG1.out.same0 _, ?_⟩, ?_⟩
      · exact (H2.out.trans (HBW.out.mono H2.out.size)).setCell (p := ⟨B + 1, 0, none⟩) (by simp; omega) _
      · rintro b hb
        have hz := HBW.out.size
        rw [heap_setCell_other _ _ _ _ (by simp; omega)]
        exact HBW.out.block b (by omega)
    · rw [decide_eq_false hp]
      have HN : Hid (∀ i q, i < k + 1 → (bareP n l)[i]? = some q → ¬ q.take (nums f).length = nums f) := by
        intro j q' hj hq'
        by_cases hjk : j < k
        · exact H1.out j q' hjk hq'
        · obtain rfl : j = k := by omega
          rw [HQ.out] at hq'; cases hq'; exact hp
      clear hp
      gi_wp2
      obtain ⟨q3, q4, q5, q6, q7⟩ := HI.out
      refine ⟨⟨HN.out, H2.out.trans (HBW.out.mono H2.out.size), q3.below HBW.out q3.lt, q4.below HBW.out q4.lt, q5.below HBW.out q5.lt, q6.below HBW.out q6.lt, q7.below HBW.out q7.lt⟩, ?_⟩
      rintro b hb
      exact HBW.out.block b (by omega)
  case done =>
    rintro V ⟨h1, h2, h3, h4, h5, h6, h7⟩ hmk
    have HZ : Hid (false = beginsZ l (nums f)) := by
      unfold Hid beginsZ
      symm
      rw [List.any_eq_false]
      intro q hq hd
      obtain ⟨i, hi, rfl⟩ := List.getElem_of_mem hq
      rw [HL.out] at hi
      refine h1 i _ (by rw [sbV_len, ← bareP_len]; exact hi) ?_ (of_decide_eq_true hd)
      simp only [HL.out]
      exact List.getElem?_eq_getElem hi
    have c4 := cell1 h4
    have f4 := h4.frozen 0
    have hbe := HBE.out
    have H4 : Hid (Blk V (B + 1) #[.bool false] 4) := h4
    have H2 : Hid (Below w.heap.size w V) := h2
    have HMK : Hid (V.heap[w6.heap.size]? = some (.deferred (some []))) := hmk
    clear h1 h2 h3 h4 h5 h6 h7 hmk
    gi_wp2
    refine begins_leave (rs := [w6.heap.size]) (b := false) ?_ (by rw [HBE.out]; rfl) ⟨by simp, ?_⟩ (by intro r hr; simp at hr; omega) ?_ HZ.out
    · rw [HBE.out]; exact H4.out.same0 _
    · intro r hr
      simp at hr
      subst hr
      rw [heap_setCell_other _ _ _ _ (by simp; omega)]
      exact HMK.out
    · exact H2.out.setCell (p := ⟨B + 1, 0, none⟩) (by simp; omega) _
  case stop =>
    rintro cd V ⟨rfl, hz, h3, h4⟩ hmk
    have hbe := HBE.out
    gi_wp2
    refine begins_leave (rs := [w6.heap.size]) (b := true) (by rw [HBE.out]; exact h3) (by rw [HBE.out]; rfl) ⟨by simp, ?_⟩ (by intro r hr; simp at hr; omega) h4 hz.symm
    intro r hr
    simp at hr
    subst hr
    exact hmk
end Go.Proofs.YtmdkmedlncfcbaaGreatDoor
