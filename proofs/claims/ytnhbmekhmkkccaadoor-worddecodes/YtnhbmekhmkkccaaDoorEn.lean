/-
  The contract of Encode.
-/
import Derived.Test.YtnhbmekhmkkccaaDoorEi
namespace Go.Proofs.YtnhbmekhmkkccaaDoor
open Go.RowKit Go.Shelf
set_option linter.unusedVariables false
attribute [local go_sem] Oper.semAt_some

theorem Tryd.info9 : (Tryd.prog.info? 9).map (fun i => (i.zero, i.size, i.bytes)) = some (some (.string ⟨#[]⟩), 1, 16) := by kernel_rfl
/-- What Encode answers. -/
def encA (l : List Int) : List Int × Int := if 4096 < l.length then ([], 2) else if validZ l = false then ([], 20) else (encL l, 0)
theorem joinTail_nums : ∀ xs : List ByteArray, (Lib.joinTail [32] (xs.map (fun x => x.data.toList))).map (fun b => (b.toNat : Int)) = (xs.map nums).flatMap (fun q => 32 :: q)
  | [] => rfl
  | x :: xs => by
    have ih := joinTail_nums xs
    unfold Lib.joinTail at ih ⊢
    rw [List.map_cons, List.map_cons, List.flatten_cons, List.map_append, ih, List.map_cons, List.flatMap_cons]
    rfl
theorem join_nums (xs : List ByteArray) : nums ⟨(Lib.join (xs.map (·.data.toList)) (⟨#[32]⟩ : ByteArray).data.toList).toArray⟩ = joinS (xs.map nums) := by
  cases xs with
  | nil => rfl
  | cons x xs =>
    rw [List.map_cons, List.map_cons, joinS_flat, Lib.join_cons, ← joinTail_nums xs]
    simp [nums]
theorem joinS_len : ∀ (ps : List (List Int)) (m : Nat), (∀ p ∈ ps, p.length ≤ m) → (joinS ps).length ≤ ps.length * (m + 1)
  | [], m, _ => by simp [joinS]
  | [p], m, h => by have := h p (by simp); simp [joinS]; omega
  | p :: q :: r, m, h => by
    have h1 := h p (by simp)
    have h2 := joinS_len (q :: r) m (fun x hx => h x (List.mem_cons_of_mem _ hx))
    rw [joinS, List.length_append, List.length_cons, List.length_cons, Nat.succ_mul]
    omega
theorem sliceV_at (g : Nat) : ∀ (bs : List (List Int)) (off cap : Nat) (r : List Int), bs.flatten = r → r.length ≤ cap → ∀ (k : Nat) (x : Value), (sliceV g off cap bs)[k]? = some x → ∃ o c b, x = .slice (some ⟨g, off + o, none⟩) b.length c ∧ bs[k]? = some b ∧ b.length ≤ c ∧ c ≤ cap ∧ b = (r.drop o).take b.length
  | [], off, cap, r, _, _, k, x, h => by simp [sliceV] at h
  | b :: bs, off, cap, r, hf, hl, 0, x, h => by
    rw [sliceV] at h
    simp only [List.getElem?_cons_zero, Option.some.injEq] at h
    rw [List.flatten_cons] at hf
    refine ⟨0, cap, b, h.symm, rfl, ?_, Nat.le_refl _, ?_⟩
    · have := congrArg List.length hf; rw [List.length_append] at this; omega
    · rw [List.drop_zero, ← hf, List.take_left]
  | b :: bs, off, cap, r, hf, hl, k + 1, x, h => by
    rw [sliceV] at h
    simp only [List.getElem?_cons_succ] at h
    rw [List.flatten_cons] at hf
    have hlen := congrArg List.length hf
    rw [List.length_append] at hlen
    obtain ⟨o, c, b', h1, h2, h3, h4, h5⟩ := sliceV_at g bs (off + b.length) (cap - b.length) (r.drop b.length) (by rw [← hf, List.drop_left]) (by rw [List.length_drop]; omega) k x h
    exact ⟨b.length + o, c, b', by rw [h1, Nat.add_assoc], by simpa using h2, h3, by omega, by rw [List.drop_drop] at h5; exact h5⟩
theorem chunk_count : ∀ (n : Nat) (l : List Int), (chunkN n l).length ≤ n
  | 0, l => by simp [chunkN]
  | n + 1, l => by
    rw [chunkN]
    split
    · simp
    · have := chunk_count n (l.drop (Ut.cutZ l (min 45 l.length)))
      simp; omega
theorem word_len {b : List Int} (h : b.length ≤ 45) : (wordL setU [66] b).length ≤ 75 := by
  obtain ⟨_, h2⟩ := enc0_sgb _ 0 b (Nat.le_refl _)
  simp only [wordL, setU, List.length_append, List.length_cons, List.length_nil, h2]; omega
/-- What lies between two rounds of Encode. -/
def EJ (w1 : World) (g len cap : Nat) (v : Value) (xs : List ByteArray) (W : World) : Prop :=
  Below w1.heap.size w1 W ∧ w1.heap.size + 2 ≤ W.heap.size ∧ W.heap[w1.heap.size]? = some (.cells #[v] 34 (0, 0)) ∧ W.heap[w1.heap.size + 1]? = some (.cells #[.slice (some ⟨g, 0, none⟩) len cap] 31 (0, 0)) ∧ W.ownsRow (w1.heap.size + 2) 9 1 v xs.length (xs.map Value.string)
theorem EJ.below {w1 : World} {g len cap : Nat} {v : Value} {xs : List ByteArray} {W W' : World} (h : EJ w1 g len cap v xs W) (hb : Below W.heap.size W W') : EJ w1 g len cap v xs W' := by
  obtain ⟨h1, h2, h3, h4, h5⟩ := h
  exact ⟨h1.trans (hb.mono (by omega)), Nat.le_trans h2 hb.size, (hb.block _ (by omega)).trans h3, (hb.block _ (by omega)).trans h4, own_keep h5 hb⟩
theorem EJ.put {w1 : World} {g len cap : Nat} {v : Value} {xs : List ByteArray} {W : World} {l : Nat} {o : Obj} (h : EJ w1 g len cap v xs W) (o' : Obj) (hl : w1.heap.size + 2 ≤ l) (ho : W.heap[l]? = some o) (hc : o.isCells = false) : EJ w1 g len cap v xs (W.putObj l o') := by
  obtain ⟨h1, h2, h3, h4, h5⟩ := h
  exact ⟨below_put h1 (by omega) (by omega) _, by simp; omega, (World.putObj_heap_other (by omega)).trans h3, (World.putObj_heap_other (by omega)).trans h4, ownsRow_putObj h5 _ ho hc⟩
theorem EJ.grow {w1 : World} {g len cap : Nat} {v : Value} {xs : List ByteArray} {x : ByteArray} {W Wa w2 : World} {v' : Value} (h : EJ w1 g len cap v xs W) (hb : Below W.heap.size W Wa) (ho : w2.ownsRow (w1.heap.size + 2) 9 1 v' (xs ++ [x]).length ((xs ++ [x]).map Value.string)) (hg : Wa.grownBy w2 v.ownBlock) :
    w2.heap[w1.heap.size]? = some (.cells #[v] 34 (0, 0)) ∧ EJ w1 g len cap v' (xs ++ [x]) (w2.setCell ⟨w1.heap.size, 0, none⟩ v') ∧ KeepN W (w2.setCell ⟨w1.heap.size, 0, none⟩ v') := by
  obtain ⟨h1, h2, h3, h4, h5⟩ := h.below hb
  have blk : ∀ k, k < w1.heap.size + 2 → w2.heap[k]? = Wa.heap[k]? := fun k hk => hg.block k (by omega) (fun e => by have := (h5.lt _ e.symm).1; omega)
  have hB : Below w1.heap.size w1 w2 := h1.grown hg (by omega) (fun k hk => by have := (h5.lt k hk).1; omega)
  have hT : w2.heap[w1.heap.size]? = some (.cells #[v] 34 (0, 0)) := (blk _ (by omega)).trans h3
  have hsz : Wa.heap.size ≤ w2.heap.size := hg.size
  have hkp : KeepsOthers Wa w2 := KeepsOthers.of_grownBy hg (fun j o e hj => by
    rcases h5.2 with ⟨q, _⟩ | ⟨g, cp, cur, q, _, hg', _⟩
    · rw [q] at e; cases e
    · rw [q] at e
      obtain rfl : g = j := by simpa [Value.ownBlock] using e
      rw [hg'] at hj
      cases hj
      rfl)
  refine ⟨hT, ⟨hB.setCell (p := ⟨w1.heap.size, 0, none⟩) (Nat.le_refl _) _, ?_, heap_setCell_same _ _ 0 _ 34 _ hT, (heap_setCell_other _ _ _ _ (by simp)).trans ((blk _ (by omega)).trans h4), own_set (by omega) ho⟩, (keepN_below hb).trans ((keepN_of hkp).trans (keepN_set _ _))⟩
  have := ((Below.refl 0 w2).setCell (p := ⟨w1.heap.size, 0, none⟩) (Nat.zero_le _) v').size
  omega
theorem ownS_view {W : World} {B : Nat} {v : Value} {xs : List ByteArray} (h : W.ownsRow B 9 1 v xs.length (xs.map Value.string)) : ∃ a cap, v = .slice a xs.length cap ∧ xs.length ≤ cap ∧ (xs = [] ∨ ∃ g, a = some ⟨g, 0, none⟩ ∧ g < W.heap.size ∧ ∀ i x, xs[i]? = some x → W.cell? ⟨g, i, none⟩ = some (.string x)) := by
  rcases h.2 with ⟨rfl, hn⟩ | ⟨g, cap, cur, rfl, hb, hg, hn, hm, hss, ht⟩
  · exact ⟨none, 0, by rw [hn], by omega, .inl (List.eq_nil_of_length_eq_zero hn)⟩
  · refine ⟨some ⟨g, 0, none⟩, cap, rfl, hn, .inr ⟨g, rfl, (Array.getElem?_eq_some_iff.1 hg).1, fun i x hx => ?_⟩⟩
    have hc := h.cells (g := g) rfl i (.string x) (by rw [List.getElem?_map, hx]; rfl)
    rw [add_plain] at hc
    simpa using hc
/-- What holds between two rounds of Encode. -/
def EI (w1 : World) (g len cap : Nat) (l : List Int) (k : Nat) (W : World) : Prop :=
  ∃ v xs, EJ w1 g len cap v xs W ∧ xs.map nums = (wordsL l).take k ∧ k ≤ (wordsL l).length
def eW (w1 : World) (g len cap : Nat) : World := (w1.alloc (.cells #[.slice none 0 0] 34)).alloc (.cells #[.slice (some ⟨g, 0, none⟩) len cap] 31)
theorem enc_first (w1 : World) (g len cap : Nat) : EJ w1 g len cap (.slice none 0 0) [] (eW w1 g len cap) ∧ (eW w1 g len cap).heap.size = w1.heap.size + 2 := by
  unfold eW
  have z1 : (w1.alloc (.cells #[.slice none 0 0] 34)).heap.size = w1.heap.size + 1 := by simp
  refine ⟨⟨(keep w1 _).alloc (by omega) _, by simp, ?_, ?_, World.ownsRow_nil _ _ _ _⟩, by simp⟩
  · rw [Below.heap_alloc _ _ _ (by omega)]
    exact World.alloc_heap_new w1 _
  · have := World.alloc_heap_new (w1.alloc (.cells #[.slice none 0 0] 34)) (.cells #[.slice (some ⟨g, 0, none⟩) len cap] 31)
    rw [z1] at this; exact this
set_option maxRecDepth 100000 in
theorem encode_long (s : ByteArray) (w : World) (h : 4096 < s.size) :
    Calls Tryd.prog 10 #[.string s] w fun e w' => e = .returned (.tuple #[.string ⟨#[]⟩, .int .i64 2]) ∧ Below w.heap.size w w' := by
  have hd : decide ((s.size : Int) > 4096) = true := decide_eq_true (by omega)
  go_enter Tryd.func10, Tryd.ntmps10
  go_wp2
  go_ret2
  exact ⟨rfl, Below.refl _ _⟩
set_option maxRecDepth 100000 in
theorem encode_bad (s : ByteArray) (w : World) (h : s.size ≤ 4096) (hv : validZ (nums s) = false) :
    Calls Tryd.prog 10 #[.string s] w fun e w' => e = .returned (.tuple #[.string ⟨#[]⟩, .int .i64 20]) ∧ Below w.heap.size w w' := by
  have hd : decide ((s.size : Int) > 4096) = false := decide_eq_false (by omega)
  obtain ⟨cap, w1, kc, hcap, hmx, hrow, hb, hfz⟩ := conv_bytes s w (by unfold maxLen; omega)
  have hval := valid_row _ s.size cap (nums s) w1 (nums_len s) (nums_byt s) hcap (by unfold maxLen; omega) hrow
  rw [hv] at hval
  have HB : Hid (Below w.heap.size w w1) := hb
  clear hrow hfz hv hb
  go_enter Tryd.func10, Tryd.ntmps10
  go_wp2_with (go_at_call 18; refine hval.mono ?_; rintro e w' ⟨rfl, rfl⟩)
  go_ret2
  exact ⟨rfl, HB.out⟩
theorem empty_list (s : ByteArray) : (s.toList == ([] : List UInt8)) = decide (nums s = []) := by
  have := eq_nums s ⟨#[]⟩
  rw [show (⟨#[]⟩ : ByteArray).toList = [] from by rw [ByteArray.toList_eq]] at this
  exact this
set_option maxRecDepth 100000 in
theorem encode_plain (s : ByteArray) (m : Int) (w : World) (h : s.size ≤ 4096) (hv : validZ (nums s) = true) (hp : nums s = [] ∨ plainZ (nums s) = true) (hm : w.cell? ⟨0, 0, none⟩ = some (.int .i64 m)) :
    Calls Tryd.prog 10 #[.string s] w fun e w' => e = .returned (.tuple #[.string s, .int .i64 0]) ∧ Below w.heap.size w w' := by
  have hd : decide ((s.size : Int) > 4096) = false := decide_eq_false (by omega)
  obtain ⟨cap, w1, kc, hcap, hmx, hrow, hb, hfz⟩ := conv_bytes s w (by unfold maxLen; omega)
  have hval := valid_row _ s.size cap (nums s) w1 (nums_len s) (nums_byt s) hcap (by unfold maxLen; omega) hrow
  rw [hv] at hval
  have hpl := plain_any s m w1 (by omega) ((hb.cell (World.block_lt_of_cell? w _ hm)).trans hm)
  have HB : Hid (Below w.heap.size w w1) := hb
  have he := empty_list s
  clear hrow hfz hv hb hm
  by_cases h0 : nums s = []
  · rw [decide_eq_true h0] at he
    have he2 : s.toList = [] := by simpa using he
    clear hpl hp h0
    go_enter Tryd.func10, Tryd.ntmps10
    go_wp2_with (go_at_call 18; refine hval.mono ?_; rintro e w' ⟨rfl, rfl⟩)
    go_ret2
    exact ⟨rfl, HB.out⟩
  · rw [decide_eq_false h0] at he
    have he2 : ¬ s.toList = [] := by simpa using he
    rw [hp.resolve_left h0] at hpl
    clear hp h0
    go_enter Tryd.func10, Tryd.ntmps10
    go_wp2_with (first
      | (go_at_call 18; refine hval.mono ?_; rintro e w' ⟨rfl, rfl⟩)
      | (go_at_call 12; refine hpl.mono ?_; rintro e w' ⟨rfl, rfl⟩))
    go_ret2
    exact ⟨rfl, HB.out⟩
set_option maxHeartbeats 8000000 in
set_option maxRecDepth 100000 in
theorem encode_words (s : ByteArray) (m : Int) (w : World) (h : s.size ≤ 4096) (hv : validZ (nums s) = true) (hne : nums s ≠ []) (hnp : plainZ (nums s) = false) (hm : w.cell? ⟨0, 0, none⟩ = some (.int .i64 m)) :
    Calls Tryd.prog 10 #[.string s] w fun e w' => e = .returned (.tuple #[.string (strOfNums (joinS (wordsL (nums s)))), .int .i64 0]) ∧ Below w.heap.size w w' := by
  have hd : decide ((s.size : Int) > 4096) = false := decide_eq_false (by omega)
  obtain ⟨j0, hi, hz0, hz1, hz2⟩ := info_parts Tryd.info9
  obtain ⟨cap, w1, kc, hcap, hmx, hrow, hb, hfz⟩ := conv_bytes s w (by unfold maxLen; omega)
  have hval := valid_row _ s.size cap (nums s) w1 (nums_len s) (nums_byt s) hcap (by unfold maxLen; omega) hrow
  rw [hv] at hval
  have hpl := plain_any s m w1 (by omega) ((hb.cell (World.block_lt_of_cell? w _ hm)).trans hm)
  rw [hnp] at hpl
  have HB : Hid (Below w.heap.size w w1) := hb
  have hw1 : w.heap.size < w1.heap.size := by
    rcases hrow with e | ⟨b, off, e, hc⟩
    · exact absurd e hne
    · have := World.block_lt_of_cell? w1 _ (hc 0 (List.length_pos_iff.2 hne))
      simp at e this
      omega
  have HR : Hid (Row w1 (some ⟨w.heap.size, 0, none⟩) (nums s)) := hrow
  have he := empty_list s
  rw [decide_eq_false hne] at he
  have he2 : ¬ s.toList = [] := by simpa using he
  have he3 : s.toList.isEmpty = false := by simpa using he2
  have hit := pieces_iter 19 (by omega) (w1.heap.size + 1) w.heap.size cap (nums s) (nums_byt s) hv (by rw [nums_len]; exact hcap) hmx
  have HV : Hid (validZ (nums s) = true) := hv
  have HNE : Hid (nums s ≠ []) := hne
  clear hrow hfz hv hb hm hnp he hne
  refine (callsIn_wide (n := 20)).1 ?_
  refine callsIn_of_wp_marks Tryd.func10 rfl trivial ?_ rfl
  simp only [Tryd.ntmps10, List.size_toArray, List.length_cons, List.length_nil, Nat.reduceAdd, Nat.reduceSub, Array.replicate_succ, Array.replicate_zero, List.push_toArray, List.append_toArray, List.nil_append, List.cons_append]
  gi_wp2_with (first
    | (refine ⟨trivial, ?_⟩; gi_at_call 18; refine (callsIn_wide.2 hval).mono ?_; rintro e w' ⟨rfl, rfl⟩)
    | (refine ⟨trivial, ?_⟩; gi_at_call 12; refine (callsIn_wide.2 hpl).mono ?_; rintro e w' ⟨rfl, rfl⟩)
    | (refine ⟨trivial, ?_⟩; gi_at_call 20; refine (callsIn_wide.2 (pieces_call _ _ _ _)).mono ?_; rintro e w' ⟨rfl, rfl⟩))
  rw [show (w1.alloc (.cells #[.slice none 0 0] 34)).alloc (.cells #[.slice (some ⟨w.heap.size, 0, none⟩) s.size cap] 31) = eW w1 w.heap.size s.size cap from rfl]
  obtain ⟨hE0, hsz0⟩ := enc_first w1 w.heap.size s.size cap
  generalize eW w1 w.heap.size s.size cap = W0 at hE0 hsz0 ⊢
  have HBX : Hid (∀ W, Below w1.heap.size w1 W → Row W (some ⟨w.heap.size, 0, none⟩) (nums s)) := fun W hb => row_below HR.out hb
  have hwl : (wordsL (nums s)).length = (chunks (nums s)).length := by simp [wordsL]
  have hcl : (chunks (nums s)).length ≤ 4096 := by have := chunk_count (nums s).length (nums s); rw [nums_len] at this; unfold chunks; rw [nums_len]; omega
  have HWL : Hid ((wordsL (nums s)).length = (chunks (nums s)).length) := hwl
  clear hwl hval hpl kc
  refine range_vals 20 (by omega) 42 (w1.heap.size + 1) (sliceV w.heap.size 0 cap (chunks (nums s))) (Gp (w1.heap.size + 1) w.heap.size cap (nums s)) hit rfl (EI w1 w.heap.size s.size cap (nums s)) (fun args W => by simp [go_sem]) ?cg ?cd ?ct ?ca ?cz
    (fun x => { tmps := #[.string s, undef, .string ⟨#[]⟩, .int .i64 0, .slice (some ⟨w.heap.size, 0, none⟩) s.size cap, .pointer (some ⟨w1.heap.size, 0, none⟩), x, undef, undef, .string s, .int .i64 s.size, .bool false, .string s, .slice (some ⟨w.heap.size, 0, none⟩) s.size cap, .slice (some ⟨w.heap.size, 0, none⟩) s.size cap, .bool true, .bool false, .string s, .bool false, .bool false, .string s, .bool false, .bool false, undef, .slice (some ⟨w.heap.size, 0, none⟩) s.size cap, .func (.func 42) #[] #[.pointer (some ⟨w1.heap.size + 1, 0, none⟩)], x, undef, undef, undef, undef, undef, undef, undef, undef, undef, undef, undef, undef, undef], defers := [] }) ?assign ?body ?done
  case cg => rintro k W ⟨v, xs, h, _⟩; exact ⟨by rw [nums_len]; exact h.2.2.2.1, HBX.out W h.1⟩
  case cd => rintro k W q ⟨v, xs, h, h'⟩; exact ⟨v, xs, h.below (below_drewN (Below.refl _ _) q), h'⟩
  case ct => rintro k W l o o' ⟨v, xs, h, h'⟩ hl ho hc; exact ⟨v, xs, h.put o' (by omega) ho hc, h'⟩
  case ca => rintro k W o ⟨v, xs, h, h'⟩; exact ⟨v, xs, h.below (keep W o), h'⟩
  case cz => exact ⟨_, [], hE0, by simp, Nat.zero_le _⟩
  case assign =>
    intro l x W K hK
    gi_wp2
    exact hK
  case body =>
    intro l k x0 W hx0 hI
    obtain ⟨v, xs, hJ, hxs, hkl⟩ := hI
    obtain ⟨o, c, b, hx0e, hbk, hbc, hcc, hbd⟩ := sliceV_at w.heap.size (chunks (nums s)) 0 cap (nums s) (chunks_flat (nums_byt s) HV.out) (by rw [nums_len]; exact hcap) k x0 hx0
    rw [Nat.zero_add] at hx0e
    subst hx0e
    obtain ⟨ps, hps, hlp⟩ := valid_split (nums_byt s) HV.out
    have hbm := List.mem_of_getElem? hbk
    have hbg : Byt b ∧ b.length ≤ 45 ∧ validZ b = true := by
      unfold chunks at hbm
      rw [hlp] at hbm
      exact (chunk_good _ ps (Nat.le_refl _) hps).2 b hbm
    obtain ⟨n, hn⟩ : ∃ n, b.length = n := ⟨_, rfl⟩
    have hrow : Row W (some ⟨w.heap.size, o, none⟩) b := by rw [hbd]; exact row_take _ (row_off (HBX.out W hJ.1))
    have hk4 : k < 4096 := by have := (List.getElem?_eq_some_iff.1 hbk).1; omega
    have hxl : xs.length = k := by have := congrArg List.length hxs; rw [List.length_map, List.length_take] at this; omega
    have henc := CallsIn.inRound l ((callsIn_wide (n := 17)).2 (Bt.encode_ok (some ⟨w.heap.size, o, none⟩) n c 0 b W hn hbg.1 (by omega) (by unfold maxLen; omega) (by omega) (by omega) (by omega) (by omega) hrow))
    have HX2 : Hid (xs.map nums ++ [wordL setU [66] b] = (wordsL (nums s)).take (k + 1) ∧ k + 1 ≤ (wordsL (nums s)).length) := by
      have hwk : (wordsL (nums s))[k]? = some (wordL setU [66] b) := by unfold wordsL; rw [List.getElem?_map, hbk]; rfl
      refine ⟨by rw [List.take_add_one, hwk, hxs]; rfl, (List.getElem?_eq_some_iff.1 hwk).1⟩
    have hel := (enc0_sgb _ 0 b (Nat.le_refl _)).2
    have hez : (strOfNums (Bt.encW 0 0 b)).size ≤ 60 := by rw [strOfNums_size, hel]; omega
    have hbe : Byt (Bt.encW 0 0 b) := fun y hy => by have := (enc0_sgb _ 0 b (Nat.le_refl _)).1 y hy; unfold SgB at this; omega
    have HNW : Hid (nums (⟨#[61, 63, 117, 116, 102, 45, 56, 63, 66, 63]⟩ ++ strOfNums (Bt.encW 0 0 b) ++ ⟨#[63, 61]⟩) = wordL setU [66] b) := by
      unfold Hid; rw [nums_append, nums_append, nums_str hbe]; simp [wordL, setU, nums]
    have HXL : Hid (xs.length = k) := hxl
    have hxl4 : xs.length < 4096 := by omega
    generalize strOfNums (Bt.encW 0 0 b) = sg at henc hez HNW
    rw [hn] at hx0 ⊢
    have HJ0 : Hid (EJ w1 w.heap.size s.size cap v xs W) := hJ
    clear hbk hbd hbm hbg hrow hn hel hbe hx0 hJ hxs hxl hlp hps hE0 hit
    gi_wp2_with fail
    refine ⟨trivial, henc.mono ?_⟩
    clear henc
    rintro e W1 ⟨rfl, hb1⟩
    have HJ1 : Hid (EJ w1 w.heap.size s.size cap v xs W1) := HJ0.out.below hb1
    have HK1 : Hid (KeepN W W1) := keepN_below hb1
    clear hb1 HJ0
    obtain ⟨a0, cap0, rfl, _, _⟩ := ownS_view HJ1.out.2.2.2.2
    have c0 := cell_of_row _ _ 0 _ _ _ HJ1.out.2.2.1
    have c1 := frozen_of_row _ _ 0 _ _ HJ1.out.2.2.1
    simp only [List.getElem?_toArray, List.getElem?_cons_zero] at c0
    have z1 : ¬ 9223372036854775807 < 10 + sg.size := by omega
    have z2 : ¬ 9223372036854775807 < 10 + sg.size + 2 := by omega
    gi_wp2_with (gi_at_builtin; refine wpListIn_append_own _ rfl (.tmp 32) (.tmp 36) 34 rfl (w1.heap.size + 2) 9 j0 (.string ⟨#[]⟩) 1 16 Tryd.underlying34 hi hz0 hz1 hz2 rfl (by decide) _ _ _ rfl (HJ1.out.2.2.2.2.alloc _) ⟨W1.heap.size, 0, none⟩ 1 1 [.string (⟨#[61, 63, 117, 116, 102, 45, 56, 63, 66, 63]⟩ ++ sg ++ ⟨#[63, 61]⟩)] rfl rfl (cells_new _ _ _) (by simp [Value.oneCell']) (by unfold maxLen; omega) (by omega) (by have := HJ1.out.2.1; simp; omega) ?_; intro v2 w2 hown2 hgrow2 _; obtain ⟨hT2, HD2, HK2⟩ := HJ1.out.grow (x := ⟨#[61, 63, 117, 116, 102, 45, 56, 63, 66, 63]⟩ ++ sg ++ ⟨#[63, 61]⟩) (keep W1 _) (by rw [List.length_append, List.map_append]; exact hown2) hgrow2; generalize hp2 : xs ++ [⟨#[61, 63, 117, 116, 102, 45, 56, 63, 66, 63]⟩ ++ sg ++ ⟨#[63, 61]⟩] = xs2 at HD2; have HP2 : Hid (xs ++ [⟨#[61, 63, 117, 116, 102, 45, 56, 63, 66, 63]⟩ ++ sg ++ ⟨#[63, 61]⟩] = xs2) := hp2; clear hp2; obtain ⟨a2, cap2, rfl, _⟩ := ownS_view HD2.2.2.2.2; have g0 := cell_of_row _ _ 0 _ _ _ hT2; have g1 := frozen_of_row _ _ 0 _ _ hT2; simp only [List.getElem?_toArray, List.getElem?_cons_zero] at g0; clear hown2 hgrow2 hT2 c0 c1)
    exact ⟨⟨_, xs2, HD2, by rw [← HP2.out, List.map_append, List.map_singleton, HNW.out]; exact HX2.out.1, HX2.out.2⟩, HK1.out.trans HK2⟩
  case done =>
    intro D W hD hI hK
    rw [sliceV_len, ← HWL.out] at hI
    obtain ⟨v, xs, hJ, hxs, hkl⟩ := hI
    rw [List.take_length] at hxs
    obtain ⟨a0, cap0, rfl, hlc, hr⟩ := ownS_view hJ.2.2.2.2
    have hne : xs ≠ [] := by
      rintro rfl
      have := congrArg List.length hxs
      rw [HWL.out] at this
      exact chunk_ne HNE.out (List.eq_nil_of_length_eq_zero (by simpa using this.symm))
    rcases hr with e | ⟨g, rfl, hg, hcells⟩
    · exact absurd e hne
    have c0 := cell_of_row _ _ 0 _ _ _ hJ.2.2.1
    simp only [List.getElem?_toArray, List.getElem?_cons_zero] at c0
    have hxl : xs.length ≤ 4096 := by have := congrArg List.length hxs; rw [List.length_map, HWL.out] at this; omega
    have hjn := join_nums xs
    rw [hxs] at hjn
    have hjl : (Lib.join (xs.map (·.data.toList)) (⟨#[32]⟩ : ByteArray).data.toList).length ≤ 140737488355328 := by
      have h1 : (nums ⟨(Lib.join (xs.map (·.data.toList)) (⟨#[32]⟩ : ByteArray).data.toList).toArray⟩).length ≤ (wordsL (nums s)).length * 76 := by
        rw [hjn]
        refine joinS_len _ 75 ?_
        intro p hp
        obtain ⟨b, hb, rfl⟩ := List.mem_map.1 hp
        obtain ⟨ps, hps, hlp⟩ := valid_split (nums_byt s) HV.out
        unfold chunks at hb
        rw [hlp] at hb
        exact word_len ((chunk_good _ ps (Nat.le_refl _) hps).2 b hb).2.1
      rw [nums_len, HWL.out] at h1
      have h2 : (⟨(Lib.join (xs.map (·.data.toList)) (⟨#[32]⟩ : ByteArray).data.toList).toArray⟩ : ByteArray).size = (Lib.join (xs.map (·.data.toList)) (⟨#[32]⟩ : ByteArray).data.toList).length := by simp [ByteArray.size]
      rw [h2] at h1
      omega
    have hjoin := strings_Join g 0 cap0 xs ⟨#[32]⟩ W (fun j x hx => by rw [Nat.zero_add]; exact hcells j x hx) hg (by omega) hlc hjl
    have hjs : (⟨(Lib.join (xs.map (·.data.toList)) (⟨#[32]⟩ : ByteArray).data.toList).toArray⟩ : ByteArray) = strOfNums (joinS (wordsL (nums s))) := by rw [← hjn, str_nums]
    rw [hjs] at hjoin
    have HB2 : Hid (Below w.heap.size w W) := HB.out.trans (hJ.1.mono (by omega))
    have hWs : w1.heap.size + 2 ≤ W.heap.size := hJ.2.1
    have HK : Hid (W.heap[D]? = some (.deferred (some []))) := hK
    have hDl : D < W.heap.size := (Array.getElem?_eq_some_iff.1 hK).1
    clear hjs hjl hjn hcells hJ hK hxs hne hkl hE0 hit
    gi_wp2_with (refine ⟨trivial, ?_⟩; gi_at_call 21; refine (callsIn_wide.2 hjoin).mono ?_; rintro e W2 ⟨rfl, hb2⟩)
    have hK2 : W2.heap[D]? = some (.deferred (some [])) := (hb2.block _ hDl).trans HK.out
    have hz2 := hb2.size
    refine ⟨by simp, .inl ⟨_, _, rfl, run_takeDeferred hK2, ?_⟩⟩
    exact ⟨.tuple #[.string (strOfNums (joinS (wordsL (nums s)))), .int .i64 0], by simp [results, Tryd.results10, go_sem], rfl, below_put (HB2.out.trans (hb2.mono (by omega))) (by omega) (by omega) _⟩
theorem encode_any (s : ByteArray) (m : Int) (w : World) (hm : w.cell? ⟨0, 0, none⟩ = some (.int .i64 m)) :
    Calls Tryd.prog 10 #[.string s] w fun e w' => e = .returned (.tuple #[.string (strOfNums (encA (nums s)).1), .int .i64 (encA (nums s)).2]) ∧ Below w.heap.size w w' := by
  unfold encA
  by_cases h : 4096 < (nums s).length
  · rw [if_pos h]; rw [nums_len] at h; exact encode_long s w h
  · rw [if_neg h]
    rw [nums_len] at h
    by_cases hv : validZ (nums s) = false
    · rw [if_pos hv]; exact encode_bad s w (by omega) hv
    · rw [if_neg hv]
      have hv1 : validZ (nums s) = true := by simpa using hv
      unfold encL
      by_cases hp : nums s = [] ∨ plainZ (nums s) = true
      · rw [if_pos hp]; simp only [str_nums]; exact encode_plain s m w (by omega) hv1 hp hm
      · rw [if_neg hp]; exact encode_words s m w (by omega) hv1 (fun e => hp (.inl e)) (by cases hq : plainZ (nums s) with | false => rfl | true => exact absurd (.inr hq) hp) hm
end Go.Proofs.YtnhbmekhmkkccaaDoor
