/-
  The document's own lengths as texts: the contracts of its decimal and Span.
-/
import Derived.Test.YtkamnphiocoebaaDoorRp
namespace Go.Proofs.YtkamnphiocoebaaDoor
open Go.RowKit
set_option linter.unusedVariables false

/-- 'wpAnyH_take', the slot told. -/
theorem takeD {P : Program} {ops : Array Oper} {Q : Exit → Act → World → Prop} {md : Region.Mode} {S : World → Prop} (d : Option Tmp) {i : Nat} {oi : Oper} {v : Value} {fuel : Nat} {listed : Array Bool} {a : Act} {w : World} (hi : ops[i]? = some oi) (hd : oi.dst = d)
    (hs : Region.noSelect ops = true) (hf : Region.free md ops listed i = true) (hr : (Region.ready md ops listed).contains i = true)
    (hQ : ∀ c a w, Q (.panic c) (a.put oi.dst v) w → Q (.panic c) a w) (hy : YieldsIf P ops S oi v a) (hS : S w)
    (h : wpAnyH P md ops Q S fuel (listed.setIfInBounds i true) (a.put d v) w) : wpAnyH P md ops Q S (fuel + 1) listed a w := by
  subst hd
  exact wpAnyH_take hi hs hf hr hQ hy hS h
theorem below_drew {n : Nat} {w w' : World} (h : Below n w w') : Below n w w'.drew := below_drewN h 1
theorem decF_more : ∀ (k j : Nat) (n : Int), 0 ≤ n → n < 10 ^ (k + 1) → k ≤ j → decF k n = decF j n
  | 0, 0, n, _, _, _ => rfl
  | 0, j + 1, n, h0, h1, _ => by
    have : n < 10 := by simpa using h1
    simp only [decF]; rw [if_pos this]; congr 1; omega
  | k + 1, 0, n, _, _, h => by omega
  | k + 1, j + 1, n, h0, h1, h => by
    simp only [decF]
    split
    · rfl
    · rw [decF_more k j (n / 10) (by omega) (by rw [Int.pow_succ] at h1; omega) (by omega)]
set_option maxHeartbeats 2000000 in
theorem decimal_by : ∀ (k : Nat) (n : Int) (w : World), k ≤ 20 → 0 ≤ n → n < 10 ^ (k + 1) → n ≤ 1000000000000000 →
    Calls Tryd.prog 35 #[.int .i64 n] w fun e w' => ∃ x, e = .returned (.string x) ∧ (nums x = decF k n ∧ x.size ≤ k + 1) ∧ Below w.heap.size w w' := by
  intro k
  induction k with
  | zero =>
    intro n w hk h0 h1 h2
    have hn : n < 10 := by simpa using h1
    have kc := conv_one w (48 + n)
    have hs1 := one_size (48 + n)
    have HN : Hid (nums (strOfNums [48 + n]) = decF 0 n) := by
      unfold Hid; rw [nums_str (l := [48 + n]) (by intro y hy; simp at hy; omega)]
      simp only [decF]; congr 1; omega
    generalize strOfNums [48 + n] = y at kc hs1 HN
    go_enter Tryd.func35, Tryd.ntmps35
    go_wp2
    go_ret
    exact ⟨y, rfl, ⟨HN.out, by omega⟩, keep w _⟩
  | succ k ih =>
    intro n w hk h0 h1 h2
    by_cases hn : n < 10
    · have kc := conv_one w (48 + n)
      have hs1 := one_size (48 + n)
      have HN : Hid (nums (strOfNums [48 + n]) = decF (k + 1) n) := by
        unfold Hid; rw [nums_str (l := [48 + n]) (by intro y hy; simp at hy; omega)]
        simp only [decF]; rw [if_pos hn]
      generalize strOfNums [48 + n] = y at kc hs1 HN
      clear ih
      go_enter Tryd.func35, Tryd.ntmps35
      go_wp2
      go_ret
      exact ⟨y, rfl, ⟨HN.out, by omega⟩, keep w _⟩
    · have IH : Hid (∀ v, Calls Tryd.prog 35 #[.int .i64 (n / 10)] v fun e w' => ∃ x, e = .returned (.string x) ∧ (nums x = decF k (n / 10) ∧ x.size ≤ k + 1) ∧ Below v.heap.size v w') := fun v => ih (n / 10) v (by omega) (by omega) (by rw [Int.pow_succ] at h1; omega) (by omega)
      have HN : Hid (∀ x, nums x = decF k (n / 10) → nums (x ++ strOfNums [48 + n % 10]) = decF (k + 1) n) := by
        intro x hx
        rw [nums_append, hx, nums_str (l := [48 + n % 10]) (by intro y hy; simp at hy; omega)]
        simp only [decF]; rw [if_neg hn]
      have hs1 := one_size (48 + n % 10)
      have kc : ∀ v : World, (convert 41 9 (.slice (some ⟨v.heap.size, 0, none⟩) 1 1)).run Tryd.prog (v.alloc (.cells #[.int .u8 (48 + n % 10)] 5)) = .ok (.string (strOfNums [48 + n % 10])) (v.alloc (.cells #[.int .u8 (48 + n % 10)] 5)) := fun v => conv_one v _
      have q1 : IntKind.i64.wrap (48 + n % 10) = 48 + n % 10 := by rw [IntKind.wrap_i64]; omega
      have q3 : n.tmod 10 = n % 10 := Int.tmod_eq_emod_of_nonneg h0
      have q5 : n.tdiv 10 = n / 10 := Int.tdiv_eq_ediv_of_nonneg h0
      have q2 : IntKind.i64.wrap (n / 10) = n / 10 := by rw [IntKind.wrap_i64]; omega
      have q4 : IntKind.u8.wrap (48 + n % 10) = 48 + n % 10 := by rw [IntKind.wrap_u8]; omega
      have KR : Hid (∀ v, Below (w.alloc (.cells #[.int .u8 (48 + n % 10)] 5)).heap.size (w.alloc (.cells #[.int .u8 (48 + n % 10)] 5)) v → (convert 41 9 (.slice (some ⟨w.heap.size, 0, none⟩) 1 1)).run Tryd.prog v = .ok (.string (strOfNums [48 + n % 10])) v) := fun v hv => conv_row 1 1 rfl (row_below (row_new w [48 + n % 10]) hv)
      generalize strOfNums [48 + n % 10] = y at kc hs1 HN KR
      clear ih h1
      go_enter Tryd.func35, Tryd.ntmps35
      go_wp2_with fail
      refine wp_region_held_drew (S := (fun V => Below w.heap.size w V)) (by kernel_rfl) (by exact below_drew (Below.refl _ _)) (fun hHeld => ?_)
      refine takeD (some 10) (i := 0) (v := .int .i64 n) rfl rfl (by kernel_rfl) (by kernel_rfl) (by kernel_rfl) (fun _ _ _ h => h) (Or.inl ⟨by kernel_rfl, ?_⟩) (by assumption) ?_
      · (intro w hSw; (try dsimp only at hSw); go_simp)
      (try simp only [Act.put, List.setIfInBounds_toArray, List.set_cons_zero, List.set_cons_succ])
      refine takeD (some 11) (i := 1) (v := .int .i64 (n / 10)) rfl rfl (by kernel_rfl) (by kernel_rfl) (by kernel_rfl) (fun _ _ _ h => h) (Or.inl ⟨by kernel_rfl, ?_⟩) (by assumption) ?_
      · (intro w hSw; (try dsimp only at hSw); go_simp)
      (try simp only [Act.put, List.setIfInBounds_toArray, List.set_cons_zero, List.set_cons_succ])
      refine takeD (some 13) (i := 3) (v := .int .i64 n) rfl rfl (by kernel_rfl) (by kernel_rfl) (by kernel_rfl) (fun _ _ _ h => h) (Or.inl ⟨by kernel_rfl, ?_⟩) (by assumption) ?_
      · (intro w hSw; (try dsimp only at hSw); go_simp)
      (try simp only [Act.put, List.setIfInBounds_toArray, List.set_cons_zero, List.set_cons_succ])
      refine takeD (some 14) (i := 4) (v := .int .i64 (n % 10)) rfl rfl (by kernel_rfl) (by kernel_rfl) (by kernel_rfl) (fun _ _ _ h => h) (Or.inl ⟨by kernel_rfl, ?_⟩) (by assumption) ?_
      · (intro w hSw; (try dsimp only at hSw); go_simp)
      (try simp only [Act.put, List.setIfInBounds_toArray, List.set_cons_zero, List.set_cons_succ])
      refine takeD (some 15) (i := 5) (v := .int .i64 (48 + n % 10)) rfl rfl (by kernel_rfl) (by kernel_rfl) (by kernel_rfl) (fun _ _ _ h => h) (Or.inl ⟨by kernel_rfl, ?_⟩) (by assumption) ?_
      · (intro w hSw; (try dsimp only at hSw); go_simp)
      (try simp only [Act.put, List.setIfInBounds_toArray, List.set_cons_zero, List.set_cons_succ])
      refine takeD (some 16) (i := 6) (v := .int .u8 (48 + n % 10)) rfl rfl (by kernel_rfl) (by kernel_rfl) (by kernel_rfl) (fun _ _ _ h => h) (Or.inl ⟨by kernel_rfl, ?_⟩) (by assumption) ?_
      · (intro w hSw; (try dsimp only at hSw); go_simp)
      (try simp only [Act.put, List.setIfInBounds_toArray, List.set_cons_zero, List.set_cons_succ])
      refine wpAnyH_ready (rs := [2, 7]) (by kernel_rfl) (by simp) ?_
      refine AllReadyH.cons rfl (fun K hK => ?_) (AllReadyH.cons rfl (fun K hK => ?_) AllReadyH.nil)
      · go_simp
        refine (IH.out _).mono ?_
        rintro e w1 ⟨x, rfl, hx, hb⟩
        have hB1 : Below w.heap.size w w1 := hHeld.trans (hb.mono hHeld.size)
        have HX : Hid (nums x = decF k (n / 10)) := hx.1
        have hxs := hx.2
        have hx9 : x.size ≤ 9223372036854775806 := by omega
        refine hK.out _ _ hB1 (fun hHeld => ?_)
        clear hK K
        refine wpAnyH_ready (rs := [7]) (by kernel_rfl) (by simp) ?_
        refine AllReadyH.cons rfl (fun K hK => ?_) AllReadyH.nil
        go_simp
        refine hK.out _ _ (hB1.alloc hB1.size _) (fun hHeld => ?_)
        clear hK K
        have kc1 := kc w1
        refine wpAnyH_ready (rs := [8]) (by kernel_rfl) (by simp) ?_
        refine AllReadyH.cons rfl (fun K hK => ?_) AllReadyH.nil
        go_simp
        refine hK.out _ _ hHeld (fun hHeld => ?_)
        clear hK K
        refine takeD (some 19) (i := 9) (v := .string (x ++ y)) rfl rfl (by kernel_rfl) (by kernel_rfl) (by kernel_rfl) (fun _ _ _ h => h) (Or.inl ⟨by kernel_rfl, ?_⟩) (by assumption) ?_
        · (intro w hSw; (try dsimp only at hSw); go_simp)
        (try simp only [Act.put, List.setIfInBounds_toArray, List.set_cons_zero, List.set_cons_succ])
        refine takeD (some 2) (i := 10) (v := .string (x ++ y)) rfl rfl (by kernel_rfl) (by kernel_rfl) (by kernel_rfl) (fun _ _ _ h => h) (Or.inl ⟨by kernel_rfl, ?_⟩) (by assumption) ?_
        · (intro w hSw; (try dsimp only at hSw); go_simp)
        (try simp only [Act.put, List.setIfInBounds_toArray, List.set_cons_zero, List.set_cons_succ])
        refine wpAnyH_done (by kernel_rfl) ?_ _
        go_wp2
        go_ret
        exact ⟨x ++ y, rfl, ⟨HN.out x HX.out, by rw [ByteArray.size_append]; omega⟩, hB1.alloc hB1.size _⟩
      · go_simp
        refine hK.out _ _ (below_drew ((Below.refl w.heap.size w).alloc (Nat.le_refl _) (.cells #[.int .u8 (48 + n % 10)] 5))) (fun hHeld => ?_)
        clear hK K
        refine wpAnyH_ready (rs := [2, 8]) (by kernel_rfl) (by simp) ?_
        refine AllReadyH.cons rfl (fun K hK => ?_) (AllReadyH.cons rfl (fun K hK => ?_) AllReadyH.nil)
        · go_simp
          refine (IH.out _).mono ?_
          rintro e w1 ⟨x, rfl, hx, hb⟩
          have hB1 : Below w.heap.size w w1 := hHeld.trans (hb.mono hHeld.size)
          have kc1 : (convert 41 9 (.slice (some ⟨w.heap.size, 0, none⟩) 1 1)).run Tryd.prog w1 = .ok (.string y) w1 := KR.out w1 (Below.trans (below_drew (Below.refl _ _)) hb)
          have HX : Hid (nums x = decF k (n / 10)) := hx.1
          have hxs := hx.2
          have hx9 : x.size ≤ 9223372036854775806 := by omega
          refine hK.out _ _ hB1 (fun hHeld => ?_)
          clear hK K
          refine wpAnyH_ready (rs := [8]) (by kernel_rfl) (by simp) ?_
          refine AllReadyH.cons rfl (fun K hK => ?_) AllReadyH.nil
          go_simp
          refine hK.out _ _ hHeld (fun hHeld => ?_)
          clear hK K
          refine takeD (some 19) (i := 9) (v := .string (x ++ y)) rfl rfl (by kernel_rfl) (by kernel_rfl) (by kernel_rfl) (fun _ _ _ h => h) (Or.inl ⟨by kernel_rfl, ?_⟩) (by assumption) ?_
          · (intro w hSw; (try dsimp only at hSw); go_simp)
          (try simp only [Act.put, List.setIfInBounds_toArray, List.set_cons_zero, List.set_cons_succ])
          refine takeD (some 2) (i := 10) (v := .string (x ++ y)) rfl rfl (by kernel_rfl) (by kernel_rfl) (by kernel_rfl) (fun _ _ _ h => h) (Or.inl ⟨by kernel_rfl, ?_⟩) (by assumption) ?_
          · (intro w hSw; (try dsimp only at hSw); go_simp)
          (try simp only [Act.put, List.setIfInBounds_toArray, List.set_cons_zero, List.set_cons_succ])
          refine wpAnyH_done (by kernel_rfl) ?_ _
          go_wp2
          go_ret
          exact ⟨x ++ y, rfl, ⟨HN.out x HX.out, by rw [ByteArray.size_append]; omega⟩, hB1⟩
        · have kc1 := KR.out _ (below_drew (Below.refl _ _))
          go_simp
          refine hK.out _ _ hHeld (fun hHeld => ?_)
          clear hK K
          refine wpAnyH_ready (rs := [2]) (by kernel_rfl) (by simp) ?_
          refine AllReadyH.cons rfl (fun K hK => ?_) AllReadyH.nil
          go_simp
          refine (IH.out _).mono ?_
          rintro e w1 ⟨x, rfl, hx, hb⟩
          have hB1 : Below w.heap.size w w1 := hHeld.trans (hb.mono hHeld.size)
          have HX : Hid (nums x = decF k (n / 10)) := hx.1
          have hxs := hx.2
          have hx9 : x.size ≤ 9223372036854775806 := by omega
          refine hK.out _ _ hB1 (fun hHeld => ?_)
          clear hK K
          refine takeD (some 19) (i := 9) (v := .string (x ++ y)) rfl rfl (by kernel_rfl) (by kernel_rfl) (by kernel_rfl) (fun _ _ _ h => h) (Or.inl ⟨by kernel_rfl, ?_⟩) (by assumption) ?_
          · (intro w hSw; (try dsimp only at hSw); go_simp)
          (try simp only [Act.put, List.setIfInBounds_toArray, List.set_cons_zero, List.set_cons_succ])
          refine takeD (some 2) (i := 10) (v := .string (x ++ y)) rfl rfl (by kernel_rfl) (by kernel_rfl) (by kernel_rfl) (fun _ _ _ h => h) (Or.inl ⟨by kernel_rfl, ?_⟩) (by assumption) ?_
          · (intro w hSw; (try dsimp only at hSw); go_simp)
          (try simp only [Act.put, List.setIfInBounds_toArray, List.set_cons_zero, List.set_cons_succ])
          refine wpAnyH_done (by kernel_rfl) ?_ _
          go_wp2
          go_ret
          exact ⟨x ++ y, rfl, ⟨HN.out x HX.out, by rw [ByteArray.size_append]; omega⟩, hB1⟩
end Go.Proofs.YtkamnphiocoebaaDoor
