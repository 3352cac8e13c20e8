/-
  The reference's bare and Right.
-/
import Derived.Test.YtlpbgfepneoajaaRlines
namespace Go.Proofs.Ytlpbgfepneoajaa
open Go.RowKit
set_option linter.unusedVariables false

set_option maxHeartbeats 1000000 in
theorem bare_ref (a : Option Addr) (n c : Nat) (l : List Int) (w : World) (hl : l.length = n) (hr : Row w a l) (hn : n ≤ 10000000) :
    Calls Try.prog 22 #[.slice a n c] w fun e w' => e = .returned (.int .i64 (bareAt 0 l)) ∧ w = w' := by
  have HR : Hid (Row w a l) := hr
  clear hr
  go_enter Try.func22, Try.ntmps22
  go_wp2_with fail
  go_loopw [3] (fun v wr => ∃ k : Nat, v = .int .i64 k ∧ k ≤ n ∧ bareAt 0 l = bareAt k (l.drop k) ∧ w = wr) (fun v _ => n - (intOf v).toNat)
  case atStart => exact ⟨0, rfl, by omega, by simp, rfl⟩
  case round =>
    obtain ⟨k, rfl, hk, hb, rfl⟩ := hrel
    have HB : Hid (bareAt 0 l = bareAt k (l.drop k)) := hb
    clear hb
    by_cases hlt : k < n
    · have hd : decide ((k : Int) < (n : Int)) = true := by simp; omega
      have hlt' : k < l.length := by omega
      obtain ⟨x, hx⟩ : ∃ x, l[k]'hlt' = x := ⟨_, rfl⟩
      have HD : Hid (l.drop k = x :: l.drop (k + 1)) := by unfold Hid; rw [List.drop_eq_getElem_cons hlt', hx]
      rcases HR.out with rfl | ⟨b, off, rfl, hc⟩
      · simp at hlt'
      · have hck : w.cell? ⟨b, off + k, none⟩ = some (.int .u8 x) := by rw [hc k hlt']; simp [List.getD_eq_getElem?_getD, List.getElem?_eq_getElem hlt', hx]
        have hadd : (⟨b, off, none⟩ : Addr).add k = ⟨b, off + k, none⟩ := add_plain b off k
        clear hc hx
        by_cases h13 : x = 13
        · subst h13
          go_wp2
          go_ret
          refine ⟨ret_int ?_, rfl⟩
          rw [HB.out, HD.out, bareAt, if_pos (.inl rfl)]
        · have h13' : (x == 13) = false := by rw [beq_eq_false_iff_ne]; exact h13
          by_cases h10 : x = 10
          · subst h10
            go_wp2
            go_ret
            refine ⟨ret_int ?_, rfl⟩
            rw [HB.out, HD.out, bareAt, if_pos (.inr rfl)]
          · have h10' : (x == 10) = false := by rw [beq_eq_false_iff_ne]; exact h10
            have HN : Hid (¬ (x = 13 ∨ x = 10)) := by intro h; rcases h with h | h <;> contradiction
            go_wp2
            go_roundw
            case rel => exact ⟨k + 1, by rw [show ((k + 1 : Nat) : Int) = (k : Int) + 1 from by omega], by omega, by rw [HB.out, HD.out, bareAt, if_neg HN.out], trivial⟩
            case measure => simp [intOf]; omega
    · have hd : decide ((k : Int) < (n : Int)) = false := by simp; omega
      go_wp2
      go_ret
      refine ⟨ret_int ?_, rfl⟩
      rw [HB.out, List.drop_eq_nil_of_le (by omega)]; rfl

theorem flat_at (b off cap : Nat) : ∀ (ls : List (Nat × Nat × Bool)) (k : Nat) (hk : k < ls.length) (j : Nat), j < 3 → (ls.flatMap (cellL b off cap))[k * 3 + j]? = (cellL b off cap ls[k])[j]?
  | [], k, hk, j, hj => by simp at hk
  | x :: ls, 0, hk, j, hj => by
    rw [List.flatMap_cons, List.getElem?_append_left (by simp [cellL]; omega)]; simp
  | x :: ls, k + 1, hk, j, hj => by
    have ih := flat_at b off cap ls k (by simpa using hk) j hj
    rw [List.flatMap_cons, List.getElem?_append_right (by simp [cellL]; omega)]
    simp only [List.getElem_cons_succ]
    rw [← ih]
    congr 1
    simp [cellL]
    omega

/-- What a row of lines holds at a place. -/
theorem lineAt {w : World} {B : Nat} {v : Value} {b off cap : Nat} {ls : List (Nat × Nat × Bool)} (h : OwnL w B v b off cap ls) (hne : ls ≠ []) : ∃ g cp, v = .slice (some ⟨g, 0, none⟩) ls.length cp ∧ B ≤ g ∧
    ∀ (k : Nat) (hk : k < ls.length), w.cell? ⟨g, k * 3, none⟩ = some (.int .i64 ((ls[k]).1 : Nat)) ∧ w.cell? ⟨g, k * 3 + 1, none⟩ = some (.slice (some ⟨b, off + (ls[k]).1, none⟩) (ls[k]).2.1 (cap - (ls[k]).1)) ∧ w.cell? ⟨g, k * 3 + 2, none⟩ = some (.bool (ls[k]).2.2) := by
  rcases h.2 with ⟨rfl, hn⟩ | ⟨g, cp, cur, rfl, hb, hg, hn, hm, hs, ht⟩
  · exact absurd (List.eq_nil_of_length_eq_zero hn) hne
  · refine ⟨g, cp, rfl, hb, fun k hk => ?_⟩
    have key : ∀ j, j < 3 → ∀ u, (cellL b off cap ls[k])[j]? = some u → w.cell? ⟨g, k * 3 + j, none⟩ = some u := by
      intro j hj u hu
      have hc := h.cells (g := g) rfl (k * 3 + j) u (by rw [flat_at b off cap ls k hk j hj]; exact hu)
      rw [add_plain] at hc
      simpa using hc
    exact ⟨key 0 (by omega) _ rfl, key 1 (by omega) _ rfl, key 2 (by omega) _ rfl⟩

theorem ownL_shape {w : World} {B : Nat} {v : Value} {b off cap : Nat} {ls : List (Nat × Nat × Bool)} (h : OwnL w B v b off cap ls) : ∃ a c, v = .slice a ls.length c := by
  rcases h.2 with ⟨rfl, hn⟩ | ⟨g, cp, cur, rfl, _⟩
  · exact ⟨none, 0, by rw [hn]⟩
  · exact ⟨_, _, rfl⟩
/-- Each line lies in the text. -/
theorem linesZ_in : ∀ (m p : Nat) (l : List Int), l.length ≤ m → ∀ x ∈ linesZ p l, p ≤ x.1 ∧ x.1 < p + l.length ∧ x.1 + x.2.1 ≤ p + l.length
  | 0, p, l, h, x, hx => by
    obtain rfl : l = [] := List.eq_nil_of_length_eq_zero (by omega)
    simp [linesZ_nil] at hx
  | m + 1, p, l, h, x, hx => by
    by_cases hl : l = []
    · subst hl; simp [linesZ_nil] at hx
    · have hp : 0 < l.length := List.length_pos_iff.2 hl
      by_cases hi : 0 ≤ pairI l
      · rw [linesZ_pair p l hi] at hx
        have hr := pairI_room l hi
        rcases List.mem_cons.1 hx with rfl | hx
        · simp only; omega
        · have := linesZ_in m (p + (pairI l).toNat + 2) (l.drop ((pairI l).toNat + 2)) (by simp; omega) x hx
          simp only [List.length_drop] at this
          omega
      · rw [linesZ_last p l hl hi] at hx
        obtain rfl : x = _ := by simpa using hx
        simp only; omega

set_option maxHeartbeats 4000000 in
theorem right_ref (a : Option Addr) (b off len cap : Nat) (zs : List Int) (w : World) (hl : zs.length = len) (hb : len ≤ 1000000) (hcap : len ≤ cap) (hmax : cap ≤ maxLen) (hr : Row w a zs) (ha : zs ≠ [] → a = some ⟨b, off, none⟩) :
    Calls Try.prog 12 #[.slice a len cap] w fun e w' => e = .returned (.agg #[.int .i64 (rightZ zs).1, .int .i64 (rightZ zs).2]) ∧ Below w.heap.size w w' := by
  have HR : Hid (Row w a zs) := hr
  have HL : Hid (zs.length = len) := hl
  have HA : Hid (zs ≠ [] → a = some ⟨b, off, none⟩) := ha
  clear hr hl ha
  go_enter Try.func12, Try.ntmps12
  go_wp2_with fail
  refine (lines_ref a b off len cap zs _ HL.out hb hcap hmax (row_below HR.out (keep w _)) HA.out).mono ?_
  rintro e w1 ⟨v, rfl, hO, hB⟩
  have HB1 : Hid (Below w.heap.size w w1) := (keep w _).trans (hB.mono (by simp))
  have k1 : Blk w1 w.heap.size #[.int .i64 0, .int .i64 0] 28 := (Blk.new w _ 28).below hB (by simp)
  have K1 : Hid (Blk w1 w.heap.size #[.int .i64 0, .int .i64 0] 28) := k1
  have g0 := k1.cell 0
  have g1 := k1.cell 1
  have f0 := k1.frozen 0
  have f1 := k1.frozen 1
  simp only [List.getElem?_toArray, List.getElem?_cons_zero, List.getElem?_cons_succ] at g0 g1
  obtain ⟨ls, hls⟩ : ∃ ls, linesZ 0 zs = ls := ⟨_, rfl⟩
  rw [hls] at hO
  have HLS : Hid (linesZ 0 zs = ls) := hls
  obtain ⟨av, cp, rfl⟩ := ownL_shape hO
  have HO : Hid (OwnL w1 (w.alloc (.cells #[.int .i64 0, .int .i64 0] 28)).heap.size (.slice av ls.length cp) b off cap ls) := hO
  have hN : ls.length ≤ len := by have := linesZ_len zs.length 0 zs (Nat.le_refl _); rw [hls, HL.out] at this; exact this
  obtain ⟨N, hNN⟩ : ∃ N, ls.length = N := ⟨_, rfl⟩
  rw [hNN] at hN HO ⊢
  have HNN : Hid (ls.length = N) := hNN
  clear hls hO hNN k1 hB
  go_wp2_with fail
  go_loopw [4, 5] (fun v _ wr => ∃ k : Nat, v = .int .i64 k ∧ k ≤ N ∧ (∀ x ∈ ls.take k, faultL zs x = none) ∧ w1 = wr) (fun v _ _ => N - (intOf v).toNat)
  case atStart => exact ⟨0, rfl, by omega, by simp, rfl⟩
  case round =>
    obtain ⟨k, rfl, hk, hpre, rfl⟩ := hrel
    have HP : Hid (∀ x ∈ ls.take k, faultL zs x = none) := hpre
    clear hpre
    by_cases hlt : k < N
    · have hd : decide ((k : Int) < (N : Int)) = true := by simp; omega
      have hkl : k < ls.length := by rw [HNN.out]; exact hlt
      obtain ⟨g, cp', hv, hgb, hcl⟩ := lineAt HO.out (by intro h; rw [h] at hkl; simp at hkl)
      obtain ⟨rfl, hNl, rfl⟩ : av = some ⟨g, 0, none⟩ ∧ N = ls.length ∧ cp = cp' := by simpa using hv
      clear hNl hv
      have hin := linesZ_in zs.length 0 zs (Nat.le_refl _) ls[k] (by rw [HLS.out]; exact List.getElem_mem hkl)
      obtain ⟨q1, q2, q3⟩ := hcl k hkl
      obtain ⟨⟨p, n, ended⟩, hx⟩ : ∃ x, ls[k] = x := ⟨_, rfl⟩
      have hpf : ls.take k ++ [(p, n, ended)] <+: linesZ 0 zs := by
        rw [HLS.out, ← hx, List.take_append_getElem]; exact List.take_prefix _ _
      have HPF : Hid (ls.take k ++ [(p, n, ended)] <+: linesZ 0 zs) := hpf
      rw [hx] at q1 q2 q3 hin
      simp only [Nat.zero_add] at q1 q2 q3 hin
      have hne : zs ≠ [] := by intro h; rw [h] at hin; simp at hin
      obtain rfl := HA.out hne
      have hrow : Row w1 (some ⟨b, off + p, none⟩) ((zs.drop p).take n) := by
        have hl := HL.out
        have h := row_take n (row_drop (n := p) (cap := cap) (row_below HR.out HB1.out) (by omega))
        rw [if_neg (by omega)] at h
        simp only [Option.map_some, add_plain] at h
        exact h
      have hpl : ((zs.drop p).take n).length = n := by simp; omega
      obtain ⟨q, hq⟩ : ∃ q, bareAt 0 ((zs.drop p).take n) = q := ⟨_, rfl⟩
      have hbr : -1 ≤ q ∧ q < 2000000 := by have := bareAt_range ((zs.drop p).take n) 0; rw [hq, hpl] at this; have := HL.out; omega
      have hidx := bare_ref (some ⟨b, off + p, none⟩) n (cap - p) _ w1 hpl hrow (by have := HL.out; omega)
      rw [hq] at hidx
      have HQ : Hid (bareAt 0 ((zs.drop p).take n) = q) := hq
      have hpn : p ≤ 1000000 ∧ n ≤ 1000000 := by have := HL.out; omega
      have hadd : ∀ j, (⟨g, 0, none⟩ : Addr).add j = ⟨g, j, none⟩ := fun j => by rw [add_plain]; simp
      have hadd1 : (⟨g, k * 3, none⟩ : Addr).add 1 = ⟨g, k * 3 + 1, none⟩ := add_plain _ _ _
      have hadd2 : (⟨g, k * 3, none⟩ : Addr).add 2 = ⟨g, k * 3 + 2, none⟩ := add_plain _ _ _
      clear hcl hin hx hpf hrow hpl hq hgb
      by_cases hq0 : 0 ≤ q
      · have hd0 : decide (q ≥ 0) = true := by simpa using hq0
        have HZ : Hid (rightZ zs = ((p : Int) + q, 41)) := right_one HPF.out HP.out (by simp only [faultL]; rw [HQ.out, if_pos hq0])
        go_wp2_with fail
        refine hidx.mono ?_
        clear hidx
        rintro e w' ⟨rfl, rfl⟩
        go_wp2
        have hW : Blk ((w1.setCell ⟨w.heap.size, 0, none⟩ (.int .i64 ((p : Int) + q))).setCell ⟨w.heap.size, 1, none⟩ (.int .i64 (41))) w.heap.size #[.int .i64 ((p : Int) + q), .int .i64 (41)] 28 := heap_setCell_same _ _ 1 #[.int .i64 ((p : Int) + q), .int .i64 0] 28 _ (heap_setCell_same w1 _ 0 #[.int .i64 0, .int .i64 0] 28 _ K1.out)
        have c0 := hW.cell 0
        have c1 := hW.cell 1
        simp only [List.getElem?_toArray, List.getElem?_cons_zero, List.getElem?_cons_succ] at c0 c1
        refine bodyPost_ret (v := .agg #[.int .i64 ((p : Int) + q), .int .i64 (41)]) (by simp [results, Try.results12, go_sem, c0, c1]) rfl ⟨by rw [HZ.out], ?_⟩
        exact (HB1.out.setCell (p := ⟨w.heap.size, 0, none⟩) (by simp) _).setCell (p := ⟨w.heap.size, 1, none⟩) (by simp) _
      · have hd0 : decide (q ≥ 0) = false := by simpa using hq0
        by_cases hn : 998 < n
        · have hd1 : decide ((n : Int) > 998) = true := by simp; omega
          have HZ : Hid (rightZ zs = ((p : Int), 40)) := right_one HPF.out HP.out (by simp only [faultL]; rw [HQ.out, if_neg hq0, if_pos hn])
          go_wp2_with fail
          refine hidx.mono ?_
          clear hidx
          rintro e w' ⟨rfl, rfl⟩
          go_wp2
          have hW : Blk ((w1.setCell ⟨w.heap.size, 0, none⟩ (.int .i64 ((p : Int)))).setCell ⟨w.heap.size, 1, none⟩ (.int .i64 (40))) w.heap.size #[.int .i64 ((p : Int)), .int .i64 (40)] 28 := heap_setCell_same _ _ 1 #[.int .i64 ((p : Int)), .int .i64 0] 28 _ (heap_setCell_same w1 _ 0 #[.int .i64 0, .int .i64 0] 28 _ K1.out)
          have c0 := hW.cell 0
          have c1 := hW.cell 1
          simp only [List.getElem?_toArray, List.getElem?_cons_zero, List.getElem?_cons_succ] at c0 c1
          refine bodyPost_ret (v := .agg #[.int .i64 ((p : Int)), .int .i64 (40)]) (by simp [results, Try.results12, go_sem, c0, c1]) rfl ⟨by rw [HZ.out], ?_⟩
          exact (HB1.out.setCell (p := ⟨w.heap.size, 0, none⟩) (by simp) _).setCell (p := ⟨w.heap.size, 1, none⟩) (by simp) _
        · have hd1 : decide ((n : Int) > 998) = false := by simp; omega
          cases ended with
          | false =>
            have HZ : Hid (rightZ zs = ((len : Int), 42)) := right_one HPF.out HP.out (by simp only [faultL]; rw [HQ.out, if_neg hq0, if_neg hn, if_pos trivial, HL.out])
            go_wp2_with fail
            refine hidx.mono ?_
            clear hidx
            rintro e w' ⟨rfl, rfl⟩
            go_wp2
            have hW : Blk ((w1.setCell ⟨w.heap.size, 0, none⟩ (.int .i64 ((len : Int)))).setCell ⟨w.heap.size, 1, none⟩ (.int .i64 (42))) w.heap.size #[.int .i64 ((len : Int)), .int .i64 (42)] 28 := heap_setCell_same _ _ 1 #[.int .i64 ((len : Int)), .int .i64 0] 28 _ (heap_setCell_same w1 _ 0 #[.int .i64 0, .int .i64 0] 28 _ K1.out)
            have c0 := hW.cell 0
            have c1 := hW.cell 1
            simp only [List.getElem?_toArray, List.getElem?_cons_zero, List.getElem?_cons_succ] at c0 c1
            refine bodyPost_ret (v := .agg #[.int .i64 ((len : Int)), .int .i64 (42)]) (by simp [results, Try.results12, go_sem, c0, c1]) rfl ⟨by rw [HZ.out], ?_⟩
            exact (HB1.out.setCell (p := ⟨w.heap.size, 0, none⟩) (by simp) _).setCell (p := ⟨w.heap.size, 1, none⟩) (by simp) _
          | true =>
            have HZ : Hid (∀ x ∈ ls.take (k + 1), faultL zs x = none) := by
              intro x hx
              have hpf := HPF.out
              rw [HLS.out] at hpf
              have htk : ls.take (k + 1) = ls.take k ++ [(p, n, true)] := by
                have h1 := List.prefix_iff_eq_take.1 hpf
                rw [h1]
                congr 1
                simp
                omega
              rw [htk] at hx
              rcases List.mem_append.1 hx with h | h
              · exact HP.out x h
              · obtain rfl : x = _ := by simpa using h
                simp only [faultL]
                rw [HQ.out, if_neg hq0, if_neg hn]; simp
            go_wp2_with fail
            refine hidx.mono ?_
            clear hidx
            rintro e w' ⟨rfl, rfl⟩
            go_wp2
            go_roundw
            case rel => exact ⟨k + 1, by rw [show ((k + 1 : Nat) : Int) = (k : Int) + 1 from by omega], by omega, HZ.out, trivial⟩
            case measure => simp [intOf]; omega
    · have hd : decide ((k : Int) < (N : Int)) = false := by simp; omega
      have HZ : Hid (rightZ zs = (0, 0)) := right_all (by rw [HLS.out]; intro x hx; exact HP.out x (by rw [List.take_of_length_le (by rw [HNN.out]; omega)]; exact hx))
      go_wp2
      have hW : Blk ((w1.setCell ⟨w.heap.size, 0, none⟩ (.int .i64 (0))).setCell ⟨w.heap.size, 1, none⟩ (.int .i64 (0))) w.heap.size #[.int .i64 (0), .int .i64 (0)] 28 := heap_setCell_same _ _ 1 #[.int .i64 (0), .int .i64 0] 28 _ (heap_setCell_same w1 _ 0 #[.int .i64 0, .int .i64 0] 28 _ K1.out)
      have c0 := hW.cell 0
      have c1 := hW.cell 1
      simp only [List.getElem?_toArray, List.getElem?_cons_zero, List.getElem?_cons_succ] at c0 c1
      refine bodyPost_ret (v := .agg #[.int .i64 (0), .int .i64 (0)]) (by simp [results, Try.results12, go_sem, c0, c1]) rfl ⟨by rw [HZ.out], ?_⟩
      exact (HB1.out.setCell (p := ⟨w.heap.size, 0, none⟩) (by simp) _).setCell (p := ⟨w.heap.size, 1, none⟩) (by simp) _
end Go.Proofs.Ytlpbgfepneoajaa
