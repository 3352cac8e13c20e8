/-
  The contract of the reference's Decode.
-/
import Derived.Test.YtlhhbmolkiojfaaDoorDa
import Derived.Test.YtlhhbmolkiojfaaDoorURtext
namespace Go.Proofs.YtlhhbmolkiojfaaDoor
open Go.RowKit
set_option linter.unusedVariables false

theorem flatS2 (ps : List Int) : flatS 2 ps = Ut.flat ps := rfl
theorem rpts_any (q s : Int) (k0 : Nat) (a : Option Addr) (len cap : Nat) (l ps r : List Int) (w : World) (hq0 : 1 ≤ q) (hq8 : q ≤ 8) (ho : ordZ q l = (s, k0)) (hd : l.drop k0 = flatS s ps ++ r) (hA : AllIn s ps) (hz : nxS s r = none)
    (hlen : l.length = len) (hl : Byt l) (hcap : len ≤ cap) (hm : cap ≤ maxLen) (hsmall : len ≤ 4000) (hrow : Row w a l) :
    PtsC w (.string (nmS q)) a len cap s k0 ps r 23 := by
  have hk0 : k0 ≤ len := by have := ord_le q l; rw [ho] at this; rw [← hlen]; exact this
  have six : ∀ (x y : Int) (t : List Int), l = x :: y :: t → ∃ b off, a = some ⟨b, off, none⟩ ∧ w.cell? ⟨b, off, none⟩ = some (.int .u8 x) ∧ w.cell? ⟨b, off + 1, none⟩ = some (.int .u8 y) := fun x y t h => row_two (h ▸ hrow)
  have hcases : q = 1 ∨ q = 2 ∨ q = 3 ∨ q = 4 ∨ q = 5 ∨ q = 6 ∨ q = 7 ∨ q = 8 := by omega
  have same : q ≠ 6 → s = q ∧ k0 = 0 := by
    intro h6
    unfold ordZ at ho
    rw [if_neg h6] at ho
    exact ⟨(Prod.mk.inj ho).1.symm, (Prod.mk.inj ho).2.symm⟩
  have one : (q = 1 ∨ q = 3 ∨ q = 4 ∨ q = 5) → PtsC w (.string (nmS q)) a len cap s k0 ps r 23 := by
    intro h
    obtain ⟨rfl, rfl⟩ := same (by omega)
    rw [List.drop_zero] at hd
    refine ⟨fun hr => ?_, fun hr => ?_⟩
    · subst hr
      rw [List.append_nil] at hd
      rcases h with h | h | h | h
      · exact pt1_yes_1 s a len cap l ps hd w h hA hlen hl hcap hm hsmall hrow
      · exact pt1_yes_3 s a len cap l ps hd w h hA hlen hl hcap hm hsmall hrow
      · exact pt1_yes_4 s a len cap l ps hd w h hA hlen hl hcap hm hsmall hrow
      · exact pt1_yes_5 s a len cap l ps hd w h hA hlen hl hcap hm hsmall hrow
    · rw [Nat.zero_add]
      rcases h with h | h | h | h
      · exact pt1_no_1 s a len cap l ps r hd hr hz w h hA hlen hl hcap hm hsmall hrow
      · exact pt1_no_3 s a len cap l ps r hd hr hz w h hA hlen hl hcap hm hsmall hrow
      · exact pt1_no_4 s a len cap l ps r hd hr hz w h hA hlen hl hcap hm hsmall hrow
      · exact pt1_no_5 s a len cap l ps r hd hr hz w h hA hlen hl hcap hm hsmall hrow
  rcases hcases with rfl | rfl | rfl | rfl | rfl | rfl | rfl | rfl
  · exact one (by simp)
  · obtain ⟨rfl, rfl⟩ := same (by decide)
    rw [List.drop_zero, flatS2] at hd
    have hzd : Ut.decZ r = none := by
      have : (Ut.decZ r).map (fun p => (p, (Ut.encZ p).length)) = none := hz
      simpa using this
    refine ⟨fun hr => ?_, fun hr => ?_⟩
    · subst hr
      rw [List.append_nil] at hd
      exact pt2_yes a len cap ps w fun W hb => Ut.rpoints_yes a len cap ps W (by rw [← hd]; exact hlen) hA.pts hcap hm (by omega) (by rw [← hd]; exact row_below hrow hb)
    · rw [Nat.zero_add, flatS2]
      exact pt2_no a len cap _ w fun W hb => Ut.rpoints_no a len cap ps r W (by rw [← hd]; exact hlen) hA.pts hzd hr (fun x hx => hl x (by rw [hd]; simp [hx])) hcap hm (by omega) (by rw [← hd]; exact row_below hrow hb)
  · exact one (by simp)
  · exact one (by simp)
  · exact one (by simp)
  · have K : ∀ lit : Bool, (lit = true ∧ s = 8 ∨ lit = false ∧ s = 7) → k0 % 2 = 0 → ∀ W, Below w.heap.size w W → WideC W a len cap k0 lit s ps r := fun lit hs hk W hb => rwide_any lit s hs a len cap k0 l ps r W hd hz hk0 hk hA.pts hlen hl hcap hm hsmall (row_below hrow hb)
    have hoL : ordL l = (s, k0) := by unfold ordZ at ho; rwa [if_pos rfl] at ho
    match l, hlen, hoL, six with
    | [], hlen, hoL, _ =>
      obtain ⟨rfl, rfl⟩ := Prod.mk.inj hoL
      exact ⟨fun hr => pt6s_yes a len cap ps w (by simp at hlen; omega) fun W hb => (K false (by simp) rfl W hb).1 hr, fun hr => pt6s_no a len cap _ w (by simp at hlen; omega) fun W hb => (K false (by simp) rfl W hb).2 hr⟩
    | [_], hlen, hoL, _ =>
      obtain ⟨rfl, rfl⟩ := Prod.mk.inj hoL
      exact ⟨fun hr => pt6s_yes a len cap ps w (by simp at hlen; omega) fun W hb => (K false (by simp) rfl W hb).1 hr, fun hr => pt6s_no a len cap _ w (by simp at hlen; omega) fun W hb => (K false (by simp) rfl W hb).2 hr⟩
    | x :: y :: t, hlen, hoL, six =>
      have h2 : 2 ≤ len := by simp at hlen; omega
      have hc := six x y t rfl
      have hun : ordL (x :: y :: t) = if x * 256 + y = 65279 then (7, 2) else if x * 256 + y = 65534 then (8, 2) else (7, 0) := rfl
      have hx := hl x (by simp)
      have hy := hl y (by simp)
      by_cases h1 : x = 254 ∧ y = 255
      · have : (7, 2) = (s, k0) := by rw [← hoL, hun, if_pos (by omega)]
        obtain ⟨rfl, rfl⟩ := Prod.mk.inj this
        exact ⟨fun hr => pt6b_yes a len cap ps w x y h2 hcap hc h1.1 h1.2 fun W hb => (K false (by simp) rfl W hb).1 hr, fun hr => pt6b_no a len cap _ w x y h2 hcap hc h1.1 h1.2 fun W hb => (K false (by simp) rfl W hb).2 hr⟩
      · by_cases h3 : x = 255 ∧ y = 254
        · have : (8, 2) = (s, k0) := by rw [← hoL, hun, if_neg (by omega), if_pos (by omega)]
          obtain ⟨rfl, rfl⟩ := Prod.mk.inj this
          exact ⟨fun hr => pt6l_yes a len cap ps w x y h2 hcap hc h3.1 h3.2 fun W hb => (K true (by simp) rfl W hb).1 hr, fun hr => pt6l_no a len cap _ w x y h2 hcap hc h3.1 h3.2 fun W hb => (K true (by simp) rfl W hb).2 hr⟩
        · have : (7, 0) = (s, k0) := by rw [← hoL, hun, if_neg (by omega), if_neg (by omega)]
          obtain ⟨rfl, rfl⟩ := Prod.mk.inj this
          by_cases hx4 : x = 254
          · exact ⟨fun hr => pt6m_yes a len cap ps w x y h2 hcap hc hx4 (fun e => h1 ⟨hx4, e⟩) fun W hb => (K false (by simp) rfl W hb).1 hr, fun hr => pt6m_no a len cap _ w x y h2 hcap hc hx4 (fun e => h1 ⟨hx4, e⟩) fun W hb => (K false (by simp) rfl W hb).2 hr⟩
          · by_cases hx5 : x = 255
            · exact ⟨fun hr => pt6k_yes a len cap ps w x y h2 hcap hc hx5 (fun e => h3 ⟨hx5, e⟩) fun W hb => (K false (by simp) rfl W hb).1 hr, fun hr => pt6k_no a len cap _ w x y h2 hcap hc hx5 (fun e => h3 ⟨hx5, e⟩) fun W hb => (K false (by simp) rfl W hb).2 hr⟩
            · exact ⟨fun hr => pt6n_yes a len cap ps w x y h2 hcap hc hx4 hx5 fun W hb => (K false (by simp) rfl W hb).1 hr, fun hr => pt6n_no a len cap _ w x y h2 hcap hc hx4 hx5 fun W hb => (K false (by simp) rfl W hb).2 hr⟩
  · obtain ⟨rfl, rfl⟩ := same (by decide)
    have K : ∀ W, Below w.heap.size w W → WideC W a len cap 0 false 7 ps r := fun W hb => rwide_any false 7 (by simp) a len cap 0 l ps r W hd hz hk0 rfl hA.pts hlen hl hcap hm hsmall (row_below hrow hb)
    exact ⟨fun hr => pt7_yes a len cap ps w fun W hb => (K W hb).1 hr, fun hr => pt7_no a len cap _ w fun W hb => (K W hb).2 hr⟩
  · obtain ⟨rfl, rfl⟩ := same (by decide)
    have K : ∀ W, Below w.heap.size w W → WideC W a len cap 0 true 8 ps r := fun W hb => rwide_any true 8 (by simp) a len cap 0 l ps r W hd hz hk0 rfl hA.pts hlen hl hcap hm hsmall (row_below hrow hb)
    exact ⟨fun hr => pt8_yes a len cap ps w fun W hb => (K W hb).1 hr, fun hr => pt8_no a len cap _ w fun W hb => (K W hb).2 hr⟩
theorem nm_some {q : Int} (h1 : 1 ≤ q) (h8 : q ≤ 8) : ((nmS q).toList == []) = false := by
  have : q = 1 ∨ q = 2 ∨ q = 3 ∨ q = 4 ∨ q = 5 ∨ q = 6 ∨ q = 7 ∨ q = 8 := by omega
  have key : ∀ (c : Int) (L : List Int), ((strOfNums (c :: L)).toList == []) = false := fun c L => by rw [toList_str]; rfl
  rcases this with rfl | rfl | rfl | rfl | rfl | rfl | rfl | rfl
  · exact key 117 [115, 45, 97, 115, 99, 105, 105]
  · exact key 117 [116, 102, 45, 56]
  · exact key 105 [115, 111, 45, 56, 56, 53, 57, 45, 49]
  · exact key 105 [115, 111, 45, 56, 56, 53, 57, 45, 49, 53]
  · exact key 119 [105, 110, 100, 111, 119, 115, 45, 49, 50, 53, 50]
  · exact key 117 [116, 102, 45, 49, 54]
  · exact key 117 [116, 102, 45, 49, 54, 98, 101]
  · exact key 117 [116, 102, 45, 49, 54, 108, 101]
set_option maxRecDepth 100000 in
set_option maxHeartbeats 4000000 in
theorem rdecode_unknown (set : ByteArray) (a : Option Addr) (len cap : Nat) (w : World) (hset : set.size ≤ 1000000) (hs0 : setB (lowS set) = 0) :
    Calls Tryd.prog 11 #[.string set, .slice a len cap] w fun e w' => e = .returned (.tuple #[.slice none 0 0, .agg #[.int .i64 0, .int .i64 143]]) ∧ Below w.heap.size w w' := by
  have KF := fun v : World => rset_any set v hset
  rw [hs0, nmS0] at KF
  go_enter Tryd.func11, Tryd.ntmps11
  go_wp2_with fail
  refine (KF _).mono ?_
  rintro e w1 ⟨rfl, hb1⟩
  have HB1 : Below (w.heap.size + 1) (w.alloc (.cells #[.int .i64 0, .int .i64 0] 26)) w1 := by have := hb1; simpa using this
  have c0 : w1.cell? ⟨w.heap.size, 0, none⟩ = some (.int .i64 0) := by rw [HB1.cell (by simp)]; simp
  have c1 : w1.cell? ⟨w.heap.size, 1, none⟩ = some (.int .i64 0) := by rw [HB1.cell (by simp)]; simp
  have f0 : w1.frozen? ⟨w.heap.size, 0, none⟩ = false := by rw [HB1.frozen (by simp)]; simp
  have f1 : w1.frozen? ⟨w.heap.size, 1, none⟩ = false := by rw [HB1.frozen (by simp)]; simp
  have HO : Hid (Below w.heap.size w w1) := ((Below.refl _ w).alloc (Nat.le_refl _) _).trans (HB1.mono (Nat.le_succ _))
  clear hb1 HB1 KF
  go_wp2
  exact bodyPost_ret (v := .tuple #[.slice none 0 0, .agg #[.int .i64 0, .int .i64 143]]) (by simp [results, Tryd.results11, go_sem, c0, c1]) rfl ⟨rfl, (HO.out.setCell (by simp) _).setCell (by simp) _⟩
set_option maxRecDepth 100000 in
set_option maxHeartbeats 4000000 in
theorem rdecode_yes (set : ByteArray) (a : Option Addr) (len cap : Nat) (ps : List Int) (w : World) (hset : set.size ≤ 1000000) (hs0 : setB (lowS set) ≠ 0) (hps : Ut.AllPt ps) (hpl : ps.length ≤ 4000) (hlen : len ≤ 4000)
    (KP : ∀ W, Below w.heap.size w W → Calls Tryd.prog 23 #[.string (nmS (setB (lowS set))), .slice a len cap] W fun e w' => ∃ v, e = .returned (.tuple #[v, .agg #[.int .i64 0, .int .i64 0]]) ∧ Ut.Own32 w' W.heap.size v ps ∧ Below W.heap.size W w') :
    Calls Tryd.prog 11 #[.string set, .slice a len cap] w fun e w' => ∃ v, e = .returned (.tuple #[v, .agg #[.int .i64 0, .int .i64 0]]) ∧ Own w' w.heap.size v (Ut.flat ps) ∧ Below w.heap.size w w' := by
  have KF := fun v : World => rset_any set v hset
  have hr := setB_range (lowS set)
  obtain ⟨q, hq⟩ : ∃ q, setB (lowS set) = q := ⟨_, rfl⟩
  rw [hq] at KF KP hr hs0
  have hnz := nm_some (q := q) (by omega) (by omega)
  obtain ⟨x, hx⟩ : ∃ x, nmS q = x := ⟨_, rfl⟩
  rw [hx] at KF KP hnz
  have HPS : Hid (Ut.AllPt ps) := hps
  clear hx hq hs0 hr hps
  go_enter Tryd.func11, Tryd.ntmps11
  go_wp2_with fail
  refine (KF _).mono ?_
  rintro e w1 ⟨rfl, hb1⟩
  have hs1 := hb1.size
  simp at hs1
  have HB1 : Below (w.heap.size + 1) (w.alloc (.cells #[.int .i64 0, .int .i64 0] 26)) w1 := by have := hb1; simpa using this
  have HO1 : Below w.heap.size w w1 := ((Below.refl _ w).alloc (Nat.le_refl _) _).trans (HB1.mono (Nat.le_succ _))
  go_wp2_with fail
  refine (KP _ HO1).mono ?_
  rintro e w2 ⟨v2, rfl, hown2, hb2⟩
  unfold Ut.Own32 at hown2
  obtain ⟨a2, cap2, rfl, hc2, hm2, hrow2, hn2⟩ := own_row' hown2
  have hs2 := hb2.size
  have HB2 : Below (w.heap.size + 1) (w.alloc (.cells #[.int .i64 0, .int .i64 0] 26)) (w2.alloc (.cells #[.int .i64 0, .int .i64 0] 26)) := (HB1.trans (hb2.mono hs1)).alloc (by omega) _
  have KT := Ut.rtext_yes a2 ps.length cap2 ps (w2.alloc (.cells #[.int .i64 0, .int .i64 0] 26)) rfl HPS.out hc2 hm2 hpl (Ut.rowK_below hrow2 (keep w2 _))
  clear hb1 hb2 HB1 HO1 KF KP hown2 hrow2
  go_wp2_with fail
  refine KT.mono ?_
  rintro e w3 ⟨v3, rfl, hown3, hb3⟩
  have hs3 := hb3.size
  simp at hs3
  have HB3 : Below (w.heap.size + 1) (w.alloc (.cells #[.int .i64 0, .int .i64 0] 26)) w3 := HB2.trans (hb3.mono (by simp; omega))
  have c0 : w3.cell? ⟨w.heap.size, 0, none⟩ = some (.int .i64 0) := by rw [HB3.cell (by simp)]; simp
  have c1 : w3.cell? ⟨w.heap.size, 1, none⟩ = some (.int .i64 0) := by rw [HB3.cell (by simp)]; simp
  have f0 : w3.frozen? ⟨w.heap.size, 0, none⟩ = false := by rw [HB3.frozen (by simp)]; simp
  have f1 : w3.frozen? ⟨w.heap.size, 1, none⟩ = false := by rw [HB3.frozen (by simp)]; simp
  have HO : Hid (Below w.heap.size w w3) := ((Below.refl _ w).alloc (Nat.le_refl _) _).trans (HB3.mono (Nat.le_succ _))
  have HV : Hid (Own w3 (w.heap.size + 1) v3 (Ut.flat ps)) := own_base (by simp; omega) hown3
  clear hb3 HB2 HB3 KT hown3
  go_wp2
  exact bodyPost_ret (v := .tuple #[v3, .agg #[.int .i64 0, .int .i64 0]]) (by simp [results, Tryd.results11, go_sem, c0, c1]) rfl ⟨v3, rfl, own_base (Nat.le_succ _) (ownsRow_setCell_below (ownsRow_setCell_below HV.out (by simp) _) (by simp) _), (HO.out.setCell (by simp) _).setCell (by simp) _⟩
set_option maxRecDepth 100000 in
set_option maxHeartbeats 4000000 in
theorem rdecode_no (set : ByteArray) (a : Option Addr) (len cap : Nat) (z : Int) (w : World) (hset : set.size ≤ 1000000) (hs0 : setB (lowS set) ≠ 0) (hlen : len ≤ 4000)
    (KP : ∀ W, Below w.heap.size w W → Calls Tryd.prog 23 #[.string (nmS (setB (lowS set))), .slice a len cap] W fun e w' => e = .returned (.tuple #[.slice none 0 0, .agg #[.int .i64 z, .int .i64 20]]) ∧ Below W.heap.size W w') :
    Calls Tryd.prog 11 #[.string set, .slice a len cap] w fun e w' => e = .returned (.tuple #[.slice none 0 0, .agg #[.int .i64 z, .int .i64 20]]) ∧ Below w.heap.size w w' := by
  have KF := fun v : World => rset_any set v hset
  have hr := setB_range (lowS set)
  obtain ⟨q, hq⟩ : ∃ q, setB (lowS set) = q := ⟨_, rfl⟩
  rw [hq] at KF KP hr hs0
  have hnz := nm_some (q := q) (by omega) (by omega)
  obtain ⟨x, hx⟩ : ∃ x, nmS q = x := ⟨_, rfl⟩
  rw [hx] at KF KP hnz
  clear hx hq hs0 hr
  go_enter Tryd.func11, Tryd.ntmps11
  go_wp2_with fail
  refine (KF _).mono ?_
  rintro e w1 ⟨rfl, hb1⟩
  have hs1 := hb1.size
  simp at hs1
  have HB1 : Below (w.heap.size + 1) (w.alloc (.cells #[.int .i64 0, .int .i64 0] 26)) w1 := by have := hb1; simpa using this
  have HO1 : Below w.heap.size w w1 := ((Below.refl _ w).alloc (Nat.le_refl _) _).trans (HB1.mono (Nat.le_succ _))
  go_wp2_with fail
  refine (KP _ HO1).mono ?_
  rintro e w2 ⟨rfl, hb2⟩
  have hs2 := hb2.size
  have HB2 : Below (w.heap.size + 1) (w.alloc (.cells #[.int .i64 0, .int .i64 0] 26)) w2 := HB1.trans (hb2.mono hs1)
  clear hb1 hb2 HB1 HO1 KF KP
  have c0 : w2.cell? ⟨w.heap.size, 0, none⟩ = some (.int .i64 0) := by rw [HB2.cell (by simp)]; simp
  have c1 : w2.cell? ⟨w.heap.size, 1, none⟩ = some (.int .i64 0) := by rw [HB2.cell (by simp)]; simp
  have f0 : w2.frozen? ⟨w.heap.size, 0, none⟩ = false := by rw [HB2.frozen (by simp)]; simp
  have f1 : w2.frozen? ⟨w.heap.size, 1, none⟩ = false := by rw [HB2.frozen (by simp)]; simp
  have hne : w.heap.size ≠ w2.heap.size := by omega
  have HO : Hid (Below w.heap.size w w2) := ((Below.refl _ w).alloc (Nat.le_refl _) _).trans (HB2.mono (Nat.le_succ _))
  clear HB2
  obtain ⟨W, hW⟩ : ∃ W, w2.alloc (.cells #[.int .i64 z, .int .i64 20] 26) = W := ⟨_, rfl⟩
  have hk := keep w2 (.cells #[.int .i64 z, .int .i64 20] 26)
  rw [hW] at hk
  have d0 : W.cell? ⟨w.heap.size, 0, none⟩ = some (.int .i64 0) := by rw [hk.cell (by simp; omega)]; exact c0
  have d1 : W.cell? ⟨w.heap.size, 1, none⟩ = some (.int .i64 0) := by rw [hk.cell (by simp; omega)]; exact c1
  have e0 : W.cell? ⟨w2.heap.size, 0, none⟩ = some (.int .i64 z) := by rw [← hW]; simp
  have e1 : W.cell? ⟨w2.heap.size, 1, none⟩ = some (.int .i64 20) := by rw [← hW]; simp
  have g0 : W.frozen? ⟨w.heap.size, 0, none⟩ = false := by rw [hk.frozen (by simp; omega)]; exact f0
  have g1 : W.frozen? ⟨w.heap.size, 1, none⟩ = false := by rw [hk.frozen (by simp; omega)]; exact f1
  have HO2 : Hid (Below w.heap.size w W) := HO.out.trans (hk.mono (by omega))
  clear hk c0 c1 f0 f1
  have HWW : Hid (w2.alloc (.cells #[.int .i64 z, .int .i64 20] 26) = W) := hW
  clear hW
  go_wp2_with fail
  rw [HWW.out]
  go_region_with (fail)
  all_goals (
    go_wp2
    refine bodyPost_ret (v := .tuple #[.slice none 0 0, .agg #[.int .i64 z, .int .i64 20]]) (by simp [results, Tryd.results11, go_sem, d0, d1]) rfl ⟨rfl, ?_⟩
    exact below_drew ((HO2.out.setCell (by simp) _).setCell (by simp) _))
end Go.Proofs.YtlhhbmolkiojfaaDoor
