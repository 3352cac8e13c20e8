/-
  The contract of the reference's Encode.
-/
import Derived.Test.YtlhhbmolkiojfaaDoorDc
namespace Go.Proofs.YtlhhbmolkiojfaaDoor
open Go.RowKit
set_option linter.unusedVariables false
set_option linter.unusedSimpArgs false

theorem cells_at {w : World} {g : Nat} (hg : g = w.heap.size) (news : List Value) (t : TypeId) : ∀ j u, news[j]? = some u → (w.alloc (.cells news.toArray t)).cell? ((⟨g, 0, none⟩ : Addr).add j) = some u := by
  subst hg; exact cells_new w news t
theorem not16 {q : Int} (h1 : 1 ≤ q) (h8 : q ≤ 8) (h6 : q ≠ 6) : ((nmS q).toList == [117, 116, 102, 45, 49, 54]) = false := by
  have key : ∀ (L : List Int), (L.map (fun n : Int => UInt8.ofNat n.toNat) == [117, 116, 102, 45, 49, 54]) = false → ((strOfNums L).toList == [117, 116, 102, 45, 49, 54]) = false := fun L h => by rw [toList_str]; exact h
  have : q = 1 ∨ q = 2 ∨ q = 3 ∨ q = 4 ∨ q = 5 ∨ q = 7 ∨ q = 8 := by omega
  rcases this with rfl | rfl | rfl | rfl | rfl | rfl | rfl
  · exact key [117, 115, 45, 97, 115, 99, 105, 105] rfl
  · exact key [117, 116, 102, 45, 56] rfl
  · exact key [105, 115, 111, 45, 56, 56, 53, 57, 45, 49] rfl
  · exact key [105, 115, 111, 45, 56, 56, 53, 57, 45, 49, 53] rfl
  · exact key [119, 105, 110, 100, 111, 119, 115, 45, 49, 50, 53, 50] rfl
  · exact key [117, 116, 102, 45, 49, 54, 98, 101] rfl
  · exact key [117, 116, 102, 45, 49, 54, 108, 101] rfl
theorem is16 : ((nmS 6).toList == [117, 116, 102, 45, 49, 54]) = true := by
  rw [show nmS 6 = strOfNums [117, 116, 102, 45, 49, 54] from rfl, toList_str]; rfl
set_option maxRecDepth 100000 in
set_option maxHeartbeats 4000000 in
theorem rencode_unknown (set : ByteArray) (a : Option Addr) (len cap : Nat) (w : World) (hset : set.size ≤ 1000000) (hs0 : setB (lowS set) = 0) :
    Calls Tryd.prog 15 #[.string set, .slice a len cap] w fun e w' => e = .returned (.tuple #[.slice none 0 0, .agg #[.int .i64 0, .int .i64 143]]) ∧ Below w.heap.size w w' := by
  have KF := fun v : World => rset_any set v hset
  rw [hs0, nmS0] at KF
  go_enter Tryd.func15, Tryd.ntmps15
  go_wp2_with fail
  refine (KF _).mono ?_
  rintro e w1 ⟨rfl, hb1⟩
  have HB1 : Below (w.heap.size + 1) (w.alloc (.cells #[.int .i64 0, .int .i64 0] 26)) w1 := by have := hb1; simpa using this
  have c0 : w1.cell? ⟨w.heap.size, 0, none⟩ = some (.int .i64 0) := by rw [HB1.cell (by simp)]; simp
  have c1 : w1.cell? ⟨w.heap.size, 1, none⟩ = some (.int .i64 0) := by rw [HB1.cell (by simp)]; simp
  have f0 : w1.frozen? ⟨w.heap.size, 0, none⟩ = false := by rw [HB1.frozen (by simp)]; simp
  have f1 : w1.frozen? ⟨w.heap.size, 1, none⟩ = false := by rw [HB1.frozen (by simp)]; simp
  have HO : Hid (Below w.heap.size w w1) := ((Below.refl _ w).alloc (Nat.le_refl _) _).trans (HB1.mono (Nat.le_succ _))
  clear hb1 HB1 KF
  go_wp2
  exact bodyPost_ret (v := .tuple #[.slice none 0 0, .agg #[.int .i64 0, .int .i64 143]]) (by simp [results, Tryd.results15, go_sem, c0, c1]) rfl ⟨rfl, (HO.out.setCell (by simp) _).setCell (by simp) _⟩
set_option maxRecDepth 100000 in
set_option maxHeartbeats 4000000 in
theorem rencode_bad (set : ByteArray) (a : Option Addr) (len cap : Nat) (z : Int) (w : World) (hset : set.size ≤ 1000000) (hs0 : setB (lowS set) ≠ 0) (hlen : len ≤ 4000)
    (KP : ∀ W, Below w.heap.size w W → Calls Tryd.prog 30 #[.slice a len cap] W fun e w' => e = .returned (.tuple #[.slice none 0 0, .agg #[.int .i64 z, .int .i64 20]]) ∧ Below W.heap.size W w') :
    Calls Tryd.prog 15 #[.string set, .slice a len cap] w fun e w' => e = .returned (.tuple #[.slice none 0 0, .agg #[.int .i64 z, .int .i64 20]]) ∧ Below w.heap.size w w' := by
  have KF := fun v : World => rset_any set v hset
  have hr := setB_range (lowS set)
  obtain ⟨q, hq⟩ : ∃ q, setB (lowS set) = q := ⟨_, rfl⟩
  rw [hq] at KF hr hs0
  have hnz := nm_some (q := q) (by omega) (by omega)
  obtain ⟨x, hx⟩ : ∃ x, nmS q = x := ⟨_, rfl⟩
  rw [hx] at KF hnz
  clear hx hq hs0 hr
  go_enter Tryd.func15, Tryd.ntmps15
  go_wp2_with fail
  refine (KF _).mono ?_
  rintro e w1 ⟨rfl, hb1⟩
  have hs1 := hb1.size
  simp at hs1
  have HB1 : Below (w.heap.size + 1) (w.alloc (.cells #[.int .i64 0, .int .i64 0] 26)) w1 := by have := hb1; simpa using this
  have HO1 : Below w.heap.size w w1 := ((Below.refl _ w).alloc (Nat.le_refl _) _).trans (HB1.mono (Nat.le_succ _))
  go_wp2_with fail
  refine (KP _ HO1).mono ?_
  rintro e w2 ⟨rfl, hb2⟩
  have hs2 := hb2.size
  have HB2 : Below (w.heap.size + 1) (w.alloc (.cells #[.int .i64 0, .int .i64 0] 26)) w2 := HB1.trans (hb2.mono hs1)
  clear hb1 hb2 HB1 HO1 KF KP
  have c0 : w2.cell? ⟨w.heap.size, 0, none⟩ = some (.int .i64 0) := by rw [HB2.cell (by simp)]; simp
  have c1 : w2.cell? ⟨w.heap.size, 1, none⟩ = some (.int .i64 0) := by rw [HB2.cell (by simp)]; simp
  have f0 : w2.frozen? ⟨w.heap.size, 0, none⟩ = false := by rw [HB2.frozen (by simp)]; simp
  have f1 : w2.frozen? ⟨w.heap.size, 1, none⟩ = false := by rw [HB2.frozen (by simp)]; simp
  have hne : w.heap.size ≠ w2.heap.size := by omega
  have HO : Hid (Below w.heap.size w w2) := ((Below.refl _ w).alloc (Nat.le_refl _) _).trans (HB2.mono (Nat.le_succ _))
  clear HB2
  obtain ⟨W, hW⟩ : ∃ W, w2.alloc (.cells #[.int .i64 z, .int .i64 20] 26) = W := ⟨_, rfl⟩
  have hk := keep w2 (.cells #[.int .i64 z, .int .i64 20] 26)
  rw [hW] at hk
  have d0 : W.cell? ⟨w.heap.size, 0, none⟩ = some (.int .i64 0) := by rw [hk.cell (by simp; omega)]; exact c0
  have d1 : W.cell? ⟨w.heap.size, 1, none⟩ = some (.int .i64 0) := by rw [hk.cell (by simp; omega)]; exact c1
  have e0 : W.cell? ⟨w2.heap.size, 0, none⟩ = some (.int .i64 z) := by rw [← hW]; simp
  have e1 : W.cell? ⟨w2.heap.size, 1, none⟩ = some (.int .i64 20) := by rw [← hW]; simp
  have g0 : W.frozen? ⟨w.heap.size, 0, none⟩ = false := by rw [hk.frozen (by simp; omega)]; exact f0
  have g1 : W.frozen? ⟨w.heap.size, 1, none⟩ = false := by rw [hk.frozen (by simp; omega)]; exact f1
  have HO2 : Hid (Below w.heap.size w W) := HO.out.trans (hk.mono (by omega))
  clear hk c0 c1 f0 f1
  have HWW : Hid (w2.alloc (.cells #[.int .i64 z, .int .i64 20] 26) = W) := hW
  clear hW
  go_wp2_with fail
  rw [HWW.out]
  go_region_with (fail)
  all_goals (
    go_wp2
    refine bodyPost_ret (v := .tuple #[.slice none 0 0, .agg #[.int .i64 z, .int .i64 20]]) (by simp [results, Tryd.results15, go_sem, d0, d1]) rfl ⟨rfl, ?_⟩
    exact below_drew ((HO2.out.setCell (by simp) _).setCell (by simp) _))
set_option maxRecDepth 100000 in
set_option maxHeartbeats 8000000 in
theorem rencode_yes (set : ByteArray) (a : Option Addr) (len cap : Nat) (ps : List Int) (s : Int) (w : World) (hset : set.size ≤ 1000000) (hs0 : setB (lowS set) ≠ 0) (hq6 : setB (lowS set) ≠ 6) (hss : s = setS (setB (lowS set))) (hall : Ut.AllPt ps) (hA : AllIn s ps) (hlen : len ≤ 4000) (hpl : (ps).length ≤ 4000) (hfl : (Ut.flat (ps)).length ≤ 4000)
    (KP : ∀ W, Below w.heap.size w W → Calls Tryd.prog 30 #[.slice a len cap] W fun e w' => ∃ v, e = .returned (.tuple #[v, .agg #[.int .i64 0, .int .i64 0]]) ∧ Ut.Own32 w' W.heap.size v ps ∧ Below W.heap.size W w') :
    Calls Tryd.prog 15 #[.string set, .slice a len cap] w fun e w' => ∃ v, e = .returned (.tuple #[v, .agg #[.int .i64 0, .int .i64 0]]) ∧ Own w' w.heap.size v (([] : List Int) ++ flatS s ps) ∧ Below w.heap.size w w' := by
  obtain ⟨j0, hi, hz0, hz1, hz2⟩ := info_parts Tryd.info5
  have KF := fun v : World => rset_any set v hset
  have hr := setB_range (lowS set)
  obtain ⟨q, hqq⟩ : ∃ q, setB (lowS set) = q := ⟨_, rfl⟩
  rw [hqq] at KF hr hss hs0 hq6
  have KU : ∀ (p : Int) (W : World), Ut.ptB p = true → Calls Tryd.prog 31 #[.string (nmS q), .int .i32 p] W fun e w' => ∃ v, e = .returned v ∧ Own w' W.heap.size v (encS s p) ∧ Below W.heap.size W w' := fun p W hp => by rw [hss]; exact sput_any q p W (by omega) (by omega) hp
  have hnz := nm_some (q := q) (by omega) (by omega)
  have h16 := not16 (q := q) (by omega) (by omega) hq6
  skip
  obtain ⟨x, hx⟩ : ∃ x, nmS q = x := ⟨_, rfl⟩
  rw [hx] at KF KU hnz h16
  clear hx hqq hr hss
  have HALL : Hid (Ut.AllPt (ps)) := hall
  clear hall
  go_enter Tryd.func15, Tryd.ntmps15
  go_wp2_with fail
  refine (KF _).mono ?_
  rintro e w1 ⟨rfl, hb1⟩
  have hs1 := hb1.size
  simp at hs1
  have HB1 : Below (w.heap.size + 1) (w.alloc (.cells #[.int .i64 0, .int .i64 0] 26)) w1 := by have := hb1; simpa using this
  have HO1 : Below w.heap.size w w1 := ((Below.refl _ w).alloc (Nat.le_refl _) _).trans (HB1.mono (Nat.le_succ _))
  go_wp2_with fail
  refine (KP _ HO1).mono ?_
  rintro e w2 ⟨v2, rfl, hown2, hb2⟩
  unfold Ut.Own32 at hown2
  obtain ⟨a2, cap2, rfl, hc2, hm2, hrow2, hn2⟩ := own_row' hown2
  have hs2 := hb2.size
  have HB2' : Below (w.heap.size + 1) (w.alloc (.cells #[.int .i64 0, .int .i64 0] 26)) (w2.alloc (.cells #[.int .i64 0, .int .i64 0] 26)) := (HB1.trans (hb2.mono hs1)).alloc (by omega) _
  have hrowW := Ut.rowK_below hrow2 (keep w2 (.cells #[.int .i64 0, .int .i64 0] 26))
  obtain ⟨W, hW⟩ : ∃ W, w2.alloc (.cells #[.int .i64 0, .int .i64 0] 26) = W := ⟨_, rfl⟩
  rw [hW] at HB2' hrowW
  have HWW : Hid (w2.alloc (.cells #[.int .i64 0, .int .i64 0] 26) = W) := hW
  have HB2 : Hid (Below (w.heap.size + 1) (w.alloc (.cells #[.int .i64 0, .int .i64 0] 26)) W) := HB2'
  have HWS : Hid (w2.heap.size + 1 = W.heap.size) := by unfold Hid; rw [← hW]; simp
  have HRW : Hid (RowK .i32 W a2 (ps)) := hrowW
  have hW0 : w.heap.size + 1 ≤ W.heap.size := by have := HB2'.size; simpa using this
  obtain ⟨n2, hn2'⟩ : ∃ n2, (ps).length = n2 := ⟨_, rfl⟩
  have HN2 : Hid ((ps).length = n2) := hn2'
  rw [hn2'] at hc2 hpl
  try rw [hn2']
  clear hb1 hb2 HB1 HO1 KF KP hown2 hrow2 hW HB2' hrowW hn2'
  go_wp2
  rw [HWW.out]
  go_loopw [8, 9, 10] (fun v t i wr => ∃ (qs rs : List Int), ps = qs ++ rs ∧ i = .int .i64 (qs.length : Nat) ∧ t = .int .i64 ((Ut.flat qs).length : Nat) ∧ Own wr W.heap.size v (([] : List Int) ++ flatS s qs) ∧ Below W.heap.size W wr) (fun _ _ i _ => n2 - (intOf i).toNat)
  case atStart => exact ⟨[], ps, rfl, rfl, rfl, World.ownsRow_nil _ _ _ _, Below.refl _ _⟩
  case round =>
    obtain ⟨qs, rs, hqr, rfl, rfl, hown, hb⟩ := hrel
    have HQ : Hid (ps = qs ++ rs) := hqr
    have HO : Hid (wr.ownsRow W.heap.size 5 1 u8 (([] : List Int) ++ flatS s qs).length ((([] : List Int) ++ flatS s qs).map (Value.int .u8))) := hown
    have HB : Hid (Below W.heap.size W wr) := hb
    have hsz := hb.size
    have HAL : Hid (Below (w.heap.size + 1) (w.alloc (.cells #[.int .i64 0, .int .i64 0] 26)) wr) := HB2.out.trans (hb.mono hW0)
    have HOO : Hid (Below w.heap.size w wr) := ((Below.refl _ w).alloc (Nat.le_refl _) _).trans (HAL.out.mono (Nat.le_succ _))
    have hN := HN2.out
    have hfq : (Ut.flat qs).length ≤ 4000 := by
      have h1 := congrArg (fun z => (Ut.flat (z)).length) hqr
      simp only [Ut.flat_append, List.append_assoc, List.length_append] at h1
      omega
    have hsl : (([] : List Int) ++ flatS s qs).length ≤ 20000 := by
      have := flatS_le (s := s) (ps := qs) (AllIn.pts (AllIn.left (by rw [hqr] at hA; exact hA)))
      have h2 : qs.length ≤ n2 := by rw [← hN, hqr]; simp
      rw [List.length_append]; simp; omega
    have hcell0 : ∀ p, (ps)[qs.length]? = some p → ∃ b off, a2 = some ⟨b, off, none⟩ ∧ b < W.heap.size ∧ W.cell? ⟨b, off + qs.length, none⟩ = some (.int .i32 p) := by
      intro p hp
      obtain ⟨b, off, hab, hc⟩ := rowK_at HRW.out hp
      exact ⟨b, off, hab, World.block_lt_of_cell? W _ (hc _ _ hp), hc _ _ hp⟩
    obtain ⟨k, hk⟩ : ∃ k, qs.length = k := ⟨_, rfl⟩
    obtain ⟨z, hz⟩ : ∃ z, (Ut.flat qs).length = z := ⟨_, rfl⟩
    have HK : Hid (qs.length = k) := hk
    have HZ : Hid ((Ut.flat qs).length = z) := hz
    rw [hz] at hfq
    rw [hz, hk]
    rw [hk] at hcell0
    cases rs with
    | nil =>
      have hpq : ps = qs := by rw [hqr, List.append_nil]
      have hkn : k = n2 := by rw [← hk, ← hN, hpq]
      subst hpq
      obtain rfl := hkn
      have c0 : wr.cell? ⟨w.heap.size, 0, none⟩ = some (.int .i64 0) := by rw [HAL.out.cell (by simp)]; simp
      have c1 : wr.cell? ⟨w.heap.size, 1, none⟩ = some (.int .i64 0) := by rw [HAL.out.cell (by simp)]; simp
      have f0 : wr.frozen? ⟨w.heap.size, 0, none⟩ = false := by rw [HAL.out.frozen (by simp)]; simp
      have f1 : wr.frozen? ⟨w.heap.size, 1, none⟩ = false := by rw [HAL.out.frozen (by simp)]; simp
      have HV : Hid (Own wr (w.heap.size + 1) u8 (([] : List Int) ++ flatS s ps)) := own_base hW0 hown
      clear hqr hown hb hN hk hz hcell0 hfl
      go_wp2
      exact bodyPost_ret (v := .tuple #[u8, .agg #[.int .i64 0, .int .i64 0]]) (by simp [results, Tryd.results15, go_sem, c0, c1]) rfl ⟨u8, rfl, own_base (Nat.le_succ _) (ownsRow_setCell_below (ownsRow_setCell_below HV.out (by simp) _) (by simp) _), (HOO.out.setCell (by simp) _).setCell (by simp) _⟩
    | cons p rs =>
      have hAp := (show AllIn s (p :: rs) from (by rw [hqr] at hA; exact hA.right)).head
      have hkn : k < n2 := by rw [← hk, ← hN, hqr]; first | (simp; done) | (simp; omega)
      obtain ⟨b, off, rfl, hblt, hcc⟩ := hcell0 p (by rw [← hk, hqr, List.getElem?_append_right (Nat.le_refl _)]; simp)
      have cc : wr.cell? ⟨b, off + k, none⟩ = some (.int .i32 p) := by rw [HB.out.cell hblt]; exact hcc
      have KC := KU p wr hAp.1
      have KR := fun W => Ut.rput_yes p W hAp.1
      have hel := Ut.enc_len p
      have hl1 := List.length_pos_iff.2 hAp.2
      have hl4 := encS_len (s := s) hAp.1
      have HX : Hid (([] : List Int) ++ flatS s (qs ++ [p]) = (([] : List Int) ++ flatS s qs) ++ encS s p) := by unfold Hid; rw [flatS_append, flatS_cons, flatS_nil, List.append_nil, List.append_assoc]
      have HY : Hid ((Ut.flat (qs ++ [p])).length = z + (Ut.encZ p).length) := by unfold Hid; rw [Ut.flat_append, Ut.flat_cons, Ut.flat_nil, List.append_nil, List.length_append, hz]
      have HZ2 : Hid ((qs ++ [p]).length = k + 1) := by unfold Hid; rw [List.length_append, hk]; rfl
      obtain ⟨Z, hZ⟩ : ∃ Z, encS s p = Z := ⟨_, rfl⟩
      rw [hZ] at KC hl1 hl4 HX
      obtain ⟨Y, hY⟩ : ∃ Y, Ut.encZ p = Y := ⟨_, rfl⟩
      rw [hY] at hel HY
      simp only [hY] at KR
      clear hqr hown hb hN hk hz hcell0 hfl KU hAp hZ hY
      go_wp2_with fail
      refine KC.mono ?_
      rintro e w5 ⟨v5, rfl, hown5, hb5⟩
      obtain ⟨a5, cap5, rfl, hc5, hm5, hrow5, hn5⟩ := own_row' hown5
      obtain ⟨m5, hm5'⟩ : ∃ m5, Z.length = m5 := ⟨_, rfl⟩
      have HM5 : Hid (Z.length = m5) := hm5'
      rw [hm5'] at hl1 hl4 hc5
      try rw [hm5']
      have bm : ((m5 : Int) == 0) = false := by simp; omega
      have hs5 := hb5.size
      have HO5 : Hid (w5.ownsRow W.heap.size 5 1 u8 (([] : List Int) ++ flatS s qs).length ((([] : List Int) ++ flatS s qs).map (Value.int .u8))) := own_keep HO.out hb5
      have HB5 : Hid (Below W.heap.size W w5) := HB.out.trans (hb5.mono hsz)
      have HR5 : Hid (RowK .u8 w5 a5 Z) := hrow5
      clear hb5 KC hown5 hrow5 hm5'
      go_wp2_with (at_builtin; refine wpList_append_rowk rfl (.tmp 54) (.tmp 55) 22 rfl W.heap.size 5 j0 (.int .u8 0) 1 Tryd.underlying22 hi hz0 hz1 hz2 rfl .u8 _ _ _ rfl HO5.out a5 m5 cap5 Z rfl HM5.out hn5 HR5.out ?c1 ?c2 ?c3 ?_)
      case c1 => unfold maxLen; omega
      case c2 => omega
      case c3 => omega
      intro v6 w6 hown6 hgrow6
      have HO6' : Own w6 W.heap.size v6 ((([] : List Int) ++ flatS s qs) ++ Z) := own_snoc (by rw [HM5.out]; exact hown6)
      have HB6 : Hid (Below W.heap.size W w6) := HB5.out.grown hgrow6 (by omega) (fun k hk => (HO5.out.lt k hk).1)
      have hs6 := HB6.out.size
      have cc6 : w6.cell? ⟨b, off + k, none⟩ = some (.int .i32 p) := by rw [HB6.out.cell hblt]; exact hcc
      have HO6 : Hid (Own w6 W.heap.size v6 ((([] : List Int) ++ flatS s qs) ++ Z)) := HO6'
      clear hown6 hgrow6 HO6' cc
      go_wp2_with fail
      refine (KR _).mono ?_
      rintro e w7 ⟨v7, rfl, hown7, hb7⟩
      obtain ⟨a7, cap7, rfl, hc7, hm7, hrow7, hn7⟩ := own_row' hown7
      have HB7 : Hid (Below W.heap.size W w7) := HB6.out.trans (hb7.mono hs6)
      have HO7 : Hid (Own w7 W.heap.size v6 ((([] : List Int) ++ flatS s qs) ++ Z)) := own_keep HO6.out hb7
      obtain ⟨y, hy⟩ : ∃ y, Y.length = y := ⟨_, rfl⟩
      rw [hy] at hel HY
      try rw [hy]
      clear hown7 hrow7 hb7 KR hy hc7 hcc
      go_wp2
      go_roundw
      case rel => exact ⟨qs ++ [p], rs, by rw [HQ.out]; simp, by rw [HZ2.out]; go_num, by rw [HY.out]; go_num, by rw [HX.out]; exact HO7.out, HB7.out⟩
      case measure => simp [intOf]; omega
set_option maxRecDepth 100000 in
set_option maxHeartbeats 8000000 in
theorem rencode_no (set : ByteArray) (a : Option Addr) (len cap : Nat) (ps : List Int) (p0 : Int) (qs0 : List Int) (s : Int) (w : World) (hset : set.size ≤ 1000000) (hs0 : setB (lowS set) ≠ 0) (hq6 : setB (lowS set) ≠ 6) (hss : s = setS (setB (lowS set))) (hall : Ut.AllPt (ps ++ p0 :: qs0)) (hA : AllIn s ps) (hno : encS s p0 = []) (hlen : len ≤ 4000) (hpl : ((ps ++ p0 :: qs0)).length ≤ 4000) (hfl : (Ut.flat ((ps ++ p0 :: qs0))).length ≤ 4000)
    (KP : ∀ W, Below w.heap.size w W → Calls Tryd.prog 30 #[.slice a len cap] W fun e w' => ∃ v, e = .returned (.tuple #[v, .agg #[.int .i64 0, .int .i64 0]]) ∧ Ut.Own32 w' W.heap.size v (ps ++ p0 :: qs0) ∧ Below W.heap.size W w') :
    Calls Tryd.prog 15 #[.string set, .slice a len cap] w fun e w' => e = .returned (.tuple #[.slice none 0 0, .agg #[.int .i64 ((Ut.flat ps).length : Nat), .int .i64 10]]) ∧ Below w.heap.size w w' := by
  obtain ⟨j0, hi, hz0, hz1, hz2⟩ := info_parts Tryd.info5
  have KF := fun v : World => rset_any set v hset
  have hr := setB_range (lowS set)
  obtain ⟨q, hqq⟩ : ∃ q, setB (lowS set) = q := ⟨_, rfl⟩
  rw [hqq] at KF hr hss hs0 hq6
  have KU : ∀ (p : Int) (W : World), Ut.ptB p = true → Calls Tryd.prog 31 #[.string (nmS q), .int .i32 p] W fun e w' => ∃ v, e = .returned v ∧ Own w' W.heap.size v (encS s p) ∧ Below W.heap.size W w' := fun p W hp => by rw [hss]; exact sput_any q p W (by omega) (by omega) hp
  have hnz := nm_some (q := q) (by omega) (by omega)
  have h16 := not16 (q := q) (by omega) (by omega) hq6
  skip
  obtain ⟨x, hx⟩ : ∃ x, nmS q = x := ⟨_, rfl⟩
  rw [hx] at KF KU hnz h16
  clear hx hqq hr hss
  have HALL : Hid (Ut.AllPt ((ps ++ p0 :: qs0))) := hall
  clear hall
  go_enter Tryd.func15, Tryd.ntmps15
  go_wp2_with fail
  refine (KF _).mono ?_
  rintro e w1 ⟨rfl, hb1⟩
  have hs1 := hb1.size
  simp at hs1
  have HB1 : Below (w.heap.size + 1) (w.alloc (.cells #[.int .i64 0, .int .i64 0] 26)) w1 := by have := hb1; simpa using this
  have HO1 : Below w.heap.size w w1 := ((Below.refl _ w).alloc (Nat.le_refl _) _).trans (HB1.mono (Nat.le_succ _))
  go_wp2_with fail
  refine (KP _ HO1).mono ?_
  rintro e w2 ⟨v2, rfl, hown2, hb2⟩
  unfold Ut.Own32 at hown2
  obtain ⟨a2, cap2, rfl, hc2, hm2, hrow2, hn2⟩ := own_row' hown2
  have hs2 := hb2.size
  have HB2' : Below (w.heap.size + 1) (w.alloc (.cells #[.int .i64 0, .int .i64 0] 26)) (w2.alloc (.cells #[.int .i64 0, .int .i64 0] 26)) := (HB1.trans (hb2.mono hs1)).alloc (by omega) _
  have hrowW := Ut.rowK_below hrow2 (keep w2 (.cells #[.int .i64 0, .int .i64 0] 26))
  obtain ⟨W, hW⟩ : ∃ W, w2.alloc (.cells #[.int .i64 0, .int .i64 0] 26) = W := ⟨_, rfl⟩
  rw [hW] at HB2' hrowW
  have HWW : Hid (w2.alloc (.cells #[.int .i64 0, .int .i64 0] 26) = W) := hW
  have HB2 : Hid (Below (w.heap.size + 1) (w.alloc (.cells #[.int .i64 0, .int .i64 0] 26)) W) := HB2'
  have HWS : Hid (w2.heap.size + 1 = W.heap.size) := by unfold Hid; rw [← hW]; simp
  have HRW : Hid (RowK .i32 W a2 ((ps ++ p0 :: qs0))) := hrowW
  have hW0 : w.heap.size + 1 ≤ W.heap.size := by have := HB2'.size; simpa using this
  obtain ⟨n2, hn2'⟩ : ∃ n2, ((ps ++ p0 :: qs0)).length = n2 := ⟨_, rfl⟩
  have HN2 : Hid (((ps ++ p0 :: qs0)).length = n2) := hn2'
  rw [hn2'] at hc2 hpl
  try rw [hn2']
  clear hb1 hb2 HB1 HO1 KF KP hown2 hrow2 hW HB2' hrowW hn2'
  go_wp2
  rw [HWW.out]
  go_loopw [8, 9, 10] (fun v t i wr => ∃ (qs rs : List Int), ps = qs ++ rs ∧ i = .int .i64 (qs.length : Nat) ∧ t = .int .i64 ((Ut.flat qs).length : Nat) ∧ Own wr W.heap.size v (([] : List Int) ++ flatS s qs) ∧ Below W.heap.size W wr) (fun _ _ i _ => n2 - (intOf i).toNat)
  case atStart => exact ⟨[], ps, rfl, rfl, rfl, World.ownsRow_nil _ _ _ _, Below.refl _ _⟩
  case round =>
    obtain ⟨qs, rs, hqr, rfl, rfl, hown, hb⟩ := hrel
    have HQ : Hid (ps = qs ++ rs) := hqr
    have HO : Hid (wr.ownsRow W.heap.size 5 1 u8 (([] : List Int) ++ flatS s qs).length ((([] : List Int) ++ flatS s qs).map (Value.int .u8))) := hown
    have HB : Hid (Below W.heap.size W wr) := hb
    have hsz := hb.size
    have HAL : Hid (Below (w.heap.size + 1) (w.alloc (.cells #[.int .i64 0, .int .i64 0] 26)) wr) := HB2.out.trans (hb.mono hW0)
    have HOO : Hid (Below w.heap.size w wr) := ((Below.refl _ w).alloc (Nat.le_refl _) _).trans (HAL.out.mono (Nat.le_succ _))
    have hN := HN2.out
    have hfq : (Ut.flat qs).length ≤ 4000 := by
      have h1 := congrArg (fun z => (Ut.flat (z ++ p0 :: qs0)).length) hqr
      simp only [Ut.flat_append, List.append_assoc, List.length_append] at h1
      rw [Ut.flat_append, List.length_append] at hfl
      omega
    have hsl : (([] : List Int) ++ flatS s qs).length ≤ 20000 := by
      have := flatS_le (s := s) (ps := qs) (AllIn.pts (AllIn.left (by rw [hqr] at hA; exact hA)))
      have h2 : qs.length ≤ n2 := by rw [← hN, hqr]; simp
      rw [List.length_append]; simp; omega
    have hcell0 : ∀ p, ((ps ++ p0 :: qs0))[qs.length]? = some p → ∃ b off, a2 = some ⟨b, off, none⟩ ∧ b < W.heap.size ∧ W.cell? ⟨b, off + qs.length, none⟩ = some (.int .i32 p) := by
      intro p hp
      obtain ⟨b, off, hab, hc⟩ := rowK_at HRW.out hp
      exact ⟨b, off, hab, World.block_lt_of_cell? W _ (hc _ _ hp), hc _ _ hp⟩
    obtain ⟨k, hk⟩ : ∃ k, qs.length = k := ⟨_, rfl⟩
    obtain ⟨z, hz⟩ : ∃ z, (Ut.flat qs).length = z := ⟨_, rfl⟩
    have HK : Hid (qs.length = k) := hk
    have HZ : Hid ((Ut.flat qs).length = z) := hz
    rw [hz] at hfq
    rw [hz, hk]
    rw [hk] at hcell0
    cases rs with
    | nil =>
      have hpq : ps = qs := by rw [hqr, List.append_nil]
      have hkn : k < n2 := by rw [← hk, ← hN, hpq]; simp
      have HZP : Hid (z = (Ut.flat ps).length) := by unfold Hid; rw [← hz, hpq]
      obtain ⟨b, off, rfl, hblt, hcc⟩ := hcell0 p0 (by rw [← hk, hpq, List.getElem?_append_right (Nat.le_refl _)]; simp)
      have cc : wr.cell? ⟨b, off + k, none⟩ = some (.int .i32 p0) := by rw [HB.out.cell hblt]; exact hcc
      have KC := KU p0 wr (HALL.out p0 (by simp))
      rw [hno] at KC
      clear hqr hown hb hN hk hz hcell0 hfl hpq KU hcc
      go_wp2_with fail
      refine KC.mono ?_
      rintro e w5 ⟨v5, rfl, hown5, hb5⟩
      obtain ⟨a5, cap5, rfl, hc5, hm5, hrow5, hn5⟩ := own_row' hown5
      have HB5 : Below (w.heap.size + 1) (w.alloc (.cells #[.int .i64 0, .int .i64 0] 26)) w5 := HAL.out.trans (hb5.mono (by omega))
      have c0 : w5.cell? ⟨w.heap.size, 0, none⟩ = some (.int .i64 0) := by rw [HB5.cell (by simp)]; simp
      have c1 : w5.cell? ⟨w.heap.size, 1, none⟩ = some (.int .i64 0) := by rw [HB5.cell (by simp)]; simp
      have f0 : w5.frozen? ⟨w.heap.size, 0, none⟩ = false := by rw [HB5.frozen (by simp)]; simp
      have f1 : w5.frozen? ⟨w.heap.size, 1, none⟩ = false := by rw [HB5.frozen (by simp)]; simp
      have HO5 : Hid (Below w.heap.size w w5) := HOO.out.trans (hb5.mono (by omega))
      clear HB5 hb5 KC hown5 hrow5
      go_wp2
      exact bodyPost_ret (v := .tuple #[.slice none 0 0, .agg #[.int .i64 z, .int .i64 10]]) (by simp [results, Tryd.results15, go_sem, c0, c1]) rfl ⟨by rw [HZP.out], (HO5.out.setCell (by simp) _).setCell (by simp) _⟩
    | cons p rs =>
      have hAp := (show AllIn s (p :: rs) from (by rw [hqr] at hA; exact hA.right)).head
      have hkn : k < n2 := by rw [← hk, ← hN, hqr]; first | (simp; done) | (simp; omega)
      obtain ⟨b, off, rfl, hblt, hcc⟩ := hcell0 p (by rw [← hk, hqr, List.append_assoc, List.getElem?_append_right (Nat.le_refl _)]; simp)
      have cc : wr.cell? ⟨b, off + k, none⟩ = some (.int .i32 p) := by rw [HB.out.cell hblt]; exact hcc
      have KC := KU p wr hAp.1
      have KR := fun W => Ut.rput_yes p W hAp.1
      have hel := Ut.enc_len p
      have hl1 := List.length_pos_iff.2 hAp.2
      have hl4 := encS_len (s := s) hAp.1
      have HX : Hid (([] : List Int) ++ flatS s (qs ++ [p]) = (([] : List Int) ++ flatS s qs) ++ encS s p) := by unfold Hid; rw [flatS_append, flatS_cons, flatS_nil, List.append_nil, List.append_assoc]
      have HY : Hid ((Ut.flat (qs ++ [p])).length = z + (Ut.encZ p).length) := by unfold Hid; rw [Ut.flat_append, Ut.flat_cons, Ut.flat_nil, List.append_nil, List.length_append, hz]
      have HZ2 : Hid ((qs ++ [p]).length = k + 1) := by unfold Hid; rw [List.length_append, hk]; rfl
      obtain ⟨Z, hZ⟩ : ∃ Z, encS s p = Z := ⟨_, rfl⟩
      rw [hZ] at KC hl1 hl4 HX
      obtain ⟨Y, hY⟩ : ∃ Y, Ut.encZ p = Y := ⟨_, rfl⟩
      rw [hY] at hel HY
      simp only [hY] at KR
      clear hqr hown hb hN hk hz hcell0 hfl KU hAp hZ hY
      go_wp2_with fail
      refine KC.mono ?_
      rintro e w5 ⟨v5, rfl, hown5, hb5⟩
      obtain ⟨a5, cap5, rfl, hc5, hm5, hrow5, hn5⟩ := own_row' hown5
      obtain ⟨m5, hm5'⟩ : ∃ m5, Z.length = m5 := ⟨_, rfl⟩
      have HM5 : Hid (Z.length = m5) := hm5'
      rw [hm5'] at hl1 hl4 hc5
      try rw [hm5']
      have bm : ((m5 : Int) == 0) = false := by simp; omega
      have hs5 := hb5.size
      have HO5 : Hid (w5.ownsRow W.heap.size 5 1 u8 (([] : List Int) ++ flatS s qs).length ((([] : List Int) ++ flatS s qs).map (Value.int .u8))) := own_keep HO.out hb5
      have HB5 : Hid (Below W.heap.size W w5) := HB.out.trans (hb5.mono hsz)
      have HR5 : Hid (RowK .u8 w5 a5 Z) := hrow5
      clear hb5 KC hown5 hrow5 hm5'
      go_wp2_with (at_builtin; refine wpList_append_rowk rfl (.tmp 54) (.tmp 55) 22 rfl W.heap.size 5 j0 (.int .u8 0) 1 Tryd.underlying22 hi hz0 hz1 hz2 rfl .u8 _ _ _ rfl HO5.out a5 m5 cap5 Z rfl HM5.out hn5 HR5.out ?c1 ?c2 ?c3 ?_)
      case c1 => unfold maxLen; omega
      case c2 => omega
      case c3 => omega
      intro v6 w6 hown6 hgrow6
      have HO6' : Own w6 W.heap.size v6 ((([] : List Int) ++ flatS s qs) ++ Z) := own_snoc (by rw [HM5.out]; exact hown6)
      have HB6 : Hid (Below W.heap.size W w6) := HB5.out.grown hgrow6 (by omega) (fun k hk => (HO5.out.lt k hk).1)
      have hs6 := HB6.out.size
      have cc6 : w6.cell? ⟨b, off + k, none⟩ = some (.int .i32 p) := by rw [HB6.out.cell hblt]; exact hcc
      have HO6 : Hid (Own w6 W.heap.size v6 ((([] : List Int) ++ flatS s qs) ++ Z)) := HO6'
      clear hown6 hgrow6 HO6' cc
      go_wp2_with fail
      refine (KR _).mono ?_
      rintro e w7 ⟨v7, rfl, hown7, hb7⟩
      obtain ⟨a7, cap7, rfl, hc7, hm7, hrow7, hn7⟩ := own_row' hown7
      have HB7 : Hid (Below W.heap.size W w7) := HB6.out.trans (hb7.mono hs6)
      have HO7 : Hid (Own w7 W.heap.size v6 ((([] : List Int) ++ flatS s qs) ++ Z)) := own_keep HO6.out hb7
      obtain ⟨y, hy⟩ : ∃ y, Y.length = y := ⟨_, rfl⟩
      rw [hy] at hel HY
      try rw [hy]
      clear hown7 hrow7 hb7 KR hy hc7 hcc
      go_wp2
      go_roundw
      case rel => exact ⟨qs ++ [p], rs, by rw [HQ.out]; simp, by rw [HZ2.out]; go_num, by rw [HY.out]; go_num, by rw [HX.out]; exact HO7.out, HB7.out⟩
      case measure => simp [intOf]; omega
set_option maxRecDepth 100000 in
set_option maxHeartbeats 8000000 in
theorem rencode_yes6 (set : ByteArray) (a : Option Addr) (len cap : Nat) (ps : List Int) (s : Int) (w : World) (hset : set.size ≤ 1000000) (hq : setB (lowS set) = 6) (hss : s = setS (setB (lowS set))) (hall : Ut.AllPt ps) (hA : AllIn s ps) (hlen : len ≤ 4000) (hpl : (ps).length ≤ 4000) (hfl : (Ut.flat (ps)).length ≤ 4000)
    (KP : ∀ W, Below w.heap.size w W → Calls Tryd.prog 30 #[.slice a len cap] W fun e w' => ∃ v, e = .returned (.tuple #[v, .agg #[.int .i64 0, .int .i64 0]]) ∧ Ut.Own32 w' W.heap.size v ps ∧ Below W.heap.size W w') :
    Calls Tryd.prog 15 #[.string set, .slice a len cap] w fun e w' => ∃ v, e = .returned (.tuple #[v, .agg #[.int .i64 0, .int .i64 0]]) ∧ Own w' w.heap.size v (([254, 255] : List Int) ++ flatS s ps) ∧ Below w.heap.size w w' := by
  obtain ⟨j0, hi, hz0, hz1, hz2⟩ := info_parts Tryd.info5
  have KF := fun v : World => rset_any set v hset
  have hr := setB_range (lowS set)
  obtain ⟨q, hqq⟩ : ∃ q, setB (lowS set) = q := ⟨_, rfl⟩
  rw [hqq] at KF hr hss hq
  have KU : ∀ (p : Int) (W : World), Ut.ptB p = true → Calls Tryd.prog 31 #[.string (nmS q), .int .i32 p] W fun e w' => ∃ v, e = .returned v ∧ Own w' W.heap.size v (encS s p) ∧ Below W.heap.size W w' := fun p W hp => by rw [hss]; exact sput_any q p W (by omega) (by omega) hp
  have hnz := nm_some (q := q) (by omega) (by omega)
  have h16 := is16
  rw [← hq] at h16
  obtain ⟨x, hx⟩ : ∃ x, nmS q = x := ⟨_, rfl⟩
  rw [hx] at KF KU hnz h16
  clear hx hqq hr hss
  have HALL : Hid (Ut.AllPt (ps)) := hall
  clear hall
  go_enter Tryd.func15, Tryd.ntmps15
  go_wp2_with fail
  refine (KF _).mono ?_
  rintro e w1 ⟨rfl, hb1⟩
  have hs1 := hb1.size
  simp at hs1
  have HB1 : Below (w.heap.size + 1) (w.alloc (.cells #[.int .i64 0, .int .i64 0] 26)) w1 := by have := hb1; simpa using this
  have HO1 : Below w.heap.size w w1 := ((Below.refl _ w).alloc (Nat.le_refl _) _).trans (HB1.mono (Nat.le_succ _))
  go_wp2_with fail
  refine (KP _ HO1).mono ?_
  rintro e w2 ⟨v2, rfl, hown2, hb2⟩
  unfold Ut.Own32 at hown2
  obtain ⟨a2, cap2, rfl, hc2, hm2, hrow2, hn2⟩ := own_row' hown2
  have hs2 := hb2.size
  have HB2' : Below (w.heap.size + 1) (w.alloc (.cells #[.int .i64 0, .int .i64 0] 26)) (w2.alloc (.cells #[.int .i64 0, .int .i64 0] 26)) := (HB1.trans (hb2.mono hs1)).alloc (by omega) _
  have hrowW := Ut.rowK_below hrow2 (keep w2 (.cells #[.int .i64 0, .int .i64 0] 26))
  obtain ⟨W, hW⟩ : ∃ W, w2.alloc (.cells #[.int .i64 0, .int .i64 0] 26) = W := ⟨_, rfl⟩
  rw [hW] at HB2' hrowW
  have HWW : Hid (w2.alloc (.cells #[.int .i64 0, .int .i64 0] 26) = W) := hW
  have HB2 : Hid (Below (w.heap.size + 1) (w.alloc (.cells #[.int .i64 0, .int .i64 0] 26)) W) := HB2'
  have HWS : Hid (w2.heap.size + 1 = W.heap.size) := by unfold Hid; rw [← hW]; simp
  have HRW : Hid (RowK .i32 W a2 (ps)) := hrowW
  have hW0 : w.heap.size + 1 ≤ W.heap.size := by have := HB2'.size; simpa using this
  obtain ⟨n2, hn2'⟩ : ∃ n2, (ps).length = n2 := ⟨_, rfl⟩
  have HN2 : Hid ((ps).length = n2) := hn2'
  rw [hn2'] at hc2 hpl
  try rw [hn2']
  clear hb1 hb2 HB1 HO1 KF KP hown2 hrow2 hW HB2' hrowW hn2'
  go_wp2_with (at_builtin; refine wpList_append_own _ rfl _ _ 22 rfl (w2.heap.size + 1) 5 j0 (.int .u8 0) 1 1 Tryd.underlying22 hi hz0 hz1 hz2 rfl (by decide) _ _ _ rfl ((World.ownsRow_nil (w2.alloc (.cells #[.int .i64 0, .int .i64 0] 26)) (w2.heap.size + 1) 5 1).alloc _) ⟨w2.heap.size + 1, 0, none⟩ 2 2 (([254, 255] : List Int).map (Value.int .u8)) rfl rfl (cells_at (by simp) _ _) (ints_one _) ?c3 ?c4 ?c5 ?_)
  case c3 => decide
  case c4 => omega
  case c5 => simp
  intro v3 w3 hown3 hgrow3 _
  have HB3' : Below (w2.heap.size + 1) (w2.alloc (.cells #[.int .i64 0, .int .i64 0] 26)) w3 := (((Below.refl _ _).alloc (by simp) _).grown hgrow3 (by simp) (fun k hk => by simp [Value.ownBlock] at hk))
  rw [HWW.out] at HB3'
  rw [HWS.out] at HB3' hown3
  have HB3 : Hid (Below W.heap.size W w3) := HB3'
  have HO3 : Hid (Own w3 W.heap.size v3 (([254, 255] : List Int) ++ flatS s [])) := hown3
  clear HB3' hown3 hgrow3
  go_wp2
  go_loopw [8, 9, 10] (fun v t i wr => ∃ (qs rs : List Int), ps = qs ++ rs ∧ i = .int .i64 (qs.length : Nat) ∧ t = .int .i64 ((Ut.flat qs).length : Nat) ∧ Own wr W.heap.size v (([254, 255] : List Int) ++ flatS s qs) ∧ Below W.heap.size W wr) (fun _ _ i _ => n2 - (intOf i).toNat)
  case atStart => exact ⟨[], ps, rfl, rfl, rfl, HO3.out, HB3.out⟩
  case round =>
    obtain ⟨qs, rs, hqr, rfl, rfl, hown, hb⟩ := hrel
    have HQ : Hid (ps = qs ++ rs) := hqr
    have HO : Hid (wr.ownsRow W.heap.size 5 1 u8 (([254, 255] : List Int) ++ flatS s qs).length ((([254, 255] : List Int) ++ flatS s qs).map (Value.int .u8))) := hown
    have HB : Hid (Below W.heap.size W wr) := hb
    have hsz := hb.size
    have HAL : Hid (Below (w.heap.size + 1) (w.alloc (.cells #[.int .i64 0, .int .i64 0] 26)) wr) := HB2.out.trans (hb.mono hW0)
    have HOO : Hid (Below w.heap.size w wr) := ((Below.refl _ w).alloc (Nat.le_refl _) _).trans (HAL.out.mono (Nat.le_succ _))
    have hN := HN2.out
    have hfq : (Ut.flat qs).length ≤ 4000 := by
      have h1 := congrArg (fun z => (Ut.flat (z)).length) hqr
      simp only [Ut.flat_append, List.append_assoc, List.length_append] at h1
      omega
    have hsl : (([254, 255] : List Int) ++ flatS s qs).length ≤ 20000 := by
      have := flatS_le (s := s) (ps := qs) (AllIn.pts (AllIn.left (by rw [hqr] at hA; exact hA)))
      have h2 : qs.length ≤ n2 := by rw [← hN, hqr]; simp
      rw [List.length_append]; simp; omega
    have hcell0 : ∀ p, (ps)[qs.length]? = some p → ∃ b off, a2 = some ⟨b, off, none⟩ ∧ b < W.heap.size ∧ W.cell? ⟨b, off + qs.length, none⟩ = some (.int .i32 p) := by
      intro p hp
      obtain ⟨b, off, hab, hc⟩ := rowK_at HRW.out hp
      exact ⟨b, off, hab, World.block_lt_of_cell? W _ (hc _ _ hp), hc _ _ hp⟩
    obtain ⟨k, hk⟩ : ∃ k, qs.length = k := ⟨_, rfl⟩
    obtain ⟨z, hz⟩ : ∃ z, (Ut.flat qs).length = z := ⟨_, rfl⟩
    have HK : Hid (qs.length = k) := hk
    have HZ : Hid ((Ut.flat qs).length = z) := hz
    rw [hz] at hfq
    rw [hz, hk]
    rw [hk] at hcell0
    cases rs with
    | nil =>
      have hpq : ps = qs := by rw [hqr, List.append_nil]
      have hkn : k = n2 := by rw [← hk, ← hN, hpq]
      subst hpq
      obtain rfl := hkn
      have c0 : wr.cell? ⟨w.heap.size, 0, none⟩ = some (.int .i64 0) := by rw [HAL.out.cell (by simp)]; simp
      have c1 : wr.cell? ⟨w.heap.size, 1, none⟩ = some (.int .i64 0) := by rw [HAL.out.cell (by simp)]; simp
      have f0 : wr.frozen? ⟨w.heap.size, 0, none⟩ = false := by rw [HAL.out.frozen (by simp)]; simp
      have f1 : wr.frozen? ⟨w.heap.size, 1, none⟩ = false := by rw [HAL.out.frozen (by simp)]; simp
      have HV : Hid (Own wr (w.heap.size + 1) u8 (([254, 255] : List Int) ++ flatS s ps)) := own_base hW0 hown
      clear hqr hown hb hN hk hz hcell0 hfl
      go_wp2
      exact bodyPost_ret (v := .tuple #[u8, .agg #[.int .i64 0, .int .i64 0]]) (by simp [results, Tryd.results15, go_sem, c0, c1]) rfl ⟨u8, rfl, own_base (Nat.le_succ _) (ownsRow_setCell_below (ownsRow_setCell_below HV.out (by simp) _) (by simp) _), (HOO.out.setCell (by simp) _).setCell (by simp) _⟩
    | cons p rs =>
      have hAp := (show AllIn s (p :: rs) from (by rw [hqr] at hA; exact hA.right)).head
      have hkn : k < n2 := by rw [← hk, ← hN, hqr]; first | (simp; done) | (simp; omega)
      obtain ⟨b, off, rfl, hblt, hcc⟩ := hcell0 p (by rw [← hk, hqr, List.getElem?_append_right (Nat.le_refl _)]; simp)
      have cc : wr.cell? ⟨b, off + k, none⟩ = some (.int .i32 p) := by rw [HB.out.cell hblt]; exact hcc
      have KC := KU p wr hAp.1
      have KR := fun W => Ut.rput_yes p W hAp.1
      have hel := Ut.enc_len p
      have hl1 := List.length_pos_iff.2 hAp.2
      have hl4 := encS_len (s := s) hAp.1
      have HX : Hid (([254, 255] : List Int) ++ flatS s (qs ++ [p]) = (([254, 255] : List Int) ++ flatS s qs) ++ encS s p) := by unfold Hid; rw [flatS_append, flatS_cons, flatS_nil, List.append_nil, List.append_assoc]
      have HY : Hid ((Ut.flat (qs ++ [p])).length = z + (Ut.encZ p).length) := by unfold Hid; rw [Ut.flat_append, Ut.flat_cons, Ut.flat_nil, List.append_nil, List.length_append, hz]
      have HZ2 : Hid ((qs ++ [p]).length = k + 1) := by unfold Hid; rw [List.length_append, hk]; rfl
      obtain ⟨Z, hZ⟩ : ∃ Z, encS s p = Z := ⟨_, rfl⟩
      rw [hZ] at KC hl1 hl4 HX
      obtain ⟨Y, hY⟩ : ∃ Y, Ut.encZ p = Y := ⟨_, rfl⟩
      rw [hY] at hel HY
      simp only [hY] at KR
      clear hqr hown hb hN hk hz hcell0 hfl KU hAp hZ hY
      go_wp2_with fail
      refine KC.mono ?_
      rintro e w5 ⟨v5, rfl, hown5, hb5⟩
      obtain ⟨a5, cap5, rfl, hc5, hm5, hrow5, hn5⟩ := own_row' hown5
      obtain ⟨m5, hm5'⟩ : ∃ m5, Z.length = m5 := ⟨_, rfl⟩
      have HM5 : Hid (Z.length = m5) := hm5'
      rw [hm5'] at hl1 hl4 hc5
      try rw [hm5']
      have bm : ((m5 : Int) == 0) = false := by simp; omega
      have hs5 := hb5.size
      have HO5 : Hid (w5.ownsRow W.heap.size 5 1 u8 (([254, 255] : List Int) ++ flatS s qs).length ((([254, 255] : List Int) ++ flatS s qs).map (Value.int .u8))) := own_keep HO.out hb5
      have HB5 : Hid (Below W.heap.size W w5) := HB.out.trans (hb5.mono hsz)
      have HR5 : Hid (RowK .u8 w5 a5 Z) := hrow5
      clear hb5 KC hown5 hrow5 hm5'
      go_wp2_with (at_builtin; refine wpList_append_rowk rfl (.tmp 54) (.tmp 55) 22 rfl W.heap.size 5 j0 (.int .u8 0) 1 Tryd.underlying22 hi hz0 hz1 hz2 rfl .u8 _ _ _ rfl HO5.out a5 m5 cap5 Z rfl HM5.out hn5 HR5.out ?c1 ?c2 ?c3 ?_)
      case c1 => unfold maxLen; omega
      case c2 => omega
      case c3 => omega
      intro v6 w6 hown6 hgrow6
      have HO6' : Own w6 W.heap.size v6 ((([254, 255] : List Int) ++ flatS s qs) ++ Z) := own_snoc (by rw [HM5.out]; exact hown6)
      have HB6 : Hid (Below W.heap.size W w6) := HB5.out.grown hgrow6 (by omega) (fun k hk => (HO5.out.lt k hk).1)
      have hs6 := HB6.out.size
      have cc6 : w6.cell? ⟨b, off + k, none⟩ = some (.int .i32 p) := by rw [HB6.out.cell hblt]; exact hcc
      have HO6 : Hid (Own w6 W.heap.size v6 ((([254, 255] : List Int) ++ flatS s qs) ++ Z)) := HO6'
      clear hown6 hgrow6 HO6' cc
      go_wp2_with fail
      refine (KR _).mono ?_
      rintro e w7 ⟨v7, rfl, hown7, hb7⟩
      obtain ⟨a7, cap7, rfl, hc7, hm7, hrow7, hn7⟩ := own_row' hown7
      have HB7 : Hid (Below W.heap.size W w7) := HB6.out.trans (hb7.mono hs6)
      have HO7 : Hid (Own w7 W.heap.size v6 ((([254, 255] : List Int) ++ flatS s qs) ++ Z)) := own_keep HO6.out hb7
      obtain ⟨y, hy⟩ : ∃ y, Y.length = y := ⟨_, rfl⟩
      rw [hy] at hel HY
      try rw [hy]
      clear hown7 hrow7 hb7 KR hy hc7 hcc
      go_wp2
      go_roundw
      case rel => exact ⟨qs ++ [p], rs, by rw [HQ.out]; simp, by rw [HZ2.out]; go_num, by rw [HY.out]; go_num, by rw [HX.out]; exact HO7.out, HB7.out⟩
      case measure => simp [intOf]; omega
set_option maxRecDepth 100000 in
set_option maxHeartbeats 8000000 in
theorem rencode_no6 (set : ByteArray) (a : Option Addr) (len cap : Nat) (ps : List Int) (p0 : Int) (qs0 : List Int) (s : Int) (w : World) (hset : set.size ≤ 1000000) (hq : setB (lowS set) = 6) (hss : s = setS (setB (lowS set))) (hall : Ut.AllPt (ps ++ p0 :: qs0)) (hA : AllIn s ps) (hno : encS s p0 = []) (hlen : len ≤ 4000) (hpl : ((ps ++ p0 :: qs0)).length ≤ 4000) (hfl : (Ut.flat ((ps ++ p0 :: qs0))).length ≤ 4000)
    (KP : ∀ W, Below w.heap.size w W → Calls Tryd.prog 30 #[.slice a len cap] W fun e w' => ∃ v, e = .returned (.tuple #[v, .agg #[.int .i64 0, .int .i64 0]]) ∧ Ut.Own32 w' W.heap.size v (ps ++ p0 :: qs0) ∧ Below W.heap.size W w') :
    Calls Tryd.prog 15 #[.string set, .slice a len cap] w fun e w' => e = .returned (.tuple #[.slice none 0 0, .agg #[.int .i64 ((Ut.flat ps).length : Nat), .int .i64 10]]) ∧ Below w.heap.size w w' := by
  obtain ⟨j0, hi, hz0, hz1, hz2⟩ := info_parts Tryd.info5
  have KF := fun v : World => rset_any set v hset
  have hr := setB_range (lowS set)
  obtain ⟨q, hqq⟩ : ∃ q, setB (lowS set) = q := ⟨_, rfl⟩
  rw [hqq] at KF hr hss hq
  have KU : ∀ (p : Int) (W : World), Ut.ptB p = true → Calls Tryd.prog 31 #[.string (nmS q), .int .i32 p] W fun e w' => ∃ v, e = .returned v ∧ Own w' W.heap.size v (encS s p) ∧ Below W.heap.size W w' := fun p W hp => by rw [hss]; exact sput_any q p W (by omega) (by omega) hp
  have hnz := nm_some (q := q) (by omega) (by omega)
  have h16 := is16
  rw [← hq] at h16
  obtain ⟨x, hx⟩ : ∃ x, nmS q = x := ⟨_, rfl⟩
  rw [hx] at KF KU hnz h16
  clear hx hqq hr hss
  have HALL : Hid (Ut.AllPt ((ps ++ p0 :: qs0))) := hall
  clear hall
  go_enter Tryd.func15, Tryd.ntmps15
  go_wp2_with fail
  refine (KF _).mono ?_
  rintro e w1 ⟨rfl, hb1⟩
  have hs1 := hb1.size
  simp at hs1
  have HB1 : Below (w.heap.size + 1) (w.alloc (.cells #[.int .i64 0, .int .i64 0] 26)) w1 := by have := hb1; simpa using this
  have HO1 : Below w.heap.size w w1 := ((Below.refl _ w).alloc (Nat.le_refl _) _).trans (HB1.mono (Nat.le_succ _))
  go_wp2_with fail
  refine (KP _ HO1).mono ?_
  rintro e w2 ⟨v2, rfl, hown2, hb2⟩
  unfold Ut.Own32 at hown2
  obtain ⟨a2, cap2, rfl, hc2, hm2, hrow2, hn2⟩ := own_row' hown2
  have hs2 := hb2.size
  have HB2' : Below (w.heap.size + 1) (w.alloc (.cells #[.int .i64 0, .int .i64 0] 26)) (w2.alloc (.cells #[.int .i64 0, .int .i64 0] 26)) := (HB1.trans (hb2.mono hs1)).alloc (by omega) _
  have hrowW := Ut.rowK_below hrow2 (keep w2 (.cells #[.int .i64 0, .int .i64 0] 26))
  obtain ⟨W, hW⟩ : ∃ W, w2.alloc (.cells #[.int .i64 0, .int .i64 0] 26) = W := ⟨_, rfl⟩
  rw [hW] at HB2' hrowW
  have HWW : Hid (w2.alloc (.cells #[.int .i64 0, .int .i64 0] 26) = W) := hW
  have HB2 : Hid (Below (w.heap.size + 1) (w.alloc (.cells #[.int .i64 0, .int .i64 0] 26)) W) := HB2'
  have HWS : Hid (w2.heap.size + 1 = W.heap.size) := by unfold Hid; rw [← hW]; simp
  have HRW : Hid (RowK .i32 W a2 ((ps ++ p0 :: qs0))) := hrowW
  have hW0 : w.heap.size + 1 ≤ W.heap.size := by have := HB2'.size; simpa using this
  obtain ⟨n2, hn2'⟩ : ∃ n2, ((ps ++ p0 :: qs0)).length = n2 := ⟨_, rfl⟩
  have HN2 : Hid (((ps ++ p0 :: qs0)).length = n2) := hn2'
  rw [hn2'] at hc2 hpl
  try rw [hn2']
  clear hb1 hb2 HB1 HO1 KF KP hown2 hrow2 hW HB2' hrowW hn2'
  go_wp2_with (at_builtin; refine wpList_append_own _ rfl _ _ 22 rfl (w2.heap.size + 1) 5 j0 (.int .u8 0) 1 1 Tryd.underlying22 hi hz0 hz1 hz2 rfl (by decide) _ _ _ rfl ((World.ownsRow_nil (w2.alloc (.cells #[.int .i64 0, .int .i64 0] 26)) (w2.heap.size + 1) 5 1).alloc _) ⟨w2.heap.size + 1, 0, none⟩ 2 2 (([254, 255] : List Int).map (Value.int .u8)) rfl rfl (cells_at (by simp) _ _) (ints_one _) ?c3 ?c4 ?c5 ?_)
  case c3 => decide
  case c4 => omega
  case c5 => simp
  intro v3 w3 hown3 hgrow3 _
  have HB3' : Below (w2.heap.size + 1) (w2.alloc (.cells #[.int .i64 0, .int .i64 0] 26)) w3 := (((Below.refl _ _).alloc (by simp) _).grown hgrow3 (by simp) (fun k hk => by simp [Value.ownBlock] at hk))
  rw [HWW.out] at HB3'
  rw [HWS.out] at HB3' hown3
  have HB3 : Hid (Below W.heap.size W w3) := HB3'
  have HO3 : Hid (Own w3 W.heap.size v3 (([254, 255] : List Int) ++ flatS s [])) := hown3
  clear HB3' hown3 hgrow3
  go_wp2
  go_loopw [8, 9, 10] (fun v t i wr => ∃ (qs rs : List Int), ps = qs ++ rs ∧ i = .int .i64 (qs.length : Nat) ∧ t = .int .i64 ((Ut.flat qs).length : Nat) ∧ Own wr W.heap.size v (([254, 255] : List Int) ++ flatS s qs) ∧ Below W.heap.size W wr) (fun _ _ i _ => n2 - (intOf i).toNat)
  case atStart => exact ⟨[], ps, rfl, rfl, rfl, HO3.out, HB3.out⟩
  case round =>
    obtain ⟨qs, rs, hqr, rfl, rfl, hown, hb⟩ := hrel
    have HQ : Hid (ps = qs ++ rs) := hqr
    have HO : Hid (wr.ownsRow W.heap.size 5 1 u8 (([254, 255] : List Int) ++ flatS s qs).length ((([254, 255] : List Int) ++ flatS s qs).map (Value.int .u8))) := hown
    have HB : Hid (Below W.heap.size W wr) := hb
    have hsz := hb.size
    have HAL : Hid (Below (w.heap.size + 1) (w.alloc (.cells #[.int .i64 0, .int .i64 0] 26)) wr) := HB2.out.trans (hb.mono hW0)
    have HOO : Hid (Below w.heap.size w wr) := ((Below.refl _ w).alloc (Nat.le_refl _) _).trans (HAL.out.mono (Nat.le_succ _))
    have hN := HN2.out
    have hfq : (Ut.flat qs).length ≤ 4000 := by
      have h1 := congrArg (fun z => (Ut.flat (z ++ p0 :: qs0)).length) hqr
      simp only [Ut.flat_append, List.append_assoc, List.length_append] at h1
      rw [Ut.flat_append, List.length_append] at hfl
      omega
    have hsl : (([254, 255] : List Int) ++ flatS s qs).length ≤ 20000 := by
      have := flatS_le (s := s) (ps := qs) (AllIn.pts (AllIn.left (by rw [hqr] at hA; exact hA)))
      have h2 : qs.length ≤ n2 := by rw [← hN, hqr]; simp
      rw [List.length_append]; simp; omega
    have hcell0 : ∀ p, ((ps ++ p0 :: qs0))[qs.length]? = some p → ∃ b off, a2 = some ⟨b, off, none⟩ ∧ b < W.heap.size ∧ W.cell? ⟨b, off + qs.length, none⟩ = some (.int .i32 p) := by
      intro p hp
      obtain ⟨b, off, hab, hc⟩ := rowK_at HRW.out hp
      exact ⟨b, off, hab, World.block_lt_of_cell? W _ (hc _ _ hp), hc _ _ hp⟩
    obtain ⟨k, hk⟩ : ∃ k, qs.length = k := ⟨_, rfl⟩
    obtain ⟨z, hz⟩ : ∃ z, (Ut.flat qs).length = z := ⟨_, rfl⟩
    have HK : Hid (qs.length = k) := hk
    have HZ : Hid ((Ut.flat qs).length = z) := hz
    rw [hz] at hfq
    rw [hz, hk]
    rw [hk] at hcell0
    cases rs with
    | nil =>
      have hpq : ps = qs := by rw [hqr, List.append_nil]
      have hkn : k < n2 := by rw [← hk, ← hN, hpq]; simp
      have HZP : Hid (z = (Ut.flat ps).length) := by unfold Hid; rw [← hz, hpq]
      obtain ⟨b, off, rfl, hblt, hcc⟩ := hcell0 p0 (by rw [← hk, hpq, List.getElem?_append_right (Nat.le_refl _)]; simp)
      have cc : wr.cell? ⟨b, off + k, none⟩ = some (.int .i32 p0) := by rw [HB.out.cell hblt]; exact hcc
      have KC := KU p0 wr (HALL.out p0 (by simp))
      rw [hno] at KC
      clear hqr hown hb hN hk hz hcell0 hfl hpq KU hcc
      go_wp2_with fail
      refine KC.mono ?_
      rintro e w5 ⟨v5, rfl, hown5, hb5⟩
      obtain ⟨a5, cap5, rfl, hc5, hm5, hrow5, hn5⟩ := own_row' hown5
      have HB5 : Below (w.heap.size + 1) (w.alloc (.cells #[.int .i64 0, .int .i64 0] 26)) w5 := HAL.out.trans (hb5.mono (by omega))
      have c0 : w5.cell? ⟨w.heap.size, 0, none⟩ = some (.int .i64 0) := by rw [HB5.cell (by simp)]; simp
      have c1 : w5.cell? ⟨w.heap.size, 1, none⟩ = some (.int .i64 0) := by rw [HB5.cell (by simp)]; simp
      have f0 : w5.frozen? ⟨w.heap.size, 0, none⟩ = false := by rw [HB5.frozen (by simp)]; simp
      have f1 : w5.frozen? ⟨w.heap.size, 1, none⟩ = false := by rw [HB5.frozen (by simp)]; simp
      have HO5 : Hid (Below w.heap.size w w5) := HOO.out.trans (hb5.mono (by omega))
      clear HB5 hb5 KC hown5 hrow5
      go_wp2
      exact bodyPost_ret (v := .tuple #[.slice none 0 0, .agg #[.int .i64 z, .int .i64 10]]) (by simp [results, Tryd.results15, go_sem, c0, c1]) rfl ⟨by rw [HZP.out], (HO5.out.setCell (by simp) _).setCell (by simp) _⟩
    | cons p rs =>
      have hAp := (show AllIn s (p :: rs) from (by rw [hqr] at hA; exact hA.right)).head
      have hkn : k < n2 := by rw [← hk, ← hN, hqr]; first | (simp; done) | (simp; omega)
      obtain ⟨b, off, rfl, hblt, hcc⟩ := hcell0 p (by rw [← hk, hqr, List.append_assoc, List.getElem?_append_right (Nat.le_refl _)]; simp)
      have cc : wr.cell? ⟨b, off + k, none⟩ = some (.int .i32 p) := by rw [HB.out.cell hblt]; exact hcc
      have KC := KU p wr hAp.1
      have KR := fun W => Ut.rput_yes p W hAp.1
      have hel := Ut.enc_len p
      have hl1 := List.length_pos_iff.2 hAp.2
      have hl4 := encS_len (s := s) hAp.1
      have HX : Hid (([254, 255] : List Int) ++ flatS s (qs ++ [p]) = (([254, 255] : List Int) ++ flatS s qs) ++ encS s p) := by unfold Hid; rw [flatS_append, flatS_cons, flatS_nil, List.append_nil, List.append_assoc]
      have HY : Hid ((Ut.flat (qs ++ [p])).length = z + (Ut.encZ p).length) := by unfold Hid; rw [Ut.flat_append, Ut.flat_cons, Ut.flat_nil, List.append_nil, List.length_append, hz]
      have HZ2 : Hid ((qs ++ [p]).length = k + 1) := by unfold Hid; rw [List.length_append, hk]; rfl
      obtain ⟨Z, hZ⟩ : ∃ Z, encS s p = Z := ⟨_, rfl⟩
      rw [hZ] at KC hl1 hl4 HX
      obtain ⟨Y, hY⟩ : ∃ Y, Ut.encZ p = Y := ⟨_, rfl⟩
      rw [hY] at hel HY
      simp only [hY] at KR
      clear hqr hown hb hN hk hz hcell0 hfl KU hAp hZ hY
      go_wp2_with fail
      refine KC.mono ?_
      rintro e w5 ⟨v5, rfl, hown5, hb5⟩
      obtain ⟨a5, cap5, rfl, hc5, hm5, hrow5, hn5⟩ := own_row' hown5
      obtain ⟨m5, hm5'⟩ : ∃ m5, Z.length = m5 := ⟨_, rfl⟩
      have HM5 : Hid (Z.length = m5) := hm5'
      rw [hm5'] at hl1 hl4 hc5
      try rw [hm5']
      have bm : ((m5 : Int) == 0) = false := by simp; omega
      have hs5 := hb5.size
      have HO5 : Hid (w5.ownsRow W.heap.size 5 1 u8 (([254, 255] : List Int) ++ flatS s qs).length ((([254, 255] : List Int) ++ flatS s qs).map (Value.int .u8))) := own_keep HO.out hb5
      have HB5 : Hid (Below W.heap.size W w5) := HB.out.trans (hb5.mono hsz)
      have HR5 : Hid (RowK .u8 w5 a5 Z) := hrow5
      clear hb5 KC hown5 hrow5 hm5'
      go_wp2_with (at_builtin; refine wpList_append_rowk rfl (.tmp 54) (.tmp 55) 22 rfl W.heap.size 5 j0 (.int .u8 0) 1 Tryd.underlying22 hi hz0 hz1 hz2 rfl .u8 _ _ _ rfl HO5.out a5 m5 cap5 Z rfl HM5.out hn5 HR5.out ?c1 ?c2 ?c3 ?_)
      case c1 => unfold maxLen; omega
      case c2 => omega
      case c3 => omega
      intro v6 w6 hown6 hgrow6
      have HO6' : Own w6 W.heap.size v6 ((([254, 255] : List Int) ++ flatS s qs) ++ Z) := own_snoc (by rw [HM5.out]; exact hown6)
      have HB6 : Hid (Below W.heap.size W w6) := HB5.out.grown hgrow6 (by omega) (fun k hk => (HO5.out.lt k hk).1)
      have hs6 := HB6.out.size
      have cc6 : w6.cell? ⟨b, off + k, none⟩ = some (.int .i32 p) := by rw [HB6.out.cell hblt]; exact hcc
      have HO6 : Hid (Own w6 W.heap.size v6 ((([254, 255] : List Int) ++ flatS s qs) ++ Z)) := HO6'
      clear hown6 hgrow6 HO6' cc
      go_wp2_with fail
      refine (KR _).mono ?_
      rintro e w7 ⟨v7, rfl, hown7, hb7⟩
      obtain ⟨a7, cap7, rfl, hc7, hm7, hrow7, hn7⟩ := own_row' hown7
      have HB7 : Hid (Below W.heap.size W w7) := HB6.out.trans (hb7.mono hs6)
      have HO7 : Hid (Own w7 W.heap.size v6 ((([254, 255] : List Int) ++ flatS s qs) ++ Z)) := own_keep HO6.out hb7
      obtain ⟨y, hy⟩ : ∃ y, Y.length = y := ⟨_, rfl⟩
      rw [hy] at hel HY
      try rw [hy]
      clear hown7 hrow7 hb7 KR hy hc7 hcc
      go_wp2
      go_roundw
      case rel => exact ⟨qs ++ [p], rs, by rw [HQ.out]; simp, by rw [HZ2.out]; go_num, by rw [HY.out]; go_num, by rw [HX.out]; exact HO7.out, HB7.out⟩
      case measure => simp [intOf]; omega
end Go.Proofs.YtlhhbmolkiojfaaDoor
