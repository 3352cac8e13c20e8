/-
  The contracts of Text and Same.
-/
import Derived.Test.YtfhgkkdbkbbpkaaDoorCUPoints
import Derived.Test.YtfhgkkdbkbbpkaaDoorCUApp
namespace Go.Proofs.YtfhgkkdbkbbpkaaDoor.Cs.Ut
open Go.RowKit
set_option linter.unusedVariables false

theorem rowK_below {k : IntKind} {w w' : World} {a : Option Addr} {l : List Int} (h : RowK k w a l) (hb : Below w.heap.size w w') : RowK k w' a l := by
  rcases h with rfl | ⟨b, off, rfl, h⟩
  · exact .inl rfl
  · refine .inr ⟨b, off, rfl, fun i hi => ?_⟩
    rw [hb.cell (World.block_lt_of_cell? w _ (h i hi))]
    exact h i hi
theorem take_more {x y : List Int} {k m : Nat} (hx : x.length = m) (hy : y.length = m) (hk : k < m) (ht : x.take k = y.take k) (he : x.getD k 0 = y.getD k 0) : x.take (k + 1) = y.take (k + 1) := by
  rw [List.take_succ_eq_append_getElem (by omega), List.take_succ_eq_append_getElem (by omega), ht]
  simp only [List.getD_eq_getElem?_getD, List.getElem?_eq_getElem (show k < x.length by omega), List.getElem?_eq_getElem (show k < y.length by omega), Option.getD_some] at he
  rw [he]
theorem flat_le : ∀ ps : List Int, (flat ps).length ≤ 4 * ps.length
  | [] => by simp [flat]
  | p :: ps => by have := flat_le ps; have := enc_len p; rw [flat_cons, List.length_append, List.length_cons]; omega

set_option maxRecDepth 100000 in
set_option maxHeartbeats 2000000 in
theorem text_yes (a : Option Addr) (len cap : Nat) (ps : List Int) (w : World) (hlen : ps.length = len) (hps : AllPt ps) (hcap : len ≤ cap) (hm : cap ≤ maxLen) (hsmall : len ≤ 4000) (hrow : RowK .i32 w a ps) :
    Calls Tryd.prog 79 #[.slice a len cap] w fun e w' => ∃ v, e = .returned (.tuple #[v, .agg #[.int .i64 0, .int .i64 0]]) ∧ Own w' w.heap.size v (flat ps) ∧ Below w.heap.size w w' := by
  have hm' := hm
  unfold maxLen at hm'
  have HL : Hid (ps.length = len) := hlen
  have HW : Hid (RowK .i32 w a ps) := hrow
  clear hlen hrow
  go_enter Tryd.func79, Tryd.ntmps79
  go_wp2
  go_loopw [4, 9] (fun v i wr => ∃ qs rs : List Int, ps = qs ++ rs ∧ i = .int .i64 qs.length ∧ Own wr (w.heap.size + 1) v (flat qs) ∧ Below (w.heap.size + 1) (w.alloc (.cells #[.int .i64 0, .int .i64 0] 75)) wr) (fun _ i _ => len - (intOf i).toNat)
  case atStart => exact ⟨[], ps, rfl, rfl, World.ownsRow_nil _ _ _ _, Below.refl _ _⟩
  case round =>
    obtain ⟨qs, rs, hqr, rfl, hown, hbel⟩ := hrel
    have hlen := HL.out
    obtain ⟨k, hk⟩ : ∃ k, k = qs.length := ⟨_, rfl⟩
    rw [← hk]
    have HK : Hid (k = qs.length) := hk
    have HQ : Hid (ps = qs ++ rs) := hqr
    have HB : Hid (Below (w.heap.size + 1) (w.alloc (.cells #[.int .i64 0, .int .i64 0] 75)) wr) := hbel
    have HO : Hid (Below w.heap.size w wr) := ((Below.refl _ w).alloc (Nat.le_refl _) _).trans (hbel.mono (Nat.le_succ _))
    have hsz : w.heap.size + 1 ≤ wr.heap.size := by have := hbel.size; simpa using this
    cases rs with
    | nil =>
      have hkl : k = len := by rw [hk, ← hlen, hqr, List.append_nil]
      obtain rfl := hkl
      have c0 : wr.cell? ⟨w.heap.size, 0, none⟩ = some (.int .i64 0) := by rw [hbel.cell (by simp)]; simp
      have c1 : wr.cell? ⟨w.heap.size, 1, none⟩ = some (.int .i64 0) := by rw [hbel.cell (by simp)]; simp
      have f0 : wr.frozen? ⟨w.heap.size, 0, none⟩ = false := by rw [hbel.frozen (by simp)]; simp
      have f1 : wr.frozen? ⟨w.heap.size, 1, none⟩ = false := by rw [hbel.frozen (by simp)]; simp
      have HV : Hid (Own wr (w.heap.size + 1) u4 (flat ps)) := by unfold Hid; rw [HQ.out, List.append_nil]; exact hown
      clear hk hqr hbel hlen hown
      go_wp2
      exact bodyPost_ret (v := .tuple #[u4, .agg #[.int .i64 0, .int .i64 0]]) (by simp [results, Tryd.results79, go_sem, c0, c1]) rfl
        ⟨u4, rfl, own_base (Nat.le_succ _) (ownsRow_setCell_below (ownsRow_setCell_below HV.out (by simp) _) (by simp) _), (HO.out.setCell (by simp) _).setCell (by simp) _⟩
    | cons p rs =>
      have hkl : k < len := by rw [← hlen, hqr, hk]; simp
      have hp : ptB p = true := hps p (by rw [hqr]; simp)
      have hps0 : ps ≠ [] := by rw [hqr]; simp
      have hget : ps.getD k 0 = p := by rw [hqr, hk]; simp [List.getD_eq_getElem?_getD]
      rcases rowK_below HW.out HO.out with h0 | ⟨b, off, rfl, hc⟩
      · exact absurd h0 hps0
      · have hc' := hc k (by omega)
        rw [hget] at hc'
        have HP : Hid (ptB p = true) := hp
        have hs0 : (sizeZ p == 0) = false := by
          have := enc_len p
          rw [sizeZ, if_pos hp, beq_eq_false_iff_ne]; omega
        have hfl : (flat qs).length ≤ 70368744177664 := by have := flat_le qs; omega
        clear hk hqr hbel hlen hp hps0 hget hc
        go_wp2_with (first
          | (go_at_call 84; refine (size_any _ _).mono ?_; rintro e w' ⟨rfl, rfl⟩)
          | (go_at_call 96; refine (appendPoint_any p wr (w.heap.size + 1) _ (flat qs) HP.out hown hsz hfl).mono ?_; rintro e w' ⟨v, rfl, hown', hb'⟩))
        have HO' : Hid (Own w' (w.heap.size + 1) v (flat (qs ++ [p]))) := by
          unfold Hid; rw [flat_append, flat_cons, flat_nil, List.append_nil]; exact hown'
        have HB' : Hid (Below (w.heap.size + 1) (w.alloc (.cells #[.int .i64 0, .int .i64 0] 75)) w') := HB.out.trans hb'
        go_roundw
        case rel => exact ⟨qs ++ [p], rs, by rw [HQ.out]; simp, by rw [List.length_append, ← HK.out]; rfl, HO'.out, HB'.out⟩
        case measure => simp [intOf]; omega

set_option maxRecDepth 100000 in
set_option maxHeartbeats 2000000 in
theorem text_no (a : Option Addr) (len cap : Nat) (ps : List Int) (q : Int) (t : List Int) (w : World) (hlen : (ps ++ q :: t).length = len) (hps : AllPt ps) (hq : ptB q = false) (hcap : len ≤ cap) (hm : cap ≤ maxLen) (hsmall : len ≤ 4000) (hrow : RowK .i32 w a (ps ++ q :: t)) :
    Calls Tryd.prog 79 #[.slice a len cap] w fun e w' => e = .returned (.tuple #[.slice none 0 0, .agg #[.int .i64 ps.length, .int .i64 20]]) ∧ Below w.heap.size w w' := by
  have hm' := hm
  unfold maxLen at hm'
  have HL : Hid ((ps ++ q :: t).length = len) := hlen
  have HW : Hid (RowK .i32 w a (ps ++ q :: t)) := hrow
  have hs1 : (sizeZ q == 0) = true := by rw [sizeZ, if_neg (by rw [hq]; simp)]; rfl
  clear hlen hrow hq
  go_enter Tryd.func79, Tryd.ntmps79
  go_wp2
  go_loopw [4, 9] (fun v i wr => ∃ qs rs : List Int, ps = qs ++ rs ∧ i = .int .i64 qs.length ∧ Own wr (w.heap.size + 1) v (flat qs) ∧ Below (w.heap.size + 1) (w.alloc (.cells #[.int .i64 0, .int .i64 0] 75)) wr) (fun _ i _ => len - (intOf i).toNat)
  case atStart => exact ⟨[], ps, rfl, rfl, World.ownsRow_nil _ _ _ _, Below.refl _ _⟩
  case round =>
    obtain ⟨qs, rs, hqr, rfl, hown, hbel⟩ := hrel
    have hlen := HL.out
    obtain ⟨k, hk⟩ : ∃ k, k = qs.length := ⟨_, rfl⟩
    rw [← hk]
    have HK : Hid (k = qs.length) := hk
    have HQ : Hid (ps = qs ++ rs) := hqr
    have HB : Hid (Below (w.heap.size + 1) (w.alloc (.cells #[.int .i64 0, .int .i64 0] 75)) wr) := hbel
    have HO : Hid (Below w.heap.size w wr) := ((Below.refl _ w).alloc (Nat.le_refl _) _).trans (hbel.mono (Nat.le_succ _))
    have hsz : w.heap.size + 1 ≤ wr.heap.size := by have := hbel.size; simpa using this
    cases rs with
    | nil =>
      have hpq : ps = qs := by rw [hqr, List.append_nil]
      have hkl : k < len := by rw [← hlen, hpq, hk]; simp
      have HKP : Hid (ps.length = k) := by unfold Hid; rw [hpq]; exact hk.symm
      have hget : (ps ++ q :: t).getD k 0 = q := by rw [hpq, hk]; simp [List.getD_eq_getElem?_getD]
      have c0 : wr.cell? ⟨w.heap.size, 0, none⟩ = some (.int .i64 0) := by rw [hbel.cell (by simp)]; simp
      have c1 : wr.cell? ⟨w.heap.size, 1, none⟩ = some (.int .i64 0) := by rw [hbel.cell (by simp)]; simp
      have f0 : wr.frozen? ⟨w.heap.size, 0, none⟩ = false := by rw [hbel.frozen (by simp)]; simp
      have f1 : wr.frozen? ⟨w.heap.size, 1, none⟩ = false := by rw [hbel.frozen (by simp)]; simp
      rcases rowK_below HW.out HO.out with h0 | ⟨b, off, rfl, hc⟩
      · exact absurd h0 (by simp)
      · have hc' := hc k (by omega)
        rw [hget] at hc'
        clear hk hqr hbel hlen hpq hget hc hown
        go_wp2_with (go_at_call 84; refine (size_any _ _).mono ?_; rintro e w' ⟨rfl, rfl⟩)
        exact bodyPost_ret (v := .tuple #[.slice none 0 0, .agg #[.int .i64 ps.length, .int .i64 20]]) (by rw [HKP.out]; simp [results, Tryd.results79, go_sem, c0, c1]) rfl
          ⟨rfl, (HO.out.setCell (by simp) _).setCell (by simp) _⟩
    | cons p rs =>
      have hkl : k < len := by rw [← hlen, hqr, hk]; simp
      have hp : ptB p = true := hps p (by rw [hqr]; simp)
      have hps0 : ps ++ q :: t ≠ [] := by simp
      have hget : (ps ++ q :: t).getD k 0 = p := by rw [hqr, hk]; simp [List.getD_eq_getElem?_getD]
      rcases rowK_below HW.out HO.out with h0 | ⟨b, off, rfl, hc⟩
      · exact absurd h0 hps0
      · have hc' := hc k (by omega)
        rw [hget] at hc'
        have HP : Hid (ptB p = true) := hp
        have hs0 : (sizeZ p == 0) = false := by
          have := enc_len p
          rw [sizeZ, if_pos hp, beq_eq_false_iff_ne]; omega
        have hfl : (flat qs).length ≤ 70368744177664 := by have := flat_le qs; omega
        clear hk hqr hbel hlen hp hps0 hget hc
        go_wp2_with (first
          | (go_at_call 84; refine (size_any _ _).mono ?_; rintro e w' ⟨rfl, rfl⟩)
          | (go_at_call 96; refine (appendPoint_any p wr (w.heap.size + 1) _ (flat qs) HP.out hown hsz hfl).mono ?_; rintro e w' ⟨v, rfl, hown', hb'⟩))
        have HO' : Hid (Own w' (w.heap.size + 1) v (flat (qs ++ [p]))) := by
          unfold Hid; rw [flat_append, flat_cons, flat_nil, List.append_nil]; exact hown'
        have HB' : Hid (Below (w.heap.size + 1) (w.alloc (.cells #[.int .i64 0, .int .i64 0] 75)) w') := HB.out.trans hb'
        go_roundw
        case rel => exact ⟨qs ++ [p], rs, by rw [HQ.out]; simp, by rw [List.length_append, ← HK.out]; rfl, HO'.out, HB'.out⟩
        case measure => simp [intOf]; omega

end Go.Proofs.YtfhgkkdbkbbpkaaDoor.Cs.Ut
