/-
  The contracts of the reference's Points, Text, Valid and Cut.
-/
import Derived.Test.YtfhgkkdbkbbpkaaDoorCUApp
import Derived.Test.YtfhgkkdbkbbpkaaDoorCURnext
namespace Go.Proofs.YtfhgkkdbkbbpkaaDoor.Cs.Ut
open Go.RowKit
set_option linter.unusedVariables false

theorem own_keep {w w' : World} {B : Nat} {e : TypeId} {size : Nat} {v : Value} {n : Nat} {xs : List Value} (h : w.ownsRow B e size v n xs) (hb : Below w.heap.size w w') : w'.ownsRow B e size v n xs := by
  refine ⟨h.1, ?_⟩
  rcases h.2 with h | ⟨g, cap, cur, h1, h2, h3, h4⟩
  · exact .inl h
  · exact .inr ⟨g, cap, cur, h1, h2, (hb.block g (Array.getElem?_eq_some_iff.1 h3).1).trans h3, h4⟩

set_option maxRecDepth 100000 in
set_option maxHeartbeats 2000000 in
theorem rpoints_yes (a : Option Addr) (len cap : Nat) (ps : List Int) (w : World) (hlen : (flat ps).length = len) (hps : AllPt ps) (hcap : len ≤ cap) (hm : cap ≤ maxLen) (hsmall : len ≤ 4000) (hrow : Row w a (flat ps)) :
    Calls Tryd.prog 46 #[.slice a len cap] w fun e w' => ∃ v, e = .returned (.tuple #[v, .agg #[.int .i64 0, .int .i64 0]]) ∧ Own32 w' w.heap.size v ps ∧ Below w.heap.size w w' := by
  obtain ⟨i0, hi, hz0, hz1, hz2⟩ := info_parts Tryd.info21
  have hm' := hm
  unfold maxLen at hm'
  have HL : Hid ((flat ps).length = len) := hlen
  have HW : Hid (Row w a (flat ps)) := hrow
  clear hlen hrow
  go_enter Tryd.func46, Tryd.ntmps46
  go_wp2
  go_loopw [4, 5] (fun v i wr => ∃ qs rs : List Int, ps = qs ++ rs ∧ i = .int .i64 (flat qs).length ∧ Own32 wr (w.heap.size + 1) v qs ∧ Below (w.heap.size + 1) (w.alloc (.cells #[.int .i64 0, .int .i64 0] 75)) wr) (fun _ i _ => len - (intOf i).toNat)
  case atStart => exact ⟨[], ps, rfl, rfl, World.ownsRow_nil _ _ _ _, Below.refl _ _⟩
  case round =>
    obtain ⟨qs, rs, hqr, rfl, hown, hbel⟩ := hrel
    have hlen := HL.out
    obtain ⟨k, hk⟩ : ∃ k, k = (flat qs).length := ⟨_, rfl⟩
    rw [← hk]
    have HK : Hid (k = (flat qs).length) := hk
    have HQ : Hid (ps = qs ++ rs) := hqr
    have HB : Hid (Below (w.heap.size + 1) (w.alloc (.cells #[.int .i64 0, .int .i64 0] 75)) wr) := hbel
    have HO : Hid (Below w.heap.size w wr) := ((Below.refl _ w).alloc (Nat.le_refl _) _).trans (hbel.mono (Nat.le_succ _))
    have hsz : w.heap.size + 1 ≤ wr.heap.size := by have := hbel.size; simpa using this
    cases rs with
    | nil =>
      have hkl : k = len := by rw [hk, ← hlen, hqr, List.append_nil]
      obtain rfl := hkl
      have c0 : wr.cell? ⟨w.heap.size, 0, none⟩ = some (.int .i64 0) := by rw [hbel.cell (by simp)]; simp
      have c1 : wr.cell? ⟨w.heap.size, 1, none⟩ = some (.int .i64 0) := by rw [hbel.cell (by simp)]; simp
      have f0 : wr.frozen? ⟨w.heap.size, 0, none⟩ = false := by rw [hbel.frozen (by simp)]; simp
      have f1 : wr.frozen? ⟨w.heap.size, 1, none⟩ = false := by rw [hbel.frozen (by simp)]; simp
      clear hk hqr hbel hlen
      have HV : Hid (Own32 wr (w.heap.size + 1) u4 ps) := by unfold Hid; rw [HQ.out, List.append_nil]; exact hown
      clear hown
      go_wp2
      exact bodyPost_ret (v := .tuple #[u4, .agg #[.int .i64 0, .int .i64 0]]) (by simp [results, Tryd.results46, go_sem, c0, c1]) rfl
        ⟨u4, rfl, own_base (Nat.le_succ _) (ownsRow_setCell_below (ownsRow_setCell_below HV.out (by simp) _) (by simp) _), (HO.out.setCell (by simp) _).setCell (by simp) _⟩
    | cons p rs =>
      have hpl := enc_len p
      have hkl : k + (encZ p).length ≤ len := by
        rw [← hlen, hqr, flat_append, flat_cons, List.length_append, List.length_append]; omega
      have HD : Hid ((flat ps).drop k = flat (p :: rs) ++ []) := by
        unfold Hid; rw [hqr, flat_append, hk, List.drop_left, List.append_nil]
      have HR : Hid (Row wr (Option.map (fun x => x.add k) a) (flat (p :: rs) ++ [])) := by
        have := row_drop (n := k) (cap := cap) (row_below HW.out HO.out) (by omega)
        rw [if_neg (by omega), HD.out] at this
        exact this
      have HN : Hid ((flat (p :: rs) ++ []).length = len - k) := by unfold Hid; rw [← HD.out, List.length_drop, hlen]
      have HA : Hid (AllPt (p :: rs)) := by rw [hqr] at hps; exact hps.right
      have hq2 : qs.length ≤ k := by rw [hk]; exact flat_ge qs
      clear hk hqr hbel hlen
      unfold Own32 at hown
      go_wp2_with (first
        | (go_at_call 67; refine (rnext_some (Option.map (fun x => x.add k) a) (len - k) (cap - k) (flat (p :: rs) ++ []) p wr HN.out ((flat_byt HA.out).append (by intro x hx; simp at hx)) (by omega) (by unfold maxLen; omega) HR.out (dec_flat HA.out)).mono ?_; rintro e wn ⟨rfl, hbn⟩)
        | (at_builtin; refine wpList_append_own _ rfl _ _ 73 rfl (w.heap.size + 1) 21 i0 (.int .i32 0) 1 4 Tryd.underlying73 hi hz0 hz1 hz2 rfl (by decide) _ _ _ rfl ((own_keep hown hbn).alloc _) ⟨wn.heap.size, 0, none⟩ 1 1 ([p].map (Value.int .i32)) rfl rfl (cells_new _ _ _) (ints_one32 _) ?c3 ?c4 ?c5 ?_))
      case c3 => unfold maxLen; omega
      case c4 => omega
      case c5 => have := hbn.size; simp; omega
      intro v' w1 hown' hgrow _
      have HO' : Hid (Own32 w1 (w.heap.size + 1) v' (qs ++ [p])) := by
        unfold Hid Own32; rw [List.length_append, List.map_append]; exact hown'
      have HB' : Hid (Below (w.heap.size + 1) (w.alloc (.cells #[.int .i64 0, .int .i64 0] 75)) w1) :=
        ((HB.out.trans (hbn.mono hsz)).alloc (by have := hbn.size; omega) _).grown hgrow (by have := hbn.size; simp; omega) (fun k hk => (hown.lt k hk).1)
      clear hown' hgrow hown hbn
      go_wp2
      go_roundw
      case rel => exact ⟨qs ++ [p], rs, by rw [HQ.out]; simp, by rw [flat_append, List.length_append, ← HK.out]; simp [flat], HO'.out, HB'.out⟩
      case measure => simp [intOf]; omega


set_option maxRecDepth 100000 in
set_option maxHeartbeats 2000000 in
theorem rpoints_no (a : Option Addr) (len cap : Nat) (ps r : List Int) (w : World) (hlen : (flat ps ++ r).length = len) (hps : AllPt ps) (hr : decZ r = none) (hne : r ≠ []) (hb : Byt r) (hcap : len ≤ cap) (hm : cap ≤ maxLen) (hsmall : len ≤ 4000) (hrow : Row w a (flat ps ++ r)) :
    Calls Tryd.prog 46 #[.slice a len cap] w fun e w' => e = .returned (.tuple #[.slice none 0 0, .agg #[.int .i64 (flat ps).length, .int .i64 20]]) ∧ Below w.heap.size w w' := by
  obtain ⟨i0, hi, hz0, hz1, hz2⟩ := info_parts Tryd.info21
  have hm' := hm
  unfold maxLen at hm'
  have HL : Hid ((flat ps ++ r).length = len) := hlen
  have HW : Hid (Row w a (flat ps ++ r)) := hrow
  have HZ : Hid (decZ r = none) := hr
  have HE : Hid (r ≠ []) := hne
  clear hlen hrow hr hne
  go_enter Tryd.func46, Tryd.ntmps46
  go_wp2
  go_loopw [4, 5] (fun v i wr => ∃ qs rs : List Int, ps = qs ++ rs ∧ i = .int .i64 (flat qs).length ∧ Own32 wr (w.heap.size + 1) v qs ∧ Below (w.heap.size + 1) (w.alloc (.cells #[.int .i64 0, .int .i64 0] 75)) wr) (fun _ i _ => len - (intOf i).toNat)
  case atStart => exact ⟨[], ps, rfl, rfl, World.ownsRow_nil _ _ _ _, Below.refl _ _⟩
  case round =>
    obtain ⟨qs, rs, hqr, rfl, hown, hbel⟩ := hrel
    have hlen := HL.out
    obtain ⟨k, hk⟩ : ∃ k, k = (flat qs).length := ⟨_, rfl⟩
    rw [← hk]
    have HK : Hid (k = (flat qs).length) := hk
    have HQ : Hid (ps = qs ++ rs) := hqr
    have HB : Hid (Below (w.heap.size + 1) (w.alloc (.cells #[.int .i64 0, .int .i64 0] 75)) wr) := hbel
    have HO : Hid (Below w.heap.size w wr) := ((Below.refl _ w).alloc (Nat.le_refl _) _).trans (hbel.mono (Nat.le_succ _))
    have hsz : w.heap.size + 1 ≤ wr.heap.size := by have := hbel.size; simpa using this
    cases rs with
    | nil =>
      have hpq : ps = qs := by rw [hqr, List.append_nil]
      have hrp : 0 < r.length := List.length_pos_iff.2 HE.out
      have hkl : k + r.length = len := by rw [hk, ← hlen, hpq, List.length_append]
      have hkl' : k < len := by omega
      have HKP : Hid (k = (flat ps).length) := by unfold Hid; rw [hpq]; exact hk
      have HR : Hid (Row wr (Option.map (fun x => x.add k) a) r) := by
        have := row_drop (n := k) (cap := cap) (row_below HW.out HO.out) (by omega)
        rw [if_neg (by omega), HKP.out, List.drop_left] at this
        unfold Hid; rw [HKP.out]; exact this
      have HN : Hid (r.length = len - k) := by unfold Hid; omega
      clear hk hqr hbel hlen hpq hkl
      go_wp2_with fail
      refine (rnext_none (Option.map (fun x => x.add k) a) (len - k) (cap - k) r wr HN.out hb (by omega) (by unfold maxLen; omega) HR.out HE.out HZ.out).mono ?_
      rintro e wn ⟨rfl, hbn⟩
      have hbw := HB.out
      have c0 : wn.cell? ⟨w.heap.size, 0, none⟩ = some (.int .i64 0) := by rw [hbn.cell (by simp; omega), hbw.cell (by simp)]; simp
      have c1 : wn.cell? ⟨w.heap.size, 1, none⟩ = some (.int .i64 0) := by rw [hbn.cell (by simp; omega), hbw.cell (by simp)]; simp
      have f0 : wn.frozen? ⟨w.heap.size, 0, none⟩ = false := by rw [hbn.frozen (by simp; omega), hbw.frozen (by simp)]; simp
      have f1 : wn.frozen? ⟨w.heap.size, 1, none⟩ = false := by rw [hbn.frozen (by simp; omega), hbw.frozen (by simp)]; simp
      have hsn : w.heap.size + 1 ≤ wn.heap.size := by have := hbn.size; omega
      have HON : Hid (Below w.heap.size w wn) := HO.out.trans (hbn.mono HO.out.size)
      clear hbn hbw
      go_wp2
      exact bodyPost_ret (v := .tuple #[.slice none 0 0, .agg #[.int .i64 (flat ps).length, .int .i64 20]]) (by rw [← HKP.out]; simp [results, Tryd.results46, go_sem, c0, c1]) rfl
        ⟨rfl, (HON.out.setCell (by simp) _).setCell (by simp) _⟩
    | cons p rs =>
      have hpl := enc_len p
      have hkl : k + (encZ p).length ≤ len := by
        rw [← hlen, hqr, flat_append, flat_cons, List.length_append, List.length_append, List.length_append]; omega
      have HD : Hid ((flat ps ++ r).drop k = flat (p :: rs) ++ r) := by
        unfold Hid; rw [hqr, flat_append, hk, List.append_assoc, List.drop_left]
      have HR : Hid (Row wr (Option.map (fun x => x.add k) a) (flat (p :: rs) ++ r)) := by
        have := row_drop (n := k) (cap := cap) (row_below HW.out HO.out) (by omega)
        rw [if_neg (by omega), HD.out] at this
        exact this
      have HN : Hid ((flat (p :: rs) ++ r).length = len - k) := by unfold Hid; rw [← HD.out, List.length_drop, hlen]
      have HA : Hid (AllPt (p :: rs)) := by rw [hqr] at hps; exact hps.right
      have hq2 : qs.length ≤ k := by rw [hk]; exact flat_ge qs
      clear hk hqr hbel hlen
      unfold Own32 at hown
      go_wp2_with (first
        | (go_at_call 67; refine (rnext_some (Option.map (fun x => x.add k) a) (len - k) (cap - k) (flat (p :: rs) ++ r) p wr HN.out ((flat_byt HA.out).append hb) (by omega) (by unfold maxLen; omega) HR.out (dec_flat HA.out)).mono ?_; rintro e wn ⟨rfl, hbn⟩)
        | (at_builtin; refine wpList_append_own _ rfl _ _ 73 rfl (w.heap.size + 1) 21 i0 (.int .i32 0) 1 4 Tryd.underlying73 hi hz0 hz1 hz2 rfl (by decide) _ _ _ rfl ((own_keep hown hbn).alloc _) ⟨wn.heap.size, 0, none⟩ 1 1 ([p].map (Value.int .i32)) rfl rfl (cells_new _ _ _) (ints_one32 _) ?c3 ?c4 ?c5 ?_))
      case c3 => unfold maxLen; omega
      case c4 => omega
      case c5 => have := hbn.size; simp; omega
      intro v' w1 hown' hgrow _
      have HO' : Hid (Own32 w1 (w.heap.size + 1) v' (qs ++ [p])) := by
        unfold Hid Own32; rw [List.length_append, List.map_append]; exact hown'
      have HB' : Hid (Below (w.heap.size + 1) (w.alloc (.cells #[.int .i64 0, .int .i64 0] 75)) w1) :=
        ((HB.out.trans (hbn.mono hsz)).alloc (by have := hbn.size; omega) _).grown hgrow (by have := hbn.size; simp; omega) (fun k hk => (hown.lt k hk).1)
      clear hown' hgrow hown hbn
      go_wp2
      go_roundw
      case rel => exact ⟨qs ++ [p], rs, by rw [HQ.out]; simp, by rw [flat_append, List.length_append, ← HK.out]; simp [flat], HO'.out, HB'.out⟩
      case measure => simp [intOf]; omega

end Go.Proofs.YtfhgkkdbkbbpkaaDoor.Cs.Ut
