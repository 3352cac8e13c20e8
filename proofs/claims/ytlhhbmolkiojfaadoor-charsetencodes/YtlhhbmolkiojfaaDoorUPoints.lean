/-
  The contract of Points.
-/
import Derived.Test.YtlhhbmolkiojfaaDoorBase
import Derived.Test.YtlhhbmolkiojfaaDoorUValid
namespace Go.Proofs.YtlhhbmolkiojfaaDoor.Ut
open Go.RowKit
set_option linter.unusedVariables false

theorem Tryd.info21 : (Tryd.prog.info? 21).map (fun i => (i.zero, i.size, i.bytes)) = some (some (.int .i32 0), 1, 4) := by kernel_rfl
/-- What a slice value owns, as points. -/
def Own32 (w : World) (B : Nat) (v : Value) (l : List Int) : Prop := w.ownsRow B 21 1 v l.length (l.map (Value.int .i32))
theorem ints_one32 (l : List Int) : ∀ u ∈ l.map (Value.int .i32), u.oneCell' = true := by
  intro u hu; simp at hu; obtain ⟨a, _, rfl⟩ := hu; rfl

theorem own_base {w : World} {B B' : Nat} {e : TypeId} {size : Nat} {v : Value} {n : Nat} {xs : List Value} (hB : B' ≤ B) (h : w.ownsRow B e size v n xs) : w.ownsRow B' e size v n xs := by
  refine ⟨h.1, ?_⟩
  rcases h.2 with h | ⟨g, cap, cur, h1, h2, h3⟩
  · exact .inl h
  · exact .inr ⟨g, cap, cur, h1, Nat.le_trans hB h2, h3⟩
theorem flat_ge : ∀ ps : List Int, ps.length ≤ (flat ps).length
  | [] => by simp
  | p :: ps => by have := flat_ge ps; have := enc_len p; rw [flat_cons, List.length_append, List.length_cons]; omega

set_option maxRecDepth 100000 in
set_option maxHeartbeats 2000000 in
theorem points_yes (a : Option Addr) (len cap : Nat) (ps : List Int) (w : World) (hlen : (flat ps).length = len) (hps : AllPt ps) (hcap : len ≤ cap) (hm : cap ≤ maxLen) (hsmall : len ≤ 100000000) (hrow : Row w a (flat ps)) :
    Calls Tryd.prog 18 #[.slice a len cap] w fun e w' => ∃ v, e = .returned (.tuple #[v, .agg #[.int .i64 0, .int .i64 0]]) ∧ Own32 w' w.heap.size v ps ∧ Below w.heap.size w w' := by
  obtain ⟨i0, hi, hz0, hz1, hz2⟩ := info_parts Tryd.info21
  have hm' := hm
  unfold maxLen at hm'
  have HL : Hid ((flat ps).length = len) := hlen
  have HW : Hid (Row w a (flat ps)) := hrow
  clear hlen hrow
  go_enter Tryd.func18, Tryd.ntmps18
  go_wp2
  go_step3
  go_wp2
  go_loopw [4, 5] (fun v i wr => ∃ qs rs : List Int, ps = qs ++ rs ∧ i = .int .i64 (flat qs).length ∧ Own32 wr (w.heap.size + 1) v qs ∧ Below (w.heap.size + 1) (w.alloc (.cells #[.int .i64 0, .int .i64 0] 26)) wr) (fun _ i _ => len - (intOf i).toNat)
  case atStart => exact ⟨[], ps, rfl, rfl, World.ownsRow_nil _ _ _ _, Below.refl _ _⟩
  case round =>
    obtain ⟨qs, rs, hqr, rfl, hown, hbel⟩ := hrel
    have hlen := HL.out
    obtain ⟨k, hk⟩ : ∃ k, k = (flat qs).length := ⟨_, rfl⟩
    rw [← hk]
    have HK : Hid (k = (flat qs).length) := hk
    have HQ : Hid (ps = qs ++ rs) := hqr
    have HB : Hid (Below (w.heap.size + 1) (w.alloc (.cells #[.int .i64 0, .int .i64 0] 26)) wr) := hbel
    have HO : Hid (Below w.heap.size w wr) := ((Below.refl _ w).alloc (Nat.le_refl _) _).trans (hbel.mono (Nat.le_succ _))
    have hsz : w.heap.size + 1 ≤ wr.heap.size := by have := hbel.size; simpa using this
    cases rs with
    | nil =>
      have hkl : k = len := by rw [hk, ← hlen, hqr, List.append_nil]
      obtain rfl := hkl
      have c0 : wr.cell? ⟨w.heap.size, 0, none⟩ = some (.int .i64 0) := by rw [hbel.cell (by simp)]; simp
      have c1 : wr.cell? ⟨w.heap.size, 1, none⟩ = some (.int .i64 0) := by rw [hbel.cell (by simp)]; simp
      have f0 : wr.frozen? ⟨w.heap.size, 0, none⟩ = false := by rw [hbel.frozen (by simp)]; simp
      have f1 : wr.frozen? ⟨w.heap.size, 1, none⟩ = false := by rw [hbel.frozen (by simp)]; simp
      clear hk hqr hbel hlen
      have HV : Hid (Own32 wr (w.heap.size + 1) u4 ps) := by unfold Hid; rw [HQ.out, List.append_nil]; exact hown
      clear hown
      go_wp2
      rw [Exit.noGoto_ret]
      exact bodyPost_ret (v := .tuple #[u4, .agg #[.int .i64 0, .int .i64 0]]) (by simp [results, Tryd.results18, go_sem, c0, c1]) rfl
        ⟨u4, rfl, own_base (Nat.le_succ _) (ownsRow_setCell_below (ownsRow_setCell_below HV.out (by simp) _) (by simp) _), (HO.out.setCell (by simp) _).setCell (by simp) _⟩
    | cons p rs =>
      have hpl := enc_len p
      have hkl : k + (encZ p).length ≤ len := by
        rw [← hlen, hqr, flat_append, flat_cons, List.length_append, List.length_append]; omega
      have HD : Hid ((flat ps).drop k = flat (p :: rs) ++ []) := by
        unfold Hid; rw [hqr, flat_append, hk, List.drop_left, List.append_nil]
      have HR : Hid (Row wr (Option.map (fun x => x.add k) a) (flat (p :: rs) ++ [])) := by
        have := row_drop (n := k) (cap := cap) (row_below HW.out HO.out) (by omega)
        rw [if_neg (by omega), HD.out] at this
        exact this
      have HN : Hid ((flat (p :: rs) ++ []).length = len - k) := by unfold Hid; rw [← HD.out, List.length_drop, hlen]
      have HA : Hid (AllPt (p :: rs)) := by rw [hqr] at hps; exact hps.right
      have hq2 : qs.length ≤ k := by rw [hk]; exact flat_ge qs
      clear hk hqr hbel hlen
      unfold Own32 at hown
      go_wp2_with (first
        | (go_at_call 28; refine (next_some (Option.map (fun x => x.add k) a) (len - k) (cap - k) (flat (p :: rs) ++ []) p wr HN.out ((flat_byt HA.out).append (by intro x hx; simp at hx)) (by omega) (by unfold maxLen; omega) HR.out (dec_flat HA.out)).mono ?_; rintro e w' ⟨rfl, rfl⟩)
        | (at_builtin; refine wpList_append_own _ rfl _ _ 34 rfl (w.heap.size + 1) 21 i0 (.int .i32 0) 1 4 Tryd.underlying34 hi hz0 hz1 hz2 rfl (by decide) _ _ _ rfl (hown.alloc _) ⟨wr.heap.size, 0, none⟩ 1 1 ([p].map (Value.int .i32)) rfl rfl (cells_new _ _ _) (ints_one32 _) ?c3 ?c4 ?c5 ?_))
      case c3 => unfold maxLen; omega
      case c4 => omega
      case c5 => simp; omega
      intro v' w1 hown' hgrow _
      have HO' : Hid (Own32 w1 (w.heap.size + 1) v' (qs ++ [p])) := by
        unfold Hid Own32; rw [List.length_append, List.map_append]; exact hown'
      have HB' : Hid (Below (w.heap.size + 1) (w.alloc (.cells #[.int .i64 0, .int .i64 0] 26)) w1) :=
        (HB.out.alloc (by omega) _).grown hgrow (by simp; omega) (fun k hk => (hown.lt k hk).1)
      clear hown' hgrow hown
      go_wp2
      go_roundw
      case rel => exact ⟨qs ++ [p], rs, by rw [HQ.out]; simp, by rw [flat_append, List.length_append, ← HK.out]; simp [flat], HO'.out, HB'.out⟩
      case measure => simp [intOf]; omega

set_option maxRecDepth 100000 in
set_option maxHeartbeats 2000000 in
theorem points_no (a : Option Addr) (len cap : Nat) (ps r : List Int) (w : World) (hlen : (flat ps ++ r).length = len) (hps : AllPt ps) (hr : decZ r = none) (hne : r ≠ []) (hb : Byt r) (hcap : len ≤ cap) (hm : cap ≤ maxLen) (hsmall : len ≤ 100000000) (hrow : Row w a (flat ps ++ r)) :
    Calls Tryd.prog 18 #[.slice a len cap] w fun e w' => e = .returned (.tuple #[.slice none 0 0, .agg #[.int .i64 (flat ps).length, .int .i64 20]]) ∧ Below w.heap.size w w' := by
  obtain ⟨i0, hi, hz0, hz1, hz2⟩ := info_parts Tryd.info21
  have hm' := hm
  unfold maxLen at hm'
  have HL : Hid ((flat ps ++ r).length = len) := hlen
  have HW : Hid (Row w a (flat ps ++ r)) := hrow
  have HZ : Hid (decZ r = none) := hr
  have HE : Hid (r ≠ []) := hne
  clear hlen hrow hr hne
  go_enter Tryd.func18, Tryd.ntmps18
  go_wp2
  refine wp_scope_jumps 0 (fun a' w' => ∃ x0 x1 x2 x4 x6 x7 x8 x9 x10 x11 x12 x13 x14 x15 x16 x17 x18 x19 x20 x21 x22 x23 x24 x25 x26 x27 x28 x29 x30 x31 x32 x33 : Value, a' = ⟨#[x0, x1, x2, .pointer (some ⟨w.heap.size, 0, none⟩), x4, .int .i64 (flat ps).length, x6, x7, x8, x9, x10, x11, x12, x13, x14, x15, x16, x17, x18, x19, x20, x21, x22, x23, x24, x25, x26, x27, x28, x29, x30, x31, x32, x33], []⟩ ∧ Below (w.heap.size + 1) (w.alloc (.cells #[.int .i64 0, .int .i64 0] 26)) w') (fun _ _ => 0) rfl ?_ ?_
  · go_wp2
    go_loopw [4, 5] (fun v i wr => ∃ qs rs : List Int, ps = qs ++ rs ∧ i = .int .i64 (flat qs).length ∧ Own32 wr (w.heap.size + 1) v qs ∧ Below (w.heap.size + 1) (w.alloc (.cells #[.int .i64 0, .int .i64 0] 26)) wr) (fun _ i _ => len - (intOf i).toNat)
    case atStart => exact ⟨[], ps, rfl, rfl, World.ownsRow_nil _ _ _ _, Below.refl _ _⟩
    case round =>
      obtain ⟨qs, rs, hqr, rfl, hown, hbel⟩ := hrel
      have hlen := HL.out
      obtain ⟨k, hk⟩ : ∃ k, k = (flat qs).length := ⟨_, rfl⟩
      rw [← hk]
      have HK : Hid (k = (flat qs).length) := hk
      have HQ : Hid (ps = qs ++ rs) := hqr
      have HB : Hid (Below (w.heap.size + 1) (w.alloc (.cells #[.int .i64 0, .int .i64 0] 26)) wr) := hbel
      have HO : Hid (Below w.heap.size w wr) := ((Below.refl _ w).alloc (Nat.le_refl _) _).trans (hbel.mono (Nat.le_succ _))
      have hsz : w.heap.size + 1 ≤ wr.heap.size := by have := hbel.size; simpa using this
      cases rs with
      | nil =>
        have hpq : ps = qs := by rw [hqr, List.append_nil]
        have hrp : 0 < r.length := List.length_pos_iff.2 HE.out
        have hkl : k + r.length = len := by rw [hk, ← hlen, hpq, List.length_append]
        have hkl' : k < len := by omega
        have HKP : Hid (k = (flat ps).length) := by unfold Hid; rw [hpq]; exact hk
        have HR : Hid (Row wr (Option.map (fun x => x.add k) a) r) := by
          have := row_drop (n := k) (cap := cap) (row_below HW.out HO.out) (by omega)
          rw [if_neg (by omega), HKP.out, List.drop_left] at this
          unfold Hid; rw [HKP.out]; exact this
        have HN : Hid (r.length = len - k) := by unfold Hid; omega
        clear hk hqr hbel hlen hpq hkl
        go_wp2_with (go_at_call 28; refine (next_none (Option.map (fun x => x.add k) a) (len - k) (cap - k) r wr HN.out hb (by omega) (by unfold maxLen; omega) HR.out HE.out HZ.out).mono ?_; rintro e w' ⟨rfl, rfl⟩)
        go_step3
        rw [HKP.out]
        exact ⟨rfl, _, _, _, _, _, _, _, _, _, _, _, _, _, _, _, _, _, _, _, _, _, _, _, _, _, _, _, _, _, _, _, _, rfl, HB.out⟩
      | cons p rs =>
        have hpl := enc_len p
        have hkl : k + (encZ p).length ≤ len := by
          rw [← hlen, hqr, flat_append, flat_cons, List.length_append, List.length_append, List.length_append]; omega
        have HD : Hid ((flat ps ++ r).drop k = flat (p :: rs) ++ r) := by
          unfold Hid; rw [hqr, flat_append, hk, List.append_assoc, List.drop_left]
        have HR : Hid (Row wr (Option.map (fun x => x.add k) a) (flat (p :: rs) ++ r)) := by
          have := row_drop (n := k) (cap := cap) (row_below HW.out HO.out) (by omega)
          rw [if_neg (by omega), HD.out] at this
          exact this
        have HN : Hid ((flat (p :: rs) ++ r).length = len - k) := by unfold Hid; rw [← HD.out, List.length_drop, hlen]
        have HA : Hid (AllPt (p :: rs)) := by rw [hqr] at hps; exact hps.right
        have hq2 : qs.length ≤ k := by rw [hk]; exact flat_ge qs
        clear hk hqr hbel hlen
        unfold Own32 at hown
        go_wp2_with (first
          | (go_at_call 28; refine (next_some (Option.map (fun x => x.add k) a) (len - k) (cap - k) (flat (p :: rs) ++ r) p wr HN.out ((flat_byt HA.out).append hb) (by omega) (by unfold maxLen; omega) HR.out (dec_flat HA.out)).mono ?_; rintro e w' ⟨rfl, rfl⟩)
          | (at_builtin; refine wpList_append_own _ rfl _ _ 34 rfl (w.heap.size + 1) 21 i0 (.int .i32 0) 1 4 Tryd.underlying34 hi hz0 hz1 hz2 rfl (by decide) _ _ _ rfl (hown.alloc _) ⟨wr.heap.size, 0, none⟩ 1 1 ([p].map (Value.int .i32)) rfl rfl (cells_new _ _ _) (ints_one32 _) ?c3 ?c4 ?c5 ?_))
        case c3 => unfold maxLen; omega
        case c4 => omega
        case c5 => simp; omega
        intro v' w1 hown' hgrow _
        have HO' : Hid (Own32 w1 (w.heap.size + 1) v' (qs ++ [p])) := by
          unfold Hid Own32; rw [List.length_append, List.map_append]; exact hown'
        have HB' : Hid (Below (w.heap.size + 1) (w.alloc (.cells #[.int .i64 0, .int .i64 0] 26)) w1) :=
          (HB.out.alloc (by omega) _).grown hgrow (by simp; omega) (fun k hk => (hown.lt k hk).1)
        clear hown' hgrow hown
        go_wp2
        go_roundw
        case rel => exact ⟨qs ++ [p], rs, by rw [HQ.out]; simp, by rw [flat_append, List.length_append, ← HK.out]; simp [flat], HO'.out, HB'.out⟩
        case measure => simp [intOf]; omega
  · rintro a' wr ⟨x0, x1, x2, x4, x6, x7, x8, x9, x10, x11, x12, x13, x14, x15, x16, x17, x18, x19, x20, x21, x22, x23, x24, x25, x26, x27, x28, x29, x30, x31, x32, x33, rfl, hbel⟩
    have HO : Hid (Below w.heap.size w wr) := ((Below.refl _ w).alloc (Nat.le_refl _) _).trans (hbel.mono (Nat.le_succ _))
    have hsz : w.heap.size + 1 ≤ wr.heap.size := by have := hbel.size; simpa using this
    have c0 : wr.cell? ⟨w.heap.size, 0, none⟩ = some (.int .i64 0) := by rw [hbel.cell (by simp)]; simp
    have c1 : wr.cell? ⟨w.heap.size, 1, none⟩ = some (.int .i64 0) := by rw [hbel.cell (by simp)]; simp
    have f0 : wr.frozen? ⟨w.heap.size, 0, none⟩ = false := by rw [hbel.frozen (by simp)]; simp
    have f1 : wr.frozen? ⟨w.heap.size, 1, none⟩ = false := by rw [hbel.frozen (by simp)]; simp
    clear hbel
    go_wp2
    rw [jump_ret]
    exact bodyPost_ret (v := .tuple #[.slice none 0 0, .agg #[.int .i64 (flat ps).length, .int .i64 20]]) (by simp [results, Tryd.results18, go_sem, c0, c1]) rfl
      ⟨rfl, (HO.out.setCell (by simp) _).setCell (by simp) _⟩
end Go.Proofs.YtlhhbmolkiojfaaDoor.Ut
