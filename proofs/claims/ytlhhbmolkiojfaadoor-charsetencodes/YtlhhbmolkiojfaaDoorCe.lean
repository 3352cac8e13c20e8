/-
  The contract of Encode; and Decode's and Encode's answer where a set is not known.
-/
import Derived.Test.YtlhhbmolkiojfaaDoorCd
namespace Go.Proofs.YtlhhbmolkiojfaaDoor
open Go.RowKit
set_option linter.unusedVariables false

set_option maxRecDepth 100000 in
set_option maxHeartbeats 4000000 in
theorem decode_unknown (set : ByteArray) (a : Option Addr) (len cap : Nat) (w : World) (hset : set.size ≤ 1000000) (hs0 : setB (lowS set) = 0) :
    Calls Tryd.prog 10 #[.string set, .slice a len cap] w fun e w' => e = .returned (.tuple #[.slice none 0 0, .agg #[.int .i64 0, .int .i64 143]]) ∧ Below w.heap.size w w' := by
  have KF := fun v : World => setFor_no set a len cap v hset hs0
  go_enter Tryd.func10, Tryd.ntmps10
  go_wp2
  go_step3
  go_wp2_with fail
  refine (KF _).mono ?_
  rintro e w1 ⟨rfl, hb1⟩
  have hs1 := hb1.size
  simp at hs1
  have c0 : w1.cell? ⟨w.heap.size, 0, none⟩ = some (.int .i64 0) := by rw [hb1.cell (by simp)]; simp
  have c1 : w1.cell? ⟨w.heap.size, 1, none⟩ = some (.int .i64 0) := by rw [hb1.cell (by simp)]; simp
  have f0 : w1.frozen? ⟨w.heap.size, 0, none⟩ = false := by rw [hb1.frozen (by simp)]; simp
  have f1 : w1.frozen? ⟨w.heap.size, 1, none⟩ = false := by rw [hb1.frozen (by simp)]; simp
  have hne : w.heap.size ≠ w1.heap.size := by omega
  have HO : Hid (Below w.heap.size w w1) := by have := hb1; simp at this; exact ((Below.refl _ w).alloc (Nat.le_refl _) _).trans (this.mono (Nat.le_succ _))
  clear hb1
  obtain ⟨W, hW⟩ : ∃ W, w1.alloc (.cells #[.int .i64 0, .int .i64 143] 26) = W := ⟨_, rfl⟩
  have hk := keep w1 (.cells #[.int .i64 0, .int .i64 143] 26)
  rw [hW] at hk
  have d0 : W.cell? ⟨w.heap.size, 0, none⟩ = some (.int .i64 0) := by rw [hk.cell (by simp; omega)]; exact c0
  have d1 : W.cell? ⟨w.heap.size, 1, none⟩ = some (.int .i64 0) := by rw [hk.cell (by simp; omega)]; exact c1
  have e0 : W.cell? ⟨w1.heap.size, 0, none⟩ = some (.int .i64 0) := by rw [← hW]; simp
  have e1 : W.cell? ⟨w1.heap.size, 1, none⟩ = some (.int .i64 143) := by rw [← hW]; simp
  have g0 : W.frozen? ⟨w.heap.size, 0, none⟩ = false := by rw [hk.frozen (by simp; omega)]; exact f0
  have g1 : W.frozen? ⟨w.heap.size, 1, none⟩ = false := by rw [hk.frozen (by simp; omega)]; exact f1
  have HO2 : Hid (Below w.heap.size w W) := HO.out.trans (hk.mono (by omega))
  clear hk c0 c1 f0 f1
  have HWW : Hid (w1.alloc (.cells #[.int .i64 0, .int .i64 143] 26) = W) := hW
  clear hW
  go_wp2_with fail
  rw [HWW.out]
  go_region_with (fail)
  all_goals (
    go_wp2
    rw [Exit.noGoto_ret]
    refine bodyPost_ret (v := .tuple #[.slice none 0 0, .agg #[.int .i64 0, .int .i64 143]]) (by simp [results, Tryd.results10, go_sem, d0, d1]) rfl ⟨rfl, ?_⟩
    exact below_drew ((HO2.out.setCell (by simp) _).setCell (by simp) _))
set_option maxRecDepth 100000 in
set_option maxHeartbeats 4000000 in
theorem encode_unknown (set : ByteArray) (a : Option Addr) (len cap : Nat) (w : World) (hset : set.size ≤ 1000000) (hs0 : setB (lowS set) = 0) :
    Calls Tryd.prog 14 #[.string set, .slice a len cap] w fun e w' => e = .returned (.tuple #[.slice none 0 0, .agg #[.int .i64 0, .int .i64 143]]) ∧ Below w.heap.size w w' := by
  have KF := fun v : World => setFor_no set a len cap v hset hs0
  go_enter Tryd.func14, Tryd.ntmps14
  go_wp2
  go_step3
  go_wp2_with fail
  refine (KF _).mono ?_
  rintro e w1 ⟨rfl, hb1⟩
  have hs1 := hb1.size
  simp at hs1
  have c0 : w1.cell? ⟨w.heap.size, 0, none⟩ = some (.int .i64 0) := by rw [hb1.cell (by simp)]; simp
  have c1 : w1.cell? ⟨w.heap.size, 1, none⟩ = some (.int .i64 0) := by rw [hb1.cell (by simp)]; simp
  have f0 : w1.frozen? ⟨w.heap.size, 0, none⟩ = false := by rw [hb1.frozen (by simp)]; simp
  have f1 : w1.frozen? ⟨w.heap.size, 1, none⟩ = false := by rw [hb1.frozen (by simp)]; simp
  have hne : w.heap.size ≠ w1.heap.size := by omega
  have HO : Hid (Below w.heap.size w w1) := by have := hb1; simp at this; exact ((Below.refl _ w).alloc (Nat.le_refl _) _).trans (this.mono (Nat.le_succ _))
  clear hb1
  obtain ⟨W, hW⟩ : ∃ W, w1.alloc (.cells #[.int .i64 0, .int .i64 143] 26) = W := ⟨_, rfl⟩
  have hk := keep w1 (.cells #[.int .i64 0, .int .i64 143] 26)
  rw [hW] at hk
  have d0 : W.cell? ⟨w.heap.size, 0, none⟩ = some (.int .i64 0) := by rw [hk.cell (by simp; omega)]; exact c0
  have d1 : W.cell? ⟨w.heap.size, 1, none⟩ = some (.int .i64 0) := by rw [hk.cell (by simp; omega)]; exact c1
  have e0 : W.cell? ⟨w1.heap.size, 0, none⟩ = some (.int .i64 0) := by rw [← hW]; simp
  have e1 : W.cell? ⟨w1.heap.size, 1, none⟩ = some (.int .i64 143) := by rw [← hW]; simp
  have g0 : W.frozen? ⟨w.heap.size, 0, none⟩ = false := by rw [hk.frozen (by simp; omega)]; exact f0
  have g1 : W.frozen? ⟨w.heap.size, 1, none⟩ = false := by rw [hk.frozen (by simp; omega)]; exact f1
  have HO2 : Hid (Below w.heap.size w W) := HO.out.trans (hk.mono (by omega))
  clear hk c0 c1 f0 f1
  have HWW : Hid (w1.alloc (.cells #[.int .i64 0, .int .i64 143] 26) = W) := hW
  clear hW
  go_wp2_with fail
  rw [HWW.out]
  go_region_with (fail)
  all_goals (
    go_wp2
    rw [Exit.noGoto_ret]
    refine bodyPost_ret (v := .tuple #[.slice none 0 0, .agg #[.int .i64 0, .int .i64 143]]) (by simp [results, Tryd.results14, go_sem, d0, d1]) rfl ⟨rfl, ?_⟩
    exact below_drew ((HO2.out.setCell (by simp) _).setCell (by simp) _))
theorem flatS_le {s : Int} : ∀ {ps : List Int}, Ut.AllPt ps → (flatS s ps).length ≤ 4 * ps.length
  | [], _ => by simp [flatS]
  | p :: ps, h => by
    have h1 := flatS_le (s := s) h.tail
    have h2 := encS_len (s := s) h.head
    rw [flatS_cons, List.length_append, List.length_cons]; omega
set_option maxRecDepth 100000 in
set_option maxHeartbeats 4000000 in
theorem encode_yes (set : ByteArray) (a : Option Addr) (len cap : Nat) (ps : List Int) (w : World) (s : Int) (hset : set.size ≤ 1000000) (hs : setB (lowS set) = s) (hs0 : s ≠ 0) (hs6 : s ≠ 6)
    (hlen : (Ut.flat ps).length = len) (hps : AllIn s ps) (hcap : len ≤ cap) (hm : cap ≤ maxLen) (hsmall : len ≤ 4000) (hrow : Row w a (Ut.flat ps)) (h9 : T9 w) (hW : TW w) :
    Calls Tryd.prog 14 #[.string set, .slice a len cap] w fun e w' => ∃ v, e = .returned (.tuple #[v, .agg #[.int .i64 0, .int .i64 0]]) ∧ Own w' w.heap.size v (([] : List Int) ++ flatS s ps) ∧ Below w.heap.size w w' := by
  have hr := setB_range (lowS set)
  have hm' := hm
  unfold maxLen at hm'
  have hok : SetOk s := by unfold SetOk; omega
  have b6 : (s == 6) = false := by simpa using hs6
  have KF := fun v : World => setFor_yes set a len cap v s hset hs hs0 (by omega)
  have hall : Ut.AllPt ps := hps.pts
  have KP : ∀ W : World, Below w.heap.size w W → Calls Tryd.prog 18 #[.slice a len cap] W fun e w' => ∃ v, e = .returned (.tuple #[v, .agg #[.int .i64 0, .int .i64 0]]) ∧ Below W.heap.size W w' := fun W hb =>
    (Ut.points_yes a len cap ps W hlen hall hcap hm (by omega) (row_below hrow hb)).mono fun e w' ⟨v, h1, _, h2⟩ => ⟨v, h1, h2⟩
  have HL : Hid ((Ut.flat ps).length = len) := hlen
  have HW : Hid (Row w a (Ut.flat ps)) := hrow
  clear hlen hrow hs hs0 hs6
  go_enter Tryd.func14, Tryd.ntmps14
  go_wp2
  go_step3
  go_wp2_with fail
  refine (KF _).mono ?_
  rintro e w1 ⟨rfl, hb1⟩
  have hs1 := hb1.size
  simp at hs1
  have HB1 : Below (w.heap.size + 1) (w.alloc (.cells #[.int .i64 0, .int .i64 0] 26)) (w1.alloc (.cells #[.int .i64 0, .int .i64 0] 26)) := (by have := hb1; simp at this; exact this.alloc (by omega) _)
  have HB0 : Below w.heap.size w (w1.alloc (.cells #[.int .i64 0, .int .i64 0] 26)) := ((Below.refl _ w).alloc (Nat.le_refl _) _).trans (HB1.mono (Nat.le_succ _))
  go_wp2_with fail
  refine (KP _ HB0).mono ?_
  rintro e w2 ⟨vp, rfl, hb2⟩
  have hs2 := hb2.size
  simp at hs2
  have HB2 : Below (w.heap.size + 1) (w.alloc (.cells #[.int .i64 0, .int .i64 0] 26)) (w2.alloc (.cells #[.int .i64 0, .int .i64 0] 26)) := (HB1.trans (hb2.mono (by simp; omega))).alloc (by omega) _
  clear hb1 hb2 HB1 HB0 KF KP
  have HB3 : Hid (Below (w.heap.size + 1) (w.alloc (.cells #[.int .i64 0, .int .i64 0] 26)) (w2.alloc (.cells #[.int .i64 0, .int .i64 0] 26))) := HB2
  clear HB2
  go_wp2
  go_loopw [10, 11] (fun v i wr => ∃ (qs rs : List Int) (k : Nat), ps = qs ++ rs ∧ i = .int .i64 k ∧ k = (Ut.flat qs).length ∧ Own wr (w.heap.size + 1) v (([] : List Int) ++ flatS s qs) ∧ Below (w.heap.size + 1) (w.alloc (.cells #[.int .i64 0, .int .i64 0] 26)) wr) (fun _ i _ => len - (intOf i).toNat)
  case atStart => exact ⟨[], ps, 0, rfl, rfl, rfl, World.ownsRow_nil _ _ _ _, HB3.out⟩
  case round =>
    obtain ⟨qs, rs, k, hqr, rfl, hk, hown, hbel⟩ := hrel
    have HK : Hid (k = (Ut.flat qs).length) := hk
    have HQ : Hid (ps = qs ++ rs) := hqr
    have HB : Hid (Below (w.heap.size + 1) (w.alloc (.cells #[.int .i64 0, .int .i64 0] 26)) wr) := hbel
    have HO : Hid (Below w.heap.size w wr) := ((Below.refl _ w).alloc (Nat.le_refl _) _).trans (hbel.mono (Nat.le_succ _))
    have hsz : w.heap.size + 1 ≤ wr.heap.size := by have := hbel.size; simpa using this
    have hfl : qs.length ≤ k := by rw [hk]; exact Ut.flat_ge qs
    have hfs : (flatS s qs).length ≤ 4 * qs.length := flatS_le (AllIn.pts (AllIn.left (by rw [hqr] at hps; exact hps)))
    have HDK : Hid ((Ut.flat ps).drop k = Ut.flat (rs ++ [])) := by
      unfold Hid
      rw [hk, hqr, Ut.flat_append, List.drop_left, List.append_nil]
    have hkl : k + (Ut.flat (rs ++ [])).length = len := by
      have h1 := congrArg List.length HDK.out
      rw [List.length_drop, HL.out] at h1
      have h2 : k ≤ len := by
        rw [← HL.out, hk, hqr]
        rw [Ut.flat_append, List.length_append]; omega
      omega
    obtain ⟨a1, cap1, rfl, hc1, hm1, hrow1, hn1⟩ := own_row' hown
    obtain ⟨n1, hn1'⟩ : ∃ n1, (([] : List Int) ++ flatS s qs).length = n1 := ⟨_, rfl⟩
    have hn1l : n1 ≤ 100000 := by rw [← hn1']; simp; omega
    have HN1 : Hid ((([] : List Int) ++ flatS s qs).length = n1) := hn1'
    cases rs with
    | nil =>
      have hpq : ps = qs := by rw [hqr, List.append_nil]
      have hkl' : k = len := by simpa [Ut.flat] using hkl
      have c0 : wr.cell? ⟨w.heap.size, 0, none⟩ = some (.int .i64 0) := by rw [hbel.cell (by simp)]; simp
      have c1 : wr.cell? ⟨w.heap.size, 1, none⟩ = some (.int .i64 0) := by rw [hbel.cell (by simp)]; simp
      have f0 : wr.frozen? ⟨w.heap.size, 0, none⟩ = false := by rw [hbel.frozen (by simp)]; simp
      have f1 : wr.frozen? ⟨w.heap.size, 1, none⟩ = false := by rw [hbel.frozen (by simp)]; simp
      subst hpq
      obtain rfl := hkl'
      rw [hn1'] at hown ⊢
      have HV : Hid (Own wr (w.heap.size + 1) (.slice a1 n1 cap1) (([] : List Int) ++ flatS s ps)) := hown
      clear hk hqr hbel hown hrow1 hkl HDK hn1'
      go_wp2
      rw [Exit.noGoto_ret]
      exact bodyPost_ret (v := .tuple #[.slice a1 n1 cap1, .agg #[.int .i64 0, .int .i64 0]]) (by simp [results, Tryd.results14, go_sem, c0, c1]) rfl
        ⟨_, rfl, own_base (Nat.le_succ _) (ownsRow_setCell_below (ownsRow_setCell_below HV.out (by simp) _) (by simp) _), (HO.out.setCell (by simp) _).setCell (by simp) _⟩
    | cons p rs =>
      have hA : AllIn s (p :: rs) := by rw [hqr] at hps; exact hps.right
      have hp1 := List.length_pos_iff.2 hA.head.2
      have hp4 := encS_len (s := s) hA.head.1
      rw [show (p :: rs) ++ [] = p :: (rs ++ []) from rfl, Ut.flat_cons, List.length_append] at hkl
      have hpl := Ut.enc_len p
      have hkN : Calls Tryd.prog 28 #[.slice (Option.map (fun x => x.add k) a) (len - k) (cap - k)] wr fun e w' => e = .returned (.tuple #[.int .i32 p, .int .i64 (Ut.encZ p).length, .int .i64 0]) ∧ wr = w' := by
        have hrow := row_drop (n := k) (cap := cap) (row_below HW.out HO.out) (by rw [HL.out]; omega)
        rw [if_neg (by omega), HDK.out] at hrow
        exact Ut.next_some _ (len - k) (cap - k) _ p wr (by rw [← HDK.out, List.length_drop, HL.out]) (by rw [← HDK.out]; exact (Ut.flat_byt hall).drop k) (by omega) (by unfold maxLen; omega) hrow (by show Ut.decZ (Ut.flat (p :: (rs ++ []))) = _; rw [Ut.flat_cons]; exact Ut.dec_enc hA.head.1 _)
      have hKA := appendPointS_any s p wr (w.heap.size + 1) (.slice a1 (([] : List Int) ++ flatS s qs).length cap1) (([] : List Int) ++ flatS s qs) hok hA.head.1 hown hsz (by omega) (h9.below HO.out) (hW.below HO.out)
      rw [hn1'] at hKA
      try rw [hn1']
      have hkl' : k < len := by omega
      obtain ⟨m, hm2⟩ : ∃ m, (Ut.encZ p).length = m := ⟨_, rfl⟩
      rw [hm2] at hkN hpl hkl
      have HM : Hid ((Ut.encZ p).length = m) := hm2
      have HX : Hid ((([] : List Int) ++ flatS s qs ++ encS s p).length = n1 + (encS s p).length) := by unfold Hid; rw [List.length_append, hn1']
      have HY : Hid (([] : List Int) ++ flatS s (qs ++ [p]) = ([] : List Int) ++ flatS s qs ++ encS s p) := by unfold Hid; rw [flatS_append, flatS_cons, flatS_nil, List.append_nil, List.append_assoc]
      clear hk hqr hbel hm2 HDK hrow1
      go_wp2_with fail
      refine hkN.mono ?_
      rintro e wn ⟨rfl, rfl⟩
      go_wp2_with fail
      refine hKA.mono ?_
      rintro e w5 ⟨v5, rfl, hown5, hb5⟩
      obtain ⟨a5, cap5, rfl, hc5, hm5, hrow5, hn5⟩ := own_row' hown5
      have HV5 : Hid (Own w5 (w.heap.size + 1) (.slice a5 (([] : List Int) ++ flatS s qs ++ encS s p).length cap5) (([] : List Int) ++ flatS s qs ++ encS s p)) := hown5
      rw [HX.out] at HV5 ⊢
      obtain ⟨n5, hn5'⟩ : ∃ n5, n1 + (encS s p).length = n5 := ⟨_, rfl⟩
      have hlt : n1 < n5 := by omega
      rw [hn5'] at HV5 ⊢
      have bn : ((n5 : Int) == (n1 : Int)) = false := by simp; omega
      have HB5 : Hid (Below (w.heap.size + 1) (w.alloc (.cells #[.int .i64 0, .int .i64 0] 26)) w5) := HB.out.trans hb5
      clear hb5 hown5 hrow5 hown hn1' hKA hkN hn5' hA hp1 hp4
      go_wp2
      go_roundw
      case rel => exact ⟨qs ++ [p], rs, k + m, by rw [HQ.out]; simp, by go_num, by rw [Ut.flat_append, List.length_append, ← HK.out, Ut.flat_cons, Ut.flat_nil, List.append_nil, HM.out], by rw [HY.out]; exact HV5.out, HB5.out⟩
      case measure => simp [intOf]; omega
set_option maxRecDepth 100000 in
set_option maxHeartbeats 4000000 in
theorem encode_no (set : ByteArray) (a : Option Addr) (len cap : Nat) (ps : List Int) (p0 : Int) (qs0 : List Int) (w : World) (s : Int) (hset : set.size ≤ 1000000) (hs : setB (lowS set) = s) (hs0 : s ≠ 0) (hs6 : s ≠ 6)
    (hlen : (Ut.flat (ps ++ p0 :: qs0)).length = len) (hps : AllIn s ps) (hp0 : Ut.ptB p0 = true) (hqs : Ut.AllPt qs0) (hno : encS s p0 = []) (hcap : len ≤ cap) (hm : cap ≤ maxLen) (hsmall : len ≤ 4000) (hrow : Row w a (Ut.flat (ps ++ p0 :: qs0))) (h9 : T9 w) (hW : TW w) :
    Calls Tryd.prog 14 #[.string set, .slice a len cap] w fun e w' => e = .returned (.tuple #[.slice none 0 0, .agg #[.int .i64 ((Ut.flat ps).length : Nat), .int .i64 10]]) ∧ Below w.heap.size w w' := by
  have hr := setB_range (lowS set)
  have hm' := hm
  unfold maxLen at hm'
  have hok : SetOk s := by unfold SetOk; omega
  have b6 : (s == 6) = false := by simpa using hs6
  have KF := fun v : World => setFor_yes set a len cap v s hset hs hs0 (by omega)
  have hall : Ut.AllPt (ps ++ p0 :: qs0) := hps.pts.append (fun x hx => by rcases List.mem_cons.1 hx with rfl | hx; exact hp0; exact hqs x hx)
  have KP : ∀ W : World, Below w.heap.size w W → Calls Tryd.prog 18 #[.slice a len cap] W fun e w' => ∃ v, e = .returned (.tuple #[v, .agg #[.int .i64 0, .int .i64 0]]) ∧ Below W.heap.size W w' := fun W hb =>
    (Ut.points_yes a len cap (ps ++ p0 :: qs0) W hlen hall hcap hm (by omega) (row_below hrow hb)).mono fun e w' ⟨v, h1, _, h2⟩ => ⟨v, h1, h2⟩
  have HL : Hid ((Ut.flat (ps ++ p0 :: qs0)).length = len) := hlen
  have HW : Hid (Row w a (Ut.flat (ps ++ p0 :: qs0))) := hrow
  clear hlen hrow hs hs0 hs6
  go_enter Tryd.func14, Tryd.ntmps14
  go_wp2
  refine wp_scope_jumps 0 (fun a' w' => ∃ x0 x1 x2 x3 x4 x6 x7 x8 x9 x10 x12 x13 x14 x15 x16 x17 x18 x19 x20 x21 x22 x23 x24 x25 x26 x27 x28 x29 x30 x31 x32 x33 x34 x35 x36 x37 x38 x39 x40 x41 x42 x43 x44 x45 x46 x47 x48 x49 x50 x51 x52 x53 x54 x55 x56 x57 x58 x59 x60 x61 x62 x63 x64 x65 x66 x67 x68 : Value, a' = ⟨#[x0, x1, x2, x3, x4, .pointer (some ⟨w.heap.size, 0, none⟩), x6, x7, x8, x9, x10, .int .i64 ((Ut.flat ps).length : Nat), x12, x13, x14, x15, x16, x17, x18, x19, x20, x21, x22, x23, x24, x25, x26, x27, x28, x29, x30, x31, x32, x33, x34, x35, x36, x37, x38, x39, x40, x41, x42, x43, x44, x45, x46, x47, x48, x49, x50, x51, x52, x53, x54, x55, x56, x57, x58, x59, x60, x61, x62, x63, x64, x65, x66, x67, x68], []⟩ ∧ Below (w.heap.size + 1) (w.alloc (.cells #[.int .i64 0, .int .i64 0] 26)) w') (fun _ _ => 0) rfl ?_ ?_
  · go_wp2_with fail
    refine (KF _).mono ?_
    rintro e w1 ⟨rfl, hb1⟩
    have hs1 := hb1.size
    simp at hs1
    have HB1 : Below (w.heap.size + 1) (w.alloc (.cells #[.int .i64 0, .int .i64 0] 26)) (w1.alloc (.cells #[.int .i64 0, .int .i64 0] 26)) := (by have := hb1; simp at this; exact this.alloc (by omega) _)
    have HB0 : Below w.heap.size w (w1.alloc (.cells #[.int .i64 0, .int .i64 0] 26)) := ((Below.refl _ w).alloc (Nat.le_refl _) _).trans (HB1.mono (Nat.le_succ _))
    go_wp2_with fail
    refine (KP _ HB0).mono ?_
    rintro e w2 ⟨vp, rfl, hb2⟩
    have hs2 := hb2.size
    simp at hs2
    have HB2 : Below (w.heap.size + 1) (w.alloc (.cells #[.int .i64 0, .int .i64 0] 26)) (w2.alloc (.cells #[.int .i64 0, .int .i64 0] 26)) := (HB1.trans (hb2.mono (by simp; omega))).alloc (by omega) _
    clear hb1 hb2 HB1 HB0 KF KP
    have HB3 : Hid (Below (w.heap.size + 1) (w.alloc (.cells #[.int .i64 0, .int .i64 0] 26)) (w2.alloc (.cells #[.int .i64 0, .int .i64 0] 26))) := HB2
    clear HB2
    go_wp2
    go_loopw [10, 11] (fun v i wr => ∃ (qs rs : List Int) (k : Nat), ps = qs ++ rs ∧ i = .int .i64 k ∧ k = (Ut.flat qs).length ∧ Own wr (w.heap.size + 1) v (([] : List Int) ++ flatS s qs) ∧ Below (w.heap.size + 1) (w.alloc (.cells #[.int .i64 0, .int .i64 0] 26)) wr) (fun _ i _ => len - (intOf i).toNat)
    case atStart => exact ⟨[], ps, 0, rfl, rfl, rfl, World.ownsRow_nil _ _ _ _, HB3.out⟩
    case round =>
      obtain ⟨qs, rs, k, hqr, rfl, hk, hown, hbel⟩ := hrel
      have HK : Hid (k = (Ut.flat qs).length) := hk
      have HQ : Hid (ps = qs ++ rs) := hqr
      have HB : Hid (Below (w.heap.size + 1) (w.alloc (.cells #[.int .i64 0, .int .i64 0] 26)) wr) := hbel
      have HO : Hid (Below w.heap.size w wr) := ((Below.refl _ w).alloc (Nat.le_refl _) _).trans (hbel.mono (Nat.le_succ _))
      have hsz : w.heap.size + 1 ≤ wr.heap.size := by have := hbel.size; simpa using this
      have hfl : qs.length ≤ k := by rw [hk]; exact Ut.flat_ge qs
      have hfs : (flatS s qs).length ≤ 4 * qs.length := flatS_le (AllIn.pts (AllIn.left (by rw [hqr] at hps; exact hps)))
      have HDK : Hid ((Ut.flat (ps ++ p0 :: qs0)).drop k = Ut.flat (rs ++ p0 :: qs0)) := by
        unfold Hid
        rw [hk, hqr, List.append_assoc, Ut.flat_append, List.drop_left]
      have hkl : k + (Ut.flat (rs ++ p0 :: qs0)).length = len := by
        have h1 := congrArg List.length HDK.out
        rw [List.length_drop, HL.out] at h1
        have h2 : k ≤ len := by
          rw [← HL.out, hk, hqr]
          rw [List.append_assoc, Ut.flat_append, List.length_append]; omega
        omega
      obtain ⟨a1, cap1, rfl, hc1, hm1, hrow1, hn1⟩ := own_row' hown
      obtain ⟨n1, hn1'⟩ : ∃ n1, (([] : List Int) ++ flatS s qs).length = n1 := ⟨_, rfl⟩
      have hn1l : n1 ≤ 100000 := by rw [← hn1']; simp; omega
      have HN1 : Hid ((([] : List Int) ++ flatS s qs).length = n1) := hn1'
      cases rs with
      | nil =>
        have hqs1 : qs = ps := by rw [hqr, List.append_nil]
        rw [show ([] ++ p0 :: qs0 : List Int) = p0 :: qs0 from rfl] at HDK hkl
        rw [Ut.flat_cons, List.length_append] at hkl
        have hpl := Ut.enc_len p0
        have hkN : Calls Tryd.prog 28 #[.slice (Option.map (fun x => x.add k) a) (len - k) (cap - k)] wr fun e w' => e = .returned (.tuple #[.int .i32 p0, .int .i64 (Ut.encZ p0).length, .int .i64 0]) ∧ wr = w' := by
          have hrow := row_drop (n := k) (cap := cap) (row_below HW.out HO.out) (by rw [HL.out]; omega)
          rw [if_neg (by omega), HDK.out] at hrow
          exact Ut.next_some _ (len - k) (cap - k) _ p0 wr (by rw [← HDK.out, List.length_drop, HL.out]) (by rw [← HDK.out]; exact (Ut.flat_byt hall).drop k) (by omega) (by unfold maxLen; omega) hrow (by show Ut.decZ (Ut.flat (p0 :: qs0)) = _; rw [Ut.flat_cons]; exact Ut.dec_enc hp0 _)
        have hKA := appendPointS_any s p0 wr (w.heap.size + 1) (.slice a1 (([] : List Int) ++ flatS s qs).length cap1) (([] : List Int) ++ flatS s qs) hok hp0 hown hsz (by omega) (h9.below HO.out) (hW.below HO.out)
        rw [hn1'] at hKA
        try rw [hn1']
        have hkl' : k < len := by omega
        have HKP : Hid (k = (Ut.flat ps).length) := by unfold Hid; rw [← hqs1]; exact hk
        rw [hno, List.append_nil] at hKA
        clear hk hqr hbel HDK hrow1 hqs1 hkl
        go_wp2_with fail
        refine hkN.mono ?_
        rintro e wn ⟨rfl, rfl⟩
        go_wp2_with fail
        refine hKA.mono ?_
        rintro e w5 ⟨v5, rfl, hown5, hb5⟩
        obtain ⟨a5, cap5, rfl, hc5, hm5, hrow5, hn5⟩ := own_row' hown5
        rw [hn1'] at hown5 ⊢
        have HB5 : Hid (Below (w.heap.size + 1) (w.alloc (.cells #[.int .i64 0, .int .i64 0] 26)) w5) := HB.out.trans hb5
        clear hb5 hown5 hrow5 hown hn1' hKA hkN
        go_wp2
        go_step3
        rw [HKP.out]
        exact ⟨rfl, _, _, _, _, _, _, _, _, _, _, _, _, _, _, _, _, _, _, _, _, _, _, _, _, _, _, _, _, _, _, _, _, _, _, _, _, _, _, _, _, _, _, _, _, _, _, _, _, _, _, _, _, _, _, _, _, _, _, _, _, _, _, _, _, _, _, _, rfl, HB5.out⟩
      | cons p rs =>
        have hA : AllIn s (p :: rs) := by rw [hqr] at hps; exact hps.right
        have hp1 := List.length_pos_iff.2 hA.head.2
        have hp4 := encS_len (s := s) hA.head.1
        rw [show (p :: rs) ++ (p0 :: qs0) = p :: (rs ++ p0 :: qs0) from rfl, Ut.flat_cons, List.length_append] at hkl
        have hpl := Ut.enc_len p
        have hkN : Calls Tryd.prog 28 #[.slice (Option.map (fun x => x.add k) a) (len - k) (cap - k)] wr fun e w' => e = .returned (.tuple #[.int .i32 p, .int .i64 (Ut.encZ p).length, .int .i64 0]) ∧ wr = w' := by
          have hrow := row_drop (n := k) (cap := cap) (row_below HW.out HO.out) (by rw [HL.out]; omega)
          rw [if_neg (by omega), HDK.out] at hrow
          exact Ut.next_some _ (len - k) (cap - k) _ p wr (by rw [← HDK.out, List.length_drop, HL.out]) (by rw [← HDK.out]; exact (Ut.flat_byt hall).drop k) (by omega) (by unfold maxLen; omega) hrow (by show Ut.decZ (Ut.flat (p :: (rs ++ p0 :: qs0))) = _; rw [Ut.flat_cons]; exact Ut.dec_enc hA.head.1 _)
        have hKA := appendPointS_any s p wr (w.heap.size + 1) (.slice a1 (([] : List Int) ++ flatS s qs).length cap1) (([] : List Int) ++ flatS s qs) hok hA.head.1 hown hsz (by omega) (h9.below HO.out) (hW.below HO.out)
        rw [hn1'] at hKA
        try rw [hn1']
        have hkl' : k < len := by omega
        obtain ⟨m, hm2⟩ : ∃ m, (Ut.encZ p).length = m := ⟨_, rfl⟩
        rw [hm2] at hkN hpl hkl
        have HM : Hid ((Ut.encZ p).length = m) := hm2
        have HX : Hid ((([] : List Int) ++ flatS s qs ++ encS s p).length = n1 + (encS s p).length) := by unfold Hid; rw [List.length_append, hn1']
        have HY : Hid (([] : List Int) ++ flatS s (qs ++ [p]) = ([] : List Int) ++ flatS s qs ++ encS s p) := by unfold Hid; rw [flatS_append, flatS_cons, flatS_nil, List.append_nil, List.append_assoc]
        clear hk hqr hbel hm2 HDK hrow1
        go_wp2_with fail
        refine hkN.mono ?_
        rintro e wn ⟨rfl, rfl⟩
        go_wp2_with fail
        refine hKA.mono ?_
        rintro e w5 ⟨v5, rfl, hown5, hb5⟩
        obtain ⟨a5, cap5, rfl, hc5, hm5, hrow5, hn5⟩ := own_row' hown5
        have HV5 : Hid (Own w5 (w.heap.size + 1) (.slice a5 (([] : List Int) ++ flatS s qs ++ encS s p).length cap5) (([] : List Int) ++ flatS s qs ++ encS s p)) := hown5
        rw [HX.out] at HV5 ⊢
        obtain ⟨n5, hn5'⟩ : ∃ n5, n1 + (encS s p).length = n5 := ⟨_, rfl⟩
        have hlt : n1 < n5 := by omega
        rw [hn5'] at HV5 ⊢
        have bn : ((n5 : Int) == (n1 : Int)) = false := by simp; omega
        have HB5 : Hid (Below (w.heap.size + 1) (w.alloc (.cells #[.int .i64 0, .int .i64 0] 26)) w5) := HB.out.trans hb5
        clear hb5 hown5 hrow5 hown hn1' hKA hkN hn5' hA hp1 hp4
        go_wp2
        go_roundw
        case rel => exact ⟨qs ++ [p], rs, k + m, by rw [HQ.out]; simp, by go_num, by rw [Ut.flat_append, List.length_append, ← HK.out, Ut.flat_cons, Ut.flat_nil, List.append_nil, HM.out], by rw [HY.out]; exact HV5.out, HB5.out⟩
        case measure => simp [intOf]; omega
  · rintro a' w' ⟨x0, x1, x2, x3, x4, x6, x7, x8, x9, x10, x12, x13, x14, x15, x16, x17, x18, x19, x20, x21, x22, x23, x24, x25, x26, x27, x28, x29, x30, x31, x32, x33, x34, x35, x36, x37, x38, x39, x40, x41, x42, x43, x44, x45, x46, x47, x48, x49, x50, x51, x52, x53, x54, x55, x56, x57, x58, x59, x60, x61, x62, x63, x64, x65, x66, x67, x68, rfl, hbel⟩
    have c0 : w'.cell? ⟨w.heap.size, 0, none⟩ = some (.int .i64 0) := by rw [hbel.cell (by simp)]; simp
    have c1 : w'.cell? ⟨w.heap.size, 1, none⟩ = some (.int .i64 0) := by rw [hbel.cell (by simp)]; simp
    have f0 : w'.frozen? ⟨w.heap.size, 0, none⟩ = false := by rw [hbel.frozen (by simp)]; simp
    have f1 : w'.frozen? ⟨w.heap.size, 1, none⟩ = false := by rw [hbel.frozen (by simp)]; simp
    have HO : Hid (Below w.heap.size w w') := ((Below.refl _ w).alloc (Nat.le_refl _) _).trans (hbel.mono (Nat.le_succ _))
    obtain ⟨z, hz⟩ : ∃ z : Int, (((Ut.flat ps).length : Nat) : Int) = z := ⟨_, rfl⟩
    rw [hz]
    have HZZ : Hid ((((Ut.flat ps).length : Nat) : Int) = z) := hz
    clear hbel hz
    go_wp2
    rw [Ut.jump_ret]
    exact bodyPost_ret (v := .tuple #[.slice none 0 0, .agg #[.int .i64 z, .int .i64 10]]) (by simp [results, Tryd.results14, go_sem, c0, c1]) rfl ⟨by rw [HZZ.out], (HO.out.setCell (by simp) _).setCell (by simp) _⟩
set_option maxRecDepth 100000 in
set_option maxHeartbeats 4000000 in
theorem encode_yes6 (set : ByteArray) (a : Option Addr) (len cap : Nat) (ps : List Int) (w : World) (hset : set.size ≤ 1000000) (hs : setB (lowS set) = 6)
    (hlen : (Ut.flat ps).length = len) (hps : AllIn 7 ps) (hcap : len ≤ cap) (hm : cap ≤ maxLen) (hsmall : len ≤ 4000) (hrow : Row w a (Ut.flat ps)) (h9 : T9 w) (hW : TW w) :
    Calls Tryd.prog 14 #[.string set, .slice a len cap] w fun e w' => ∃ v, e = .returned (.tuple #[v, .agg #[.int .i64 0, .int .i64 0]]) ∧ Own w' w.heap.size v (([254, 255] : List Int) ++ flatS 7 ps) ∧ Below w.heap.size w w' := by
  have hr := setB_range (lowS set)
  have hm' := hm
  unfold maxLen at hm'
  have hok : SetOk 7 := by unfold SetOk; simp
  have KF := fun v : World => setFor_yes set a len cap v 6 hset hs (by omega) (by omega)
  have hall : Ut.AllPt ps := hps.pts
  have KP : ∀ W : World, Below w.heap.size w W → Calls Tryd.prog 18 #[.slice a len cap] W fun e w' => ∃ v, e = .returned (.tuple #[v, .agg #[.int .i64 0, .int .i64 0]]) ∧ Below W.heap.size W w' := fun W hb =>
    (Ut.points_yes a len cap ps W hlen hall hcap hm (by omega) (row_below hrow hb)).mono fun e w' ⟨v, h1, _, h2⟩ => ⟨v, h1, h2⟩
  have HL : Hid ((Ut.flat ps).length = len) := hlen
  have HW : Hid (Row w a (Ut.flat ps)) := hrow
  clear hlen hrow hs
  go_enter Tryd.func14, Tryd.ntmps14
  go_wp2
  go_step3
  go_wp2_with fail
  refine (KF _).mono ?_
  rintro e w1 ⟨rfl, hb1⟩
  have hs1 := hb1.size
  simp at hs1
  have HB1 : Below (w.heap.size + 1) (w.alloc (.cells #[.int .i64 0, .int .i64 0] 26)) (w1.alloc (.cells #[.int .i64 0, .int .i64 0] 26)) := (by have := hb1; simp at this; exact this.alloc (by omega) _)
  have HB0 : Below w.heap.size w (w1.alloc (.cells #[.int .i64 0, .int .i64 0] 26)) := ((Below.refl _ w).alloc (Nat.le_refl _) _).trans (HB1.mono (Nat.le_succ _))
  go_wp2_with fail
  refine (KP _ HB0).mono ?_
  rintro e w2 ⟨vp, rfl, hb2⟩
  have hs2 := hb2.size
  simp at hs2
  have HB2 : Below (w.heap.size + 1) (w.alloc (.cells #[.int .i64 0, .int .i64 0] 26)) (w2.alloc (.cells #[.int .i64 0, .int .i64 0] 26)) := (HB1.trans (hb2.mono (by simp; omega))).alloc (by omega) _
  clear hb1 hb2 HB1 HB0 KF KP
  go_wp2_with fail
  refine (appendUnit_any 7 65279 _ (w.heap.size + 1) (.slice none 0 0) [] (by omega) (by omega) (World.ownsRow_nil _ _ _ _) (by simp; omega) (by simp)).mono ?_
  rintro e w3 ⟨v3, rfl, hown3, hb3⟩
  have hown3 : Own w3 (w.heap.size + 1) v3 ([254, 255] ++ flatS 7 []) := hown3
  have HB3 : Hid (Below (w.heap.size + 1) (w.alloc (.cells #[.int .i64 0, .int .i64 0] 26)) w3) := HB2.trans hb3
  clear HB2 hb3
  go_wp2
  go_loopw [10, 11] (fun v i wr => ∃ (qs rs : List Int) (k : Nat), ps = qs ++ rs ∧ i = .int .i64 k ∧ k = (Ut.flat qs).length ∧ Own wr (w.heap.size + 1) v (([254, 255] : List Int) ++ flatS 7 qs) ∧ Below (w.heap.size + 1) (w.alloc (.cells #[.int .i64 0, .int .i64 0] 26)) wr) (fun _ i _ => len - (intOf i).toNat)
  case atStart => exact ⟨[], ps, 0, rfl, rfl, rfl, hown3, HB3.out⟩
  case round =>
    obtain ⟨qs, rs, k, hqr, rfl, hk, hown, hbel⟩ := hrel
    have HK : Hid (k = (Ut.flat qs).length) := hk
    have HQ : Hid (ps = qs ++ rs) := hqr
    have HB : Hid (Below (w.heap.size + 1) (w.alloc (.cells #[.int .i64 0, .int .i64 0] 26)) wr) := hbel
    have HO : Hid (Below w.heap.size w wr) := ((Below.refl _ w).alloc (Nat.le_refl _) _).trans (hbel.mono (Nat.le_succ _))
    have hsz : w.heap.size + 1 ≤ wr.heap.size := by have := hbel.size; simpa using this
    have hfl : qs.length ≤ k := by rw [hk]; exact Ut.flat_ge qs
    have hfs : (flatS 7 qs).length ≤ 4 * qs.length := flatS_le (AllIn.pts (AllIn.left (by rw [hqr] at hps; exact hps)))
    have HDK : Hid ((Ut.flat ps).drop k = Ut.flat (rs ++ [])) := by
      unfold Hid
      rw [hk, hqr, Ut.flat_append, List.drop_left, List.append_nil]
    have hkl : k + (Ut.flat (rs ++ [])).length = len := by
      have h1 := congrArg List.length HDK.out
      rw [List.length_drop, HL.out] at h1
      have h2 : k ≤ len := by
        rw [← HL.out, hk, hqr]
        rw [Ut.flat_append, List.length_append]; omega
      omega
    obtain ⟨a1, cap1, rfl, hc1, hm1, hrow1, hn1⟩ := own_row' hown
    obtain ⟨n1, hn1'⟩ : ∃ n1, (([254, 255] : List Int) ++ flatS 7 qs).length = n1 := ⟨_, rfl⟩
    have hn1l : n1 ≤ 100000 := by rw [← hn1']; simp; omega
    have HN1 : Hid ((([254, 255] : List Int) ++ flatS 7 qs).length = n1) := hn1'
    cases rs with
    | nil =>
      have hpq : ps = qs := by rw [hqr, List.append_nil]
      have hkl' : k = len := by simpa [Ut.flat] using hkl
      have c0 : wr.cell? ⟨w.heap.size, 0, none⟩ = some (.int .i64 0) := by rw [hbel.cell (by simp)]; simp
      have c1 : wr.cell? ⟨w.heap.size, 1, none⟩ = some (.int .i64 0) := by rw [hbel.cell (by simp)]; simp
      have f0 : wr.frozen? ⟨w.heap.size, 0, none⟩ = false := by rw [hbel.frozen (by simp)]; simp
      have f1 : wr.frozen? ⟨w.heap.size, 1, none⟩ = false := by rw [hbel.frozen (by simp)]; simp
      subst hpq
      obtain rfl := hkl'
      rw [hn1'] at hown ⊢
      have HV : Hid (Own wr (w.heap.size + 1) (.slice a1 n1 cap1) (([254, 255] : List Int) ++ flatS 7 ps)) := hown
      clear hk hqr hbel hown hrow1 hkl HDK hn1'
      go_wp2
      rw [Exit.noGoto_ret]
      exact bodyPost_ret (v := .tuple #[.slice a1 n1 cap1, .agg #[.int .i64 0, .int .i64 0]]) (by simp [results, Tryd.results14, go_sem, c0, c1]) rfl
        ⟨_, rfl, own_base (Nat.le_succ _) (ownsRow_setCell_below (ownsRow_setCell_below HV.out (by simp) _) (by simp) _), (HO.out.setCell (by simp) _).setCell (by simp) _⟩
    | cons p rs =>
      have hA : AllIn 7 (p :: rs) := by rw [hqr] at hps; exact hps.right
      have hp1 := List.length_pos_iff.2 hA.head.2
      have hp4 := encS_len (s := 7) hA.head.1
      rw [show (p :: rs) ++ [] = p :: (rs ++ []) from rfl, Ut.flat_cons, List.length_append] at hkl
      have hpl := Ut.enc_len p
      have hkN : Calls Tryd.prog 28 #[.slice (Option.map (fun x => x.add k) a) (len - k) (cap - k)] wr fun e w' => e = .returned (.tuple #[.int .i32 p, .int .i64 (Ut.encZ p).length, .int .i64 0]) ∧ wr = w' := by
        have hrow := row_drop (n := k) (cap := cap) (row_below HW.out HO.out) (by rw [HL.out]; omega)
        rw [if_neg (by omega), HDK.out] at hrow
        exact Ut.next_some _ (len - k) (cap - k) _ p wr (by rw [← HDK.out, List.length_drop, HL.out]) (by rw [← HDK.out]; exact (Ut.flat_byt hall).drop k) (by omega) (by unfold maxLen; omega) hrow (by show Ut.decZ (Ut.flat (p :: (rs ++ []))) = _; rw [Ut.flat_cons]; exact Ut.dec_enc hA.head.1 _)
      have hKA := appendPointS_any 7 p wr (w.heap.size + 1) (.slice a1 (([254, 255] : List Int) ++ flatS 7 qs).length cap1) (([254, 255] : List Int) ++ flatS 7 qs) hok hA.head.1 hown hsz (by omega) (h9.below HO.out) (hW.below HO.out)
      rw [hn1'] at hKA
      try rw [hn1']
      have hkl' : k < len := by omega
      obtain ⟨m, hm2⟩ : ∃ m, (Ut.encZ p).length = m := ⟨_, rfl⟩
      rw [hm2] at hkN hpl hkl
      have HM : Hid ((Ut.encZ p).length = m) := hm2
      have HX : Hid ((([254, 255] : List Int) ++ flatS 7 qs ++ encS 7 p).length = n1 + (encS 7 p).length) := by unfold Hid; rw [List.length_append, hn1']
      have HY : Hid (([254, 255] : List Int) ++ flatS 7 (qs ++ [p]) = ([254, 255] : List Int) ++ flatS 7 qs ++ encS 7 p) := by unfold Hid; rw [flatS_append, flatS_cons, flatS_nil, List.append_nil, List.append_assoc]
      clear hk hqr hbel hm2 HDK hrow1
      go_wp2_with fail
      refine hkN.mono ?_
      rintro e wn ⟨rfl, rfl⟩
      go_wp2_with fail
      refine hKA.mono ?_
      rintro e w5 ⟨v5, rfl, hown5, hb5⟩
      obtain ⟨a5, cap5, rfl, hc5, hm5, hrow5, hn5⟩ := own_row' hown5
      have HV5 : Hid (Own w5 (w.heap.size + 1) (.slice a5 (([254, 255] : List Int) ++ flatS 7 qs ++ encS 7 p).length cap5) (([254, 255] : List Int) ++ flatS 7 qs ++ encS 7 p)) := hown5
      rw [HX.out] at HV5 ⊢
      obtain ⟨n5, hn5'⟩ : ∃ n5, n1 + (encS 7 p).length = n5 := ⟨_, rfl⟩
      have hlt : n1 < n5 := by omega
      rw [hn5'] at HV5 ⊢
      have bn : ((n5 : Int) == (n1 : Int)) = false := by simp; omega
      have HB5 : Hid (Below (w.heap.size + 1) (w.alloc (.cells #[.int .i64 0, .int .i64 0] 26)) w5) := HB.out.trans hb5
      clear hb5 hown5 hrow5 hown hn1' hKA hkN hn5' hA hp1 hp4
      go_wp2
      go_roundw
      case rel => exact ⟨qs ++ [p], rs, k + m, by rw [HQ.out]; simp, by go_num, by rw [Ut.flat_append, List.length_append, ← HK.out, Ut.flat_cons, Ut.flat_nil, List.append_nil, HM.out], by rw [HY.out]; exact HV5.out, HB5.out⟩
      case measure => simp [intOf]; omega
set_option maxRecDepth 100000 in
set_option maxHeartbeats 4000000 in
theorem encode_no6 (set : ByteArray) (a : Option Addr) (len cap : Nat) (ps : List Int) (p0 : Int) (qs0 : List Int) (w : World) (hset : set.size ≤ 1000000) (hs : setB (lowS set) = 6)
    (hlen : (Ut.flat (ps ++ p0 :: qs0)).length = len) (hps : AllIn 7 ps) (hp0 : Ut.ptB p0 = true) (hqs : Ut.AllPt qs0) (hno : encS 7 p0 = []) (hcap : len ≤ cap) (hm : cap ≤ maxLen) (hsmall : len ≤ 4000) (hrow : Row w a (Ut.flat (ps ++ p0 :: qs0))) (h9 : T9 w) (hW : TW w) :
    Calls Tryd.prog 14 #[.string set, .slice a len cap] w fun e w' => e = .returned (.tuple #[.slice none 0 0, .agg #[.int .i64 ((Ut.flat ps).length : Nat), .int .i64 10]]) ∧ Below w.heap.size w w' := by
  have hr := setB_range (lowS set)
  have hm' := hm
  unfold maxLen at hm'
  have hok : SetOk 7 := by unfold SetOk; simp
  have KF := fun v : World => setFor_yes set a len cap v 6 hset hs (by omega) (by omega)
  have hall : Ut.AllPt (ps ++ p0 :: qs0) := hps.pts.append (fun x hx => by rcases List.mem_cons.1 hx with rfl | hx; exact hp0; exact hqs x hx)
  have KP : ∀ W : World, Below w.heap.size w W → Calls Tryd.prog 18 #[.slice a len cap] W fun e w' => ∃ v, e = .returned (.tuple #[v, .agg #[.int .i64 0, .int .i64 0]]) ∧ Below W.heap.size W w' := fun W hb =>
    (Ut.points_yes a len cap (ps ++ p0 :: qs0) W hlen hall hcap hm (by omega) (row_below hrow hb)).mono fun e w' ⟨v, h1, _, h2⟩ => ⟨v, h1, h2⟩
  have HL : Hid ((Ut.flat (ps ++ p0 :: qs0)).length = len) := hlen
  have HW : Hid (Row w a (Ut.flat (ps ++ p0 :: qs0))) := hrow
  clear hlen hrow hs
  go_enter Tryd.func14, Tryd.ntmps14
  go_wp2
  refine wp_scope_jumps 0 (fun a' w' => ∃ x0 x1 x2 x3 x4 x6 x7 x8 x9 x10 x12 x13 x14 x15 x16 x17 x18 x19 x20 x21 x22 x23 x24 x25 x26 x27 x28 x29 x30 x31 x32 x33 x34 x35 x36 x37 x38 x39 x40 x41 x42 x43 x44 x45 x46 x47 x48 x49 x50 x51 x52 x53 x54 x55 x56 x57 x58 x59 x60 x61 x62 x63 x64 x65 x66 x67 x68 : Value, a' = ⟨#[x0, x1, x2, x3, x4, .pointer (some ⟨w.heap.size, 0, none⟩), x6, x7, x8, x9, x10, .int .i64 ((Ut.flat ps).length : Nat), x12, x13, x14, x15, x16, x17, x18, x19, x20, x21, x22, x23, x24, x25, x26, x27, x28, x29, x30, x31, x32, x33, x34, x35, x36, x37, x38, x39, x40, x41, x42, x43, x44, x45, x46, x47, x48, x49, x50, x51, x52, x53, x54, x55, x56, x57, x58, x59, x60, x61, x62, x63, x64, x65, x66, x67, x68], []⟩ ∧ Below (w.heap.size + 1) (w.alloc (.cells #[.int .i64 0, .int .i64 0] 26)) w') (fun _ _ => 0) rfl ?_ ?_
  · go_wp2_with fail
    refine (KF _).mono ?_
    rintro e w1 ⟨rfl, hb1⟩
    have hs1 := hb1.size
    simp at hs1
    have HB1 : Below (w.heap.size + 1) (w.alloc (.cells #[.int .i64 0, .int .i64 0] 26)) (w1.alloc (.cells #[.int .i64 0, .int .i64 0] 26)) := (by have := hb1; simp at this; exact this.alloc (by omega) _)
    have HB0 : Below w.heap.size w (w1.alloc (.cells #[.int .i64 0, .int .i64 0] 26)) := ((Below.refl _ w).alloc (Nat.le_refl _) _).trans (HB1.mono (Nat.le_succ _))
    go_wp2_with fail
    refine (KP _ HB0).mono ?_
    rintro e w2 ⟨vp, rfl, hb2⟩
    have hs2 := hb2.size
    simp at hs2
    have HB2 : Below (w.heap.size + 1) (w.alloc (.cells #[.int .i64 0, .int .i64 0] 26)) (w2.alloc (.cells #[.int .i64 0, .int .i64 0] 26)) := (HB1.trans (hb2.mono (by simp; omega))).alloc (by omega) _
    clear hb1 hb2 HB1 HB0 KF KP
    go_wp2_with fail
    refine (appendUnit_any 7 65279 _ (w.heap.size + 1) (.slice none 0 0) [] (by omega) (by omega) (World.ownsRow_nil _ _ _ _) (by simp; omega) (by simp)).mono ?_
    rintro e w3 ⟨v3, rfl, hown3, hb3⟩
    have hown3 : Own w3 (w.heap.size + 1) v3 ([254, 255] ++ flatS 7 []) := hown3
    have HB3 : Hid (Below (w.heap.size + 1) (w.alloc (.cells #[.int .i64 0, .int .i64 0] 26)) w3) := HB2.trans hb3
    clear HB2 hb3
    go_wp2
    go_loopw [10, 11] (fun v i wr => ∃ (qs rs : List Int) (k : Nat), ps = qs ++ rs ∧ i = .int .i64 k ∧ k = (Ut.flat qs).length ∧ Own wr (w.heap.size + 1) v (([254, 255] : List Int) ++ flatS 7 qs) ∧ Below (w.heap.size + 1) (w.alloc (.cells #[.int .i64 0, .int .i64 0] 26)) wr) (fun _ i _ => len - (intOf i).toNat)
    case atStart => exact ⟨[], ps, 0, rfl, rfl, rfl, hown3, HB3.out⟩
    case round =>
      obtain ⟨qs, rs, k, hqr, rfl, hk, hown, hbel⟩ := hrel
      have HK : Hid (k = (Ut.flat qs).length) := hk
      have HQ : Hid (ps = qs ++ rs) := hqr
      have HB : Hid (Below (w.heap.size + 1) (w.alloc (.cells #[.int .i64 0, .int .i64 0] 26)) wr) := hbel
      have HO : Hid (Below w.heap.size w wr) := ((Below.refl _ w).alloc (Nat.le_refl _) _).trans (hbel.mono (Nat.le_succ _))
      have hsz : w.heap.size + 1 ≤ wr.heap.size := by have := hbel.size; simpa using this
      have hfl : qs.length ≤ k := by rw [hk]; exact Ut.flat_ge qs
      have hfs : (flatS 7 qs).length ≤ 4 * qs.length := flatS_le (AllIn.pts (AllIn.left (by rw [hqr] at hps; exact hps)))
      have HDK : Hid ((Ut.flat (ps ++ p0 :: qs0)).drop k = Ut.flat (rs ++ p0 :: qs0)) := by
        unfold Hid
        rw [hk, hqr, List.append_assoc, Ut.flat_append, List.drop_left]
      have hkl : k + (Ut.flat (rs ++ p0 :: qs0)).length = len := by
        have h1 := congrArg List.length HDK.out
        rw [List.length_drop, HL.out] at h1
        have h2 : k ≤ len := by
          rw [← HL.out, hk, hqr]
          rw [List.append_assoc, Ut.flat_append, List.length_append]; omega
        omega
      obtain ⟨a1, cap1, rfl, hc1, hm1, hrow1, hn1⟩ := own_row' hown
      obtain ⟨n1, hn1'⟩ : ∃ n1, (([254, 255] : List Int) ++ flatS 7 qs).length = n1 := ⟨_, rfl⟩
      have hn1l : n1 ≤ 100000 := by rw [← hn1']; simp; omega
      have HN1 : Hid ((([254, 255] : List Int) ++ flatS 7 qs).length = n1) := hn1'
      cases rs with
      | nil =>
        have hqs1 : qs = ps := by rw [hqr, List.append_nil]
        rw [show ([] ++ p0 :: qs0 : List Int) = p0 :: qs0 from rfl] at HDK hkl
        rw [Ut.flat_cons, List.length_append] at hkl
        have hpl := Ut.enc_len p0
        have hkN : Calls Tryd.prog 28 #[.slice (Option.map (fun x => x.add k) a) (len - k) (cap - k)] wr fun e w' => e = .returned (.tuple #[.int .i32 p0, .int .i64 (Ut.encZ p0).length, .int .i64 0]) ∧ wr = w' := by
          have hrow := row_drop (n := k) (cap := cap) (row_below HW.out HO.out) (by rw [HL.out]; omega)
          rw [if_neg (by omega), HDK.out] at hrow
          exact Ut.next_some _ (len - k) (cap - k) _ p0 wr (by rw [← HDK.out, List.length_drop, HL.out]) (by rw [← HDK.out]; exact (Ut.flat_byt hall).drop k) (by omega) (by unfold maxLen; omega) hrow (by show Ut.decZ (Ut.flat (p0 :: qs0)) = _; rw [Ut.flat_cons]; exact Ut.dec_enc hp0 _)
        have hKA := appendPointS_any 7 p0 wr (w.heap.size + 1) (.slice a1 (([254, 255] : List Int) ++ flatS 7 qs).length cap1) (([254, 255] : List Int) ++ flatS 7 qs) hok hp0 hown hsz (by omega) (h9.below HO.out) (hW.below HO.out)
        rw [hn1'] at hKA
        try rw [hn1']
        have hkl' : k < len := by omega
        have HKP : Hid (k = (Ut.flat ps).length) := by unfold Hid; rw [← hqs1]; exact hk
        rw [hno, List.append_nil] at hKA
        clear hk hqr hbel HDK hrow1 hqs1 hkl
        go_wp2_with fail
        refine hkN.mono ?_
        rintro e wn ⟨rfl, rfl⟩
        go_wp2_with fail
        refine hKA.mono ?_
        rintro e w5 ⟨v5, rfl, hown5, hb5⟩
        obtain ⟨a5, cap5, rfl, hc5, hm5, hrow5, hn5⟩ := own_row' hown5
        rw [hn1'] at hown5 ⊢
        have HB5 : Hid (Below (w.heap.size + 1) (w.alloc (.cells #[.int .i64 0, .int .i64 0] 26)) w5) := HB.out.trans hb5
        clear hb5 hown5 hrow5 hown hn1' hKA hkN
        go_wp2
        go_step3
        rw [HKP.out]
        exact ⟨rfl, _, _, _, _, _, _, _, _, _, _, _, _, _, _, _, _, _, _, _, _, _, _, _, _, _, _, _, _, _, _, _, _, _, _, _, _, _, _, _, _, _, _, _, _, _, _, _, _, _, _, _, _, _, _, _, _, _, _, _, _, _, _, _, _, _, _, _, rfl, HB5.out⟩
      | cons p rs =>
        have hA : AllIn 7 (p :: rs) := by rw [hqr] at hps; exact hps.right
        have hp1 := List.length_pos_iff.2 hA.head.2
        have hp4 := encS_len (s := 7) hA.head.1
        rw [show (p :: rs) ++ (p0 :: qs0) = p :: (rs ++ p0 :: qs0) from rfl, Ut.flat_cons, List.length_append] at hkl
        have hpl := Ut.enc_len p
        have hkN : Calls Tryd.prog 28 #[.slice (Option.map (fun x => x.add k) a) (len - k) (cap - k)] wr fun e w' => e = .returned (.tuple #[.int .i32 p, .int .i64 (Ut.encZ p).length, .int .i64 0]) ∧ wr = w' := by
          have hrow := row_drop (n := k) (cap := cap) (row_below HW.out HO.out) (by rw [HL.out]; omega)
          rw [if_neg (by omega), HDK.out] at hrow
          exact Ut.next_some _ (len - k) (cap - k) _ p wr (by rw [← HDK.out, List.length_drop, HL.out]) (by rw [← HDK.out]; exact (Ut.flat_byt hall).drop k) (by omega) (by unfold maxLen; omega) hrow (by show Ut.decZ (Ut.flat (p :: (rs ++ p0 :: qs0))) = _; rw [Ut.flat_cons]; exact Ut.dec_enc hA.head.1 _)
        have hKA := appendPointS_any 7 p wr (w.heap.size + 1) (.slice a1 (([254, 255] : List Int) ++ flatS 7 qs).length cap1) (([254, 255] : List Int) ++ flatS 7 qs) hok hA.head.1 hown hsz (by omega) (h9.below HO.out) (hW.below HO.out)
        rw [hn1'] at hKA
        try rw [hn1']
        have hkl' : k < len := by omega
        obtain ⟨m, hm2⟩ : ∃ m, (Ut.encZ p).length = m := ⟨_, rfl⟩
        rw [hm2] at hkN hpl hkl
        have HM : Hid ((Ut.encZ p).length = m) := hm2
        have HX : Hid ((([254, 255] : List Int) ++ flatS 7 qs ++ encS 7 p).length = n1 + (encS 7 p).length) := by unfold Hid; rw [List.length_append, hn1']
        have HY : Hid (([254, 255] : List Int) ++ flatS 7 (qs ++ [p]) = ([254, 255] : List Int) ++ flatS 7 qs ++ encS 7 p) := by unfold Hid; rw [flatS_append, flatS_cons, flatS_nil, List.append_nil, List.append_assoc]
        clear hk hqr hbel hm2 HDK hrow1
        go_wp2_with fail
        refine hkN.mono ?_
        rintro e wn ⟨rfl, rfl⟩
        go_wp2_with fail
        refine hKA.mono ?_
        rintro e w5 ⟨v5, rfl, hown5, hb5⟩
        obtain ⟨a5, cap5, rfl, hc5, hm5, hrow5, hn5⟩ := own_row' hown5
        have HV5 : Hid (Own w5 (w.heap.size + 1) (.slice a5 (([254, 255] : List Int) ++ flatS 7 qs ++ encS 7 p).length cap5) (([254, 255] : List Int) ++ flatS 7 qs ++ encS 7 p)) := hown5
        rw [HX.out] at HV5 ⊢
        obtain ⟨n5, hn5'⟩ : ∃ n5, n1 + (encS 7 p).length = n5 := ⟨_, rfl⟩
        have hlt : n1 < n5 := by omega
        rw [hn5'] at HV5 ⊢
        have bn : ((n5 : Int) == (n1 : Int)) = false := by simp; omega
        have HB5 : Hid (Below (w.heap.size + 1) (w.alloc (.cells #[.int .i64 0, .int .i64 0] 26)) w5) := HB.out.trans hb5
        clear hb5 hown5 hrow5 hown hn1' hKA hkN hn5' hA hp1 hp4
        go_wp2
        go_roundw
        case rel => exact ⟨qs ++ [p], rs, k + m, by rw [HQ.out]; simp, by go_num, by rw [Ut.flat_append, List.length_append, ← HK.out, Ut.flat_cons, Ut.flat_nil, List.append_nil, HM.out], by rw [HY.out]; exact HV5.out, HB5.out⟩
        case measure => simp [intOf]; omega
  · rintro a' w' ⟨x0, x1, x2, x3, x4, x6, x7, x8, x9, x10, x12, x13, x14, x15, x16, x17, x18, x19, x20, x21, x22, x23, x24, x25, x26, x27, x28, x29, x30, x31, x32, x33, x34, x35, x36, x37, x38, x39, x40, x41, x42, x43, x44, x45, x46, x47, x48, x49, x50, x51, x52, x53, x54, x55, x56, x57, x58, x59, x60, x61, x62, x63, x64, x65, x66, x67, x68, rfl, hbel⟩
    have c0 : w'.cell? ⟨w.heap.size, 0, none⟩ = some (.int .i64 0) := by rw [hbel.cell (by simp)]; simp
    have c1 : w'.cell? ⟨w.heap.size, 1, none⟩ = some (.int .i64 0) := by rw [hbel.cell (by simp)]; simp
    have f0 : w'.frozen? ⟨w.heap.size, 0, none⟩ = false := by rw [hbel.frozen (by simp)]; simp
    have f1 : w'.frozen? ⟨w.heap.size, 1, none⟩ = false := by rw [hbel.frozen (by simp)]; simp
    have HO : Hid (Below w.heap.size w w') := ((Below.refl _ w).alloc (Nat.le_refl _) _).trans (hbel.mono (Nat.le_succ _))
    obtain ⟨z, hz⟩ : ∃ z : Int, (((Ut.flat ps).length : Nat) : Int) = z := ⟨_, rfl⟩
    rw [hz]
    have HZZ : Hid ((((Ut.flat ps).length : Nat) : Int) = z) := hz
    clear hbel hz
    go_wp2
    rw [Ut.jump_ret]
    exact bodyPost_ret (v := .tuple #[.slice none 0 0, .agg #[.int .i64 z, .int .i64 10]]) (by simp [results, Tryd.results14, go_sem, c0, c1]) rfl ⟨by rw [HZZ.out], (HO.out.setCell (by simp) _).setCell (by simp) _⟩
end Go.Proofs.YtlhhbmolkiojfaaDoor
