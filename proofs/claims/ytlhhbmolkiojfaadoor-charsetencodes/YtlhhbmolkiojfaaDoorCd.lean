/-
  The contract of Decode.
-/
import Derived.Test.YtlhhbmolkiojfaaDoorCw
import Derived.Test.YtlhhbmolkiojfaaDoorUText
namespace Go.Proofs.YtlhhbmolkiojfaaDoor
open Go.RowKit
set_option linter.unusedVariables false

theorem ord_set {s : Int} (h0 : 1 ≤ s) (h8 : s ≤ 8) (l : List Int) : SetOk (ordZ s l).1 := by
  unfold ordZ SetOk
  split
  · unfold ordL
    split
    · split
      · simp
      · split <;> simp
    · simp
  · show s = 1 ∨ s = 2 ∨ s = 3 ∨ s = 4 ∨ s = 5 ∨ s = 7 ∨ s = 8; omega
theorem ord_le (s : Int) (l : List Int) : (ordZ s l).2 ≤ l.length := by
  unfold ordZ
  split
  · unfold ordL
    split
    · split
      · simp
      · split <;> simp
    · simp
  · simp
set_option maxRecDepth 100000 in
set_option maxHeartbeats 4000000 in
theorem decode_yes (set : ByteArray) (a : Option Addr) (len cap : Nat) (l : List Int) (ps : List Int) (w : World) (s : Int) (k0 : Nat) (hset : set.size ≤ 1000000) (hs0 : setB (lowS set) ≠ 0) (ho : ordZ (setB (lowS set)) l = (s, k0))
    (hlen : l.length = len) (hl : Byt l) (hps : AllIn s ps) (hd : l.drop k0 = flatS s ps) (hcap : len ≤ cap) (hm : cap ≤ maxLen) (hsmall : len ≤ 4000) (hrow : Row w a l) (h9 : T9 w) (hW : TW w) :
    Calls Tryd.prog 10 #[.string set, .slice a len cap] w fun e w' => ∃ v, e = .returned (.tuple #[v, .agg #[.int .i64 0, .int .i64 0]]) ∧ Own w' w.heap.size v (Ut.flat ps) ∧ Below w.heap.size w w' := by
  obtain ⟨i0, hi, hz0, hz1, hz2⟩ := info_parts Ut.Tryd.info21
  have hr := setB_range (lowS set)
  have hm' := hm
  unfold maxLen at hm'
  have hok : SetOk s := by have := ord_set (s := setB (lowS set)) (by omega) (by omega) l; rw [ho] at this; exact this
  have hk0 : k0 ≤ len := by have := ord_le (setB (lowS set)) l; rw [ho] at this; rw [← hlen]; exact this
  have KF := fun v : World => setFor_yes set a len cap v _ hset rfl hs0 (by omega)
  have KO : ∀ W : World, Below w.heap.size w W → Calls Tryd.prog 20 #[.int .i64 (setB (lowS set)), .slice a len cap] W fun e w' => e = .returned (.tuple #[.int .i64 s, .int .i64 k0]) ∧ Below W.heap.size W w' := fun W hb => by
    have := ordered_any (setB (lowS set)) a len cap l W hlen hl hcap hm (row_below hrow hb)
    rw [ho] at this
    exact this
  have HL : Hid (l.length = len) := hlen
  have HW : Hid (Row w a l) := hrow
  have HD : Hid (l.drop k0 = flatS s ps ++ []) := by unfold Hid; rw [hd, List.append_nil]
  clear hlen hrow hd ho
  obtain ⟨q, hq⟩ : ∃ q, setB (lowS set) = q := ⟨_, rfl⟩
  rw [hq] at KF KO hr
  clear hq hs0
  go_enter Tryd.func10, Tryd.ntmps10
  go_wp2
  go_step3
  go_wp2_with fail
  refine (KF _).mono ?_
  rintro e w1 ⟨rfl, hb1⟩
  have hs1 := hb1.size
  simp at hs1
  go_wp2_with fail
  have HB1 : Below (w.heap.size + 1) (w.alloc (.cells #[.int .i64 0, .int .i64 0] 26)) (w1.alloc (.cells #[.int .i64 0, .int .i64 0] 26)) := (by have := hb1; simp at this; exact this.alloc (by omega) _)
  have HB0 : Below w.heap.size w (w1.alloc (.cells #[.int .i64 0, .int .i64 0] 26)) := ((Below.refl _ w).alloc (Nat.le_refl _) _).trans (HB1.mono (Nat.le_succ _))
  refine (KO _ HB0).mono ?_
  rintro e w3 ⟨rfl, hb3⟩
  have hs3 := hb3.size
  simp at hs3
  have HB3 : Hid (Below (w.heap.size + 1) (w.alloc (.cells #[.int .i64 0, .int .i64 0] 26)) w3) := HB1.trans (hb3.mono (by simp; omega))
  clear hb1 hb3 HB1 HB0 KF KO
  go_wp2
  go_loopw [8, 9] (fun v i wr => ∃ (qs rs : List Int) (k : Nat), ps = qs ++ rs ∧ i = .int .i64 k ∧ k = k0 + (flatS s qs).length ∧ Ut.Own32 wr (w.heap.size + 1) v qs ∧ Below (w.heap.size + 1) (w.alloc (.cells #[.int .i64 0, .int .i64 0] 26)) wr) (fun _ i _ => len - (intOf i).toNat)
  case atStart => exact ⟨[], ps, k0, rfl, rfl, by simp [flatS], World.ownsRow_nil _ _ _ _, HB3.out⟩
  case round =>
    obtain ⟨qs, rs, k, hqr, rfl, hk, hown, hbel⟩ := hrel
    have HK : Hid (k = k0 + (flatS s qs).length) := hk
    have HQ : Hid (ps = qs ++ rs) := hqr
    have HB : Hid (Below (w.heap.size + 1) (w.alloc (.cells #[.int .i64 0, .int .i64 0] 26)) wr) := hbel
    have HO : Hid (Below w.heap.size w wr) := ((Below.refl _ w).alloc (Nat.le_refl _) _).trans (hbel.mono (Nat.le_succ _))
    have hsz : w.heap.size + 1 ≤ wr.heap.size := by have := hbel.size; simpa using this
    have HDK : Hid (l.drop k = flatS s rs ++ []) := by
      unfold Hid
      rw [hk, ← List.drop_drop, HD.out, hqr, flatS_append, List.append_assoc, List.drop_left]
    have hkl : k + (flatS s rs ++ []).length = len := by
      have h1 := congrArg List.length HDK.out
      rw [List.length_drop, HL.out] at h1
      have h2 : k ≤ len := by
        have h3 := congrArg List.length HD.out
        rw [List.length_drop, HL.out, hqr, flatS_append] at h3
        simp at h3
        omega
      omega
    have hql : qs.length ≤ k := by rw [hk]; have := flatS_ge (s := s) (AllIn.left (by rw [hqr] at hps; exact hps)); omega
    cases rs with
    | nil =>
      have hpq : ps = qs := by rw [hqr, List.append_nil]
      have hkl' : k = len := by simpa [flatS] using hkl
      have c0 : wr.cell? ⟨w.heap.size, 0, none⟩ = some (.int .i64 0) := by rw [hbel.cell (by simp)]; simp
      have c1 : wr.cell? ⟨w.heap.size, 1, none⟩ = some (.int .i64 0) := by rw [hbel.cell (by simp)]; simp
      have f0 : wr.frozen? ⟨w.heap.size, 0, none⟩ = false := by rw [hbel.frozen (by simp)]; simp
      have f1 : wr.frozen? ⟨w.heap.size, 1, none⟩ = false := by rw [hbel.frozen (by simp)]; simp
      subst hpq
      obtain rfl := hkl'
      unfold Ut.Own32 at hown
      obtain ⟨a2, cap2, rfl, hc2, hm2, hrow2, hn2⟩ := own_row' hown
      have KT := Ut.text_yes a2 ps.length cap2 ps wr rfl hps.pts hc2 hm2 (by omega) hrow2
      clear hk hqr hbel hown hrow2 hkl HD HDK
      go_wp2_with fail
      refine KT.mono ?_
      rintro e w5 ⟨v5, rfl, hown5, hb5⟩
      have d0 : w5.cell? ⟨w.heap.size, 0, none⟩ = some (.int .i64 0) := by rw [hb5.cell (by simp; omega)]; exact c0
      have d1 : w5.cell? ⟨w.heap.size, 1, none⟩ = some (.int .i64 0) := by rw [hb5.cell (by simp; omega)]; exact c1
      have g0 : w5.frozen? ⟨w.heap.size, 0, none⟩ = false := by rw [hb5.frozen (by simp; omega)]; exact f0
      have g1 : w5.frozen? ⟨w.heap.size, 1, none⟩ = false := by rw [hb5.frozen (by simp; omega)]; exact f1
      have HV : Hid (Own w5 (w.heap.size + 1) v5 (Ut.flat ps)) := own_base hsz hown5
      have HO5 : Hid (Below w.heap.size w w5) := HO.out.trans (hb5.mono (by omega))
      clear c0 c1 f0 f1 hown5 hb5 KT
      go_wp2
      rw [Exit.noGoto_ret]
      exact bodyPost_ret (v := .tuple #[v5, .agg #[.int .i64 0, .int .i64 0]]) (by simp [results, Tryd.results10, go_sem, d0, d1]) rfl
        ⟨v5, rfl, own_base (Nat.le_succ _) (ownsRow_setCell_below (ownsRow_setCell_below HV.out (by simp) _) (by simp) _), (HO5.out.setCell (by simp) _).setCell (by simp) _⟩
    | cons p rs =>
      have hA : AllIn s (p :: rs) := by rw [hqr] at hps; exact hps.right
      have hp0 := List.length_pos_iff.2 hA.head.2
      have hp4 := encS_len (s := s) hA.head.1
      rw [flatS_cons, List.append_assoc, List.length_append] at hkl
      have hKN : Calls Tryd.prog 21 #[.int .i64 s, .slice (Option.map (fun x => x.add k) a) (len - k) (cap - k)] wr fun e w' => e = .returned (.tuple #[.int .i32 p, .int .i64 (encS s p).length]) ∧ Below wr.heap.size wr w' := by
        have hrow := row_drop (n := k) (cap := cap) (row_below HW.out HO.out) (by rw [HL.out]; omega)
        rw [if_neg (by omega), HDK.out] at hrow
        have := nextS_any s (Option.map (fun x => x.add k) a) (len - k) (cap - k) (flatS s (p :: rs) ++ []) wr hok (by rw [← HDK.out, List.length_drop, HL.out]) (by rw [← HDK.out]; exact hl.drop k) (by rw [flatS_cons, List.append_assoc]; intro e; exact hA.head.2 (List.append_eq_nil_iff.1 e).1) (by omega) (by unfold maxLen; omega) hrow (h9.below HO.out) (hW.below HO.out)
        rw [flatS_cons, List.append_assoc, nxS_enc hok hA.head.1 hA.head.2] at this
        exact this
      have hklt : k < len := by omega
      obtain ⟨m, hm2⟩ : ∃ m, (encS s p).length = m := ⟨_, rfl⟩
      rw [hm2] at hKN hp0 hp4 hkl
      have HM : Hid ((encS s p).length = m) := hm2
      have bm : ((m : Int) == 0) = false := by simp; omega
      clear hk hqr hbel hA hm2
      unfold Ut.Own32 at hown
      go_wp2_with fail
      refine hKN.mono ?_
      rintro e wn ⟨rfl, hbn⟩
      have hownn := own_keep hown hbn
      have hsn := hbn.size
      have HBn : Hid (Below (w.heap.size + 1) (w.alloc (.cells #[.int .i64 0, .int .i64 0] 26)) wn) := HB.out.trans (hbn.mono hsz)
      clear hbn hKN
      go_wp2_with (at_builtin; refine wpList_append_own _ rfl _ _ 34 rfl (w.heap.size + 1) 21 i0 (.int .i32 0) 1 4 Tryd.underlying34 hi hz0 hz1 hz2 rfl (by decide) _ _ _ rfl (hownn.alloc _) ⟨wn.heap.size, 0, none⟩ 1 1 ([p].map (Value.int .i32)) rfl rfl (cells_new _ _ _) (Ut.ints_one32 _) ?c3 ?c4 ?c5 ?_)
      case c3 => unfold maxLen; omega
      case c4 => omega
      case c5 => simp; omega
      intro v' w4 hown' hgrow _
      have HO' : Hid (Ut.Own32 w4 (w.heap.size + 1) v' (qs ++ [p])) := by
        unfold Hid Ut.Own32; rw [List.length_append, List.map_append]; exact hown'
      have HB' : Hid (Below (w.heap.size + 1) (w.alloc (.cells #[.int .i64 0, .int .i64 0] 26)) w4) :=
        (HBn.out.alloc (by omega) _).grown hgrow (by simp; omega) (fun k hk => (hownn.lt k hk).1)
      clear hown' hgrow hown hownn
      go_wp2
      go_roundw
      case rel => exact ⟨qs ++ [p], rs, k + m, by rw [HQ.out]; simp, by go_num, by rw [flatS_append, List.length_append, HK.out, flatS_cons, flatS_nil, List.append_nil, HM.out]; omega, HO'.out, HB'.out⟩
      case measure => simp [intOf]; omega
set_option maxRecDepth 100000 in
set_option maxHeartbeats 4000000 in
theorem decode_no (set : ByteArray) (a : Option Addr) (len cap : Nat) (l : List Int) (ps r : List Int) (w : World) (s : Int) (k0 : Nat) (hset : set.size ≤ 1000000) (hs0 : setB (lowS set) ≠ 0) (ho : ordZ (setB (lowS set)) l = (s, k0))
    (hlen : l.length = len) (hl : Byt l) (hps : AllIn s ps) (hd : l.drop k0 = flatS s ps ++ r) (hne : r ≠ []) (hz : nxS s r = none) (hcap : len ≤ cap) (hm : cap ≤ maxLen) (hsmall : len ≤ 4000) (hrow : Row w a l) (h9 : T9 w) (hW : TW w) :
    Calls Tryd.prog 10 #[.string set, .slice a len cap] w fun e w' => e = .returned (.tuple #[.slice none 0 0, .agg #[.int .i64 ((k0 + (flatS s ps).length : Nat) : Int), .int .i64 20]]) ∧ Below w.heap.size w w' := by
  obtain ⟨i0, hi, hz0, hz1, hz2⟩ := info_parts Ut.Tryd.info21
  have hr := setB_range (lowS set)
  have hm' := hm
  unfold maxLen at hm'
  have hok : SetOk s := by have := ord_set (s := setB (lowS set)) (by omega) (by omega) l; rw [ho] at this; exact this
  have hk0 : k0 ≤ len := by have := ord_le (setB (lowS set)) l; rw [ho] at this; rw [← hlen]; exact this
  have KF := fun v : World => setFor_yes set a len cap v _ hset rfl hs0 (by omega)
  have KO : ∀ W : World, Below w.heap.size w W → Calls Tryd.prog 20 #[.int .i64 (setB (lowS set)), .slice a len cap] W fun e w' => e = .returned (.tuple #[.int .i64 s, .int .i64 k0]) ∧ Below W.heap.size W w' := fun W hb => by
    have := ordered_any (setB (lowS set)) a len cap l W hlen hl hcap hm (row_below hrow hb)
    rw [ho] at this
    exact this
  have HL : Hid (l.length = len) := hlen
  have HW : Hid (Row w a l) := hrow
  have HD : Hid (l.drop k0 = flatS s ps ++ r) := hd
  have HZ : Hid (nxS s r = none) := hz
  clear hlen hrow hd ho hz
  obtain ⟨q, hq⟩ : ∃ q, setB (lowS set) = q := ⟨_, rfl⟩
  rw [hq] at KF KO hr
  clear hq hs0
  go_enter Tryd.func10, Tryd.ntmps10
  go_wp2
  refine wp_scope_jumps 0 (fun a' w' => ∃ x0 x1 x2 x3 x4 x6 x7 x8 x10 x11 x12 x13 x14 x15 x16 x17 x18 x19 x20 x21 x22 x23 x24 x25 x26 x27 x28 x29 x30 x31 x32 x33 x34 x35 x36 x37 x38 x39 x40 x41 x42 x43 x44 x45 x46 x47 x48 x49 x50 x51 x52 x53 x54 : Value, a' = ⟨#[x0, x1, x2, x3, x4, .pointer (some ⟨w.heap.size, 0, none⟩), x6, x7, x8, .int .i64 ((k0 + (flatS s ps).length : Nat) : Int), x10, x11, x12, x13, x14, x15, x16, x17, x18, x19, x20, x21, x22, x23, x24, x25, x26, x27, x28, x29, x30, x31, x32, x33, x34, x35, x36, x37, x38, x39, x40, x41, x42, x43, x44, x45, x46, x47, x48, x49, x50, x51, x52, x53, x54], []⟩ ∧ Below (w.heap.size + 1) (w.alloc (.cells #[.int .i64 0, .int .i64 0] 26)) w') (fun _ _ => 0) rfl ?_ ?_
  · go_wp2_with fail
    refine (KF _).mono ?_
    rintro e w1 ⟨rfl, hb1⟩
    have hs1 := hb1.size
    simp at hs1
    go_wp2_with fail
    have HB1 : Below (w.heap.size + 1) (w.alloc (.cells #[.int .i64 0, .int .i64 0] 26)) (w1.alloc (.cells #[.int .i64 0, .int .i64 0] 26)) := (by have := hb1; simp at this; exact this.alloc (by omega) _)
    have HB0 : Below w.heap.size w (w1.alloc (.cells #[.int .i64 0, .int .i64 0] 26)) := ((Below.refl _ w).alloc (Nat.le_refl _) _).trans (HB1.mono (Nat.le_succ _))
    refine (KO _ HB0).mono ?_
    rintro e w3 ⟨rfl, hb3⟩
    have hs3 := hb3.size
    simp at hs3
    have HB3 : Hid (Below (w.heap.size + 1) (w.alloc (.cells #[.int .i64 0, .int .i64 0] 26)) w3) := HB1.trans (hb3.mono (by simp; omega))
    clear hb1 hb3 HB1 HB0 KF KO
    go_wp2
    go_loopw [8, 9] (fun v i wr => ∃ (qs rs : List Int) (k : Nat), ps = qs ++ rs ∧ i = .int .i64 k ∧ k = k0 + (flatS s qs).length ∧ Ut.Own32 wr (w.heap.size + 1) v qs ∧ Below (w.heap.size + 1) (w.alloc (.cells #[.int .i64 0, .int .i64 0] 26)) wr) (fun _ i _ => len - (intOf i).toNat)
    case atStart => exact ⟨[], ps, k0, rfl, rfl, by simp [flatS], World.ownsRow_nil _ _ _ _, HB3.out⟩
    case round =>
      obtain ⟨qs, rs, k, hqr, rfl, hk, hown, hbel⟩ := hrel
      have HK : Hid (k = k0 + (flatS s qs).length) := hk
      have HQ : Hid (ps = qs ++ rs) := hqr
      have HB : Hid (Below (w.heap.size + 1) (w.alloc (.cells #[.int .i64 0, .int .i64 0] 26)) wr) := hbel
      have HO : Hid (Below w.heap.size w wr) := ((Below.refl _ w).alloc (Nat.le_refl _) _).trans (hbel.mono (Nat.le_succ _))
      have hsz : w.heap.size + 1 ≤ wr.heap.size := by have := hbel.size; simpa using this
      have HDK : Hid (l.drop k = flatS s rs ++ r) := by
        unfold Hid
        rw [hk, ← List.drop_drop, HD.out, hqr, flatS_append, List.append_assoc, List.drop_left]
      have hkl : k + (flatS s rs ++ r).length = len := by
        have h1 := congrArg List.length HDK.out
        rw [List.length_drop, HL.out] at h1
        have h2 : k ≤ len := by
          have h3 := congrArg List.length HD.out
          rw [List.length_drop, HL.out, hqr, flatS_append] at h3
          simp at h3
          omega
        omega
      have hql : qs.length ≤ k := by rw [hk]; have := flatS_ge (s := s) (AllIn.left (by rw [hqr] at hps; exact hps)); omega
      cases rs with
      | nil =>
        have hpq : ps = qs := by rw [hqr, List.append_nil]
        have hrp : 0 < r.length := List.length_pos_iff.2 hne
        have hkr : k + r.length = len := by simpa [flatS] using hkl
        have hkl' : k < len := by omega
        have HKP : Hid (k = k0 + (flatS s ps).length) := by unfold Hid; rw [hpq]; exact hk
        have HDR : Hid (l.drop k = r) := by unfold Hid; rw [HDK.out]; simp [flatS]
        have hKN : Calls Tryd.prog 21 #[.int .i64 s, .slice (Option.map (fun x => x.add k) a) (len - k) (cap - k)] wr fun e w' => e = .returned (.tuple #[.int .i32 0, .int .i64 0]) ∧ Below wr.heap.size wr w' := by
          have hrow := row_drop (n := k) (cap := cap) (row_below HW.out HO.out) (by rw [HL.out]; omega)
          rw [if_neg (by omega), HDR.out] at hrow
          have := nextS_any s (Option.map (fun x => x.add k) a) (len - k) (cap - k) r wr hok (by rw [← HDR.out, List.length_drop, HL.out]) (by rw [← HDR.out]; exact hl.drop k) hne (by omega) (by unfold maxLen; omega) hrow (h9.below HO.out) (hW.below HO.out)
          rw [HZ.out] at this
          exact this
        clear hk hqr hbel hkl hpq HD HDK HDR hkr hrp hown
        go_wp2_with fail
        refine hKN.mono ?_
        rintro e w5 ⟨rfl, hb5⟩
        have HB5 : Hid (Below (w.heap.size + 1) (w.alloc (.cells #[.int .i64 0, .int .i64 0] 26)) w5) := HB.out.trans (hb5.mono hsz)
        clear hb5
        go_wp2
        go_step3
        rw [HKP.out]
        exact ⟨rfl, _, _, _, _, _, _, _, _, _, _, _, _, _, _, _, _, _, _, _, _, _, _, _, _, _, _, _, _, _, _, _, _, _, _, _, _, _, _, _, _, _, _, _, _, _, _, _, _, _, _, _, _, _, rfl, HB5.out⟩
      | cons p rs =>
        have hA : AllIn s (p :: rs) := by rw [hqr] at hps; exact hps.right
        have hp0 := List.length_pos_iff.2 hA.head.2
        have hp4 := encS_len (s := s) hA.head.1
        rw [flatS_cons, List.append_assoc, List.length_append] at hkl
        have hKN : Calls Tryd.prog 21 #[.int .i64 s, .slice (Option.map (fun x => x.add k) a) (len - k) (cap - k)] wr fun e w' => e = .returned (.tuple #[.int .i32 p, .int .i64 (encS s p).length]) ∧ Below wr.heap.size wr w' := by
          have hrow := row_drop (n := k) (cap := cap) (row_below HW.out HO.out) (by rw [HL.out]; omega)
          rw [if_neg (by omega), HDK.out] at hrow
          have := nextS_any s (Option.map (fun x => x.add k) a) (len - k) (cap - k) (flatS s (p :: rs) ++ r) wr hok (by rw [← HDK.out, List.length_drop, HL.out]) (by rw [← HDK.out]; exact hl.drop k) (by rw [flatS_cons, List.append_assoc]; intro e; exact hA.head.2 (List.append_eq_nil_iff.1 e).1) (by omega) (by unfold maxLen; omega) hrow (h9.below HO.out) (hW.below HO.out)
          rw [flatS_cons, List.append_assoc, nxS_enc hok hA.head.1 hA.head.2] at this
          exact this
        have hklt : k < len := by omega
        obtain ⟨m, hm2⟩ : ∃ m, (encS s p).length = m := ⟨_, rfl⟩
        rw [hm2] at hKN hp0 hp4 hkl
        have HM : Hid ((encS s p).length = m) := hm2
        have bm : ((m : Int) == 0) = false := by simp; omega
        clear hk hqr hbel hA hm2
        unfold Ut.Own32 at hown
        go_wp2_with fail
        refine hKN.mono ?_
        rintro e wn ⟨rfl, hbn⟩
        have hownn := own_keep hown hbn
        have hsn := hbn.size
        have HBn : Hid (Below (w.heap.size + 1) (w.alloc (.cells #[.int .i64 0, .int .i64 0] 26)) wn) := HB.out.trans (hbn.mono hsz)
        clear hbn hKN
        go_wp2_with (at_builtin; refine wpList_append_own _ rfl _ _ 34 rfl (w.heap.size + 1) 21 i0 (.int .i32 0) 1 4 Tryd.underlying34 hi hz0 hz1 hz2 rfl (by decide) _ _ _ rfl (hownn.alloc _) ⟨wn.heap.size, 0, none⟩ 1 1 ([p].map (Value.int .i32)) rfl rfl (cells_new _ _ _) (Ut.ints_one32 _) ?c3 ?c4 ?c5 ?_)
        case c3 => unfold maxLen; omega
        case c4 => omega
        case c5 => simp; omega
        intro v' w4 hown' hgrow _
        have HO' : Hid (Ut.Own32 w4 (w.heap.size + 1) v' (qs ++ [p])) := by
          unfold Hid Ut.Own32; rw [List.length_append, List.map_append]; exact hown'
        have HB' : Hid (Below (w.heap.size + 1) (w.alloc (.cells #[.int .i64 0, .int .i64 0] 26)) w4) :=
          (HBn.out.alloc (by omega) _).grown hgrow (by simp; omega) (fun k hk => (hownn.lt k hk).1)
        clear hown' hgrow hown hownn
        go_wp2
        go_roundw
        case rel => exact ⟨qs ++ [p], rs, k + m, by rw [HQ.out]; simp, by go_num, by rw [flatS_append, List.length_append, HK.out, flatS_cons, flatS_nil, List.append_nil, HM.out]; omega, HO'.out, HB'.out⟩
        case measure => simp [intOf]; omega
  · rintro a' w' ⟨x0, x1, x2, x3, x4, x6, x7, x8, x10, x11, x12, x13, x14, x15, x16, x17, x18, x19, x20, x21, x22, x23, x24, x25, x26, x27, x28, x29, x30, x31, x32, x33, x34, x35, x36, x37, x38, x39, x40, x41, x42, x43, x44, x45, x46, x47, x48, x49, x50, x51, x52, x53, x54, rfl, hbel⟩
    have c0 : w'.cell? ⟨w.heap.size, 0, none⟩ = some (.int .i64 0) := by rw [hbel.cell (by simp)]; simp
    have c1 : w'.cell? ⟨w.heap.size, 1, none⟩ = some (.int .i64 0) := by rw [hbel.cell (by simp)]; simp
    have f0 : w'.frozen? ⟨w.heap.size, 0, none⟩ = false := by rw [hbel.frozen (by simp)]; simp
    have f1 : w'.frozen? ⟨w.heap.size, 1, none⟩ = false := by rw [hbel.frozen (by simp)]; simp
    have HO : Hid (Below w.heap.size w w') := ((Below.refl _ w).alloc (Nat.le_refl _) _).trans (hbel.mono (Nat.le_succ _))
    obtain ⟨z, hz⟩ : ∃ z : Int, ((k0 + (flatS s ps).length : Nat) : Int) = z := ⟨_, rfl⟩
    rw [hz]
    have HZZ : Hid (((k0 + (flatS s ps).length : Nat) : Int) = z) := hz
    clear hbel hz
    go_wp2
    rw [Ut.jump_ret]
    exact bodyPost_ret (v := .tuple #[.slice none 0 0, .agg #[.int .i64 z, .int .i64 20]]) (by simp [results, Tryd.results10, go_sem, c0, c1]) rfl ⟨by rw [HZZ.out], (HO.out.setCell (by simp) _).setCell (by simp) _⟩
end Go.Proofs.YtlhhbmolkiojfaaDoor
