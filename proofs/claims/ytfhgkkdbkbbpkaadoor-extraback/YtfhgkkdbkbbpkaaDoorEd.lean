/-
  Charset's Decode at utf-8.
-/
import Derived.Test.YtfhgkkdbkbbpkaaDoorCSm
import Derived.Test.YtfhgkkdbkbbpkaaDoorCUText
namespace Go.Proofs.YtfhgkkdbkbbpkaaDoor.Cs
open Go.RowKit
set_option linter.unusedVariables false
set_option linter.unusedSimpArgs false

/-- utf-8. -/
def utfS : ByteArray := ⟨#[117, 116, 102, 45, 56]⟩
theorem utf_small : strOfNums ((nums utfS).map smallZ) = utfS := by decide +kernel
theorem utf_e0 : (utfS.toList == [117, 115, 45, 97, 115, 99, 105, 105]) = false := by rw [ByteArray.toList_eq]; rfl
theorem utf_e1 : (utfS.toList == [97, 115, 99, 105, 105]) = false := by rw [ByteArray.toList_eq]; rfl
theorem utf_e2 : (utfS.toList == [117, 116, 102, 45, 56]) = true := by rw [ByteArray.toList_eq]; rfl

theorem setOf_utf (w : World) : Calls Tryd.prog 92 #[.string utfS] w fun e w' => e = .returned (.int .i64 2) ∧ Below w.heap.size w w' := by
  have K : Calls Tryd.prog 107 #[.string utfS] w fun e w' => e = .returned (.string utfS) ∧ Below w.heap.size w w' := by
    have := small_any utfS w (by decide)
    rw [utf_small] at this
    exact this
  have e0 := utf_e0
  have e1 := utf_e1
  have e2 := utf_e2
  revert K e0 e1 e2
  generalize utfS = x
  intro K e0 e1 e2
  go_enter Tryd.func92, Tryd.ntmps92
  go_wp2_with (go_at_call 107; refine K.mono ?_; rintro e w' ⟨rfl, hb⟩)
  go_ret
  exact ⟨rfl, hb⟩
set_option maxRecDepth 100000 in
set_option maxHeartbeats 4000000 in
theorem setFor_utf (a : Option Addr) (len cap : Nat) (w : World) (hlen : len ≤ 1048576) :
    Calls Tryd.prog 76 #[.string utfS, .slice a len cap] w fun e w' => e = .returned (.tuple #[.int .i64 2, .agg #[.int .i64 0, .int .i64 0]]) ∧ Below w.heap.size w w' := by
  have K := fun v : World => setOf_utf v
  revert K
  generalize utfS = x
  intro K
  go_enter Tryd.func76, Tryd.ntmps76
  go_wp2_with (go_at_call 92; refine (K _).mono ?_; rintro e w' ⟨rfl, hb⟩; have c0 : w'.cell? ⟨w.heap.size, 0, none⟩ = some (.int .i64 0) := (by rw [hb.cell (by simp)]; simp); have c1 : w'.cell? ⟨w.heap.size, 1, none⟩ = some (.int .i64 0) := (by rw [hb.cell (by simp)]; simp); have f0 : w'.frozen? ⟨w.heap.size, 0, none⟩ = false := (by rw [hb.frozen (by simp)]; simp); have f1 : w'.frozen? ⟨w.heap.size, 1, none⟩ = false := (by rw [hb.frozen (by simp)]; simp))
  have B0 : Below w.heap.size w w' := ((Below.refl _ _).alloc (Nat.le_refl _) _).trans (hb.mono (by simp))
  exact bodyPost_ret (v := .tuple #[.int .i64 2, .agg #[.int .i64 0, .int .i64 0]]) (by simp [results, Tryd.results76, go_sem, c0, c1]) rfl ⟨rfl, (B0.setCell (by simp) _).setCell (by simp) _⟩
theorem ordered_two (a : Option Addr) (len cap : Nat) (w : World) :
    Calls Tryd.prog 77 #[.int .i64 2, .slice a len cap] w fun e w' => e = .returned (.tuple #[.int .i64 2, .int .i64 0]) ∧ Below w.heap.size w w' := by
  go_enter Tryd.func77, Tryd.ntmps77
  go_wp2
  go_ret2
  exact ⟨rfl, Below.refl _ _⟩
theorem next_two (a : Option Addr) (len cap : Nat) (l : List Int) (p : Int) (w : World) (hlen : l.length = len) (hl : Byt l) (hcap : len ≤ cap) (hm : cap ≤ maxLen) (hr : Ut.Row w a l) (hd : Ut.decZ l = some p) :
    Calls Tryd.prog 78 #[.int .i64 2, .slice a len cap] w fun e w' => e = .returned (.tuple #[.int .i32 p, .int .i64 (Ut.encZ p).length]) ∧ Below w.heap.size w w' := by
  have K := Ut.next_some a len cap l p w hlen hl hcap hm hr hd
  clear hr hd
  obtain ⟨m, hm⟩ : ∃ m : Int, ((Ut.encZ p).length : Int) = m := ⟨_, rfl⟩
  rw [hm] at K ⊢
  clear hm
  go_enter Tryd.func78, Tryd.ntmps78
  go_wp2_with (go_at_call 65; refine K.mono ?_; rintro e w' ⟨rfl, rfl⟩)
  go_ret2
  exact ⟨rfl, Below.refl _ _⟩
set_option maxRecDepth 100000 in
set_option maxHeartbeats 4000000 in
theorem decode_utf (a : Option Addr) (len cap : Nat) (ps : List Int) (w : World) (hps : Ut.AllPt ps)
    (hlen : (Ut.flat ps).length = len) (hcap : len ≤ cap) (hm : cap ≤ maxLen) (hsmall : len ≤ 4000) (hrow : Ut.Row w a (Ut.flat ps)) :
    Calls Tryd.prog 60 #[.string utfS, .slice a len cap] w fun e w' => ∃ v, e = .returned (.tuple #[v, .agg #[.int .i64 0, .int .i64 0]]) ∧ Own w' w.heap.size v (Ut.flat ps) ∧ Below w.heap.size w w' := by
  obtain ⟨i0, hi, hz0, hz1, hz2⟩ := info_parts Ut.Tryd.info21
  have hm' := hm
  unfold maxLen at hm'
  have KF := fun v : World => setFor_utf a len cap v (by omega)
  have KO := fun v : World => ordered_two a len cap v
  have HL : Hid ((Ut.flat ps).length = len) := hlen
  have HW : Hid (Ut.Row w a (Ut.flat ps)) := hrow
  clear hlen hrow
  revert KF
  generalize utfS = q
  intro KF
  go_enter Tryd.func60, Tryd.ntmps60
  go_wp2
  go_step3
  go_wp2_with fail
  refine (KF _).mono ?_
  rintro e w1 ⟨rfl, hb1⟩
  have hs1 := hb1.size
  simp at hs1
  go_wp2_with fail
  have HB1 : Below (w.heap.size + 1) (w.alloc (.cells #[.int .i64 0, .int .i64 0] 75)) (w1.alloc (.cells #[.int .i64 0, .int .i64 0] 75)) := (by have := hb1; simp at this; exact this.alloc (by omega) _)
  have HB0 : Below w.heap.size w (w1.alloc (.cells #[.int .i64 0, .int .i64 0] 75)) := ((Below.refl _ w).alloc (Nat.le_refl _) _).trans (HB1.mono (Nat.le_succ _))
  refine (KO _).mono ?_
  rintro e w3 ⟨rfl, hb3⟩
  have hs3 := hb3.size
  simp at hs3
  have HB3 : Hid (Below (w.heap.size + 1) (w.alloc (.cells #[.int .i64 0, .int .i64 0] 75)) w3) := HB1.trans (hb3.mono (by simp; omega))
  clear hb1 hb3 HB1 HB0 KF KO
  go_wp2
  go_loopw [8, 9] (fun v i wr => ∃ (qs rs : List Int) (k : Nat), ps = qs ++ rs ∧ i = .int .i64 k ∧ k = (Ut.flat qs).length ∧ Ut.Own32 wr (w.heap.size + 1) v qs ∧ Below (w.heap.size + 1) (w.alloc (.cells #[.int .i64 0, .int .i64 0] 75)) wr) (fun _ i _ => len - (intOf i).toNat)
  case atStart => exact ⟨[], ps, 0, rfl, rfl, by simp [Ut.flat], World.ownsRow_nil _ _ _ _, HB3.out⟩
  case round =>
    obtain ⟨qs, rs, k, hqr, rfl, hk, hown, hbel⟩ := hrel
    have HK : Hid (k = (Ut.flat qs).length) := hk
    have HQ : Hid (ps = qs ++ rs) := hqr
    have HB : Hid (Below (w.heap.size + 1) (w.alloc (.cells #[.int .i64 0, .int .i64 0] 75)) wr) := hbel
    have HO : Hid (Below w.heap.size w wr) := ((Below.refl _ w).alloc (Nat.le_refl _) _).trans (hbel.mono (Nat.le_succ _))
    have hsz : w.heap.size + 1 ≤ wr.heap.size := by have := hbel.size; simpa using this
    have HDK : Hid ((Ut.flat ps).drop k = Ut.flat rs ++ []) := by
      unfold Hid
      rw [hk, hqr, Ut.flat_append, List.drop_left, List.append_nil]
    have hkl : k + (Ut.flat rs ++ []).length = len := by
      rw [hk, ← HL.out, hqr, Ut.flat_append]; simp
    have hql : qs.length ≤ k := by rw [hk]; exact Ut.flat_ge qs
    cases rs with
    | nil =>
      have hpq : ps = qs := by rw [hqr, List.append_nil]
      have hkl' : k = len := by simpa [Ut.flat] using hkl
      have c0 : wr.cell? ⟨w.heap.size, 0, none⟩ = some (.int .i64 0) := by rw [hbel.cell (by simp)]; simp
      have c1 : wr.cell? ⟨w.heap.size, 1, none⟩ = some (.int .i64 0) := by rw [hbel.cell (by simp)]; simp
      have f0 : wr.frozen? ⟨w.heap.size, 0, none⟩ = false := by rw [hbel.frozen (by simp)]; simp
      have f1 : wr.frozen? ⟨w.heap.size, 1, none⟩ = false := by rw [hbel.frozen (by simp)]; simp
      subst hpq
      obtain rfl := hkl'
      unfold Ut.Own32 at hown
      obtain ⟨a2, cap2, rfl, hc2, hm2, hrow2, hn2⟩ := own_row' hown
      have KT := Ut.text_yes a2 ps.length cap2 ps wr rfl hps hc2 hm2 (by omega) hrow2
      clear hk hqr hbel hown hrow2 hkl HDK
      go_wp2_with fail
      refine KT.mono ?_
      rintro e w5 ⟨v5, rfl, hown5, hb5⟩
      have d0 : w5.cell? ⟨w.heap.size, 0, none⟩ = some (.int .i64 0) := by rw [hb5.cell (by simp; omega)]; exact c0
      have d1 : w5.cell? ⟨w.heap.size, 1, none⟩ = some (.int .i64 0) := by rw [hb5.cell (by simp; omega)]; exact c1
      have g0 : w5.frozen? ⟨w.heap.size, 0, none⟩ = false := by rw [hb5.frozen (by simp; omega)]; exact f0
      have g1 : w5.frozen? ⟨w.heap.size, 1, none⟩ = false := by rw [hb5.frozen (by simp; omega)]; exact f1
      have HV : Hid (Own w5 (w.heap.size + 1) v5 (Ut.flat ps)) := Ut.own_base hsz hown5
      have HO5 : Hid (Below w.heap.size w w5) := HO.out.trans (hb5.mono (by omega))
      clear c0 c1 f0 f1 hown5 hb5 KT
      go_wp2
      rw [Exit.noGoto_ret]
      exact bodyPost_ret (v := .tuple #[v5, .agg #[.int .i64 0, .int .i64 0]]) (by simp [results, Tryd.results60, go_sem, d0, d1]) rfl
        ⟨v5, rfl, Ut.own_base (Nat.le_succ _) (ownsRow_setCell_below (ownsRow_setCell_below HV.out (by simp) _) (by simp) _), (HO5.out.setCell (by simp) _).setCell (by simp) _⟩
    | cons p rs =>
      have hA : Ut.AllPt (p :: rs) := by rw [hqr] at hps; exact hps.right
      have hp0 := Ut.enc_pos p
      have hp4 := Ut.enc_len p
      rw [Ut.flat_cons, List.append_assoc, List.length_append] at hkl
      have hKN : Calls Tryd.prog 78 #[.int .i64 2, .slice (Option.map (fun x => x.add k) a) (len - k) (cap - k)] wr fun e w' => e = .returned (.tuple #[.int .i32 p, .int .i64 (Ut.encZ p).length]) ∧ Below wr.heap.size wr w' := by
        have hrow := Ut.row_drop (n := k) (cap := cap) (Ut.row_below HW.out HO.out) (by rw [HL.out]; omega)
        rw [if_neg (by omega), HDK.out] at hrow
        exact next_two (Option.map (fun x => x.add k) a) (len - k) (cap - k) (Ut.flat (p :: rs) ++ []) p wr (by rw [← HDK.out, List.length_drop, HL.out]) (by rw [← HDK.out]; exact (Ut.flat_byt hps).drop k) (by omega) (by unfold maxLen; omega) hrow (Ut.dec_flat hA)
      have hklt : k < len := by omega
      obtain ⟨m, hm2⟩ : ∃ m, (Ut.encZ p).length = m := ⟨_, rfl⟩
      rw [hm2] at hKN hp0 hp4 hkl
      have HM : Hid ((Ut.encZ p).length = m) := hm2
      have bm : ((m : Int) == 0) = false := by simp; omega
      clear hk hqr hbel hA hm2
      unfold Ut.Own32 at hown
      go_wp2_with fail
      refine hKN.mono ?_
      rintro e wn ⟨rfl, hbn⟩
      have hownn := own_keep hown hbn
      have hsn := hbn.size
      have HBn : Hid (Below (w.heap.size + 1) (w.alloc (.cells #[.int .i64 0, .int .i64 0] 75)) wn) := HB.out.trans (hbn.mono hsz)
      clear hbn hKN
      go_wp2_with (at_builtin; refine wpList_append_own _ rfl _ _ 73 rfl (w.heap.size + 1) 21 i0 (.int .i32 0) 1 4 Tryd.underlying73 hi hz0 hz1 hz2 rfl (by decide) _ _ _ rfl (hownn.alloc _) ⟨wn.heap.size, 0, none⟩ 1 1 ([p].map (Value.int .i32)) rfl rfl (cells_new _ _ _) (Ut.ints_one32 _) ?c3 ?c4 ?c5 ?_)
      case c3 => unfold maxLen; omega
      case c4 => omega
      case c5 => simp; omega
      intro v' w4 hown' hgrow _
      have HO' : Hid (Ut.Own32 w4 (w.heap.size + 1) v' (qs ++ [p])) := by
        unfold Hid Ut.Own32; rw [List.length_append, List.map_append]; exact hown'
      have HB' : Hid (Below (w.heap.size + 1) (w.alloc (.cells #[.int .i64 0, .int .i64 0] 75)) w4) :=
        (HBn.out.alloc (by omega) _).grown hgrow (by simp; omega) (fun k hk => (hownn.lt k hk).1)
      clear hown' hgrow hown hownn
      go_wp2
      go_roundw
      case rel => exact ⟨qs ++ [p], rs, k + m, by rw [HQ.out]; simp, by go_num, by rw [Ut.flat_append, List.length_append, HK.out, Ut.flat_cons, Ut.flat_nil, List.append_nil, HM.out], HO'.out, HB'.out⟩
      case measure => simp [intOf]; omega
end Go.Proofs.YtfhgkkdbkbbpkaaDoor.Cs
