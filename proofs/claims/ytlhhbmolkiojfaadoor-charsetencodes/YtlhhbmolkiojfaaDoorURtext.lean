/-
  The contracts of the reference's Text, Valid and Cut.
-/
import Derived.Test.YtlhhbmolkiojfaaDoorURef
import Derived.Test.YtlhhbmolkiojfaaDoorUText
namespace Go.Proofs.YtlhhbmolkiojfaaDoor.Ut
open Go.RowKit
set_option linter.unusedVariables false

set_option maxRecDepth 100000 in
set_option maxHeartbeats 2000000 in
theorem rtext_yes (a : Option Addr) (len cap : Nat) (ps : List Int) (w : World) (hlen : ps.length = len) (hps : AllPt ps) (hcap : len ≤ cap) (hm : cap ≤ maxLen) (hsmall : len ≤ 4000) (hrow : RowK .i32 w a ps) :
    Calls Tryd.prog 24 #[.slice a len cap] w fun e w' => ∃ v, e = .returned (.tuple #[v, .agg #[.int .i64 0, .int .i64 0]]) ∧ Own w' w.heap.size v (flat ps) ∧ Below w.heap.size w w' := by
  obtain ⟨i0, hi, hz0, hz1, hz2⟩ := info_parts Tryd.info5
  have hm' := hm
  unfold maxLen at hm'
  have HL : Hid (ps.length = len) := hlen
  have HW : Hid (RowK .i32 w a ps) := hrow
  clear hlen hrow
  go_enter Tryd.func24, Tryd.ntmps24
  go_wp2
  go_loopw [4, 5] (fun v i wr => ∃ qs rs : List Int, ps = qs ++ rs ∧ i = .int .i64 qs.length ∧ Own wr (w.heap.size + 1) v (flat qs) ∧ Below (w.heap.size + 1) (w.alloc (.cells #[.int .i64 0, .int .i64 0] 26)) wr) (fun _ i _ => len - (intOf i).toNat)
  case atStart => exact ⟨[], ps, rfl, rfl, World.ownsRow_nil _ _ _ _, Below.refl _ _⟩
  case round =>
    obtain ⟨qs, rs, hqr, rfl, hown, hbel⟩ := hrel
    have hlen := HL.out
    obtain ⟨k, hk⟩ : ∃ k, k = qs.length := ⟨_, rfl⟩
    rw [← hk]
    have HK : Hid (k = qs.length) := hk
    have HQ : Hid (ps = qs ++ rs) := hqr
    have HB : Hid (Below (w.heap.size + 1) (w.alloc (.cells #[.int .i64 0, .int .i64 0] 26)) wr) := hbel
    have HO : Hid (Below w.heap.size w wr) := ((Below.refl _ w).alloc (Nat.le_refl _) _).trans (hbel.mono (Nat.le_succ _))
    have hsz : w.heap.size + 1 ≤ wr.heap.size := by have := hbel.size; simpa using this
    cases rs with
    | nil =>
      have hkl : k = len := by rw [hk, ← hlen, hqr, List.append_nil]
      obtain rfl := hkl
      have c0 : wr.cell? ⟨w.heap.size, 0, none⟩ = some (.int .i64 0) := by rw [hbel.cell (by simp)]; simp
      have c1 : wr.cell? ⟨w.heap.size, 1, none⟩ = some (.int .i64 0) := by rw [hbel.cell (by simp)]; simp
      have f0 : wr.frozen? ⟨w.heap.size, 0, none⟩ = false := by rw [hbel.frozen (by simp)]; simp
      have f1 : wr.frozen? ⟨w.heap.size, 1, none⟩ = false := by rw [hbel.frozen (by simp)]; simp
      have HV : Hid (Own wr (w.heap.size + 1) u4 (flat ps)) := by unfold Hid; rw [HQ.out, List.append_nil]; exact hown
      clear hk hqr hbel hlen hown
      go_wp2
      exact bodyPost_ret (v := .tuple #[u4, .agg #[.int .i64 0, .int .i64 0]]) (by simp [results, Tryd.results24, go_sem, c0, c1]) rfl
        ⟨u4, rfl, own_base (Nat.le_succ _) (ownsRow_setCell_below (ownsRow_setCell_below HV.out (by simp) _) (by simp) _), (HO.out.setCell (by simp) _).setCell (by simp) _⟩
    | cons p rs =>
      have hkl : k < len := by rw [← hlen, hqr, hk]; simp
      have hp : ptB p = true := hps p (by rw [hqr]; simp)
      have hps0 : ps ≠ [] := by rw [hqr]; simp
      have hget : ps.getD k 0 = p := by rw [hqr, hk]; simp [List.getD_eq_getElem?_getD]
      rcases rowK_below HW.out HO.out with h0 | ⟨b, off, rfl, hc⟩
      · exact absurd h0 hps0
      · have hc' := hc k (by omega)
        rw [hget] at hc'
        have HP : Hid (ptB p = true) := hp
        have hfl : (flat qs).length ≤ 16000 := by have := flat_le qs; omega
        have hpl := enc_len p
        clear hk hqr hbel hlen hp hps0 hget hc
        go_wp2_with fail
        refine (rput_yes p wr HP.out).mono ?_
        rintro e wn ⟨v1, rfl, hown1, hbn⟩
        obtain ⟨a1, cap1, rfl, hcap1, hm1, hrow1, hn1⟩ := own_row' hown1
        have HN1 : Hid (a1 = none → cap1 = 0) := hn1
        have HR1 : Hid (RowK .u8 wn a1 (encZ p)) := hrow1
        have hownn := own_keep hown hbn
        have HBn : Hid (Below (w.heap.size + 1) (w.alloc (.cells #[.int .i64 0, .int .i64 0] 26)) wn) := HB.out.trans (hbn.mono hsz)
        have hszn : w.heap.size + 1 ≤ wn.heap.size := by have := hbn.size; omega
        clear hown1 hrow1 hn1 hbn
        go_wp2_with (at_builtin; refine wpList_append_rowk rfl (.tmp 27) (.tmp 28) 22 rfl (w.heap.size + 1) 5 i0 (.int .u8 0) 1 Tryd.underlying22 hi hz0 hz1 hz2 rfl .u8 _ _ _ rfl hownn a1 (encZ p).length cap1 (encZ p) rfl rfl HN1.out HR1.out ?c1 ?c2 ?c3 ?_)
        case c1 => unfold maxLen; omega
        case c2 => omega
        case c3 => exact hszn
        intro v' w' hown' hgrow
        have HO' : Hid (Own w' (w.heap.size + 1) v' (flat (qs ++ [p]))) := by
          unfold Hid; rw [flat_append, flat_cons, flat_nil, List.append_nil]; exact own_snoc hown'
        have HB' : Hid (Below (w.heap.size + 1) (w.alloc (.cells #[.int .i64 0, .int .i64 0] 26)) w') := HBn.out.grown hgrow hszn (fun k hk => (hown.lt k hk).1)
        clear hown' hgrow hownn hown
        go_wp2
        go_roundw
        case rel => exact ⟨qs ++ [p], rs, by rw [HQ.out]; simp, by rw [List.length_append, ← HK.out]; rfl, HO'.out, HB'.out⟩
        case measure => simp [intOf]; omega

set_option maxRecDepth 100000 in
set_option maxHeartbeats 2000000 in
theorem rtext_no (a : Option Addr) (len cap : Nat) (ps : List Int) (q : Int) (t : List Int) (w : World) (hlen : (ps ++ q :: t).length = len) (hps : AllPt ps) (hq : ptB q = false) (hcap : len ≤ cap) (hm : cap ≤ maxLen) (hsmall : len ≤ 4000) (hrow : RowK .i32 w a (ps ++ q :: t)) :
    Calls Tryd.prog 24 #[.slice a len cap] w fun e w' => e = .returned (.tuple #[.slice none 0 0, .agg #[.int .i64 ps.length, .int .i64 20]]) ∧ Below w.heap.size w w' := by
  obtain ⟨i0, hi, hz0, hz1, hz2⟩ := info_parts Tryd.info5
  have hm' := hm
  unfold maxLen at hm'
  have HL : Hid ((ps ++ q :: t).length = len) := hlen
  have HW : Hid (RowK .i32 w a (ps ++ q :: t)) := hrow
  have HQ0 : Hid (ptB q = false) := hq
  clear hlen hrow hq
  go_enter Tryd.func24, Tryd.ntmps24
  go_wp2
  go_loopw [4, 5] (fun v i wr => ∃ qs rs : List Int, ps = qs ++ rs ∧ i = .int .i64 qs.length ∧ Own wr (w.heap.size + 1) v (flat qs) ∧ Below (w.heap.size + 1) (w.alloc (.cells #[.int .i64 0, .int .i64 0] 26)) wr) (fun _ i _ => len - (intOf i).toNat)
  case atStart => exact ⟨[], ps, rfl, rfl, World.ownsRow_nil _ _ _ _, Below.refl _ _⟩
  case round =>
    obtain ⟨qs, rs, hqr, rfl, hown, hbel⟩ := hrel
    have hlen := HL.out
    obtain ⟨k, hk⟩ : ∃ k, k = qs.length := ⟨_, rfl⟩
    rw [← hk]
    have HK : Hid (k = qs.length) := hk
    have HQ : Hid (ps = qs ++ rs) := hqr
    have HB : Hid (Below (w.heap.size + 1) (w.alloc (.cells #[.int .i64 0, .int .i64 0] 26)) wr) := hbel
    have HO : Hid (Below w.heap.size w wr) := ((Below.refl _ w).alloc (Nat.le_refl _) _).trans (hbel.mono (Nat.le_succ _))
    have hsz : w.heap.size + 1 ≤ wr.heap.size := by have := hbel.size; simpa using this
    cases rs with
    | nil =>
      have hpq : ps = qs := by rw [hqr, List.append_nil]
      have hkl : k < len := by rw [← hlen, hpq, hk]; simp
      have HKP : Hid (ps.length = k) := by unfold Hid; rw [hpq]; exact hk.symm
      have hget : (ps ++ q :: t).getD k 0 = q := by rw [hpq, hk]; simp [List.getD_eq_getElem?_getD]
      have c0 : wr.cell? ⟨w.heap.size, 0, none⟩ = some (.int .i64 0) := by rw [hbel.cell (by simp)]; simp
      have c1 : wr.cell? ⟨w.heap.size, 1, none⟩ = some (.int .i64 0) := by rw [hbel.cell (by simp)]; simp
      have f0 : wr.frozen? ⟨w.heap.size, 0, none⟩ = false := by rw [hbel.frozen (by simp)]; simp
      have f1 : wr.frozen? ⟨w.heap.size, 1, none⟩ = false := by rw [hbel.frozen (by simp)]; simp
      rcases rowK_below HW.out HO.out with h0 | ⟨b, off, rfl, hc⟩
      · exact absurd h0 (by simp)
      · have hc' := hc k (by omega)
        rw [hget] at hc'
        clear hk hqr hbel hlen hpq hget hc hown
        go_wp2_with fail
        refine (rput_no q wr HQ0.out).mono ?_
        rintro e wn ⟨rfl, rfl⟩
        go_wp2
        exact bodyPost_ret (v := .tuple #[.slice none 0 0, .agg #[.int .i64 ps.length, .int .i64 20]]) (by rw [HKP.out]; simp [results, Tryd.results24, go_sem, c0, c1]) rfl
          ⟨rfl, (HO.out.setCell (by simp) _).setCell (by simp) _⟩
    | cons p rs =>
      have hkl : k < len := by rw [← hlen, hqr, hk]; simp
      have hp : ptB p = true := hps p (by rw [hqr]; simp)
      have hps0 : ps ++ q :: t ≠ [] := by simp
      have hget : (ps ++ q :: t).getD k 0 = p := by rw [hqr, hk]; simp [List.getD_eq_getElem?_getD]
      rcases rowK_below HW.out HO.out with h0 | ⟨b, off, rfl, hc⟩
      · exact absurd h0 hps0
      · have hc' := hc k (by omega)
        rw [hget] at hc'
        have HP : Hid (ptB p = true) := hp
        have hfl : (flat qs).length ≤ 16000 := by have := flat_le qs; omega
        have hpl := enc_len p
        clear hk hqr hbel hlen hp hps0 hget hc
        go_wp2_with fail
        refine (rput_yes p wr HP.out).mono ?_
        rintro e wn ⟨v1, rfl, hown1, hbn⟩
        obtain ⟨a1, cap1, rfl, hcap1, hm1, hrow1, hn1⟩ := own_row' hown1
        have HN1 : Hid (a1 = none → cap1 = 0) := hn1
        have HR1 : Hid (RowK .u8 wn a1 (encZ p)) := hrow1
        have hownn := own_keep hown hbn
        have HBn : Hid (Below (w.heap.size + 1) (w.alloc (.cells #[.int .i64 0, .int .i64 0] 26)) wn) := HB.out.trans (hbn.mono hsz)
        have hszn : w.heap.size + 1 ≤ wn.heap.size := by have := hbn.size; omega
        clear hown1 hrow1 hn1 hbn
        go_wp2_with (at_builtin; refine wpList_append_rowk rfl (.tmp 27) (.tmp 28) 22 rfl (w.heap.size + 1) 5 i0 (.int .u8 0) 1 Tryd.underlying22 hi hz0 hz1 hz2 rfl .u8 _ _ _ rfl hownn a1 (encZ p).length cap1 (encZ p) rfl rfl HN1.out HR1.out ?c1 ?c2 ?c3 ?_)
        case c1 => unfold maxLen; omega
        case c2 => omega
        case c3 => exact hszn
        intro v' w' hown' hgrow
        have HO' : Hid (Own w' (w.heap.size + 1) v' (flat (qs ++ [p]))) := by
          unfold Hid; rw [flat_append, flat_cons, flat_nil, List.append_nil]; exact own_snoc hown'
        have HB' : Hid (Below (w.heap.size + 1) (w.alloc (.cells #[.int .i64 0, .int .i64 0] 26)) w') := HBn.out.grown hgrow hszn (fun k hk => (hown.lt k hk).1)
        clear hown' hgrow hownn hown
        go_wp2
        go_roundw
        case rel => exact ⟨qs ++ [p], rs, by rw [HQ.out]; simp, by rw [List.length_append, ← HK.out]; rfl, HO'.out, HB'.out⟩
        case measure => simp [intOf]; omega


end Go.Proofs.YtlhhbmolkiojfaaDoor.Ut
