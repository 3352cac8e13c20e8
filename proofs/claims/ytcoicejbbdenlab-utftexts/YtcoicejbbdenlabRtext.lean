/-
  The contracts of the reference's Text, Valid and Cut.
-/
import Derived.Test.YtcoicejbbdenlabRpts
namespace Go.Proofs.Ytcoicejbbdenlab
open Go.RowKit
set_option linter.unusedVariables false

set_option maxHeartbeats 2000000 in
theorem rtext_yes (a : Option Addr) (len cap : Nat) (ps : List Int) (w : World) (hlen : ps.length = len) (hps : AllPt ps) (hcap : len ≤ cap) (hm : cap ≤ maxLen) (hsmall : len ≤ 4000) (hrow : RowK .i32 w a ps) :
    Calls Try.prog 17 #[.slice a len cap] w fun e w' => ∃ v, e = .returned (.tuple #[v, .agg #[.int .i64 0, .int .i64 0]]) ∧ Own w' w.heap.size v (flat ps) ∧ Below w.heap.size w w' := by
  obtain ⟨i0, hi, hz0, hz1, hz2⟩ := info_parts Try.info5
  have hm' := hm
  unfold maxLen at hm'
  have HL : Hid (ps.length = len) := hlen
  have HW : Hid (RowK .i32 w a ps) := hrow
  clear hlen hrow
  go_enter Try.func17, Try.ntmps17
  go_wp2
  go_loopw [4, 5] (fun v i wr => ∃ qs rs : List Int, ps = qs ++ rs ∧ i = .int .i64 qs.length ∧ Own wr (w.heap.size + 1) v (flat qs) ∧ Below (w.heap.size + 1) (w.alloc (.cells #[.int .i64 0, .int .i64 0] 32)) wr) (fun _ i _ => len - (intOf i).toNat)
  case atStart => exact ⟨[], ps, rfl, rfl, World.ownsRow_nil _ _ _ _, Below.refl _ _⟩
  case round =>
    obtain ⟨qs, rs, hqr, rfl, hown, hbel⟩ := hrel
    have hlen := HL.out
    obtain ⟨k, hk⟩ : ∃ k, k = qs.length := ⟨_, rfl⟩
    rw [← hk]
    have HK : Hid (k = qs.length) := hk
    have HQ : Hid (ps = qs ++ rs) := hqr
    have HB : Hid (Below (w.heap.size + 1) (w.alloc (.cells #[.int .i64 0, .int .i64 0] 32)) wr) := hbel
    have HO : Hid (Below w.heap.size w wr) := ((Below.refl _ w).alloc (Nat.le_refl _) _).trans (hbel.mono (Nat.le_succ _))
    have hsz : w.heap.size + 1 ≤ wr.heap.size := by have := hbel.size; simpa using this
    cases rs with
    | nil =>
      have hkl : k = len := by rw [hk, ← hlen, hqr, List.append_nil]
      obtain rfl := hkl
      have c0 : wr.cell? ⟨w.heap.size, 0, none⟩ = some (.int .i64 0) := by rw [hbel.cell (by simp)]; simp
      have c1 : wr.cell? ⟨w.heap.size, 1, none⟩ = some (.int .i64 0) := by rw [hbel.cell (by simp)]; simp
      have f0 : wr.frozen? ⟨w.heap.size, 0, none⟩ = false := by rw [hbel.frozen (by simp)]; simp
      have f1 : wr.frozen? ⟨w.heap.size, 1, none⟩ = false := by rw [hbel.frozen (by simp)]; simp
      have HV : Hid (Own wr (w.heap.size + 1) u4 (flat ps)) := by unfold Hid; rw [HQ.out, List.append_nil]; exact hown
      clear hk hqr hbel hlen hown
      go_wp2
      exact bodyPost_ret (v := .tuple #[u4, .agg #[.int .i64 0, .int .i64 0]]) (by simp [results, Try.results17, go_sem, c0, c1]) rfl
        ⟨u4, rfl, own_base (Nat.le_succ _) (ownsRow_setCell_below (ownsRow_setCell_below HV.out (by simp) _) (by simp) _), (HO.out.setCell (by simp) _).setCell (by simp) _⟩
    | cons p rs =>
      have hkl : k < len := by rw [← hlen, hqr, hk]; simp
      have hp : ptB p = true := hps p (by rw [hqr]; simp)
      have hps0 : ps ≠ [] := by rw [hqr]; simp
      have hget : ps.getD k 0 = p := by rw [hqr, hk]; simp [List.getD_eq_getElem?_getD]
      rcases rowK_below HW.out HO.out with h0 | ⟨b, off, rfl, hc⟩
      · exact absurd h0 hps0
      · have hc' := hc k (by omega)
        rw [hget] at hc'
        have HP : Hid (ptB p = true) := hp
        have hfl : (flat qs).length ≤ 16000 := by have := flat_le qs; omega
        have hpl := enc_len p
        clear hk hqr hbel hlen hp hps0 hget hc
        go_wp2_with fail
        refine (rput_yes p wr HP.out).mono ?_
        rintro e wn ⟨v1, rfl, hown1, hbn⟩
        obtain ⟨a1, cap1, rfl, hcap1, hm1, hrow1, hn1⟩ := own_row' hown1
        have HN1 : Hid (a1 = none → cap1 = 0) := hn1
        have HR1 : Hid (RowK .u8 wn a1 (encZ p)) := hrow1
        have hownn := own_keep hown hbn
        have HBn : Hid (Below (w.heap.size + 1) (w.alloc (.cells #[.int .i64 0, .int .i64 0] 32)) wn) := HB.out.trans (hbn.mono hsz)
        have hszn : w.heap.size + 1 ≤ wn.heap.size := by have := hbn.size; omega
        clear hown1 hrow1 hn1 hbn
        go_wp2_with (at_builtin; refine wpList_append_rowk rfl (.tmp 27) (.tmp 28) 22 rfl (w.heap.size + 1) 5 i0 (.int .u8 0) 1 Try.underlying22 hi hz0 hz1 hz2 rfl .u8 _ _ _ rfl hownn a1 (encZ p).length cap1 (encZ p) rfl rfl HN1.out HR1.out ?c1 ?c2 ?c3 ?_)
        case c1 => unfold maxLen; omega
        case c2 => omega
        case c3 => exact hszn
        intro v' w' hown' hgrow
        have HO' : Hid (Own w' (w.heap.size + 1) v' (flat (qs ++ [p]))) := by
          unfold Hid; rw [flat_append, flat_cons, flat_nil, List.append_nil]; exact own_snoc hown'
        have HB' : Hid (Below (w.heap.size + 1) (w.alloc (.cells #[.int .i64 0, .int .i64 0] 32)) w') := HBn.out.grown hgrow hszn (fun k hk => (hown.lt k hk).1)
        clear hown' hgrow hownn hown
        go_wp2
        go_roundw
        case rel => exact ⟨qs ++ [p], rs, by rw [HQ.out]; simp, by rw [List.length_append, ← HK.out]; rfl, HO'.out, HB'.out⟩
        case measure => simp [intOf]; omega

set_option maxHeartbeats 2000000 in
theorem rtext_no (a : Option Addr) (len cap : Nat) (ps : List Int) (q : Int) (t : List Int) (w : World) (hlen : (ps ++ q :: t).length = len) (hps : AllPt ps) (hq : ptB q = false) (hcap : len ≤ cap) (hm : cap ≤ maxLen) (hsmall : len ≤ 4000) (hrow : RowK .i32 w a (ps ++ q :: t)) :
    Calls Try.prog 17 #[.slice a len cap] w fun e w' => e = .returned (.tuple #[.slice none 0 0, .agg #[.int .i64 ps.length, .int .i64 20]]) ∧ Below w.heap.size w w' := by
  obtain ⟨i0, hi, hz0, hz1, hz2⟩ := info_parts Try.info5
  have hm' := hm
  unfold maxLen at hm'
  have HL : Hid ((ps ++ q :: t).length = len) := hlen
  have HW : Hid (RowK .i32 w a (ps ++ q :: t)) := hrow
  have HQ0 : Hid (ptB q = false) := hq
  clear hlen hrow hq
  go_enter Try.func17, Try.ntmps17
  go_wp2
  go_loopw [4, 5] (fun v i wr => ∃ qs rs : List Int, ps = qs ++ rs ∧ i = .int .i64 qs.length ∧ Own wr (w.heap.size + 1) v (flat qs) ∧ Below (w.heap.size + 1) (w.alloc (.cells #[.int .i64 0, .int .i64 0] 32)) wr) (fun _ i _ => len - (intOf i).toNat)
  case atStart => exact ⟨[], ps, rfl, rfl, World.ownsRow_nil _ _ _ _, Below.refl _ _⟩
  case round =>
    obtain ⟨qs, rs, hqr, rfl, hown, hbel⟩ := hrel
    have hlen := HL.out
    obtain ⟨k, hk⟩ : ∃ k, k = qs.length := ⟨_, rfl⟩
    rw [← hk]
    have HK : Hid (k = qs.length) := hk
    have HQ : Hid (ps = qs ++ rs) := hqr
    have HB : Hid (Below (w.heap.size + 1) (w.alloc (.cells #[.int .i64 0, .int .i64 0] 32)) wr) := hbel
    have HO : Hid (Below w.heap.size w wr) := ((Below.refl _ w).alloc (Nat.le_refl _) _).trans (hbel.mono (Nat.le_succ _))
    have hsz : w.heap.size + 1 ≤ wr.heap.size := by have := hbel.size; simpa using this
    cases rs with
    | nil =>
      have hpq : ps = qs := by rw [hqr, List.append_nil]
      have hkl : k < len := by rw [← hlen, hpq, hk]; simp
      have HKP : Hid (ps.length = k) := by unfold Hid; rw [hpq]; exact hk.symm
      have hget : (ps ++ q :: t).getD k 0 = q := by rw [hpq, hk]; simp [List.getD_eq_getElem?_getD]
      have c0 : wr.cell? ⟨w.heap.size, 0, none⟩ = some (.int .i64 0) := by rw [hbel.cell (by simp)]; simp
      have c1 : wr.cell? ⟨w.heap.size, 1, none⟩ = some (.int .i64 0) := by rw [hbel.cell (by simp)]; simp
      have f0 : wr.frozen? ⟨w.heap.size, 0, none⟩ = false := by rw [hbel.frozen (by simp)]; simp
      have f1 : wr.frozen? ⟨w.heap.size, 1, none⟩ = false := by rw [hbel.frozen (by simp)]; simp
      rcases rowK_below HW.out HO.out with h0 | ⟨b, off, rfl, hc⟩
      · exact absurd h0 (by simp)
      · have hc' := hc k (by omega)
        rw [hget] at hc'
        clear hk hqr hbel hlen hpq hget hc hown
        go_wp2_with fail
        refine (rput_no q wr HQ0.out).mono ?_
        rintro e wn ⟨rfl, rfl⟩
        go_wp2
        exact bodyPost_ret (v := .tuple #[.slice none 0 0, .agg #[.int .i64 ps.length, .int .i64 20]]) (by rw [HKP.out]; simp [results, Try.results17, go_sem, c0, c1]) rfl
          ⟨rfl, (HO.out.setCell (by simp) _).setCell (by simp) _⟩
    | cons p rs =>
      have hkl : k < len := by rw [← hlen, hqr, hk]; simp
      have hp : ptB p = true := hps p (by rw [hqr]; simp)
      have hps0 : ps ++ q :: t ≠ [] := by simp
      have hget : (ps ++ q :: t).getD k 0 = p := by rw [hqr, hk]; simp [List.getD_eq_getElem?_getD]
      rcases rowK_below HW.out HO.out with h0 | ⟨b, off, rfl, hc⟩
      · exact absurd h0 hps0
      · have hc' := hc k (by omega)
        rw [hget] at hc'
        have HP : Hid (ptB p = true) := hp
        have hfl : (flat qs).length ≤ 16000 := by have := flat_le qs; omega
        have hpl := enc_len p
        clear hk hqr hbel hlen hp hps0 hget hc
        go_wp2_with fail
        refine (rput_yes p wr HP.out).mono ?_
        rintro e wn ⟨v1, rfl, hown1, hbn⟩
        obtain ⟨a1, cap1, rfl, hcap1, hm1, hrow1, hn1⟩ := own_row' hown1
        have HN1 : Hid (a1 = none → cap1 = 0) := hn1
        have HR1 : Hid (RowK .u8 wn a1 (encZ p)) := hrow1
        have hownn := own_keep hown hbn
        have HBn : Hid (Below (w.heap.size + 1) (w.alloc (.cells #[.int .i64 0, .int .i64 0] 32)) wn) := HB.out.trans (hbn.mono hsz)
        have hszn : w.heap.size + 1 ≤ wn.heap.size := by have := hbn.size; omega
        clear hown1 hrow1 hn1 hbn
        go_wp2_with (at_builtin; refine wpList_append_rowk rfl (.tmp 27) (.tmp 28) 22 rfl (w.heap.size + 1) 5 i0 (.int .u8 0) 1 Try.underlying22 hi hz0 hz1 hz2 rfl .u8 _ _ _ rfl hownn a1 (encZ p).length cap1 (encZ p) rfl rfl HN1.out HR1.out ?c1 ?c2 ?c3 ?_)
        case c1 => unfold maxLen; omega
        case c2 => omega
        case c3 => exact hszn
        intro v' w' hown' hgrow
        have HO' : Hid (Own w' (w.heap.size + 1) v' (flat (qs ++ [p]))) := by
          unfold Hid; rw [flat_append, flat_cons, flat_nil, List.append_nil]; exact own_snoc hown'
        have HB' : Hid (Below (w.heap.size + 1) (w.alloc (.cells #[.int .i64 0, .int .i64 0] 32)) w') := HBn.out.grown hgrow hszn (fun k hk => (hown.lt k hk).1)
        clear hown' hgrow hownn hown
        go_wp2
        go_roundw
        case rel => exact ⟨qs ++ [p], rs, by rw [HQ.out]; simp, by rw [List.length_append, ← HK.out]; rfl, HO'.out, HB'.out⟩
        case measure => simp [intOf]; omega


set_option maxHeartbeats 1000000 in
theorem rvalid_yes (a : Option Addr) (len cap : Nat) (ps : List Int) (w : World) (hlen : (flat ps).length = len) (hps : AllPt ps) (hcap : len ≤ cap) (hm : cap ≤ maxLen) (hsmall : len ≤ 4000) (hrow : Row w a (flat ps)) :
    Calls Try.prog 20 #[.slice a len cap] w fun e w' => e = .returned (.bool true) ∧ Below w.heap.size w w' := by
  have HL : Hid ((flat ps).length = len) := hlen
  clear hlen
  go_enter Try.func20, Try.ntmps20
  go_wp2_with fail
  refine (rpoints_yes a len cap ps w HL.out hps hcap hm hsmall hrow).mono ?_
  rintro e w1 ⟨v, rfl, hown, hb1⟩
  obtain ⟨a1, cap1, rfl, hcap1, hm1, hrow1, hn1⟩ := own_row' hown
  have HB1 : Hid (Below w.heap.size w w1) := hb1
  clear hown hb1 hrow1 hn1
  go_wp2
  go_ret
  exact ⟨rfl, HB1.out.alloc HB1.out.size _⟩
set_option maxHeartbeats 1000000 in
theorem rvalid_no (a : Option Addr) (len cap : Nat) (ps r : List Int) (w : World) (hlen : (flat ps ++ r).length = len) (hps : AllPt ps) (hr : decZ r = none) (hne : r ≠ []) (hb : Byt r) (hcap : len ≤ cap) (hm : cap ≤ maxLen) (hsmall : len ≤ 4000) (hrow : Row w a (flat ps ++ r)) :
    Calls Try.prog 20 #[.slice a len cap] w fun e w' => e = .returned (.bool false) ∧ Below w.heap.size w w' := by
  have HL : Hid ((flat ps ++ r).length = len) := hlen
  have HR : Hid (decZ r = none) := hr
  clear hlen hr
  go_enter Try.func20, Try.ntmps20
  go_wp2_with fail
  refine (rpoints_no a len cap ps r w HL.out hps HR.out hne hb hcap hm hsmall hrow).mono ?_
  rintro e w1 ⟨rfl, hb1⟩
  have HB1 : Hid (Below w.heap.size w w1) := hb1
  clear hb1
  go_wp2
  go_ret
  exact ⟨rfl, HB1.out.alloc HB1.out.size _⟩

theorem cut_at {ps qs rs : List Int} {m : Nat} (hps : AllPt ps) (hm : m ≤ (flat ps).length) (h1 : ps = qs ++ rs) (h2 : (flat qs).length ≤ m) (h3 : rs = [] ∨ ∃ r rs', rs = r :: rs' ∧ m < (flat qs).length + (encZ r).length) :
    cutZ (flat ps) m = (flat qs).length := by
  refine cut_eq h2 ?_ ?_
  · intro j hj1 hj2
    rcases h3 with rfl | ⟨r, rs', rfl, h4⟩
    · rw [h1, List.append_nil] at hm; omega
    · have hr : ptB r = true := hps r (by rw [h1]; simp)
      have hq : flat ps = flat qs ++ (encZ r ++ flat rs') := by rw [h1, flat_append, flat_cons]
      refine ⟨by rw [hq, List.length_append, List.length_append]; omega, ?_⟩
      rw [hq, getD_right _ _ _ (by omega), getD_left _ _ _ (by omega)]
      exact enc_con hr _ (by omega) (by omega)
  · rintro ⟨h5, h6⟩
    have hq : flat ps = flat qs ++ flat rs := by rw [h1, flat_append]
    have hrs : AllPt rs := by rw [h1] at hps; exact hps.right
    rw [hq, getD_right _ _ _ (Nat.le_refl _), Nat.sub_self] at h6
    exact front_byte hrs (by rw [hq, List.length_append] at h5; omega) h6

set_option maxHeartbeats 1000000 in
theorem rcut_neg (a : Option Addr) (len cap : Nat) (most : Int) (w : World) (h : most < 0) :
    Calls Try.prog 22 #[.slice a len cap, .int .i64 most] w fun e w' => e = .returned (.int .i64 0) ∧ w = w' := by
  go_enter Try.func22, Try.ntmps22
  go_wp2
  go_ret
  exact ⟨rfl, rfl⟩
set_option maxHeartbeats 1000000 in
theorem rcut_no (a : Option Addr) (len cap : Nat) (most : Int) (ps r : List Int) (w : World) (h0 : 0 ≤ most) (hlen : (flat ps ++ r).length = len) (hps : AllPt ps) (hr : decZ r = none) (hne : r ≠ []) (hb : Byt r) (hcap : len ≤ cap) (hm : cap ≤ maxLen) (hsmall : len ≤ 4000) (hrow : Row w a (flat ps ++ r)) :
    Calls Try.prog 22 #[.slice a len cap, .int .i64 most] w fun e w' => e = .returned (.int .i64 (m0Z most len)) ∧ Below w.heap.size w w' := by
  have HL : Hid ((flat ps ++ r).length = len) := hlen
  have HR : Hid (decZ r = none) := hr
  clear hlen hr
  by_cases hl : most < len
  · have HM : Hid ((m0Z most len : Int) = most) := by unfold Hid m0Z; omega
    go_enter Try.func22, Try.ntmps22
    go_wp2_with fail
    refine (rvalid_no a len cap ps r w HL.out hps HR.out hne hb hcap hm hsmall hrow).mono ?_
    rintro e w1 ⟨rfl, hb1⟩
    have HB1 : Hid (Below w.heap.size w w1) := hb1
    clear hb1
    go_wp2
    go_ret
    exact ⟨ret_int HM.out.symm, HB1.out⟩
  · have HM : Hid ((m0Z most len : Int) = len) := by unfold Hid m0Z; omega
    go_enter Try.func22, Try.ntmps22
    go_wp2_with fail
    refine (rvalid_no a len cap ps r w HL.out hps HR.out hne hb hcap hm hsmall hrow).mono ?_
    rintro e w1 ⟨rfl, hb1⟩
    have HB1 : Hid (Below w.heap.size w w1) := hb1
    clear hb1
    go_wp2
    go_ret
    exact ⟨ret_int HM.out.symm, HB1.out⟩

set_option maxHeartbeats 2000000 in
theorem rcut_yes (a : Option Addr) (len cap : Nat) (most : Int) (ps : List Int) (w : World) (h0 : 0 ≤ most) (h63 : most ≤ 9223372036854775807) (hlen : (flat ps).length = len) (hps : AllPt ps) (hcap : len ≤ cap) (hm : cap ≤ maxLen) (hsmall : len ≤ 4000) (hrow : Row w a (flat ps)) :
    Calls Try.prog 22 #[.slice a len cap, .int .i64 most] w fun e w' => e = .returned (.int .i64 (cutZ (flat ps) (m0Z most len))) ∧ Below w.heap.size w w' := by
  have HL : Hid ((flat ps).length = len) := hlen
  have HW : Hid (Row w a (flat ps)) := hrow
  have HPS : Hid (AllPt ps) := hps
  have hm' := hm
  unfold maxLen at hm'
  clear hlen hrow
  go_enter Try.func22, Try.ntmps22
  go_wp2_with fail
  refine (rvalid_yes a len cap ps w HL.out hps hcap hm hsmall HW.out).mono ?_
  rintro e w1 ⟨rfl, hb1⟩
  have HB1 : Hid (Below w.heap.size w w1) := hb1
  clear hb1
  go_wp2
  go_loopw [5] (fun i wr => ∃ qs rs : List Int, ps = qs ++ rs ∧ i = .int .i64 (flat qs).length ∧ ((flat qs).length : Int) ≤ most ∧ Below w.heap.size w wr) (fun i _ => len - (intOf i).toNat)
  case atStart => exact ⟨[], ps, rfl, rfl, by simpa [flat] using h0, HB1.out⟩
  case round =>
    obtain ⟨qs, rs, hqr, rfl, hle, hbel⟩ := hrel
    have hlen := HL.out
    obtain ⟨k, hk⟩ : ∃ k, k = (flat qs).length := ⟨_, rfl⟩
    rw [← hk] at hle ⊢
    have HK : Hid (k = (flat qs).length) := hk
    have HQ : Hid (ps = qs ++ rs) := hqr
    have HB : Hid (Below w.heap.size w wr) := hbel
    cases rs with
    | nil =>
      have hkl : k = len := by rw [hk, ← hlen, hqr, List.append_nil]
      have HF : Hid (cutZ (flat ps) (m0Z most len) = k) := by
        unfold Hid
        rw [hk]
        refine cut_at hps ?_ hqr ?_ (.inl rfl)
        · unfold m0Z; omega
        · unfold m0Z; omega
      obtain rfl := hkl
      clear hk hqr hbel hlen
      go_wp2
      go_ret
      exact ⟨ret_int (by rw [HF.out]), HB.out⟩
    | cons p rs =>
      have hpl := enc_len p
      have hkl : k + (encZ p).length ≤ len := by
        rw [← hlen, hqr, flat_append, flat_cons, List.length_append, List.length_append]; omega
      have HD : Hid ((flat ps).drop k = flat (p :: rs) ++ []) := by
        unfold Hid; rw [hqr, flat_append, hk, List.drop_left, List.append_nil]
      have HR : Hid (Row wr (Option.map (fun x => x.add k) a) (flat (p :: rs) ++ [])) := by
        have := row_drop (n := k) (cap := cap) (row_below HW.out HB.out) (by omega)
        rw [if_neg (by omega), HD.out] at this
        exact this
      have HN : Hid ((flat (p :: rs) ++ []).length = len - k) := by unfold Hid; rw [← HD.out, List.length_drop, hlen]
      have HA : Hid (AllPt (p :: rs)) := by rw [hqr] at hps; exact hps.right
      have HF : Hid (most < k + (encZ p).length → cutZ (flat ps) (m0Z most len) = k) := by
        intro hlt
        rw [hk]
        refine cut_at hps ?_ hqr ?_ (.inr ⟨p, rs, rfl, ?_⟩)
        · unfold m0Z; omega
        · unfold m0Z; omega
        · unfold m0Z; omega
      clear hk hqr hbel hlen
      by_cases hlt : most < k + (encZ p).length
      · have HG := HF.out hlt
        have HG' : Hid (cutZ (flat ps) (m0Z most len) = k) := HG
        clear HG
        go_wp2_with fail
        refine (rnext_some (Option.map (fun x => x.add k) a) (len - k) (cap - k) (flat (p :: rs) ++ []) p wr HN.out ((flat_byt HA.out).append (by intro x hx; simp at hx)) (by omega) (by unfold maxLen; omega) HR.out (dec_flat HA.out)).mono ?_
        rintro e wn ⟨rfl, hbn⟩
        have HBn : Hid (Below w.heap.size w wn) := HB.out.trans (hbn.mono HB.out.size)
        clear hbn
        go_wp2
        go_ret
        exact ⟨ret_int (by rw [HG'.out]), HBn.out⟩
      · go_wp2_with fail
        refine (rnext_some (Option.map (fun x => x.add k) a) (len - k) (cap - k) (flat (p :: rs) ++ []) p wr HN.out ((flat_byt HA.out).append (by intro x hx; simp at hx)) (by omega) (by unfold maxLen; omega) HR.out (dec_flat HA.out)).mono ?_
        rintro e wn ⟨rfl, hbn⟩
        have HBn : Hid (Below w.heap.size w wn) := HB.out.trans (hbn.mono HB.out.size)
        clear hbn
        go_wp2
        go_roundw
        case rel => exact ⟨qs ++ [p], rs, by rw [HQ.out]; simp, by rw [flat_append, List.length_append, ← HK.out]; simp [flat], by rw [flat_append, List.length_append, ← HK.out]; simp [flat]; omega, HBn.out⟩
        case measure => simp [intOf]; omega
end Go.Proofs.Ytcoicejbbdenlab
