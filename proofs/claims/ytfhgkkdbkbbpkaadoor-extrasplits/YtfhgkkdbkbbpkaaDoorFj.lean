/-
  The reference's pieces of a text.
-/
import Derived.Test.YtfhgkkdbkbbpkaaDoorFi
namespace Go.Proofs.YtfhgkkdbkbbpkaaDoor
open Go.RowKit
set_option linter.unusedVariables false
set_option linter.unusedSimpArgs false

def codeP (ps : List Int) : List Int := codeL (Cs.Ut.flat ps)
theorem codeP_app (ps qs : List Int) : codeP (ps ++ qs) = codeP ps ++ codeP qs := by unfold codeP; rw [Cs.Ut.flat_append, codeL_app]
theorem codeP_one (p : Int) : codeP [p] = codeL (Cs.Ut.encZ p) := by unfold codeP; rw [Cs.Ut.flat_cons, Cs.Ut.flat_nil, List.append_nil]
def rpZ : List Int → List Int → List (List Int)
  | cur, [] => [cur]
  | cur, p :: ps => if 45 < (codeP cur).length + (codeL (Cs.Ut.encZ p)).length then cur :: rpZ [p] ps else rpZ (cur ++ [p]) ps
theorem rp_eq : ∀ (ps cur : List Int), (codeP cur).length ≤ 45 → rpZ cur ps = (cur ++ ps.take (fitN (45 - (codeP cur).length) ps)) :: chunksZ (ps.drop (fitN (45 - (codeP cur).length) ps))
  | [], cur, _ => by simp [rpZ, fitN, chunks_nil]
  | p :: ps, cur, h => by
    have hp := enc_code p
    simp only [rpZ, fitN]
    by_cases h1 : 45 < (codeP cur).length + (codeL (Cs.Ut.encZ p)).length
    · rw [if_pos h1, if_pos (by omega), rp_eq ps [p] (by rw [codeP_one]; omega), codeP_one]
      simp only [List.take_zero, List.append_nil, List.drop_zero]
      rw [chunks_cons (by simp : p :: ps ≠ [])]
      simp only [fitN]
      rw [if_neg (by omega)]
      rfl
    · rw [if_neg h1, if_neg (by omega), rp_eq ps (cur ++ [p]) (by rw [codeP_app, codeP_one, List.length_append]; omega)]
      rw [codeP_app, codeP_one, List.length_append]
      rw [show 45 - ((codeP cur).length + (codeL (Cs.Ut.encZ p)).length) = 45 - (codeP cur).length - (codeL (Cs.Ut.encZ p)).length by omega]
      simp
theorem rp_chunks {ps : List Int} (h : ps ≠ []) : rpZ [] ps = chunksZ ps := by
  rw [rp_eq ps [] (by simp [codeP, codeL, Cs.Ut.flat]), chunks_cons h]
  simp [codeP, codeL, Cs.Ut.flat]
def OwnS (w : World) (B : Nat) (v : Value) (ds : List ByteArray) : Prop := w.ownsRow B 9 1 v ds.length (ds.map Value.string)
def SRow (w : World) (a : Option Addr) (ds : List ByteArray) : Prop := ds = [] ∨ ∃ b off, a = some ⟨b, off, none⟩ ∧ ∀ i d, ds[i]? = some d → w.cell? ⟨b, off + i, none⟩ = some (.string d)
theorem SRow.below {w w' : World} {a : Option Addr} {ds : List ByteArray} (h : SRow w a ds) (hb : Below w.heap.size w w') : SRow w' a ds := by
  rcases h with h | ⟨b, off, ha, h⟩
  · exact .inl h
  · refine .inr ⟨b, off, ha, fun i f hf => ?_⟩
    have := h i f hf
    exact (hb.cell (World.block_lt_of_cell? w _ this)).trans this
theorem ownS_view {w : World} {B : Nat} {v : Value} {ds : List ByteArray} (h : OwnS w B v ds) : ∃ a cap, v = .slice a ds.length cap ∧ SRow w a ds := by
  have h0 := h
  rcases h.2 with ⟨rfl, hn⟩ | ⟨g, cap, cur, rfl, hb, hg, hn, hm, hs, ht⟩
  · exact ⟨none, 0, by rw [hn], .inl (List.eq_nil_of_length_eq_zero hn)⟩
  · refine ⟨some ⟨g, 0, none⟩, cap, rfl, .inr ⟨g, 0, rfl, fun i d hd => ?_⟩⟩
    have := h0.cells (g := g) rfl i (.string d) (by rw [List.getElem?_map, hd]; rfl)
    rw [add_plain] at this
    exact this
theorem ones (ds : List ByteArray) : ∀ u ∈ ds.map Value.string, u.oneCell' = true := by
  intro u hu
  obtain ⟨d, _, rfl⟩ := List.mem_map.1 hu
  rfl
theorem Tryd.info9 : (Tryd.prog.info? 9).map (fun i => (i.zero, i.size, i.bytes)) = some (some (.string ⟨#[]⟩), 1, 16) := by kernel_rfl
def strP (c : List Int) : ByteArray := strOfNums (codeP c)
set_option maxRecDepth 100000 in
set_option maxHeartbeats 4000000 in
theorem pieces_any (s : ByteArray) (ps : List Int) (w : World) (hps : Cs.Ut.AllPt ps) (hv : nums s = Cs.Ut.flat ps) (hz : s.size ≤ 2048) :
    Calls Tryd.prog 26 #[.string s] w fun e w' => ∃ v, e = .returned v ∧ OwnS w' w.heap.size v ((rpZ [] ps).map strP) ∧ Below w.heap.size w w' := by
  obtain ⟨j0, hi, hj0, hj1, hj2⟩ := info_parts Tryd.info9
  obtain ⟨cap, w1, kc, hcap, hmx, hrow, hb, hfz⟩ := conv_bytes s w (by unfold maxLen; omega)
  rw [hv] at hrow
  have hvl := utf_flat hv
  have K := Cs.Ut.rpoints_yes _ s.size cap ps w1 hvl.symm hps hcap (by unfold maxLen; omega) (by omega) hrow
  have hpl : ps.length ≤ 2048 := by have := Cs.Ut.flat_ge ps; omega
  have HPS : Hid (Cs.Ut.AllPt ps) := hps
  have HB : Hid (Below w.heap.size w w1) := hb
  have hs1 := hb.size
  clear hrow hfz hv hvl hps hb
  go_enter Tryd.func26, Tryd.ntmps26
  go_wp2_with fail
  refine K.mono ?_
  rintro e w2 ⟨v, rfl, hown, hb2⟩
  obtain ⟨pa, pc, rfl, hpc1, hpc2, hpr, _⟩ := own_row' (e := 21) (k := .i32) (l := ps) hown
  have HB2 : Hid (Below w.heap.size w w2) := HB.out.trans (hb2.mono hs1)
  have HP : Hid (RowK .i32 w2 pa ps) := hpr
  clear hown K hb2 kc hpr
  have HB3 : Hid (Below w.heap.size w (w2.alloc (.cells #[.int .i64 0, .int .i64 0] 75))) := HB2.out.alloc HB2.out.size _
  have HP3 : Hid (RowK .i32 (w2.alloc (.cells #[.int .i64 0, .int .i64 0] 75)) pa ps) := rowK_below HP.out (keep w2 _)
  have hpn : ps.length ≤ 2048 := hpl
  obtain ⟨n, hn⟩ : ∃ n, ps.length = n := ⟨_, rfl⟩
  rw [hn] at hpc1 hpl ⊢
  go_wp2
  generalize hV : w2.alloc (.cells #[.int .i64 0, .int .i64 0] 75) = V0 at *
  go_loopw [5, 6, 7] (fun o t i wr => ∃ (k : Nat) (cs : List (List Int)) (cur : List Int) (v : Value), o = v ∧ t = .string (strP cur) ∧ i = .int .i64 k ∧ k ≤ n ∧ (codeP cur).length ≤ 45 ∧ cs.length ≤ k ∧ Hid (OwnS wr V0.heap.size v (cs.map strP)) ∧ Hid (cs ++ rpZ cur (ps.drop k) = rpZ [] ps) ∧ Hid (Below V0.heap.size V0 wr)) (fun _ _ i _ => n - (intOf i).toNat)
  case atStart => exact ⟨0, [], [], _, rfl, rfl, rfl, by omega, by simp [codeP, codeL, Cs.Ut.flat], by simp, World.ownsRow_nil _ _ _ _, rfl, Below.refl _ _⟩
  case round =>
    obtain ⟨k, cs, cur, v, rfl, rfl, rfl, hk, hc45, hcl, HO, HE, HW⟩ := hrel
    have hss := size_strM (codeP cur)
    have HSD : Hid (strP cur = strOfNums (codeP cur)) := rfl
    obtain ⟨va, vc, rfl, _⟩ := ownS_view HO.out
    rw [List.length_map] at HO ⊢
    by_cases hlt : k < n
    · obtain ⟨p, hpk⟩ : ∃ p, ps[k]? = some p := ⟨_, List.getElem?_eq_getElem (by omega)⟩
      have hpt : Cs.Ut.ptB p = true := HPS.out p (List.mem_of_getElem? hpk)
      have hdr : ps.drop k = p :: ps.drop (k + 1) := by
        rw [List.drop_eq_getElem_cons (by omega)]
        rw [List.getElem?_eq_getElem (by omega)] at hpk
        simp only [Option.some.injEq] at hpk
        rw [hpk]
      have hp4 := Cs.Ut.enc_len p
      have hpe := enc_code p
      have HST : Hid (cs ++ (if 45 < (codeP cur).length + (codeL (Cs.Ut.encZ p)).length then cur :: rpZ [p] (ps.drop (k + 1)) else rpZ (cur ++ [p]) (ps.drop (k + 1))) = rpZ [] ps) := by
        have := HE.out
        rw [hdr, rpZ] at this
        exact this
      rcases rowK_below HP3.out HW.out with h | ⟨b, off, rfl, h⟩
      · rw [h] at hn; simp at hn; omega
      have hcell := h k (by omega)
      rw [List.getD_eq_getElem?_getD, hpk, Option.getD_some] at hcell
      clear h hdr hpk HE
      go_wp2_with fail
      refine (Cs.Ut.rput_yes p wr hpt).mono ?_
      rintro e w4 ⟨bv, rfl, hown4, hb4⟩
      obtain ⟨ba, bc, rfl, hbc1, hbc2, hbr, _⟩ := own_row' (e := 5) (k := .u8) (l := Cs.Ut.encZ p) hown4
      have HW4 : Hid (Below V0.heap.size V0 w4) := HW.out.trans (hb4.mono HW.out.size)
      have HO4 : Hid (w4.ownsRow V0.heap.size 9 1 (.slice va cs.length vc) cs.length ((cs.map strP).map Value.string)) := by
        have := own_keep HO.out hb4
        rw [List.length_map] at this
        exact this
      have KC : Hid (∀ V, Below w4.heap.size w4 V → Calls Tryd.prog 16 #[.slice ba (Cs.Ut.encZ p).length bc] V fun e w' => e = .returned (.string (strOfNums (codeL (Cs.Ut.encZ p)))) ∧ Below V.heap.size V w') := fun V hV =>
        rcode_any ba _ bc (Cs.Ut.encZ p) V rfl (Cs.Ut.enc_byte p hpt) (by omega) hbc1 hbc2 (row_below hbr hV)
      have HOB : Hid (Own w4 wr.heap.size (.slice ba (Cs.Ut.encZ p).length bc) (Cs.Ut.encZ p)) := hown4
      have HLT : Hid (∀ z, (Value.slice va cs.length vc).ownBlock = some z → z < wr.heap.size) := fun z hz => by
        exact (World.ownsRow.lt HO.out z hz).2
      have KC6 : Hid (∀ V a c, Own V wr.heap.size (.slice a (Cs.Ut.encZ p).length c) (Cs.Ut.encZ p) → Calls Tryd.prog 16 #[.slice a (Cs.Ut.encZ p).length c] V fun e w' => e = .returned (.string (strOfNums (codeL (Cs.Ut.encZ p)))) ∧ Below V.heap.size V w') := fun V a c hV => by
        obtain ⟨a2, c2, hv, h1, h2, h3, _⟩ := own_row' (e := 5) (k := .u8) (l := Cs.Ut.encZ p) hV
        injection hv with hv1 _ hv2
        subst hv1 hv2
        exact rcode_any a _ c (Cs.Ut.encZ p) V rfl (Cs.Ut.enc_byte p hpt) (by omega) h1 h2 h3
      have hsc := size_strM (codeL (Cs.Ut.encZ p))
      have hap : strP cur ++ strOfNums (codeL (Cs.Ut.encZ p)) = strP (cur ++ [p]) := by unfold strP; rw [str_append, codeP_app, codeP_one]
      have hap0 : (⟨#[]⟩ : ByteArray) ++ strOfNums (codeL (Cs.Ut.encZ p)) = strP [p] := by unfold strP; rw [show (⟨#[]⟩ : ByteArray) = strOfNums [] from rfl, str_append, codeP_one]; rfl
      have HAP : Hid (codeP (cur ++ [p]) = codeP cur ++ codeL (Cs.Ut.encZ p)) := by unfold Hid; rw [codeP_app, codeP_one]
      have HCP1 : Hid (codeP [p] = codeL (Cs.Ut.encZ p)) := codeP_one p
      have hsd : (strP cur).size = (codeP cur).length := hss
      obtain ⟨t, ht⟩ : ∃ t, strOfNums (codeL (Cs.Ut.encZ p)) = t := ⟨_, rfl⟩
      obtain ⟨m, hm⟩ : ∃ m, (codeP cur).length = m := ⟨_, rfl⟩
      obtain ⟨q, hq⟩ : ∃ q, (codeL (Cs.Ut.encZ p)).length = q := ⟨_, rfl⟩
      obtain ⟨el, hel⟩ : ∃ el, (Cs.Ut.encZ p).length = el := ⟨_, rfl⟩
      have HM : Hid ((codeP cur).length = m) := hm
      have HQ : Hid ((codeL (Cs.Ut.encZ p)).length = q) := hq
      rw [ht] at KC KC6 hsc hap hap0
      rw [hm, hq] at HST
      rw [hq] at hpe hsc
      rw [hm] at hsd hc45
      rw [hel] at hbc1 hp4 KC KC6 HOB
      rw [hel]
      obtain ⟨nw, hnw⟩ : ∃ nw, strP cur = nw := ⟨_, rfl⟩
      have HNW : Hid (strP cur = nw) := hnw
      rw [hnw] at hap hsd ⊢
      clear hss ht hm hq hel hbr hown4 hb4 HO HW hnw
      by_cases h45 : 45 < m + q
      · have d1 : decide ((m : Int) + (q : Int) > 45) = true := decide_eq_true (by omega)
        have HST2 : Hid ((cs ++ [cur]) ++ rpZ [p] (ps.drop (k + 1)) = rpZ [] ps) := by have := HST.out; rw [if_pos h45] at this; unfold Hid; rw [← this]; simp
        clear HST
        go_wp2_with fail
        refine (KC.out _ (Below.refl _ _)).mono ?_
        rintro e w5 ⟨rfl, hb5⟩
        have HO5 : Hid (w5.ownsRow V0.heap.size 9 1 (.slice va cs.length vc) cs.length ((cs.map strP).map Value.string)) := own_keep HO4.out hb5
        have HW5 : Hid (Below V0.heap.size V0 w5) := HW4.out.trans (hb5.mono HW4.out.size)
        have s5 := HW5.out.size
        have HB5 : Hid (Below w4.heap.size w4 w5) := hb5
        have HR5 : Hid (∀ V, Below V0.heap.size V0 V → True) := fun _ _ => trivial
        clear hb5
        go_wp2_with (at_builtin; refine wpList_append_own _ rfl _ _ 45 rfl V0.heap.size 9 j0 _ 1 16 Tryd.underlying45 hi hj0 hj1 hj2 rfl (by decide) (.slice va cs.length vc) cs.length _ rfl (World.ownsRow.alloc (w := w5) HO5.out _) ⟨w5.heap.size, 0, none⟩ 1 1 [.string nw] rfl rfl ?c2 ?c6 ?c3 ?c4 ?c5 ?_)
        case c2 =>
          have := cells_new w5 [.string nw] 9
          simpa using this
        case c6 => intro u hu; simp at hu; subst hu; rfl
        case c3 => unfold maxLen; omega
        case c4 => omega
        case c5 => simp; omega
        intro v6 w6 hown6 hgrow6 _
        have HO6 : Hid (OwnS w6 V0.heap.size v6 ((cs ++ [cur]).map strP)) := by
          unfold Hid OwnS
          rw [List.map_append, List.map_append, List.length_append, List.length_map]
          show w6.ownsRow V0.heap.size 9 1 v6 (cs.length + 1) ((cs.map strP).map Value.string ++ [.string (strP cur)])
          rw [HNW.out, List.map_map]; exact hown6
        have HW6 : Hid (Below V0.heap.size V0 w6) := (HW5.out.alloc s5 _).grown hgrow6 (by simp; omega) (fun z hz => (HO5.out.lt z hz).1)
        have HOB6 : Hid (Own w6 wr.heap.size (.slice ba el bc) (Cs.Ut.encZ p)) := by
          have h5 := own_keep (own_keep HOB.out HB5.out) (keep w5 (.cells #[.string nw] 9))
          cases hz : (Value.slice ba el bc).ownBlock with
          | none => exact World.ownsRow.kept h5 hgrow6 (.inl hz)
          | some z =>
            refine World.ownsRow.kept h5 hgrow6 (.inr fun q => ?_)
            rw [hz] at q
            have h1 := (World.ownsRow.lt h5 z hz).1
            have h2 := HLT.out z q.symm
            omega
        obtain ⟨xa, xc, hv6, _⟩ := ownS_view HO6.out
        rw [List.length_map, List.length_append, List.length_singleton] at hv6
        subst hv6
        have K6 := KC6.out w6 ba bc HOB6.out
        clear hown6 hgrow6 HOB HLT HO5 HO4 HW5 HB5 KC KC6
        go_wp2_with fail
        refine K6.mono ?_
        rintro e w7 ⟨rfl, hb7⟩
        go_wp2
        go_roundw
        case rel => exact ⟨k + 1, cs ++ [cur], [p], _, rfl, rfl, by go_num, by omega, by rw [HCP1.out, HQ.out]; omega, by rw [List.length_append, List.length_singleton]; omega, own_keep HO6.out hb7, HST2, HW6.out.trans (hb7.mono HW6.out.size)⟩
        case measure => simp [intOf]; omega
      · have d1 : decide ((m : Int) + (q : Int) > 45) = false := decide_eq_false (by omega)
        have HST2 : Hid (cs ++ rpZ (cur ++ [p]) (ps.drop (k + 1)) = rpZ [] ps) := by have := HST.out; rw [if_neg h45] at this; exact this
        clear HST
        go_wp2_with fail
        refine (KC.out _ (Below.refl _ _)).mono ?_
        rintro e w5 ⟨rfl, hb5⟩
        go_wp2_with fail
        refine (KC.out _ hb5).mono ?_
        rintro e w6 ⟨rfl, hb6⟩
        have hb56 : Below w4.heap.size w4 w6 := hb5.trans (hb6.mono hb5.size)
        go_wp2
        go_roundw
        case rel => exact ⟨k + 1, cs, cur ++ [p], _, rfl, rfl, by go_num, by omega, by rw [HAP.out, List.length_append, HM.out, HQ.out]; omega, by omega, by unfold Hid OwnS; rw [List.length_map]; exact own_keep HO4.out hb56, HST2, HW4.out.trans (hb56.mono HW4.out.size)⟩
        case measure => simp [intOf]; omega
    · obtain rfl : k = n := by omega
      have HE2 : Hid (rpZ [] ps = cs ++ [cur]) := by
        have := HE.out
        rw [List.drop_of_length_le (by omega), rpZ] at this
        exact this.symm
      have HO4 : Hid (wr.ownsRow V0.heap.size 9 1 (.slice va cs.length vc) cs.length ((cs.map strP).map Value.string)) := by
        have := HO.out
        unfold OwnS at this
        rw [List.length_map] at this
        exact this
      obtain ⟨nw, hnw⟩ : ∃ nw, strP cur = nw := ⟨_, rfl⟩
      have HNW : Hid (strP cur = nw) := hnw
      have sW := HW.out.size
      rw [hnw]
      clear hnw HE HO hss HSD
      go_wp2_with (at_builtin; refine wpList_append_own _ rfl _ _ 45 rfl V0.heap.size 9 j0 _ 1 16 Tryd.underlying45 hi hj0 hj1 hj2 rfl (by decide) (.slice va cs.length vc) cs.length _ rfl (World.ownsRow.alloc (w := wr) HO4.out _) ⟨wr.heap.size, 0, none⟩ 1 1 [.string nw] rfl rfl ?c2 ?c6 ?c3 ?c4 ?c5 ?_)
      case c2 =>
        have := cells_new wr [.string nw] 9
        simpa using this
      case c6 => intro u hu; simp at hu; subst hu; rfl
      case c3 => unfold maxLen; omega
      case c4 => omega
      case c5 => simp; omega
      intro v6 w6 hown6 hgrow6 _
      have HO6 : Hid (OwnS w6 V0.heap.size v6 ((cs ++ [cur]).map strP)) := by
        unfold Hid OwnS
        rw [List.map_append, List.map_append, List.length_append, List.length_map]
        show w6.ownsRow V0.heap.size 9 1 v6 (cs.length + 1) ((cs.map strP).map Value.string ++ [.string (strP cur)])
        rw [HNW.out, List.map_map]; exact hown6
      have HW6 : Hid (Below V0.heap.size V0 w6) := (HW.out.alloc sW _).grown hgrow6 (by simp; omega) (fun z hz => (HO4.out.lt z hz).1)
      obtain ⟨xa, xc, hv6, _⟩ := ownS_view HO6.out
      rw [List.length_map, List.length_append, List.length_singleton] at hv6
      subst hv6
      clear hown6 hgrow6 HO4 HW
      go_wp2
      go_ret
      exact ⟨_, rfl, by rw [HE2.out]; exact ownB HB3.out.size HO6.out, HB3.out.trans (HW6.out.mono HB3.out.size)⟩
end Go.Proofs.YtfhgkkdbkbbpkaaDoor
