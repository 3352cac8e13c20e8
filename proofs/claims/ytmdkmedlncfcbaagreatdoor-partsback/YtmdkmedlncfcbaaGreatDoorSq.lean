/-
  bytes.SplitSeq and bytes.SplitAfterSeq at the pair.
-/
import Derived.Test.YtmdkmedlncfcbaaGreatDoorShelfB
import Derived.Test.YtmdkmedlncfcbaaGreatDoorGn
import Derived.Test.YtmdkmedlncfcbaaGreatDoorParse
namespace Go.Proofs.YtmdkmedlncfcbaaGreatDoor
open Go.RowKit Go.Shelf
set_option linter.unusedVariables false
attribute [local go_sem] Oper.semAt_some

theorem bindex_any (a p : Option Addr) (n c c2 : Nat) (l : List Int) (w : World) (hl : l.length = n) (hb : Byt l) (hr : Row w a l) (hp : Row w p [13, 10]) (hnil : a = none → c = 0) (hc : n ≤ c) (hn : n ≤ 10000000) (hm : Mx w) :
    Calls Tryz.prog 143 #[.slice a n c, .slice p 2 c2] w fun e w' => e = .returned (.int .i64 (pairI l)) ∧ Qt w w' := by
  obtain ⟨m, hm⟩ := hm
  obtain ⟨b2, o2, rfl, hpc⟩ : ∃ b off, p = some ⟨b, off, none⟩ ∧ ∀ i, i < 2 → w.cell? ⟨b, off + i, none⟩ = some (.int .u8 (([13, 10] : List Int).getD i 0)) := by
    rcases hp with h | ⟨b, off, h1, h2⟩
    · cases h
    · exact ⟨b, off, h1, h2⟩
  cases a with
  | none =>
    obtain rfl : l = [] := by
      rcases hr with h | ⟨b, off, h, _⟩
      · exact h
      · cases h
    obtain rfl : n = 0 := hl.symm
    obtain rfl : c = 0 := hnil rfl
    refine (bytes_Index_nil (some ⟨b2, o2, none⟩) 2 c2 w (by omega) (fun h => by omega)).mono ?_
    rintro e w' ⟨rfl, rfl⟩
    exact ⟨rfl, 0, rfl⟩
  | some x =>
    have h := bytes_Index_at x ⟨b2, o2, none⟩ n c 2 c2 l [13, 10] m w hl rfl hb (by intro y hy; simp at hy; omega) ?_ (fun i hi => by rw [add_plain]; exact hpc i hi) hc (by omega) (by omega) hm
    · rw [index_pair l hb] at h
      exact h
    · intro i hi
      rcases hr with rfl | ⟨b, off, e, h⟩
      · simp at hl; omega
      · cases e
        rw [add_plain]; exact h i (by omega)
/-- The pieces behind the pairs. -/
def splitP : Nat → List Int → List (List Int)
  | 0, l => [l]
  | n + 1, l => if 0 ≤ pairI l then l.take ((pairI l).toNat + 2) :: splitP n (l.drop ((pairI l).toNat + 2)) else [l]
/-- The values that are handed on: of each piece but the last one two bytes less, and 'save' more. -/
def sbV (save : Nat) : Option Addr → Nat → List (List Int) → List (Array Value)
  | _, _, [] => []
  | a, cap, q :: r => if r = [] then [#[.slice a q.length q.length]] else #[.slice a (q.length - 2 + save) (q.length - 2 + save)] :: sbV save (dropA a cap q.length) (cap - q.length) r
theorem split_nil : ∀ (n : Nat) (l : List Int), splitP n l ≠ []
  | 0, l => by simp [splitP]
  | n + 1, l => by rw [splitP]; split <;> simp
/-- A slice in a block. -/
def Sb (w : World) (g : Nat) (v : Value) : Prop := w.heap[g]? = some (.cells #[v] 22 (0, 0))
theorem Sb.lt {w : World} {g : Nat} {v : Value} (h : Sb w g v) : g < w.heap.size := (Array.getElem?_eq_some_iff.1 h).1
theorem Sb.cell {w : World} {g : Nat} {v : Value} (h : Sb w g v) : w.cell? ⟨g, 0, none⟩ = some v := by rw [cell_of_row w _ _ _ _ _ h]; rfl
theorem Sb.frozen {w : World} {g : Nat} {v : Value} (h : Sb w g v) : w.frozen? ⟨g, 0, none⟩ = false := frozen_of_row w _ _ _ _ h
theorem Sb.set {w : World} {g : Nat} {v : Value} (h : Sb w g v) (v' : Value) : Sb (w.setCell ⟨g, 0, none⟩ v') g v' := heap_setCell_same _ _ 0 _ 22 _ h
def restSb (w : World) (g : Nat) : Nat :=
  match w.cell? ⟨g, 0, none⟩ with
  | some (.slice _ n _) => n
  | _ => 0
theorem restSb_of {w : World} {g : Nat} {a : Option Addr} {n c : Nat} (h : Sb w g (.slice a n c)) : restSb w g = n := by unfold restSb; rw [h.cell]
/-- What an iterator of pieces needs. -/
def GB (Bp Bz g save : Nat) (a : Option Addr) (l : List Int) (V : World) : Prop :=
  V.cell? ⟨Bp, 0, none⟩ = some (.slice (some ⟨g, 0, none⟩) 2 2) ∧ Row V (some ⟨g, 0, none⟩) [13, 10] ∧ V.cell? ⟨Bz, 0, none⟩ = some (.int .i64 (save : Nat)) ∧ Mx V ∧ Row V a l
theorem Mx.drewN {w : World} (h : Mx w) (q : Nat) : Mx (w.drewN q) := h
theorem splitP_pair {f i : Nat} {l : List Int} (h : pairI l = (i : Nat)) : splitP (f + 1) l = l.take (i + 2) :: splitP f (l.drop (i + 2)) := by
  rw [splitP, if_pos (by omega), h]; simp
theorem sbV_pair {save f i cap : Nat} {l : List Int} {a : Option Addr} (h : pairI l = (i : Nat)) (hr : i + 2 ≤ l.length) : sbV save a cap (splitP (f + 1) l) = #[.slice a (i + save) (i + save)] :: sbV save (dropA a cap (i + 2)) (cap - (i + 2)) (splitP f (l.drop (i + 2))) := by
  rw [splitP_pair h, sbV, if_neg (split_nil _ _)]
  have : (l.take (i + 2)).length = i + 2 := by rw [List.length_take]; omega
  rw [this, show i + 2 - 2 = i by omega]
theorem sbV_last {save f cap : Nat} {l : List Int} {a : Option Addr} (h : ¬ 0 ≤ pairI l) : sbV save a cap (splitP f l) = [#[.slice a l.length l.length]] := by
  have : splitP f l = [l] := by
    cases f with
    | zero => rfl
    | succ f => rw [splitP, if_neg h]
  rw [this, sbV, if_pos rfl]
set_option maxRecDepth 100000 in
set_option maxHeartbeats 8000000 in
theorem splitB0_iter (n : Nat) (hn : 1 ≤ n) (Bp Bs Bz g : Nat) (a : Option Addr) (len cap : Nat) (l : List Int) (hl : l.length = len) (hb : Byt l) (hcap : len ≤ cap) (hcm : cap ≤ maxLen) (hnil : a = none → cap = 0) (hlen : len ≤ 10000000) (W : World) (hS : Sb W Bs (.slice a len cap)) :
    ItG n 141 [.pointer (some ⟨Bp, 0, none⟩), .pointer (some ⟨Bs, 0, none⟩), .pointer (some ⟨Bz, 0, none⟩)] (fun b => b = Bs) (sbV 0 a cap (splitP len l)) (GB Bp Bz g 0 a l) W := by
  intro lp J Jx hJ hJx hJG hY h0
  obtain ⟨c0, _⟩ := hJG 0 W h0
  have HJ : Hid (∀ k V V', J k V → Tg (fun b => b = Bs) V V' → J k V') := hJ
  have HJG : Hid (∀ k V, J k V → GB Bp Bz g 0 a l V) := hJG
  have HY : Hid _ := hY
  obtain ⟨XS, hXS⟩ : ∃ XS, sbV 0 a cap (splitP len l) = XS := ⟨_, rfl⟩
  have HXS : Hid (sbV 0 a cap (splitP len l) = XS) := hXS
  have hcmx : cap ≤ 9223372036854775807 := hcm
  clear hJ hJx hJG hY
  rw [hXS] at HY ⊢
  clear hXS
  refine callsIn_of_wp Tryz.func141 rfl trivial ?_ rfl
  simp only [Tryz.ntmps141, List.size_toArray, List.length_cons, List.length_nil, Nat.reduceAdd, Nat.reduceSub, Array.replicate_succ, Array.replicate_zero, List.push_toArray, List.append_toArray, List.nil_append, List.cons_append]
  gi_wp2
  clear c0
  gi_loopw [7, 8] (fun _ _ wr => ∃ (k fuel : Nat) (a' : Option Addr) (l' : List Int) (cap' : Nat), J k wr ∧ Sb wr Bs (.slice a' l'.length cap') ∧ l'.length ≤ fuel ∧ l'.length ≤ len ∧ l'.length ≤ cap' ∧ cap' ≤ cap ∧ (a' = none → cap' = 0) ∧ Byt l' ∧ (∀ V, Row V a l → Row V a' l') ∧ sbV 0 a' cap' (splitP fuel l') = XS.drop k) (fun _ _ wr => restSb wr Bs)
  case atStart => exact ⟨0, len, a, l, cap, h0, by rw [hl]; exact hS, by omega, by omega, by omega, Nat.le_refl _, hnil, hb, fun _ h => h, HXS.out⟩
  case round =>
    obtain ⟨k, fuel, a', l', cap', hj, hst, hfu, hts, hc1, hc2, hn', hb', hro, hq⟩ := hrel
    have HQ : Hid (sbV 0 a' cap' (splitP fuel l') = XS.drop k) := hq
    have HRO : Hid (∀ V, Row V a l → Row V a' l') := hro
    have HB' : Hid (Byt l') := hb'
    have HN' : Hid (a' = none → cap' = 0) := hn'
    obtain ⟨ln, hln⟩ : ∃ ln, l'.length = ln := ⟨_, rfl⟩
    rw [hln] at hst hfu hts hc1
    have HLN : Hid (l'.length = ln) := hln
    have HST : Hid (Sb wr Bs (.slice a' ln cap')) := hst
    have HJk : Hid (J k wr) := hj
    have HL : Hid (restSb wr Bs = ln) := restSb_of hst
    obtain ⟨c0, cp, c1, cm, cr⟩ := HJG.out k wr hj
    have c2 := hst.cell
    have f2 := hst.frozen
    have hidx := bindex_any a' (some ⟨g, 0, none⟩) ln cap' 2 l' wr hln hb' (hro wr cr) cp hn' hc1 (by omega) cm
    have HAD : Hid (l' ≠ [] → ∃ b off, a' = some ⟨b, off, none⟩) := fun hne => by
      rcases hro wr cr with h | ⟨b, off, h, _⟩
      · exact absurd h hne
      · exact ⟨b, off, h⟩
    clear hq hst hj hS h0 cm cp cr hln hro hb' hn'
    have hge := pairI_ge l'
    by_cases h : 0 ≤ pairI l'
    · obtain ⟨ab, ao, rfl⟩ := HAD.out (by rintro rfl; simp [pairI] at h)
      obtain ⟨i, hk⟩ : ∃ i : Nat, pairI l' = i := ⟨(pairI l').toNat, by omega⟩
      have hrm := pairI_room l' h
      rw [HLN.out] at hrm
      obtain ⟨fuel', rfl⟩ : ∃ f', fuel = f' + 1 := ⟨fuel - 1, by omega⟩
      have hP : sbV 0 (some ⟨ab, ao, none⟩) cap' (splitP (fuel' + 1) l') = #[.slice (some ⟨ab, ao, none⟩) i i] :: sbV 0 (dropA (some ⟨ab, ao, none⟩) cap' (i + 2)) (cap' - (i + 2)) (splitP fuel' (l'.drop (i + 2))) := sbV_pair (save := 0) (f := fuel') (cap := cap') (a := some ⟨ab, ao, none⟩) hk (by rw [HLN.out]; omega)
      have hpv : XS.drop k = #[.slice (some ⟨ab, ao, none⟩) i i] :: sbV 0 (dropA (some ⟨ab, ao, none⟩) cap' (i + 2)) (cap' - (i + 2)) (splitP fuel' (l'.drop (i + 2))) := by rw [← HQ.out, hP]
      have HX : Hid (XS[k]? = some #[.slice (some ⟨ab, ao, none⟩) i i]) := by unfold Hid; rw [← List.head?_drop, hpv]; rfl
      have HD2 : Hid (sbV 0 (dropA (some ⟨ab, ao, none⟩) cap' (i + 2)) (cap' - (i + 2)) (splitP fuel' (l'.drop (i + 2))) = XS.drop (k + 1)) := by
        unfold Hid
        rw [show XS.drop (k + 1) = (XS.drop k).drop 1 by rw [List.drop_drop], hpv]
        rfl
      have HR2 : Hid (∀ V, Row V a l → Row V (dropA (some ⟨ab, ao, none⟩) cap' (i + 2)) (l'.drop (i + 2))) := fun V hV => row_drop (HRO.out V hV) (by rw [HLN.out]; exact hc1)
      have HN2 : Hid (dropA (some ⟨ab, ao, none⟩) cap' (i + 2) = none → cap' - (i + 2) = 0) := dropA_nil HN'.out
      have HL2 : Hid ((l'.drop (i + 2)).length = ln - (i + 2)) := by unfold Hid; rw [List.length_drop, HLN.out]
      have HB2 : Hid (Byt (l'.drop (i + 2))) := HB'.out.drop _
      have hda : dropA (some ⟨ab, ao, none⟩) cap' (i + 2) = if cap' = i + 2 then some ⟨ab, ao, none⟩ else some ⟨ab, ao + (i + 2), none⟩ := by
        unfold dropA; simp [add_plain]
      obtain ⟨ad, had⟩ : ∃ ad, dropA (some ⟨ab, ao, none⟩) cap' (i + 2) = ad := ⟨_, rfl⟩
      rw [had] at hda HN2 HR2 HD2
      have d0 : decide ((i : Int) < 0) = false := by simp
      have k0 : (0 : Int) ≤ (i : Int) := by omega
      have k2 : (i : Int) ≤ (cap' : Int) := by omega
      have k5 : (0 : Int) ≤ (i : Int) + 2 := by omega
      have k6 : (i : Int) + 2 ≤ (ln : Int) := by omega
      have k7 : ((i : Int) + 2).toNat = i + 2 := by omega
      rw [hk] at hidx
      clear hP hpv h hge hk had
      gi_wp2_with fail
      refine ⟨trivial, (callsIn_wide.2 hidx).mono ?_⟩
      rintro e w' ⟨rfl, qn, rfl⟩
      have hJq : J k (wr.drewN qn) := HJ.out _ _ _ HJk.out (Tg.of_below (below_drewN (Below.refl _ _) qn))
      obtain ⟨fn, tmps, assign, body, hy, hRd⟩ := HY.out k _ (wr.drewN qn) HX.out hJq (fun b hb => by subst hb; exact HST.out.lt)
      have HSTq : Hid (Sb (wr.drewN qn) Bs (.slice (some ⟨ab, ao, none⟩) ln cap')) := HST.out
      clear hidx hJq
      gi_wp2
      refine hRd.mono ?_
      rintro e W3 (⟨rfl, hJ3, hk3⟩ | ⟨rfl, hJx3, _⟩)
      · have hst3 : Sb W3 Bs (.slice (some ⟨ab, ao, none⟩) ln cap') := (hk3 Bs rfl).trans HSTq.out
        have HJ3 : Hid (J (k + 1) W3) := hJ3
        have HST4 : Hid (Sb (W3.setCell ⟨Bs, 0, none⟩ (.slice ad (ln - (i + 2)) (cap' - (i + 2)))) Bs (.slice ad (ln - (i + 2)) (cap' - (i + 2)))) := hst3.set _
        obtain ⟨g0, _, g1, _⟩ := HJG.out _ W3 hJ3
        have g2 := hst3.cell
        have g3 := hst3.frozen
        clear hy hRd c0 c1 c2 f2 hk3 hst3 hJ3
        by_cases hci : cap' = i + 2
        · rw [if_pos hci] at hda
          subst hda
          rw [show cap' - (i + 2) = 0 by omega] at HST4 HN2 HD2
          gi_wp2
          go_roundw
          case rel => exact ⟨k + 1, fuel', _, l'.drop (i + 2), _, HJ.out _ _ _ HJ3.out (Tg.set _ _ _ _ rfl), by rw [HL2.out]; exact HST4.out, by rw [HL2.out]; omega, by rw [HL2.out]; omega, by rw [HL2.out]; omega, by omega, (fun q => by cases q), HB2.out, HR2.out, HD2.out⟩
          case measure => rw [restSb_of HST4.out, HL.out]; omega
        · rw [if_neg hci] at hda
          subst hda
          gi_wp2
          go_roundw
          case rel => exact ⟨k + 1, fuel', _, l'.drop (i + 2), _, HJ.out _ _ _ HJ3.out (Tg.set _ _ _ _ rfl), by rw [HL2.out]; exact HST4.out, by rw [HL2.out]; omega, by rw [HL2.out]; omega, by rw [HL2.out]; omega, by omega, (fun q => by cases q), HB2.out, HR2.out, HD2.out⟩
          case measure => rw [restSb_of HST4.out, HL.out]; omega
      · clear hy hRd
        gi_wp2
        refine bodyPost_ret (results_none rfl _ _ _) rfl ?_
        exact ⟨⟨_, rfl⟩, .inr hJx3⟩
    · have hpv : XS.drop k = [#[.slice a' ln ln]] := by rw [← HQ.out, sbV_last h, HLN.out]
      have HX : Hid (XS[k]? = some #[.slice a' ln ln]) := by unfold Hid; rw [← List.head?_drop, hpv]; rfl
      have HK : Hid (k + 1 = XS.length) := by
        have := congrArg List.length hpv
        rw [List.length_drop] at this
        simp at this
        unfold Hid; omega
      have h' : pairI l' = -1 := by omega
      rw [h'] at hidx
      clear hpv h hge h'
      gi_wp2_with fail
      refine ⟨trivial, (callsIn_wide.2 hidx).mono ?_⟩
      rintro e w' ⟨rfl, qn, rfl⟩
      have hJq : J k (wr.drewN qn) := HJ.out _ _ _ HJk.out (Tg.of_below (below_drewN (Below.refl _ _) qn))
      obtain ⟨fn, tmps, assign, body, hy, hRd⟩ := HY.out k _ (wr.drewN qn) HX.out hJq (fun b hb => by subst hb; exact HST.out.lt)
      clear hidx hJq
      gi_wp2
      refine hRd.mono ?_
      rintro e W3 (⟨rfl, hJ3, hk3⟩ | ⟨rfl, hJx3, _⟩)
      · clear hy hRd
        gi_wp2
        go_end0
        exact ⟨⟨_, rfl⟩, .inl (by rw [← HK.out]; exact hJ3)⟩
      · clear hy hRd
        gi_wp2
        go_end0
        exact ⟨⟨_, rfl⟩, .inr hJx3⟩
set_option maxRecDepth 100000 in
set_option maxHeartbeats 8000000 in
theorem splitB2_iter (n : Nat) (hn : 1 ≤ n) (Bp Bs Bz g : Nat) (a : Option Addr) (len cap : Nat) (l : List Int) (hl : l.length = len) (hb : Byt l) (hcap : len ≤ cap) (hcm : cap ≤ maxLen) (hnil : a = none → cap = 0) (hlen : len ≤ 10000000) (W : World) (hS : Sb W Bs (.slice a len cap)) :
    ItG n 141 [.pointer (some ⟨Bp, 0, none⟩), .pointer (some ⟨Bs, 0, none⟩), .pointer (some ⟨Bz, 0, none⟩)] (fun b => b = Bs) (sbV 2 a cap (splitP len l)) (GB Bp Bz g 2 a l) W := by
  intro lp J Jx hJ hJx hJG hY h0
  obtain ⟨c0, _⟩ := hJG 0 W h0
  have HJ : Hid (∀ k V V', J k V → Tg (fun b => b = Bs) V V' → J k V') := hJ
  have HJG : Hid (∀ k V, J k V → GB Bp Bz g 2 a l V) := hJG
  have HY : Hid _ := hY
  obtain ⟨XS, hXS⟩ : ∃ XS, sbV 2 a cap (splitP len l) = XS := ⟨_, rfl⟩
  have HXS : Hid (sbV 2 a cap (splitP len l) = XS) := hXS
  have hcmx : cap ≤ 9223372036854775807 := hcm
  clear hJ hJx hJG hY
  rw [hXS] at HY ⊢
  clear hXS
  refine callsIn_of_wp Tryz.func141 rfl trivial ?_ rfl
  simp only [Tryz.ntmps141, List.size_toArray, List.length_cons, List.length_nil, Nat.reduceAdd, Nat.reduceSub, Array.replicate_succ, Array.replicate_zero, List.push_toArray, List.append_toArray, List.nil_append, List.cons_append]
  gi_wp2
  clear c0
  gi_loopw [7, 8] (fun _ _ wr => ∃ (k fuel : Nat) (a' : Option Addr) (l' : List Int) (cap' : Nat), J k wr ∧ Sb wr Bs (.slice a' l'.length cap') ∧ l'.length ≤ fuel ∧ l'.length ≤ len ∧ l'.length ≤ cap' ∧ cap' ≤ cap ∧ (a' = none → cap' = 0) ∧ Byt l' ∧ (∀ V, Row V a l → Row V a' l') ∧ sbV 2 a' cap' (splitP fuel l') = XS.drop k) (fun _ _ wr => restSb wr Bs)
  case atStart => exact ⟨0, len, a, l, cap, h0, by rw [hl]; exact hS, by omega, by omega, by omega, Nat.le_refl _, hnil, hb, fun _ h => h, HXS.out⟩
  case round =>
    obtain ⟨k, fuel, a', l', cap', hj, hst, hfu, hts, hc1, hc2, hn', hb', hro, hq⟩ := hrel
    have HQ : Hid (sbV 2 a' cap' (splitP fuel l') = XS.drop k) := hq
    have HRO : Hid (∀ V, Row V a l → Row V a' l') := hro
    have HB' : Hid (Byt l') := hb'
    have HN' : Hid (a' = none → cap' = 0) := hn'
    obtain ⟨ln, hln⟩ : ∃ ln, l'.length = ln := ⟨_, rfl⟩
    rw [hln] at hst hfu hts hc1
    have HLN : Hid (l'.length = ln) := hln
    have HST : Hid (Sb wr Bs (.slice a' ln cap')) := hst
    have HJk : Hid (J k wr) := hj
    have HL : Hid (restSb wr Bs = ln) := restSb_of hst
    obtain ⟨c0, cp, c1, cm, cr⟩ := HJG.out k wr hj
    have c2 := hst.cell
    have f2 := hst.frozen
    have hidx := bindex_any a' (some ⟨g, 0, none⟩) ln cap' 2 l' wr hln hb' (hro wr cr) cp hn' hc1 (by omega) cm
    have HAD : Hid (l' ≠ [] → ∃ b off, a' = some ⟨b, off, none⟩) := fun hne => by
      rcases hro wr cr with h | ⟨b, off, h, _⟩
      · exact absurd h hne
      · exact ⟨b, off, h⟩
    clear hq hst hj hS h0 cm cp cr hln hro hb' hn'
    have hge := pairI_ge l'
    by_cases h : 0 ≤ pairI l'
    · obtain ⟨ab, ao, rfl⟩ := HAD.out (by rintro rfl; simp [pairI] at h)
      obtain ⟨i, hk⟩ : ∃ i : Nat, pairI l' = i := ⟨(pairI l').toNat, by omega⟩
      have hrm := pairI_room l' h
      rw [HLN.out] at hrm
      obtain ⟨fuel', rfl⟩ : ∃ f', fuel = f' + 1 := ⟨fuel - 1, by omega⟩
      have hP : sbV 2 (some ⟨ab, ao, none⟩) cap' (splitP (fuel' + 1) l') = #[.slice (some ⟨ab, ao, none⟩) (i + 2) (i + 2)] :: sbV 2 (dropA (some ⟨ab, ao, none⟩) cap' (i + 2)) (cap' - (i + 2)) (splitP fuel' (l'.drop (i + 2))) := sbV_pair (save := 2) (f := fuel') (cap := cap') (a := some ⟨ab, ao, none⟩) hk (by rw [HLN.out]; omega)
      have hpv : XS.drop k = #[.slice (some ⟨ab, ao, none⟩) (i + 2) (i + 2)] :: sbV 2 (dropA (some ⟨ab, ao, none⟩) cap' (i + 2)) (cap' - (i + 2)) (splitP fuel' (l'.drop (i + 2))) := by rw [← HQ.out, hP]
      have HX : Hid (XS[k]? = some #[.slice (some ⟨ab, ao, none⟩) (i + 2) (i + 2)]) := by unfold Hid; rw [← List.head?_drop, hpv]; rfl
      have HD2 : Hid (sbV 2 (dropA (some ⟨ab, ao, none⟩) cap' (i + 2)) (cap' - (i + 2)) (splitP fuel' (l'.drop (i + 2))) = XS.drop (k + 1)) := by
        unfold Hid
        rw [show XS.drop (k + 1) = (XS.drop k).drop 1 by rw [List.drop_drop], hpv]
        rfl
      have HR2 : Hid (∀ V, Row V a l → Row V (dropA (some ⟨ab, ao, none⟩) cap' (i + 2)) (l'.drop (i + 2))) := fun V hV => row_drop (HRO.out V hV) (by rw [HLN.out]; exact hc1)
      have HN2 : Hid (dropA (some ⟨ab, ao, none⟩) cap' (i + 2) = none → cap' - (i + 2) = 0) := dropA_nil HN'.out
      have HL2 : Hid ((l'.drop (i + 2)).length = ln - (i + 2)) := by unfold Hid; rw [List.length_drop, HLN.out]
      have HB2 : Hid (Byt (l'.drop (i + 2))) := HB'.out.drop _
      have hda : dropA (some ⟨ab, ao, none⟩) cap' (i + 2) = if cap' = i + 2 then some ⟨ab, ao, none⟩ else some ⟨ab, ao + (i + 2), none⟩ := by
        unfold dropA; simp [add_plain]
      obtain ⟨ad, had⟩ : ∃ ad, dropA (some ⟨ab, ao, none⟩) cap' (i + 2) = ad := ⟨_, rfl⟩
      rw [had] at hda HN2 HR2 HD2
      have d0 : decide ((i : Int) < 0) = false := by simp
      have k0 : (0 : Int) ≤ (i : Int) := by omega
      have k2 : (i : Int) + 2 ≤ (cap' : Int) := by omega
      have k5 : (0 : Int) ≤ (i : Int) + 2 := by omega
      have k6 : (i : Int) + 2 ≤ (ln : Int) := by omega
      have k7 : ((i : Int) + 2).toNat = i + 2 := by omega
      rw [hk] at hidx
      clear hP hpv h hge hk had
      gi_wp2_with fail
      refine ⟨trivial, (callsIn_wide.2 hidx).mono ?_⟩
      rintro e w' ⟨rfl, qn, rfl⟩
      have hJq : J k (wr.drewN qn) := HJ.out _ _ _ HJk.out (Tg.of_below (below_drewN (Below.refl _ _) qn))
      obtain ⟨fn, tmps, assign, body, hy, hRd⟩ := HY.out k _ (wr.drewN qn) HX.out hJq (fun b hb => by subst hb; exact HST.out.lt)
      have HSTq : Hid (Sb (wr.drewN qn) Bs (.slice (some ⟨ab, ao, none⟩) ln cap')) := HST.out
      clear hidx hJq
      gi_wp2
      refine hRd.mono ?_
      rintro e W3 (⟨rfl, hJ3, hk3⟩ | ⟨rfl, hJx3, _⟩)
      · have hst3 : Sb W3 Bs (.slice (some ⟨ab, ao, none⟩) ln cap') := (hk3 Bs rfl).trans HSTq.out
        have HJ3 : Hid (J (k + 1) W3) := hJ3
        have HST4 : Hid (Sb (W3.setCell ⟨Bs, 0, none⟩ (.slice ad (ln - (i + 2)) (cap' - (i + 2)))) Bs (.slice ad (ln - (i + 2)) (cap' - (i + 2)))) := hst3.set _
        obtain ⟨g0, _, g1, _⟩ := HJG.out _ W3 hJ3
        have g2 := hst3.cell
        have g3 := hst3.frozen
        clear hy hRd c0 c1 c2 f2 hk3 hst3 hJ3
        by_cases hci : cap' = i + 2
        · rw [if_pos hci] at hda
          subst hda
          rw [show cap' - (i + 2) = 0 by omega] at HST4 HN2 HD2
          gi_wp2
          go_roundw
          case rel => exact ⟨k + 1, fuel', _, l'.drop (i + 2), _, HJ.out _ _ _ HJ3.out (Tg.set _ _ _ _ rfl), by rw [HL2.out]; exact HST4.out, by rw [HL2.out]; omega, by rw [HL2.out]; omega, by rw [HL2.out]; omega, by omega, (fun q => by cases q), HB2.out, HR2.out, HD2.out⟩
          case measure => rw [restSb_of HST4.out, HL.out]; omega
        · rw [if_neg hci] at hda
          subst hda
          gi_wp2
          go_roundw
          case rel => exact ⟨k + 1, fuel', _, l'.drop (i + 2), _, HJ.out _ _ _ HJ3.out (Tg.set _ _ _ _ rfl), by rw [HL2.out]; exact HST4.out, by rw [HL2.out]; omega, by rw [HL2.out]; omega, by rw [HL2.out]; omega, by omega, (fun q => by cases q), HB2.out, HR2.out, HD2.out⟩
          case measure => rw [restSb_of HST4.out, HL.out]; omega
      · clear hy hRd
        gi_wp2
        refine bodyPost_ret (results_none rfl _ _ _) rfl ?_
        exact ⟨⟨_, rfl⟩, .inr hJx3⟩
    · have hpv : XS.drop k = [#[.slice a' ln ln]] := by rw [← HQ.out, sbV_last h, HLN.out]
      have HX : Hid (XS[k]? = some #[.slice a' ln ln]) := by unfold Hid; rw [← List.head?_drop, hpv]; rfl
      have HK : Hid (k + 1 = XS.length) := by
        have := congrArg List.length hpv
        rw [List.length_drop] at this
        simp at this
        unfold Hid; omega
      have h' : pairI l' = -1 := by omega
      rw [h'] at hidx
      clear hpv h hge h'
      gi_wp2_with fail
      refine ⟨trivial, (callsIn_wide.2 hidx).mono ?_⟩
      rintro e w' ⟨rfl, qn, rfl⟩
      have hJq : J k (wr.drewN qn) := HJ.out _ _ _ HJk.out (Tg.of_below (below_drewN (Below.refl _ _) qn))
      obtain ⟨fn, tmps, assign, body, hy, hRd⟩ := HY.out k _ (wr.drewN qn) HX.out hJq (fun b hb => by subst hb; exact HST.out.lt)
      clear hidx hJq
      gi_wp2
      refine hRd.mono ?_
      rintro e W3 (⟨rfl, hJ3, hk3⟩ | ⟨rfl, hJx3, _⟩)
      · clear hy hRd
        gi_wp2
        go_end0
        exact ⟨⟨_, rfl⟩, .inl (by rw [← HK.out]; exact hJ3)⟩
      · clear hy hRd
        gi_wp2
        go_end0
        exact ⟨⟨_, rfl⟩, .inr hJx3⟩
theorem splitB_any (v : Value) (g : Nat) (save : Nat) (w : World) (hv : v.oneCell' = true) : Calls Tryz.prog 100 #[v, .slice (some ⟨g, 0, none⟩) 2 2, .int .i64 (save : Nat)] w fun e w' => e = .returned (.func (.func 141) #[] #[.pointer (some ⟨w.heap.size + 1, 0, none⟩), .pointer (some ⟨w.heap.size, 0, none⟩), .pointer (some ⟨w.heap.size + 2, 0, none⟩)]) ∧ w' = ((w.alloc (.cells #[v] 22)).alloc (.cells #[.slice (some ⟨g, 0, none⟩) 2 2] 22)).alloc (.cells #[.int .i64 (save : Nat)] 3) := by
  go_enter Tryz.func100, Tryz.ntmps100
  go_wp2
  go_ret
  exact ⟨by simp, rfl⟩
theorem split_seq (a : Option Addr) (n c g : Nat) (w : World) : Calls Tryz.prog 57 #[.slice a n c, .slice (some ⟨g, 0, none⟩) 2 2] w fun e w' => e = .returned (.func (.func 141) #[] #[.pointer (some ⟨w.heap.size + 1, 0, none⟩), .pointer (some ⟨w.heap.size, 0, none⟩), .pointer (some ⟨w.heap.size + 2, 0, none⟩)]) ∧ w' = ((w.alloc (.cells #[.slice a n c] 22)).alloc (.cells #[.slice (some ⟨g, 0, none⟩) 2 2] 22)).alloc (.cells #[.int .i64 0] 3) := by
  go_enter Tryz.func57, Tryz.ntmps57
  go_wp2_with (go_at_call 100; refine (splitB_any (.slice a n c) g 0 _ rfl).mono ?_; rintro e w1 ⟨rfl, rfl⟩)
  go_ret
  exact ⟨rfl, rfl⟩
theorem split_after (a : Option Addr) (n c g : Nat) (w : World) : Calls Tryz.prog 66 #[.slice a n c, .slice (some ⟨g, 0, none⟩) 2 2] w fun e w' => e = .returned (.func (.func 141) #[] #[.pointer (some ⟨w.heap.size + 1, 0, none⟩), .pointer (some ⟨w.heap.size, 0, none⟩), .pointer (some ⟨w.heap.size + 2, 0, none⟩)]) ∧ w' = ((w.alloc (.cells #[.slice a n c] 22)).alloc (.cells #[.slice (some ⟨g, 0, none⟩) 2 2] 22)).alloc (.cells #[.int .i64 2] 3) := by
  go_enter Tryz.func66, Tryz.ntmps66
  go_wp2_with (go_at_call 100; refine (splitB_any (.slice a n c) g 2 _ rfl).mono ?_; rintro e w1 ⟨rfl, rfl⟩)
  go_ret
  exact ⟨rfl, rfl⟩
end Go.Proofs.YtmdkmedlncfcbaaGreatDoor
