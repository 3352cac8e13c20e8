/-
  Two sessions under way; ServeCuts: the contract of the law.
-/
import Derived.Test.YtbckbonffajmeaaGreatDoorTd
namespace Go.Proofs.YtbckbonffajmeaaGreatDoor
open Go.RowKit Go.Shelf Go.Maps
set_option linter.unusedVariables false
set_option linter.unusedSimpArgs false

/-- Two sessions under way, since a world w0. -/
structure Duo (mx : Int) (w0 : World) (N K : Nat) (W : World) (m u : Sm) (s t : SS) : Prop where
  a : SG N mx W m s
  b : SG K mx W u t
  ap : Ap m u W
  la : ∀ k, sO m W k → w0.heap.size ≤ k
  lb : ∀ k, sO u W k → w0.heap.size ≤ k
  bel : Below w0.heap.size w0 W
theorem Duo.swap {mx : Int} {w0 W : World} {N K : Nat} {m u : Sm} {s t : SS} (h : Duo mx w0 N K W m u s t) : Duo mx w0 K N W u m t s := ⟨h.b, h.a, h.ap.symm, h.lb, h.la, h.bel⟩
theorem Duo.left {mx : Int} {w0 W W' : World} {N N' K : Nat} {m m' u : Sm} {s s' t : SS} (h : Duo mx w0 N K W m u s t) (hs : SvAt N' W' m' s') (hm : Mv m m' W W') : Duo mx w0 N' K W' m' u s' t := by
  obtain ⟨b1, b2⟩ := mv_below hm h.la h.bel.size
  obtain ⟨c1, c2⟩ := mv_below hm h.a.lo h.a.gl.size
  have hgl : Gl mx W' := h.a.gl.keep hm.tk.size (fun k hk => c1.block k hk)
  obtain ⟨d1, d2⟩ := SG.other h.ap h.a.at' h.b hm hgl
  obtain ⟨_, e2⟩ := h.b.at'.keep hm.tk.size (fun k hk => hm.tk.2.2.2.2 k (sO_lt h.b.at' hk) (fun q => h.ap.l k q hk))
  exact ⟨⟨hs, hgl, c2⟩, d1, d2, b2, fun k q => h.lb k (e2 k q), h.bel.trans b1⟩
theorem Duo.below {mx : Int} {w0 W W' : World} {N K : Nat} {m u : Sm} {s t : SS} (h : Duo mx w0 N K W m u s t) (hb : Below W.heap.size W W') : Duo mx w0 N K W' m u s t := by
  obtain ⟨h1, h2⟩ := h.a.below hb
  exact h.left h1.at' h2
theorem so_size (l : List Int) : (strOfNums l).size = l.length := by
  have : (strOfNums l).data.toList.length = l.length := by rw [strOfNums_data, List.length_map]
  rw [← this, Array.length_toList]; rfl
theorem add_block {a : Option Addr} {n : Nat} {y : Addr} (h : Option.map (fun x => x.add n) a = some y) : ∃ x, a = some x ∧ x.block = y.block := by
  cases a with
  | none => cases h
  | some x =>
    simp only [Option.map_some, Option.some.injEq] at h
    refine ⟨x, rfl, ?_⟩
    rw [← h]
    unfold Addr.add
    split <;> rfl
theorem row_lt {w : World} {a : Option Addr} {l : List Int} (h : Row w a l) (hl : l ≠ []) : ∀ x : Addr, a = some x → x.block < w.heap.size := by
  intro x e
  rcases h with h | ⟨b', off', e', h⟩
  · exact absurd h hl
  · rw [e] at e'
    cases e'
    obtain ⟨x, xs, rfl⟩ := List.exists_cons_of_ne_nil hl
    exact World.block_lt_of_cell? _ _ (h 0 (by simp))
theorem own_srow {w : World} {B : Nat} {v : Value} {ts : List ByteArray} (h : w.ownsRow B 9 1 v ts.length (ts.map Value.string)) : ∃ b d, v = .slice b ts.length d ∧ SRow w b ts := by
  rcases h.2 with ⟨rfl, e⟩ | ⟨g, cap, cur, rfl, hg⟩
  · exact ⟨none, 0, by rw [e], .inl (List.eq_nil_of_length_eq_zero e)⟩
  · refine ⟨some ⟨g, 0, none⟩, cap, rfl, .inr ⟨g, 0, rfl, fun i o ho => ?_⟩⟩
    have hc := h.cells (g := g) rfl i (.string o) (by rw [List.getElem?_map, ho]; rfl)
    rw [add_plain] at hc
    exact hc
theorem wf_new (host : ByteArray) (os : List (List Int)) (size : Int) (l : List Int) : WfS (runS (newS host os size) l).1 := runS_wf l (newS_wf host os size)
def cutS (os : List ByteArray) (size : Int) : SS := newS ⟨#[120]⟩ (os.map nums) size
set_option maxHeartbeats 16000000 in
set_option maxRecDepth 100000 in
theorem cuts_any (mx : Int) (a0 : Option Addr) (n0 c0 : Nat) (os : List ByteArray) (size : Int) (a2 : Option Addr) (n2 c2 : Nat) (l : List Int) (cut : Int) (w : World)
    (hn : os.length = n0) (hr : SRow w a0 os) (hl : l.length = n2) (hc : n2 ≤ c2) (hcm : c2 ≤ maxLen) (hb : Byt l) (hrow : Row w a2 l) (hgl : Gl mx w) :
    Calls Tryz.prog 5 #[.slice a0 n0 c0, .int .i64 size, .slice a2 n2 c2, .int .i64 cut] w fun e w' => e = .returned (.bool true) ∧ Below w.heap.size w w' := by
  have HG : Hid (Gl mx w) := hgl
  have hal := fun (V : World) (hb : Below w.heap.size w V) => alive_any mx V (HG.out.below hb)
  have hlong := long_any a0 n0 c0 os w hn hr
  have HR : Hid (SRow w a0 os ∧ os.length = n0) := ⟨hr, hn⟩
  have HL : Hid (l.length = n2 ∧ n2 ≤ c2 ∧ Byt l ∧ Row w a2 l) := ⟨hl, hc, hb, hrow⟩
  clear hgl hr hn hl hb hrow
  unfold maxLen at hcm
  obtain ⟨lg, hlg⟩ : ∃ b, longZ os = b := ⟨_, rfl⟩
  rw [hlg] at hlong
  have HLG : Hid (longZ os = lg) := hlg
  clear hlg
  cases lg with
  | true =>
    go_enter Tryz.func5, Tryz.ntmps5
    go_wp2_with fail
    refine hlong.mono ?_
    rintro e w1 ⟨rfl, hw1⟩
    rw [hw1]
    clear hlong hw1 w1
    go_wp2_with (go_at_call 9; refine (hal _ (Below.refl _ _)).mono ?_; rintro e w2 ⟨rfl, hb2⟩)
    go_ret
    exact ⟨rfl, by assumption⟩
  | false =>
  by_cases p1 : 3000 < n2
  · have hd1 : decide ((n2 : Int) > 3000) = true := by simp; omega
    go_enter Tryz.func5, Tryz.ntmps5
    go_wp2_with fail
    refine hlong.mono ?_
    rintro e w1 ⟨rfl, hw1⟩
    rw [hw1]
    clear hlong hw1 w1
    go_wp2_with (go_at_call 9; refine (hal _ (Below.refl _ _)).mono ?_; rintro e w2 ⟨rfl, hb2⟩)
    go_ret
    exact ⟨rfl, by assumption⟩
  have hd1 : decide ((n2 : Int) > 3000) = false := by simp; omega
  by_cases p2 : cut < 0
  · have hd2 : decide (cut < 0) = true := by simpa using p2
    go_enter Tryz.func5, Tryz.ntmps5
    go_wp2_with fail
    refine hlong.mono ?_
    rintro e w1 ⟨rfl, hw1⟩
    rw [hw1]
    clear hlong hw1 w1
    go_wp2_with (go_at_call 9; refine (hal _ (Below.refl _ _)).mono ?_; rintro e w2 ⟨rfl, hb2⟩)
    go_ret
    exact ⟨rfl, by assumption⟩
  have hd2 : decide (cut < 0) = false := by simpa using p2
  by_cases p3 : (n2 : Int) < cut
  · have hd3 : decide (cut > (n2 : Int)) = true := by simpa using p3
    go_enter Tryz.func5, Tryz.ntmps5
    go_wp2_with fail
    refine hlong.mono ?_
    rintro e w1 ⟨rfl, hw1⟩
    rw [hw1]
    clear hlong hw1 w1
    go_wp2_with (go_at_call 9; refine (hal _ (Below.refl _ _)).mono ?_; rintro e w2 ⟨rfl, hb2⟩)
    go_ret
    exact ⟨rfl, by assumption⟩
  obtain ⟨cn, rfl⟩ : ∃ cn : Nat, cut = cn := ⟨cut.toNat, by omega⟩
  have hd3 : decide ((cn : Int) > (n2 : Int)) = false := by simp; omega
  have hcn : cn ≤ n2 := by omega
  have hn3 : n2 ≤ 3000 := by omega
  clear p1 p2 p3
  have hz : ∀ o ∈ os, o.size ≤ 100000000 := by
    have h := HLG.out
    unfold longZ at h
    rw [Bool.or_eq_false_iff] at h
    intro o ho
    have := List.any_eq_false.1 h.2 o ho
    simp at this
    omega
  have hnew := fun (V : World) (hb : Below w.heap.size w V) => new_any ⟨#[120]⟩ size a0 n0 c0 os V HR.out.2 (HR.out.1.below hb) (by decide) hz
  have HNEW : Hid (∀ V, Below w.heap.size w V → Calls Tryz.prog 10 #[.string ⟨#[120]⟩, .slice a0 n0 c0, .int .i64 size] V fun e w' => NewAns ⟨#[120]⟩ os size V e w') := hnew
  clear hnew hz
  obtain ⟨ok, hok⟩ : ∃ b, newOk ⟨#[120]⟩ os size = b := ⟨_, rfl⟩
  have HOK : Hid (newOk ⟨#[120]⟩ os size = ok) := hok
  clear hok
  go_enter Tryz.func5, Tryz.ntmps5
  go_wp2_with fail
  refine hlong.mono ?_
  rintro e w1 ⟨rfl, hw1⟩
  rw [hw1]
  clear hlong hw1 w1
  go_wp2_with fail
  refine (HNEW.out _ (Below.refl _ _)).mono ?_
  rintro e w1 hans1
  have hb1 := hans1.bel
  cases ok with
  | false =>
    obtain rfl := hans1.no HOK.out
    clear hans1
    go_wp2_with fail
    refine (HNEW.out _ hb1).mono ?_
    rintro e w2 hans2
    have hb2 := hb1.trans (hans2.bel.mono hb1.size)
    obtain rfl := hans2.no HOK.out
    clear hans2 hb1
    have hal1 := hal w2 hb2
    go_wp2_with fail
    refine hal1.mono ?_
    rintro e w3 ⟨rfl, hb3⟩
    have hb4 := hb2.trans (hb3.mono hb2.size)
    go_wp2
    go_ret
    exact ⟨rfl, hb4⟩
  | true =>
  obtain ⟨g1, o1, rfl, hat1, hg1, hp1⟩ := hans1.yes HOK.out
  clear hans1
  go_wp2_with fail
  refine (HNEW.out _ hb1).mono ?_
  rintro e w2 hans2
  have hb2 := hans2.bel
  obtain ⟨g2, o2, rfl, hat2, hg2, hp2⟩ := hans2.yes HOK.out
  clear hans2
  have hs1 := hb1.size
  have hs2 := hb2.size
  have hgs1 : g1 < w1.heap.size := hat1.blk.lt
  have hos1 : o1 < w1.heap.size := sO_lt hat1 (.inr rfl)
  have hat1' := (hat1.below hb2).1
  have hbw2 := hb1.trans (hb2.mono hs1)
  have D2 : Hid (Duo mx w 0 0 w2 (newM g1 o1) (newM g2 o2) (cutS os size) (cutS os size)) := by
    refine ⟨⟨hat1', HG.out.below hbw2, fun k q => ?_⟩, ⟨hat2, HG.out.below hbw2, fun k q => ?_⟩, ⟨fun k q => ?_, fun k q => ?_⟩, fun k q => ?_, fun k q => ?_, hbw2⟩
    · have := newM_own q; have := HG.out.size; omega
    · have := newM_own q; have := HG.out.size; omega
    · have e1 := newM_own q
      rintro (q2 | q2)
      · have e2 := newM_own q2; omega
      · have e2 : k = o2 := q2; omega
    · have e1 := newM_own q
      rintro (q2 | q2)
      · have e2 := newM_own q2; omega
      · have e2 : k = o1 := q2; omega
    · have := newM_own q; omega
    · have := newM_own q; omega
  have HROW : Hid (∀ V, Below w.heap.size w V → Row V a2 l) := fun V hb => row_below HL.out.2.2.2 hb
  have HSEP : Hid (l ≠ [] → ∀ x : Addr, a2 = some x → x.block < w.heap.size) := fun h => row_lt HL.out.2.2.2 h
  have hwf0 : WfS (cutS os size) := newS_wf _ _ _
  have hh0 : (cutS os size).host = ⟨#[120]⟩ := rfl
  clear hat1 hat2 hat1' hb1 hb2 hg1 hg2 hp1 hp2 hgs1 hos1 hs1 hs2 hbw2
  have hput := sput_any 0 mx (newM g1 o1) (cutS os size) w2 D2.out.a hwf0 (by rw [hh0]; decide) a2 n2 c2 l HL.out.1 HL.out.2.1 HL.out.2.2.1 (HROW.out _ D2.out.bel) (fun h b off e q => by have h1 : b < w.heap.size := HSEP.out h _ e; have := D2.out.la b q; omega) (by omega)
  obtain ⟨⟨sf, out, cnt⟩, hrun⟩ : ∃ r, runS (cutS os size) l = r := ⟨_, rfl⟩
  have hlen := runS_len l (cutS os size)
  rw [hrun] at hput hlen
  have HRUN : Hid (runS (cutS os size) l = (sf, out, cnt)) := hrun
  have HSF : Hid (sf.host.size ≠ 0 ∧ WfS sf) := by
    have h1 := runS_host l (cutS os size)
    have h2 := runS_wf l hwf0
    rw [hrun] at h1 h2
    exact ⟨by rw [h1, hh0]; decide, h2⟩
  have HWF : Hid (WfS (cutS os size) ∧ (cutS os size).host = ⟨#[120]⟩) := ⟨hwf0, hh0⟩
  clear hrun hwf0 hh0
  go_wp2_with fail
  refine hput.mono ?_
  clear hput
  rintro e w3 ⟨rfl, ma, hsa, hma⟩
  have D3 : Hid (Duo mx w _ 0 w3 ma (newM g2 o2) sf (cutS os size)) := D2.out.left hsa hma
  have hga : ma.g = g1 := hma.g
  clear hsa hma
  have hput := sputL_any 0 mx (newM g2 o2) (cutS os size) w3 D3.out.b HWF.out.1 (by rw [HWF.out.2]; decide) a2 cn c2 (l.take cn) (by rw [List.length_take, HL.out.1]; omega) (by have := HL.out.2.1; omega) (fun x hx => HL.out.2.2.1 x (List.mem_of_mem_take hx)) (row_take cn (HROW.out _ D3.out.bel)) (fun h b off e q => by have h1 : b < w.heap.size := HSEP.out (fun e => by rw [e] at h; simp at h) _ e; have := D3.out.lb b q; omega) (by omega)
  obtain ⟨⟨s1, o1', k1⟩, hrun1⟩ : ∃ r, runS (cutS os size) (l.take cn) = r := ⟨_, rfl⟩
  have hlen1 := runS_len (l.take cn) (cutS os size)
  rw [hrun1] at hput hlen1
  have htl : (l.take cn).length = cn := by rw [List.length_take, HL.out.1]; omega
  rw [htl] at hlen1
  have hc2 := HL.out.2.1
  go_wp2_with fail
  refine hput.mono ?_
  clear hput
  rintro e w4 ⟨rfl, mb, hsb, hmb, hol1⟩
  have D4 : Hid (Duo mx w _ _ w4 ma mb sf s1) := (D3.out.swap.left hsb hmb).swap
  have hgb : mb.g = g2 := hmb.g
  clear hsb hmb
  by_cases pk : k1 = cn
  · obtain ⟨⟨s2, o2', k2⟩, hrun2⟩ : ∃ r, runS s1 (l.drop cn) = r := ⟨_, rfl⟩
    have happ : (sf, out, cnt) = (s2, o1' ++ o2', cn + k2) := by
      have h := runS_app (l.take cn) (l.drop cn) (cutS os size) (by rw [hrun1, htl]; exact pk)
      rw [List.take_append_drop, HRUN.out, hrun1] at h
      dsimp only at h
      rw [hrun2, htl] at h
      exact h
    obtain ⟨rfl, rfl, rfl⟩ : sf = s2 ∧ out = o1' ++ o2' ∧ cnt = cn + k2 := by simpa using happ
    clear happ
    subst pk
    have hlen2 := runS_len (l.drop k1) s1
    rw [hrun2] at hlen2
    have hw1 : WfS s1 ∧ s1.host = ⟨#[120]⟩ := by
      have h1 := runS_host (l.take k1) (cutS os size)
      have h2 := runS_wf (l.take k1) HWF.out.1
      rw [hrun1] at h1 h2
      exact ⟨h2, h1.trans HWF.out.2⟩
    have hbk : ((k1 : Int) == (k1 : Int)) = true := by simp
    have hap := str_append o1' o2'
    have hk2 : k2 ≤ n2 := by rw [List.length_drop, HL.out.1] at hlen2; show k2 ≤ n2; have : k2 ≤ n2 - k1 := hlen2; omega
    clear hlen2
    have hputd := fun (a5 : Option Addr) (c5 : Nat) (h5 : Row w4 a5 (l.drop k1)) (h6 : n2 - k1 ≤ c5) (h7 : l.drop k1 ≠ [] → ∀ b off, a5 = some ⟨b, off, none⟩ → ∃ x : Addr, a2 = some x ∧ x.block = b) => sputL_any _ mx mb s1 w4 D4.out.b hw1.1 (by rw [hw1.2]; decide) a5 (n2 - k1) c5 (l.drop k1) (by rw [List.length_drop, HL.out.1]) h6 (fun x hx => HL.out.2.2.1 x (List.mem_of_mem_drop hx)) h5 (fun h b off e q => by obtain ⟨x, e', ex⟩ := h7 h b off e; have h1 := HSEP.out (fun e => by rw [e] at h; simp at h) x e'; have := D4.out.lb b q; omega) (by omega)
    rw [hrun2] at hputd
    have hrd := row_drop (n := k1) (cap := c2) (HROW.out _ D4.out.bel) (by rw [HL.out.1]; exact hc2)
    by_cases hcc : c2 = k1
    · have hd0 : l.drop k1 = [] := List.eq_nil_of_length_eq_zero (by rw [List.length_drop, HL.out.1]; omega)
      have hp5 := hputd a2 0 (by rw [hd0]; exact .inl rfl) (by omega) (fun h => absurd hd0 h)
      rw [show n2 - k1 = 0 from by omega] at hp5
      clear hputd hrd
      subst hcc
      go_wp2_with fail
      rw [hgb] at hp5
      refine hp5.mono ?_
      clear hp5
      rintro e w5 ⟨rfl, mc, hsc, hmc, hol2⟩
      have hz1 : (strOfNums o1').size ≤ 3600000 := by rw [so_size]; have := hol1; omega
      have hz2 : (strOfNums o2').size ≤ 3600000 := by rw [so_size]; have := hol2; omega
      clear hol1 hol2
      have D : Hid (Duo mx w _ _ w5 ma mc sf sf) := (D4.out.swap.left hsc hmc).swap
      have hgb : mc.g = g2 := hmc.g.trans hgb
      clear hsc hmc D2 D3 D4 HRUN hrun1 hrun2
      rename_i mb0
      go_wp2_with fail
      by_cases q2 : sf.takes = 2
      · have h2 : sf.takes = 2 := q2
        obtain ⟨rs, hrs, _⟩ := HSF.out.2.t2 h2
        have hw1 := waits_yes _ ma sf _ rs D.out.a.at' HSF.out.1 h2 hrs (by omega)
        go_wp2_with fail
        rw [hga] at hw1
        refine hw1.mono ?_
        clear hw1
        rintro e w8 ⟨v1, a8, c8, rfl, ho8, hr8, hb8⟩
        obtain ⟨b8, d8, rfl, hs8⟩ := own_srow ho8
        clear ho8
        obtain ⟨tn, htn⟩ : ∃ n, sf.tos.length = n := ⟨_, rfl⟩
        obtain ⟨xn, hxn⟩ : ∃ n, (Dt.textZ rs).length = n := ⟨_, rfl⟩
        obtain ⟨sd, hsd⟩ : ∃ n, sf.sender = n := ⟨_, rfl⟩
        rw [htn, hxn, hsd]
        have D8 : Hid (Duo mx w _ _ w8 ma mc sf sf) := D.out.below hb8
        have D9 := D8.out.below (keep w8 (.cells #[.string sd, .slice b8 tn d8, .slice a8 xn c8] 48))
        have hw2 := waits_yes _ mc sf _ rs D9.b.at' HSF.out.1 h2 hrs (by omega)
        have k9 := World.alloc_heap_new w8 (.cells #[.string sd, .slice b8 tn d8, .slice a8 xn c8] 48)
        have hs9 := hs8.below (keep w8 (.cells #[.string sd, .slice b8 tn d8, .slice a8 xn c8] 48))
        have hr9 := row_below hr8 (keep w8 (.cells #[.string sd, .slice b8 tn d8, .slice a8 xn c8] 48))
        obtain ⟨w9, hw9⟩ : ∃ x, w8.alloc (.cells #[.string sd, .slice b8 tn d8, .slice a8 xn c8] 48) = x := ⟨_, rfl⟩
        rw [hw9] at D9 hw2 k9 hs9 hr9
        have H9 : Hid (Duo mx w _ _ w9 ma mc sf sf ∧ Blk w9 w8.heap.size #[.string sd, .slice b8 tn d8, .slice a8 xn c8] 48 ∧ SRow w9 b8 sf.tos ∧ Row w9 a8 (Dt.textZ rs)) := ⟨D9, k9, hs9, hr9⟩
        clear D9 k9 hs9 hr9 hs8 hr8 hb8
        have HW9 : Hid _ := hw9
        clear hw9
        go_wp2_with fail
        rw [HW9.out]
        rw [hgb] at hw2
        refine hw2.mono ?_
        clear hw2 HW9
        rintro e w10 ⟨v2, a10, c10, rfl, ho10, hr10, hb10⟩
        obtain ⟨b10, d10, rfl, hs10⟩ := own_srow ho10
        clear ho10
        rw [htn, hxn, hsd]
        have D11 := (H9.out.1.below hb10).below (keep w10 (.cells #[.string sd, .slice b10 tn d10, .slice a10 xn c10] 48))
        have b11 := hb10.trans ((keep w10 (.cells #[.string sd, .slice b10 tn d10, .slice a10 xn c10] 48)).mono hb10.size)
        have k11 := World.alloc_heap_new w10 (.cells #[.string sd, .slice b10 tn d10, .slice a10 xn c10] 48)
        have hs11 := hs10.below (keep w10 (.cells #[.string sd, .slice b10 tn d10, .slice a10 xn c10] 48))
        have hr11 := row_below hr10 (keep w10 (.cells #[.string sd, .slice b10 tn d10, .slice a10 xn c10] 48))
        obtain ⟨w11, hw11⟩ : ∃ x, w10.alloc (.cells #[.string sd, .slice b10 tn d10, .slice a10 xn c10] 48) = x := ⟨_, rfl⟩
        rw [hw11] at D11 k11 hs11 hr11 b11
        have H11 : Hid (Duo mx w _ _ w11 ma mc sf sf ∧ Blk w11 w8.heap.size #[.string sd, .slice b8 tn d8, .slice a8 xn c8] 48 ∧ SRow w11 b8 sf.tos ∧ Row w11 a8 (Dt.textZ rs) ∧ Blk w11 w10.heap.size #[.string sd, .slice b10 tn d10, .slice a10 xn c10] 48 ∧ SRow w11 b10 sf.tos ∧ Row w11 a10 (Dt.textZ rs)) := ⟨D11, blk_below H9.out.2.1 b11, H9.out.2.2.1.below b11, row_below H9.out.2.2.2 b11, k11, hs11, hr11⟩
        clear D11 k11 hs11 hr11 b11 hs10 hr10 hb10
        have hal1 := hal w11 H11.out.1.bel
        have HW11 : Hid _ := hw11
        clear hw11
        go_wp2_with fail
        rw [HW11.out]
        refine hal1.mono ?_
        clear hal1 HW11
        rintro e w12 ⟨rfl, hb12⟩
        have H12 : Hid (Duo mx w _ _ w12 ma mc sf sf) := H11.out.1.below hb12
        have hsm := smail_any sd b8 b10 a8 a10 tn xn d8 d10 c8 c10 sf.tos (Dt.textZ rs) w12 htn hxn (by have := H12.out.a.at'.ok.tos; omega) (H11.out.2.2.1.below hb12) (H11.out.2.2.2.2.2.1.below hb12) (row_below H11.out.2.2.2.1 hb12) (row_below H11.out.2.2.2.2.2.2 hb12)
        obtain ⟨g8, hg8⟩ : ∃ n, w8.heap.size = n := ⟨_, rfl⟩
        obtain ⟨g10, hg10⟩ : ∃ n, w10.heap.size = n := ⟨_, rfl⟩
        have kx := blk_below H11.out.2.1 hb12
        have ky := blk_below H11.out.2.2.2.2.1 hb12
        rw [hg8] at kx ⊢
        rw [hg10] at ky ⊢
        have x0 : w12.cell? ⟨g8, 0, none⟩ = some (.string sd) := kx.cell 0
        have x1 : w12.cell? ⟨g8, 1, none⟩ = some (.slice b8 tn d8) := kx.cell 1
        have x2 : w12.cell? ⟨g8, 2, none⟩ = some (.slice a8 xn c8) := kx.cell 2
        have y0 : w12.cell? ⟨g10, 0, none⟩ = some (.string sd) := ky.cell 0
        have y1 : w12.cell? ⟨g10, 1, none⟩ = some (.slice b10 tn d10) := ky.cell 1
        have y2 : w12.cell? ⟨g10, 2, none⟩ = some (.slice a10 xn c10) := ky.cell 2
        clear kx ky hb12 hg8 hg10
        go_wp2_with fail
        refine hsm.mono ?_
        clear hsm x0 x1 x2 y0 y1 y2
        rintro e w13 ⟨rfl, hb13⟩
        have H13 : Hid (Duo mx w _ _ w13 ma mc sf sf) := H12.out.below hb13
        clear hb13
        have ho1 := over_any _ ma sf w13 H13.out.a.at' HSF.out.1
        have ho2 := over_any _ mc sf w13 H13.out.b.at' HSF.out.1
        obtain ⟨ov, hov⟩ : ∃ b, (sf.takes == 3) = b := ⟨_, rfl⟩
        rw [hov] at ho1 ho2
        rw [hga] at ho1
        rw [hgb] at ho2
        go_wp2_with fail
        refine ho1.mono ?_
        rintro e w14 ⟨rfl, rfl⟩
        go_wp2_with fail
        refine ho2.mono ?_
        rintro e w15 ⟨rfl, rfl⟩
        clear ho1 ho2
        have ob : (ov == ov) = true := by simp
        go_wp2
        go_ret
        exact ⟨rfl, H13.out.bel⟩
      · have h2 : ¬ sf.takes = 2 := q2
        have hw1 := waits_not _ ma sf _ D.out.a.at' HSF.out.1 h2
        go_wp2_with fail
        rw [hga] at hw1
        refine hw1.mono ?_
        clear hw1
        rintro e w8 ⟨rfl, hb8⟩
        unfold noMail
        have D8 : Hid (Duo mx w _ _ w8 ma mc sf sf) := D.out.below hb8
        have D9 := D8.out.below (keep w8 (.cells #[.string ⟨#[]⟩, .slice none 0 0, .slice none 0 0] 48))
        have hw2 := waits_not _ mc sf _ D9.b.at' HSF.out.1 h2
        have k9 := World.alloc_heap_new w8 (.cells #[.string ⟨#[]⟩, .slice none 0 0, .slice none 0 0] 48)
        obtain ⟨w9, hw9⟩ : ∃ x, w8.alloc (.cells #[.string ⟨#[]⟩, .slice none 0 0, .slice none 0 0] 48) = x := ⟨_, rfl⟩
        rw [hw9] at D9 hw2 k9
        have H9 : Hid (Duo mx w _ _ w9 ma mc sf sf ∧ Blk w9 w8.heap.size #[.string ⟨#[]⟩, .slice none 0 0, .slice none 0 0] 48) := ⟨D9, k9⟩
        clear D9 k9 hb8
        have HW9 : Hid _ := hw9
        clear hw9
        go_wp2_with fail
        rw [HW9.out]
        rw [hgb] at hw2
        refine hw2.mono ?_
        clear hw2 HW9
        rintro e w10 ⟨rfl, hb10⟩
        unfold noMail
        have D11 := (H9.out.1.below hb10).below (keep w10 (.cells #[.string ⟨#[]⟩, .slice none 0 0, .slice none 0 0] 48))
        have b11 := hb10.trans ((keep w10 (.cells #[.string ⟨#[]⟩, .slice none 0 0, .slice none 0 0] 48)).mono hb10.size)
        have k11 := World.alloc_heap_new w10 (.cells #[.string ⟨#[]⟩, .slice none 0 0, .slice none 0 0] 48)
        obtain ⟨w11, hw11⟩ : ∃ x, w10.alloc (.cells #[.string ⟨#[]⟩, .slice none 0 0, .slice none 0 0] 48) = x := ⟨_, rfl⟩
        rw [hw11] at D11 k11 b11
        have H11 : Hid (Duo mx w _ _ w11 ma mc sf sf ∧ Blk w11 w8.heap.size #[.string ⟨#[]⟩, .slice none 0 0, .slice none 0 0] 48 ∧ Blk w11 w10.heap.size #[.string ⟨#[]⟩, .slice none 0 0, .slice none 0 0] 48) := ⟨D11, blk_below H9.out.2 b11, k11⟩
        clear D11 k11 b11 hb10
        have hal1 := hal w11 H11.out.1.bel
        have HW11 : Hid _ := hw11
        clear hw11
        go_wp2_with fail
        rw [HW11.out]
        refine hal1.mono ?_
        clear hal1 HW11
        rintro e w12 ⟨rfl, hb12⟩
        have H12 : Hid (Duo mx w _ _ w12 ma mc sf sf) := H11.out.1.below hb12
        have hsm := smail_any ⟨#[]⟩ none none none none 0 0 0 0 0 0 [] [] w12 rfl rfl (by decide) (.inl rfl) (.inl rfl) (.inl rfl) (.inl rfl)
        obtain ⟨g8, hg8⟩ : ∃ n, w8.heap.size = n := ⟨_, rfl⟩
        obtain ⟨g10, hg10⟩ : ∃ n, w10.heap.size = n := ⟨_, rfl⟩
        have kx := blk_below H11.out.2.1 hb12
        have ky := blk_below H11.out.2.2 hb12
        rw [hg8] at kx ⊢
        rw [hg10] at ky ⊢
        have x0 : w12.cell? ⟨g8, 0, none⟩ = some (.string ⟨#[]⟩) := kx.cell 0
        have x1 : w12.cell? ⟨g8, 1, none⟩ = some (.slice none 0 0) := kx.cell 1
        have x2 : w12.cell? ⟨g8, 2, none⟩ = some (.slice none 0 0) := kx.cell 2
        have y0 : w12.cell? ⟨g10, 0, none⟩ = some (.string ⟨#[]⟩) := ky.cell 0
        have y1 : w12.cell? ⟨g10, 1, none⟩ = some (.slice none 0 0) := ky.cell 1
        have y2 : w12.cell? ⟨g10, 2, none⟩ = some (.slice none 0 0) := ky.cell 2
        clear kx ky hb12 hg8 hg10
        go_wp2_with fail
        refine hsm.mono ?_
        clear hsm x0 x1 x2 y0 y1 y2
        rintro e w13 ⟨rfl, hb13⟩
        have H13 : Hid (Duo mx w _ _ w13 ma mc sf sf) := H12.out.below hb13
        clear hb13
        have ho1 := over_any _ ma sf w13 H13.out.a.at' HSF.out.1
        have ho2 := over_any _ mc sf w13 H13.out.b.at' HSF.out.1
        obtain ⟨ov, hov⟩ : ∃ b, (sf.takes == 3) = b := ⟨_, rfl⟩
        rw [hov] at ho1 ho2
        rw [hga] at ho1
        rw [hgb] at ho2
        go_wp2_with fail
        refine ho1.mono ?_
        rintro e w14 ⟨rfl, rfl⟩
        go_wp2_with fail
        refine ho2.mono ?_
        rintro e w15 ⟨rfl, rfl⟩
        clear ho1 ho2
        have ob : (ov == ov) = true := by simp
        go_wp2
        go_ret
        exact ⟨rfl, H13.out.bel⟩
    · rw [if_neg hcc] at hrd
      have hp5 := hputd (Option.map (fun x => x.add k1) a2) (c2 - k1) hrd (by omega) (fun h b off e => add_block e)
      clear hputd hrd
      go_wp2_with fail
      rw [hgb] at hp5
      refine hp5.mono ?_
      clear hp5
      rintro e w5 ⟨rfl, mc, hsc, hmc, hol2⟩
      have hz1 : (strOfNums o1').size ≤ 3600000 := by rw [so_size]; have := hol1; omega
      have hz2 : (strOfNums o2').size ≤ 3600000 := by rw [so_size]; have := hol2; omega
      clear hol1 hol2
      have D : Hid (Duo mx w _ _ w5 ma mc sf sf) := (D4.out.swap.left hsc hmc).swap
      have hgb : mc.g = g2 := hmc.g.trans hgb
      clear hsc hmc D2 D3 D4 HRUN hrun1 hrun2
      go_wp2_with fail
      by_cases q2 : sf.takes = 2
      · have h2 : sf.takes = 2 := q2
        obtain ⟨rs, hrs, _⟩ := HSF.out.2.t2 h2
        have hw1 := waits_yes _ ma sf _ rs D.out.a.at' HSF.out.1 h2 hrs (by omega)
        go_wp2_with fail
        rw [hga] at hw1
        refine hw1.mono ?_
        clear hw1
        rintro e w8 ⟨v1, a8, c8, rfl, ho8, hr8, hb8⟩
        obtain ⟨b8, d8, rfl, hs8⟩ := own_srow ho8
        clear ho8
        obtain ⟨tn, htn⟩ : ∃ n, sf.tos.length = n := ⟨_, rfl⟩
        obtain ⟨xn, hxn⟩ : ∃ n, (Dt.textZ rs).length = n := ⟨_, rfl⟩
        obtain ⟨sd, hsd⟩ : ∃ n, sf.sender = n := ⟨_, rfl⟩
        rw [htn, hxn, hsd]
        have D8 : Hid (Duo mx w _ _ w8 ma mc sf sf) := D.out.below hb8
        have D9 := D8.out.below (keep w8 (.cells #[.string sd, .slice b8 tn d8, .slice a8 xn c8] 48))
        have hw2 := waits_yes _ mc sf _ rs D9.b.at' HSF.out.1 h2 hrs (by omega)
        have k9 := World.alloc_heap_new w8 (.cells #[.string sd, .slice b8 tn d8, .slice a8 xn c8] 48)
        have hs9 := hs8.below (keep w8 (.cells #[.string sd, .slice b8 tn d8, .slice a8 xn c8] 48))
        have hr9 := row_below hr8 (keep w8 (.cells #[.string sd, .slice b8 tn d8, .slice a8 xn c8] 48))
        obtain ⟨w9, hw9⟩ : ∃ x, w8.alloc (.cells #[.string sd, .slice b8 tn d8, .slice a8 xn c8] 48) = x := ⟨_, rfl⟩
        rw [hw9] at D9 hw2 k9 hs9 hr9
        have H9 : Hid (Duo mx w _ _ w9 ma mc sf sf ∧ Blk w9 w8.heap.size #[.string sd, .slice b8 tn d8, .slice a8 xn c8] 48 ∧ SRow w9 b8 sf.tos ∧ Row w9 a8 (Dt.textZ rs)) := ⟨D9, k9, hs9, hr9⟩
        clear D9 k9 hs9 hr9 hs8 hr8 hb8
        have HW9 : Hid _ := hw9
        clear hw9
        go_wp2_with fail
        rw [HW9.out]
        rw [hgb] at hw2
        refine hw2.mono ?_
        clear hw2 HW9
        rintro e w10 ⟨v2, a10, c10, rfl, ho10, hr10, hb10⟩
        obtain ⟨b10, d10, rfl, hs10⟩ := own_srow ho10
        clear ho10
        rw [htn, hxn, hsd]
        have D11 := (H9.out.1.below hb10).below (keep w10 (.cells #[.string sd, .slice b10 tn d10, .slice a10 xn c10] 48))
        have b11 := hb10.trans ((keep w10 (.cells #[.string sd, .slice b10 tn d10, .slice a10 xn c10] 48)).mono hb10.size)
        have k11 := World.alloc_heap_new w10 (.cells #[.string sd, .slice b10 tn d10, .slice a10 xn c10] 48)
        have hs11 := hs10.below (keep w10 (.cells #[.string sd, .slice b10 tn d10, .slice a10 xn c10] 48))
        have hr11 := row_below hr10 (keep w10 (.cells #[.string sd, .slice b10 tn d10, .slice a10 xn c10] 48))
        obtain ⟨w11, hw11⟩ : ∃ x, w10.alloc (.cells #[.string sd, .slice b10 tn d10, .slice a10 xn c10] 48) = x := ⟨_, rfl⟩
        rw [hw11] at D11 k11 hs11 hr11 b11
        have H11 : Hid (Duo mx w _ _ w11 ma mc sf sf ∧ Blk w11 w8.heap.size #[.string sd, .slice b8 tn d8, .slice a8 xn c8] 48 ∧ SRow w11 b8 sf.tos ∧ Row w11 a8 (Dt.textZ rs) ∧ Blk w11 w10.heap.size #[.string sd, .slice b10 tn d10, .slice a10 xn c10] 48 ∧ SRow w11 b10 sf.tos ∧ Row w11 a10 (Dt.textZ rs)) := ⟨D11, blk_below H9.out.2.1 b11, H9.out.2.2.1.below b11, row_below H9.out.2.2.2 b11, k11, hs11, hr11⟩
        clear D11 k11 hs11 hr11 b11 hs10 hr10 hb10
        have hal1 := hal w11 H11.out.1.bel
        have HW11 : Hid _ := hw11
        clear hw11
        go_wp2_with fail
        rw [HW11.out]
        refine hal1.mono ?_
        clear hal1 HW11
        rintro e w12 ⟨rfl, hb12⟩
        have H12 : Hid (Duo mx w _ _ w12 ma mc sf sf) := H11.out.1.below hb12
        have hsm := smail_any sd b8 b10 a8 a10 tn xn d8 d10 c8 c10 sf.tos (Dt.textZ rs) w12 htn hxn (by have := H12.out.a.at'.ok.tos; omega) (H11.out.2.2.1.below hb12) (H11.out.2.2.2.2.2.1.below hb12) (row_below H11.out.2.2.2.1 hb12) (row_below H11.out.2.2.2.2.2.2 hb12)
        obtain ⟨g8, hg8⟩ : ∃ n, w8.heap.size = n := ⟨_, rfl⟩
        obtain ⟨g10, hg10⟩ : ∃ n, w10.heap.size = n := ⟨_, rfl⟩
        have kx := blk_below H11.out.2.1 hb12
        have ky := blk_below H11.out.2.2.2.2.1 hb12
        rw [hg8] at kx ⊢
        rw [hg10] at ky ⊢
        have x0 : w12.cell? ⟨g8, 0, none⟩ = some (.string sd) := kx.cell 0
        have x1 : w12.cell? ⟨g8, 1, none⟩ = some (.slice b8 tn d8) := kx.cell 1
        have x2 : w12.cell? ⟨g8, 2, none⟩ = some (.slice a8 xn c8) := kx.cell 2
        have y0 : w12.cell? ⟨g10, 0, none⟩ = some (.string sd) := ky.cell 0
        have y1 : w12.cell? ⟨g10, 1, none⟩ = some (.slice b10 tn d10) := ky.cell 1
        have y2 : w12.cell? ⟨g10, 2, none⟩ = some (.slice a10 xn c10) := ky.cell 2
        clear kx ky hb12 hg8 hg10
        go_wp2_with fail
        refine hsm.mono ?_
        clear hsm x0 x1 x2 y0 y1 y2
        rintro e w13 ⟨rfl, hb13⟩
        have H13 : Hid (Duo mx w _ _ w13 ma mc sf sf) := H12.out.below hb13
        clear hb13
        have ho1 := over_any _ ma sf w13 H13.out.a.at' HSF.out.1
        have ho2 := over_any _ mc sf w13 H13.out.b.at' HSF.out.1
        obtain ⟨ov, hov⟩ : ∃ b, (sf.takes == 3) = b := ⟨_, rfl⟩
        rw [hov] at ho1 ho2
        rw [hga] at ho1
        rw [hgb] at ho2
        go_wp2_with fail
        refine ho1.mono ?_
        rintro e w14 ⟨rfl, rfl⟩
        go_wp2_with fail
        refine ho2.mono ?_
        rintro e w15 ⟨rfl, rfl⟩
        clear ho1 ho2
        have ob : (ov == ov) = true := by simp
        go_wp2
        go_ret
        exact ⟨rfl, H13.out.bel⟩
      · have h2 : ¬ sf.takes = 2 := q2
        have hw1 := waits_not _ ma sf _ D.out.a.at' HSF.out.1 h2
        go_wp2_with fail
        rw [hga] at hw1
        refine hw1.mono ?_
        clear hw1
        rintro e w8 ⟨rfl, hb8⟩
        unfold noMail
        have D8 : Hid (Duo mx w _ _ w8 ma mc sf sf) := D.out.below hb8
        have D9 := D8.out.below (keep w8 (.cells #[.string ⟨#[]⟩, .slice none 0 0, .slice none 0 0] 48))
        have hw2 := waits_not _ mc sf _ D9.b.at' HSF.out.1 h2
        have k9 := World.alloc_heap_new w8 (.cells #[.string ⟨#[]⟩, .slice none 0 0, .slice none 0 0] 48)
        obtain ⟨w9, hw9⟩ : ∃ x, w8.alloc (.cells #[.string ⟨#[]⟩, .slice none 0 0, .slice none 0 0] 48) = x := ⟨_, rfl⟩
        rw [hw9] at D9 hw2 k9
        have H9 : Hid (Duo mx w _ _ w9 ma mc sf sf ∧ Blk w9 w8.heap.size #[.string ⟨#[]⟩, .slice none 0 0, .slice none 0 0] 48) := ⟨D9, k9⟩
        clear D9 k9 hb8
        have HW9 : Hid _ := hw9
        clear hw9
        go_wp2_with fail
        rw [HW9.out]
        rw [hgb] at hw2
        refine hw2.mono ?_
        clear hw2 HW9
        rintro e w10 ⟨rfl, hb10⟩
        unfold noMail
        have D11 := (H9.out.1.below hb10).below (keep w10 (.cells #[.string ⟨#[]⟩, .slice none 0 0, .slice none 0 0] 48))
        have b11 := hb10.trans ((keep w10 (.cells #[.string ⟨#[]⟩, .slice none 0 0, .slice none 0 0] 48)).mono hb10.size)
        have k11 := World.alloc_heap_new w10 (.cells #[.string ⟨#[]⟩, .slice none 0 0, .slice none 0 0] 48)
        obtain ⟨w11, hw11⟩ : ∃ x, w10.alloc (.cells #[.string ⟨#[]⟩, .slice none 0 0, .slice none 0 0] 48) = x := ⟨_, rfl⟩
        rw [hw11] at D11 k11 b11
        have H11 : Hid (Duo mx w _ _ w11 ma mc sf sf ∧ Blk w11 w8.heap.size #[.string ⟨#[]⟩, .slice none 0 0, .slice none 0 0] 48 ∧ Blk w11 w10.heap.size #[.string ⟨#[]⟩, .slice none 0 0, .slice none 0 0] 48) := ⟨D11, blk_below H9.out.2 b11, k11⟩
        clear D11 k11 b11 hb10
        have hal1 := hal w11 H11.out.1.bel
        have HW11 : Hid _ := hw11
        clear hw11
        go_wp2_with fail
        rw [HW11.out]
        refine hal1.mono ?_
        clear hal1 HW11
        rintro e w12 ⟨rfl, hb12⟩
        have H12 : Hid (Duo mx w _ _ w12 ma mc sf sf) := H11.out.1.below hb12
        have hsm := smail_any ⟨#[]⟩ none none none none 0 0 0 0 0 0 [] [] w12 rfl rfl (by decide) (.inl rfl) (.inl rfl) (.inl rfl) (.inl rfl)
        obtain ⟨g8, hg8⟩ : ∃ n, w8.heap.size = n := ⟨_, rfl⟩
        obtain ⟨g10, hg10⟩ : ∃ n, w10.heap.size = n := ⟨_, rfl⟩
        have kx := blk_below H11.out.2.1 hb12
        have ky := blk_below H11.out.2.2 hb12
        rw [hg8] at kx ⊢
        rw [hg10] at ky ⊢
        have x0 : w12.cell? ⟨g8, 0, none⟩ = some (.string ⟨#[]⟩) := kx.cell 0
        have x1 : w12.cell? ⟨g8, 1, none⟩ = some (.slice none 0 0) := kx.cell 1
        have x2 : w12.cell? ⟨g8, 2, none⟩ = some (.slice none 0 0) := kx.cell 2
        have y0 : w12.cell? ⟨g10, 0, none⟩ = some (.string ⟨#[]⟩) := ky.cell 0
        have y1 : w12.cell? ⟨g10, 1, none⟩ = some (.slice none 0 0) := ky.cell 1
        have y2 : w12.cell? ⟨g10, 2, none⟩ = some (.slice none 0 0) := ky.cell 2
        clear kx ky hb12 hg8 hg10
        go_wp2_with fail
        refine hsm.mono ?_
        clear hsm x0 x1 x2 y0 y1 y2
        rintro e w13 ⟨rfl, hb13⟩
        have H13 : Hid (Duo mx w _ _ w13 ma mc sf sf) := H12.out.below hb13
        clear hb13
        have ho1 := over_any _ ma sf w13 H13.out.a.at' HSF.out.1
        have ho2 := over_any _ mc sf w13 H13.out.b.at' HSF.out.1
        obtain ⟨ov, hov⟩ : ∃ b, (sf.takes == 3) = b := ⟨_, rfl⟩
        rw [hov] at ho1 ho2
        rw [hga] at ho1
        rw [hgb] at ho2
        go_wp2_with fail
        refine ho1.mono ?_
        rintro e w14 ⟨rfl, rfl⟩
        go_wp2_with fail
        refine ho2.mono ?_
        rintro e w15 ⟨rfl, rfl⟩
        clear ho1 ho2
        have ob : (ov == ov) = true := by simp
        go_wp2
        go_ret
        exact ⟨rfl, H13.out.bel⟩
  · have hbk : ((k1 : Int) == (cn : Int)) = false := by rw [beq_eq_false_iff_ne]; omega
    have happ : (sf, out, cnt) = (s1, o1', k1) := by
      have h := runS_pre (l.take cn) (l.drop cn) (cutS os size) (by rw [hrun1, htl]; show k1 < cn; have : k1 ≤ cn := hlen1; omega)
      rw [List.take_append_drop, HRUN.out, hrun1] at h
      exact h
    obtain ⟨rfl, rfl, rfl⟩ : sf = s1 ∧ out = o1' ∧ cnt = k1 := by simpa using happ
    have D : Hid (Duo mx w _ _ w4 ma mb sf sf) := D4
    clear D2 D3 D4 HRUN hrun1 happ
    by_cases q2 : sf.takes = 2
    · have h2 : sf.takes = 2 := q2
      obtain ⟨rs, hrs, _⟩ := HSF.out.2.t2 h2
      have hw1 := waits_yes _ ma sf _ rs D.out.a.at' HSF.out.1 h2 hrs (by omega)
      go_wp2_with fail
      rw [hga] at hw1
      refine hw1.mono ?_
      clear hw1
      rintro e w8 ⟨v1, a8, c8, rfl, ho8, hr8, hb8⟩
      obtain ⟨b8, d8, rfl, hs8⟩ := own_srow ho8
      clear ho8
      obtain ⟨tn, htn⟩ : ∃ n, sf.tos.length = n := ⟨_, rfl⟩
      obtain ⟨xn, hxn⟩ : ∃ n, (Dt.textZ rs).length = n := ⟨_, rfl⟩
      obtain ⟨sd, hsd⟩ : ∃ n, sf.sender = n := ⟨_, rfl⟩
      rw [htn, hxn, hsd]
      have D8 : Hid (Duo mx w _ _ w8 ma mb sf sf) := D.out.below hb8
      have D9 := D8.out.below (keep w8 (.cells #[.string sd, .slice b8 tn d8, .slice a8 xn c8] 48))
      have hw2 := waits_yes _ mb sf _ rs D9.b.at' HSF.out.1 h2 hrs (by omega)
      have k9 := World.alloc_heap_new w8 (.cells #[.string sd, .slice b8 tn d8, .slice a8 xn c8] 48)
      have hs9 := hs8.below (keep w8 (.cells #[.string sd, .slice b8 tn d8, .slice a8 xn c8] 48))
      have hr9 := row_below hr8 (keep w8 (.cells #[.string sd, .slice b8 tn d8, .slice a8 xn c8] 48))
      obtain ⟨w9, hw9⟩ : ∃ x, w8.alloc (.cells #[.string sd, .slice b8 tn d8, .slice a8 xn c8] 48) = x := ⟨_, rfl⟩
      rw [hw9] at D9 hw2 k9 hs9 hr9
      have H9 : Hid (Duo mx w _ _ w9 ma mb sf sf ∧ Blk w9 w8.heap.size #[.string sd, .slice b8 tn d8, .slice a8 xn c8] 48 ∧ SRow w9 b8 sf.tos ∧ Row w9 a8 (Dt.textZ rs)) := ⟨D9, k9, hs9, hr9⟩
      clear D9 k9 hs9 hr9 hs8 hr8 hb8
      have HW9 : Hid _ := hw9
      clear hw9
      go_wp2_with fail
      rw [HW9.out]
      rw [hgb] at hw2
      refine hw2.mono ?_
      clear hw2 HW9
      rintro e w10 ⟨v2, a10, c10, rfl, ho10, hr10, hb10⟩
      obtain ⟨b10, d10, rfl, hs10⟩ := own_srow ho10
      clear ho10
      rw [htn, hxn, hsd]
      have D11 := (H9.out.1.below hb10).below (keep w10 (.cells #[.string sd, .slice b10 tn d10, .slice a10 xn c10] 48))
      have b11 := hb10.trans ((keep w10 (.cells #[.string sd, .slice b10 tn d10, .slice a10 xn c10] 48)).mono hb10.size)
      have k11 := World.alloc_heap_new w10 (.cells #[.string sd, .slice b10 tn d10, .slice a10 xn c10] 48)
      have hs11 := hs10.below (keep w10 (.cells #[.string sd, .slice b10 tn d10, .slice a10 xn c10] 48))
      have hr11 := row_below hr10 (keep w10 (.cells #[.string sd, .slice b10 tn d10, .slice a10 xn c10] 48))
      obtain ⟨w11, hw11⟩ : ∃ x, w10.alloc (.cells #[.string sd, .slice b10 tn d10, .slice a10 xn c10] 48) = x := ⟨_, rfl⟩
      rw [hw11] at D11 k11 hs11 hr11 b11
      have H11 : Hid (Duo mx w _ _ w11 ma mb sf sf ∧ Blk w11 w8.heap.size #[.string sd, .slice b8 tn d8, .slice a8 xn c8] 48 ∧ SRow w11 b8 sf.tos ∧ Row w11 a8 (Dt.textZ rs) ∧ Blk w11 w10.heap.size #[.string sd, .slice b10 tn d10, .slice a10 xn c10] 48 ∧ SRow w11 b10 sf.tos ∧ Row w11 a10 (Dt.textZ rs)) := ⟨D11, blk_below H9.out.2.1 b11, H9.out.2.2.1.below b11, row_below H9.out.2.2.2 b11, k11, hs11, hr11⟩
      clear D11 k11 hs11 hr11 b11 hs10 hr10 hb10
      have hal1 := hal w11 H11.out.1.bel
      have HW11 : Hid _ := hw11
      clear hw11
      go_wp2_with fail
      rw [HW11.out]
      refine hal1.mono ?_
      clear hal1 HW11
      rintro e w12 ⟨rfl, hb12⟩
      have H12 : Hid (Duo mx w _ _ w12 ma mb sf sf) := H11.out.1.below hb12
      have hsm := smail_any sd b8 b10 a8 a10 tn xn d8 d10 c8 c10 sf.tos (Dt.textZ rs) w12 htn hxn (by have := H12.out.a.at'.ok.tos; omega) (H11.out.2.2.1.below hb12) (H11.out.2.2.2.2.2.1.below hb12) (row_below H11.out.2.2.2.1 hb12) (row_below H11.out.2.2.2.2.2.2 hb12)
      obtain ⟨g8, hg8⟩ : ∃ n, w8.heap.size = n := ⟨_, rfl⟩
      obtain ⟨g10, hg10⟩ : ∃ n, w10.heap.size = n := ⟨_, rfl⟩
      have kx := blk_below H11.out.2.1 hb12
      have ky := blk_below H11.out.2.2.2.2.1 hb12
      rw [hg8] at kx ⊢
      rw [hg10] at ky ⊢
      have x0 : w12.cell? ⟨g8, 0, none⟩ = some (.string sd) := kx.cell 0
      have x1 : w12.cell? ⟨g8, 1, none⟩ = some (.slice b8 tn d8) := kx.cell 1
      have x2 : w12.cell? ⟨g8, 2, none⟩ = some (.slice a8 xn c8) := kx.cell 2
      have y0 : w12.cell? ⟨g10, 0, none⟩ = some (.string sd) := ky.cell 0
      have y1 : w12.cell? ⟨g10, 1, none⟩ = some (.slice b10 tn d10) := ky.cell 1
      have y2 : w12.cell? ⟨g10, 2, none⟩ = some (.slice a10 xn c10) := ky.cell 2
      clear kx ky hb12 hg8 hg10
      go_wp2_with fail
      refine hsm.mono ?_
      clear hsm x0 x1 x2 y0 y1 y2
      rintro e w13 ⟨rfl, hb13⟩
      have H13 : Hid (Duo mx w _ _ w13 ma mb sf sf) := H12.out.below hb13
      clear hb13
      have ho1 := over_any _ ma sf w13 H13.out.a.at' HSF.out.1
      have ho2 := over_any _ mb sf w13 H13.out.b.at' HSF.out.1
      obtain ⟨ov, hov⟩ : ∃ b, (sf.takes == 3) = b := ⟨_, rfl⟩
      rw [hov] at ho1 ho2
      rw [hga] at ho1
      rw [hgb] at ho2
      go_wp2_with fail
      refine ho1.mono ?_
      rintro e w14 ⟨rfl, rfl⟩
      go_wp2_with fail
      refine ho2.mono ?_
      rintro e w15 ⟨rfl, rfl⟩
      clear ho1 ho2
      have ob : (ov == ov) = true := by simp
      go_wp2
      go_ret
      exact ⟨rfl, H13.out.bel⟩
    · have h2 : ¬ sf.takes = 2 := q2
      have hw1 := waits_not _ ma sf _ D.out.a.at' HSF.out.1 h2
      go_wp2_with fail
      rw [hga] at hw1
      refine hw1.mono ?_
      clear hw1
      rintro e w8 ⟨rfl, hb8⟩
      unfold noMail
      have D8 : Hid (Duo mx w _ _ w8 ma mb sf sf) := D.out.below hb8
      have D9 := D8.out.below (keep w8 (.cells #[.string ⟨#[]⟩, .slice none 0 0, .slice none 0 0] 48))
      have hw2 := waits_not _ mb sf _ D9.b.at' HSF.out.1 h2
      have k9 := World.alloc_heap_new w8 (.cells #[.string ⟨#[]⟩, .slice none 0 0, .slice none 0 0] 48)
      obtain ⟨w9, hw9⟩ : ∃ x, w8.alloc (.cells #[.string ⟨#[]⟩, .slice none 0 0, .slice none 0 0] 48) = x := ⟨_, rfl⟩
      rw [hw9] at D9 hw2 k9
      have H9 : Hid (Duo mx w _ _ w9 ma mb sf sf ∧ Blk w9 w8.heap.size #[.string ⟨#[]⟩, .slice none 0 0, .slice none 0 0] 48) := ⟨D9, k9⟩
      clear D9 k9 hb8
      have HW9 : Hid _ := hw9
      clear hw9
      go_wp2_with fail
      rw [HW9.out]
      rw [hgb] at hw2
      refine hw2.mono ?_
      clear hw2 HW9
      rintro e w10 ⟨rfl, hb10⟩
      unfold noMail
      have D11 := (H9.out.1.below hb10).below (keep w10 (.cells #[.string ⟨#[]⟩, .slice none 0 0, .slice none 0 0] 48))
      have b11 := hb10.trans ((keep w10 (.cells #[.string ⟨#[]⟩, .slice none 0 0, .slice none 0 0] 48)).mono hb10.size)
      have k11 := World.alloc_heap_new w10 (.cells #[.string ⟨#[]⟩, .slice none 0 0, .slice none 0 0] 48)
      obtain ⟨w11, hw11⟩ : ∃ x, w10.alloc (.cells #[.string ⟨#[]⟩, .slice none 0 0, .slice none 0 0] 48) = x := ⟨_, rfl⟩
      rw [hw11] at D11 k11 b11
      have H11 : Hid (Duo mx w _ _ w11 ma mb sf sf ∧ Blk w11 w8.heap.size #[.string ⟨#[]⟩, .slice none 0 0, .slice none 0 0] 48 ∧ Blk w11 w10.heap.size #[.string ⟨#[]⟩, .slice none 0 0, .slice none 0 0] 48) := ⟨D11, blk_below H9.out.2 b11, k11⟩
      clear D11 k11 b11 hb10
      have hal1 := hal w11 H11.out.1.bel
      have HW11 : Hid _ := hw11
      clear hw11
      go_wp2_with fail
      rw [HW11.out]
      refine hal1.mono ?_
      clear hal1 HW11
      rintro e w12 ⟨rfl, hb12⟩
      have H12 : Hid (Duo mx w _ _ w12 ma mb sf sf) := H11.out.1.below hb12
      have hsm := smail_any ⟨#[]⟩ none none none none 0 0 0 0 0 0 [] [] w12 rfl rfl (by decide) (.inl rfl) (.inl rfl) (.inl rfl) (.inl rfl)
      obtain ⟨g8, hg8⟩ : ∃ n, w8.heap.size = n := ⟨_, rfl⟩
      obtain ⟨g10, hg10⟩ : ∃ n, w10.heap.size = n := ⟨_, rfl⟩
      have kx := blk_below H11.out.2.1 hb12
      have ky := blk_below H11.out.2.2 hb12
      rw [hg8] at kx ⊢
      rw [hg10] at ky ⊢
      have x0 : w12.cell? ⟨g8, 0, none⟩ = some (.string ⟨#[]⟩) := kx.cell 0
      have x1 : w12.cell? ⟨g8, 1, none⟩ = some (.slice none 0 0) := kx.cell 1
      have x2 : w12.cell? ⟨g8, 2, none⟩ = some (.slice none 0 0) := kx.cell 2
      have y0 : w12.cell? ⟨g10, 0, none⟩ = some (.string ⟨#[]⟩) := ky.cell 0
      have y1 : w12.cell? ⟨g10, 1, none⟩ = some (.slice none 0 0) := ky.cell 1
      have y2 : w12.cell? ⟨g10, 2, none⟩ = some (.slice none 0 0) := ky.cell 2
      clear kx ky hb12 hg8 hg10
      go_wp2_with fail
      refine hsm.mono ?_
      clear hsm x0 x1 x2 y0 y1 y2
      rintro e w13 ⟨rfl, hb13⟩
      have H13 : Hid (Duo mx w _ _ w13 ma mb sf sf) := H12.out.below hb13
      clear hb13
      have ho1 := over_any _ ma sf w13 H13.out.a.at' HSF.out.1
      have ho2 := over_any _ mb sf w13 H13.out.b.at' HSF.out.1
      obtain ⟨ov, hov⟩ : ∃ b, (sf.takes == 3) = b := ⟨_, rfl⟩
      rw [hov] at ho1 ho2
      rw [hga] at ho1
      rw [hgb] at ho2
      go_wp2_with fail
      refine ho1.mono ?_
      rintro e w14 ⟨rfl, rfl⟩
      go_wp2_with fail
      refine ho2.mono ?_
      rintro e w15 ⟨rfl, rfl⟩
      clear ho1 ho2
      have ob : (ov == ov) = true := by simp
      go_wp2
      go_ret
      exact ⟨rfl, H13.out.bel⟩
end Go.Proofs.YtbckbonffajmeaaGreatDoor
