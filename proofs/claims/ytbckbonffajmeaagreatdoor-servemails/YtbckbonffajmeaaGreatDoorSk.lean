/-
  Commands: the contract of goTo.
-/
import Derived.Test.YtbckbonffajmeaaGreatDoorSj
namespace Go.Proofs.YtbckbonffajmeaaGreatDoor
open Go.RowKit Go.Shelf Go.Maps
set_option linter.unusedVariables false
set_option linter.unusedSimpArgs false

def putTo (m : Sm) (v : Value) : Sm := { m with vt := v }
/-- A person more among the recipients. -/
theorem sv_addTo {N : Nat} {w w2 : World} {m : Sm} {s : SS} {v : Value} {c : ByteArray} (h : SvAt N w m s) (ht : s.text = none) (hc1 : c.size ≤ 2000) (hl : s.tos.length < 16) (hg : w.grownBy w2 m.vt.ownBlock) (ho : w2.ownsRow 0 9 1 v (s.tos.length + 1) (s.tos.map Value.string ++ [.string c])) (hat : v.ownBlock = m.vt.ownBlock ∨ v.ownBlock = some w.heap.size) :
    SvAt N (w2.setCell ⟨m.g, 7, none⟩ v) (putTo m v) { s with tos := s.tos ++ [c] } ∧ Mv m (putTo m v) w (w2.setCell ⟨m.g, 7, none⟩ v) := by
  have htx := tx_none h ht
  have keep : ∀ k cs t, Blk w k cs t → t ≠ 9 → w2.heap[k]? = w.heap[k]? := fun k cs t q hne => hg.block k q.lt (fun e => by
    obtain ⟨cs', q'⟩ := row_block h.tos e.symm
    unfold Blk at q q'
    rw [q] at q'
    cases q'
    exact hne rfl)
  have hB : Blk w2 m.g (cellsS m s) 46 := (keep _ _ _ h.blk (by decide)).trans h.blk
  have hmp : w2.heap[m.ob]? = w.heap[m.ob]? := hg.block _ (by obtain ⟨_, _, q⟩ := h.map.block; exact (Array.getElem?_eq_some_iff.1 q).1) (fun e => by
    obtain ⟨cs', q'⟩ := row_block h.tos e.symm
    obtain ⟨es, cl, q⟩ := h.map.block
    unfold Blk at q'
    rw [q] at q'
    cases q')
  have hR : SvR N w2 (putTo m v) { s with tos := s.tos ++ [c] } := ⟨by
      show w2.ownsRow 0 9 1 v (s.tos ++ [c]).length ((s.tos ++ [c]).map Value.string)
      rw [List.length_append, List.map_append]; exact ho, row_keep h.line (fun b hb => by obtain ⟨cs, q⟩ := row_block h.line hb; exact keep b cs 5 q (by decide)), h.map.keep hmp, by
    show TxAt N w2 m.tx s.text
    rw [htx, ht]; trivial, fun q => absurd htx q, h.ok.host, h.ok.size0, h.ok.size1, h.ok.takes0, h.ok.takes1, h.ok.sender, by show (s.tos ++ [c]).length ≤ 16; simp; omega, fun x hx => by
      rcases List.mem_append.1 hx with hx | hx
      · exact h.ok.tosz x hx
      · simp at hx; subst hx; exact hc1, h.ok.line, h.ok.len⟩
  obtain ⟨h1, h2⟩ := sv_set (i := 7) (u := v) hB hR rfl rfl
  have hz := (Below.refl 0 w2).setCell (p := ⟨m.g, 7, none⟩) (Nat.zero_le _) v
  refine ⟨h1, ⟨⟨hz.os.trans hg.os, hz.tape.trans hg.tape, hz.output.trans hg.output, Nat.le_trans hg.size hz.size, fun b hb hO => ?_⟩, fun k q => ?_, rfl, rfl⟩⟩
  · rw [heap_setCell_other _ _ _ _ (by intro e; exact hO (.inl (by simpa using e)))]
    exact hg.block b hb (fun e => hO (.inr (.inl e.symm)))
  · rcases h2 k q with q | q | q | ⟨gr, Br, e, _⟩
    · exact .inl (.inl q)
    · rcases hat with e | e
      · exact .inl (.inr (.inl (e.symm.trans q)))
      · right
        have : (putTo m v).vt.ownBlock = some w.heap.size := e
        rw [this] at q
        simp at q; omega
    · exact .inl (.inr (.inr (.inl q)))
    · have : m.tx = some (gr, Br) := e
      rw [htx] at this; cases this
def toN : ByteArray := ⟨#[84, 79, 58]⟩
/-- RCPT. -/
def gotoZ (s : SS) (rest : ByteArray) : SS × Int :=
  if s.hasS = false then (s, 503)
  else if (pathZ rest toN).2.2 = false ∨ (perZ (nums (pathZ rest toN).1)).isSome = false ∨ (pathZ rest toN).2.1.size ≠ 0 then (s, 501)
  else if s.owners.contains (nums (perB (pathZ rest toN).1)) = false then (s, 550)
  else if Lib.containsS s.tos (perB (pathZ rest toN).1) = true then (s, 250)
  else if s.tos.length = 16 then (s, 452)
  else ({ s with tos := s.tos ++ [perB (pathZ rest toN).1] }, 250)
/-- Contains of a row of one's own. -/
theorem cont_own {w : World} {v : Value} {zs : List ByteArray} (h : w.ownsRow 0 9 1 v zs.length (zs.map Value.string)) (hz : zs.length ≤ 100) (x : ByteArray) : Calls Tryz.prog 124 #[v, .string x] w fun e w' => e = .returned (.bool (Lib.containsS zs x)) ∧ w' = w := by
  rcases h.2 with ⟨rfl, e⟩ | ⟨g, cap, cur, rfl, h2, h3, h4⟩
  · have e0 : zs = [] := List.eq_nil_of_length_eq_zero e
    subst e0
    exact slices_Contains_string_empty _ _ x w
  · have := slices_Contains_string g 0 zs.length cap zs x w (Nat.le_refl _) (by omega) (fun j hj => by
      rw [cell_of_row w _ _ _ _ _ h3, Nat.zero_add]
      have e := h4.2.2.2
      have e2 : (zs.map Value.string)[j]? = cur[j]? := by
        rw [← e, List.getElem?_take_of_lt (by omega), Array.getElem?_toList]
      rw [← e2, List.getElem?_map, List.getElem?_eq_getElem hj, List.getD_eq_getElem?_getD, List.getElem?_eq_getElem hj]
      rfl)
    rw [List.take_length] at this
    exact this
theorem info9 : (Tryz.prog.info? 9).map (fun i => (i.zero, i.size, i.bytes)) = some (some (.string ⟨#[]⟩), 1, 16) := by kernel_rfl
set_option maxHeartbeats 16000000 in
set_option maxRecDepth 100000 in
theorem goto_any (N : Nat) (mx : Int) (m : Sm) (s : SS) (w : World) (rest : ByteArray) (h : SG N mx w m s) (ht : s.text = none) (ha : Asc rest) (hr : rest.size ≤ 1000) :
    Calls Tryz.prog 98 #[.pointer (some ⟨m.g, 0, none⟩), .string rest] w fun e w' => e = .returned (.int .i64 (gotoZ s rest).2) ∧ ∃ m', SvAt N w' m' (gotoZ s rest).1 ∧ Mv m m' w w' := by
  obtain ⟨j0, hi, hz0, hz1, hz2⟩ := info_parts info9
  obtain ⟨c0, c1, c2, c3, c4, c5, c6, c7, c8, c9, c10, c11⟩ := sv_cells h.at'
  have HS : Hid (SvAt N w m s) := h.at'
  obtain ⟨hs, hhs⟩ : ∃ b, s.hasS = b := ⟨_, rfl⟩
  rw [hhs] at c5
  cases hs with
  | false =>
    have HZ : Hid (gotoZ s rest = (s, 503)) := by unfold Hid gotoZ; rw [hhs, if_pos rfl]
    clear h c0 c1 c2 c3 c4 c6 c7 c8 c9 c10 c11
    go_enter Tryz.func98, Tryz.ntmps98
    go_wp2
    go_ret
    exact ⟨by rw [HZ.out]; rfl, m, by rw [HZ.out]; exact HS.out, Mv.refl _ _⟩
  | true =>
  have HF : Hid (gotoZ s rest = if (pathZ rest toN).2.2 = false ∨ (perZ (nums (pathZ rest toN).1)).isSome = false ∨ (pathZ rest toN).2.1.size ≠ 0 then (s, 501)
      else if s.owners.contains (nums (perB (pathZ rest toN).1)) = false then (s, 550)
      else if Lib.containsS s.tos (perB (pathZ rest toN).1) = true then (s, 250)
      else if s.tos.length = 16 then (s, 452)
      else ({ s with tos := s.tos ++ [perB (pathZ rest toN).1] }, 250)) := by
    unfold Hid gotoZ; rw [hhs, if_neg (by decide)]
  have HG : Hid (SG N mx w m s) := h
  have hpa := path_any rest toN mx w (by omega) (by decide) ha (Asc.mem.2 (by decide)) h.gl.len
  obtain ⟨k1, k2, k3, k4⟩ := path_sub rest toN ha
  obtain ⟨pp, hpp⟩ : ∃ p, pathZ rest toN = p := ⟨_, rfl⟩
  obtain ⟨path, behind, found⟩ := pp
  rw [hpp] at hpa HF k1 k2 k3 k4
  simp only at hpa HF k1 k2 k3 k4
  have hper := fun V => person_any path V (by omega)
  have hpz := perB_size path
  clear h hpp hhs
  go_enter Tryz.func98, Tryz.ntmps98
  go_wp2_with fail
  refine hpa.mono ?_
  rintro e w1 ⟨rfl, q1, rfl⟩
  clear hpa
  go_wp2_with fail
  refine (hper _).mono ?_
  rintro e w3 ⟨x, ok, rfl, hb2, hans⟩
  obtain ⟨rfl, rfl⟩ := per_ans hans
  clear hper hans
  have hb3 : Below w.heap.size w w3 := (below_drewN (Below.refl w.heap.size w) q1).trans hb2
  obtain ⟨g3, v3⟩ := HG.out.below hb3
  obtain ⟨po, hpo⟩ : ∃ b, (perZ (nums path)).isSome = b := ⟨_, rfl⟩
  rw [hpo] at HF ⊢
  obtain ⟨px, hpx⟩ : ∃ b, perB path = b := ⟨_, rfl⟩
  rw [hpx] at HF hpz ⊢
  have HG3 : Hid (SG N mx w3 m s ∧ Mv m m w w3) := ⟨g3, v3⟩
  obtain ⟨d0, d1, d2, d3, d4, d5, d6, d7, d8, d9, d10, d11⟩ := sv_cells g3.at'
  have f7 := g3.at'.blk.frozen 7
  obtain ⟨k, D, hO, hSeen⟩ := g3.at'.map
  have HO : Hid (w3.ownsMap Tryz.prog 9 (plainElem (H := Unit) Tryz.prog 3) m.ob k D) := hO
  have HHas : Hid (Maps.has D (keyZ px) = s.owners.contains (nums px)) := hSeen px
  have hkey : keyOf Tryz.prog 9 (.string px) = some (keyZ px) := Go.WideMaps.keyOf_string_mk Tryz.underlying9 (by unfold maxLen; omega)
  have hcon := cont_own g3.at'.tos (by have := g3.at'.ok.tos; omega) px
  obtain ⟨va, vc, hvt⟩ : ∃ a c, m.vt = .slice a s.tos.length c := by
    rcases g3.at'.tos.2 with ⟨e, e2⟩ | ⟨g, cap, cur, e, _⟩
    · exact ⟨none, 0, by rw [e, e2]⟩
    · exact ⟨_, _, e⟩
  obtain ⟨n, hn⟩ : ∃ n, s.tos.length = n := ⟨_, rfl⟩
  have hn16 : n ≤ 16 := by rw [← hn]; exact g3.at'.ok.tos
  have HN : Hid (s.tos.length = n) := hn
  rw [hn] at hvt
  have HVT : Hid (m.vt = .slice va n vc) := hvt
  rw [hvt] at d7 hcon
  clear g3 v3 hb2 hb3 hO hSeen hn hvt d0 d2 d3 d4 d5 d6 d8 d9 d10 d11 c0 c1 c2 c3 c4 c5 c6 c7 c8 c9 c10 c11
  obtain ⟨own, hown⟩ : ∃ b, s.owners.contains (nums px) = b := ⟨_, rfl⟩
  cases found with
  | false =>
    have HE : Hid (gotoZ s rest = (s, 501)) := by unfold Hid; rw [HF.out, if_pos (.inl rfl)]
    go_wp2_with (at_lookup; refine wpList_lookup_own_ok_int _ rfl _ _ 43 rfl 9 3 .i64 law9 Tryz.underlying43 Tryz.underlying3 (zero3 _) m.ob k D rfl HO.out _ _ rfl hkey ?_; intro cc hat hwc; rw [HHas.out, hown])
    go_ret
    exact ⟨by rw [HE.out]; rfl, m, by rw [HE.out]; exact HG3.out.1.at', HG3.out.2⟩
  | true =>
  cases po with
  | false =>
    have HE : Hid (gotoZ s rest = (s, 501)) := by unfold Hid; rw [HF.out, if_pos (.inr (.inl rfl))]
    go_wp2_with (at_lookup; refine wpList_lookup_own_ok_int _ rfl _ _ 43 rfl 9 3 .i64 law9 Tryz.underlying43 Tryz.underlying3 (zero3 _) m.ob k D rfl HO.out _ _ rfl hkey ?_; intro cc hat hwc; rw [HHas.out, hown])
    go_ret
    exact ⟨by rw [HE.out]; rfl, m, by rw [HE.out]; exact HG3.out.1.at', HG3.out.2⟩
  | true =>
  by_cases hb0 : behind.size = 0
  rotate_left
  · have HE : Hid (gotoZ s rest = (s, 501)) := by unfold Hid; rw [HF.out, if_pos (.inr (.inr hb0))]
    have he : behind.toList.isEmpty = false := by rw [toList_emp]; simp [hb0]
    go_wp2_with (at_lookup; refine wpList_lookup_own_ok_int _ rfl _ _ 43 rfl 9 3 .i64 law9 Tryz.underlying43 Tryz.underlying3 (zero3 _) m.ob k D rfl HO.out _ _ rfl hkey ?_; intro cc hat hwc; rw [HHas.out, hown])
    go_ret
    exact ⟨by rw [HE.out]; rfl, m, by rw [HE.out]; exact HG3.out.1.at', HG3.out.2⟩
  have hbe : behind = ⟨#[]⟩ := nums_inj (List.eq_nil_of_length_eq_zero (by rw [nums_len]; exact hb0))
  subst hbe
  have HF2 : Hid (gotoZ s rest = if own = false then (s, 550)
      else if Lib.containsS s.tos px = true then (s, 250)
      else if s.tos.length = 16 then (s, 452)
      else ({ s with tos := s.tos ++ [px] }, 250)) := by
    unfold Hid
    rw [HF.out, hown, if_neg]
    intro q
    rcases q with q | q | q
    · cases q
    · cases q
    · exact q rfl
  clear HF
  cases own with
  | false =>
    have HE : Hid (gotoZ s rest = (s, 550)) := by unfold Hid; rw [HF2.out, if_pos rfl]
    go_wp2_with (at_lookup; refine wpList_lookup_own_ok_int _ rfl _ _ 43 rfl 9 3 .i64 law9 Tryz.underlying43 Tryz.underlying3 (zero3 _) m.ob k D rfl HO.out _ _ rfl hkey ?_; intro cc hat hwc; rw [HHas.out, hown])
    go_ret
    exact ⟨by rw [HE.out]; rfl, m, by rw [HE.out]; exact HG3.out.1.at', HG3.out.2⟩
  | true =>
  obtain ⟨has, hhas⟩ : ∃ b, Lib.containsS s.tos px = b := ⟨_, rfl⟩
  rw [hhas] at hcon
  go_wp2_with (at_lookup; refine wpList_lookup_own_ok_int _ rfl _ _ 43 rfl 9 3 .i64 law9 Tryz.underlying43 Tryz.underlying3 (zero3 _) m.ob k D rfl HO.out _ _ rfl hkey ?_; intro cc hat hwc; rw [HHas.out, hown])
  all_goals try (go_wp2_with fail)
  refine hcon.mono ?_
  rintro e w4 ⟨rfl, rfl⟩
  clear hcon
  cases has with
  | true =>
    have HE : Hid (gotoZ s rest = (s, 250)) := by unfold Hid; rw [HF2.out, if_neg (by decide), if_pos hhas]
    go_wp2
    go_ret
    exact ⟨by rw [HE.out]; rfl, m, by rw [HE.out]; exact HG3.out.1.at', HG3.out.2⟩
  | false =>
  by_cases p16 : n = 16
  · have HE : Hid (gotoZ s rest = (s, 452)) := by unfold Hid; rw [HF2.out, if_neg (by decide), if_neg (by rw [hhas]; decide), if_pos (by rw [HN.out]; exact p16)]
    subst p16
    go_wp2
    go_ret
    exact ⟨by rw [HE.out]; rfl, m, by rw [HE.out]; exact HG3.out.1.at', HG3.out.2⟩
  have HE : Hid (gotoZ s rest = ({ s with tos := s.tos ++ [px] }, 250)) := by unfold Hid; rw [HF2.out, if_neg (by decide), if_neg (by rw [hhas]; decide), if_neg (by rw [HN.out]; exact p16)]
  have q3 : ((n : Int) == 16) = false := by rw [beq_eq_false_iff_ne]; omega
  obtain ⟨a1, a2⟩ := HG3.out.1.at'.below (keep w4 (.cells #[.string px] 9))
  have HO : Hid ((w4.alloc (.cells #[.string px] 9)).ownsRow 0 9 1 (.slice va n vc) n (s.tos.map Value.string)) := by
    have := a1.tos
    rw [HN.out, HVT.out] at this
    exact this
  have HA : Hid (SvAt N (w4.alloc (.cells #[.string px] 9)) m s ∧ Mv m m w4 (w4.alloc (.cells #[.string px] 9))) := ⟨a1, a2⟩
  obtain ⟨e0, e1, e2, e3, e4, e5, e6, e7, e8, e9, e10, e11⟩ := sv_cells a1
  clear a1 a2 e0 e1 e2 e3 e4 e5 e6 e8 e9 e10 e11
  go_wp2_with (at_builtin; refine wpList_append_own_at _ rfl (.tmp 65) (.tmp 67) 22 rfl 0 9 j0 (.string ⟨#[]⟩) 1 16 Tryz.underlying22 hi hz0 hz1 hz2 rfl (by decide) (.slice va n vc) n _ rfl HO.out ⟨w4.heap.size, 0, none⟩ 1 1 [.string px] rfl rfl (cells_new w4 [.string px] 9) (by intro u hu; simp at hu; subst hu; rfl) (by unfold maxLen; omega) (by omega) (Nat.zero_le _) ?_)
  intro v' w5 hown' hgrow _ hat'
  have HX : Hid (SvAt N (w5.setCell ⟨m.g, 7, none⟩ v') (putTo m v') { s with tos := s.tos ++ [px] } ∧ Mv m (putTo m v') (w4.alloc (.cells #[.string px] 9)) (w5.setCell ⟨m.g, 7, none⟩ v')) :=
    sv_addTo HA.out.1 ht (by omega) (by rw [HN.out]; omega) (by rw [HVT.out]; exact hgrow) (by rw [HN.out]; exact hown') (by rw [HVT.out, World.size_alloc]; exact hat')
  have hgb := hgrow.block m.g HA.out.1.blk.lt (fun e => by
    have := row_block HA.out.1.tos (b := m.g) (by rw [HVT.out]; exact e.symm)
    obtain ⟨cs, q⟩ := this
    have q' := HA.out.1.blk
    unfold Blk at q q'
    rw [q] at q'
    cases q')
  have g7 : w5.cell? ⟨m.g, 7, none⟩ = some (.slice va n vc) := by rw [World.cell?_of_block hgb, e7, HVT.out]
  have gf : w5.frozen? ⟨m.g, 7, none⟩ = false := frozen_of_row w5 _ _ _ _ (hgb.trans HA.out.1.blk)
  obtain ⟨va', vc', rfl⟩ : ∃ a c, v' = .slice a (n + 1) c := by
    rcases hown'.2 with ⟨e, e2⟩ | ⟨g, cap, cur, e, _⟩
    · omega
    · exact ⟨_, _, e⟩
  clear hown' hgrow hat' hgb
  go_wp2
  go_ret
  exact ⟨by rw [HE.out]; rfl, _, by rw [HE.out]; exact HX.out.1, HG3.out.2.trans (HA.out.2.trans HX.out.2)⟩
end Go.Proofs.YtbckbonffajmeaaGreatDoor
