/-
  A byte of a command: the contract of add.
-/
import Derived.Test.YtbckbonffajmeaaGreatDoorSg
namespace Go.Proofs.YtbckbonffajmeaaGreatDoor
open Go.RowKit Go.Shelf Go.Maps
set_option linter.unusedVariables false
set_option linter.unusedSimpArgs false

theorem tx_none {N : Nat} {w : World} {m : Sm} {s : SS} (h : SvAt N w m s) (ht : s.text = none) : m.tx = none := by
  have := h.tx
  rw [ht] at this
  cases e : m.tx with
  | none => rfl
  | some p => obtain ⟨a, b⟩ := p; rw [e] at this; exact this.elim
def noLine (m : Sm) : Sm := { m with vl := .slice none 0 0 }
theorem sv_noLine {N : Nat} {w : World} {m : Sm} {s : SS} (h : SvAt N w m s) : SvAt N (w.setCell ⟨m.g, 8, none⟩ (.slice none 0 0)) (noLine m) { s with line := [] } ∧ Mv m (noLine m) w (w.setCell ⟨m.g, 8, none⟩ (.slice none 0 0)) :=
  h.set (m' := noLine m) (s' := { s with line := [] }) 8 (.slice none 0 0) ⟨h.tos, World.ownsRow_nil _ _ _ _, h.map, h.tx, fun _ => rfl, h.ok.host, h.ok.size0, h.ok.size1, h.ok.takes0, h.ok.takes1, h.ok.sender, h.ok.tos, h.ok.tosz, fun c hc => by simp at hc, Nat.zero_le _⟩ rfl rfl rfl (fun k q => by
    rcases q with q | q | q | q
    · exact .inl q
    · exact .inr (.inl q)
    · simp [noLine, Value.ownBlock] at q
    · exact .inr (.inr (.inr q)))
def putLine (m : Sm) (v : Value) : Sm := { m with vl := v }
/-- A byte more in the line. -/
theorem sv_addLine {N : Nat} {w w2 : World} {m : Sm} {s : SS} {v : Value} {c : Int} (h : SvAt N w m s) (ht : s.text = none) (hc0 : 32 ≤ c) (hc1 : c ≤ 126) (hl : s.line.length < 510) (hg : w.grownBy w2 m.vl.ownBlock) (ho : Own w2 0 v (s.line ++ [c])) (hat : v.ownBlock = m.vl.ownBlock ∨ v.ownBlock = some w.heap.size) :
    SvAt N (w2.setCell ⟨m.g, 8, none⟩ v) (putLine m v) { s with line := s.line ++ [c] } ∧ Mv m (putLine m v) w (w2.setCell ⟨m.g, 8, none⟩ v) := by
  have htx := tx_none h ht
  have keep : ∀ k cs t, Blk w k cs t → t ≠ 5 → w2.heap[k]? = w.heap[k]? := fun k cs t q hne => hg.block k q.lt (fun e => by
    obtain ⟨cs', q'⟩ := row_block h.line e.symm
    unfold Blk at q q'
    rw [q] at q'
    cases q'
    exact hne rfl)
  have hB : Blk w2 m.g (cellsS m s) 46 := (keep _ _ _ h.blk (by decide)).trans h.blk
  have hmp : w2.heap[m.ob]? = w.heap[m.ob]? := hg.block _ (by obtain ⟨_, _, q⟩ := h.map.block; exact (Array.getElem?_eq_some_iff.1 q).1) (fun e => by
    obtain ⟨cs', q'⟩ := row_block h.line e.symm
    obtain ⟨es, cl, q⟩ := h.map.block
    unfold Blk at q'
    rw [q] at q'
    cases q')
  have hR : SvR N w2 (putLine m v) { s with line := s.line ++ [c] } := ⟨row_keep h.tos (fun b hb => by obtain ⟨cs, q⟩ := row_block h.tos hb; exact keep b cs 9 q (by decide)), ho, h.map.keep hmp, by
    show TxAt N w2 m.tx s.text
    rw [htx, ht]; trivial, fun q => absurd htx q, h.ok.host, h.ok.size0, h.ok.size1, h.ok.takes0, h.ok.takes1, h.ok.sender, h.ok.tos, h.ok.tosz, fun x hx => by
      rcases List.mem_append.1 hx with hx | hx
      · exact h.ok.line x hx
      · simp at hx; subst hx; exact ⟨hc0, hc1⟩, by show (s.line ++ [c]).length ≤ 510; simp; omega⟩
  obtain ⟨h1, h2⟩ := sv_set (i := 8) (u := v) hB hR rfl rfl
  have hz := (Below.refl 0 w2).setCell (p := ⟨m.g, 8, none⟩) (Nat.zero_le _) v
  refine ⟨h1, ⟨⟨hz.os.trans hg.os, hz.tape.trans hg.tape, hz.output.trans hg.output, Nat.le_trans hg.size hz.size, fun b hb hO => ?_⟩, fun k q => ?_, rfl, rfl⟩⟩
  · rw [heap_setCell_other _ _ _ _ (by intro e; exact hO (.inl (by simpa using e)))]
    exact hg.block b hb (fun e => hO (.inr (.inr (.inl e.symm))))
  · rcases h2 k q with q | q | q | ⟨gr, Br, e, _⟩
    · exact .inl (.inl q)
    · exact .inl (.inr (.inl q))
    · rcases hat with e | e
      · exact .inl (.inr (.inr (.inl (e.symm.trans q))))
      · right
        have : (putLine m v).vl.ownBlock = some w.heap.size := e
        rw [this] at q
        simp at q; omega
    · have : m.tx = some (gr, Br) := e
      rw [htx] at this; cases this
def addS (s : SS) (c : Int) : SS :=
  if c < 32 ∨ 126 < c ∨ s.line.length = 510 then { s with bad := true, line := [] } else if s.bad = true then s else { s with line := s.line ++ [c] }
set_option maxHeartbeats 8000000 in
set_option maxRecDepth 100000 in
theorem add_any (N : Nat) (mx : Int) (m : Sm) (s : SS) (w : World) (c : Int) (h : SG N mx w m s) (ht : s.text = none) (h0 : 0 ≤ c) (h1 : c < 256) : Calls Tryz.prog 55 #[.pointer (some ⟨m.g, 0, none⟩), .int .u8 c] w fun e w' => (∃ v, e = .returned v) ∧ ∃ m', SvAt N w' m' (addS s c) ∧ Mv m m' w w' := by
  obtain ⟨j0, hi, hz0, hz1, hz2⟩ := info_parts Tryz.info5
  obtain ⟨c0, c1, c2, c3, c4, c5, c6, c7, c8, c9, c10, c11⟩ := sv_cells h.at'
  have f8 := h.at'.blk.frozen 8
  have f10 := h.at'.blk.frozen 10
  obtain ⟨va, vc, hvl⟩ : ∃ a c, m.vl = .slice a s.line.length c := by
    rcases h.at'.line.2 with ⟨e, e2⟩ | ⟨g, cap, cur, e, _⟩
    · exact ⟨none, 0, by rw [e, e2]⟩
    · exact ⟨_, _, e⟩
  obtain ⟨n, hn⟩ : ∃ n, s.line.length = n := ⟨_, rfl⟩
  have hn5 : n ≤ 510 := by rw [← hn]; exact h.at'.ok.len
  rw [hn] at hvl
  rw [hvl] at c8
  have HN : Hid (s.line.length = n) := hn
  have HVL : Hid (m.vl = .slice va n vc) := hvl
  have HS : Hid (SvAt N w m s) := h.at'
  by_cases hbad : c < 32 ∨ 126 < c ∨ n = 510
  · have HZ : Hid (addS s c = { s with bad := true, line := [] }) := by unfold Hid addS; rw [HN.out, if_pos hbad]
    obtain ⟨a1, a2⟩ := h.at'.put (s' := { s with bad := true }) 10 (.bool true) rfl rfl rfl rfl rfl ⟨h.at'.ok.host, h.at'.ok.size0, h.at'.ok.size1, h.at'.ok.takes0, h.at'.ok.takes1, h.at'.ok.sender, h.at'.ok.tos, h.at'.ok.tosz, h.at'.ok.line, h.at'.ok.len⟩
    obtain ⟨b1, b2⟩ := sv_noLine a1
    have HF : Hid (SvAt N ((w.setCell ⟨m.g, 10, none⟩ (.bool true)).setCell ⟨m.g, 8, none⟩ (.slice none 0 0)) (noLine m) { s with bad := true, line := [] } ∧ Mv m (noLine m) w ((w.setCell ⟨m.g, 10, none⟩ (.bool true)).setCell ⟨m.g, 8, none⟩ (.slice none 0 0))) := ⟨b1, a2.trans b2⟩
    clear h a1 a2 b1 b2 hn hvl
    by_cases q1 : c < 32
    · go_enter Tryz.func55, Tryz.ntmps55
      go_wp2
      go_end0
      exact ⟨⟨_, rfl⟩, _, by rw [HZ.out]; exact HF.out.1, HF.out.2⟩
    · by_cases q2 : 126 < c
      · go_enter Tryz.func55, Tryz.ntmps55
        go_wp2
        go_end0
        exact ⟨⟨_, rfl⟩, _, by rw [HZ.out]; exact HF.out.1, HF.out.2⟩
      · obtain rfl : n = 510 := by omega
        go_enter Tryz.func55, Tryz.ntmps55
        go_wp2
        go_end0
        exact ⟨⟨_, rfl⟩, _, by rw [HZ.out]; exact HF.out.1, HF.out.2⟩
  · have q1 : ¬ c < 32 := fun q => hbad (.inl q)
    have q2 : ¬ 126 < c := fun q => hbad (.inr (.inl q))
    have q3 : ((n : Int) == 510) = false := by rw [beq_eq_false_iff_ne]; intro e; exact hbad (.inr (.inr (by omega)))
    obtain ⟨bd, hbd⟩ : ∃ b, s.bad = b := ⟨_, rfl⟩
    rw [hbd] at c10
    cases bd with
    | true =>
      have HZ : Hid (addS s c = s) := by unfold Hid addS; rw [HN.out, if_neg hbad, if_pos hbd]
      clear h hn hvl
      go_enter Tryz.func55, Tryz.ntmps55
      go_wp2
      go_end0
      exact ⟨⟨_, rfl⟩, m, by rw [HZ.out]; exact HS.out, Mv.refl _ _⟩
    | false =>
      have HZ : Hid (addS s c = { s with line := s.line ++ [c] }) := by unfold Hid addS; rw [HN.out, if_neg hbad, if_neg (by rw [hbd]; decide)]
      obtain ⟨a1, a2⟩ := h.at'.below (keep w (.cells #[.int .u8 c] 5))
      have HO : Hid ((w.alloc (.cells #[.int .u8 c] 5)).ownsRow 0 5 1 (.slice va n vc) n (s.line.map (Value.int .u8))) := by
        have := a1.line
        unfold Own at this
        rw [HN.out, HVL.out] at this
        exact this
      have HA : Hid (SvAt N (w.alloc (.cells #[.int .u8 c] 5)) m s ∧ Mv m m w (w.alloc (.cells #[.int .u8 c] 5))) := ⟨a1, a2⟩
      obtain ⟨d0, d1, d2, d3, d4, d5, d6, d7, d8, d9, d10, d11⟩ := sv_cells a1
      have hnl : n < 510 := by omega
      clear h a1 a2 hn hvl
      go_enter Tryz.func55, Tryz.ntmps55
      go_wp2_with (at_builtin; refine wpList_append_own_at _ rfl (.tmp 33) (.tmp 35) 33 rfl 0 5 j0 (.int .u8 0) 1 1 Tryz.underlying33 hi hz0 hz1 hz2 rfl (by decide) (.slice va n vc) n _ rfl HO.out ⟨w.heap.size, 0, none⟩ 1 1 [.int .u8 c] rfl rfl (cells_new w [.int .u8 c] 5) (by intro u hu; simp at hu; subst hu; rfl) (by unfold maxLen; omega) (by omega) (Nat.zero_le _) ?_)
      intro v' w2 hown hgrow _ hat
      have HX : Hid (SvAt N (w2.setCell ⟨m.g, 8, none⟩ v') (putLine m v') { s with line := s.line ++ [c] } ∧ Mv m (putLine m v') (w.alloc (.cells #[.int .u8 c] 5)) (w2.setCell ⟨m.g, 8, none⟩ v')) :=
        sv_addLine HA.out.1 ht (by omega) (by omega) (by rw [HN.out]; exact hnl) (by rw [HVL.out]; exact hgrow) (by unfold Own; rw [List.length_append, HN.out, List.map_append]; exact hown) (by rw [HVL.out, World.size_alloc]; exact hat)
      have hgb := hgrow.block m.g HA.out.1.blk.lt (fun e => by
        have := row_block HA.out.1.line (b := m.g) (by rw [HVL.out]; exact e.symm)
        obtain ⟨cs, q⟩ := this
        have q' := HA.out.1.blk
        unfold Blk at q q'
        rw [q] at q'
        cases q')
      have g8 : w2.cell? ⟨m.g, 8, none⟩ = some (.slice va n vc) := by rw [World.cell?_of_block hgb, d8, HVL.out]
      have gf : w2.frozen? ⟨m.g, 8, none⟩ = false := frozen_of_row w2 _ _ _ _ (hgb.trans HA.out.1.blk)
      obtain ⟨va', vc', rfl⟩ : ∃ a c, v' = .slice a (n + 1) c := by
        rcases hown.2 with ⟨e, e2⟩ | ⟨g, cap, cur, e, _⟩
        · omega
        · exact ⟨_, _, e⟩
      clear hown hgrow hat hgb
      go_wp2
      go_end0
      exact ⟨⟨_, rfl⟩, _, by rw [HZ.out]; exact HX.out.1, HA.out.2.trans HX.out.2⟩
end Go.Proofs.YtbckbonffajmeaaGreatDoor
