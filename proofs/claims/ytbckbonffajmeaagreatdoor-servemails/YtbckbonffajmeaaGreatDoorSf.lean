/-
  A session's rows and its reader put down, and put in; the contracts of reset and leaveText.
-/
import Derived.Test.YtbckbonffajmeaaGreatDoorSa
namespace Go.Proofs.YtbckbonffajmeaaGreatDoor
open Go.RowKit Go.Shelf Go.Maps
set_option linter.unusedVariables false
set_option linter.unusedSimpArgs false

/-- All of a session but its block. -/
structure SvR (N : Nat) (w : World) (m : Sm) (s : SS) : Prop where
  tos : w.ownsRow 0 9 1 m.vt s.tos.length (s.tos.map Value.string)
  line : Own w 0 m.vl s.line
  map : MpAt w m.ob s.owners
  tx : TxAt N w m.tx s.text
  nol : m.tx ≠ none → m.vl = .slice none 0 0
  ok : SOk s
theorem SvAt.rest {N : Nat} {w : World} {m : Sm} {s : SS} (h : SvAt N w m s) : SvR N w m s := ⟨h.tos, h.line, h.map, h.tx, h.nol, h.ok⟩
theorem sv_set {N : Nat} {w : World} {g i : Nat} {C : Array Value} {u : Value} {m : Sm} {s : SS} (hB : Blk w g C 46) (h : SvR N w m s) (hg : m.g = g) (hc : C.setIfInBounds i u = cellsS m s) :
    SvAt N (w.setCell ⟨g, i, none⟩ u) m s ∧ ∀ k, sO m (w.setCell ⟨g, i, none⟩ u) k → sO m w k := by
  have hz := (Below.refl 0 w).setCell (p := ⟨g, i, none⟩) (Nat.zero_le _) u
  have oth : ∀ k, k ≠ g → (w.setCell ⟨g, i, none⟩ u).heap[k]? = w.heap[k]? := fun k hk => heap_setCell_other _ _ _ _ (by simpa using hk)
  have ne : ∀ k cs t, Blk w k cs t → t ≠ 46 → k ≠ g := fun k cs t q ht e => by
    subst e
    unfold Blk at q hB
    rw [q] at hB
    cases hB
    exact ht rfl
  have key : ∀ gr Br, m.tx = some (gr, Br) → ∀ rs, Dt.Rd w Br gr rs → gr ≠ g ∧ ∀ k, Dt.okK (w.setCell ⟨g, i, none⟩ u) gr k → Dt.okK w gr k := fun gr Br e rs hr => by
    obtain ⟨_, _, v, q, _⟩ := hr
    have hn := ne gr _ _ q (by decide)
    refine ⟨hn, fun k q => ?_⟩
    obtain ⟨v, q1, q2⟩ := q
    rw [World.cell?_of_block (oth gr hn)] at q1
    exact ⟨v, q1, q2⟩
  have hob : m.ob ≠ g := fun e => by
    obtain ⟨es, c, q⟩ := h.map.block
    rw [e, show w.heap[g]? = _ from hB] at q
    cases q
  refine ⟨⟨?_, row_keep h.tos (fun b hb => oth b (by obtain ⟨cs, q⟩ := row_block h.tos hb; exact ne b cs 9 q (by decide))), row_keep h.line (fun b hb => oth b (by obtain ⟨cs, q⟩ := row_block h.line hb; exact ne b cs 5 q (by decide))), h.map.keep (oth _ hob), ?_, h.nol, h.ok⟩, ?_⟩
  · have := heap_setCell_same w g i _ 46 u hB
    rw [hc] at this
    rw [hg]; exact this
  · have ht := h.tx
    cases e : m.tx with
    | none => rw [e] at ht; cases e2 : s.text with
      | none => trivial
      | some rs => rw [e2] at ht; exact ht.elim
    | some p =>
      obtain ⟨gr, Br⟩ := p
      rw [e] at ht
      cases e2 : s.text with
      | none => rw [e2] at ht; exact ht.elim
      | some rs =>
        rw [e2] at ht
        obtain ⟨hr, h5⟩ := ht
        have hk := key gr Br e rs hr
        obtain ⟨r1, r2, v, r3, r4⟩ := hr
        exact ⟨⟨r1, Nat.le_trans r2 hz.size, v, (oth gr hk.1).trans r3, row_keep r4 (fun b hb => oth b (by obtain ⟨cs, q⟩ := row_block r4 hb; exact ne b cs 5 q (by decide)))⟩, h5⟩
  · intro k q
    rcases q with q | q | q | ⟨gr, Br, e, q | q⟩
    · exact .inl q
    · exact .inr (.inl q)
    · exact .inr (.inr (.inl q))
    · exact .inr (.inr (.inr ⟨gr, Br, e, .inl q⟩))
    · refine .inr (.inr (.inr ⟨gr, Br, e, .inr ?_⟩))
      have ht := h.tx
      rw [e] at ht
      cases e2 : s.text with
      | none => rw [e2] at ht; exact ht.elim
      | some rs => rw [e2] at ht; exact (key gr Br e rs ht.1).2 k q
/-- A cell of a session's block is set, and with it what it holds. -/
theorem SvAt.set {N : Nat} {w : World} {m m' : Sm} {s s' : SS} (h : SvAt N w m s) (i : Nat) (u : Value) (h' : SvR N w m' s') (hg : m'.g = m.g) (hob : m'.ob = m.ob) (hc : (cellsS m s).setIfInBounds i u = cellsS m' s') (hsub : ∀ k, sO m' w k → sO m w k) :
    SvAt N (w.setCell ⟨m.g, i, none⟩ u) m' s' ∧ Mv m m' w (w.setCell ⟨m.g, i, none⟩ u) := by
  obtain ⟨h1, h2⟩ := sv_set h.blk h' hg hc
  exact ⟨h1, Tk.set w m.g i u (.inl rfl), fun k q => .inl (hsub k (h2 k q)), hg, hob⟩
theorem SOk.noS {s : SS} (h : SOk s) : SOk { s with hasS := false, sender := ⟨#[]⟩, tos := [] } :=
  ⟨h.host, h.size0, h.size1, h.takes0, h.takes1, (by decide : (⟨#[]⟩ : ByteArray).size ≤ 2000), Nat.zero_le _, fun t ht => by simp at ht, h.line, h.len⟩
def resetZ (s : SS) : SS := { s with hasS := false, sender := ⟨#[]⟩, tos := [] }
def noTos (m : Sm) : Sm := { m with vt := .slice none 0 0 }
def rstW (m : Sm) (w : World) : World := ((w.setCell ⟨m.g, 5, none⟩ (.bool false)).setCell ⟨m.g, 6, none⟩ (.string ⟨#[]⟩)).setCell ⟨m.g, 7, none⟩ (.slice none 0 0)
theorem sv_reset {N : Nat} {w : World} {m : Sm} {s : SS} (h : SvAt N w m s) : SvAt N (rstW m w) (noTos m) (resetZ s) ∧ Mv m (noTos m) w (rstW m w) := by
  obtain ⟨a1, a2⟩ := h.put (s' := { s with hasS := false }) 5 (.bool false) rfl rfl rfl rfl rfl ⟨h.ok.host, h.ok.size0, h.ok.size1, h.ok.takes0, h.ok.takes1, h.ok.sender, h.ok.tos, h.ok.tosz, h.ok.line, h.ok.len⟩
  obtain ⟨b1, b2⟩ := a1.put (s' := { s with hasS := false, sender := ⟨#[]⟩ }) 6 (.string ⟨#[]⟩) rfl rfl rfl rfl rfl ⟨h.ok.host, h.ok.size0, h.ok.size1, h.ok.takes0, h.ok.takes1, (by decide : (⟨#[]⟩ : ByteArray).size ≤ 2000), h.ok.tos, h.ok.tosz, h.ok.line, h.ok.len⟩
  obtain ⟨c1, c2⟩ := b1.set (m' := noTos m) (s' := resetZ s) 7 (.slice none 0 0) ⟨World.ownsRow_nil _ _ _ _, b1.line, b1.map, b1.tx, b1.nol, h.ok.noS⟩ rfl rfl rfl (fun k q => by
    rcases q with q | q | q | q
    · exact .inl q
    · simp [noTos, Value.ownBlock] at q
    · exact .inr (.inr (.inl q))
    · exact .inr (.inr (.inr q)))
  exact ⟨c1, (a2.trans b2).trans c2⟩
theorem sv_cells {N : Nat} {w : World} {m : Sm} {s : SS} (h : SvAt N w m s) :
    w.cell? ⟨m.g, 0, none⟩ = some (.string s.host) ∧ w.cell? ⟨m.g, 1, none⟩ = some (.map (some m.ob)) ∧ w.cell? ⟨m.g, 2, none⟩ = some (.int .i64 s.size) ∧ w.cell? ⟨m.g, 3, none⟩ = some (.int .i64 s.takes) ∧ w.cell? ⟨m.g, 4, none⟩ = some (.bool s.greeted) ∧ w.cell? ⟨m.g, 5, none⟩ = some (.bool s.hasS) ∧
    w.cell? ⟨m.g, 6, none⟩ = some (.string s.sender) ∧ w.cell? ⟨m.g, 7, none⟩ = some m.vt ∧ w.cell? ⟨m.g, 8, none⟩ = some m.vl ∧ w.cell? ⟨m.g, 9, none⟩ = some (.bool s.half) ∧ w.cell? ⟨m.g, 10, none⟩ = some (.bool s.bad) ∧ w.cell? ⟨m.g, 11, none⟩ = some (txV m.tx) := by
  refine ⟨?_, ?_, ?_, ?_, ?_, ?_, ?_, ?_, ?_, ?_, ?_, ?_⟩ <;> (rw [h.blk.cell]; rfl)
set_option maxHeartbeats 4000000 in
set_option maxRecDepth 100000 in
theorem reset_any (N : Nat) (m : Sm) (s : SS) (w : World) (h : SvAt N w m s) : Calls Tryz.prog 65 #[.pointer (some ⟨m.g, 0, none⟩)] w fun e w' => (∃ v, e = .returned v) ∧ SvAt N w' (noTos m) (resetZ s) ∧ Mv m (noTos m) w w' := by
  obtain ⟨c0, c1, c2, c3, c4, c5, c6, c7, c8, c9, c10, c11⟩ := sv_cells h
  have f5 := h.blk.frozen 5
  have f6 := h.blk.frozen 6
  have f7 := h.blk.frozen 7
  have HX : Hid (SvAt N (rstW m w) (noTos m) (resetZ s) ∧ Mv m (noTos m) w (rstW m w)) := sv_reset h
  clear h
  go_enter Tryz.func65, Tryz.ntmps65
  go_wp2
  go_end0
  exact ⟨⟨_, rfl⟩, HX.out.1, HX.out.2⟩
def leaveZ (s : SS) : SS := resetZ { s with takes := 0, text := none }
def noTx (m : Sm) : Sm := { m with tx := none }
theorem sv_noText {N : Nat} {w : World} {m : Sm} {s : SS} (h : SvAt N w m s) : SvAt N ((w.setCell ⟨m.g, 3, none⟩ (.int .i64 0)).setCell ⟨m.g, 11, none⟩ (.pointer none)) (noTx m) { s with takes := 0, text := none } ∧ Mv m (noTx m) w ((w.setCell ⟨m.g, 3, none⟩ (.int .i64 0)).setCell ⟨m.g, 11, none⟩ (.pointer none)) := by
  obtain ⟨a1, a2⟩ := h.put (s' := { s with takes := 0 }) 3 (.int .i64 0) rfl rfl rfl rfl rfl ⟨h.ok.host, h.ok.size0, h.ok.size1, (by decide : (0 : Int) ≤ 0), (by decide : (0 : Int) ≤ 3), h.ok.sender, h.ok.tos, h.ok.tosz, h.ok.line, h.ok.len⟩
  obtain ⟨c1, c2⟩ := a1.set (m' := noTx m) (s' := { s with takes := 0, text := none }) 11 (.pointer none) ⟨a1.tos, a1.line, a1.map, trivial, fun q => absurd rfl q, a1.ok.host, a1.ok.size0, a1.ok.size1, a1.ok.takes0, a1.ok.takes1, a1.ok.sender, a1.ok.tos, a1.ok.tosz, a1.ok.line, a1.ok.len⟩ rfl rfl rfl (fun k q => by
    rcases q with q | q | q | ⟨gr, Br, e, _⟩
    · exact .inl q
    · exact .inr (.inl q)
    · exact .inr (.inr (.inl q))
    · cases e)
  exact ⟨c1, a2.trans c2⟩
set_option maxHeartbeats 4000000 in
set_option maxRecDepth 100000 in
theorem leaveText_any (N : Nat) (m : Sm) (s : SS) (w : World) (h : SvAt N w m s) : Calls Tryz.prog 38 #[.pointer (some ⟨m.g, 0, none⟩)] w fun e w' => (∃ v, e = .returned v) ∧ SvAt N w' (noTos (noTx m)) (leaveZ s) ∧ Mv m (noTos (noTx m)) w w' := by
  obtain ⟨c0, c1, c2, c3, c4, c5, c6, c7, c8, c9, c10, c11⟩ := sv_cells h
  have f3 := h.blk.frozen 3
  have f11 := h.blk.frozen 11
  obtain ⟨h1, h2⟩ := sv_noText h
  have hre := reset_any N (noTx m) _ _ h1
  have HM : Hid (Mv m (noTx m) w ((w.setCell ⟨m.g, 3, none⟩ (.int .i64 0)).setCell ⟨m.g, 11, none⟩ (.pointer none))) := h2
  clear h h1 h2
  go_enter Tryz.func38, Tryz.ntmps38
  go_wp2_with fail
  refine hre.mono ?_
  rintro e w1 ⟨⟨v, rfl⟩, h1, h2⟩
  clear hre
  go_wp2
  go_end0
  exact ⟨⟨_, rfl⟩, h1, HM.out.trans h2⟩
end Go.Proofs.YtbckbonffajmeaaGreatDoor
