/-
  Bytes of a text: the contract of takeText.
-/
import Derived.Test.YtbckbonffajmeaaGreatDoorSq
namespace Go.Proofs.YtbckbonffajmeaaGreatDoor
open Go.RowKit Go.Shelf Go.Maps
set_option linter.unusedVariables false
set_option linter.unusedSimpArgs false

theorem SvAt.mono {N N' : Nat} {w : World} {m : Sm} {s : SS} (h : SvAt N w m s) (hN : N ≤ N') : SvAt N' w m s := by
  refine ⟨h.blk, h.tos, h.line, h.map, ?_, h.nol, h.ok⟩
  have ht := h.tx
  cases e : m.tx with
  | none => rw [e] at ht; cases e2 : s.text with
    | none => trivial
    | some rs => rw [e2] at ht; exact ht.elim
  | some p =>
    obtain ⟨gr, Br⟩ := p
    rw [e] at ht
    cases e2 : s.text with
    | none => rw [e2] at ht; exact ht.elim
    | some rs => rw [e2] at ht; obtain ⟨h1, k, h2, h3⟩ := ht; exact ⟨h1, k, Nat.le_trans h2 hN, h3⟩
theorem SG.mono {N N' : Nat} {mx : Int} {w : World} {m : Sm} {s : SS} (h : SG N mx w m s) (hN : N ≤ N') : SG N' mx w m s := ⟨h.at'.mono hN, h.gl, h.lo⟩
/-- A session through whatever its reader does. -/
theorem sv_text {N N' : Nat} {w w' : World} {m : Sm} {s : SS} {gr Br : Nat} {rs rs' : Dt.RS} (h : SvAt N w m s) (ht : m.tx = some (gr, Br)) (hs : s.text = some rs) (hR : Dt.Rd w' Br gr rs') (hF : ∃ k, k ≤ N' ∧ Dt.Fit rs' k) (hb : Dt.Bx Br gr w w') :
    SvAt N' w' m { s with text := some rs' } ∧ Mv m m w w' := by
  have hr : Dt.Rd w Br gr rs := by have := h.tx; rw [ht, hs] at this; exact this.1
  have hgr : ∃ cs, Blk w gr cs 111 := by obtain ⟨_, _, v, q, _⟩ := hr; exact ⟨_, q⟩
  have oth : ∀ k cs t, Blk w k cs t → t ≠ 111 → t ≠ 5 → w'.heap[k]? = w.heap[k]? := fun k cs t q h1 h2 => by
    refine hb.block k q.lt (fun e => ?_) (fun e => ?_)
    · subst e; obtain ⟨cs', q'⟩ := hgr; unfold Blk at q q'; rw [q] at q'; cases q'; exact h1 rfl
    · obtain ⟨cs', q'⟩ := okK_row hr e; unfold Blk at q q'; rw [q] at q'; cases q'; exact h2 rfl
  have hob : w'.heap[m.ob]? = w.heap[m.ob]? := by
    obtain ⟨es, c, q⟩ := h.map.block
    refine hb.block _ (Array.getElem?_eq_some_iff.1 q).1 (fun e => ?_) (fun e => ?_)
    · obtain ⟨cs', q'⟩ := hgr; unfold Blk at q'; rw [← e, q] at q'; cases q'
    · obtain ⟨cs', q'⟩ := okK_row hr e; unfold Blk at q'; rw [q] at q'; cases q'
  have hvl := h.nol (by rw [ht]; simp)
  refine ⟨⟨(oth m.g _ 46 h.blk (by decide) (by decide)).trans h.blk, ?_, ?_, h.map.keep hob, ?_, h.nol, ⟨h.ok.host, h.ok.size0, h.ok.size1, h.ok.takes0, h.ok.takes1, h.ok.sender, h.ok.tos, h.ok.tosz, h.ok.line, h.ok.len⟩⟩, ⟨hb.os, hb.tape, hb.output, hb.size, fun k hk hO => hb.block k hk (fun e => hO (.inr (.inr (.inr ⟨gr, Br, ht, .inl e⟩)))) (fun e => hO (.inr (.inr (.inr ⟨gr, Br, ht, .inr e⟩))))⟩, ?_, rfl, rfl⟩
  · exact row_keep h.tos (fun b hb' => by obtain ⟨cs, q⟩ := row_block h.tos hb'; exact oth b cs 9 q (by decide) (by decide))
  · exact row_keep h.line (fun b hb' => by rw [hvl] at hb'; simp [Value.ownBlock] at hb')
  · rw [ht]; exact ⟨hR, hF⟩
  · intro k q
    rcases q with q | q | q | ⟨gr', Br', e, q | q⟩
    · exact .inl (.inl q)
    · exact .inl (.inr (.inl q))
    · exact .inl (.inr (.inr (.inl q)))
    · exact .inl (.inr (.inr (.inr ⟨gr', Br', e, .inl q⟩)))
    · rw [ht] at e
      cases e
      rcases hb.fresh k q with q | q
      · exact .inl (.inr (.inr (.inr ⟨gr, Br, ht, .inr q⟩)))
      · exact .inr q
/-- What bytes do to a session that takes a text: what it is, what is replied, how many were taken. -/
def textS (s : SS) (r : Dt.RS × Nat) : SS × ByteArray × Nat :=
  if r.1.over = true then
    if Dt.faultZ r.1 = 0 then ({ s with takes := 2, text := some r.1 }, ⟨#[]⟩, r.2)
    else (leaveZ s, replyZ s.host (if Dt.faultZ r.1 = 2 then 552 else 554), r.2)
  else ({ s with text := some r.1 }, ⟨#[]⟩, r.2)
theorem row_bx {B g : Nat} {w w' : World} {a : Option Addr} {l : List Int} (h : Row w a l) (hb : Dt.Bx B g w w') (hs : ∀ b off, a = some ⟨b, off, none⟩ → b ≠ g ∧ ¬ Dt.okK w g b) : Row w' a l := by
  by_cases hl : l = []
  · exact .inl hl
  rcases h with q | ⟨b, off, rfl, h⟩
  · exact absurd q hl
  refine .inr ⟨b, off, rfl, fun i hi => ?_⟩
  obtain ⟨h1, h2⟩ := hs b off rfl
  have hlt := World.block_lt_of_cell? w _ (h i hi)
  rw [World.cell?_of_block (hb.block b hlt h1 h2)]
  exact h i hi
set_option maxHeartbeats 16000000 in
set_option maxRecDepth 100000 in
theorem takeText_any (N : Nat) (mx : Int) (m : Sm) (s : SS) (w : World) (rs : Dt.RS) (h : SG N mx w m s) (hs : s.text = some rs) (ho : rs.over = false) (a : Option Addr) (n c : Nat) (l : List Int) (hl : l.length = n) (hrow : Row w a l) (hsep : ∀ b off, a = some ⟨b, off, none⟩ → ¬ sO m w b) (hN : N + n ≤ 800000000) :
    Calls Tryz.prog 32 #[.pointer (some ⟨m.g, 0, none⟩), .slice a n c] w fun e w' => e = .returned (.tuple #[.int .i64 ((textS s (Dt.runZ rs l)).2.2 : Nat), .string (textS s (Dt.runZ rs l)).2.1]) ∧ ∃ m', SvAt (N + n) w' m' (textS s (Dt.runZ rs l)).1 ∧ Mv m m' w w' := by
  obtain ⟨c0, c1, c2, c3, c4, c5, c6, c7, c8, c9, c10, c11⟩ := sv_cells h.at'
  obtain ⟨gr, Br, htx⟩ : ∃ gr Br, m.tx = some (gr, Br) := by
    have := h.at'.tx
    rw [hs] at this
    cases e : m.tx with
    | none => rw [e] at this; exact this.elim
    | some p => exact ⟨p.1, p.2, rfl⟩
  have hT := h.at'.tx
  rw [hs, htx] at hT
  obtain ⟨hr, k, hk, hf⟩ := hT
  rw [htx] at c11
  have c11 : w.cell? ⟨m.g, 11, none⟩ = some (.pointer (some ⟨gr, 0, none⟩)) := c11
  have hrow' : ∀ w', Dt.Bx Br gr w w' → Row w' a l := fun w' hb => row_bx hrow hb (fun b off e => ⟨fun q => hsep b off e (.inr (.inr (.inr ⟨gr, Br, htx, .inl q⟩))), fun q => hsep b off e (.inr (.inr (.inr ⟨gr, Br, htx, .inr q⟩)))⟩)
  have hput := Dt.put_any Br gr rs w hr ho k hf a n c l hl hrow' (by omega)
  have hfit := Dt.fit_run l hf
  obtain ⟨r, hrr⟩ : ∃ r, Dt.runZ rs l = r := ⟨_, rfl⟩
  rw [hrr] at hput hfit ⊢
  have HS : Hid (SG N mx w m s) := h
  have HX : Hid (m.tx = some (gr, Br) ∧ s.text = some rs ∧ k ≤ N ∧ Dt.Fit r.1 (k + l.length) ∧ l.length = n) := ⟨htx, hs, hk, hfit, hl⟩
  clear h hr hf hrow hrow' hsep hfit hrr c0 c1 c2 c3 c4 c5 c6 c7 c8 c9 c10
  obtain ⟨r1, rn⟩ := r
  have go1 : ∀ w1, Dt.Rd w1 Br gr r1 → Dt.Bx Br gr w w1 → SG (N + n) mx w1 m { s with text := some r1 } ∧ Mv m m w w1 := fun w1 q1 q2 => by
    obtain ⟨x1, x2, x3, x4, x5⟩ := HX.out
    obtain ⟨y1, y2⟩ := sv_text (N' := N + n) HS.out.at' x1 x2 q1 ⟨k + l.length, by omega, x4⟩ q2
    exact ⟨(HS.out.mono (Nat.le_add_right N n)).step y1 y2, y2⟩
  by_cases ov : r1.over = true
  rotate_left
  · have ov' : r1.over = false := by simpa using ov
    have hv : Dt.putV (r1, rn) = .tuple #[.int .i64 (rn : Nat), .bool false, .int .i64 0] := by rw [Dt.putV]; simp [ov']
    have HZ : Hid (textS s (r1, rn) = ({ s with text := some r1 }, ⟨#[]⟩, rn)) := by unfold Hid textS; rw [if_neg (by simpa using ov')]
    rw [hv] at hput
    go_enter Tryz.func32, Tryz.ntmps32
    go_wp2_with fail
    refine hput.mono ?_
    rintro e w1 ⟨rfl, q1, q2⟩
    have HG1 : Hid (SG (N + n) mx w1 m { s with text := some r1 } ∧ Mv m m w w1) := go1 w1 q1 q2
    clear hput q1 q2 c11
    go_wp2
    go_ret2
    exact ⟨by rw [HZ.out] <;> rfl, m, by rw [HZ.out]; exact HG1.out.1.at', HG1.out.2⟩
  by_cases f0 : Dt.faultZ r1 = 0
  · have hv : Dt.putV (r1, rn) = .tuple #[.int .i64 (rn : Nat), .bool true, .int .i64 0] := by rw [Dt.putV]; simp [ov, f0]
    have HZ : Hid (textS s (r1, rn) = ({ s with takes := 2, text := some r1 }, ⟨#[]⟩, rn)) := by unfold Hid textS; rw [if_pos ov, if_pos f0]
    rw [hv] at hput
    go_enter Tryz.func32, Tryz.ntmps32
    go_wp2_with fail
    refine hput.mono ?_
    rintro e w1 ⟨rfl, q1, q2⟩
    obtain ⟨g1, v1⟩ := go1 w1 q1 q2
    obtain ⟨_, _, _, d3, _⟩ := sv_cells g1.at'
    have f3 := g1.at'.blk.frozen 3
    obtain ⟨b1, b2⟩ := g1.at'.put (s' := { s with takes := 2, text := some r1 }) 3 (.int .i64 2) rfl rfl rfl rfl rfl ⟨g1.at'.ok.host, g1.at'.ok.size0, g1.at'.ok.size1, (by decide : (0 : Int) ≤ 2), (by decide : (2 : Int) ≤ 3), g1.at'.ok.sender, g1.at'.ok.tos, g1.at'.ok.tosz, g1.at'.ok.line, g1.at'.ok.len⟩
    have HG1 : Hid (SvAt (N + n) (w1.setCell ⟨m.g, 3, none⟩ (.int .i64 2)) m { s with takes := 2, text := some r1 } ∧ Mv m m w (w1.setCell ⟨m.g, 3, none⟩ (.int .i64 2))) := ⟨b1, v1.trans b2⟩
    clear hput q1 q2 c11 g1 v1 b1 b2
    go_wp2
    go_ret2
    exact ⟨by rw [HZ.out] <;> rfl, m, by rw [HZ.out]; exact HG1.out.1, HG1.out.2⟩
  have hv : Dt.putV (r1, rn) = .tuple #[.int .i64 (rn : Nat), .bool true, .int .i64 (Dt.faultZ r1)] := by rw [Dt.putV]; simp [ov]
  have HZ : Hid (textS s (r1, rn) = (leaveZ s, replyZ s.host (if Dt.faultZ r1 = 2 then 552 else 554), rn)) := by unfold Hid textS; rw [if_pos ov, if_neg f0]
  rw [hv] at hput
  obtain ⟨f, hf⟩ : ∃ f, Dt.faultZ r1 = f := ⟨_, rfl⟩
  rw [hf] at hput f0 HZ
  clear hf hv
  have f0' : (f == 0) = false := by simpa using f0
  by_cases f2 : f = 2
  · subst f2
    go_enter Tryz.func32, Tryz.ntmps32
    go_wp2_with fail
    refine hput.mono ?_
    rintro e w1 ⟨rfl, q1, q2⟩
    obtain ⟨g1, v1⟩ := go1 w1 q1 q2
    have hlt := leaveText_any (N + n) m _ w1 g1.at'
    have HG1 : Hid (SG (N + n) mx w1 m { s with text := some r1 } ∧ Mv m m w w1) := ⟨g1, v1⟩
    clear hput q1 q2 c11 g1 v1
    go_wp2_with fail
    refine hlt.mono ?_
    rintro e w2 ⟨⟨v, rfl⟩, h2, v2⟩
    have g2 := HG1.out.1.step h2 v2
    have hrp0 := reply_any (N + n) mx _ _ w2 552 g2 (by decide) (by decide)
    have hrp : Calls Tryz.prog 39 #[.pointer (some ⟨m.g, 0, none⟩), .int .i64 552] w2 fun e w' => e = .returned (.string (replyZ s.host 552)) ∧ Below w2.heap.size w2 w' := hrp0
    clear hrp0
    have HG2 : Hid (SG (N + n) mx w2 (noTos (noTx m)) (leaveZ s) ∧ Mv m (noTos (noTx m)) w w2) := ⟨g2, HG1.out.2.trans v2⟩
    clear hlt h2 v2 g2
    go_wp2_with fail
    refine hrp.mono ?_
    rintro e w3 ⟨rfl, hb⟩
    obtain ⟨g3, v3⟩ := HG2.out.1.below hb
    have HG3 : Hid (SvAt (N + n) w3 (noTos (noTx m)) (leaveZ s) ∧ Mv m (noTos (noTx m)) w w3) := ⟨g3.at', HG2.out.2.trans v3⟩
    clear hrp hb g3 v3
    go_wp2
    go_ret2
    exact ⟨by rw [HZ.out] <;> rfl, _, by rw [HZ.out]; exact HG3.out.1, HG3.out.2⟩
  · have f2' : (f == 2) = false := by simpa using f2
    rw [if_neg f2] at HZ
    go_enter Tryz.func32, Tryz.ntmps32
    go_wp2_with fail
    refine hput.mono ?_
    rintro e w1 ⟨rfl, q1, q2⟩
    obtain ⟨g1, v1⟩ := go1 w1 q1 q2
    have hlt := leaveText_any (N + n) m _ w1 g1.at'
    have HG1 : Hid (SG (N + n) mx w1 m { s with text := some r1 } ∧ Mv m m w w1) := ⟨g1, v1⟩
    clear hput q1 q2 c11 g1 v1
    go_wp2_with fail
    refine hlt.mono ?_
    rintro e w2 ⟨⟨v, rfl⟩, h2, v2⟩
    have g2 := HG1.out.1.step h2 v2
    have hrp0 := reply_any (N + n) mx _ _ w2 554 g2 (by decide) (by decide)
    have hrp : Calls Tryz.prog 39 #[.pointer (some ⟨m.g, 0, none⟩), .int .i64 554] w2 fun e w' => e = .returned (.string (replyZ s.host 554)) ∧ Below w2.heap.size w2 w' := hrp0
    clear hrp0
    have HG2 : Hid (SG (N + n) mx w2 (noTos (noTx m)) (leaveZ s) ∧ Mv m (noTos (noTx m)) w w2) := ⟨g2, HG1.out.2.trans v2⟩
    clear hlt h2 v2 g2
    go_wp2_with fail
    refine hrp.mono ?_
    rintro e w3 ⟨rfl, hb⟩
    obtain ⟨g3, v3⟩ := HG2.out.1.below hb
    have HG3 : Hid (SvAt (N + n) w3 (noTos (noTx m)) (leaveZ s) ∧ Mv m (noTos (noTx m)) w w3) := ⟨g3.at', HG2.out.2.trans v3⟩
    clear hrp hb g3 v3
    go_wp2
    go_ret2
    exact ⟨by rw [HZ.out] <;> rfl, _, by rw [HZ.out]; exact HG3.out.1, HG3.out.2⟩
end Go.Proofs.YtbckbonffajmeaaGreatDoor
