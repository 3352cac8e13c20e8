/-
  Between two parts of a knot that is written.
-/
import Derived.Test.YtmdkmedlncfcbaaGreatDoorWk
namespace Go.Proofs.YtmdkmedlncfcbaaGreatDoor
open Go.RowKit Go.Shelf
set_option linter.unusedVariables false
set_option linter.unusedSimpArgs false

/-- Where a tree stays its parts stay. -/
theorem stay_child {O : Nat → Prop} {V : World} {h : Nat} {t q : Prt} {vx vy : Value} {b off n c k : Nat} (hs : Stay O V (fun W => PtAt (h + 1) W t vx vy (.slice (some ⟨b, off, none⟩) n c))) (hq : t.ps[k]? = some q) :
    ∃ x y z, V.cell? ⟨b, off + k * 3, none⟩ = some x ∧ V.cell? ⟨b, off + k * 3 + 1, none⟩ = some y ∧ V.cell? ⟨b, off + k * 3 + 2, none⟩ = some z ∧ Stay O V (fun W => PtAt h W q x y z) := by
  have look : ∀ W, PtAt (h + 1) W t vx vy (.slice (some ⟨b, off, none⟩) n c) → ∃ x y z, W.cell? ⟨b, off + k * 3, none⟩ = some x ∧ W.cell? ⟨b, off + k * 3 + 1, none⟩ = some y ∧ W.cell? ⟨b, off + k * 3 + 2, none⟩ = some z ∧ PtAt h W q x y z := by
    rintro W ⟨_, _, _, a', c', e, hr⟩
    rcases hr with h0 | ⟨b', off', ha, hc⟩
    · rw [h0] at hq; simp at hq
    · subst ha
      cases e
      exact hc k q hq
  obtain ⟨x, y, z, c0, c1, c2, hp⟩ := look V hs.now
  have hb : ¬ O b := by
    intro hO
    obtain ⟨x', y', z', d0, _, _, hp'⟩ := look _ (hs (V.setCell ⟨b, off + k * 3, none⟩ (.bool false)) (Tg.set (O := O) V b _ _ hO))
    rw [World.cell?_setCell_same V _ (.bool false) c0] at d0
    cases d0
    cases h with
    | zero => exact hp'.elim
    | succ h => obtain ⟨⟨_, _, h1, _⟩, _⟩ := hp'; cases h1
  refine ⟨x, y, z, c0, c1, c2, fun W hW => ?_⟩
  have hlt := World.block_lt_of_cell? V _ c0
  have e := hW.2.2.2.2 b hlt hb
  obtain ⟨x', y', z', d0, d1, d2, hp'⟩ := look W (hs W hW)
  rw [World.cell?_of_block e, c0] at d0
  rw [World.cell?_of_block e, c1] at d1
  rw [World.cell?_of_block e, c2] at d2
  cases d0; cases d1; cases d2
  exact hp'
/-- What lies between two parts. -/
def KJ (w : World) (Bo C O F G h : Nat) (t : Prt) (x y z : Value) (ct : Nat) (o : List Int) (V : World) : Prop :=
  ∃ va vc, Tg (OW Bo C O w) w V ∧ Blk V C #[.int .i64 (ct : Nat)] 3 ∧ Blk V G #[x, y, z] 28 ∧ Blk V O #[.slice va o.length vc] 22 ∧ Blk V F #[wrF C O F] 34 ∧ Own V Bo (.slice va o.length vc) o ∧ Mx V ∧ Stay (fun b => b = C ∨ b = O ∨ Bo ≤ b) V (fun W => PtAt h W t x y z)
theorem KJ.go {w : World} {Bo C O F G h : Nat} {t : Prt} {x y z v' : Value} {ct ct2 : Nat} {o o2 : List Int} {V V' : World} (hj : KJ w Bo C O F G h t x y z ct o V) (ht : Tg (OW Bo C O V) V V') (hC : Blk V' C #[.int .i64 (ct2 : Nat)] 3) (hO : Blk V' O #[v'] 22) (hown : Own V' Bo v' o2) (hCB : C < Bo) (hOB : O < Bo) (hFB : F < Bo) (hCF : C ≠ F) (hOF : O ≠ F) (hG : Bo ≤ G) :
    KJ w Bo C O F G h t x y z ct2 o2 V' := by
  obtain ⟨va, vc, j1, j2, j3, j4, j5, j6, j7, j8⟩ := hj
  obtain ⟨a1, c1, rfl, _⟩ := own_row' hown
  exact ⟨a1, c1, tw_trans j1 ht, hC, tw_kept ht j3 (by decide) (by omega) (by omega), hO, tw_kept ht j5 (by decide) (by omega) (by omega), hown, mx_tw j7 ht j2 hC j4 (fun k h => by cases h) (by omega), tw_stay ht j8⟩
theorem grown_kept {U V : World} {Bo : Nat} {v : Value} {n : Nat} {xs : List Value} (ho : U.ownsRow Bo 5 1 v n xs) (hg : U.grownBy V v.ownBlock) {b : Nat} {cs : Array Value} {ty : TypeId} (hb : Blk U b cs ty) (hty : ty ≠ 5) : Blk V b cs ty :=
  (hg.block b hb.lt (fun q => by
    rcases ho.2 with ⟨rfl, _⟩ | ⟨g9, cap9, cur9, rfl, _, h3, _⟩
    · simp [Value.ownBlock] at q
    · have e9 : b = g9 := by simpa [Value.ownBlock] using q
      subst e9; rw [show U.heap[b]? = _ from hb] at h3; cases h3; exact hty rfl)).trans hb
/-- Bytes put behind what is written. -/
theorem KJ.app {w : World} {Bo C O F G h : Nat} {t : Prt} {x y z v v1 : Value} {ct : Nat} {o o2 : List Int} {V V1 : World} (hj : KJ w Bo C O F G h t x y z ct o V) (hv : Blk V O #[v] 22) (ho : Own V Bo v o) (hg : V.grownBy V1 v.ownBlock) (ho1 : Own V1 Bo v1 o2) (hCB : C < Bo) (hOB : O < Bo) (hFB : F < Bo) (hCO : C ≠ O) (hCF : C ≠ F) (hOF : O ≠ F) (hG : Bo ≤ G) :
    KJ w Bo C O F G h t x y z ct o2 (V1.setCell ⟨O, 0, none⟩ v1) ∧ Blk V1 O #[v] 22 := by
  have hO1 : Blk V1 O #[v] 22 := grown_kept ho hg hv (by decide)
  obtain ⟨va, vc, j1, j2, j3, j4, j5, j6, j7, j8⟩ := hj
  have ht : Tg (OW Bo C O V) V (V1.setCell ⟨O, 0, none⟩ v1) := tw_trans (tw_grown ho hg) (Tg.set (O := OW Bo C O V1) _ O 0 _ (.inr (.inl rfl)))
  exact ⟨KJ.go ⟨va, vc, j1, j2, j3, j4, j5, j6, j7, j8⟩ ht ((grown_kept ho hg j2 (by decide)).other hCO _) (hO1.same0 _) (own_other hOB ho1) hCB hOB hFB hCF hOF hG, hO1⟩
theorem wrL_prefix {rec : Nat → List Int → Prt → Nat × List Int × Bool} (hr : ∀ ct out q, out <+: (rec ct out q).2.1) (bd : List Int) : ∀ (ps : List Prt) (ct : Nat) (out : List Int), out <+: (wrL rec bd ct out ps).2.1
  | [], ct, out => List.prefix_append _ _
  | q :: r, ct, out => by
    have h := hr ct (out ++ (45 :: 45 :: bd ++ [13, 10])) q
    rw [wrL]
    generalize rec ct (out ++ (45 :: 45 :: bd ++ [13, 10])) q = y at h ⊢
    obtain ⟨c, o, b⟩ := y
    have h1 : out <+: o := (List.prefix_append _ _).trans h
    cases b with
    | false => exact h1
    | true =>
      simp only
      split
      · exact h1
      · exact (h1.trans (List.prefix_append _ _)).trans (wrL_prefix hr bd r c _)
/-- What is written stands. -/
theorem wr_prefix : ∀ (f ct : Nat) (out : List Int) (t : Prt), out <+: (wrP f ct out t).2.1
  | 0, ct, out, t => List.prefix_refl _
  | f + 1, ct, out, t => by
    rw [wrP, wrH]
    split
    · exact List.prefix_refl _
    · cases knd t.fs with
      | none => exact List.prefix_refl _
      | some k =>
        simp only
        have h0 : out <+: out ++ writeB t.fs ++ t.body := by rw [List.append_assoc]; exact List.prefix_append _ _
        split
        · exact List.prefix_refl _
        · split
          · cases bord k with
            | none => exact h0
            | some bd => exact h0.trans (wrL_prefix (fun ct out q => wr_prefix f ct out q) bd t.ps (ct + 1) _)
          · exact h0
end Go.Proofs.YtmdkmedlncfcbaaGreatDoor
