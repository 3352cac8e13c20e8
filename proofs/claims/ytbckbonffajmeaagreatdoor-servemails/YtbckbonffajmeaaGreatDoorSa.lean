/-
  A session as it lies, and what changes of the world while it works.
-/
import Derived.Test.YtbckbonffajmeaaGreatDoorDText
import Derived.Test.YtbckbonffajmeaaGreatDoorSe
import Derived.Maps.OwnSet
import Derived.Maps.OwnOps
namespace Go.Proofs.YtbckbonffajmeaaGreatDoor
open Go.RowKit Go.Shelf Go.Maps
set_option linter.unusedVariables false
set_option linter.unusedSimpArgs false

/-- What a session holds. -/
structure SS where
  host : ByteArray
  owners : List (List Int)
  size : Int
  takes : Int
  greeted : Bool
  hasS : Bool
  sender : ByteArray
  tos : List ByteArray
  line : List Int
  half : Bool
  bad : Bool
  text : Option Dt.RS
/-- Where it lies: its block, its rows, its owners, and its reader (with the place from which on the reader's row lies). -/
structure Sm where
  g : Nat
  vt : Value
  vl : Value
  ob : Nat
  tx : Option (Nat × Nat)
def txV : Option (Nat × Nat) → Value
  | none => .pointer none
  | some (gr, _) => .pointer (some ⟨gr, 0, none⟩)
def cellsS (m : Sm) (s : SS) : Array Value :=
  #[.string s.host, .map (some m.ob), .int .i64 s.size, .int .i64 s.takes, .bool s.greeted, .bool s.hasS, .string s.sender, m.vt, m.vl, .bool s.half, .bool s.bad, txV m.tx]
theorem law9 : Keyed Tryz.prog 9 := string_keyed Tryz.underlying9
theorem zero3 (w : World) : (zeroValue 3).run Tryz.prog w = .ok (.int .i64 0) w := by kernel_rfl
def keyZ (s : ByteArray) : Lit := .string s.data.toList
theorem keyZ_inj {s t : ByteArray} (h : keyZ s = keyZ t) : nums s = nums t := by
  unfold keyZ at h
  injection h with h
  rw [nums, nums, h]
/-- The map holds the texts that were put in. -/
def Seen (D : DataW Unit) (seen : List (List Int)) : Prop := ∀ s : ByteArray, Maps.has D (keyZ s) = seen.contains (nums s)
theorem seen_put {D : DataW Unit} {seen : List (List Int)} (h : Seen D seen) (hD : IsMap D) (s : ByteArray) (d : DataW Unit) : Seen (D.put (keyZ s) d) (seen ++ [nums s]) := by
  intro u
  by_cases e : nums u = nums s
  · have e2 := nums_inj e
    subst e2
    rw [has_put_same hD (by unfold keyZ; trivial)]
    simp
  · rw [has_put_other (fun q => e (keyZ_inj q)), h u]
    rw [Bool.eq_iff_iff]
    simp [e]
/-- Owners in a map. -/
def MpAt (w : World) (b : Nat) (os : List (List Int)) : Prop := ∃ n D, w.ownsMap Tryz.prog 9 (plainElem (H := Unit) Tryz.prog 3) b n D ∧ Seen D os
theorem MpAt.keep {w w' : World} {b : Nat} {os : List (List Int)} (h : MpAt w b os) (hb : w'.heap[b]? = w.heap[b]?) : MpAt w' b os := by
  obtain ⟨n, D, ⟨es, clock, h1, F, hs, hD⟩, h2⟩ := h
  exact ⟨n, D, ⟨es, clock, hb.trans h1, F, hs, hD⟩, h2⟩
theorem MpAt.block {w : World} {b : Nat} {os : List (List Int)} (h : MpAt w b os) : ∃ es clock, w.heap[b]? = some (.map es clock) := by
  obtain ⟨n, D, ⟨es, clock, h1, _⟩, _⟩ := h
  exact ⟨es, clock, h1⟩
def Blk (w : World) (b : Nat) (cs : Array Value) (t : TypeId) : Prop := w.heap[b]? = some (.cells cs t (0, 0))
theorem Blk.lt {w : World} {b : Nat} {cs : Array Value} {t : TypeId} (h : Blk w b cs t) : b < w.heap.size := (Array.getElem?_eq_some_iff.1 h).1
theorem Blk.cell {w : World} {b : Nat} {cs : Array Value} {t : TypeId} (h : Blk w b cs t) (i : Nat) : w.cell? ⟨b, i, none⟩ = cs[i]? := cell_of_row w _ _ _ _ _ h
theorem Blk.frozen {w : World} {b : Nat} {cs : Array Value} {t : TypeId} (h : Blk w b cs t) (i : Nat) : w.frozen? ⟨b, i, none⟩ = false := frozen_of_row w _ _ _ _ h
/-- The reader. -/
def TxAt (N : Nat) (w : World) : Option (Nat × Nat) → Option Dt.RS → Prop
  | none, none => True
  | some (gr, Br), some rs => Dt.Rd w Br gr rs ∧ ∃ k, k ≤ N ∧ Dt.Fit rs k
  | _, _ => False
/-- What holds of whatever a session holds. -/
structure SOk (s : SS) : Prop where
  host : s.host.size ≤ 1000
  size0 : 1 ≤ s.size
  size1 : s.size ≤ 65536
  takes0 : 0 ≤ s.takes
  takes1 : s.takes ≤ 3
  sender : s.sender.size ≤ 2000
  tos : s.tos.length ≤ 16
  tosz : ∀ t ∈ s.tos, t.size ≤ 2000
  line : ∀ c ∈ s.line, 32 ≤ c ∧ c ≤ 126
  len : s.line.length ≤ 510
structure SvAt (N : Nat) (w : World) (m : Sm) (s : SS) : Prop where
  blk : Blk w m.g (cellsS m s) 46
  tos : w.ownsRow 0 9 1 m.vt s.tos.length (s.tos.map Value.string)
  line : Own w 0 m.vl s.line
  map : MpAt w m.ob s.owners
  tx : TxAt N w m.tx s.text
  nol : m.tx ≠ none → m.vl = .slice none 0 0
  ok : SOk s
/-- The blocks that are a session's own. -/
def sO (m : Sm) (w : World) (k : Nat) : Prop := k = m.g ∨ m.vt.ownBlock = some k ∨ m.vl.ownBlock = some k ∨ ∃ gr Br, m.tx = some (gr, Br) ∧ (k = gr ∨ Dt.okK w gr k)
/-- What changes while a session works: its own blocks; what is its own then was its own, or is new. -/
structure Mv (m m' : Sm) (w w' : World) : Prop where
  tk : Tk (sO m w) w w'
  fresh : ∀ k, sO m' w' k → sO m w k ∨ w.heap.size ≤ k
  g : m'.g = m.g
  ob : m'.ob = m.ob
theorem Mv.refl (m : Sm) (w : World) : Mv m m w w := ⟨Tk.refl _ _, fun _ h => .inl h, rfl, rfl⟩
theorem Mv.trans {m1 m2 m3 : Sm} {w1 w2 w3 : World} (h : Mv m1 m2 w1 w2) (k : Mv m2 m3 w2 w3) : Mv m1 m3 w1 w3 := by
  refine ⟨⟨k.tk.1.trans h.tk.1, k.tk.2.1.trans h.tk.2.1, k.tk.2.2.1.trans h.tk.2.2.1, Nat.le_trans h.tk.size k.tk.size, fun b hb hO => ?_⟩, fun b hb => ?_, k.g.trans h.g, k.ob.trans h.ob⟩
  · refine (k.tk.2.2.2.2 b (by have := h.tk.size; omega) (fun q => ?_)).trans (h.tk.2.2.2.2 b hb hO)
    rcases h.fresh b q with q | q
    · exact hO q
    · omega
  · rcases k.fresh b hb with q | q
    · exact h.fresh b q
    · exact .inr (by have := h.tk.size; omega)
theorem row_block {w : World} {B : Nat} {e : TypeId} {k n : Nat} {v : Value} {xs : List Value} (h : w.ownsRow B e k v n xs) {b : Nat} (hb : v.ownBlock = some b) : ∃ cs, Blk w b cs e := by
  rcases h.2 with ⟨rfl, _⟩ | ⟨g, cap, cur, rfl, _, h3, _⟩
  · simp [Value.ownBlock] at hb
  · simp [Value.ownBlock] at hb; subst hb; exact ⟨cur, h3⟩
theorem row_keep {w w' : World} {B : Nat} {e : TypeId} {k n : Nat} {v : Value} {xs : List Value} (h : w.ownsRow B e k v n xs) (hk : ∀ b, v.ownBlock = some b → w'.heap[b]? = w.heap[b]?) : w'.ownsRow B e k v n xs := by
  refine ⟨h.1, ?_⟩
  rcases h.2 with q | ⟨g, cap, cur, rfl, h2, h3, h4⟩
  · exact .inl q
  · exact .inr ⟨g, cap, cur, rfl, h2, (hk g rfl).trans h3, h4⟩
theorem okK_row {w : World} {g B k : Nat} {rs : Dt.RS} (h : Dt.Rd w B g rs) (hk : Dt.okK w g k) : ∃ cs, Blk w k cs 5 := by
  obtain ⟨_, _, v, h3, h4⟩ := h
  obtain ⟨u, q1, q2⟩ := hk
  have : w.cell? ⟨g, 1, none⟩ = some v := by rw [cell_of_row w _ _ _ _ _ h3]; rfl
  rw [this] at q1
  cases q1
  exact row_block h4 q2
/-- A block of a session's own holds cells. -/
theorem sO_cells {N : Nat} {w : World} {m : Sm} {s : SS} (h : SvAt N w m s) {k : Nat} (hk : sO m w k) : ∃ cs t, Blk w k cs t := by
  rcases hk with rfl | hk | hk | ⟨gr, Br, e, hk⟩
  · exact ⟨_, _, h.blk⟩
  · obtain ⟨cs, q⟩ := row_block h.tos hk; exact ⟨cs, _, q⟩
  · obtain ⟨cs, q⟩ := row_block h.line hk; exact ⟨cs, _, q⟩
  · have ht := h.tx
    rw [e] at ht
    cases ht' : s.text with
    | none => rw [ht'] at ht; exact ht.elim
    | some rs =>
      rw [ht'] at ht
      rcases hk with rfl | hk
      · obtain ⟨_, _, v, h3, _⟩ := ht.1; exact ⟨_, _, h3⟩
      · obtain ⟨cs, q⟩ := okK_row ht.1 hk; exact ⟨cs, _, q⟩
theorem sO_map {N : Nat} {w : World} {m : Sm} {s : SS} (h : SvAt N w m s) : ¬ sO m w m.ob := fun q => by
  obtain ⟨cs, t, e⟩ := sO_cells h q
  obtain ⟨es, c, e2⟩ := h.map.block
  rw [show w.heap[m.ob]? = _ from e] at e2
  cases e2
/-- Where a session's own blocks and its owners are kept the session is. -/
theorem SvAt.keep {N : Nat} {w w' : World} {m : Sm} {s : SS} (h : SvAt N w m s) (hz : w.heap.size ≤ w'.heap.size) (hk : ∀ k, sO m w k ∨ k = m.ob → w'.heap[k]? = w.heap[k]?) : SvAt N w' m s ∧ ∀ k, sO m w' k → sO m w k := by
  have key : ∀ gr Br, m.tx = some (gr, Br) → ∀ k, Dt.okK w' gr k → Dt.okK w gr k := fun gr Br e k q => by
    obtain ⟨v, q1, q2⟩ := q
    have := hk gr (.inl (.inr (.inr (.inr ⟨gr, Br, e, .inl rfl⟩))))
    rw [World.cell?_of_block this] at q1
    exact ⟨v, q1, q2⟩
  refine ⟨⟨(hk m.g (.inl (.inl rfl))).trans h.blk, row_keep h.tos (fun b hb => hk b (.inl (.inr (.inl hb)))), row_keep h.line (fun b hb => hk b (.inl (.inr (.inr (.inl hb))))), h.map.keep (hk _ (.inr rfl)), ?_, h.nol, h.ok⟩, ?_⟩
  · have ht := h.tx
    cases e : m.tx with
    | none => rw [e] at ht; cases e2 : s.text with
      | none => trivial
      | some rs => rw [e2] at ht; exact ht.elim
    | some p =>
      obtain ⟨gr, Br⟩ := p
      rw [e] at ht
      cases e2 : s.text with
      | none => rw [e2] at ht; exact ht.elim
      | some rs =>
        rw [e2] at ht
        obtain ⟨⟨h1, h2, v, h3, h4⟩, h5⟩ := ht
        have c1 : w.cell? ⟨gr, 1, none⟩ = some v := by rw [cell_of_row w _ _ _ _ _ h3]; rfl
        exact ⟨⟨h1, Nat.le_trans h2 hz, v, (hk gr (.inl (.inr (.inr (.inr ⟨gr, Br, e, .inl rfl⟩))))).trans h3, row_keep h4 (fun b hb => hk b (.inl (.inr (.inr (.inr ⟨gr, Br, e, .inr ⟨v, c1, hb⟩⟩)))))⟩, h5⟩
  · intro k q
    rcases q with q | q | q | ⟨gr, Br, e, q | q⟩
    · exact .inl q
    · exact .inr (.inl q)
    · exact .inr (.inr (.inl q))
    · exact .inr (.inr (.inr ⟨gr, Br, e, .inl q⟩))
    · exact .inr (.inr (.inr ⟨gr, Br, e, .inr (key gr Br e k q)⟩))
theorem sO_lt {N : Nat} {w : World} {m : Sm} {s : SS} (h : SvAt N w m s) {k : Nat} (hk : sO m w k ∨ k = m.ob) : k < w.heap.size := by
  rcases hk with hk | rfl
  · obtain ⟨_, _, q⟩ := sO_cells h hk; exact q.lt
  · obtain ⟨_, _, q⟩ := h.map.block; exact (Array.getElem?_eq_some_iff.1 q).1
theorem SvAt.below {N : Nat} {w w' : World} {m : Sm} {s : SS} (h : SvAt N w m s) (hb : Below w.heap.size w w') : SvAt N w' m s ∧ Mv m m w w' := by
  obtain ⟨h1, h2⟩ := h.keep hb.size (fun k hk => hb.block k (sO_lt h hk))
  exact ⟨h1, .of_below hb, fun k hk => .inl (h2 k hk), rfl, rfl⟩
/-- A cell of the session's block that tells nothing of its rows. -/
theorem SvAt.put {N : Nat} {w : World} {m : Sm} {s s' : SS} (h : SvAt N w m s) (i : Nat) (u : Value) (hc : (cellsS m s).setIfInBounds i u = cellsS m s') (h1 : s'.tos = s.tos) (h2 : s'.line = s.line) (h3 : s'.owners = s.owners) (h4 : s'.text = s.text) (h5 : SOk s') :
    SvAt N (w.setCell ⟨m.g, i, none⟩ u) m s' ∧ Mv m m w (w.setCell ⟨m.g, i, none⟩ u) := by
  have hz := (Below.refl 0 w).setCell (p := ⟨m.g, i, none⟩) (Nat.zero_le _) u
  have oth : ∀ k, k ≠ m.g → (w.setCell ⟨m.g, i, none⟩ u).heap[k]? = w.heap[k]? := fun k hk => heap_setCell_other _ _ _ _ (by simpa using hk)
  have ne : ∀ k cs t, Blk w k cs t → t ≠ 46 → k ≠ m.g := fun k cs t q ht e => by
    subst e
    have := h.blk
    unfold Blk at q this
    rw [q] at this
    cases this
    exact ht rfl
  have hT : Tk (sO m w) w (w.setCell ⟨m.g, i, none⟩ u) := Tk.set w m.g i u (.inl rfl)
  have key : ∀ gr Br, m.tx = some (gr, Br) → ∀ rs, Dt.Rd w Br gr rs → gr ≠ m.g ∧ ∀ k, Dt.okK (w.setCell ⟨m.g, i, none⟩ u) gr k → Dt.okK w gr k := fun gr Br e rs hr => by
    obtain ⟨_, _, v, q, _⟩ := hr
    have hn := ne gr _ _ q (by decide)
    refine ⟨hn, fun k q => ?_⟩
    obtain ⟨v, q1, q2⟩ := q
    rw [World.cell?_of_block (oth gr hn)] at q1
    exact ⟨v, q1, q2⟩
  refine ⟨⟨?_, ?_, ?_, ?_, ?_, h.nol, h5⟩, hT, ?_, rfl, rfl⟩
  · have := heap_setCell_same w m.g i _ 46 u h.blk
    rw [hc] at this
    exact this
  · rw [h1]; exact row_keep h.tos (fun b hb => oth b (by obtain ⟨cs, q⟩ := row_block h.tos hb; exact ne b cs 9 q (by decide)))
  · rw [h2]; exact row_keep h.line (fun b hb => oth b (by obtain ⟨cs, q⟩ := row_block h.line hb; exact ne b cs 5 q (by decide)))
  · rw [h3]; exact h.map.keep (oth _ (fun e => sO_map h (.inl e)))
  · rw [h4]
    have ht := h.tx
    cases e : m.tx with
    | none => rw [e] at ht; cases e2 : s.text with
      | none => trivial
      | some rs => rw [e2] at ht; exact ht.elim
    | some p =>
      obtain ⟨gr, Br⟩ := p
      rw [e] at ht
      cases e2 : s.text with
      | none => rw [e2] at ht; exact ht.elim
      | some rs =>
        rw [e2] at ht
        obtain ⟨hr, h5⟩ := ht
        have hk := key gr Br e rs hr
        obtain ⟨r1, r2, v, r3, r4⟩ := hr
        exact ⟨⟨r1, Nat.le_trans r2 hz.size, v, (oth gr hk.1).trans r3, row_keep r4 (fun b hb => oth b (by obtain ⟨cs, q⟩ := row_block r4 hb; exact ne b cs 5 q (by decide)))⟩, h5⟩
  · intro k q
    left
    rcases q with q | q | q | ⟨gr, Br, e, q | q⟩
    · exact .inl q
    · exact .inr (.inl q)
    · exact .inr (.inr (.inl q))
    · exact .inr (.inr (.inr ⟨gr, Br, e, .inl q⟩))
    · refine .inr (.inr (.inr ⟨gr, Br, e, .inr ?_⟩))
      have ht := h.tx
      rw [e] at ht
      cases e2 : s.text with
      | none => rw [e2] at ht; exact ht.elim
      | some rs => rw [e2] at ht; exact (key gr Br e rs ht.1).2 k q
end Go.Proofs.YtbckbonffajmeaaGreatDoor
