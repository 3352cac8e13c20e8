/-
  Trees that are read: what Parse tells, and how it lies.
-/
import Derived.Test.YtmdkmedlncfcbaaGreatDoorPs
import Derived.Test.YtmdkmedlncfcbaaGreatDoorBt
namespace Go.Proofs.YtmdkmedlncfcbaaGreatDoor
open Go.RowKit Go.Shelf
set_option linter.unusedVariables false
set_option linter.unusedSimpArgs false

def prL (rec : Nat → List Int → Nat × Except Int Prt) (l : List Int) : Nat → List (Nat × Nat) → List Prt → Nat × Except Int (List Prt)
  | ct, [], acc => (ct, .ok acc)
  | ct, x :: r, acc => match rec ct ((l.drop x.1).take (x.2 - x.1)) with
    | (c, .error e) => (c, .error e)
    | (c, .ok q) => prL rec l c r (acc ++ [q])
def prK (ct : Nat) (g : List (Nat × Nat) → Nat × Except Int Prt) : Option (List (Nat × Nat)) → Nat × Except Int Prt
  | none => (ct, .error 81)
  | some ts => g ts
def prH (ct : Nat) (l : List Int) (g : List Int → List (Nat × Nat) → Nat × Except Int Prt) : Nat × Except Int Prt :=
  if 64 < ct then (ct, .error 81) else if outC l ≠ 0 then (ct, .error 50) else
  match knd (outL l) with
  | none => (ct, .error (errK (outL l)))
  | some k => if k.1 = mpZ then prK ct (g (l.drop (outN l).toNat)) ((bord k).bind (betw (l.drop (outN l).toNat)))
    else (ct, .ok ⟨outL l, l.drop (outN l).toNat, []⟩)
def prW (fs : List (ByteArray × ByteArray)) : Nat × Except Int (List Prt) → Nat × Except Int Prt
  | (c, .error e) => (c, .error e)
  | (c, .ok qs) => (c, .ok ⟨fs, [], qs⟩)
/-- Parse: so many storeys may stand below. -/
def prP : Nat → Nat → List Int → Nat × Except Int Prt
  | 0, ct, l => prH (ct + 1) l (fun _ _ => (ct + 1, .error 80))
  | f + 1, ct, l => prH (ct + 1) l (fun m ts => prW (outL l) (prL (prP f) m (ct + 1) ts []))
/-- What holds, also where all but the blocks of O is kept. -/
def Stay (O : Nat → Prop) (V : World) (Q : World → Prop) : Prop := ∀ W, Tg O V W → Q W
theorem Stay.now {O : Nat → Prop} {V : World} {Q : World → Prop} (h : Stay O V Q) : Q V := h V (Tg.refl _ _)
theorem Tg.two {O O1 O2 : Nat → Prop} {U V W : World} (h : Tg O1 U V) (k : Tg O2 V W) (h1 : ∀ b, b < U.heap.size → O1 b → O b) (h2 : ∀ b, b < U.heap.size → O2 b → O b) : Tg O U W :=
  ⟨k.1.trans h.1, k.2.1.trans h.2.1, k.2.2.1.trans h.2.2.1, Nat.le_trans h.2.2.2.1 k.2.2.2.1, fun b hb hO => (k.2.2.2.2 b (by have := h.2.2.2.1; omega) (fun q => hO (h2 b hb q))).trans (h.2.2.2.2 b hb (fun q => hO (h1 b hb q)))⟩
theorem Stay.go {O O1 O2 : Nat → Prop} {V W : World} {Q : World → Prop} (h : Stay O V Q) (k : Tg O1 V W) (h1 : ∀ b, b < V.heap.size → O1 b → O b) (h2 : ∀ b, b < V.heap.size → O2 b → O b) : Stay O2 W Q := fun X hX => h X (k.two hX h1 h2)
theorem Tg.grown {O : Nat → Prop} {V W : World} {row : Option Nat} (h : V.grownBy W row) (hO : ∀ b, row = some b → O b) : Tg O V W :=
  have hb := (Below.refl 0 V).grown h (Nat.zero_le _) (fun _ _ => Nat.zero_le _)
  ⟨hb.os, hb.tape, hb.output, hb.size, fun b hlt hn => h.block b hlt (fun q => hn (hO b q.symm))⟩
theorem Tg.drew {O : Nat → Prop} {V W : World} (h : Tg O V W) : Tg O V W.drew := h
theorem row_tg {O : Nat → Prop} {V W : World} {a : Option Addr} {l : List Int} (h : Row V a l) (ht : Tg O V W) (hO : ∀ x, a = some x → l ≠ [] → ¬ O x.block) : Row W a l := by
  rcases h with h | ⟨b, off, rfl, h⟩
  · exact .inl h
  · by_cases h0 : l = []
    · exact .inl h0
    · refine .inr ⟨b, off, rfl, fun i hi => ?_⟩
      rw [← h i hi]
      exact World.cell?_of_block (ht.2.2.2.2 b (World.block_lt_of_cell? V _ (h i hi)) (hO _ rfl h0))
theorem row_ne {V : World} {a : Option Addr} {l : List Int} {C : Nat} {n : Int} {t : TypeId} (h : Row V a l) (hC : Blk V C #[.int .i64 n] t) : ∀ x, a = some x → l ≠ [] → ¬ x.block = C := by
  rintro x rfl h0 rfl
  rcases h with h | ⟨b, off, he, h⟩
  · exact h0 h
  · cases he
    have hl : 0 < l.length := List.length_pos_iff.2 h0
    have h1 := h 0 hl
    rw [hC.cell] at h1
    cases off with
    | zero => simp at h1
    | succ k => simp at h1
theorem mx_set {V W : World} {C : Nat} {n m : Int} {t : TypeId} (h : Mx V) (hC : Blk V C #[.int .i64 n] t) (hW : Blk W C #[.int .i64 m] t) (ht : Tg (fun b => b = C) V W) : Mx W := by
  obtain ⟨k, h⟩ := h
  by_cases h0 : C = 0
  · subst h0; exact ⟨m, cell1 hW⟩
  · exact ⟨k, (World.cell?_of_block (ht.2.2.2.2 0 (World.block_lt_of_cell? V _ h) (fun q => h0 q.symm))).trans h⟩
theorem own_bat {W : World} {B : Nat} {v : Value} {l : List Int} (h : Own W B v l) (hb : Byt l) (hl : l.length ≤ maxLen) : BAt W v l := by
  obtain ⟨a, c, rfl, h1, h2, h3, h4⟩ := own_row' h
  exact ⟨a, c, rfl, h1, h2, h4, hb, h3⟩
def cell3 (x : Value × Value × Value) : List Value := [x.1, x.2.1, x.2.2]
theorem flat3 (xs : List (Value × Value × Value)) (i : Nat) (x : Value × Value × Value) (h : xs[i]? = some x) (j : Nat) (hj : j < 3) : (xs.flatMap cell3)[i * 3 + j]? = (cell3 x)[j]? := by
  induction xs generalizing i with
  | nil => simp at h
  | cons y r ih =>
    cases i with
    | zero =>
      simp at h; subst h
      rw [List.flatMap_cons, List.getElem?_append_left (by simp [cell3]; omega)]; simp
    | succ i =>
      rw [List.flatMap_cons, List.getElem?_append_right (by simp [cell3]; omega)]
      have e : (i + 1) * 3 + j - (cell3 y).length = i * 3 + j := by simp [cell3]; omega
      rw [e]; exact ih i (by simpa using h)
/-- A row of parts of one's own. -/
theorem own_trow {W : World} {B : Nat} {v : Value} {ts : List Prt} {xs : List (Value × Value × Value)} {P : Prt → Value → Value → Value → Prop} (h : W.ownsRow B 28 3 v ts.length (xs.flatMap cell3)) (hl : ts.length ≤ maxLen) (hx : xs.length = ts.length) (hP : ∀ (i : Nat) (t : Prt) (x : Value × Value × Value), ts[i]? = some t → xs[i]? = some x → P t x.1 x.2.1 x.2.2) : TRow W v ts P := by
  have h0 := h
  rcases h.2 with ⟨rfl, hn⟩ | ⟨g, cap, cur, rfl, hb, hg, hn, hm, hs, ht⟩
  · exact ⟨hl, none, 0, by rw [hn], .inl (List.eq_nil_of_length_eq_zero hn)⟩
  · refine ⟨hl, some ⟨g, 0, none⟩, cap, rfl, .inr ⟨g, 0, rfl, fun i t ht => ?_⟩⟩
    have hi := (List.getElem?_eq_some_iff.1 ht).1
    obtain ⟨x, hxi⟩ : ∃ x, xs[i]? = some x := ⟨xs[i]'(by omega), List.getElem?_eq_getElem (by omega)⟩
    have c0 := h0.cells (g := g) rfl (i * 3 + 0) x.1 (by rw [flat3 xs i x hxi 0 (by omega)]; rfl)
    have c1 := h0.cells (g := g) rfl (i * 3 + 1) x.2.1 (by rw [flat3 xs i x hxi 1 (by omega)]; rfl)
    have c2 := h0.cells (g := g) rfl (i * 3 + 2) x.2.2 (by rw [flat3 xs i x hxi 2 (by omega)]; rfl)
    rw [add_plain] at c0 c1 c2
    exact ⟨x.1, x.2.1, x.2.2, by simpa using c0, by simpa [Nat.add_assoc] using c1, by simpa [Nat.add_assoc] using c2, hP i t x ht hxi⟩
/-- What a reading leaves. -/
def PrPost (w : World) (C h : Nat) (x : Nat × Except Int Prt) (e : Ending) (w' : World) : Prop :=
  ∃ vf vb vp c, e = .returned (.tuple #[partV vf vb vp, .int .i64 c]) ∧ Tg (fun b => b = C) w w' ∧ Blk w' C #[.int .i64 (x.1 : Nat)] 3 ∧
    ((∃ t, x.2 = .ok t ∧ c = 0 ∧ x.1 ≤ 64 ∧ Stay (fun b => b < w.heap.size) w' (fun W => PtAt h W t vf vb vp)) ∨ (∃ er, x.2 = .error er ∧ c = er ∧ er ≠ 0 ∧ vf = .slice none 0 0 ∧ vb = .slice none 0 0 ∧ vp = .slice none 0 0))
def fin3 (W : World) (R : Nat) (x y z : Value) : World := ((W.setCell ⟨R, 0, none⟩ x).setCell ⟨R, 1, none⟩ y).setCell ⟨R, 2, none⟩ z
theorem fin3_blk {W : World} {R : Nat} {a b c : Value} {t : TypeId} (h : Blk W R #[a, b, c] t) (x y z : Value) : Blk (fin3 W R x y z) R #[x, y, z] t :=
  heap_setCell_same _ _ 2 _ t z (heap_setCell_same _ _ 1 _ t y (heap_setCell_same _ _ 0 _ t x h))
theorem fin3_other {W : World} {R b : Nat} (x y z : Value) (h : b ≠ R) : (fin3 W R x y z).heap[b]? = W.heap[b]? := by
  unfold fin3
  rw [heap_setCell_other _ _ _ _ (by simpa using h), heap_setCell_other _ _ _ _ (by simpa using h), heap_setCell_other _ _ _ _ (by simpa using h)]
theorem fin3_tg {O : Nat → Prop} (W : World) (R : Nat) (x y z : Value) (hO : O R) : Tg O W (fin3 W R x y z) := ((Tg.set W R 0 x hO).trans (Tg.set _ R 1 y hO)).trans (Tg.set _ R 2 z hO)
theorem rd_fin {w W : World} {C h : Nat} {x : Nat × Except Int Prt} {vf vb vp : Value} {c : Int} {A : Act} (hR : Blk W w.heap.size #[vf, vb, vp] 28) (ht : Tg (fun b => b = C) w W) (hC : Blk W C #[.int .i64 (x.1 : Nat)] 3)
    (hans : (∃ t, x.2 = .ok t ∧ c = 0 ∧ x.1 ≤ 64 ∧ Stay (fun b => b < w.heap.size) W (fun W => PtAt h W t vf vb vp)) ∨ (∃ er, x.2 = .error er ∧ c = er ∧ er ≠ 0 ∧ vf = .slice none 0 0 ∧ vb = .slice none 0 0 ∧ vp = .slice none 0 0))
    (hd : A.defers = []) (h6 : A.tmps[6]?.getD undef = .pointer (some ⟨w.heap.size, 0, none⟩)) (h7 : A.tmps[7]?.getD undef = .int .i64 c) :
    bodyPost Tryz.prog Tryz.f29 (PrPost w C h x) .ret A W := by
  obtain ⟨c0, c1, c2⟩ := cells3 hR
  refine bodyPost_ret (v := .tuple #[partV vf vb vp, .int .i64 c]) ?_ hd ⟨vf, vb, vp, c, rfl, ht, hC, hans⟩
  simp [results, Tryz.results29, go_sem, c0, c1, c2, h6, h7, partV]
theorem rd_ret {w W X : World} {C h : Nat} {x : Nat × Except Int Prt} {a b d vf vb vp : Value} {c : Int} {A : Act} (hR : Blk W w.heap.size #[a, b, d] 28) (ht : Tg (fun b => b = C) w W) (hC : Blk W C #[.int .i64 (x.1 : Nat)] 3) (hCw : C < w.heap.size)
    (hans : (∃ t, x.2 = .ok t ∧ c = 0 ∧ x.1 ≤ 64 ∧ Stay (fun b => b ≤ w.heap.size) W (fun W => PtAt h W t vf vb vp)) ∨ (∃ er, x.2 = .error er ∧ c = er ∧ er ≠ 0 ∧ vf = .slice none 0 0 ∧ vb = .slice none 0 0 ∧ vp = .slice none 0 0))
    (hX : Below (fin3 W w.heap.size vf vb vp).heap.size (fin3 W w.heap.size vf vb vp) X)
    (hd : A.defers = []) (h6 : A.tmps[6]?.getD undef = .pointer (some ⟨w.heap.size, 0, none⟩)) (h7 : A.tmps[7]?.getD undef = .int .i64 c) :
    bodyPost Tryz.prog Tryz.f29 (PrPost w C h x) .ret A X := by
  have hf : Tg (fun b => b = w.heap.size) W X := (fin3_tg (O := fun b => b = w.heap.size) W w.heap.size vf vb vp rfl).trans (.of_below hX)
  have hb := fin3_blk hR vf vb vp
  refine rd_fin (hb.below hX hb.lt) (ht.two hf (fun _ _ q => q) (fun b hb q => by omega)) (hf.kept hC (by omega)) ?_ hd h6 h7
  rcases hans with ⟨t, h1, h2, h3, h4⟩ | h1
  · exact .inl ⟨t, h1, h2, h3, h4.go hf (fun b _ q => by omega) (fun b _ q => by omega)⟩
  · exact .inr h1
theorem own_tgb {O : Nat → Prop} {V V' : World} {B e sz n : Nat} {v : Value} {xs : List Value} (h : V.ownsRow B e sz v n xs) (ht : Tg O V V') (hO : ∀ b, B ≤ b → b < V.heap.size → ¬ O b) : V'.ownsRow B e sz v n xs := by
  refine ⟨h.1, ?_⟩
  rcases h.2 with h | ⟨g, cap, cur, h1, h2, h3, h4⟩
  · exact .inl h
  · exact .inr ⟨g, cap, cur, h1, h2, ht.kept h3 (hO g h2 (Array.getElem?_eq_some_iff.1 h3).1), h4⟩
theorem stay_fat {V : World} {B : Nat} {v : Value} {fs : List (ByteArray × ByteArray)} {O : Nat → Prop} (h : OwnF V B v fs) (hl : fs.length ≤ 1000) (hO : ∀ b, B ≤ b → b < V.heap.size → ¬ O b) : Stay O V (fun W => FAt W v fs) := fun W hW => by
  obtain ⟨a, c, rfl, hr⟩ := ownF_view (show OwnF W B v fs from own_tgb h hW hO)
  exact ⟨a, c, rfl, hr, by unfold maxLen; omega⟩
theorem stay_bat {V : World} {B : Nat} {v : Value} {l : List Int} {O : Nat → Prop} (h : Own V B v l) (hb : Byt l) (hl : l.length ≤ maxLen) (hO : ∀ b, B ≤ b → b < V.heap.size → ¬ O b) : Stay O V (fun W => BAt W v l) := fun W hW =>
  own_bat (show Own W B v l from own_tgb h hW hO) hb hl
/-- Where a part begins and ends. -/
theorem betw_le : ∀ (S : List (List Int)) (nx : List Int) (p bg : Nat) (op : Bool) (out ts : List (Nat × Nat)), bg ≤ p → (∀ x ∈ out, x.1 ≤ x.2 ∧ x.2 ≤ p) → betwL nx p bg op out S = some ts → ∀ x ∈ ts, x.1 ≤ x.2 ∧ x.2 ≤ p + S.flatten.length
  | [], nx, p, bg, op, out, ts, _, _, h => by simp [betwL] at h
  | q :: S, nx, p, bg, op, out, ts, hbg, ho, h => by
    have hadd : ∀ x ∈ out ++ [(bg, max bg (p - 2))], x.1 ≤ x.2 ∧ x.2 ≤ p := by
      intro x hx
      rcases List.mem_append.1 hx with hx | hx
      · exact ho x hx
      · simp at hx; subst hx; simp only; omega
    rw [betwL] at h
    split at h
    · cases h
      intro x hx
      have := hadd x hx
      omega
    · have := betw_le S nx (p + q.length) _ _ _ ts (by split <;> omega) (fun x hx => by
        split at hx
        · have := hadd x hx; omega
        · have := ho x hx; omega) h
      intro x hx
      have := this x hx
      rw [List.flatten_cons, List.length_append]; omega
theorem betw_in {l bd : List Int} {ts : List (Nat × Nat)} (h : betw l bd = some ts) : ∀ x ∈ ts, x.1 ≤ x.2 ∧ x.2 ≤ l.length := by
  have := betw_le _ _ 0 0 false [] ts (Nat.le_refl _) (fun x hx => by simp at hx) h
  rw [split_flat, Nat.zero_add] at this
  exact this
theorem betw_many : ∀ (S : List (List Int)) (nx : List Int) (p bg : Nat) (op : Bool) (out ts : List (Nat × Nat)), betwL nx p bg op out S = some ts → ts.length ≤ out.length + S.length
  | [], nx, p, bg, op, out, ts, h => by simp [betwL] at h
  | q :: S, nx, p, bg, op, out, ts, h => by
    rw [betwL] at h
    split at h
    · cases h; simp
    · have := betw_many S nx _ _ _ _ ts h
      rw [List.length_cons]
      split at this
      · rw [List.length_append] at this; simp at this; omega
      · omega
theorem betw_pos : ∀ (S : List (List Int)) (nx : List Int) (p bg : Nat) (op : Bool) (out ts : List (Nat × Nat)), betwL nx p bg op out S = some ts → 0 < ts.length
  | [], nx, p, bg, op, out, ts, h => by simp [betwL] at h
  | q :: S, nx, p, bg, op, out, ts, h => by
    rw [betwL] at h
    split at h
    · cases h; simp
    · exact betw_pos S nx _ _ _ _ ts h
theorem betw_count {l bd : List Int} {ts : List (Nat × Nat)} (h : betw l bd = some ts) : ts.length ≤ l.length + 1 := by
  have h1 := betw_many _ _ 0 0 false [] ts h
  have h2 := split_count l.length l
  simp at h1; omega
end Go.Proofs.YtmdkmedlncfcbaaGreatDoor
