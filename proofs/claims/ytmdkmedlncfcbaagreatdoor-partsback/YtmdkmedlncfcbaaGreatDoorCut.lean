/-
  The contracts of bytes.Cut at a pair and at a colon.
-/
import Derived.Test.YtmdkmedlncfcbaaGreatDoorShut
import Derived.Test.YtmdkmedlncfcbaaGreatDoorLmath
namespace Go.Proofs.YtmdkmedlncfcbaaGreatDoor
open Go.RowKit Go.Shelf
set_option linter.unusedVariables false

/-- Nothing but draws. -/
def Qt (w w' : World) : Prop := ∃ q, w' = w.drewN q
theorem Qt.rowK {w w' : World} (h : Qt w w') {k : IntKind} {a : Option Addr} {l : List Int} (r : RowK k w a l) : RowK k w' a l := by obtain ⟨q, rfl⟩ := h; exact r
theorem Qt.row {w w' : World} (h : Qt w w') {a : Option Addr} {l : List Int} (r : Row w a l) : Row w' a l := by obtain ⟨q, rfl⟩ := h; exact r
theorem Qt.bx {w w' : World} (h : Qt w w') (B g : Nat) : Bx B g w w' := by obtain ⟨q, rfl⟩ := h; exact (Bx.refl B g w).drewN q
theorem Qt.below {w w' : World} (h : Qt w w') (B : Nat) : Below B w w' := by obtain ⟨q, rfl⟩ := h; exact ⟨rfl, rfl, rfl, Nat.le_refl _, fun _ _ => rfl⟩
theorem Qt.size {w w' : World} (h : Qt w w') : w'.heap.size = w.heap.size := by obtain ⟨q, rfl⟩ := h; rfl
theorem Qt.trans {a b c : World} (h : Qt a b) (k : Qt b c) : Qt a c := by obtain ⟨q, rfl⟩ := h; obtain ⟨r, rfl⟩ := k; exact ⟨q + r, by simp [World.drewN, Nat.add_assoc]⟩

/-- The library's variable holds a number. -/
def Mx (w : World) : Prop := ∃ m, w.cell? ⟨0, 0, none⟩ = some (.int .i64 m)
theorem Mx.pos {w : World} (h : Mx w) : 0 < w.heap.size := by obtain ⟨m, h⟩ := h; exact World.block_lt_of_cell? w _ h
theorem Mx.below {w w' : World} {n : Nat} (h : Mx w) (hb : Below n w w') (hn : 0 < n) : Mx w' := by obtain ⟨m, h⟩ := h; exact ⟨m, (hb.cell (p := ⟨0, 0, none⟩) hn).trans h⟩
theorem Mx.keep {w w' : World} (h : Mx w) (hb : Below w.heap.size w w') : Mx w' := h.below hb h.pos


/-- The place of the first colon, or -1. -/
def colonI : List Int → Int
  | [] => -1
  | c :: l => if c = 58 then 0 else if colonI l = -1 then -1 else colonI l + 1
theorem colonI_ge : ∀ l : List Int, -1 ≤ colonI l
  | [] => by simp [colonI]
  | c :: l => by
    have := colonI_ge l
    simp only [colonI]
    split
    · omega
    · split <;> omega
theorem colonI_room : ∀ l : List Int, 0 ≤ colonI l → colonI l + 1 ≤ l.length
  | [], h => by simp [colonI] at h
  | c :: l, h => by
    have := colonI_room l
    have hg := colonI_ge l
    simp only [colonI, List.length_cons] at h ⊢
    split
    · omega
    · split <;> omega
theorem index_colon : ∀ l : List Int, Byt l → Lib.index (Lib.bytesOf l) (Lib.bytesOf [58]) = colonI l
  | [], _ => rfl
  | c :: l, h => by
    have ih := index_colon l h.tail
    have hc := h.head
    have e1 : ((58 : UInt8) == UInt8.ofNat c.toNat) = decide (c = 58) := by
      have := eq_byte (a := 58) (b := c) (by decide) (by decide) hc.1 hc.2
      rw [show UInt8.ofNat (58 : Int).toNat = 58 from rfl] at this
      rw [this]; exact decide_eq_decide.2 ⟨fun h => h.symm, fun h => h.symm⟩
    rw [show Lib.bytesOf (c :: l) = UInt8.ofNat c.toNat :: Lib.bytesOf l from rfl]
    unfold Lib.index colonI
    rw [ih]
    rw [show Lib.bytesOf [58] = [58] from rfl]
    have e3 : List.isPrefixOf [58] (UInt8.ofNat c.toNat :: Lib.bytesOf l) = decide (c = 58) := by
      simp only [List.isPrefixOf]
      rw [e1, Bool.and_true]
    rw [e3]
    by_cases q : c = 58
    · simp [q]
    · rw [if_neg (by simpa using q), if_neg q]
      simp only [beq_iff_eq]
set_option maxRecDepth 100000 in
theorem cut_any (a p : Option Addr) (n c c2 : Nat) (l : List Int) (w : World) (hl : l.length = n) (hb : Byt l) (hr : Row w a l) (hp : Row w p [13, 10]) (hnil : a = none → c = 0) (hc : n ≤ c) (hn : n ≤ 10000000) (hm : Mx w) :
    Calls Tryz.prog 107 #[.slice a n c, .slice p 2 c2] w fun e w' => e = .returned (Lib.cutV a n c 2 (pairI l)) ∧ Qt w w' := by
  obtain ⟨m, hm⟩ := hm
  have h := bytes_Cut_all a p n c 2 c2 l [13, 10] m w hl rfl hb (by intro y hy; simp at hy; omega) (by rw [← hl]; exact bytesIn_row hr) (bytesIn_row hp) hnil hc (by omega) (by omega) hm
  rw [index_pair l hb] at h
  exact h
set_option maxRecDepth 100000 in
theorem cut_colon (a p : Option Addr) (n c c2 : Nat) (l : List Int) (w : World) (hl : l.length = n) (hb : Byt l) (hr : Row w a l) (hp : Row w p [58]) (hnil : a = none → c = 0) (hc : n ≤ c) (hn : n ≤ 10000000) (hm : Mx w) :
    Calls Tryz.prog 107 #[.slice a n c, .slice p 1 c2] w fun e w' => e = .returned (Lib.cutV a n c 1 (colonI l)) ∧ Qt w w' := by
  obtain ⟨m, hm⟩ := hm
  have h := bytes_Cut_all a p n c 1 c2 l [58] m w hl rfl hb (by intro y hy; simp at hy; omega) (by rw [← hl]; exact bytesIn_row hr) (bytesIn_row hp) hnil hc (by omega) (by omega) hm
  rw [index_colon l hb] at h
  exact h
end Go.Proofs.YtmdkmedlncfcbaaGreatDoor
