/-
  Which addresses may be; the contracts of Right, Plain and Normal.
-/
import Derived.Test.YtomcjkghneingabDoorAtoms
import Derived.Lib.ConvBytes
namespace Go.Proofs.YtomcjkghneingabDoor
open Go.RowKit
set_option linter.unusedVariables false

set_option maxRecDepth 100000 in
theorem heap_alloc_last (w : World) (o : Obj) : (w.alloc o).heap[w.heap.size]? = some o := World.alloc_heap_new w o
def localZ (l : List Int) : Bool := decide (l.length ≤ 64) && atomsZ 46 l
set_option maxRecDepth 100000 in
theorem isLocal_any (s : ByteArray) (w : World) (hs : s.size ≤ 1000000000) :
    Calls Tryd.prog 35 #[.string s] w fun e w' => e = .returned (.bool (localZ (nums s))) ∧ Below w.heap.size w w' := by
  have hcall := fun V => isAtoms_any s 46 V hs
  by_cases h64 : s.size ≤ 64
  · have hd : decide ((s.size : Int) ≤ 64) = true := decide_eq_true (by omega)
    have HZ : Hid (localZ (nums s) = atomsZ (((46 : UInt8).toNat : Nat) : Int) (nums s)) := by unfold Hid localZ; rw [nums_len, decide_eq_true h64]; rfl
    go_enter Tryd.func35, Tryd.ntmps35
    go_wp2_with (go_at_call 52; refine (hcall _).mono ?_; rintro e w' ⟨rfl, hb⟩)
    go_ret
    exact ⟨by rw [HZ.out]; rfl, hb⟩
  · have hd : decide ((s.size : Int) ≤ 64) = false := decide_eq_false (by omega)
    have HZ : Hid (localZ (nums s) = false) := by unfold Hid localZ; rw [nums_len, decide_eq_false h64]; rfl
    go_enter Tryd.func35, Tryd.ntmps35
    go_wp2
    go_ret
    exact ⟨ret_bool HZ.out.symm, Below.refl _ _⟩
def addrV (n l d : ByteArray) : Value := .agg #[.string n, .string l, .string d]
def rightZ (n l d : List Int) : Bool := localZ l && domainZ d && nameZ n
/-- An address lies in block g. -/
def AAt (w : World) (g : Nat) (n l d : ByteArray) : Prop := g < w.heap.size ∧ w.cell? ⟨g, 0, none⟩ = some (.string n) ∧ w.cell? ⟨g, 1, none⟩ = some (.string l) ∧ w.cell? ⟨g, 2, none⟩ = some (.string d)
theorem AAt.below {w w' : World} {g : Nat} {n l d : ByteArray} (h : AAt w g n l d) (hb : Below w.heap.size w w') : AAt w' g n l d :=
  ⟨Nat.lt_of_lt_of_le h.1 hb.size, (hb.cell (p := ⟨g, 0, none⟩) h.1).trans h.2.1, (hb.cell (p := ⟨g, 1, none⟩) h.1).trans h.2.2.1, (hb.cell (p := ⟨g, 2, none⟩) h.1).trans h.2.2.2⟩
theorem aat_new (w : World) (n l d : ByteArray) : AAt (w.alloc (.cells #[.string n, .string l, .string d] 48)) w.heap.size n l d := by
  refine ⟨by simp, ?_, ?_, ?_⟩ <;> (rw [World.cell?_alloc_mark]; rfl)
set_option maxRecDepth 100000 in
set_option maxHeartbeats 1000000 in
theorem right_any (n l d : ByteArray) (w : World) (h1 : n.size ≤ 1000000000) (h2 : l.size ≤ 1000000000) (h3 : d.size ≤ 1000000000) :
    Calls Tryd.prog 19 #[addrV n l d] w fun e w' => e = .returned (.bool (rightZ (nums n) (nums l) (nums d))) ∧ Below w.heap.size w w' := by
  unfold addrV
  go_enter Tryd.func19, Tryd.ntmps19
  go_wp2_with fail
  refine (isLocal_any l _ h2).mono ?_
  rintro e w1 ⟨rfl, hb1⟩
  have HA1 : Hid (AAt w1 w.heap.size n l d) := (aat_new w n l d).below hb1
  have HB1 : Hid (Below w.heap.size w w1) := (keep w _).trans (hb1.mono (by simp))
  obtain ⟨_, x0, x1, x2⟩ := HA1.out
  clear hb1
  cases hl : localZ (nums l) with
  | false =>
    have HZ : Hid (rightZ (nums n) (nums l) (nums d) = false) := by unfold Hid rightZ; rw [hl]; rfl
    go_wp2
    go_ret
    exact ⟨ret_bool HZ.out.symm, HB1.out⟩
  | true =>
    go_wp2_with fail
    refine (isDomain_any d _ h3).mono ?_
    clear x0 x1 x2
    rintro e w2 ⟨rfl, hb2⟩
    have HA2 : Hid (AAt w2 w.heap.size n l d) := HA1.out.below hb2
    have HB2 : Hid (Below w.heap.size w w2) := HB1.out.trans (hb2.mono HB1.out.size)
    obtain ⟨_, x0, x1, x2⟩ := HA2.out
    clear hb2
    cases hd : domainZ (nums d) with
    | false =>
      have HZ : Hid (rightZ (nums n) (nums l) (nums d) = false) := by unfold Hid rightZ; rw [hd]; simp
      go_wp2
      go_ret
      exact ⟨ret_bool HZ.out.symm, HB2.out⟩
    | true =>
      have HZ : Hid (rightZ (nums n) (nums l) (nums d) = nameZ (nums n)) := by unfold Hid rightZ; rw [hl, hd]; rfl
      go_wp2_with (go_at_call 37; refine (isName_any n _ h1).mono ?_; rintro e w3 ⟨rfl, rfl⟩)
      go_ret
      exact ⟨ret_bool HZ.out.symm, HB2.out⟩
/-- '[]byte(s)': a new row. -/
theorem conv_bytes (s : ByteArray) (w : World) (hs : s.size ≤ maxLen) :
    ∃ cap w', (convert 9 55 (.string s)).run Tryd.prog w = .ok (.slice (some ⟨w.heap.size, 0, none⟩) s.size cap) w' ∧ s.size ≤ cap ∧ cap ≤ 9223372036854775807 ∧ Row w' (some ⟨w.heap.size, 0, none⟩) (nums s) ∧ Below w.heap.size w w' ∧ ∀ i, i < s.size → w'.frozen? ⟨w.heap.size, i, none⟩ = false := by
  refine ⟨_, _, Lib.run_convert_string_bytes (P := Tryd.prog) w 9 55 5 s Tryd.underlying9 Tryd.underlying55 Tryd.underlying5, grownCap_ge _ _ _ _, ?_, .inr ⟨w.heap.size, 0, rfl, fun i hi => ?_⟩, ⟨rfl, rfl, rfl, by rw [Lib.bytesWorld_size]; omega, fun k hk => Lib.bytesWorld_at_old w 5 s k hk⟩, fun i hi => ?_⟩
  · have := grownCap_le_maxLen w s.size 0 5 hs
    unfold maxLen at this
    exact this
  · rw [nums_len] at hi
    rw [Nat.zero_add, Lib.bytesWorld_cell w 5 s i hi]
    congr 2
    have h1 : i < s.data.toList.length := by rw [Array.length_toList]; exact hi
    rw [nums, List.getD_eq_getElem?_getD, List.getD_eq_getElem?_getD, List.getElem?_map, List.getElem?_eq_getElem h1]
    rfl
  · have hsz : i < (Lib.bytesCells w 5 s).size := by
      unfold Lib.bytesCells
      rw [Array.size_append, Array.size_map]
      have : s.data.size = s.size := rfl
      omega
    simp only [World.frozen?, Lib.bytesWorld_at_new]
    simp
    omega
theorem row_set {w : World} {b : Nat} {l : List Int} {k : Nat} (v : Int) (h : Row w (some ⟨b, 0, none⟩) l) (hk : k < l.length) : Row (w.setCell ⟨b, k, none⟩ (.int .u8 v)) (some ⟨b, 0, none⟩) (l.set k v) := by
  rcases h with rfl | ⟨b', off, e, h⟩
  · simp at hk
  · simp at e
    obtain ⟨rfl, rfl⟩ := e
    refine .inr ⟨b, 0, rfl, fun i hi => ?_⟩
    rw [List.length_set] at hi
    by_cases q : i = k
    · subst q
      rw [Nat.zero_add, World.cell?_setCell_same _ _ _ (by have := h i hi; rw [Nat.zero_add] at this; rw [this])]
      simp [List.getD_eq_getElem?_getD, hi]
    · rw [World.cell?_setCell_other _ _ _ _ (by simp), h i hi]
      simp [List.getD_eq_getElem?_getD, Ne.symm q]
theorem smallZ_byt {c : Int} (h : 0 ≤ c ∧ c < 256) : 0 ≤ smallZ c ∧ smallZ c < 256 := by unfold smallZ; split <;> omega
theorem map_small_byt {l : List Int} (h : Byt l) : Byt (l.map smallZ) := by
  intro x hx
  obtain ⟨y, hy, rfl⟩ := List.mem_map.1 hx
  exact smallZ_byt (h y hy)
def normL (l d : List Int) : List Int := (l ++ 64 :: d).map smallZ
/-- What Normal answers. -/
def NAns (r : Bool) (x : ByteArray) (l d : List Int) : Prop := (r = true → nums x = normL l d) ∧ (r = false → x = ⟨#[]⟩)
end Go.Proofs.YtomcjkghneingabDoor
