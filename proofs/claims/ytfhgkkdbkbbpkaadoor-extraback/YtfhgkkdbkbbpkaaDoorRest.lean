/-
  A text that is read: what is taken off its front; the contracts of blanks, sign, word and name.
-/
import Derived.Test.YtfhgkkdbkbbpkaaDoorSmall
import Derived.Test.YtfhgkkdbkbbpkaaDoorTrim
namespace Go.Proofs.YtfhgkkdbkbbpkaaDoor
open Go.RowKit
set_option linter.unusedVariables false

/-- The text that is left lies in block g. -/
def Rs (w : World) (g : Nat) (t : ByteArray) : Prop := w.heap[g]? = some (.cells #[.string t] 69 (0, 0))
/-- All but block g lies as it lay. -/
def Kx (g : Nat) (w w' : World) : Prop := Below g w w' ∧ ∀ k, g < k → k < w.heap.size → w'.heap[k]? = w.heap[k]?
theorem Kx.refl (g : Nat) (w : World) : Kx g w w := ⟨Below.refl _ _, fun _ _ _ => rfl⟩
theorem Kx.trans {g : Nat} {a b c : World} (h : Kx g a b) (k : Kx g b c) : Kx g a c := ⟨h.1.trans k.1, fun j h1 h2 => (k.2 j h1 (Nat.lt_of_lt_of_le h2 h.1.size)).trans (h.2 j h1 h2)⟩
theorem Kx.of {g : Nat} {w w' : World} (h : Below w.heap.size w w') (hg : g < w.heap.size) : Kx g w w' := ⟨h.mono (by omega), fun k _ h2 => h.block k h2⟩
theorem Kx.set {g : Nat} (w : World) (i : Nat) (u : Value) : Kx g w (w.setCell ⟨g, i, none⟩ u) :=
  ⟨(Below.refl g w).setCell (p := ⟨g, i, none⟩) (Nat.le_refl _) u, fun k h1 h2 => heap_setCell_other _ _ _ _ (by simp; omega)⟩
theorem Rs.lt {w : World} {g : Nat} {t : ByteArray} (h : Rs w g t) : g < w.heap.size := (Array.getElem?_eq_some_iff.1 h).1
theorem Rs.cell {w : World} {g : Nat} {t : ByteArray} (h : Rs w g t) : w.cell? ⟨g, 0, none⟩ = some (.string t) := by rw [cell_of_row w _ _ _ _ _ h]; rfl
theorem Rs.frozen {w : World} {g : Nat} {t : ByteArray} (h : Rs w g t) : w.frozen? ⟨g, 0, none⟩ = false := frozen_of_row w _ _ _ _ h
theorem Rs.set {w : World} {g : Nat} {t : ByteArray} (h : Rs w g t) (t' : ByteArray) : Rs (w.setCell ⟨g, 0, none⟩ (.string t')) g t' := heap_setCell_same _ _ 0 _ 69 _ h
theorem Rs.below {w w' : World} {g : Nat} {t : ByteArray} (h : Rs w g t) (hb : Below w.heap.size w w') : Rs w' g t := (hb.block g h.lt).trans h
/-- How long is the text in block g? -/
def restLen (w : World) (g : Nat) : Nat :=
  match w.cell? ⟨g, 0, none⟩ with
  | some (.string t) => t.size
  | _ => 0
set_option maxRecDepth 100000 in
theorem restLen_of {w : World} {g : Nat} {t : ByteArray} (h : Rs w g t) : restLen w g = t.size := by unfold restLen; rw [h.cell]

set_option maxRecDepth 100000 in
/-- TrimLeft, of any text. -/
theorem trimL_any (s : ByteArray) (w : World) : Calls Tryd.prog 80 #[.string s, .string ⟨#[32, 9]⟩] w fun e w' => e = .returned (.string (strOfNums (trimQ (nums s)))) ∧ Below w.heap.size w w' := by
  by_cases h0 : 0 < s.size
  · exact trimLeft_any s w h0
  · have hv := (zero_of_info Tryd.info123).1
    have he := empty_list s
    have hz : s.size = 0 := by omega
    rw [decide_eq_true hz] at he
    have he2 : s.toList = [] := by simpa using he
    have HN : Hid (s = strOfNums (trimQ (nums s))) := by
      apply str_ext; rw [List.eq_nil_of_length_eq_zero (show (nums s).length = 0 by rw [nums_len]; omega)]; rfl
    go_enter Tryd.func80, Tryd.ntmps80
    go_wp2
    go_ret
    exact ⟨by rw [← HN.out]; rfl, Below.refl _ _⟩
theorem trim_byt {l : List Int} (h : Byt l) : Byt (trimQ l) := by
  obtain ⟨b, hb, _⟩ := trim_split l
  intro x hx
  exact h x (by rw [hb]; exact List.mem_append_right _ hx)
set_option maxRecDepth 100000 in
theorem blanks_any (g : Nat) (t : ByteArray) (w : World) (h : Rs w g t) :
    Calls Tryd.prog 61 #[.pointer (some ⟨g, 0, none⟩)] w fun e w' => e = .returned (.tuple #[]) ∧ ∃ t', Rs w' g t' ∧ nums t' = trimQ (nums t) ∧ Kx g w w' := by
  have HR : Hid (Rs w g t) := h
  have hc := h.cell
  clear h
  go_enter Tryd.func61, Tryd.ntmps61
  go_wp2_with fail
  refine (trimL_any t _).mono ?_
  rintro e w1 ⟨rfl, hb⟩
  have HB : Hid (Below w.heap.size w w1) := hb
  have HR1 : Hid (Rs w1 g t) := HR.out.below hb
  have hc1 := HR1.out.cell
  have hf1 := HR1.out.frozen
  clear hb hc
  go_wp2
  go_end0
  exact ⟨rfl, _, HR1.out.set _, nums_str (trim_byt (nums_byt t)), (Kx.of HB.out HR.out.lt).trans (Kx.set _ _ _)⟩
/-- Does a sign stand at the front? -/
def signB (c : Int) : List Int → Bool
  | [] => false
  | d :: _ => decide (d = c)
def signR (c : Int) (l : List Int) : List Int := if signB c l = true then l.tail else l
set_option maxRecDepth 100000 in
theorem sign_any (g : Nat) (c : Int) (t : ByteArray) (w : World) (h : Rs w g t) :
    Calls Tryd.prog 63 #[.pointer (some ⟨g, 0, none⟩), .int .u8 c] w fun e w' => e = .returned (.bool (signB c (nums t))) ∧ ∃ t', Rs w' g t' ∧ nums t' = signR c (nums t) ∧ Kx g w w' := by
  have HR : Hid (Rs w g t) := h
  have hc := h.cell
  have hf := h.frozen
  clear h
  have he := empty_list t
  by_cases h0 : t.size = 0
  · rw [decide_eq_true h0] at he
    have he2 : t.toList = [] := by simpa using he
    have HN : Hid (nums t = []) := List.eq_nil_of_length_eq_zero (by rw [nums_len]; exact h0)
    go_enter Tryd.func63, Tryd.ntmps63
    go_wp2
    go_ret
    rw [HN.out]
    exact ⟨rfl, t, HR.out, by rw [HN.out]; rfl, Kx.refl _ _⟩
  · rw [decide_eq_false h0] at he
    have he2 : ¬ t.toList = [] := by simpa using he
    have hlt : 0 < t.size := by omega
    have HD : Hid (nums t = (t[0].toNat : Int) :: (nums t).drop 1) := nums_drop t 0 hlt
    obtain ⟨d, hd⟩ : ∃ d : Int, ((t[0]'hlt).toNat : Int) = d := ⟨_, rfl⟩
    rw [hd] at HD
    by_cases hq : d = c
    · have hb : (d != c) = false := by simp [hq]
      have HS : Hid (signB c (nums t) = true ∧ signR c (nums t) = (nums t).drop 1) := by
        have e : signB c (nums t) = true := by rw [HD.out]; simp [signB, hq]
        refine ⟨e, ?_⟩
        rw [signR, if_pos e]; simp
      clear hq
      go_enter Tryd.func63, Tryd.ntmps63
      go_wp2
      go_ret
      rw [HS.out.1]
      exact ⟨rfl, _, HR.out.set _, by rw [HS.out.2, nums_from], Kx.set _ _ _⟩
    · have hb : (d != c) = true := by simp [hq]
      have HS : Hid (signB c (nums t) = false ∧ signR c (nums t) = nums t) := by
        have e : signB c (nums t) = false := by rw [HD.out]; simp [signB, hq]
        refine ⟨e, ?_⟩
        rw [signR, if_neg (by rw [e]; simp)]
      clear hq
      go_enter Tryd.func63, Tryd.ntmps63
      go_wp2
      go_ret
      rw [HS.out.1]
      exact ⟨rfl, t, HR.out, HS.out.2.symm, Kx.refl _ _⟩
set_option maxRecDepth 100000 in
theorem word_any (g : Nat) (t : ByteArray) (w : World) (h : Rs w g t) (hs : t.size ≤ 1000000000) :
    Calls Tryd.prog 81 #[.pointer (some ⟨g, 0, none⟩)] w fun e w' => ∃ x t', e = .returned (.string x) ∧ nums x = (nums t).takeWhile tokC ∧ Rs w' g t' ∧ nums t' = (nums t).dropWhile tokC ∧ Kx g w w' := by
  have HR : Hid (Rs w g t) := h
  have hc := h.cell
  have hf := h.frozen
  have hn : tokN (nums t) ≤ t.size := by rw [← nums_len]; exact takeWhile_le _ _
  have HT : Hid ((nums t).take (tokN (nums t)) = (nums t).takeWhile tokC) := tok_take _
  have HD : Hid ((nums t).drop (tokN (nums t)) = (nums t).dropWhile tokC) := tok_drop _
  have hcall := tokenEnd_any t w hs
  clear h
  generalize tokN (nums t) = n at hn HT HD hcall
  go_enter Tryd.func81, Tryd.ntmps81
  go_wp2_with (go_at_call 71; refine hcall.mono ?_; rintro e w' ⟨rfl, rfl⟩)
  go_ret
  exact ⟨_, _, rfl, by rw [nums_to]; exact HT.out, HR.out.set _, by rw [nums_from]; exact HD.out, Kx.set _ _ _⟩
set_option maxRecDepth 100000 in
theorem name_any (g : Nat) (t : ByteArray) (w : World) (h : Rs w g t) (hs : t.size ≤ 1000000000) :
    Calls Tryd.prog 62 #[.pointer (some ⟨g, 0, none⟩)] w fun e w' => ∃ x t', e = .returned (.string x) ∧ nums x = ((nums t).takeWhile tokC).map smallZ ∧ Rs w' g t' ∧ nums t' = (nums t).dropWhile tokC ∧ Kx g w w' := by
  go_enter Tryd.func62, Tryd.ntmps62
  go_wp2_with fail
  refine (word_any g t _ h hs).mono ?_
  rintro e w1 ⟨x, t', rfl, hx, hr, ht, hk⟩
  have hxs : x.size ≤ 1000000000 := by
    rw [← nums_len, hx]; have := takeWhile_le tokC (nums t); rw [nums_len] at this; omega
  have HX : Hid (nums x = (nums t).takeWhile tokC) := hx
  have HR : Hid (Rs w1 g t') := hr
  have HT : Hid (nums t' = (nums t).dropWhile tokC) := ht
  have HK : Hid (Kx g w w1) := hk
  clear hx hr ht hk h
  go_wp2_with (go_at_call 54; refine (smallS_any x _ hxs).mono ?_; rintro e w2 ⟨rfl, hb⟩)
  go_ret
  exact ⟨_, _, rfl, by rw [nums_str (map_small_byt (nums_byt x)), HX.out], HR.out.below hb, HT.out, HK.out.trans (Kx.of hb HR.out.lt)⟩
end Go.Proofs.YtfhgkkdbkbbpkaaDoor
