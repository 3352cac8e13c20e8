/-
  The contract of alive, and what the listed variables hold.
-/
import Derived.Test.YtlhhbmolkiojfaaDoorCe
import Derived.Test.YtlhhbmolkiojfaaDoorCf
import Derived.Lib.LaidTab
import Derived.Stop.LaidErr
import Derived.MakeChecks
import Derived.OpenShut
namespace Go.Proofs.YtlhhbmolkiojfaaDoor
open Go.RowKit
set_option linter.unusedVariables false

theorem t9_of {W : World} {rest : List (String × DataW Unit)} (h : laidMet Tryd.prog (("posthorn/charset.signsOf9", Rows.laid_posthorn_charset_signsOf9) :: rest) W) : T9 W := by
  have hg : Tryd.prog.globalNamed "posthorn/charset.signsOf9" = some 0 := by kernel_rfl
  have hT : Lib.TabIs Tryd.prog W "posthorn/charset.signsOf9" .i32 s9 := Lib.tabIs_of_head hg (by kernel_rfl) Tryd.underlying63 Tryd.underlying21 (by kernel_rfl) (by kernel_rfl) h
  intro i hi
  exact hT.cell hg i hi
theorem tW_of {W : World} {rest : List (String × DataW Unit)} (h : laidMet Tryd.prog (("posthorn/charset.signsOfWindows", Rows.laid_posthorn_charset_signsOfWindows) :: rest) W) : TW W := by
  have hg : Tryd.prog.globalNamed "posthorn/charset.signsOfWindows" = some 1 := by kernel_rfl
  have hT : Lib.TabIs Tryd.prog W "posthorn/charset.signsOfWindows" .i32 sW := Lib.tabIs_of_head hg (by kernel_rfl) Tryd.underlying63 Tryd.underlying21 (by kernel_rfl) (by kernel_rfl) h
  intro i hi
  exact hT.cell hg i hi

theorem set_w1252 : setB (lowS ⟨#[87, 105, 110, 100, 111, 119, 115, 45, 49, 50, 53, 50]⟩) = 5 := by kernel_rfl
theorem set_l9 : setB (lowS ⟨#[105, 115, 111, 45, 56, 56, 53, 57, 45, 49, 53]⟩) = 4 := by kernel_rfl
theorem set_l1 : setB (lowS ⟨#[108, 97, 116, 105, 110, 49]⟩) = 3 := by kernel_rfl
theorem set_le : setB (lowS ⟨#[85, 84, 70, 45, 49, 54, 76, 69]⟩) = 8 := by kernel_rfl
theorem set_none : setB (lowS ⟨#[]⟩) = 0 := by kernel_rfl
theorem flat8364 : Ut.flat [8364] = [226, 130, 172] := by decide
theorem row_k {w : World} {a : Option Addr} {l : List Int} (h : RowK .u8 w a l) : Row w a l := h
set_option maxRecDepth 100000 in
set_option maxHeartbeats 4000000 in
theorem alive_any (w : World) (h9 : T9 w) (hW : TW w) :
    Calls Tryd.prog 9 #[] w fun e w' => e = .returned (.bool true) ∧ Below w.heap.size w w' := by
  have KD : ∀ W : World, Below w.heap.size w W → ∀ a cap, 1 ≤ cap → cap ≤ maxLen → Row W a [128] → Calls Tryd.prog 10 #[.string ⟨#[87, 105, 110, 100, 111, 119, 115, 45, 49, 50, 53, 50]⟩, .slice a 1 cap] W fun e w' => ∃ v, e = .returned (.tuple #[v, .agg #[.int .i64 0, .int .i64 0]]) ∧ Own w' W.heap.size v [226, 130, 172] ∧ Below W.heap.size W w' := fun W hb a cap h1 h2 hr => by
    have := decode_yes ⟨#[87, 105, 110, 100, 111, 119, 115, 45, 49, 50, 53, 50]⟩ a 1 cap [128] [8364] W 5 0 (by decide) (by rw [set_w1252]; decide) (by rw [set_w1252]; rfl) rfl (by intro x hx; simp at hx; omega) (by intro x hx; simp at hx; subst hx; exact ⟨by decide, by decide⟩) (by decide) h1 h2 (by omega) hr (h9.below hb) (hW.below hb)
    rw [flat8364] at this
    exact this
  have KE : ∀ W : World, Below w.heap.size w W → ∀ a cap, 3 ≤ cap → cap ≤ maxLen → Row W a [226, 130, 172] → Calls Tryd.prog 14 #[.string ⟨#[105, 115, 111, 45, 56, 56, 53, 57, 45, 49, 53]⟩, .slice a 3 cap] W fun e w' => ∃ v, e = .returned (.tuple #[v, .agg #[.int .i64 0, .int .i64 0]]) ∧ Own w' W.heap.size v [164] ∧ Below W.heap.size W w' := fun W hb a cap h1 h2 hr => by
    have := encode_yes ⟨#[105, 115, 111, 45, 56, 56, 53, 57, 45, 49, 53]⟩ a 3 cap [8364] W 4 (by decide) set_l9 (by decide) (by decide) (by decide) (by intro x hx; simp at hx; subst hx; exact ⟨by decide, by decide⟩) h1 h2 (by omega) (by rw [flat8364]; exact hr) (h9.below hb) (hW.below hb)
    exact this
  have KL : ∀ W : World, Below w.heap.size w W → ∀ a cap, 3 ≤ cap → cap ≤ maxLen → Row W a [226, 130, 172] → Calls Tryd.prog 14 #[.string ⟨#[108, 97, 116, 105, 110, 49]⟩, .slice a 3 cap] W fun e w' => e = .returned (.tuple #[.slice none 0 0, .agg #[.int .i64 0, .int .i64 10]]) ∧ Below W.heap.size W w' := fun W hb a cap h1 h2 hr => by
    have := encode_no ⟨#[108, 97, 116, 105, 110, 49]⟩ a 3 cap [] 8364 [] W 3 (by decide) set_l1 (by decide) (by decide) (by decide) (by intro x hx; simp at hx) (by decide) (by intro x hx; simp at hx) (by decide) h1 h2 (by omega) (by rw [show Ut.flat ([] ++ 8364 :: []) = [226, 130, 172] from flat8364]; exact hr) (h9.below hb) (hW.below hb)
    exact this
  have K8 : ∀ W : World, Calls Tryd.prog 12 #[.string ⟨#[85, 84, 70, 45, 49, 54, 76, 69]⟩] W fun e w' => e = .returned (.bool true) ∧ Below W.heap.size W w' := fun W => by
    have := known_any ⟨#[85, 84, 70, 45, 49, 54, 76, 69]⟩ W (by decide)
    rw [set_le] at this
    exact this
  have K0 : ∀ W : World, Calls Tryd.prog 12 #[.string ⟨#[]⟩] W fun e w' => e = .returned (.bool false) ∧ Below W.heap.size W w' := fun W => by
    have := known_any ⟨#[]⟩ W (by decide)
    rw [set_none] at this
    exact this
  clear h9 hW
  go_enter Tryd.func9, Tryd.ntmps9
  go_wp2_with fail
  refine (KD _ (keep w _) _ 1 (by omega) (by decide) (row_new w [128])).mono ?_
  rintro e w1 ⟨v1, rfl, hown1, hb1⟩
  obtain ⟨a1, cap1, rfl, hc1, hm1, hrow1, hn1⟩ := own_row' hown1
  have B1 : Below w.heap.size w w1 := (keep w _).trans (hb1.mono (by simp))
  have B1' : Below w.heap.size w (w1.alloc (.cells #[.int .i64 0, .int .i64 0] 26)) := B1.alloc B1.size _
  have R1 := row_below (row_k hrow1) (keep w1 (.cells #[.int .i64 0, .int .i64 0] 26))
  go_wp2_with fail
  refine (KE _ B1' a1 cap1 hc1 hm1 R1).mono ?_
  rintro e w2 ⟨v2, rfl, hown2, hb2⟩
  obtain ⟨a2, cap2, rfl, hc2, hm2, hrow2, hn2⟩ := own_row' hown2
  have B2 : Below w.heap.size w w2 := B1'.trans (hb2.mono B1'.size)
  have B2' : Below w.heap.size w (w2.alloc (.cells #[.int .i64 0, .int .i64 0] 26)) := B2.alloc B2.size _
  have R1b := row_below (row_below R1 hb2) (keep w2 (.cells #[.int .i64 0, .int .i64 0] 26))
  have R2 := row_below (row_k hrow2) (keep w2 (.cells #[.int .i64 0, .int .i64 0] 26))
  go_wp2_with fail
  refine (KL _ B2' a1 cap1 hc1 hm1 R1b).mono ?_
  rintro e w3 ⟨rfl, hb3⟩
  have B3 : Below w.heap.size w w3 := B2'.trans (hb3.mono B2'.size)
  have B3' : Below w.heap.size w (w3.alloc (.cells #[.int .i64 0, .int .i64 10] 26)) := B3.alloc B3.size _
  have R1c := row_below (row_below R1b hb3) (keep w3 (.cells #[.int .i64 0, .int .i64 10] 26))
  have R2c := row_below (row_below R2 hb3) (keep w3 (.cells #[.int .i64 0, .int .i64 10] 26))
  have hs1 : w.heap.size ≤ w1.heap.size := B1.size
  have hs2 : w1.heap.size + 1 ≤ w2.heap.size := by have := hb2.size; simpa using this
  have hs3 : w2.heap.size + 1 ≤ w3.heap.size := by have := hb3.size; simpa using this
  have k3 := keep w3 (.cells #[.int .i64 0, .int .i64 10] 26)
  have a0 : (w3.alloc (.cells #[.int .i64 0, .int .i64 10] 26)).cell? ⟨w1.heap.size, 0, none⟩ = some (.int .i64 0) := by
    rw [k3.cell (by simp; omega), hb3.cell (by simp; omega), (keep w2 _).cell (by simp; omega), hb2.cell (by simp)]; simp
  have a0' : (w3.alloc (.cells #[.int .i64 0, .int .i64 10] 26)).cell? ⟨w1.heap.size, 1, none⟩ = some (.int .i64 0) := by
    rw [k3.cell (by simp; omega), hb3.cell (by simp; omega), (keep w2 _).cell (by simp; omega), hb2.cell (by simp)]; simp
  have b0 : (w3.alloc (.cells #[.int .i64 0, .int .i64 10] 26)).cell? ⟨w2.heap.size, 0, none⟩ = some (.int .i64 0) := by
    rw [k3.cell (by simp; omega), hb3.cell (by simp)]; simp
  have b0' : (w3.alloc (.cells #[.int .i64 0, .int .i64 10] 26)).cell? ⟨w2.heap.size, 1, none⟩ = some (.int .i64 0) := by
    rw [k3.cell (by simp; omega), hb3.cell (by simp)]; simp
  have kc := conv_row 3 cap1 rfl R1c
  obtain ⟨bb, off, rfl, cc⟩ := row_one R2c
  have s3 : ((strOfNums [226, 130, 172]).toList == [226, 130, 172]) = true := by rw [toList_str]; decide
  have hlen1 : ([164] : List Int).length = 1 := rfl
  have hlen3 : ([226, 130, 172] : List Int).length = 3 := rfl
  rw [hlen1] at hc2
  have HB3 : Hid (Below w.heap.size w (w3.alloc (.cells #[.int .i64 0, .int .i64 10] 26))) := B3'
  clear R1 R1b R1c R2 R2c hown1 hown2 hrow1 hrow2 hb1 hb2 hb3 B1 B1' B2 B2' B3 B3' KD KE KL k3
  go_wp2_with (first | (go_at_call_of 12 (Value.string ⟨#[]⟩); refine (K0 _).mono ?_; rintro e w5 ⟨rfl, hb5⟩) | (go_at_call 12; refine (K8 _).mono ?_; rintro e w4 ⟨rfl, hb4⟩))
  go_ret
  exact ⟨rfl, HB3.out.trans ((hb4.mono HB3.out.size).trans (hb5.mono (Nat.le_trans HB3.out.size hb4.size)))⟩
end Go.Proofs.YtlhhbmolkiojfaaDoor
