/-
  What the listed variables hold.
-/
import Derived.Test.YtkamnphiocoebaaDoorAl
import Derived.Lib.LaidTab
import Derived.Stop.LaidErr
import Derived.MakeChecks
import Derived.OpenShut
namespace Go.Proofs.YtkamnphiocoebaaDoor
open Go.RowKit
set_option linter.unusedVariables false

theorem places_of {W : World} {rest : List (String × DataW Unit)} (h : laidMet Tryd.prog (("posthorn/when.places", Rows.laid_posthorn_when_places) :: rest) W) : Pl W := by
  obtain ⟨ps, ⟨g', t', cs, fuel, p, q, hg', ht', hvar, hd, _, _⟩, _⟩ := h
  have hg : Tryd.prog.globalNamed "posthorn/when.places" = some 0 := by kernel_rfl
  have hty : (Tryd.prog.globals[0]?).map (·.type) = some 43 := by kernel_rfl
  obtain rfl := Option.some.inj (hg.symm.trans hg')
  obtain rfl := Option.some.inj (hty.symm.trans ht')
  obtain ⟨cs⟩ := cs
  have c42 : Tryd.prog.cellsOf 42 = 2 := by kernel_rfl
  have c43 : Tryd.prog.cellsOf 43 = 12 := by kernel_rfl
  have c3 : Tryd.prog.cellsOf 3 = 1 := by kernel_rfl
  obtain ⟨xs, m, rfl, hx, hl, hxl, hf⟩ := DataW.trod_array Tryd.underlying43 hd
  rw [c43] at hl
  simp only at hl hf
  have hxs : xs.map (·.1) = [Lib.tabData .i64 [0, 4], Lib.tabData .i64 [4, 6], Lib.tabData .i64 [6, 8], Lib.tabData .i64 [9, 11], Lib.tabData .i64 [11, 13], Lib.tabData .i64 [13, 15]] := by
    have := congrArg Prod.fst hx
    simp only [Rows.laid_posthorn_when_places, DataW.agg.injEq] at this
    rw [← this]; rfl
  have key : ∀ i, i < 6 → ∀ zs, ([Lib.tabData .i64 [0, 4], Lib.tabData .i64 [4, 6], Lib.tabData .i64 [6, 8], Lib.tabData .i64 [9, 11], Lib.tabData .i64 [11, 13], Lib.tabData .i64 [13, 15]] : List (DataW Unit))[i]? = some (Lib.tabData .i64 zs) → (cs.drop (i * 2)).take 2 = zs.map fun z => Value.int .i64 z := by
    intro i hi zs hz
    have h1 := hf i hi
    rw [c42] at h1
    rw [← hxs, List.getElem?_map] at hz
    obtain ⟨y, hy, e⟩ := Option.map_eq_some_iff.1 hz
    rw [hy] at h1
    obtain ⟨y1, y2⟩ := y
    simp only at e
    subst e
    exact Lib.cells_of_tab Tryd.underlying42 Tryd.underlying3 c3 c42 h1
  have k0 := key 0 (by omega) _ rfl
  have k1 := key 1 (by omega) _ rfl
  have k2 := key 2 (by omega) _ rfl
  have k3 := key 3 (by omega) _ rfl
  have k4 := key 4 (by omega) _ rfl
  have k5 := key 5 (by omega) _ rfl
  match cs, hl with
  | [a0, a1, a2, a3, a4, a5, a6, a7, a8, a9, a10, a11], _ =>
    simp at k0 k1 k2 k3 k4 k5
    obtain ⟨rfl, rfl⟩ := k0
    obtain ⟨rfl, rfl⟩ := k1
    obtain ⟨rfl, rfl⟩ := k2
    obtain ⟨rfl, rfl⟩ := k3
    obtain ⟨rfl, rfl⟩ := k4
    obtain ⟨rfl, rfl⟩ := k5
    intro i hi
    have := World.var?_cell hg hvar i
    rw [this]
    have h12 : i = 0 ∨ i = 1 ∨ i = 2 ∨ i = 3 ∨ i = 4 ∨ i = 5 ∨ i = 6 ∨ i = 7 ∨ i = 8 ∨ i = 9 ∨ i = 10 ∨ i = 11 := by omega
    rcases h12 with rfl | rfl | rfl | rfl | rfl | rfl | rfl | rfl | rfl | rfl | rfl | rfl <;> rfl
theorem ahead_of {W : World} {rest : List (String × DataW Unit)} (h : laidMet Tryd.prog (("posthorn/when.ahead", Rows.laid_posthorn_when_ahead) :: rest) W) : Ah W := by
  have hg : Tryd.prog.globalNamed "posthorn/when.ahead" = some 1 := by kernel_rfl
  have hT : Lib.TabIs Tryd.prog W "posthorn/when.ahead" .i64 aheadL := Lib.tabIs_of_head hg (by kernel_rfl) Tryd.underlying61 Tryd.underlying2 (by kernel_rfl) (by kernel_rfl) h
  intro i hi
  exact hT.cell hg i hi
theorem sizes_of {W : World} {rest : List (String × DataW Unit)} (h : laidMet Tryd.prog (("posthorn/when.clockSizes", Rows.laid_posthorn_when_clockSizes) :: rest) W) : Cs W := by
  have hg : Tryd.prog.globalNamed "posthorn/when.clockSizes" = some 2 := by kernel_rfl
  have hT : Lib.TabIs Tryd.prog W "posthorn/when.clockSizes" .i64 [3600, 60, 1] := Lib.tabIs_of_head hg (by kernel_rfl) Tryd.underlying69 Tryd.underlying2 (by kernel_rfl) (by kernel_rfl) h
  intro i hi
  exact hT.cell hg i hi
theorem pow_of {W : World} {rest : List (String × DataW Unit)} (h : laidMet Tryd.prog (("internal/strconv.uint64pow10", Rows.laid_internal_strconv_uint64pow10) :: rest) W) : Tb W :=
  Lib.tabIs_of_head (by kernel_rfl : Tryd.prog.globalNamed "internal/strconv.uint64pow10" = some 3) (by kernel_rfl) Tryd.underlying78 Tryd.underlying72 (by kernel_rfl) (by kernel_rfl) h
end Go.Proofs.YtkamnphiocoebaaDoor
