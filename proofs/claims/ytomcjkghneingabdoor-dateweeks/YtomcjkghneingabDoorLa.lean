/-
  What the listed variables hold.
-/
import Derived.Test.YtomcjkghneingabDoorTt
import Derived.Lib.LaidTab
import Derived.Stop.LaidErr
import Derived.MakeChecks
import Derived.OpenShut
namespace Go.Proofs.YtomcjkghneingabDoor
open Go.RowKit
set_option linter.unusedVariables false

theorem cells_of_strs {H : Type} {enc : TypeId × Value → H} {P : Program} {w : World} {base : Nat} {sp : Nat → Bool} {held : Bool} {fuel : Nat} {t e : TypeId} {n : Nat} {cs : List Value} {ss : List (List UInt8)} {p : List MemPlace}
    (ht : P.underlying t = some (.array n e)) (he : P.underlying e = some .string) (hce : P.cellsOf e = 1) (hct : P.cellsOf t = n)
    (h : DataW.trod enc P w base sp held fuel t cs = some (.agg (ss.map fun s => .lit (.string s)), p)) : cs = ss.map fun s => Value.string ⟨s.toArray⟩ := by
  cases fuel with
  | zero => simp [DataW.trod] at h
  | succ fuel =>
    simp only [DataW.trod, ht, hce, hct, Nat.mul_one] at h
    split at h
    · rename_i hl
      obtain ⟨xs, hm, hx⟩ := Option.map_eq_some_iff.1 h
      have hxs : xs.map (·.1) = ss.map fun s => (DataW.lit (.string s) : DataW H) := by
        have := congrArg Prod.fst hx
        simpa using this
      have hxl : xs.length = n := by simpa using Lib.mapM_length hm
      have hzl : ss.length = n := by
        have := congrArg List.length hxs
        simp at this
        omega
      apply List.ext_getElem?
      intro i
      by_cases hi : i < n
      · obtain ⟨b, hb, hf⟩ := Lib.mapM_at hm i i (by simp [hi])
        obtain ⟨z, hc, hz, _⟩ := DataW.trod_string he hf
        subst hz
        have h1 : cs[i]? = some (.string z) := by
          have := congrArg (·[0]?) hc
          simpa [List.getElem?_take, List.getElem?_drop] using this
        have h2 : (xs.map (·.1))[i]? = some (DataW.lit (.string z.data.toList) : DataW H) := by simp [hb]
        rw [hxs] at h2
        simp only [List.getElem?_map, Option.map_eq_some_iff, DataW.lit.injEq, Lit.string.injEq] at h2
        obtain ⟨z', hz', e⟩ := h2
        rw [h1, List.getElem?_map, hz', e]
        simp
      · rw [List.getElem?_eq_none (by omega), List.getElem?_eq_none (by simp; omega)]
    · cases h
theorem strs_of_head {P : Program} {W : World} {name : String} {ss : List (List UInt8)} {rest : List (String × DataW Unit)} {g : Nat} {t e : TypeId} {n : Nat}
    (hg : P.globalNamed name = some g) (hty : (P.globals[g]?).map (·.type) = some t) (ht : P.underlying t = some (.array n e)) (he : P.underlying e = some .string) (hce : P.cellsOf e = 1) (hct : P.cellsOf t = n)
    (h : laidMet P ((name, .agg (ss.map fun s => .lit (.string s))) :: rest) W) : ∀ i s, ss[i]? = some s → W.cell? ⟨g, i, none⟩ = some (.string ⟨s.toArray⟩) := by
  obtain ⟨ps, ⟨g', t', cs, fuel, p, q, hg', ht', hvar, hd, _, _⟩, _⟩ := h
  obtain rfl := Option.some.inj (hg.symm.trans hg')
  obtain rfl := Option.some.inj (hty.symm.trans ht')
  intro i s hs
  have e1 := cells_of_strs ht he hce hct hd
  rw [World.var?_cell hg hvar i, ← Array.getElem?_toList, e1, List.getElem?_map, hs]; rfl
theorem ahead_of {W : World} {rest : List (String × DataW Unit)} (h : laidMet Tryd.prog (("posthorn/when.ahead", Rows.laid_posthorn_when_ahead) :: rest) W) : Wn.Ah W := by
  have hg : Tryd.prog.globalNamed "posthorn/when.ahead" = some 4 := by kernel_rfl
  have hT : Lib.TabIs Tryd.prog W "posthorn/when.ahead" .i64 Wn.aheadL := Lib.tabIs_of_head hg (by kernel_rfl) Tryd.underlying82 Tryd.underlying2 (by kernel_rfl) (by kernel_rfl) h
  intro i hi
  exact hT.cell hg i hi
theorem days_of {W : World} {rest : List (String × DataW Unit)} (h : laidMet Tryd.prog (("posthorn/date.dayNames", Rows.laid_posthorn_date_dayNames) :: rest) W) : ∀ i : Nat, i < 7 → W.cell? ⟨0, i, none⟩ = some (.string (strOfNums (dayL i))) := by
  have hT := strs_of_head (g := 0) (ss := [[77, 111, 110], [84, 117, 101], [87, 101, 100], [84, 104, 117], [70, 114, 105], [83, 97, 116], [83, 117, 110]]) (by kernel_rfl) (by kernel_rfl) Tryd.underlying38 Tryd.underlying9 (by kernel_rfl) (by kernel_rfl) h
  intro i hi
  have h7 : i = 0 ∨ i = 1 ∨ i = 2 ∨ i = 3 ∨ i = 4 ∨ i = 5 ∨ i = 6 := by omega
  rcases h7 with rfl | rfl | rfl | rfl | rfl | rfl | rfl <;> exact hT _ _ rfl
theorem months_of {W : World} {rest : List (String × DataW Unit)} (h : laidMet Tryd.prog (("posthorn/date.monthNames", Rows.laid_posthorn_date_monthNames) :: rest) W) : ∀ i : Nat, i < 12 → W.cell? ⟨1, i, none⟩ = some (.string (strOfNums (monL (i + 1)))) := by
  have hT := strs_of_head (g := 1) (ss := [[74, 97, 110], [70, 101, 98], [77, 97, 114], [65, 112, 114], [77, 97, 121], [74, 117, 110], [74, 117, 108], [65, 117, 103], [83, 101, 112], [79, 99, 116], [78, 111, 118], [68, 101, 99]]) (by kernel_rfl) (by kernel_rfl) Tryd.underlying40 Tryd.underlying9 (by kernel_rfl) (by kernel_rfl) h
  intro i hi
  have h7 : i = 0 ∨ i = 1 ∨ i = 2 ∨ i = 3 ∨ i = 4 ∨ i = 5 ∨ i = 6 ∨ i = 7 ∨ i = 8 ∨ i = 9 ∨ i = 10 ∨ i = 11 := by omega
  rcases h7 with rfl | rfl | rfl | rfl | rfl | rfl | rfl | rfl | rfl | rfl | rfl | rfl <;> exact hT _ _ rfl
theorem zones_of {W : World} {rest : List (String × DataW Unit)} (h : laidMet Tryd.prog (("posthorn/date.zoneNames", Rows.laid_posthorn_date_zoneNames) :: rest) W) : ∀ i : Nat, i < 11 → W.cell? ⟨2, i, none⟩ = some (.string (strOfNums (zoneL i))) := by
  have hT := strs_of_head (g := 2) (ss := [[85, 84], [71, 77, 84], [90], [69, 83, 84], [67, 83, 84], [77, 83, 84], [80, 83, 84], [69, 68, 84], [67, 68, 84], [77, 68, 84], [80, 68, 84]]) (by kernel_rfl) (by kernel_rfl) Tryd.underlying68 Tryd.underlying9 (by kernel_rfl) (by kernel_rfl) h
  intro i hi
  have h7 : i = 0 ∨ i = 1 ∨ i = 2 ∨ i = 3 ∨ i = 4 ∨ i = 5 ∨ i = 6 ∨ i = 7 ∨ i = 8 ∨ i = 9 ∨ i = 10 := by omega
  rcases h7 with rfl | rfl | rfl | rfl | rfl | rfl | rfl | rfl | rfl | rfl | rfl <;> exact hT _ _ rfl
theorem hours_of {W : World} {rest : List (String × DataW Unit)} (h : laidMet Tryd.prog (("posthorn/date.zoneHours", Rows.laid_posthorn_date_zoneHours) :: rest) W) : ∀ i : Nat, i < 11 → W.cell? ⟨3, i, none⟩ = some (.int .i64 (hourL i)) := by
  have hg : Tryd.prog.globalNamed "posthorn/date.zoneHours" = some 3 := by kernel_rfl
  have hT : Lib.TabIs Tryd.prog W "posthorn/date.zoneHours" .i64 [0, 0, 0, -5, -6, -7, -8, -4, -5, -6, -7] := Lib.tabIs_of_head hg (by kernel_rfl) Tryd.underlying70 Tryd.underlying2 (by kernel_rfl) (by kernel_rfl) h
  intro i hi
  rw [hT.cell hg i hi]
  have h7 : i = 0 ∨ i = 1 ∨ i = 2 ∨ i = 3 ∨ i = 4 ∨ i = 5 ∨ i = 6 ∨ i = 7 ∨ i = 8 ∨ i = 9 ∨ i = 10 := by omega
  rcases h7 with rfl | rfl | rfl | rfl | rfl | rfl | rfl | rfl | rfl | rfl | rfl <;> rfl
theorem gz_of {W : World} {x : String × DataW Unit} {rest : List (String × DataW Unit)} (h : laidMet Tryd.prog (x :: ("posthorn/when.ahead", Rows.laid_posthorn_when_ahead) :: ("posthorn/date.dayNames", Rows.laid_posthorn_date_dayNames) :: ("posthorn/date.monthNames", Rows.laid_posthorn_date_monthNames) :: ("posthorn/date.zoneNames", Rows.laid_posthorn_date_zoneNames) :: ("posthorn/date.zoneHours", Rows.laid_posthorn_date_zoneHours) :: rest) W) : Gz W :=
  ⟨⟨ahead_of (laidMet.tail h), days_of (laidMet.tail (laidMet.tail h)), months_of (laidMet.tail (laidMet.tail (laidMet.tail h)))⟩, zones_of (laidMet.tail (laidMet.tail (laidMet.tail (laidMet.tail h)))), hours_of (laidMet.tail (laidMet.tail (laidMet.tail (laidMet.tail (laidMet.tail h)))))⟩
end Go.Proofs.YtomcjkghneingabDoor
