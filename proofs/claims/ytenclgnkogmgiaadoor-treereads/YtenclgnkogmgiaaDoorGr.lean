/-
  Are lines too great?
-/
import Derived.Test.YtenclgnkogmgiaaDoorAg
import Derived.Deep.LoopGhost
namespace Go.Proofs.YtenclgnkogmgiaaDoor
open Go.RowKit
set_option linter.unusedVariables false

set_option maxHeartbeats 8000000 in
set_option maxRecDepth 100000 in
theorem great_any (a : Option Addr) (len cap : Nat) (ls : List Lm) (w : World) (h : IsLs w a len ls) :
    Calls Tryd.prog 27 #[.slice a len cap] w fun e w' => ∃ b q, e = .returned (.bool b) ∧ w' = w.drewN q ∧ (b = false → len ≤ 60 ∧ ∀ m ∈ ls, Smally m) := by
  obtain ⟨hn, hbig, hr, hw⟩ := h
  have HR : Hid (LRow w a ls) := hr
  have HW : Hid (∀ m ∈ ls, Wide m) := hw
  clear hr hw
  by_cases h60 : 60 < len
  · have d0 : decide ((60 : Int) < (len : Int)) = true := by simp; omega
    go_enter Tryd.func27, Tryd.ntmps27
    go_wp2
    go_ret
    exact ⟨true, 0, rfl, rfl, fun h => by cases h⟩
  have d0 : decide ((60 : Int) < (len : Int)) = false := by simp; omega
  go_enter Tryd.func27, Tryd.ntmps27
  go_wp2
  go_loopw [3, 4] (fun i _ wx => ∃ (k n : Nat), i = .int .i64 k ∧ k ≤ len ∧ (∀ m ∈ ls.take k, Smally m) ∧ wx = w.drewN n) (fun i _ _ => len - (intOf i).toNat)
  case atStart => exact ⟨0, 0, rfl, by omega, by simp, rfl⟩
  case round =>
    obtain ⟨k, n0, rfl, hk, hall, rfl⟩ := hrel
    have HA : Hid (∀ m ∈ ls.take k, Smally m) := hall
    clear hall
    by_cases hlt : k < len
    · have dl : decide ((k : Int) < (len : Int)) = true := by simp; omega
      obtain ⟨m, hmk⟩ : ∃ m, ls[k]? = some m := ⟨_, List.getElem?_eq_getElem (by omega)⟩
      have hwm := HW.out m (List.mem_of_getElem? hmk)
      have HTK : Hid (∀ g ∈ ls.take (k + 1), g = m ∨ g ∈ ls.take k) := by
        intro g hg
        rw [List.take_add_one, hmk] at hg
        simp at hg
        rcases hg with hg | hg
        · exact .inr hg
        · exact .inl hg
      obtain ⟨nm, vl, ma, mc, fs⟩ := m
      obtain ⟨z1, z2, z3, z4⟩ := hwm
      obtain ⟨b, off, rfl, hcc⟩ : ∃ b off, a = some ⟨b, off, none⟩ ∧ ∀ i m, ls[i]? = some m → (w.cell? ⟨b, off + i * 3, none⟩ = some (.string m.nm) ∧ w.cell? ⟨b, off + i * 3 + 1, none⟩ = some (.slice m.a m.fs.length m.c) ∧ w.cell? ⟨b, off + i * 3 + 2, none⟩ = some (.string m.vl)) ∧ FRow w m.a m.fs := by
        rcases HR.out with h | h
        · rw [h] at hn; simp at hn; omega
        · exact h
      obtain ⟨⟨c0, c1, c2⟩, hfr⟩ := hcc k _ hmk
      have HFR : Hid (FRow w ma fs) := hfr
      have HWF : Hid (∀ f ∈ fs, f.1.size ≤ 140737488355328 ∧ f.2.size ≤ 140737488355328) := z4
      clear hcc hmk hfr z4
      simp only at c0 c1 c2 z1 z2 z3
      by_cases p1 : 30 < fs.length
      · have d1 : decide ((30 : Int) < (fs.length : Int)) = true := by simp; omega
        go_wp2
        go_ret
        exact ⟨true, n0, rfl, rfl, fun h => by cases h⟩
      have d1 : decide ((30 : Int) < (fs.length : Int)) = false := by simp; omega
      by_cases p2 : 300 < nm.size
      · have d2 : decide ((300 : Int) < (nm.size : Int)) = true := by simp; omega
        go_wp2
        go_ret
        exact ⟨true, n0, rfl, rfl, fun h => by cases h⟩
      have d2 : decide ((300 : Int) < (nm.size : Int)) = false := by simp; omega
      by_cases p3 : 5000 < vl.size
      · have d3 : decide ((5000 : Int) < (vl.size : Int)) = true := by simp; omega
        go_wp2
        go_ret
        exact ⟨true, n0, rfl, rfl, fun h => by cases h⟩
      have d3 : decide ((5000 : Int) < (vl.size : Int)) = false := by simp; omega
      by_cases p4 : 5 < k
      · have d4 : decide ((5 : Int) < (k : Int)) = true := by simp; omega
        by_cases p5 : 300 < vl.size
        · have d5 : decide ((300 : Int) < (vl.size : Int)) = true := by simp; omega
          go_wp2
          go_ret
          exact ⟨true, n0, rfl, rfl, fun h => by cases h⟩
        · have d5 : decide ((300 : Int) < (vl.size : Int)) = false := by simp; omega
          go_wp2
          go_loopw [4] (fun i wx => ∃ (j q : Nat), i = .int .i64 j ∧ j ≤ fs.length ∧ (∀ f ∈ fs.take j, f.1.size + f.2.size ≤ 500) ∧ wx = w.drewN q) (fun i _ => fs.length - (intOf i).toNat)
          case atStart => exact ⟨0, n0, rfl, by omega, by simp, rfl⟩
          case round =>
            obtain ⟨j, q, rfl, hj, hall, rfl⟩ := hrel
            have HI : Hid (∀ f ∈ fs.take j, f.1.size + f.2.size ≤ 500) := hall
            clear hall
            by_cases hjl : j < fs.length
            · have e0 : decide ((j : Int) < (fs.length : Int)) = true := by simp; omega
              obtain ⟨f, hfj⟩ : ∃ f, fs[j]? = some f := ⟨_, List.getElem?_eq_getElem (by omega)⟩
              have hwf := HWF.out f (List.mem_of_getElem? hfj)
              have HTJ : Hid (∀ g ∈ fs.take (j + 1), g = f ∨ g ∈ fs.take j) := by
                intro g hg
                rw [List.take_add_one, hfj] at hg
                simp at hg
                rcases hg with hg | hg
                · exact .inr hg
                · exact .inl hg
              obtain ⟨pn, pv⟩ := f
              obtain ⟨bp, op, rfl, hpp⟩ : ∃ bp op, ma = some ⟨bp, op, none⟩ ∧ ∀ i f, fs[i]? = some f → w.cell? ⟨bp, op + i * 2, none⟩ = some (.string f.1) ∧ w.cell? ⟨bp, op + i * 2 + 1, none⟩ = some (.string f.2) := by
                rcases HFR.out with h | h
                · rw [h] at hjl; simp at hjl
                · exact h
              obtain ⟨g1, g2⟩ := hpp j _ hfj
              clear hpp hfj
              simp only at g1 g2 hwf
              obtain ⟨w1, w2⟩ := hwf
              have hsum : IntKind.i64.wrap ((pn.size : Int) + (pv.size : Int)) = (pn.size : Int) + (pv.size : Int) := by rw [IntKind.wrap_i64]; omega
              by_cases h5 : 500 < pn.size + pv.size
              · have e5 : decide ((500 : Int) < (pn.size : Int) + (pv.size : Int)) = true := by simp; omega
                go_wp2
                go_quiet (fail)
                go_wp2
                go_ret
                exact ⟨true, q + nq, rfl, by first | rfl | simp | (simp [World.drewN, Nat.add_assoc]), fun h => by cases h⟩
              · have e5 : decide ((500 : Int) < (pn.size : Int) + (pv.size : Int)) = false := by simp; omega
                go_wp2
                go_quiet (fail)
                go_wp2
                go_roundw
                case rel =>
                  refine ⟨j + 1, _, by go_num, by omega, ?_, rfl⟩
                  intro g hg
                  rcases HTJ.out g hg with rfl | h
                  · simp only; omega
                  · exact HI.out g h
                case measure => simp [intOf]; omega
            · obtain rfl : j = fs.length := by omega
              have e0 : decide ((fs.length : Int) < (fs.length : Int)) = false := by simp
              have HM : Hid (Smally ⟨nm, vl, ma, mc, fs⟩) := by
                refine ⟨by simp only; omega, by simp only; omega, by simp only; omega, ?_⟩
                have := HI.out
                rwa [List.take_of_length_le (Nat.le_refl _)] at this
              go_wp2
              go_roundw
              case rel =>
                refine ⟨k + 1, _, by go_num, by omega, ?_, rfl⟩
                intro g hg
                rcases HTK.out g hg with rfl | h
                · exact HM.out
                · exact HA.out g h
              case measure => simp [intOf]; omega
      · have d4 : decide ((5 : Int) < (k : Int)) = false := by simp; omega
        go_wp2
        go_loopw [4] (fun i wx => ∃ (j q : Nat), i = .int .i64 j ∧ j ≤ fs.length ∧ (∀ f ∈ fs.take j, f.1.size + f.2.size ≤ 500) ∧ wx = w.drewN q) (fun i _ => fs.length - (intOf i).toNat)
        case atStart => exact ⟨0, n0, rfl, by omega, by simp, rfl⟩
        case round =>
          obtain ⟨j, q, rfl, hj, hall, rfl⟩ := hrel
          have HI : Hid (∀ f ∈ fs.take j, f.1.size + f.2.size ≤ 500) := hall
          clear hall
          by_cases hjl : j < fs.length
          · have e0 : decide ((j : Int) < (fs.length : Int)) = true := by simp; omega
            obtain ⟨f, hfj⟩ : ∃ f, fs[j]? = some f := ⟨_, List.getElem?_eq_getElem (by omega)⟩
            have hwf := HWF.out f (List.mem_of_getElem? hfj)
            have HTJ : Hid (∀ g ∈ fs.take (j + 1), g = f ∨ g ∈ fs.take j) := by
              intro g hg
              rw [List.take_add_one, hfj] at hg
              simp at hg
              rcases hg with hg | hg
              · exact .inr hg
              · exact .inl hg
            obtain ⟨pn, pv⟩ := f
            obtain ⟨bp, op, rfl, hpp⟩ : ∃ bp op, ma = some ⟨bp, op, none⟩ ∧ ∀ i f, fs[i]? = some f → w.cell? ⟨bp, op + i * 2, none⟩ = some (.string f.1) ∧ w.cell? ⟨bp, op + i * 2 + 1, none⟩ = some (.string f.2) := by
              rcases HFR.out with h | h
              · rw [h] at hjl; simp at hjl
              · exact h
            obtain ⟨g1, g2⟩ := hpp j _ hfj
            clear hpp hfj
            simp only at g1 g2 hwf
            obtain ⟨w1, w2⟩ := hwf
            have hsum : IntKind.i64.wrap ((pn.size : Int) + (pv.size : Int)) = (pn.size : Int) + (pv.size : Int) := by rw [IntKind.wrap_i64]; omega
            by_cases h5 : 500 < pn.size + pv.size
            · have e5 : decide ((500 : Int) < (pn.size : Int) + (pv.size : Int)) = true := by simp; omega
              go_wp2
              go_quiet (fail)
              go_wp2
              go_ret
              exact ⟨true, q + nq, rfl, by first | rfl | simp | (simp [World.drewN, Nat.add_assoc]), fun h => by cases h⟩
            · have e5 : decide ((500 : Int) < (pn.size : Int) + (pv.size : Int)) = false := by simp; omega
              go_wp2
              go_quiet (fail)
              go_wp2
              go_roundw
              case rel =>
                refine ⟨j + 1, _, by go_num, by omega, ?_, rfl⟩
                intro g hg
                rcases HTJ.out g hg with rfl | h
                · simp only; omega
                · exact HI.out g h
              case measure => simp [intOf]; omega
          · obtain rfl : j = fs.length := by omega
            have e0 : decide ((fs.length : Int) < (fs.length : Int)) = false := by simp
            have HM : Hid (Smally ⟨nm, vl, ma, mc, fs⟩) := by
              refine ⟨by simp only; omega, by simp only; omega, by simp only; omega, ?_⟩
              have := HI.out
              rwa [List.take_of_length_le (Nat.le_refl _)] at this
            go_wp2
            go_roundw
            case rel =>
              refine ⟨k + 1, _, by go_num, by omega, ?_, rfl⟩
              intro g hg
              rcases HTK.out g hg with rfl | h
              · exact HM.out
              · exact HA.out g h
            case measure => simp [intOf]; omega
    · obtain rfl : k = len := by omega
      have dl : decide ((k : Int) < (k : Int)) = false := by simp
      go_wp2
      go_ret
      refine ⟨false, _, rfl, rfl, fun _ => ⟨by omega, ?_⟩⟩
      have := HA.out
      rwa [List.take_of_length_le (by omega)] at this
end Go.Proofs.YtenclgnkogmgiaaDoor
