/-
  The document's Same of two lists that are the same.
-/
import Derived.Test.YtenclgnkogmgiaaDoorGr
namespace Go.Proofs.YtenclgnkogmgiaaDoor
open Go.RowKit
set_option linter.unusedVariables false

/-- Lines with the same texts. -/
def SameL (ls ks : List Lm) : Prop := ls.length = ks.length ∧ ∀ (i : Nat) (m m' : Lm), ls[i]? = some m → ks[i]? = some m' → m'.nm = m.nm ∧ m'.vl = m.vl ∧ m'.fs = m.fs
set_option maxHeartbeats 8000000 in
set_option maxRecDepth 100000 in
theorem same_any (a b : Option Addr) (n n' c d : Nat) (ls ks : List Lm) (w : World) (hn : ls.length = n) (hn' : ks.length = n') (hbig : n ≤ 9223372036854775807) (hp : ∀ m ∈ ls, m.fs.length ≤ 9223372036854775807) (hr : LRow w a ls) (hr2 : LRow w b ks) (he : SameL ls ks) :
    Calls Tryd.prog 21 #[.slice a n c, .slice b n' d] w fun e w' => e = .returned (.bool true) ∧ Below w.heap.size w w' := by
  obtain rfl : n = n' := by have := he.1; omega
  have HR : Hid (LRow w a ls) := hr
  have HR2 : Hid (LRow w b ks) := hr2
  have HE : Hid (SameL ls ks) := he
  have HP : Hid (∀ m ∈ ls, m.fs.length ≤ 9223372036854775807) := hp
  clear hr hr2 he hp
  go_enter Tryd.func21, Tryd.ntmps21
  go_wp2
  go_loopw [5, 6] (fun i _ wr => ∃ (k q : Nat), i = .int .i64 k ∧ k ≤ n ∧ wr = w.drewN q) (fun i _ _ => n - (intOf i).toNat)
  case atStart => exact ⟨0, 0, rfl, by omega, rfl⟩
  case round =>
    obtain ⟨k, q, rfl, hk, rfl⟩ := hrel
    by_cases hlt : k < n
    · obtain ⟨m, hmk⟩ : ∃ m, ls[k]? = some m := ⟨_, List.getElem?_eq_getElem (by omega)⟩
      obtain ⟨m', hmk'⟩ : ∃ m', ks[k]? = some m' := ⟨_, List.getElem?_eq_getElem (by omega)⟩
      obtain ⟨e1, e2, e3⟩ := HE.out.2 k m m' hmk hmk'
      have hpl := HP.out m (List.mem_of_getElem? hmk)
      obtain ⟨nm, vl, ma, mc, fs⟩ := m
      obtain ⟨nm', vl', ma', mc', fs'⟩ := m'
      simp only at e1 e2 e3 hpl
      subst e1 e2 e3
      rcases HR.out with h | ⟨b1, off1, rfl, h⟩
      · rw [h] at hn; simp at hn; omega
      rcases HR2.out with h' | ⟨b2, off2, rfl, h'⟩
      · rw [h'] at hn'; simp at hn'; omega
      obtain ⟨⟨hc1, hc2, hc3⟩, hf1⟩ := h k _ hmk
      obtain ⟨⟨hd1, hd2, hd3⟩, hf2⟩ := h' k _ hmk'
      simp only at hc1 hc2 hc3 hd1 hd2 hd3 hf1 hf2
      clear h h' hmk hmk'
      have x1 : (w.drewN q).cell? ⟨b1, off1 + k * 3, none⟩ = some (.string nm') := hc1
      have x2 : (w.drewN q).cell? ⟨b1, off1 + k * 3 + 1, none⟩ = some (.slice ma fs'.length mc) := hc2
      have x3 : (w.drewN q).cell? ⟨b1, off1 + k * 3 + 2, none⟩ = some (.string vl') := hc3
      have y1 : (w.drewN q).cell? ⟨b2, off2 + k * 3, none⟩ = some (.string nm') := hd1
      have y2 : (w.drewN q).cell? ⟨b2, off2 + k * 3 + 1, none⟩ = some (.slice ma' fs'.length mc') := hd2
      have y3 : (w.drewN q).cell? ⟨b2, off2 + k * 3 + 2, none⟩ = some (.string vl') := hd3
      have HF1 : Hid (FRow w ma fs') := hf1
      have HF2 : Hid (FRow w ma' fs') := hf2
      clear hf1 hf2
      go_wp2
      go_quiet (fail)
      go_wp2
      clear x1 x2 x3 y1 y2 y3
      go_loopw [6] (fun i wr => ∃ (j q2 : Nat), i = .int .i64 j ∧ j ≤ fs'.length ∧ wr = w.drewN q2) (fun i _ => fs'.length - (intOf i).toNat)
      case atStart => exact ⟨0, q + nq, rfl, by omega, by simp [World.drewN, Nat.add_assoc]⟩
      case round =>
        obtain ⟨j, q2, rfl, hj, rfl⟩ := hrel
        have x2 : (w.drewN q2).cell? ⟨b1, off1 + k * 3 + 1, none⟩ = some (.slice ma fs'.length mc) := hc2
        have y2 : (w.drewN q2).cell? ⟨b2, off2 + k * 3 + 1, none⟩ = some (.slice ma' fs'.length mc') := hd2
        by_cases hlj : j < fs'.length
        · obtain ⟨f, hfk⟩ : ∃ f, fs'[j]? = some f := ⟨_, List.getElem?_eq_getElem hlj⟩
          obtain ⟨pn, pv⟩ := f
          rcases HF1.out with h | ⟨b3, off3, rfl, h⟩
          · rw [h] at hlj; simp at hlj
          rcases HF2.out with h' | ⟨b4, off4, rfl, h'⟩
          · rw [h'] at hlj; simp at hlj
          obtain ⟨s1, s2⟩ := h j _ hfk
          obtain ⟨t1, t2⟩ := h' j _ hfk
          simp only at s1 s2 t1 t2
          have z1 : (w.drewN q2).cell? ⟨b3, off3 + j * 2, none⟩ = some (.string pn) := s1
          have z2 : (w.drewN q2).cell? ⟨b3, off3 + j * 2 + 1, none⟩ = some (.string pv) := s2
          have z3 : (w.drewN q2).cell? ⟨b4, off4 + j * 2, none⟩ = some (.string pn) := t1
          have z4 : (w.drewN q2).cell? ⟨b4, off4 + j * 2 + 1, none⟩ = some (.string pv) := t2
          clear h h' hfk
          have r1 : (w.drewN (q2 + 1)).cell? ⟨b3, off3 + j * 2, none⟩ = some (.string pn) := s1
          have r2 : (w.drewN (q2 + 1)).cell? ⟨b3, off3 + j * 2 + 1, none⟩ = some (.string pv) := s2
          have r3 : (w.drewN (q2 + 1)).cell? ⟨b4, off4 + j * 2, none⟩ = some (.string pn) := t1
          have r4 : (w.drewN (q2 + 1)).cell? ⟨b4, off4 + j * 2 + 1, none⟩ = some (.string pv) := t2
          go_wp2
          go_region
          all_goals go_wp2
          go_roundw
          case rel => exact ⟨j + 1, q2 + 1, by go_num, by omega, by simp [World.drewN]⟩
          case measure => simp [intOf]; omega
        · go_wp2
          go_roundw
          case rel => exact ⟨k + 1, q2, by go_num, by omega, rfl⟩
          case measure => simp [intOf]; omega
    · go_wp2
      go_ret
      exact ⟨rfl, rfl, rfl, rfl, Nat.le_refl _, fun _ _ => rfl⟩
end Go.Proofs.YtenclgnkogmgiaaDoor
