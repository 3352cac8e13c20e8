/-
  The contract of Text.
-/
import Derived.Test.YtbckbonffajmeaaGreatDoorDPut
namespace Go.Proofs.YtbckbonffajmeaaGreatDoor.Dt
open Go.RowKit
set_option linter.unusedVariables false

set_option maxRecDepth 100000 in
set_option maxHeartbeats 1000000 in
theorem text_none (w : World) : Calls Tryz.prog 43 #[.pointer none] w fun e w' => e = .returned (.slice none 0 0) ∧ w = w' := by
  go_enter Tryz.func43, Tryz.ntmps43
  go_wp2
  go_ret
  exact ⟨rfl, rfl⟩

set_option maxRecDepth 100000 in
set_option maxHeartbeats 1000000 in
theorem text_bad (B g : Nat) (s : RS) (w : World) (hr : Rd w B g s) (hb : faultZ s ≠ 0) :
    Calls Tryz.prog 43 #[.pointer (some ⟨g, 0, none⟩)] w fun e w' => e = .returned (.slice none 0 0) ∧ Qt w w' := by
  have HR : Hid (Rd w B g s) := hr
  obtain ⟨f, hf⟩ : ∃ f, faultZ s = f := ⟨_, rfl⟩
  have hfl := fault_any B g s w hr
  rw [hf] at hfl hb
  have hb' : (f != 0) = true := by simpa using hb
  clear hr hf
  go_enter Tryz.func43, Tryz.ntmps43
  go_wp2_with fail
  refine hfl.mono ?_
  rintro e w1 ⟨rfl, hq⟩
  have HQ : Hid (Qt w w1) := hq
  clear hq hfl
  go_wp2
  go_ret
  exact ⟨rfl, HQ.out⟩

set_option maxRecDepth 100000 in
set_option maxHeartbeats 1000000 in
theorem text_empty (B g : Nat) (s : RS) (w : World) (hr : Rd w B g s) (hb : faultZ s = 0) (hn : w.cell? ⟨g, 1, none⟩ = some (.slice none 0 0)) (hz : s.size = 0) :
    Calls Tryz.prog 43 #[.pointer (some ⟨g, 0, none⟩)] w fun e w' => e = .returned (.slice none 0 0) ∧ Below w.heap.size w w' := by
  have hfl := fault_any B g s w hr
  rw [hb] at hfl
  obtain ⟨h1, h2, v, hg, ho⟩ := hr
  have hsz : w.cell? ⟨g, 2, none⟩ = some (.int .i64 0) := by rw [cell_of_row w _ _ _ _ _ hg, ← hz]; rfl
  clear hg ho hz hb
  go_enter Tryz.func43, Tryz.ntmps43
  go_wp2_with fail
  refine hfl.mono ?_
  rintro e w1 ⟨rfl, hq⟩
  have c1 : w1.cell? ⟨g, 1, none⟩ = some (.slice none 0 0) := by obtain ⟨q, rfl⟩ := hq; exact hn
  have c2 : w1.cell? ⟨g, 2, none⟩ = some (.int .i64 0) := by obtain ⟨q, rfl⟩ := hq; exact hsz
  have HQ : Hid (Below w.heap.size w w1) := Qt.below hq _
  clear hq hfl
  go_wp2
  go_region_with (go_at_call 69; refine (clone_nil _).mono ?_; rintro e w2 ⟨rfl, rfl⟩)
  all_goals go_wp2
  all_goals go_ret
  all_goals exact ⟨rfl, HQ.out.trans (Qt.below ⟨_, rfl⟩ _)⟩

set_option maxRecDepth 100000 in
set_option maxHeartbeats 2000000 in
theorem text_good (B g : Nat) (s : RS) (w : World) (hr : Rd w B g s) (hb : faultZ s = 0) (x : Addr) (len cap z : Nat) (hn : w.cell? ⟨g, 1, none⟩ = some (.slice (some x) len cap)) (hz : s.size = z) (hlen : len = s.kept.length) (hcap : len ≤ cap) (hzl : z ≤ len) (hbig : len ≤ 1000000000)
    (hrow : Row w (some x) s.kept) :
    Calls Tryz.prog 43 #[.pointer (some ⟨g, 0, none⟩)] w fun e w' => ∃ v, e = .returned v ∧ Own w' w.heap.size v (s.kept.take z) ∧ Below w.heap.size w w' := by
  have hfl := fault_any B g s w hr
  rw [hb] at hfl
  obtain ⟨h1, h2, v, hg, ho⟩ := hr
  have hsz : w.cell? ⟨g, 2, none⟩ = some (.int .i64 (z : Int)) := by rw [cell_of_row w _ _ _ _ _ hg, ← hz]; rfl
  have hkl : (s.kept.take z).length = z := by simp; omega
  have HRW : Hid (Row w (some x) (s.kept.take z)) := row_take z hrow
  clear hg ho hz hb hrow hlen
  go_enter Tryz.func43, Tryz.ntmps43
  go_wp2_with fail
  refine hfl.mono ?_
  rintro e w1 ⟨rfl, hq⟩
  have c1 : w1.cell? ⟨g, 1, none⟩ = some (.slice (some x) len cap) := by obtain ⟨q, rfl⟩ := hq; exact hn
  have c2 : w1.cell? ⟨g, 2, none⟩ = some (.int .i64 (z : Int)) := by obtain ⟨q, rfl⟩ := hq; exact hsz
  have HQ : Hid (Qt w w1) := hq
  have hzc : z ≤ cap := by omega
  clear hq hfl
  go_wp2
  go_region_with (go_at_call 69; refine (clone_some x z cap (s.kept.take z) _ hkl ?_ (by omega)).mono ?_; exact (HQ.out.row HRW.out); rintro e w2 ⟨v2, rfl, ho2, hb2⟩)
  all_goals go_wp2
  all_goals go_ret
  all_goals exact ⟨_, rfl, own_base (by have := HQ.out.size; simp; omega) ho2, ((HQ.out.trans ⟨_, rfl⟩).below w.heap.size).trans (hb2.mono (Nat.le_of_eq HQ.out.size.symm))⟩

set_option maxRecDepth 100000 in
theorem text_any (B g : Nat) (s : RS) (w : World) (hr : Rd w B g s) (m : Nat) (hf : Fit s m) (hm : m ≤ 1000000000) :
    Calls Tryz.prog 43 #[.pointer (some ⟨g, 0, none⟩)] w fun e w' => ∃ a c, e = .returned (.slice a (textZ s).length c) ∧ Row w' a (textZ s) ∧ Below w.heap.size w w' := by
  have q1 := hf.came
  have q2 := hf.size
  have q3 := hf.all
  have q4 := hf.len
  have q5 : 0 ≤ b2i s.half := by unfold b2i; split <;> omega
  by_cases hb : faultZ s = 0
  · have q6 := hf.eq hb
    have q7 : (s.pointed = true → 1 ≤ s.came) := hf.pt
    have q8 : s.size ≤ s.kept.length := by
      unfold b2i at q6
      split at q6
      · have := q7 (by assumption); omega
      · omega
    have ht : textZ s = s.kept.take s.size.toNat := by unfold textZ; rw [if_pos hb]
    have hr' := hr
    obtain ⟨h1, h2, v, hg, ho⟩ := hr
    have c1 : w.cell? ⟨g, 1, none⟩ = some v := by rw [cell_of_row w _ _ _ _ _ hg]; rfl
    obtain ⟨a, cap, rfl, hc1, hc2, hrow, hnil⟩ := own_row' ho
    cases a with
    | none =>
      obtain rfl : cap = 0 := hnil rfl
      have hk : s.kept = [] := List.eq_nil_of_length_eq_zero (by omega)
      rw [hk] at c1 q8
      refine (text_empty B g s w hr' hb c1 (by simp at q8; omega)).mono ?_
      rintro e w' ⟨rfl, hB⟩
      rw [ht, hk]
      exact ⟨none, 0, by simp, .inl (by simp), hB⟩
    | some x =>
      refine (text_good B g s w hr' hb x s.kept.length cap s.size.toNat c1 (by omega) rfl hc1 (by omega) (by omega) hrow).mono ?_
      rintro e w' ⟨v, rfl, ho', hB⟩
      obtain ⟨a, cap, rfl, _, _, hrow', _⟩ := own_row' ho'
      rw [ht]
      exact ⟨a, cap, rfl, hrow', hB⟩
  · refine (text_bad B g s w hr hb).mono ?_
    rintro e w' ⟨rfl, hq⟩
    have ht : textZ s = [] := by unfold textZ; rw [if_neg hb]
    rw [ht]
    exact ⟨none, 0, rfl, .inl rfl, hq.below _⟩
end Go.Proofs.YtbckbonffajmeaaGreatDoor.Dt
