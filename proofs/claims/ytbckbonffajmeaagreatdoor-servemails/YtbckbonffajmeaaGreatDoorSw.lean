/-
  The methods of a session that no call made; what waits, where nothing does.
-/
import Derived.Test.YtbckbonffajmeaaGreatDoorSv
namespace Go.Proofs.YtbckbonffajmeaaGreatDoor
open Go.RowKit Go.Shelf Go.Maps
set_option linter.unusedVariables false
set_option linter.unusedSimpArgs false

/-- A session that no call made. -/
def Zr (w : World) (p : Value) : Prop := p = .pointer none ∨ ∃ g, p = .pointer (some ⟨g, 0, none⟩) ∧ w.cell? ⟨g, 0, none⟩ = some (.string ⟨#[]⟩)
theorem Zr.below {w w' : World} {p : Value} (h : Zr w p) (hb : Below w.heap.size w w') : Zr w' p := by
  rcases h with h | ⟨g, e, h⟩
  · exact .inl h
  · exact .inr ⟨g, e, (hb.cell (World.block_lt_of_cell? w _ h)).trans h⟩
theorem emp_list : (⟨#[]⟩ : ByteArray).toList.isEmpty = true := by rw [toList_emp]; rfl
set_option maxHeartbeats 8000000 in
set_option maxRecDepth 100000 in
theorem made_none (w : World) (p : Value) (h : Zr w p) : Calls Tryz.prog 29 #[p] w fun e w' => e = .returned (.bool false) ∧ w' = w := by
  rcases h with rfl | ⟨g, rfl, c0⟩
  · exact made_nil w
  · have he := emp_list
    go_enter Tryz.func29, Tryz.ntmps29
    go_wp2
    go_ret
    exact ⟨rfl, rfl⟩
set_option maxHeartbeats 8000000 in
set_option maxRecDepth 100000 in
theorem put_none (w : World) (p : Value) (h : Zr w p) (a : Option Addr) (n c : Nat) : Calls Tryz.prog 13 #[p, .slice a n c] w fun e w' => e = .returned (.tuple #[.int .i64 0, .string ⟨#[]⟩]) ∧ w' = w := by
  have hm := made_none w p h
  clear h
  go_enter Tryz.func13, Tryz.ntmps13
  go_wp2_with fail
  refine hm.mono ?_
  rintro e w1 ⟨rfl, rfl⟩
  clear hm
  go_wp2
  go_ret2
  exact ⟨rfl, rfl⟩
set_option maxHeartbeats 8000000 in
set_option maxRecDepth 100000 in
theorem answer_none (w : World) (p : Value) (h : Zr w p) (c : Int) : Calls Tryz.prog 15 #[p, .int .i64 c] w fun e w' => e = .returned (.tuple #[.string ⟨#[]⟩, .int .i64 6]) ∧ w' = w := by
  have hm := made_none w p h
  clear h
  go_enter Tryz.func15, Tryz.ntmps15
  go_wp2_with fail
  refine hm.mono ?_
  rintro e w1 ⟨rfl, rfl⟩
  clear hm
  go_wp2
  go_ret2
  exact ⟨rfl, rfl⟩
set_option maxHeartbeats 8000000 in
set_option maxRecDepth 100000 in
theorem over_none (w : World) (p : Value) (h : Zr w p) : Calls Tryz.prog 19 #[p] w fun e w' => e = .returned (.bool false) ∧ w' = w := by
  have hm := made_none w p h
  clear h
  go_enter Tryz.func19, Tryz.ntmps19
  go_wp2_with fail
  refine hm.mono ?_
  rintro e w1 ⟨rfl, rfl⟩
  clear hm
  go_wp2
  go_ret
  exact ⟨rfl, rfl⟩
set_option maxHeartbeats 8000000 in
set_option maxRecDepth 100000 in
theorem hello_none (w : World) (p : Value) (h : Zr w p) : Calls Tryz.prog 20 #[p] w fun e w' => e = .returned (.string ⟨#[]⟩) ∧ w' = w := by
  have hm := made_none w p h
  clear h
  go_enter Tryz.func20, Tryz.ntmps20
  go_wp2_with fail
  refine hm.mono ?_
  rintro e w1 ⟨rfl, rfl⟩
  clear hm
  go_wp2
  go_ret
  exact ⟨rfl, rfl⟩
theorem mail_cells (w : World) : (w.alloc (.cells #[.string ⟨#[]⟩, .slice none 0 0, .slice none 0 0] 48)).cell? ⟨w.heap.size, 0, none⟩ = some (.string ⟨#[]⟩) ∧ (w.alloc (.cells #[.string ⟨#[]⟩, .slice none 0 0, .slice none 0 0] 48)).cell? ⟨w.heap.size, 1, none⟩ = some (.slice none 0 0) ∧ (w.alloc (.cells #[.string ⟨#[]⟩, .slice none 0 0, .slice none 0 0] 48)).cell? ⟨w.heap.size, 2, none⟩ = some (.slice none 0 0) := by
  have h := World.alloc_heap_new w (.cells #[.string ⟨#[]⟩, .slice none 0 0, .slice none 0 0] 48)
  refine ⟨?_, ?_, ?_⟩ <;> (rw [cell_of_row _ _ _ _ _ _ h]; rfl)
def noMail : Value := .agg #[.string ⟨#[]⟩, .slice none 0 0, .slice none 0 0]
set_option maxHeartbeats 8000000 in
set_option maxRecDepth 100000 in
theorem waits_none (w : World) (p : Value) (h : Zr w p) : Calls Tryz.prog 18 #[p] w fun e w' => e = .returned (.tuple #[noMail, .bool false]) ∧ Below w.heap.size w w' := by
  have hk := keep w (.cells #[.string ⟨#[]⟩, .slice none 0 0, .slice none 0 0] 48)
  have hm := made_none _ p (h.below hk)
  clear h
  go_enter Tryz.func18, Tryz.ntmps18
  go_wp2_with fail
  refine hm.mono ?_
  rintro e w1 ⟨rfl, rfl⟩
  clear hm
  go_wp2
  (try simp only [Exit.inBlock, Exit.then])
  obtain ⟨z0, z1, z2⟩ := mail_cells w
  refine bodyPost_ret (v := .tuple #[noMail, .bool false]) (by simp [results, Tryz.results18, go_sem, z0, z1, z2, noMail]) rfl ⟨rfl, hk⟩
set_option maxHeartbeats 8000000 in
set_option maxRecDepth 100000 in
theorem waits_not (N : Nat) (m : Sm) (s : SS) (w : World) (h : SvAt N w m s) (hh : s.host.size ≠ 0) (h2 : s.takes ≠ 2) : Calls Tryz.prog 18 #[.pointer (some ⟨m.g, 0, none⟩)] w fun e w' => e = .returned (.tuple #[noMail, .bool false]) ∧ Below w.heap.size w w' := by
  have hk := keep w (.cells #[.string ⟨#[]⟩, .slice none 0 0, .slice none 0 0] 48)
  obtain ⟨g1, v1⟩ := h.below hk
  have hm := made_yes N m s _ g1 hh
  obtain ⟨_, _, _, c3, _⟩ := sv_cells g1
  have h2' : (s.takes == 2) = false := by simpa using h2
  obtain ⟨tk, htk⟩ : ∃ x, s.takes = x := ⟨_, rfl⟩
  rw [htk] at c3 h2' h2
  clear h g1 v1 htk
  go_enter Tryz.func18, Tryz.ntmps18
  go_wp2_with fail
  refine hm.mono ?_
  rintro e w1 ⟨rfl, rfl⟩
  clear hm
  go_wp2
  (try simp only [Exit.inBlock, Exit.then])
  obtain ⟨z0, z1, z2⟩ := mail_cells w
  refine bodyPost_ret (v := .tuple #[noMail, .bool false]) (by simp [results, Tryz.results18, go_sem, z0, z1, z2, noMail]) rfl ⟨rfl, hk⟩
end Go.Proofs.YtbckbonffajmeaaGreatDoor
