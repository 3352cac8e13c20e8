/-
  The outer calls that are small: isMade, Over, Hello, Answer.
-/
import Derived.Test.YtbckbonffajmeaaGreatDoorSp
namespace Go.Proofs.YtbckbonffajmeaaGreatDoor
open Go.RowKit Go.Shelf Go.Maps
set_option linter.unusedVariables false
set_option linter.unusedSimpArgs false

set_option maxHeartbeats 8000000 in
set_option maxRecDepth 100000 in
theorem made_yes (N : Nat) (m : Sm) (s : SS) (w : World) (h : SvAt N w m s) (hh : s.host.size ≠ 0) : Calls Tryz.prog 29 #[.pointer (some ⟨m.g, 0, none⟩)] w fun e w' => e = .returned (.bool true) ∧ w' = w := by
  obtain ⟨c0, _⟩ := sv_cells h
  have he : s.host.toList.isEmpty = false := by rw [toList_emp]; simp [hh]
  obtain ⟨host, hho⟩ : ∃ x, s.host = x := ⟨_, rfl⟩
  rw [hho] at c0 he
  clear h
  go_enter Tryz.func29, Tryz.ntmps29
  go_wp2
  go_ret
  exact ⟨rfl, rfl⟩
set_option maxHeartbeats 8000000 in
theorem made_nil (w : World) : Calls Tryz.prog 29 #[.pointer none] w fun e w' => e = .returned (.bool false) ∧ w' = w := by
  go_enter Tryz.func29, Tryz.ntmps29
  go_wp2
  go_ret
  exact ⟨rfl, rfl⟩
set_option maxHeartbeats 8000000 in
set_option maxRecDepth 100000 in
theorem over_any (N : Nat) (m : Sm) (s : SS) (w : World) (h : SvAt N w m s) (hh : s.host.size ≠ 0) : Calls Tryz.prog 19 #[.pointer (some ⟨m.g, 0, none⟩)] w fun e w' => e = .returned (.bool (s.takes == 3)) ∧ w' = w := by
  obtain ⟨c0, c1, c2, c3, _⟩ := sv_cells h
  have hm := made_yes N m s w h hh
  clear h
  go_enter Tryz.func19, Tryz.ntmps19
  go_wp2_with fail
  refine hm.mono ?_
  rintro e w1 ⟨rfl, rfl⟩
  clear hm
  go_wp2
  go_ret
  exact ⟨rfl, rfl⟩
set_option maxHeartbeats 8000000 in
theorem over_nil (w : World) : Calls Tryz.prog 19 #[.pointer none] w fun e w' => e = .returned (.bool false) ∧ w' = w := by
  go_enter Tryz.func19, Tryz.ntmps19
  go_wp2_with fail
  refine (made_nil w).mono ?_
  rintro e w1 ⟨rfl, rfl⟩
  go_wp2
  go_ret
  exact ⟨rfl, rfl⟩
set_option maxHeartbeats 8000000 in
set_option maxRecDepth 100000 in
theorem hello_any (N : Nat) (mx : Int) (m : Sm) (s : SS) (w : World) (h : SG N mx w m s) (hh : s.host.size ≠ 0) : Calls Tryz.prog 20 #[.pointer (some ⟨m.g, 0, none⟩)] w fun e w' => e = .returned (.string (replyZ s.host 220)) ∧ Below w.heap.size w w' := by
  have hm := made_yes N m s w h.at' hh
  have hrp := reply_any N mx m s w 220 h (by decide) (by decide)
  clear h
  go_enter Tryz.func20, Tryz.ntmps20
  go_wp2_with fail
  refine hm.mono ?_
  rintro e w1 ⟨rfl, rfl⟩
  clear hm
  go_wp2_with fail
  refine hrp.mono ?_
  rintro e w2 ⟨rfl, hb⟩
  clear hrp
  go_wp2
  go_ret
  exact ⟨rfl, hb⟩
set_option maxHeartbeats 8000000 in
theorem hello_nil (w : World) : Calls Tryz.prog 20 #[.pointer none] w fun e w' => e = .returned (.string ⟨#[]⟩) ∧ w' = w := by
  go_enter Tryz.func20, Tryz.ntmps20
  go_wp2_with fail
  refine (made_nil w).mono ?_
  rintro e w1 ⟨rfl, rfl⟩
  go_wp2
  go_ret
  exact ⟨rfl, rfl⟩
/-- What Answer does, and what it tells. -/
def ansZ (s : SS) (c : Int) : SS × ByteArray × Int :=
  if s.takes ≠ 2 then (s, ⟨#[]⟩, 7) else if c < 200 ∨ 599 < c then (s, ⟨#[]⟩, 1) else (leaveZ s, replyZ s.host c, 0)
set_option maxHeartbeats 8000000 in
set_option maxRecDepth 100000 in
theorem answer_any (N : Nat) (mx : Int) (m : Sm) (s : SS) (w : World) (c : Int) (h : SG N mx w m s) (hh : s.host.size ≠ 0) :
    Calls Tryz.prog 15 #[.pointer (some ⟨m.g, 0, none⟩), .int .i64 c] w fun e w' => e = .returned (.tuple #[.string (ansZ s c).2.1, .int .i64 (ansZ s c).2.2]) ∧ ∃ m', SvAt N w' m' (ansZ s c).1 ∧ Mv m m' w w' := by
  obtain ⟨c0, c1, c2, c3, _⟩ := sv_cells h.at'
  have hm := made_yes N m s w h.at' hh
  have hlt := leaveText_any N m s w h.at'
  have HS : Hid (SG N mx w m s) := h
  clear h c0 c1 c2
  obtain ⟨tk, htk⟩ : ∃ x, s.takes = x := ⟨_, rfl⟩
  rw [htk] at c3
  by_cases p1 : tk = 2
  rotate_left
  · have HZ : Hid (ansZ s c = (s, ⟨#[]⟩, 7)) := by unfold Hid ansZ; rw [if_pos (by rw [htk]; exact p1)]
    have p1' : (tk == 2) = false := by simpa using p1
    clear hlt
    go_enter Tryz.func15, Tryz.ntmps15
    go_wp2_with fail
    refine hm.mono ?_
    rintro e w1 ⟨rfl, rfl⟩
    clear hm
    go_wp2
    go_ret2
    exact ⟨by rw [HZ.out]; rfl, m, by rw [HZ.out]; exact HS.out.at', Mv.refl _ _⟩
  subst p1
  by_cases p2 : c < 200 ∨ 599 < c
  · have HZ : Hid (ansZ s c = (s, ⟨#[]⟩, 1)) := by unfold Hid ansZ; rw [if_neg (by rw [htk]; decide), if_pos p2]
    clear hlt
    by_cases p3 : c < 200
    · go_enter Tryz.func15, Tryz.ntmps15
      go_wp2_with fail
      refine hm.mono ?_
      rintro e w1 ⟨rfl, rfl⟩
      clear hm
      go_wp2
      go_ret2
      exact ⟨by rw [HZ.out]; rfl, m, by rw [HZ.out]; exact HS.out.at', Mv.refl _ _⟩
    · have p4 : 599 < c := by omega
      go_enter Tryz.func15, Tryz.ntmps15
      go_wp2_with fail
      refine hm.mono ?_
      rintro e w1 ⟨rfl, rfl⟩
      clear hm
      go_wp2
      go_ret2
      exact ⟨by rw [HZ.out]; rfl, m, by rw [HZ.out]; exact HS.out.at', Mv.refl _ _⟩
  have HZ : Hid (ansZ s c = (leaveZ s, replyZ s.host c, 0)) := by unfold Hid ansZ; rw [if_neg (by rw [htk]; decide), if_neg p2]
  have p3 : ¬ c < 200 := fun q => p2 (.inl q)
  have p4 : ¬ 599 < c := fun q => p2 (.inr q)
  go_enter Tryz.func15, Tryz.ntmps15
  go_wp2_with fail
  refine hm.mono ?_
  rintro e w1 ⟨rfl, rfl⟩
  clear hm
  go_wp2_with fail
  refine hlt.mono ?_
  rintro e w2 ⟨⟨v, rfl⟩, h2, v2⟩
  have g2 := HS.out.step h2 v2
  have hrp := reply_any N mx _ _ w2 c g2 (by omega) (by omega)
  have hrp : Calls Tryz.prog 39 #[.pointer (some ⟨m.g, 0, none⟩), .int .i64 c] w2 fun e w' => e = .returned (.string (replyZ s.host c)) ∧ Below w2.heap.size w2 w' := hrp
  have HG2 : Hid (SG N mx w2 (noTos (noTx m)) (leaveZ s) ∧ Mv m (noTos (noTx m)) w1 w2) := ⟨g2, v2⟩
  clear hlt h2 v2 g2
  go_wp2_with fail
  refine hrp.mono ?_
  rintro e w3 ⟨rfl, hb⟩
  obtain ⟨g3, v3⟩ := HG2.out.1.below hb
  have HG3 : Hid (SvAt N w3 (noTos (noTx m)) (leaveZ s) ∧ Mv m (noTos (noTx m)) w1 w3) := ⟨g3.at', HG2.out.2.trans v3⟩
  clear hrp hb g3 v3
  go_wp2
  go_ret2
  exact ⟨by rw [HZ.out]; rfl, _, by rw [HZ.out]; exact HG3.out.1, HG3.out.2⟩
end Go.Proofs.YtbckbonffajmeaaGreatDoor
