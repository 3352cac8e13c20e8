/-
  The contracts of setOf, Known and setFor.
-/
import Derived.Test.YtlhhbmolkiojfaaDoorSm
import Derived.Test.YtlhhbmolkiojfaaDoorCh
namespace Go.Proofs.YtlhhbmolkiojfaaDoor
open Go.RowKit
set_option linter.unusedVariables false

/-- A text with small letters. -/
def lowS (s : ByteArray) : ByteArray := strOfNums ((nums s).map smallZ)
/-- The set of a name in small letters; 0: none. -/
def setB (x : ByteArray) : Int :=
  if x.toList == [117, 115, 45, 97, 115, 99, 105, 105] then 1 else if x.toList == [97, 115, 99, 105, 105] then 1 else if x.toList == [117, 116, 102, 45, 56] then 2 else if x.toList == [105, 115, 111, 45, 56, 56, 53, 57, 45, 49] then 3 else if x.toList == [108, 97, 116, 105, 110, 49] then 3 else if x.toList == [105, 115, 111, 45, 56, 56, 53, 57, 45, 49, 53] then 4 else if x.toList == [119, 105, 110, 100, 111, 119, 115, 45, 49, 50, 53, 50] then 5 else if x.toList == [117, 116, 102, 45, 49, 54] then 6 else if x.toList == [117, 116, 102, 45, 49, 54, 98, 101] then 7 else if x.toList == [117, 116, 102, 45, 49, 54, 108, 101] then 8 else 0
theorem setB_range (x : ByteArray) : 0 ≤ setB x ∧ setB x ≤ 8 := by
  unfold setB
  repeat' split
  all_goals omega
set_option maxRecDepth 100000 in
set_option maxHeartbeats 4000000 in
theorem setOf_any (s : ByteArray) (w : World) (hs : s.size ≤ 1000000) : Calls Tryd.prog 25 #[.string s] w fun e w' => e = .returned (.int .i64 (setB (lowS s))) ∧ Below w.heap.size w w' := by
  obtain ⟨x, hx⟩ : ∃ x, lowS s = x := ⟨_, rfl⟩
  have K : Calls Tryd.prog 40 #[.string s] w fun e w' => e = .returned (.string x) ∧ Below w.heap.size w w' := by rw [← hx]; exact small_any s w (by omega)
  rw [hx]
  clear hx
  cases e0 : (x.toList == [117, 115, 45, 97, 115, 99, 105, 105]) with
  | true =>
    have HS : Hid (setB x = 1) := by unfold Hid setB; rw [if_pos e0]
    go_enter Tryd.func25, Tryd.ntmps25
    go_wp2_with (go_at_call 40; refine K.mono ?_; rintro e w' ⟨rfl, hb⟩)
    go_ret
    exact ⟨ret_int HS.out.symm, hb⟩
  | false =>
    cases e1 : (x.toList == [97, 115, 99, 105, 105]) with
    | true =>
      have HS : Hid (setB x = 1) := by unfold Hid setB; rw [if_neg (by rw [e0]; decide)]; rw [if_pos e1]
      go_enter Tryd.func25, Tryd.ntmps25
      go_wp2_with (go_at_call 40; refine K.mono ?_; rintro e w' ⟨rfl, hb⟩)
      go_ret
      exact ⟨ret_int HS.out.symm, hb⟩
    | false =>
      cases e2 : (x.toList == [117, 116, 102, 45, 56]) with
      | true =>
        have HS : Hid (setB x = 2) := by unfold Hid setB; rw [if_neg (by rw [e0]; decide)]; rw [if_neg (by rw [e1]; decide)]; rw [if_pos e2]
        go_enter Tryd.func25, Tryd.ntmps25
        go_wp2_with (go_at_call 40; refine K.mono ?_; rintro e w' ⟨rfl, hb⟩)
        go_ret
        exact ⟨ret_int HS.out.symm, hb⟩
      | false =>
        cases e3 : (x.toList == [105, 115, 111, 45, 56, 56, 53, 57, 45, 49]) with
        | true =>
          have HS : Hid (setB x = 3) := by unfold Hid setB; rw [if_neg (by rw [e0]; decide)]; rw [if_neg (by rw [e1]; decide)]; rw [if_neg (by rw [e2]; decide)]; rw [if_pos e3]
          go_enter Tryd.func25, Tryd.ntmps25
          go_wp2_with (go_at_call 40; refine K.mono ?_; rintro e w' ⟨rfl, hb⟩)
          go_ret
          exact ⟨ret_int HS.out.symm, hb⟩
        | false =>
          cases e4 : (x.toList == [108, 97, 116, 105, 110, 49]) with
          | true =>
            have HS : Hid (setB x = 3) := by unfold Hid setB; rw [if_neg (by rw [e0]; decide)]; rw [if_neg (by rw [e1]; decide)]; rw [if_neg (by rw [e2]; decide)]; rw [if_neg (by rw [e3]; decide)]; rw [if_pos e4]
            go_enter Tryd.func25, Tryd.ntmps25
            go_wp2_with (go_at_call 40; refine K.mono ?_; rintro e w' ⟨rfl, hb⟩)
            go_ret
            exact ⟨ret_int HS.out.symm, hb⟩
          | false =>
            cases e5 : (x.toList == [105, 115, 111, 45, 56, 56, 53, 57, 45, 49, 53]) with
            | true =>
              have HS : Hid (setB x = 4) := by unfold Hid setB; rw [if_neg (by rw [e0]; decide)]; rw [if_neg (by rw [e1]; decide)]; rw [if_neg (by rw [e2]; decide)]; rw [if_neg (by rw [e3]; decide)]; rw [if_neg (by rw [e4]; decide)]; rw [if_pos e5]
              go_enter Tryd.func25, Tryd.ntmps25
              go_wp2_with (go_at_call 40; refine K.mono ?_; rintro e w' ⟨rfl, hb⟩)
              go_ret
              exact ⟨ret_int HS.out.symm, hb⟩
            | false =>
              cases e6 : (x.toList == [119, 105, 110, 100, 111, 119, 115, 45, 49, 50, 53, 50]) with
              | true =>
                have HS : Hid (setB x = 5) := by unfold Hid setB; rw [if_neg (by rw [e0]; decide)]; rw [if_neg (by rw [e1]; decide)]; rw [if_neg (by rw [e2]; decide)]; rw [if_neg (by rw [e3]; decide)]; rw [if_neg (by rw [e4]; decide)]; rw [if_neg (by rw [e5]; decide)]; rw [if_pos e6]
                go_enter Tryd.func25, Tryd.ntmps25
                go_wp2_with (go_at_call 40; refine K.mono ?_; rintro e w' ⟨rfl, hb⟩)
                go_ret
                exact ⟨ret_int HS.out.symm, hb⟩
              | false =>
                cases e7 : (x.toList == [117, 116, 102, 45, 49, 54]) with
                | true =>
                  have HS : Hid (setB x = 6) := by unfold Hid setB; rw [if_neg (by rw [e0]; decide)]; rw [if_neg (by rw [e1]; decide)]; rw [if_neg (by rw [e2]; decide)]; rw [if_neg (by rw [e3]; decide)]; rw [if_neg (by rw [e4]; decide)]; rw [if_neg (by rw [e5]; decide)]; rw [if_neg (by rw [e6]; decide)]; rw [if_pos e7]
                  go_enter Tryd.func25, Tryd.ntmps25
                  go_wp2_with (go_at_call 40; refine K.mono ?_; rintro e w' ⟨rfl, hb⟩)
                  go_ret
                  exact ⟨ret_int HS.out.symm, hb⟩
                | false =>
                  cases e8 : (x.toList == [117, 116, 102, 45, 49, 54, 98, 101]) with
                  | true =>
                    have HS : Hid (setB x = 7) := by unfold Hid setB; rw [if_neg (by rw [e0]; decide)]; rw [if_neg (by rw [e1]; decide)]; rw [if_neg (by rw [e2]; decide)]; rw [if_neg (by rw [e3]; decide)]; rw [if_neg (by rw [e4]; decide)]; rw [if_neg (by rw [e5]; decide)]; rw [if_neg (by rw [e6]; decide)]; rw [if_neg (by rw [e7]; decide)]; rw [if_pos e8]
                    go_enter Tryd.func25, Tryd.ntmps25
                    go_wp2_with (go_at_call 40; refine K.mono ?_; rintro e w' ⟨rfl, hb⟩)
                    go_ret
                    exact ⟨ret_int HS.out.symm, hb⟩
                  | false =>
                    cases e9 : (x.toList == [117, 116, 102, 45, 49, 54, 108, 101]) with
                    | true =>
                      have HS : Hid (setB x = 8) := by unfold Hid setB; rw [if_neg (by rw [e0]; decide)]; rw [if_neg (by rw [e1]; decide)]; rw [if_neg (by rw [e2]; decide)]; rw [if_neg (by rw [e3]; decide)]; rw [if_neg (by rw [e4]; decide)]; rw [if_neg (by rw [e5]; decide)]; rw [if_neg (by rw [e6]; decide)]; rw [if_neg (by rw [e7]; decide)]; rw [if_neg (by rw [e8]; decide)]; rw [if_pos e9]
                      go_enter Tryd.func25, Tryd.ntmps25
                      go_wp2_with (go_at_call 40; refine K.mono ?_; rintro e w' ⟨rfl, hb⟩)
                      go_ret
                      exact ⟨ret_int HS.out.symm, hb⟩
                    | false =>
                      have HS : Hid (setB x = 0) := by unfold Hid setB; rw [if_neg (by rw [e0]; decide)]; rw [if_neg (by rw [e1]; decide)]; rw [if_neg (by rw [e2]; decide)]; rw [if_neg (by rw [e3]; decide)]; rw [if_neg (by rw [e4]; decide)]; rw [if_neg (by rw [e5]; decide)]; rw [if_neg (by rw [e6]; decide)]; rw [if_neg (by rw [e7]; decide)]; rw [if_neg (by rw [e8]; decide)]; rw [if_neg (by rw [e9]; decide)]
                      go_enter Tryd.func25, Tryd.ntmps25
                      go_wp2_with (go_at_call 40; refine K.mono ?_; rintro e w' ⟨rfl, hb⟩)
                      go_ret
                      exact ⟨ret_int HS.out.symm, hb⟩
set_option maxRecDepth 100000 in
set_option maxHeartbeats 4000000 in
theorem known_any (s : ByteArray) (w : World) (hs : s.size ≤ 1000000) : Calls Tryd.prog 12 #[.string s] w fun e w' => e = .returned (.bool (!decide (setB (lowS s) = 0))) ∧ Below w.heap.size w w' := by
  have K := setOf_any s w hs
  obtain ⟨q, hq⟩ : ∃ q, setB (lowS s) = q := ⟨_, rfl⟩
  rw [hq] at K
  rw [hq]
  clear hq
  go_enter Tryd.func12, Tryd.ntmps12
  go_wp2_with (go_at_call 25; refine K.mono ?_; rintro e w' ⟨rfl, hb⟩)
  go_ret
  refine ⟨ret_bool ?_, hb⟩
  by_cases h0 : q = 0 <;> simp [h0]
set_option maxRecDepth 100000 in
set_option maxHeartbeats 4000000 in
theorem setFor_no (s : ByteArray) (a : Option Addr) (len cap : Nat) (w : World) (hs : s.size ≤ 1000000) (h0 : setB (lowS s) = 0) :
    Calls Tryd.prog 19 #[.string s, .slice a len cap] w fun e w' => e = .returned (.tuple #[.int .i64 0, .agg #[.int .i64 0, .int .i64 143]]) ∧ Below w.heap.size w w' := by
  have K := fun v : World => setOf_any s v hs
  rw [h0] at K
  clear h0
  go_enter Tryd.func19, Tryd.ntmps19
  go_wp2_with (go_at_call 25; refine (K _).mono ?_; rintro e w' ⟨rfl, hb⟩; have c0 : w'.cell? ⟨w.heap.size, 0, none⟩ = some (.int .i64 0) := (by rw [hb.cell (by simp)]; simp); have c1 : w'.cell? ⟨w.heap.size, 1, none⟩ = some (.int .i64 0) := (by rw [hb.cell (by simp)]; simp); have f0 : w'.frozen? ⟨w.heap.size, 0, none⟩ = false := (by rw [hb.frozen (by simp)]; simp); have f1 : w'.frozen? ⟨w.heap.size, 1, none⟩ = false := (by rw [hb.frozen (by simp)]; simp))
  have B0 : Below w.heap.size w w' := ((Below.refl _ _).alloc (Nat.le_refl _) _).trans (hb.mono (by simp))
  exact bodyPost_ret (v := .tuple #[.int .i64 0, .agg #[.int .i64 0, .int .i64 143]]) (by simp [results, Tryd.results19, go_sem, c0, c1]) rfl ⟨rfl, (B0.setCell (by simp) _).setCell (by simp) _⟩
set_option maxRecDepth 100000 in
set_option maxHeartbeats 4000000 in
theorem setFor_yes (s : ByteArray) (a : Option Addr) (len cap : Nat) (w : World) (q : Int) (hs : s.size ≤ 1000000) (hq : setB (lowS s) = q) (h0 : q ≠ 0) (hlen : len ≤ 1048576) :
    Calls Tryd.prog 19 #[.string s, .slice a len cap] w fun e w' => e = .returned (.tuple #[.int .i64 q, .agg #[.int .i64 0, .int .i64 0]]) ∧ Below w.heap.size w w' := by
  have K := fun v : World => setOf_any s v hs
  rw [hq] at K
  clear hq
  go_enter Tryd.func19, Tryd.ntmps19
  go_wp2_with (go_at_call 25; refine (K _).mono ?_; rintro e w' ⟨rfl, hb⟩; have c0 : w'.cell? ⟨w.heap.size, 0, none⟩ = some (.int .i64 0) := (by rw [hb.cell (by simp)]; simp); have c1 : w'.cell? ⟨w.heap.size, 1, none⟩ = some (.int .i64 0) := (by rw [hb.cell (by simp)]; simp); have f0 : w'.frozen? ⟨w.heap.size, 0, none⟩ = false := (by rw [hb.frozen (by simp)]; simp); have f1 : w'.frozen? ⟨w.heap.size, 1, none⟩ = false := (by rw [hb.frozen (by simp)]; simp))
  have B0 : Below w.heap.size w w' := ((Below.refl _ _).alloc (Nat.le_refl _) _).trans (hb.mono (by simp))
  exact bodyPost_ret (v := .tuple #[.int .i64 q, .agg #[.int .i64 0, .int .i64 0]]) (by simp [results, Tryd.results19, go_sem, c0, c1]) rfl ⟨rfl, (B0.setCell (by simp) _).setCell (by simp) _⟩
end Go.Proofs.YtlhhbmolkiojfaaDoor
