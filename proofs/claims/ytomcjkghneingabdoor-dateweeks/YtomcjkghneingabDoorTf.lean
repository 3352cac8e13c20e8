/-
  Years and days of words: the contracts of yearOf and dayOf.
-/
import Derived.Test.YtomcjkghneingabDoorTe
namespace Go.Proofs.YtomcjkghneingabDoor
open Go.RowKit
set_option linter.unusedVariables false
set_option linter.unusedSimpArgs false

theorem ten_mono (m : Nat) : ∀ k : Nat, (10 : Int) ^ m ≤ 10 ^ (m + k)
  | 0 => Int.le_refl _
  | k + 1 => by
    have h := ten_mono m k
    have hp : (0 : Int) < 10 ^ (m + k) := Int.pow_pos (by decide)
    rw [← Nat.add_assoc, Int.pow_succ]
    omega
theorem numD_bound (l : List Int) (a b : Nat) : 0 ≤ (numD l a b).1 ∧ (numD l a b).1 < 10 ^ b := by
  have hp : (0 : Int) < 10 ^ b := Int.pow_pos (by decide)
  unfold numD
  split
  · exact ⟨by decide, hp⟩
  · rename_i h
    split
    · rename_i h2
      have := valN_bound l.length l rfl h2
      have h3 : (10 : Int) ^ l.length ≤ 10 ^ b := by
        have := ten_mono l.length (b - l.length)
        rwa [show l.length + (b - l.length) = b by omega] at this
      exact ⟨this.1, by show valN l < _; omega⟩
    · exact ⟨by decide, hp⟩
def yearN (l : List Int) : Int × Bool := if (numD l 2 2).2 = true then (if (numD l 2 2).1 < 50 then (2000 + (numD l 2 2).1, true) else (1900 + (numD l 2 2).1, true)) else numD l 4 4
theorem yearN_bound (l : List Int) : 0 ≤ (yearN l).1 ∧ (yearN l).1 < 10000 := by
  have h1 := numD_bound l 2 2
  have h2 := numD_bound l 4 4
  have e1 : (10 : Int) ^ 2 = 100 := by decide
  have e2 : (10 : Int) ^ 4 = 10000 := by decide
  rw [e1] at h1
  rw [e2] at h2
  unfold yearN
  split
  · split
    · show 0 ≤ 2000 + (numD l 2 2).1 ∧ 2000 + (numD l 2 2).1 < 10000
      omega
    · show 0 ≤ 1900 + (numD l 2 2).1 ∧ 1900 + (numD l 2 2).1 < 10000
      omega
  · exact h2
set_option maxRecDepth 100000 in
set_option maxHeartbeats 2000000 in
theorem yearOf_any (s : ByteArray) (w : World) : Calls Tryd.prog 31 #[.string s] w fun e w' => e = .returned (.tuple #[.int .i64 (yearN (nums s)).1, .bool (yearN (nums s)).2]) ∧ w = w' := by
  have h2 := fun V => number_any s 2 2 V (by decide)
  have h4 := fun V => number_any s 4 4 V (by decide)
  have b2 := numD_bound (nums s) 2 2
  have e1 : (10 : Int) ^ 2 = 100 := by decide
  rw [e1] at b2
  obtain ⟨⟨v, q⟩, hv⟩ : ∃ p, numD (nums s) 2 2 = p := ⟨_, rfl⟩
  obtain ⟨⟨u, r⟩, hu⟩ : ∃ p, numD (nums s) 4 4 = p := ⟨_, rfl⟩
  rw [hv] at h2 b2
  rw [hu] at h4
  have h2 : ∀ V, Calls Tryd.prog 30 #[.string s, .int .i64 2, .int .i64 2] V fun e w' => e = .returned (.tuple #[.int .i64 v, .bool q]) ∧ V = w' := h2
  have h4 : ∀ V, Calls Tryd.prog 30 #[.string s, .int .i64 4, .int .i64 4] V fun e w' => e = .returned (.tuple #[.int .i64 u, .bool r]) ∧ V = w' := h4
  have H2 : Hid (∀ V, Calls Tryd.prog 30 #[.string s, .int .i64 2, .int .i64 2] V fun e w' => e = .returned (.tuple #[.int .i64 v, .bool q]) ∧ V = w') := h2
  have H4 : Hid (∀ V, Calls Tryd.prog 30 #[.string s, .int .i64 4, .int .i64 4] V fun e w' => e = .returned (.tuple #[.int .i64 u, .bool r]) ∧ V = w') := h4
  have v0 : 0 ≤ v := b2.1
  have v1 : v < 100 := b2.2
  have HY : Hid (yearN (nums s) = if q = true then (if v < 50 then (2000 + v, true) else (1900 + v, true)) else (u, r)) := by
    unfold Hid yearN
    rw [hv, hu]
  clear h2 h4 b2 hv hu e1
  cases q with
  | true =>
    by_cases p : v < 50
    · have dp : decide (v < 50) = true := by simpa using p
      rw [if_pos rfl, if_pos p] at HY
      go_enter Tryd.func31, Tryd.ntmps31
      go_wp2_with fail
      refine (H2.out _).mono ?_
      rintro e w' ⟨rfl, rfl⟩
      go_wp2
      go_ret2
      exact ⟨by rw [HY.out] <;> rfl, rfl⟩
    · have dp : decide (v < 50) = false := by simpa using p
      rw [if_pos rfl, if_neg p] at HY
      go_enter Tryd.func31, Tryd.ntmps31
      go_wp2_with fail
      refine (H2.out _).mono ?_
      rintro e w' ⟨rfl, rfl⟩
      go_wp2
      go_ret2
      exact ⟨by rw [HY.out] <;> rfl, rfl⟩
  | false =>
    rw [if_neg (by decide)] at HY
    go_enter Tryd.func31, Tryd.ntmps31
    go_wp2_with fail
    refine (H2.out _).mono ?_
    rintro e w' ⟨rfl, rfl⟩
    go_wp2_with fail
    refine (H4.out _).mono ?_
    rintro e w' ⟨rfl, rfl⟩
    go_wp2
    go_ret2
    exact ⟨by rw [HY.out] <;> rfl, rfl⟩
theorem mof_bound (l : List Int) : 0 ≤ mofZ l ∧ mofZ l ≤ 12 := by
  unfold mofZ
  split
  · rename_i i h
    have := List.mem_range.1 (List.find?_range_eq_some.1 h).2.1
    omega
  · decide
/-- What three words say: how many days lie ahead, and whether they say a day. -/
def dayN (d m y : List Int) : Int × Bool :=
  if (numD d 1 2).2 = true ∧ (yearN y).2 = true ∧ Wn.dayB (yearN y).1 (mofZ m) (numD d 1 2).1 = true then (Wn.daysZ (yearN y).1 (mofZ m) (numD d 1 2).1, true) else (0, false)
set_option maxRecDepth 100000 in
set_option maxHeartbeats 4000000 in
theorem dayOf_any (d m y : ByteArray) (w : World) (hs : m.size ≤ 100000000) (hg : Gl w) : Calls Tryd.prog 15 #[.string d, .string m, .string y] w fun e w' => e = .returned (.tuple #[.int .i64 (dayN (nums d) (nums m) (nums y)).1, .bool (dayN (nums d) (nums m) (nums y)).2]) ∧ Below w.heap.size w w' := by
  have HG : Hid (Gl w) := hg
  have h1 := number_any d 1 2 w (by decide)
  have h2 := yearOf_any y w
  have h3 := mof_any m w hs hg
  have b1 := numD_bound (nums d) 1 2
  have b2 := yearN_bound (nums y)
  have b3 := mof_bound (nums m)
  have e1 : (10 : Int) ^ 2 = 100 := by decide
  rw [e1] at b1
  obtain ⟨⟨dv, dq⟩, hd⟩ : ∃ p, numD (nums d) 1 2 = p := ⟨_, rfl⟩
  obtain ⟨⟨yv, yq⟩, hy⟩ : ∃ p, yearN (nums y) = p := ⟨_, rfl⟩
  obtain ⟨mv, hm⟩ : ∃ p, mofZ (nums m) = p := ⟨_, rfl⟩
  rw [hd] at h1 b1
  rw [hy] at h2 b2
  rw [hm] at h3 b3
  have h1 : Calls Tryd.prog 30 #[.string d, .int .i64 1, .int .i64 2] w fun e w' => e = .returned (.tuple #[.int .i64 dv, .bool dq]) ∧ w = w' := h1
  have h2 : Calls Tryd.prog 31 #[.string y] w fun e w' => e = .returned (.tuple #[.int .i64 yv, .bool yq]) ∧ w = w' := h2
  have d0 : 0 ≤ dv := b1.1
  have d1 : dv < 100 := b1.2
  have y0 : 0 ≤ yv := b2.1
  have y1 : yv < 10000 := b2.2
  have m0 := b3.1
  have m1 := b3.2
  have H4 : Hid (∀ V, Below w.heap.size w V → Calls Tryd.prog 32 #[.int .i64 yv, .int .i64 mv, .int .i64 dv] V fun e w' => e = .returned (.tuple #[.int .i64 (Wn.daysV yv mv dv), .int .i64 (Wn.daysE yv mv dv)]) ∧ V = w') := fun V hb => Wn.days_any yv mv dv V (by omega) (by omega) (by omega) (by omega) (by omega) (by omega) (HG.out.below hb).ah
  have HZ : Hid (dayN (nums d) (nums m) (nums y) = if dq = true ∧ yq = true ∧ Wn.dayB yv mv dv = true then (Wn.daysZ yv mv dv, true) else (0, false)) := by
    unfold Hid dayN
    rw [hd, hy, hm]
  clear b1 b2 b3 hd hy hm e1 hg
  go_enter Tryd.func15, Tryd.ntmps15
  go_wp2_with fail
  refine h1.mono ?_
  clear h1
  rintro e w' ⟨rfl, hw'⟩
  rw [← hw']
  clear hw' w'
  go_wp2_with fail
  refine h2.mono ?_
  clear h2
  rintro e w' ⟨rfl, hw'⟩
  rw [← hw']
  clear hw' w'
  go_wp2_with fail
  refine h3.mono ?_
  clear h3
  rintro e w2 ⟨rfl, hb2⟩
  have h4 := H4.out w2 hb2
  unfold Wn.daysV Wn.daysE at h4
  cases hB : Wn.dayB yv mv dv with
  | false =>
    rw [hB] at h4
    rw [hB, if_neg (by simp)] at HZ
    rw [if_neg (by decide), if_neg (by decide)] at h4
    clear hB
    cases dq <;> cases yq
    all_goals
      go_wp2_with fail
      refine h4.mono ?_
      rintro e w3 ⟨rfl, rfl⟩
      go_wp2
      go_ret2
      exact ⟨by rw [HZ.out] <;> rfl, hb2⟩
  | true =>
    rw [hB] at h4 HZ
    rw [if_pos rfl, if_pos rfl] at h4
    clear hB
    cases dq <;> cases yq
    all_goals
      go_wp2_with fail
      refine h4.mono ?_
      rintro e w3 ⟨rfl, rfl⟩
      go_wp2
      go_ret2
      exact ⟨by rw [HZ.out] <;> rfl, hb2⟩
end Go.Proofs.YtomcjkghneingabDoor
