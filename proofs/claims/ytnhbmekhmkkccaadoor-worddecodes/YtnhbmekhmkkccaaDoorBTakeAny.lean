/-
  The contract of the reader's take as a whole.
-/
import Derived.Test.YtnhbmekhmkkccaaDoorBFull
namespace Go.Proofs.YtnhbmekhmkkccaaDoor.Bt
open Go.RowKit
set_option linter.unusedVariables false

def fresh (out : List Int) (cl : Bool) : Rs := { out := out, dg := 0, p0 := 0, p1 := 0, p2 := 0, p3 := 0, cnt := 0, pads := 0, cl := cl }
/-- What one byte does to a reader: a fault, or what it holds then. -/
def takeZ (s : Rs) (c at0 : Int) : Sum (Int × Int) Rs :=
  if valZ c < 0 ∧ c ≠ 61 then .inl (at0, 10)
  else if s.cl = true then .inl (at0, 11)
  else if c = 61 then
    if s.cnt < 2 then .inl (at0, 11)
    else if s.cnt = 2 then .inr { out := s.out, dg := s.dg * 64, p0 := s.p0, p1 := s.p1, p2 := at0, p3 := s.p3, cnt := 3, pads := 1, cl := false }
    else if s.pads = 0 then (if s.dg * 64 % 256 = 0 then .inr (fresh (s.out ++ (bytesD (s.dg * 64)).take 2) true) else .inl (s.p2, 12))
    else (if s.dg * 64 % 65536 = 0 then .inr (fresh (s.out ++ (bytesD (s.dg * 64)).take 1) true) else .inl (s.p1, 12))
  else if 0 < s.pads then .inl (s.p2, 11)
  else if s.cnt = 0 then .inr { out := s.out, dg := s.dg * 64 + valZ c, p0 := at0, p1 := s.p1, p2 := s.p2, p3 := s.p3, cnt := 1, pads := 0, cl := false }
  else if s.cnt = 1 then .inr { out := s.out, dg := s.dg * 64 + valZ c, p0 := s.p0, p1 := at0, p2 := s.p2, p3 := s.p3, cnt := 2, pads := 0, cl := false }
  else if s.cnt = 2 then .inr { out := s.out, dg := s.dg * 64 + valZ c, p0 := s.p0, p1 := s.p1, p2 := at0, p3 := s.p3, cnt := 3, pads := 0, cl := false }
  else .inr (fresh (s.out ++ (bytesD (s.dg * 64 + valZ c)).take 3) false)

/-- What a reader may hold between two bytes. -/
def Ok (s : Rs) : Prop :=
  0 ≤ s.dg ∧ ((s.cnt = 0 ∧ s.dg < 1 ∧ s.pads = 0) ∨ (s.cl = false ∧ ((s.cnt = 1 ∧ s.dg < 64 ∧ s.pads = 0) ∨ (s.cnt = 2 ∧ s.dg < 4096 ∧ s.pads = 0) ∨ (s.cnt = 3 ∧ s.dg < 262144 ∧ (s.pads = 0 ∨ s.pads = 1)))))

theorem val_bd (c : Int) (h0 : 0 ≤ c) (h1 : c < 256) : valZ c < 64 := by
  have h := val_all ⟨c.toNat, by omega⟩
  have e : ((c.toNat : Nat) : Int) = c := by omega
  simp only [e] at h
  rcases h with h | h
  · omega
  · exact h.2.1

theorem take_ok (s s' : Rs) (c at0 : Int) (hk : Ok s) (h0 : 0 ≤ c) (h1 : c < 256) (h : takeZ s c at0 = .inr s') : Ok s' := by
  have hv := val_bd c h0 h1
  unfold takeZ at h
  unfold Ok at hk
  by_cases a1 : valZ c < 0 ∧ c ≠ 61
  · rw [if_pos a1] at h; cases h
  rw [if_neg a1] at h
  by_cases a2 : s.cl = true
  · rw [if_pos a2] at h; cases h
  rw [if_neg a2] at h
  by_cases a3 : c = 61
  · rw [if_pos a3] at h
    by_cases a4 : s.cnt < 2
    · rw [if_pos a4] at h; cases h
    rw [if_neg a4] at h
    by_cases a5 : s.cnt = 2
    · rw [if_pos a5] at h; cases h; unfold Ok; simp; omega
    rw [if_neg a5] at h
    by_cases a6 : s.pads = 0
    · rw [if_pos a6] at h
      split at h
      · cases h; unfold Ok fresh; simp
      · cases h
    · rw [if_neg a6] at h
      split at h
      · cases h; unfold Ok fresh; simp
      · cases h
  · rw [if_neg a3] at h
    by_cases a4 : 0 < s.pads
    · rw [if_pos a4] at h; cases h
    rw [if_neg a4] at h
    by_cases a5 : s.cnt = 0
    · rw [if_pos a5] at h; cases h; unfold Ok; simp; omega
    rw [if_neg a5] at h
    by_cases a6 : s.cnt = 1
    · rw [if_pos a6] at h; cases h; unfold Ok; simp; omega
    rw [if_neg a6] at h
    by_cases a7 : s.cnt = 2
    · rw [if_pos a7] at h; cases h; unfold Ok; simp; omega
    rw [if_neg a7] at h
    cases h; unfold Ok fresh; simp

theorem take_fault (g m cap : Nat) (s : Rs) (c at0 fa fc : Int) (w : World) (hr : Rd w g m cap s) (hk : Ok s) (h0 : 0 ≤ c) (h1 : c < 256) (hroom : s.out.length + 3 ≤ cap ∨ s.cnt < 3) (hmg : m < g) (h : takeZ s c at0 = .inl (fa, fc)) :
    Calls Tryd.prog 75 #[.pointer (some ⟨g, 0, none⟩), .int .u8 c, .int .i64 at0] w fun e w' => e = .returned (.agg #[.int .i64 fa, .int .i64 fc]) ∧ Below m w w' := by
  have hv := val_bd c h0 h1
  unfold takeZ at h
  unfold Ok at hk
  by_cases a1 : valZ c < 0 ∧ c ≠ 61
  · rw [if_pos a1] at h; cases h
    exact take_bad g m cap s c at0 w hr a1.1 a1.2 hmg
  rw [if_neg a1] at h
  by_cases a2 : s.cl = true
  · rw [if_pos a2] at h; cases h
    by_cases a3 : c = 61
    · subst a3; exact take_closed_e g m cap s at0 w hr a2 hmg
    · exact take_closed_s g m cap s c at0 w hr a2 (by omega) hmg
  rw [if_neg a2] at h
  have hcl : s.cl = false := by simpa using a2
  by_cases a3 : c = 61
  · rw [if_pos a3] at h
    subst a3
    by_cases a4 : s.cnt < 2
    · rw [if_pos a4] at h; cases h
      exact take_early g m cap s at0 w hr hcl a4 hmg
    rw [if_neg a4] at h
    by_cases a5 : s.cnt = 2
    · rw [if_pos a5] at h; cases h
    rw [if_neg a5] at h
    by_cases a6 : s.pads = 0
    · rw [if_pos a6] at h
      split at h
      · cases h
      · rename_i hz
        cases h
        exact take_e30f g m cap s at0 w hr hcl (by omega) a6 hk.1 (by omega) hz (by omega) hmg
    · rw [if_neg a6] at h
      split at h
      · cases h
      · rename_i hz
        cases h
        exact take_e31f g m cap s at0 w hr hcl (by omega) (by omega) hk.1 (by omega) hz (by omega) hmg
  · rw [if_neg a3] at h
    by_cases a4 : 0 < s.pads
    · rw [if_pos a4] at h; cases h
      exact take_late g m cap s c at0 w hr hcl a4 (by omega) a3 hmg
    rw [if_neg a4] at h
    split at h
    · cases h
    · split at h
      · cases h
      · split at h <;> cases h

theorem take_good (g m cap : Nat) (s s' : Rs) (c at0 : Int) (w : World) (hr : Rd w g m cap s) (hk : Ok s) (h0 : 0 ≤ c) (h1 : c < 256) (hroom : s.out.length + 3 ≤ cap ∨ s.cnt < 3) (hmg : m < g) (h : takeZ s c at0 = .inr s') :
    Calls Tryd.prog 75 #[.pointer (some ⟨g, 0, none⟩), .int .u8 c, .int .i64 at0] w fun e w' => e = .returned (.agg #[.int .i64 0, .int .i64 0]) ∧ Below m w w' ∧ Rd w' g m cap s' := by
  have hv := val_bd c h0 h1
  unfold takeZ at h
  unfold Ok at hk
  by_cases a1 : valZ c < 0 ∧ c ≠ 61
  · rw [if_pos a1] at h; cases h
  rw [if_neg a1] at h
  by_cases a2 : s.cl = true
  · rw [if_pos a2] at h; cases h
  rw [if_neg a2] at h
  have hcl : s.cl = false := by simpa using a2
  by_cases a3 : c = 61
  · rw [if_pos a3] at h
    subst a3
    by_cases a4 : s.cnt < 2
    · rw [if_pos a4] at h; cases h
    rw [if_neg a4] at h
    by_cases a5 : s.cnt = 2
    · rw [if_pos a5] at h; cases h
      exact take_e20 g m cap s at0 w hr hcl a5 (by omega) hk.1 (by omega) hmg
    rw [if_neg a5] at h
    by_cases a6 : s.pads = 0
    · rw [if_pos a6] at h
      split at h
      · rename_i hz
        cases h
        exact take_e30 g m cap s at0 w hr hcl (by omega) a6 hk.1 (by omega) hz (by omega) hmg
      · cases h
    · rw [if_neg a6] at h
      split at h
      · rename_i hz
        cases h
        exact take_e31 g m cap s at0 w hr hcl (by omega) (by omega) hk.1 (by omega) hz (by omega) hmg
      · cases h
  · rw [if_neg a3] at h
    by_cases a4 : 0 < s.pads
    · rw [if_pos a4] at h; cases h
    rw [if_neg a4] at h
    by_cases a5 : s.cnt = 0
    · rw [if_pos a5] at h; cases h
      exact take_s00 g m cap s c at0 w hr hcl a5 (by omega) hk.1 (by omega) (by omega) hv a3 hmg
    rw [if_neg a5] at h
    by_cases a6 : s.cnt = 1
    · rw [if_pos a6] at h; cases h
      exact take_s10 g m cap s c at0 w hr hcl a6 (by omega) hk.1 (by omega) (by omega) hv a3 hmg
    rw [if_neg a6] at h
    by_cases a7 : s.cnt = 2
    · rw [if_pos a7] at h; cases h
      exact take_s20 g m cap s c at0 w hr hcl a7 (by omega) hk.1 (by omega) (by omega) hv a3 hmg
    rw [if_neg a7] at h
    cases h
    exact take_s30 g m cap s c at0 w hr hcl (by omega) (by omega) hk.1 (by omega) (by omega) hv a3 (by omega) hmg
end Go.Proofs.YtnhbmekhmkkccaaDoor.Bt
