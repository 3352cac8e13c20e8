/-
  The contracts of the reference's hex, Digits and Sign.
-/
import Derived.Test.YteoojlpaciaobaaDoorPair
namespace Go.Proofs.YteoojlpaciaobaaDoor
open Go.RowKit
set_option linter.unusedVariables false

theorem rhex_any (n : Int) (w : World) (h0 : 0 ≤ n) (h1 : n < 16) : Calls Tryd.prog 21 #[.int .u8 n] w fun e w' => e = .returned (.int .u8 (hexQ n)) ∧ w = w' := by
  unfold hexQ
  by_cases h : n < 10
  · rw [if_pos h]
    go_enter Tryd.func21, Tryd.ntmps21
    go_wp2
    go_ret
    exact ⟨rfl, rfl⟩
  · rw [if_neg h]
    go_enter Tryd.func21, Tryd.ntmps21
    go_wp2
    go_ret
    exact ⟨rfl, rfl⟩
/-- The ways of a byte's sign. -/
theorem selfQ_ways (c : Int) (q : Bool) : (signQ c q = [c] ∧ 33 ≤ c ∧ c ≤ 126 ∧ (c == 61) = false) ∨ (signQ c q = [c] ∧ c = 32 ∧ q = false) ∨ (signQ c q = [c] ∧ c = 9 ∧ q = false) ∨ (signQ c q = 61 :: digQ c ∧ c = 61) ∨ (signQ c q = 61 :: digQ c ∧ (c < 32 ∨ 126 < c) ∧ (c == 9) = false ∧ (c == 32) = false) ∨ (signQ c q = 61 :: digQ c ∧ c = 32 ∧ q = true) ∨ (signQ c q = 61 :: digQ c ∧ c = 9 ∧ q = true) := by
  have e : ∀ b : Bool, selfQ c q = b → signQ c q = if b = true then [c] else 61 :: digQ c := by intro b hb; unfold signQ; rw [hb]
  by_cases h9 : c = 9
  · subst h9
    cases q with
    | true => exact .inr (.inr (.inr (.inr (.inr (.inr ⟨e false rfl, rfl, rfl⟩)))))
    | false => exact .inr (.inr (.inl ⟨e true rfl, rfl, rfl⟩))
  by_cases h32 : c = 32
  · subst h32
    cases q with
    | true => exact .inr (.inr (.inr (.inr (.inr (.inl ⟨e false rfl, rfl, rfl⟩)))))
    | false => exact .inr (.inl ⟨e true rfl, rfl, rfl⟩)
  by_cases h61 : c = 61
  · subst h61
    exact .inr (.inr (.inr (.inl ⟨e false rfl, rfl⟩)))
  by_cases hin : 33 ≤ c ∧ c ≤ 126
  · refine .inl ⟨e true ?_, hin.1, hin.2, by rw [beq_eq_false_iff_ne]; exact h61⟩
    simp [selfQ, hin, h61]
  · refine .inr (.inr (.inr (.inr (.inl ⟨e false ?_, by omega, by rw [beq_eq_false_iff_ne]; exact h9, by rw [beq_eq_false_iff_ne]; exact h32⟩))))
    simp only [selfQ, Bool.or_eq_false_iff, Bool.and_eq_false_iff, decide_eq_false_iff_not]
    exact ⟨.inl (by omega), .inl ⟨h32, h9⟩⟩
set_option maxHeartbeats 1000000 in
theorem rdigits_any (c : Int) (w : World) (h0 : 0 ≤ c) (h1 : c < 256) : Calls Tryd.prog 13 #[.int .u8 c] w fun e w' => e = .returned (.string (strOfNums (digQ c))) ∧ Below w.heap.size w w' := by
  obtain ⟨j0, hi, hz0, hz1, hz2⟩ := info_parts Tryd.info5
  have hx := fun W => rhex_any (c / 16) W (by omega) (by omega)
  have hy := fun W => rhex_any (c % 16) W (by omega) (by omega)
  go_enter Tryd.func13, Tryd.ntmps13
  go_wp2_with fail
  refine (hx _).mono ?_
  rintro e w' ⟨rfl, rfl⟩
  go_wp2_with fail
  refine (hy _).mono ?_
  rintro e w' ⟨rfl, rfl⟩
  go_wp2_with (at_builtin; refine wpList_append_own _ rfl (.tmp 4) (.tmp 11) 22 rfl w.heap.size 5 j0 (.int .u8 0) 1 1 Tryd.underlying22 hi hz0 hz1 hz2 rfl (by decide) _ _ _ rfl ((World.ownsRow_nil w _ _ _).alloc _) ⟨w.heap.size, 0, none⟩ 2 2 ((digQ c).map (Value.int .u8)) rfl rfl (cells_new _ _ _) (ints_one _) ?a1 ?a2 ?a3 ?_)
  case a1 => unfold maxLen; omega
  case a2 => omega
  case a3 => simp
  intro v1 w1 hown1 hgrow1 _
  have HB1 : Hid (Below w.heap.size w w1) := (keep w _).grown hgrow1 (by simp) (by intro k hk; cases hk)
  obtain ⟨a8, cap8, hv, hc8, hm8, hrow8, hn8⟩ := own_row' (l := digQ c) hown1
  have k1 : (convert 22 9 (.slice a8 2 cap8)).run Tryd.prog w1 = .ok (.string (strOfNums (digQ c))) w1 := conv_row _ _ rfl hrow8
  subst hv
  rw [show (digQ c).length = 2 from rfl]
  clear hown1 hgrow1 hrow8
  go_wp2
  go_ret
  exact ⟨rfl, HB1.out⟩
set_option maxHeartbeats 4000000 in
theorem rsign_any (a : Option Addr) (len cap k : Nat) (l : List Int) (c : Int) (r : List Int) (w : World) (hl : l.length = len) (hcap : len ≤ cap) (hm : cap ≤ 9223372036854775807) (hs : len ≤ 100000000) (hrow : Row w a l) (hd : l.drop k = c :: r) (h0 : 0 ≤ c) (h1 : c < 256) :
    Calls Tryd.prog 20 #[.slice a len cap, .int .i64 k] w fun e w' => e = .returned (.string (strOfNums (signQ c (lastQ r)))) ∧ Below w.heap.size w w' := by
  obtain ⟨b, off, rfl, hcell, _⟩ := row_at hrow hd
  have hrl : r.length + 1 + k = len := by
    have := congrArg List.length hd
    rw [List.length_drop, hl] at this
    simp at this; omega
  have e1 : l.drop (k + 1) = r := by rw [← List.drop_drop, hd]; rfl
  have HR : Hid (Row w (some ⟨b, off, none⟩) l) := hrow
  have HL : Hid (l.length = len) := hl
  have kc : (convert 22 9 (.slice (some ⟨b, off + k, none⟩) 1 (cap - k))).run Tryd.prog w = .ok (.string (strOfNums [c])) w := conv_row _ _ rfl (.inr ⟨b, off + k, rfl, fun i hi => by
    obtain rfl : i = 0 := by simpa using hi
    exact hcell⟩)
  have HC : Hid ((⟨#[61]⟩ : ByteArray) ++ strOfNums (digQ c) = strOfNums (61 :: digQ c)) := str_append [61] (digQ c)
  have hsz : (strOfNums (digQ c)).size = 2 := rfl
  clear hrow hl hd
  have hpp : ∀ W, W = w → 0 < r.length → Calls Tryd.prog 16 #[.slice (some ⟨b, off, none⟩) len cap, .int .i64 ((k : Int) + 1)] W fun e w' => e = .returned (.bool (pairQ r)) ∧ W = w' := by
    rintro W rfl h
    rw [← e1]
    exact pair_next _ _ _ k l _ HL.out hcap hm (by omega) hs HR.out
  clear e1
  obtain ⟨q, hq⟩ : ∃ q, lastQ r = q := ⟨_, rfl⟩
  have hlast : (r.length = 0 ∧ q = true) ∨ (0 < r.length ∧ pairQ r = q) := by
    rw [← hq]
    cases r with
    | nil => exact .inl ⟨rfl, rfl⟩
    | cons d t => exact .inr ⟨by simp, by simp [lastQ]⟩
  rw [hq]
  clear hq
  rcases hlast with ⟨hr0, rfl⟩ | ⟨hr0, hpq⟩
  · obtain rfl : len = k + 1 := by omega
    have hbeq : ((k : Int) + 1 == ((k + 1 : Nat) : Int)) = true := by simp
    rcases selfQ_ways c true with ⟨hsg, h2, h3, h4⟩ | ⟨hsg, rfl, hq⟩ | ⟨hsg, rfl, hq⟩ | ⟨hsg, rfl⟩ | ⟨hsg, h2, h3, h4⟩ | ⟨hsg, rfl, hq⟩ | ⟨hsg, rfl, hq⟩
    · have HSG : Hid (signQ c true = [c]) := hsg
      have hne : (c != 61) = true := by rw [bne, h4]; rfl
      clear hsg
      go_enter Tryd.func20, Tryd.ntmps20
      go_wp2_with fail
      all_goals go_ret
      all_goals exact ⟨by rw [HSG.out]; rfl, Below.refl _ _⟩
    · have HSG : Hid (signQ 32 true = [32]) := hsg
      clear hsg
      cases hq
    · have HSG : Hid (signQ 9 true = [9]) := hsg
      clear hsg
      cases hq
    · have HSG : Hid (signQ 61 true = 61 :: digQ 61) := hsg
      clear hsg
      go_enter Tryd.func20, Tryd.ntmps20
      go_wp2_with (go_at_call 13; refine (rdigits_any _ _ h0 h1).mono ?_; rintro e w' ⟨rfl, hb⟩)
      all_goals go_ret
      all_goals exact ⟨by rw [HSG.out, ← HC.out]; rfl, by assumption⟩
    · have HSG : Hid (signQ c true = 61 :: digQ c) := hsg
      clear hsg
      go_enter Tryd.func20, Tryd.ntmps20
      go_wp2_with (go_at_call 13; refine (rdigits_any _ _ h0 h1).mono ?_; rintro e w' ⟨rfl, hb⟩)
      all_goals go_ret
      all_goals exact ⟨by rw [HSG.out, ← HC.out]; rfl, by assumption⟩
    · have HSG : Hid (signQ 32 true = 61 :: digQ 32) := hsg
      clear hsg
      clear hq
      go_enter Tryd.func20, Tryd.ntmps20
      go_wp2_with (go_at_call 13; refine (rdigits_any _ _ h0 h1).mono ?_; rintro e w' ⟨rfl, hb⟩)
      all_goals go_ret
      all_goals exact ⟨by rw [HSG.out, ← HC.out]; rfl, by assumption⟩
    · have HSG : Hid (signQ 9 true = 61 :: digQ 9) := hsg
      clear hsg
      clear hq
      go_enter Tryd.func20, Tryd.ntmps20
      go_wp2_with (go_at_call 13; refine (rdigits_any _ _ h0 h1).mono ?_; rintro e w' ⟨rfl, hb⟩)
      all_goals go_ret
      all_goals exact ⟨by rw [HSG.out, ← HC.out]; rfl, by assumption⟩
  · have hbeq : ((k : Int) + 1 == (len : Int)) = false := by rw [beq_eq_false_iff_ne]; omega
    rcases selfQ_ways c q with ⟨hsg, h2, h3, h4⟩ | ⟨hsg, rfl, hq⟩ | ⟨hsg, rfl, hq⟩ | ⟨hsg, rfl⟩ | ⟨hsg, h2, h3, h4⟩ | ⟨hsg, rfl, hq⟩ | ⟨hsg, rfl, hq⟩
    · have HSG : Hid (signQ c q = [c]) := hsg
      have hne : (c != 61) = true := by rw [bne, h4]; rfl
      clear hsg
      go_enter Tryd.func20, Tryd.ntmps20
      go_wp2_with (go_at_call 16; refine (hpp _ rfl hr0).mono ?_; rintro e w' ⟨rfl, rfl⟩; rw [hpq])
      all_goals go_ret
      all_goals exact ⟨by rw [HSG.out]; rfl, Below.refl _ _⟩
    · have HSG : Hid (signQ 32 q = [32]) := hsg
      clear hsg
      subst hq
      go_enter Tryd.func20, Tryd.ntmps20
      go_wp2_with (go_at_call 16; refine (hpp _ rfl hr0).mono ?_; rintro e w' ⟨rfl, rfl⟩; rw [hpq])
      all_goals go_ret
      all_goals exact ⟨by rw [HSG.out]; rfl, Below.refl _ _⟩
    · have HSG : Hid (signQ 9 q = [9]) := hsg
      clear hsg
      subst hq
      go_enter Tryd.func20, Tryd.ntmps20
      go_wp2_with (go_at_call 16; refine (hpp _ rfl hr0).mono ?_; rintro e w' ⟨rfl, rfl⟩; rw [hpq])
      all_goals go_ret
      all_goals exact ⟨by rw [HSG.out]; rfl, Below.refl _ _⟩
    · have HSG : Hid (signQ 61 q = 61 :: digQ 61) := hsg
      clear hsg
      go_enter Tryd.func20, Tryd.ntmps20
      go_wp2_with (first
        | (go_at_call 16; refine (hpp _ rfl hr0).mono ?_; rintro e w' ⟨rfl, rfl⟩; rw [hpq])
        | (go_at_call 13; refine (rdigits_any _ _ h0 h1).mono ?_; rintro e w' ⟨rfl, hb⟩))
      all_goals go_ret
      all_goals exact ⟨by rw [HSG.out, ← HC.out]; rfl, by assumption⟩
    · have HSG : Hid (signQ c q = 61 :: digQ c) := hsg
      clear hsg
      go_enter Tryd.func20, Tryd.ntmps20
      go_wp2_with (first
        | (go_at_call 16; refine (hpp _ rfl hr0).mono ?_; rintro e w' ⟨rfl, rfl⟩; rw [hpq])
        | (go_at_call 13; refine (rdigits_any _ _ h0 h1).mono ?_; rintro e w' ⟨rfl, hb⟩))
      all_goals go_ret
      all_goals exact ⟨by rw [HSG.out, ← HC.out]; rfl, by assumption⟩
    · have HSG : Hid (signQ 32 q = 61 :: digQ 32) := hsg
      clear hsg
      subst hq
      go_enter Tryd.func20, Tryd.ntmps20
      go_wp2_with (first
        | (go_at_call 16; refine (hpp _ rfl hr0).mono ?_; rintro e w' ⟨rfl, rfl⟩; rw [hpq])
        | (go_at_call 13; refine (rdigits_any _ _ h0 h1).mono ?_; rintro e w' ⟨rfl, hb⟩))
      all_goals go_ret
      all_goals exact ⟨by rw [HSG.out, ← HC.out]; rfl, by assumption⟩
    · have HSG : Hid (signQ 9 q = 61 :: digQ 9) := hsg
      clear hsg
      subst hq
      go_enter Tryd.func20, Tryd.ntmps20
      go_wp2_with (first
        | (go_at_call 16; refine (hpp _ rfl hr0).mono ?_; rintro e w' ⟨rfl, rfl⟩; rw [hpq])
        | (go_at_call 13; refine (rdigits_any _ _ h0 h1).mono ?_; rintro e w' ⟨rfl, hb⟩))
      all_goals go_ret
      all_goals exact ⟨by rw [HSG.out, ← HC.out]; rfl, by assumption⟩
end Go.Proofs.YteoojlpaciaobaaDoor
