/-
  What Decode and Encode answer, as the laws ask it.
-/
import Derived.Test.YtlhhbmolkiojfaaDoorCg
namespace Go.Proofs.YtlhhbmolkiojfaaDoor
open Go.RowKit
set_option linter.unusedVariables false

/-- The set that a text is written in, and what stands ahead. -/
def setS (q : Int) : Int := if q = 6 then 7 else q
def markS (q : Int) : List Int := if q = 6 then [254, 255] else []
theorem in_or {s : Int} : ∀ {ps : List Int}, Ut.AllPt ps → AllIn s ps ∨ ∃ ps1 p qs, ps = ps1 ++ p :: qs ∧ AllIn s ps1 ∧ Ut.ptB p = true ∧ Ut.AllPt qs ∧ encS s p = []
  | [], _ => .inl (fun x hx => by simp at hx)
  | p :: ps, h => by
    by_cases he : encS s p = []
    · exact .inr ⟨[], p, ps, rfl, fun x hx => by simp at hx, h.head, h.tail, he⟩
    · rcases in_or (s := s) h.tail with h1 | ⟨ps1, p1, qs, h1, h2, h3⟩
      · exact .inl (fun x hx => by rcases List.mem_cons.1 hx with rfl | hx; exact ⟨h.head, he⟩; exact h1 x hx)
      · exact .inr ⟨p :: ps1, p1, qs, by rw [h1]; rfl, fun x hx => by rcases List.mem_cons.1 hx with rfl | hx; exact ⟨h.head, he⟩; exact h2 x hx, h3⟩
/-- Encode's answer, exactly: a fault, or the bytes. -/
theorem enc_any (set : ByteArray) (l : List Int) (hl : Byt l) (hset : set.size ≤ 1000000) (hsmall : l.length ≤ 4000) :
    (∃ n c : Int, c ≠ 0 ∧ (setB (lowS set) = 0 → c = 143) ∧ 0 ≤ n ∧ n ≤ l.length ∧
      ((setB (lowS set) = 0 ∧ n = 0 ∧ c = 143) ∨ (setB (lowS set) ≠ 0 ∧ ∃ ps r, l = Ut.flat ps ++ r ∧ Ut.AllPt ps ∧ Ut.decZ r = none ∧ r ≠ [] ∧ n = (Ut.flat ps).length ∧ c = 20) ∨
        (setB (lowS set) ≠ 0 ∧ ∃ ps p qs, l = Ut.flat (ps ++ p :: qs) ∧ AllIn (setS (setB (lowS set))) ps ∧ Ut.ptB p = true ∧ Ut.AllPt qs ∧ encS (setS (setB (lowS set))) p = [] ∧ n = (Ut.flat ps).length ∧ c = 10)) ∧
      ∀ W a cap, Row W a l → l.length ≤ cap → cap ≤ maxLen → T9 W → TW W → Calls Tryd.prog 14 #[.string set, .slice a l.length cap] W fun e w' => e = .returned (.tuple #[.slice none 0 0, .agg #[.int .i64 n, .int .i64 c]]) ∧ Below W.heap.size W w')
    ∨ (∃ ps, setB (lowS set) ≠ 0 ∧ l = Ut.flat ps ∧ AllIn (setS (setB (lowS set))) ps ∧
      ∀ W a cap, Row W a l → l.length ≤ cap → cap ≤ maxLen → T9 W → TW W → Calls Tryd.prog 14 #[.string set, .slice a l.length cap] W fun e w' => ∃ v, e = .returned (.tuple #[v, .agg #[.int .i64 0, .int .i64 0]]) ∧ Own w' W.heap.size v (markS (setB (lowS set)) ++ flatS (setS (setB (lowS set))) ps) ∧ Below W.heap.size W w') := by
  by_cases h0 : setB (lowS set) = 0
  · refine .inl ⟨0, 143, by decide, fun _ => rfl, by omega, by omega, .inl ⟨h0, rfl, rfl⟩, fun W a cap _ _ _ _ _ => encode_unknown set a l.length cap W hset h0⟩
  · obtain ⟨ps, r, hps, hlr, hr⟩ := Ut.split_ex l hl
    by_cases hne : r = []
    · subst hne
      rw [List.append_nil] at hlr
      by_cases h6 : setB (lowS set) = 6
      · have hs : setS (setB (lowS set)) = 7 := by unfold setS; rw [if_pos h6]
        have hk : markS (setB (lowS set)) = [254, 255] := by unfold markS; rw [if_pos h6]
        rw [hs, hk]
        rcases in_or (s := 7) hps with hA | ⟨ps1, p, qs, he, hA, hp, hq, hn⟩
        · exact .inr ⟨ps, h0, hlr, hA, fun W a cap hrow hc hm h9 hW => encode_yes6 set a l.length cap ps W hset h6 (by rw [← hlr]) hA hc hm hsmall (by rw [← hlr]; exact hrow) h9 hW⟩
        · subst he
          refine .inl ⟨(Ut.flat ps1).length, 10, by decide, fun h => absurd h h0, by omega, by rw [hlr, Ut.flat_append, List.length_append]; omega, .inr (.inr ⟨h0, ps1, p, qs, hlr, hA, hp, hq, hn, rfl, rfl⟩), fun W a cap hrow hc hm h9 hW => encode_no6 set a l.length cap ps1 p qs W hset h6 (by rw [← hlr]) hA hp hq hn hc hm hsmall (by rw [← hlr]; exact hrow) h9 hW⟩
      · have hs : setS (setB (lowS set)) = setB (lowS set) := by unfold setS; rw [if_neg h6]
        have hk : markS (setB (lowS set)) = [] := by unfold markS; rw [if_neg h6]
        rw [hs, hk]
        rcases in_or (s := setB (lowS set)) hps with hA | ⟨ps1, p, qs, he, hA, hp, hq, hn⟩
        · exact .inr ⟨ps, h0, hlr, hA, fun W a cap hrow hc hm h9 hW => encode_yes set a l.length cap ps W _ hset rfl h0 h6 (by rw [← hlr]) hA hc hm hsmall (by rw [← hlr]; exact hrow) h9 hW⟩
        · subst he
          refine .inl ⟨(Ut.flat ps1).length, 10, by decide, fun h => absurd h h0, by omega, by rw [hlr, Ut.flat_append, List.length_append]; omega, .inr (.inr ⟨h0, ps1, p, qs, hlr, hA, hp, hq, hn, rfl, rfl⟩), fun W a cap hrow hc hm h9 hW => encode_no set a l.length cap ps1 p qs W _ hset rfl h0 h6 (by rw [← hlr]) hA hp hq hn hc hm hsmall (by rw [← hlr]; exact hrow) h9 hW⟩
    · refine .inl ⟨(Ut.flat ps).length, 20, by decide, fun h => absurd h h0, by omega, by rw [hlr, List.length_append]; omega, .inr (.inl ⟨h0, ps, r, hlr, hps, hr, hne, rfl, rfl⟩), fun W a cap hrow hc hm h9 hW => ?_⟩
      exact encode_bad set a l.length cap ps r W hset h0 (by rw [← hlr]) hps hr hne (fun x hx => hl x (by rw [hlr]; simp [hx])) hc hm hsmall (by rw [← hlr]; exact hrow)
/-- Decode's answer, exactly. -/
theorem dec_any (set : ByteArray) (l : List Int) (hl : Byt l) (hset : set.size ≤ 1000000) (hsmall : l.length ≤ 4000) :
    (∃ n c : Int, c ≠ 0 ∧ 0 ≤ n ∧ n ≤ l.length ∧
      ((setB (lowS set) = 0 ∧ n = 0 ∧ c = 143) ∨ (setB (lowS set) ≠ 0 ∧ ∃ s k0 ps r, ordZ (setB (lowS set)) l = (s, k0) ∧ l.drop k0 = flatS s ps ++ r ∧ AllIn s ps ∧ nxS s r = none ∧ r ≠ [] ∧ n = ((k0 + (flatS s ps).length : Nat) : Int) ∧ c = 20)) ∧
      ∀ W a cap, Row W a l → l.length ≤ cap → cap ≤ maxLen → T9 W → TW W → Calls Tryd.prog 10 #[.string set, .slice a l.length cap] W fun e w' => e = .returned (.tuple #[.slice none 0 0, .agg #[.int .i64 n, .int .i64 c]]) ∧ Below W.heap.size W w')
    ∨ (∃ s k0 ps, setB (lowS set) ≠ 0 ∧ ordZ (setB (lowS set)) l = (s, k0) ∧ l.drop k0 = flatS s ps ∧ AllIn s ps ∧
      ∀ W a cap, Row W a l → l.length ≤ cap → cap ≤ maxLen → T9 W → TW W → Calls Tryd.prog 10 #[.string set, .slice a l.length cap] W fun e w' => ∃ v, e = .returned (.tuple #[v, .agg #[.int .i64 0, .int .i64 0]]) ∧ Own w' W.heap.size v (Ut.flat ps) ∧ Below W.heap.size W w') := by
  have hr8 := setB_range (lowS set)
  by_cases h0 : setB (lowS set) = 0
  · exact .inl ⟨0, 143, by decide, by omega, by omega, .inl ⟨h0, rfl, rfl⟩, fun W a cap _ _ _ _ _ => decode_unknown set a l.length cap W hset h0⟩
  · obtain ⟨s, k0, h⟩ : ∃ s k0, ordZ (setB (lowS set)) l = (s, k0) := ⟨_, _, rfl⟩
    have hok : SetOk s := by have := ord_set (s := setB (lowS set)) (by omega) (by omega) l; rw [h] at this; exact this
    have hk0 : k0 ≤ l.length := by have := ord_le (setB (lowS set)) l; rw [h] at this; exact this
    obtain ⟨ps, r, hA, hd, hz⟩ := splitS_ex hok (l.drop k0) (hl.drop k0)
    by_cases hne : r = []
    · subst hne
      rw [List.append_nil] at hd
      exact .inr ⟨s, k0, ps, h0, h, hd, hA, fun W a cap hrow hc hm h9 hW => decode_yes set a l.length cap l ps W s k0 hset h0 h rfl hl hA hd hc hm hsmall hrow h9 hW⟩
    · refine .inl ⟨((k0 + (flatS s ps).length : Nat) : Int), 20, by decide, by omega, ?_, .inr ⟨h0, s, k0, ps, r, h, hd, hA, hz, hne, rfl, rfl⟩, fun W a cap hrow hc hm h9 hW => decode_no set a l.length cap l ps r W s k0 hset h0 h rfl hl hA hd hne hz hc hm hsmall hrow h9 hW⟩
      have := congrArg List.length hd
      rw [List.length_drop, List.length_append] at this
      omega
end Go.Proofs.YtlhhbmolkiojfaaDoor
