/-
  What is written in a set is read there as it was.
-/
import Derived.Test.YtlhhbmolkiojfaaDoorCk
namespace Go.Proofs.YtlhhbmolkiojfaaDoor
open Go.RowKit
set_option linter.unusedVariables false

theorem encS_len2 {s p : Int} (hp : Ut.ptB p = true) : (encS s p).length ≤ 2 * (Ut.encZ p).length := by
  have h1 := Ut.enc_len p
  unfold encS
  split
  · omega
  · split
    · rw [encU_len s hp]
      split
      · omega
      · rw [Ut.enc4 (by omega)]; simp
    · split <;> simp <;> omega
theorem flatS_len2 {s : Int} : ∀ {ps : List Int}, Ut.AllPt ps → (flatS s ps).length ≤ 2 * (Ut.flat ps).length
  | [], _ => by simp [flatS]
  | p :: ps, h => by
    have h1 := flatS_len2 (s := s) h.tail
    have h2 := encS_len2 (s := s) h.head
    rw [flatS_cons, Ut.flat_cons, List.length_append, List.length_append]; omega
theorem ord_mark {q : Int} (hq : q ≠ 0) (r : List Int) : ordZ q (markS q ++ r) = (setS q, (markS q).length) := by
  unfold ordZ markS setS
  by_cases h6 : q = 6
  · rw [if_pos h6, if_pos h6, if_pos h6]
    rfl
  · rw [if_neg h6, if_neg h6, if_neg h6]; rfl
theorem mark_len (q : Int) : (markS q).length ≤ 2 := by unfold markS; split <;> simp
theorem mark_byt (q : Int) : ∀ x ∈ markS q, 0 ≤ x ∧ x < 256 := by
  unfold markS
  split
  · intro x hx; simp at hx; omega
  · intro x hx; simp at hx
theorem setS_ok {q0 : ByteArray} {q : Int} (h : setB q0 = q) (hq : q ≠ 0) : SetOk (setS q) := by
  have := setB_range q0
  unfold setS SetOk
  split <;> omega
/-- Decode of what was written. -/
theorem back_dec (set : ByteArray) (ps : List Int) (hset : set.size ≤ 1000000) (hq : setB (lowS set) ≠ 0) (hA : AllIn (setS (setB (lowS set))) ps) (y : List Int) (hy : y = markS (setB (lowS set)) ++ flatS (setS (setB (lowS set))) ps) (hsmall : y.length ≤ 4000) :
    ∀ W a cap, Row W a y → y.length ≤ cap → cap ≤ maxLen → T9 W → TW W → Calls Tryd.prog 10 #[.string set, .slice a y.length cap] W fun e w' => ∃ v, e = .returned (.tuple #[v, .agg #[.int .i64 0, .int .i64 0]]) ∧ Own w' W.heap.size v (Ut.flat ps) ∧ Below W.heap.size W w' := by
  intro W a cap hrow hc hm h9 hW
  have hb : Byt y := by
    rw [hy]
    intro x hx
    rcases List.mem_append.1 hx with hx | hx
    · exact mark_byt _ x hx
    · exact flatS_byt hA.pts x hx
  exact decode_yes set a y.length cap y ps W (setS (setB (lowS set))) (markS (setB (lowS set))).length hset hq (by rw [hy]; exact ord_mark hq _) rfl hb hA (by rw [hy, List.drop_left]) hc hm hsmall hrow h9 hW
end Go.Proofs.YtlhhbmolkiojfaaDoor
