/-
  The contracts of Valid and Cut.
-/
import Derived.Test.YtfhgkkdbkbbpkaaDoorCUNextAny
import Derived.Test.YtfhgkkdbkbbpkaaDoorCUFlat
namespace Go.Proofs.YtfhgkkdbkbbpkaaDoor.Cs.Ut
open Go.RowKit
set_option linter.unusedVariables false

def lenOf : Value → Nat
  | .slice _ n _ => n
  | _ => 0

theorem add_plain (b off n : Nat) : (⟨b, off, none⟩ : Addr).add n = ⟨b, off + n, none⟩ := by unfold Addr.add; split <;> simp_all
theorem row_drop {w : World} {a : Option Addr} {l : List Int} {n cap : Nat} (h : Row w a l) (hc : l.length ≤ cap) :
    Row w (if cap = n then a else Option.map (fun x => x.add n) a) (l.drop n) := by
  by_cases hn : l.length ≤ n
  · exact .inl (List.drop_eq_nil_of_le hn)
  · rw [if_neg (by omega)]
    rcases h with rfl | ⟨b, off, rfl, h⟩
    · exact .inl (by simp)
    · refine .inr ⟨b, off + n, by simp [add_plain], ?_⟩
      intro i hi
      rw [List.length_drop] at hi
      rw [Nat.add_assoc, h (n + i) (by omega)]
      simp [List.getD_eq_getElem?_getD]
theorem row_take {w : World} {a : Option Addr} {l : List Int} (n : Nat) (h : Row w a l) : Row w a (l.take n) := by
  rcases h with rfl | ⟨b, off, rfl, h⟩
  · exact .inl (by simp)
  · refine .inr ⟨b, off, rfl, ?_⟩
    intro i hi
    rw [List.length_take] at hi
    rw [h i (by omega)]
    simp [List.getD_eq_getElem?_getD, show i < n from by omega]
theorem row_below {w w' : World} {a : Option Addr} {l : List Int} (h : Row w a l) (hb : Below w.heap.size w w') : Row w' a l := by
  rcases h with rfl | ⟨b, off, rfl, h⟩
  · exact .inl rfl
  · refine .inr ⟨b, off, rfl, fun i hi => ?_⟩
    rw [hb.cell (World.block_lt_of_cell? w _ (h i hi))]
    exact h i hi

set_option maxRecDepth 100000 in
set_option maxHeartbeats 1000000 in
theorem valid_any (a : Option Addr) (len cap : Nat) (ps r : List Int) (w : World) (hlen : (flat ps ++ r).length = len) (hps : AllPt ps) (hr : decZ r = none) (hl : Byt r) (hcap : len ≤ cap) (hm : cap ≤ maxLen) (hrow : Row w a (flat ps ++ r)) :
    Calls Tryd.prog 42 #[.slice a len cap] w fun e w' => e = .returned (.bool r.isEmpty) ∧ w = w' := by
  have HR : Hid (decZ r = none) := hr
  clear hr
  go_enter Tryd.func42, Tryd.ntmps42
  go_wp2
  go_loop [0] (fun v => ∃ (a : Option Addr) (len cap : Nat) (qs : List Int), v = .slice a len cap ∧ (flat qs ++ r).length = len ∧ len ≤ cap ∧ cap ≤ maxLen ∧ AllPt qs ∧ Row w a (flat qs ++ r)) (fun v => lenOf v)
  case atStart => exact ⟨a, len, cap, ps, rfl, hlen, hcap, hm, hps, hrow⟩
  case round =>
    clear hlen hcap hm hps hrow
    obtain ⟨a, len, cap, qs, rfl, hlen, hcap, hm, hqs, hrow⟩ := hrel
    have hm' := hm
    unfold maxLen at hm'
    cases qs with
    | nil =>
      by_cases hr0 : r = []
      · subst hr0
        obtain rfl : len = 0 := by simp [flat] at hlen; omega
        clear hlen hrow
        go_wp2
        go_ret
        exact ⟨rfl, rfl⟩
      · have hpos : 0 < len := by
          have := List.length_pos_iff.2 hr0
          simp [flat] at hlen; omega
        have HL : Hid ((flat [] ++ r).length = len) := hlen
        have HN : Hid (r ≠ []) := hr0
        clear hlen hr0
        go_wp2_with (go_at_call 65; refine (next_none a len cap (flat [] ++ r) w HL.out hl hcap hm hrow HN.out HR.out).mono ?_; rintro e w' ⟨rfl, rfl⟩)
        go_ret
        exact ⟨by rw [List.isEmpty_eq_false_iff.2 HN.out]; rfl, rfl⟩
    | cons p qs =>
      have hpos := enc_len p
      have hfl := flat_len p qs r
      rw [hlen] at hfl
      have hle : (encZ p).length ≤ len := by omega
      have hpos' : 0 < len := by omega
      have HL : Hid ((flat (p :: qs) ++ r).length = len) := hlen
      have HD : Hid (decZ (flat (p :: qs) ++ r) = some p) := dec_flat hqs
      have HF : Hid (len = (encZ p).length + (flat qs ++ r).length) := hfl
      have HB : Hid (Byt (flat (p :: qs) ++ r)) := (flat_byt hqs).append hl
      have HP : Hid (AllPt (p :: qs)) := hqs
      have HW : Hid (Row w a (flat (p :: qs) ++ r)) := hrow
      clear hlen hfl hqs hrow
      go_wp2_with (go_at_call 65; refine (next_some a len cap (flat (p :: qs) ++ r) p w HL.out HB.out hcap hm HW.out HD.out).mono ?_; rintro e w' ⟨rfl, rfl⟩)
      have hF := HF.out
      have hN : Row w (if cap = (encZ p).length then a else Option.map (fun x => x.add (encZ p).length) a) (flat qs ++ r) := by
        have := row_drop (n := (encZ p).length) HW.out (show _ ≤ cap by rw [HL.out]; exact hcap)
        rwa [drop_flat] at this
      refine ⟨⟨_, _, _, qs, rfl, by omega, by omega, by omega, HP.out.tail, hN⟩, ?_⟩
      simp only [lenOf]
      omega
end Go.Proofs.YtfhgkkdbkbbpkaaDoor.Cs.Ut
