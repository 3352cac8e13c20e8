/-
  The contract of the fixed calls: they answer true.
-/
import Derived.Test.YtcoicejbbdenlabCut
namespace Go.Proofs.Ytcoicejbbdenlab
open Go.RowKit
set_option linter.unusedVariables false

theorem own_row {w : World} {B : Nat} {v : Value} {l : List Int} (h : Own w B v l) :
    ∃ a cap, v = .slice a l.length cap ∧ l.length ≤ cap ∧ cap ≤ maxLen ∧ Row w a l := by
  rcases h.2 with ⟨rfl, hn⟩ | ⟨g, cap, cur, rfl, hb, hg, hn, hm, hs, ht⟩
  · exact ⟨none, 0, by rw [hn], by omega, by simp [maxLen], .inl (List.eq_nil_of_length_eq_zero hn)⟩
  · refine ⟨some ⟨g, 0, none⟩, cap, rfl, hn, hm, .inr ⟨g, 0, rfl, fun i hi => ?_⟩⟩
    have hc := h.cells (g := g) rfl i (.int .u8 (l.getD i 0)) (by simp [List.getElem?_eq_getElem hi, List.getD_eq_getElem?_getD])
    rw [add_plain] at hc
    exact hc

theorem conv_row {w : World} {a : Option Addr} {l : List Int} (n cap : Nat) (hn : l.length = n) (h : Row w a l) :
    (convert 22 9 (.slice a n cap)).run Try.prog w = .ok (.string (strOfNums l)) w := by
  by_cases hl : l = []
  · subst hl
    obtain rfl : n = 0 := by simpa using hn.symm
    rw [run_convert_bytes_string w 22 9 5 _ 0 cap Try.underlying22 Try.underlying5 Try.underlying9]
    cases a <;> simp [Conv.bytesToString, loadCells]
    all_goals rfl
  · rcases h with rfl | ⟨b, off, rfl, h⟩
    · exact absurd rfl hl
    · exact run_convert_bytes_arg w 22 5 Try.underlying22 Try.underlying5 b off n cap l hn (fun i hi => h i (by omega)) 9 Try.underlying9

theorem all8364 : AllPt [8364] := by intro x hx; simp at hx; subst hx; decide
theorem enc8364 : encZ 8364 = [226, 130, 172] := by decide
theorem dec192 : decZ [192, 128] = none := by decide
theorem row_new (w : World) (l : List Int) : Row (w.alloc (.cells (l.map (Value.int .u8)).toArray 5)) (some ⟨w.heap.size, 0, none⟩) l :=
  .inr ⟨w.heap.size, 0, rfl, fun i hi => by
    rw [World.cell?_alloc_mark]; simp [List.getD_eq_getElem?_getD, List.getElem?_eq_getElem hi]⟩

set_option maxHeartbeats 1000000 in
theorem alive_any (w : World) :
    Calls Try.prog 13 #[] w fun e w' => e = .returned (.bool true) ∧ Below w.heap.size w w' := by
  go_enter Try.func13, Try.ntmps13
  go_wp2_with fail
  refine (put_yes 8364 _ (by decide)).mono ?_
  rintro e w1 ⟨v, rfl, hown, hb1⟩
  rw [enc8364] at hown
  obtain ⟨a, cap, rfl, hcap, hm, hrow⟩ := own_row hown
  go_wp2_with fail
  refine (next_none (some ⟨w1.heap.size, 0, none⟩) 2 2 [192, 128] _ rfl (by intro x hx; simp at hx; omega) (by decide) (by decide) (row_new w1 [192, 128]) (by simp) dec192).mono ?_
  rintro e w2 ⟨rfl, rfl⟩
  have hb2 : Below w1.heap.size w1 (w1.alloc (.cells #[.int .u8 192, .int .u8 128] 5)) := (Below.refl _ _).alloc (Nat.le_refl _) _
  have hrow2 := row_below hrow hb2
  have hcv : (convert 22 9 (.slice a 3 cap)).run Try.prog (w1.alloc (.cells #[.int .u8 192, .int .u8 128] 5)) = .ok (.string ⟨#[226, 130, 172]⟩) (w1.alloc (.cells #[.int .u8 192, .int .u8 128] 5)) := conv_row (l := [226, 130, 172]) 3 cap rfl hrow2
  have HB : Hid (Below w.heap.size w (w1.alloc (.cells #[.int .u8 192, .int .u8 128] 5))) := hb1.alloc hb1.size _
  have HR : Hid (Row (w1.alloc (.cells #[.int .u8 192, .int .u8 128] 5)) a [226, 130, 172]) := hrow2
  clear hown hrow hb1 hb2 hrow2
  go_wp2_with fail
  refine (cut_yes a 3 cap 2 [8364] _ (by rfl) all8364 hcap hm HR.out).mono ?_
  rintro e w2 ⟨rfl, rfl⟩
  rw [show cutZ (flat [8364]) (m0Z 2 3) = 0 from by decide]
  go_wp2_with fail
  refine (valid_any a 3 cap [8364] [] _ (by rfl) all8364 rfl (by intro x hx; simp at hx) hcap hm HR.out).mono ?_
  rintro e w2 ⟨rfl, rfl⟩
  go_wp2
  go_ret
  exact ⟨rfl, HB.out⟩
end Go.Proofs.Ytcoicejbbdenlab
