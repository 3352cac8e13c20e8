/-
  The contract of the fixed calls: they answer true; and Encode's other answers.
-/
import Derived.Test.YtegdblchgfiefaaDecode
namespace Go.Proofs.Ytegdblchgfiefaa
open Go.RowKit
set_option linter.unusedVariables false

theorem enc_255 : encW 0 0 [255, 0] = [47, 119, 65, 61] := by decide
theorem dec_a : scanU 0 ((⟨#[47, 119, 66, 61]⟩ : ByteArray)).data.toList (fresh [] false) = .inl (2, 12) := by kernel_rfl
theorem dec_b : scanU 0 ((⟨#[65, 61, 65, 61]⟩ : ByteArray)).data.toList (fresh [] false) = .inl (1, 11) := by kernel_rfl
theorem decR_inl {f : Int × Int} {len : Nat} {v : Value} {fa fc : Int} {w : World} (h : DecR (.inl f) len v fa fc w) : v = .slice none 0 0 ∧ fa = f.1 ∧ fc = f.2 := by
  rcases h with ⟨f', h, h1⟩ | ⟨st, h, _⟩ | ⟨st, a, cap, h, _⟩
  · cases h; exact h1
  · cases h
  · cases h

set_option maxHeartbeats 2000000 in
theorem alive_any (w : World) :
    Calls Try.prog 9 #[] w fun e w' => e = .returned (.bool true) ∧ Below w.heap.size w w' := by
  go_enter Try.func9, Try.ntmps9
  go_wp2_with fail
  refine (encode_ok (some ⟨w.heap.size, 0, none⟩) 2 2 0 [255, 0] _ rfl (by intro x hx; simp at hx; omega) (by decide) (by decide) (by decide) (by decide) (by decide) (by decide) (row_new w [255, 0])).mono ?_
  rintro e w1 ⟨rfl, hb1⟩
  rw [enc_255]
  have HB1 : Hid (Below w.heap.size w w1) := (keep w _).trans (hb1.mono (by simp))
  clear hb1
  go_wp2_with fail
  refine (decode_any ⟨#[47, 119, 66, 61]⟩ w1 (by decide)).mono ?_
  rintro e w2 ⟨v2, fa2, fc2, rfl, hb2, hd2⟩
  rw [dec_a] at hd2
  obtain ⟨rfl, rfl, rfl⟩ := decR_inl hd2
  have HB2 : Hid (Below w.heap.size w w2) := HB1.out.trans (hb2.mono HB1.out.size)
  clear hb2 hd2
  go_wp2_with fail
  refine (decode_any ⟨#[65, 61, 65, 61]⟩ _ (by decide)).mono ?_
  rintro e w3 ⟨v3, fa3, fc3, rfl, hb3, hd3⟩
  rw [dec_b] at hd3
  obtain ⟨rfl, rfl, rfl⟩ := decR_inl hd3
  have HB3 : Hid (Below w.heap.size w w3) := (HB2.out.alloc HB2.out.size _).trans (hb3.mono (HB2.out.alloc HB2.out.size _).size)
  have hs3 : w2.heap.size + 1 ≤ w3.heap.size := by have := hb3.size; simpa using this
  have c0 : w3.cell? ⟨w2.heap.size, 0, none⟩ = some (.int .i64 2) := by rw [hb3.cell (by simp)]; simp
  have c1 : w3.cell? ⟨w2.heap.size, 1, none⟩ = some (.int .i64 12) := by rw [hb3.cell (by simp)]; simp
  have d0 : (w3.alloc (.cells #[.int .i64 1, .int .i64 11] 34)).cell? ⟨w2.heap.size, 0, none⟩ = some (.int .i64 2) := by rw [(keep w3 _).cell (by simp; omega)]; exact c0
  have d1 : (w3.alloc (.cells #[.int .i64 1, .int .i64 11] 34)).cell? ⟨w2.heap.size, 1, none⟩ = some (.int .i64 12) := by rw [(keep w3 _).cell (by simp; omega)]; exact c1
  clear c0 c1
  have e1 : ((strOfNums [47, 119, 65, 61]).toList == ([47, 119, 65, 61] : List UInt8)) = true := by rw [toList_str]; decide
  clear hb3 hd3
  go_wp2
  go_ret
  exact ⟨rfl, HB3.out.alloc HB3.out.size _⟩

set_option maxHeartbeats 1000000 in
theorem encode_arg (a : Option Addr) (len cap : Nat) (wd : Int) (w : World) (hcap : len ≤ cap) (hm : cap ≤ maxLen) (h : wd < 0 ∨ 76 < wd ∨ (0 ≤ wd ∧ wd ≤ 76 ∧ wd % 4 ≠ 0)) :
    Calls Try.prog 10 #[.slice a len cap, .int .i64 wd] w fun e w' => e = .returned (.tuple #[.string ⟨#[]⟩, .int .i64 1]) ∧ w = w' := by
  unfold maxLen at hm
  have HH : Hid (wd < 0 ∨ 76 < wd ∨ (0 ≤ wd ∧ wd ≤ 76 ∧ wd % 4 ≠ 0) ∨ (0 ≤ wd ∧ wd ≤ 76 ∧ wd % 4 = 0 ∧ (len : Int) < 0)) := by
    rcases h with h | h | h
    · exact .inl h
    · exact .inr (.inl h)
    · exact .inr (.inr (.inl h))
  clear h
  go_enter Try.func10, Try.ntmps10
  go_wp2_with (go_at_call 12; refine (length_arg _ _ _ HH.out).mono ?_; rintro e w' ⟨rfl, rfl⟩)
  go_ret2
  exact ⟨rfl, rfl⟩
end Go.Proofs.Ytegdblchgfiefaa
