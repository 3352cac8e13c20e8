/-
  Coded texts read: the contract of Decode, and that codes go there and back.
-/
import Derived.Test.YtfhgkkdbkbbpkaaDoorEa
import Derived.Test.YtfhgkkdbkbbpkaaDoorIdx
namespace Go.Proofs.YtfhgkkdbkbbpkaaDoor
open Go.RowKit
set_option linter.unusedVariables false
set_option linter.unusedSimpArgs false

/-- What a digit counts, or -1. -/
def hexZ (c : Int) : Int := if 48 ≤ c ∧ c ≤ 57 then c - 48 else if 65 ≤ c ∧ c ≤ 70 then c - 55 else if 97 ≤ c ∧ c ≤ 102 then c - 87 else -1
/-- What a coded text says, or nothing. -/
def decZ : List Int → Option (List Int)
  | [] => some []
  | [c] => if c = 37 then none else some [c]
  | [c, d] => if c = 37 then none else (decZ [d]).map fun x => c :: x
  | c :: h :: l :: t => if c = 37 then (if 0 ≤ hexZ h ∧ 0 ≤ hexZ l then (decZ t).map fun x => (hexZ h * 16 + hexZ l) :: x else none) else (decZ (h :: l :: t)).map fun x => c :: x
theorem dec_plain {c : Int} (r : List Int) (h : c ≠ 37) : decZ (c :: r) = (decZ r).map fun x => c :: x := by
  match r with
  | [] => simp [decZ, h]
  | [d] => conv => lhs; rw [decZ, if_neg h]
  | _ :: _ :: _ => conv => lhs; rw [decZ, if_neg h]
theorem dec_code (h l : Int) (t : List Int) : decZ (37 :: h :: l :: t) = if 0 ≤ hexZ h ∧ 0 ≤ hexZ l then (decZ t).map fun x => (hexZ h * 16 + hexZ l) :: x else none := by rw [decZ, if_pos rfl]
theorem dec_short {r : List Int} (h : r.length < 2) : decZ (37 :: r) = none := by
  match r, h with
  | [], _ => rw [decZ, if_pos rfl]
  | [x], _ => rw [decZ, if_pos rfl]
theorem hex_dig {d : Int} (h0 : 0 ≤ d) (h1 : d < 16) : hexZ (digC d) = d := by
  unfold hexZ digC
  split <;> split <;> (try split) <;> (try split) <;> omega
theorem plain_not {c : Int} (h : plainC c = true) : c ≠ 37 := by rintro rfl; revert h; decide
/-- Codes go there and back. -/
theorem code_back : ∀ {l : List Int}, Byt l → decZ (codeL l) = some l
  | [], _ => rfl
  | c :: l, h => by
    have ih := code_back h.tail
    obtain ⟨c0, c1⟩ := h.head
    have e : codeL (c :: l) = codeC c ++ codeL l := by unfold codeL; rw [List.flatMap_cons]
    rw [e]
    unfold codeC
    by_cases hp : plainC c = true
    · rw [if_pos hp, List.singleton_append, dec_plain _ (plain_not hp), ih]; rfl
    · rw [if_neg hp, List.cons_append, List.cons_append, List.cons_append, List.nil_append, dec_code, hex_dig (by omega) (by omega), hex_dig (by omega) (by omega), if_pos ⟨by omega, by omega⟩, ih]
      simp only [Option.map_some]
      rw [show c / 16 * 16 + c % 16 = c by omega]
theorem idx_hex : ∀ c : Fin 256, (if 97 ≤ (c.val : Int) ∧ (c.val : Int) ≤ 102 then idxZ ((c.val : Int) - 32) [48, 49, 50, 51, 52, 53, 54, 55, 56, 57, 65, 66, 67, 68, 69, 70] else idxZ (c.val : Int) [48, 49, 50, 51, 52, 53, 54, 55, 56, 57, 65, 66, 67, 68, 69, 70]) = hexZ (c.val : Int) := by decide +kernel
set_option maxRecDepth 100000 in
theorem digit_any (c : Int) (w : World) (h0 : 0 ≤ c) (h1 : c < 256) : Calls Tryd.prog 29 #[.int .u8 c] w fun e w' => e = .returned (.int .i64 (hexZ c)) ∧ w = w' := by
  have hx := idx_hex ⟨c.toNat, by omega⟩
  rw [show ((c.toNat : Nat) : Int) = c by omega] at hx
  have hn : nums (⟨#[48, 49, 50, 51, 52, 53, 54, 55, 56, 57, 65, 66, 67, 68, 69, 70]⟩ : ByteArray) = [48, 49, 50, 51, 52, 53, 54, 55, 56, 57, 65, 66, 67, 68, 69, 70] := rfl
  by_cases h : 97 ≤ c ∧ c ≤ 102
  · rw [if_pos h] at hx
    obtain ⟨a1, a2⟩ := h
    have hi : ∀ V, Calls Tryd.prog 51 #[.string ⟨#[48, 49, 50, 51, 52, 53, 54, 55, 56, 57, 65, 66, 67, 68, 69, 70]⟩, .int .u8 (c - 32)] V _ := fun V => index46_any ⟨#[48, 49, 50, 51, 52, 53, 54, 55, 56, 57, 65, 66, 67, 68, 69, 70]⟩ (c - 32) V (by omega) (by omega)
    rw [hn, hx] at hi
    clear hx hn
    go_enter Tryd.func29, Tryd.ntmps29
    go_wp2_with fail
    refine (hi _).mono ?_
    rintro e w' ⟨rfl, rfl⟩
    go_wp2
    go_ret
    exact ⟨rfl, rfl⟩
  · rw [if_neg h] at hx
    have hi : ∀ V, Calls Tryd.prog 51 #[.string ⟨#[48, 49, 50, 51, 52, 53, 54, 55, 56, 57, 65, 66, 67, 68, 69, 70]⟩, .int .u8 c] V _ := fun V => index46_any ⟨#[48, 49, 50, 51, 52, 53, 54, 55, 56, 57, 65, 66, 67, 68, 69, 70]⟩ c V (by omega) (by omega)
    rw [hn, hx] at hi
    clear hx hn
    by_cases a1 : 97 ≤ c
    · have a2 : ¬ c ≤ 102 := fun q => h ⟨a1, q⟩
      clear h
      go_enter Tryd.func29, Tryd.ntmps29
      go_wp2_with fail
      refine (hi _).mono ?_
      rintro e w' ⟨rfl, rfl⟩
      go_wp2
      go_ret
      exact ⟨rfl, rfl⟩
    · clear h
      go_enter Tryd.func29, Tryd.ntmps29
      go_wp2_with fail
      refine (hi _).mono ?_
      rintro e w' ⟨rfl, rfl⟩
      go_wp2
      go_ret
      exact ⟨rfl, rfl⟩
end Go.Proofs.YtfhgkkdbkbbpkaaDoor
