/-
  The contracts of size, behind, appendPoint and Put.
-/
import Derived.Test.YtfhgkkdbkbbpkaaDoorRows
import Derived.Test.YtfhgkkdbkbbpkaaDoorCUMath
import Derived.WalkKit
import Derived.ProofKit
import Derived.WalkSpells
import Derived.WalkLawsBesides
import Derived.Outline
namespace Go.Proofs.YtfhgkkdbkbbpkaaDoor.Cs.Ut
open Go.RowKit

theorem Tryd.info5 : (Tryd.prog.info? 5).map (fun i => (i.zero, i.size, i.bytes)) = some (some (.int .u8 0), 1, 1) := by kernel_rfl

set_option maxRecDepth 100000 in
theorem ret_int {k : IntKind} {a b : Int} (h : a = b) : Ending.returned (.int k a) = .returned (.int k b) := by rw [h]

set_option maxRecDepth 100000 in
theorem size_any (p : Int) (w : World) :
    Calls Tryd.prog 84 #[.int .i32 p] w fun e w' => e = .returned (.int .i64 (sizeZ p)) ∧ w = w' := by
  by_cases hp : ptB p = true
  · rcases pt_cases p hp with h | h | h | h
    all_goals
      have hs : sizeZ p = (encZ p).length := by simp [sizeZ, hp]
      (first | rw [enc1 h.2] at hs | rw [enc2 h.1 h.2] at hs | rw [enc3 h.1 h.2] at hs | rw [enc4 h.1] at hs)
      have HS : Hid (sizeZ p = _) := hs
      rw [ptB_iff] at hp
      obtain ⟨hp1, hp2, hp3⟩ := hp
      obtain ⟨hr1, hr2⟩ := h
      clear hs
      rcases (show p < 55296 ∨ 57343 < p from by omega) with hq | hq
      all_goals
        first
          | (exfalso; omega; done)
          | (clear hp3
             go_enter Tryd.func84, Tryd.ntmps84
             go_wp2
             go_ret
             exact ⟨ret_int (by rw [HS.out]; rfl), rfl⟩)
  · have HS : Hid (sizeZ p = 0) := by simp [Hid, sizeZ, hp]
    have hn : p < 0 ∨ 1114111 < p ∨ (0 ≤ p ∧ p ≤ 1114111 ∧ 55296 ≤ p ∧ p ≤ 57343) := by
      rw [ptB_iff] at hp; omega
    clear hp
    rcases hn with h | h | ⟨h1, h2, h3, h4⟩
    · go_enter Tryd.func84, Tryd.ntmps84
      go_wp2
      go_ret
      exact ⟨ret_int HS.out.symm, rfl⟩
    · have h0 : ¬ p < 0 := by omega
      go_enter Tryd.func84, Tryd.ntmps84
      go_wp2
      go_ret
      exact ⟨ret_int HS.out.symm, rfl⟩
    · go_enter Tryd.func84, Tryd.ntmps84
      go_wp2
      go_ret
      exact ⟨ret_int HS.out.symm, rfl⟩

end Go.Proofs.YtfhgkkdbkbbpkaaDoor.Cs.Ut
