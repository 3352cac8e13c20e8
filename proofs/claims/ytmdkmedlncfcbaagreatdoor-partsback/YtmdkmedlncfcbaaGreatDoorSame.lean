/-
  The contract of the reference's SameAll.
-/
import Derived.Test.YtmdkmedlncfcbaaGreatDoorGreat
namespace Go.Proofs.YtmdkmedlncfcbaaGreatDoor
open Go.RowKit
set_option linter.unusedVariables false

set_option maxRecDepth 100000 in
set_option maxHeartbeats 2000000 in
theorem sameAll_any (a b : Option Addr) (n m c d : Nat) (fs gs : List (ByteArray × ByteArray)) (w : World) (hn : fs.length = n) (hm : gs.length = m) (hbig : n ≤ 9223372036854775807) (hr : FRow w a fs) (hr2 : FRow w b gs) (he : fs = gs) :
    Calls Tryz.prog 34 #[.slice a n c, .slice b m d] w fun e w' => e = .returned (.bool true) ∧ Below w.heap.size w w' := by
  subst he
  obtain rfl : n = m := by omega
  have HR : Hid (FRow w a fs) := hr
  have HR2 : Hid (FRow w b fs) := hr2
  clear hr hr2
  go_enter Tryz.func34, Tryz.ntmps34
  go_wp2
  go_loopw [5] (fun i wr => ∃ (k q : Nat), i = .int .i64 k ∧ k ≤ n ∧ wr = w.drewN q) (fun i _ => n - (intOf i).toNat)
  case atStart => exact ⟨0, 0, rfl, by omega, rfl⟩
  case round =>
    obtain ⟨k, q, rfl, hk, rfl⟩ := hrel
    by_cases hlt : k < n
    · obtain ⟨f, hfk⟩ : ∃ f, fs[k]? = some f := ⟨_, List.getElem?_eq_getElem (by omega)⟩
      obtain ⟨nm, vl⟩ := f
      rcases HR.out with h | ⟨b1, off1, rfl, h⟩
      · rw [h] at hn; simp at hn; omega
      rcases HR2.out with h' | ⟨b2, off2, rfl, h'⟩
      · rw [h'] at hn; simp at hn; omega
      obtain ⟨hc1, hc2⟩ := h k _ hfk
      obtain ⟨hd1, hd2⟩ := h' k _ hfk
      simp only at hc1 hc2 hd1 hd2
      clear h h' hfk
      have x1 : (w.drewN q).cell? ⟨b1, off1 + k * 2, none⟩ = some (.string nm) := hc1
      have x2 : (w.drewN q).cell? ⟨b1, off1 + k * 2 + 1, none⟩ = some (.string vl) := hc2
      have x3 : (w.drewN q).cell? ⟨b2, off2 + k * 2, none⟩ = some (.string nm) := hd1
      have x4 : (w.drewN q).cell? ⟨b2, off2 + k * 2 + 1, none⟩ = some (.string vl) := hd2
      go_wp2
      go_quiet (fail)
      go_wp2
      go_roundw
      case rel => exact ⟨k + 1, q + nq, by go_num, by omega, by simp [World.drewN]⟩
      case measure => simp [intOf]; omega
    · go_wp2
      go_ret
      exact ⟨rfl, rfl, rfl, rfl, Nat.le_refl _, fun _ _ => rfl⟩
end Go.Proofs.YtmdkmedlncfcbaaGreatDoor
