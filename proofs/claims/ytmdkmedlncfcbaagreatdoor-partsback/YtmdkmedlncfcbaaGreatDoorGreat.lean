/-
  The contract of Great.
-/
import Derived.Test.YtmdkmedlncfcbaaGreatDoorGet
namespace Go.Proofs.YtmdkmedlncfcbaaGreatDoor
open Go.RowKit
set_option linter.unusedVariables false

def greatF (k : Nat) (f : ByteArray × ByteArray) : Bool := decide (200 < f.1.size) || decide (5000 < f.2.size) || (decide (20 < k) && decide (100 < f.2.size))
def greatL (k : Nat) : List (ByteArray × ByteArray) → Bool
  | [] => false
  | f :: r => greatF k f || greatL (k + 1) r
def greatZ (fs : List (ByteArray × ByteArray)) : Bool := decide (200 < fs.length) || greatL 0 fs

set_option maxRecDepth 100000 in
set_option maxHeartbeats 2000000 in
theorem great_any (a : Option Addr) (n c : Nat) (fs : List (ByteArray × ByteArray)) (w : World) (hn : fs.length = n) (hbig : n ≤ 9223372036854775807) (hr : FRow w a fs) :
    Calls Tryz.prog 35 #[.slice a n c] w fun e w' => e = .returned (.bool (greatZ fs)) ∧ w = w' := by
  have HR : Hid (FRow w a fs) := hr
  clear hr
  by_cases h2 : 200 < n
  · have hd : decide ((n : Int) > 200) = true := by simp; omega
    have HG : Hid (greatZ fs = true) := by unfold Hid greatZ; rw [hn]; simp [h2]
    go_enter Tryz.func35, Tryz.ntmps35
    go_wp2
    go_ret
    exact ⟨ret_bool HG.out.symm, rfl⟩
  have hd : decide ((n : Int) > 200) = false := by simp; omega
  have HG : Hid (greatZ fs = greatL 0 fs) := by unfold Hid greatZ; rw [hn]; simp [h2]
  go_enter Tryz.func35, Tryz.ntmps35
  go_wp2
  go_loopw [3] (fun i wr => ∃ k : Nat, i = .int .i64 k ∧ k ≤ n ∧ greatL k (fs.drop k) = greatL 0 fs ∧ w = wr) (fun i _ => n - (intOf i).toNat)
  case atStart => exact ⟨0, rfl, by omega, by simp, rfl⟩
  case round =>
    obtain ⟨k, rfl, hk, hg, rfl⟩ := hrel
    have HK : Hid (greatL k (fs.drop k) = greatL 0 fs) := hg
    clear hg
    by_cases hlt : k < n
    · obtain ⟨f, hfk⟩ : ∃ f, fs[k]? = some f := ⟨_, List.getElem?_eq_getElem (by omega)⟩
      have HD : Hid (fs.drop k = f :: fs.drop (k + 1)) := by
        unfold Hid
        rw [List.drop_eq_getElem_cons (by omega)]
        rw [List.getElem?_eq_getElem (by omega)] at hfk
        simp only [Option.some.injEq] at hfk
        rw [hfk]
      obtain ⟨nm, vl⟩ := f
      rcases HR.out with h | ⟨b, off, rfl, h⟩
      · rw [h] at hn; simp at hn; omega
      obtain ⟨hc1, hc2⟩ := h k _ hfk
      clear h hfk
      simp only at hc1 hc2
      have bad : greatF k (nm, vl) = true → greatZ fs = true := fun h => by rw [HG.out, ← HK.out, HD.out, greatL, h]; rfl
      have good : greatF k (nm, vl) = false → greatL (k + 1) (fs.drop (k + 1)) = greatL 0 fs := fun h => by rw [← HK.out, HD.out, greatL, h]; rfl
      have BAD : Hid (_ → _) := bad
      have GOOD : Hid (_ → _) := good
      clear bad good
      by_cases q1 : 200 < nm.size
      · have b1 : decide ((nm.size : Int) > 200) = true := by simp; omega
        go_wp2
        go_ret
        exact ⟨ret_bool (BAD.out (by simp [greatF, q1])).symm, rfl⟩
      have b1 : decide ((nm.size : Int) > 200) = false := by simp; omega
      by_cases q2 : 5000 < vl.size
      · have b2 : decide ((vl.size : Int) > 5000) = true := by simp; omega
        go_wp2
        go_ret
        exact ⟨ret_bool (BAD.out (by simp [greatF, q2])).symm, rfl⟩
      have b2 : decide ((vl.size : Int) > 5000) = false := by simp; omega
      by_cases q3 : 20 < k
      · have b3 : decide ((k : Int) > 20) = true := by simp; omega
        by_cases q4 : 100 < vl.size
        · have b4 : decide ((vl.size : Int) > 100) = true := by simp; omega
          go_wp2
          go_ret
          exact ⟨ret_bool (BAD.out (by simp [greatF, q3, q4])).symm, rfl⟩
        · have b4 : decide ((vl.size : Int) > 100) = false := by simp; omega
          go_wp2
          go_roundw
          case rel => exact ⟨k + 1, by go_num, by omega, GOOD.out (by simp [greatF]; omega), by first | trivial | rfl⟩
          case measure => simp [intOf]; omega
      · have b3 : decide ((k : Int) > 20) = false := by simp; omega
        go_wp2
        go_roundw
        case rel => exact ⟨k + 1, by go_num, by omega, GOOD.out (by simp [greatF]; omega), by first | trivial | rfl⟩
        case measure => simp [intOf]; omega
    · obtain rfl : k = n := by omega
      go_wp2
      go_ret
      refine ⟨ret_bool ?_, rfl⟩
      rw [HG.out, ← HK.out, List.drop_of_length_le (by omega)]; rfl
theorem great_mem {fs : List (ByteArray × ByteArray)} (h : greatZ fs = false) : fs.length ≤ 200 ∧ ∀ f ∈ fs, f.1.size ≤ 200 ∧ f.2.size ≤ 5000 := by
  have key : ∀ (l : List (ByteArray × ByteArray)) (k : Nat), greatL k l = false → ∀ f ∈ l, f.1.size ≤ 200 ∧ f.2.size ≤ 5000 := by
    intro l
    induction l with
    | nil => intro k _ f hf; simp at hf
    | cons g r ih =>
      intro k hk f hf
      simp only [greatL, Bool.or_eq_false_iff, greatF, decide_eq_false_iff_not] at hk
      rcases List.mem_cons.1 hf with rfl | hf
      · omega
      · exact ih (k + 1) hk.2 f hf
  simp only [greatZ, Bool.or_eq_false_iff, decide_eq_false_iff_not] at h
  exact ⟨by omega, key fs 0 h.2⟩
end Go.Proofs.YtmdkmedlncfcbaaGreatDoor
