/-
  Lists of fields; the contract of Get.
-/
import Derived.Test.YtmdkmedlncfcbaaGreatDoorVal
namespace Go.Proofs.YtmdkmedlncfcbaaGreatDoor
open Go.RowKit
set_option linter.unusedVariables false

/-- What lies where a list of fields begins: two strings each. -/
def FRow (w : World) (a : Option Addr) (fs : List (ByteArray × ByteArray)) : Prop :=
  fs = [] ∨ ∃ b off, a = some ⟨b, off, none⟩ ∧ ∀ i f, fs[i]? = some f → w.cell? ⟨b, off + i * 2, none⟩ = some (.string f.1) ∧ w.cell? ⟨b, off + i * 2 + 1, none⟩ = some (.string f.2)
theorem FRow.below {w w' : World} {a : Option Addr} {fs : List (ByteArray × ByteArray)} (h : FRow w a fs) (hb : Below w.heap.size w w') : FRow w' a fs := by
  rcases h with h | ⟨b, off, ha, h⟩
  · exact .inl h
  · refine .inr ⟨b, off, ha, fun i f hf => ?_⟩
    have := h i f hf
    have h1 := World.block_lt_of_cell? w _ this.1
    exact ⟨(hb.cell h1).trans this.1, (hb.cell (p := ⟨b, off + i * 2 + 1, none⟩) h1).trans this.2⟩
/-- What Get tells: the first Value, and how many. -/
def getZ (nm : List Int) : List (ByteArray × ByteArray) → ByteArray → Nat → ByteArray × Nat
  | [], v, n => (v, n)
  | f :: r, v, n => if sameZ (nums f.1) nm then getZ nm r (if n = 0 then f.2 else v) (n + 1) else getZ nm r v n
set_option maxRecDepth 100000 in
set_option maxHeartbeats 2000000 in
theorem get_any (a : Option Addr) (n c : Nat) (s : ByteArray) (fs : List (ByteArray × ByteArray)) (w : World) (hn : fs.length = n) (hbig : n ≤ 1000000) (hr : FRow w a fs) (hf : ∀ f ∈ fs, f.1.size ≤ 100000000) :
    Calls Tryz.prog 43 #[.slice a n c, .string s] w fun e w' => e = .returned (.tuple #[.string (getZ (nums s) fs ⟨#[]⟩ 0).1, .int .i64 (getZ (nums s) fs ⟨#[]⟩ 0).2]) ∧ Below w.heap.size w w' := by
  have HR : Hid (FRow w a fs) := hr
  have HF : Hid (∀ f ∈ fs, f.1.size ≤ 100000000) := hf
  clear hr hf
  go_enter Tryz.func43, Tryz.ntmps43
  go_wp2
  go_loopw [6, 7, 12] (fun u6 u7 i wr => ∃ (k m : Nat) (v : ByteArray), u6 = .string v ∧ u7 = .int .i64 m ∧ i = .int .i64 k ∧ k ≤ n ∧ m ≤ k ∧ getZ (nums s) (fs.drop k) v m = getZ (nums s) fs ⟨#[]⟩ 0 ∧ Below w.heap.size w wr) (fun _ _ i _ => n - (intOf i).toNat)
  case atStart => exact ⟨0, 0, _, rfl, rfl, rfl, by omega, by omega, by simp, Below.refl _ _⟩
  case round =>
    obtain ⟨k, m, v, rfl, rfl, rfl, hk, hm, hg, hb⟩ := hrel
    have HG : Hid (getZ (nums s) (fs.drop k) v m = getZ (nums s) fs ⟨#[]⟩ 0) := hg
    have HB : Hid (Below w.heap.size w wr) := hb
    have hrw := HR.out.below hb
    clear hg hb
    by_cases hlt : k < n
    · obtain ⟨f, hfk⟩ : ∃ f, fs[k]? = some f := ⟨_, List.getElem?_eq_getElem (by omega)⟩
      have HD : Hid (fs.drop k = f :: fs.drop (k + 1)) := by
        unfold Hid
        rw [List.drop_eq_getElem_cons (by omega)]
        rw [List.getElem?_eq_getElem (by omega)] at hfk
        simp only [Option.some.injEq] at hfk
        rw [hfk]
      have hsz : f.1.size ≤ 100000000 := HF.out f (List.mem_of_getElem? hfk)
      obtain ⟨nm, vl⟩ := f
      rcases hrw with h | ⟨b, off, rfl, h⟩
      · rw [h] at hn; simp at hn; omega
      obtain ⟨hc1, hc2⟩ := h k _ hfk
      clear h hfk
      simp only at hc1 hc2 hsz
      go_wp2_with (fail)
      refine (same_any nm s _ hsz).mono ?_
      rintro e w2 ⟨rfl, hb2⟩
      have HX : Hid (Below w.heap.size w w2) := (HB.out.trans ((keep wr _).mono HB.out.size)).trans (hb2.mono (by have := HB.out.size; simp; omega))
      have hv : w2.cell? ⟨wr.heap.size, 1, none⟩ = some (.string vl) := (hb2.cell (p := ⟨wr.heap.size, 1, none⟩) (by simp)).trans (by have h := cell_two_new wr (.string nm) (.string vl) 50 1 _ rfl; rwa [add_plain] at h)
      clear hb2 hc1 hc2
      cases hs : sameZ (nums nm) (nums s) with
      | true =>
        by_cases hm0 : m = 0
        · subst hm0
          have HQ : Hid (getZ (nums s) (fs.drop (k + 1)) vl 1 = getZ (nums s) fs ⟨#[]⟩ 0) := by
            rw [← HG.out, HD.out, getZ, if_pos hs]; rfl
          go_wp2
          go_roundw
          case rel => exact ⟨k + 1, 1, vl, rfl, by go_num, by go_num, by omega, by omega, HQ.out, HX.out⟩
          case measure => simp [intOf]; omega
        · have hm1 : ((m : Int) == 0) = false := by rw [beq_eq_false_iff_ne]; omega
          have HQ : Hid (getZ (nums s) (fs.drop (k + 1)) v (m + 1) = getZ (nums s) fs ⟨#[]⟩ 0) := by
            rw [← HG.out, HD.out, getZ, if_pos hs, if_neg hm0]; rfl
          go_wp2
          go_roundw
          case rel => exact ⟨k + 1, m + 1, v, rfl, by go_num, by go_num, by omega, by omega, HQ.out, HX.out⟩
          case measure => simp [intOf]; omega
      | false =>
        have HQ : Hid (getZ (nums s) (fs.drop (k + 1)) v m = getZ (nums s) fs ⟨#[]⟩ 0) := by
          rw [← HG.out, HD.out, getZ, if_neg (by rw [hs]; simp)]; rfl
        go_wp2
        go_roundw
        case rel => exact ⟨k + 1, m, v, rfl, by go_num, by go_num, by omega, by omega, HQ.out, HX.out⟩
        case measure => simp [intOf]; omega
    · obtain rfl : k = n := by omega
      have HE : Hid ((getZ (nums s) fs ⟨#[]⟩ 0) = (v, m)) := by
        rw [← HG.out, List.drop_of_length_le (by omega)]; rfl
      go_wp2
      go_ret2
      rw [HE.out]
      exact ⟨rfl, HB.out⟩
end Go.Proofs.YtmdkmedlncfcbaaGreatDoor
