/-
  How a kind is written: the contracts of written, Write, Get and Is.
-/
import Derived.Test.YtfhgkkdbkbbpkaaDoorWr
import Derived.Test.YtfhgkkdbkbbpkaaDoorTrim
namespace Go.Proofs.YtfhgkkdbkbbpkaaDoor
open Go.RowKit
set_option linter.unusedVariables false

/-- A kind as it is written. -/
theorem sz47 : (⟨#[47]⟩ : ByteArray).size = 1 := rfl
theorem sz59 : (⟨#[59, 32]⟩ : ByteArray).size = 2 := rfl
theorem sz61 : (⟨#[61]⟩ : ByteArray).size = 1 := rfl
def WAns (r : Bool) (x : ByteArray) (cc : Int) (l : List Int) : Prop := (r = true → nums x = l ∧ cc = 0) ∧ (r = false → x = ⟨#[]⟩ ∧ cc = 70)
theorem written_len (l : List Int) : (writtenZ l).length ≤ 2 * l.length + 2 := by
  unfold writtenZ
  have := escL_len l
  split
  · omega
  · simp; omega
def parW (p : List Int × List Int) : List Int := [59, 32] ++ p.1 ++ [61] ++ writtenZ p.2
def writeL (ty sub : List Int) (ps : List (List Int × List Int)) : List Int := ty ++ [47] ++ sub ++ ps.flatMap parW
set_option maxHeartbeats 4000000 in
set_option maxRecDepth 100000 in
theorem write_any (ty sub : ByteArray) (a : Option Addr) (n c : Nat) (fs : List (ByteArray × ByteArray)) (w : World) (hn : fs.length = n) (hr : FRow w a fs) (h1 : ty.size ≤ 1000000000) (h2 : sub.size ≤ 1000000000) (hf : ∀ f ∈ fs, f.1.size ≤ 1000000000 ∧ f.2.size ≤ 1000000000) :
    Calls Tryd.prog 19 #[kindV ty sub a n c] w fun e w' => ∃ x cc, e = .returned (.tuple #[.string x, .int .i64 cc]) ∧ Below w.heap.size w w' ∧ WAns (rightZ (nums ty) (nums sub) (numsP fs)) x cc (writeL (nums ty) (nums sub) (numsP fs)) := by
  have HR : Hid (FRow w a fs) := hr
  have HF : Hid (∀ f ∈ fs, f.1.size ≤ 1000000000 ∧ f.2.size ≤ 1000000000) := hf
  have hcall := right_any ty sub a n c fs (w.alloc (.cells #[.string ty, .string sub, .slice a n c] 24)) hn (hr.below (keep w _)) h1 h2 hf
  unfold kindV at hcall ⊢
  clear hr hf
  go_enter Tryd.func19, Tryd.ntmps19
  go_wp2_with fail
  refine hcall.mono ?_
  rintro e w1 ⟨rfl, hb1⟩
  have HB1 : Hid (Below w.heap.size w w1) := (keep w _).trans (hb1.mono (by simp))
  have x0 : w1.cell? ⟨w.heap.size, 0, none⟩ = some (.string ty) := by rw [hb1.cell (p := ⟨w.heap.size, 0, none⟩) (by simp)]; rw [World.cell?_alloc_mark]; rfl
  have x1 : w1.cell? ⟨w.heap.size, 1, none⟩ = some (.string sub) := by rw [hb1.cell (p := ⟨w.heap.size, 1, none⟩) (by simp)]; rw [World.cell?_alloc_mark]; rfl
  have x2 : w1.cell? ⟨w.heap.size, 2, none⟩ = some (.slice a n c) := by rw [hb1.cell (p := ⟨w.heap.size, 2, none⟩) (by simp)]; rw [World.cell?_alloc_mark]; rfl
  clear hb1 hcall
  cases hrz : rightZ (nums ty) (nums sub) (numsP fs) with
  | false =>
    have HRZ : Hid (rightZ (nums ty) (nums sub) (numsP fs) = false) := hrz
    go_wp2
    go_ret2
    exact ⟨_, _, rfl, HB1.out, ⟨fun q => absurd q (by rw [HRZ.out]; simp), fun _ => ⟨rfl, rfl⟩⟩⟩
  | true =>
    have HRZ : Hid (rightZ (nums ty) (nums sub) (numsP fs) = true) := hrz
    have hn16 : n ≤ 16 := by
      unfold rightZ at hrz
      simp only [Bool.and_eq_true, decide_eq_true_eq, numsP, List.length_map] at hrz
      omega
    clear hrz
    go_wp2
    go_loopw [4, 19] (fun v i wr => ∃ (k : Nat) (o : ByteArray), v = .string o ∧ i = .int .i64 k ∧ k ≤ n ∧ nums o = writeL (nums ty) (nums sub) (numsP (fs.take k)) ∧ o.size ≤ 3000000000 + k * 4000000000 ∧ Below w.heap.size w wr) (fun _ i _ => n - (intOf i).toNat)
    case atStart => exact ⟨0, _, rfl, rfl, by omega, by rw [nums_append, nums_append]; simp [writeL, numsP]; rfl, by simp only [ByteArray.size_append, sz47]; omega, HB1.out⟩
    case round =>
      obtain ⟨k, o, rfl, rfl, hk, ho, hos, hb⟩ := hrel
      have HO : Hid (nums o = writeL (nums ty) (nums sub) (numsP (fs.take k))) := ho
      have HB : Hid (Below w.heap.size w wr) := hb
      have hrw := HR.out.below hb
      have hsz := hb.size
      clear ho hb x0 x1 x2
      by_cases hlt : k < n
      · obtain ⟨f, hfk⟩ : ∃ f, fs[k]? = some f := ⟨_, List.getElem?_eq_getElem (by omega)⟩
        have HT : Hid (numsP (fs.take (k + 1)) = numsP (fs.take k) ++ [(nums f.1, nums f.2)]) := by
          unfold Hid numsP; rw [List.take_add_one, hfk]; simp
        have hfz := HF.out f (List.mem_of_getElem? hfk)
        obtain ⟨nm, vl⟩ := f
        obtain ⟨hz1, hz2⟩ := hfz
        rcases hrw with h | ⟨b, off, rfl, h⟩
        · rw [h] at hn; simp at hn; omega
        obtain ⟨hc1, hc2⟩ := h k _ hfk
        clear h hfk
        simp only at hc1 hc2 hz1 hz2
        go_wp2_with fail
        go_region_held (fun W => W.cell? ⟨wr.heap.size, 0, none⟩ = some (.string nm) ∧ W.cell? ⟨wr.heap.size, 1, none⟩ = some (.string vl)) (go_keep) (first
          | (go_at_call 40; refine (written_any vl _ hz2).mono ?_; rintro e w2 ⟨x, rfl, hx, hb2⟩; have hxz : x.size ≤ 2000000002 := (by rw [← nums_len, hx]; have := written_len (nums vl); rw [nums_len] at this; omega); have hS1 : w2.cell? ⟨wr.heap.size, 0, none⟩ = some (.string nm) := (hb2.cell (p := ⟨wr.heap.size, 0, none⟩) (by simp)).trans (by show (wr.alloc (.cells #[.string nm, .string vl] 37)).cell? _ = _; rw [World.cell?_alloc_mark]; rfl); have hS2 : w2.cell? ⟨wr.heap.size, 1, none⟩ = some (.string vl) := (hb2.cell (p := ⟨wr.heap.size, 1, none⟩) (by simp)).trans (by show (wr.alloc (.cells #[.string nm, .string vl] 37)).cell? _ = _; rw [World.cell?_alloc_mark]; rfl)))
        all_goals (
          have HX : Hid (nums x = writtenZ (nums vl)) := hx
          have HB2 : Hid (Below w.heap.size w w2) := (HB.out.alloc hsz (.cells #[.string nm, .string vl] 37)).trans (⟨hb2.os, hb2.tape, hb2.output, hb2.size, fun j hj => hb2.block j (by simp; omega)⟩)
          clear hb2 hx
          go_wp2
          go_roundw
          case rel => exact ⟨k + 1, _, rfl, by go_num, by omega, by rw [HT.out]; simp only [nums_append, HO.out, HX.out]; simp [writeL, parW]; rfl, by simp only [ByteArray.size_append, sz59, sz61]; omega, HB2.out⟩
          case measure => simp [intOf]; omega)
      · obtain rfl : k = n := by omega
        have HX : Hid (nums o = writeL (nums ty) (nums sub) (numsP fs)) := by
          have := HO.out
          rwa [List.take_of_length_le (by omega)] at this
        go_wp2
        go_ret2
        exact ⟨_, _, rfl, HB.out, ⟨fun _ => ⟨HX.out, rfl⟩, fun q => absurd q (by rw [HRZ.out]; simp)⟩⟩
end Go.Proofs.YtfhgkkdbkbbpkaaDoor
