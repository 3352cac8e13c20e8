/-
  How a kind is written: the contracts of written, Write, Get and Is.
-/
import Derived.Test.YtmdkmedlncfcbaaGreatDoorKRight
import Derived.Test.YtmdkmedlncfcbaaGreatDoorKTrim
namespace Go.Proofs.YtmdkmedlncfcbaaGreatDoor.Kd
open Go.RowKit
set_option linter.unusedVariables false

def escL : List Int → List Int
  | [] => []
  | c :: r => if c = 34 ∨ c = 92 then 92 :: c :: escL r else c :: escL r
theorem escL_snoc (c : Int) : ∀ l : List Int, escL (l ++ [c]) = escL l ++ escL [c]
  | [] => by simp [escL]
  | d :: l => by
    simp only [List.cons_append, escL]
    rw [escL_snoc c l]
    split <;> simp [escL]
theorem escL_len : ∀ l : List Int, (escL l).length ≤ 2 * l.length
  | [] => by simp [escL]
  | d :: l => by
    have := escL_len l
    simp only [escL]
    split <;> simp <;> omega
theorem escL_byt : ∀ {l : List Int}, Byt l → Byt (escL l)
  | [], _ => by intro x hx; simp [escL] at hx
  | d :: l, h => by
    have ih := escL_byt h.tail
    have hd := h.head
    simp only [escL]
    intro x hx
    split at hx
    · simp at hx
      rcases hx with rfl | rfl | hx
      · omega
      · exact hd
      · exact ih x hx
    · simp at hx
      rcases hx with rfl | hx
      · exact hd
      · exact ih x hx
/-- A value as it is written. -/
def writtenZ (l : List Int) : List Int := if tokenZ l = true then l else 34 :: (escL l ++ [34])
theorem nums_append (s t : ByteArray) : nums (s ++ t) = nums s ++ nums t := by
  rw [nums, nums, nums, ByteArray.data_append, Array.toList_append, List.map_append]
theorem own_built (w : World) (c : Int) : (w.alloc (.cells #[.int .u8 c] 5)).ownsRow w.heap.size 5 1 (.slice (some ⟨w.heap.size, 0, none⟩) 1 1) ([c] : List Int).length (([c] : List Int).map (Value.int .u8)) :=
  ⟨rfl, .inr ⟨w.heap.size, 1, #[.int .u8 c], rfl, Nat.le_refl _, heap_alloc_last w _, Nat.le_refl _, by simp [maxLen], rfl, rfl⟩⟩
/-- Get. -/
def getZ (nm : List Int) : List (ByteArray × ByteArray) → ByteArray × Bool
  | [] => (⟨#[]⟩, false)
  | f :: r => if nums f.1 = nm then (f.2, true) else getZ nm r
set_option maxRecDepth 100000 in
set_option maxHeartbeats 2000000 in
theorem get_any (ty sub : ByteArray) (a : Option Addr) (n c : Nat) (s : ByteArray) (fs : List (ByteArray × ByteArray)) (w : World) (hn : fs.length = n) (hbig : n ≤ 1000000) (hr : FRow w a fs) :
    Calls Tryz.prog 75 #[kindV ty sub a n c, .string s] w fun e w' => e = .returned (.tuple #[.string (getZ (nums s) fs).1, .bool (getZ (nums s) fs).2]) ∧ Below w.heap.size w w' := by
  have HR : Hid (FRow w a fs) := hr
  clear hr
  unfold kindV
  go_enter Tryz.func75, Tryz.ntmps75
  go_wp2
  go_loopw [11] (fun i wr => ∃ (k : Nat), i = .int .i64 k ∧ k ≤ n ∧ getZ (nums s) (fs.drop k) = getZ (nums s) fs ∧ Below w.heap.size w wr) (fun i _ => n - (intOf i).toNat)
  case atStart => exact ⟨0, rfl, by omega, by simp, keep w _⟩
  case round =>
    obtain ⟨k, rfl, hk, hg, hb⟩ := hrel
    have HG : Hid (getZ (nums s) (fs.drop k) = getZ (nums s) fs) := hg
    have HB : Hid (Below w.heap.size w wr) := hb
    have hrw := HR.out.below hb
    have hsz := hb.size
    clear hg hb
    by_cases hlt : k < n
    · obtain ⟨f, hfk⟩ : ∃ f, fs[k]? = some f := ⟨_, List.getElem?_eq_getElem (by omega)⟩
      have HD : Hid (fs.drop k = f :: fs.drop (k + 1)) := by
        unfold Hid
        rw [List.drop_eq_getElem_cons (by omega)]
        rw [List.getElem?_eq_getElem (by omega)] at hfk
        simp only [Option.some.injEq] at hfk
        rw [hfk]
      obtain ⟨nm, vl⟩ := f
      rcases hrw with h | ⟨b, off, rfl, h⟩
      · rw [h] at hn; simp at hn; omega
      obtain ⟨hc1, hc2⟩ := h k _ hfk
      clear h hfk
      simp only at hc1 hc2
      have hen := eq_nums nm s
      by_cases he : nums nm = nums s
      · rw [decide_eq_true he] at hen
        have HX : Hid (getZ (nums s) fs = (vl, true)) := by unfold Hid; rw [← HG.out, HD.out, getZ, if_pos he]
        clear he
        go_wp2
        go_ret2
        rw [HX.out]
        exact ⟨rfl, HB.out.alloc hsz _⟩
      · rw [decide_eq_false he] at hen
        have HX : Hid (getZ (nums s) (fs.drop (k + 1)) = getZ (nums s) fs) := by unfold Hid; rw [← HG.out, HD.out, getZ, if_neg he]
        clear he
        go_wp2
        go_roundw
        case rel => exact ⟨k + 1, by go_num, by omega, HX.out, HB.out.alloc hsz _⟩
        case measure => simp [intOf]; omega
    · obtain rfl : k = n := by omega
      have HX : Hid (getZ (nums s) fs = (⟨#[]⟩, false)) := by unfold Hid; rw [← HG.out, List.drop_of_length_le (by omega)]; rfl
      go_wp2
      go_ret2
      rw [HX.out]
      exact ⟨rfl, HB.out⟩
set_option maxRecDepth 100000 in
/-- Is. -/
theorem is_any (ty sub : ByteArray) (a : Option Addr) (n c : Nat) (s : ByteArray) (w : World) (h1 : ty.size ≤ 1000000000) (h2 : sub.size ≤ 1000000000) :
    Calls Tryz.prog 55 #[kindV ty sub a n c, .string s] w fun e w' => e = .returned (.bool (decide (nums s = nums ty ++ 47 :: nums sub))) ∧ Below w.heap.size w w' := by
  have HE : Hid ((s.toList == ((ty ++ ⟨#[47]⟩) ++ sub).toList) = decide (nums s = nums ty ++ 47 :: nums sub)) := by
    unfold Hid; rw [eq_nums, nums_append, nums_append, List.append_assoc]; rfl
  unfold kindV
  go_enter Tryz.func55, Tryz.ntmps55
  go_wp2
  go_ret
  exact ⟨ret_bool HE.out, keep w _⟩
/-- A kind as it is written. -/
theorem sz47 : (⟨#[47]⟩ : ByteArray).size = 1 := rfl
theorem sz59 : (⟨#[59, 32]⟩ : ByteArray).size = 2 := rfl
theorem sz61 : (⟨#[61]⟩ : ByteArray).size = 1 := rfl
def WAns (r : Bool) (x : ByteArray) (cc : Int) (l : List Int) : Prop := (r = true → nums x = l ∧ cc = 0) ∧ (r = false → x = ⟨#[]⟩ ∧ cc = 70)
theorem written_len (l : List Int) : (writtenZ l).length ≤ 2 * l.length + 2 := by
  unfold writtenZ
  have := escL_len l
  split
  · omega
  · simp; omega
def parW (p : List Int × List Int) : List Int := [59, 32] ++ p.1 ++ [61] ++ writtenZ p.2
def writeL (ty sub : List Int) (ps : List (List Int × List Int)) : List Int := ty ++ [47] ++ sub ++ ps.flatMap parW
end Go.Proofs.YtmdkmedlncfcbaaGreatDoor.Kd
