/-
  How a kind is written: the contracts of written, Write, Get and Is.
-/
import Derived.Test.YtfhgkkdbkbbpkaaDoorRight
import Derived.Test.YtfhgkkdbkbbpkaaDoorTrim
namespace Go.Proofs.YtfhgkkdbkbbpkaaDoor
open Go.RowKit
set_option linter.unusedVariables false

def escL : List Int → List Int
  | [] => []
  | c :: r => if c = 34 ∨ c = 92 then 92 :: c :: escL r else c :: escL r
theorem escL_snoc (c : Int) : ∀ l : List Int, escL (l ++ [c]) = escL l ++ escL [c]
  | [] => by simp [escL]
  | d :: l => by
    simp only [List.cons_append, escL]
    rw [escL_snoc c l]
    split <;> simp [escL]
theorem escL_len : ∀ l : List Int, (escL l).length ≤ 2 * l.length
  | [] => by simp [escL]
  | d :: l => by
    have := escL_len l
    simp only [escL]
    split <;> simp <;> omega
theorem escL_byt : ∀ {l : List Int}, Byt l → Byt (escL l)
  | [], _ => by intro x hx; simp [escL] at hx
  | d :: l, h => by
    have ih := escL_byt h.tail
    have hd := h.head
    simp only [escL]
    intro x hx
    split at hx
    · simp at hx
      rcases hx with rfl | rfl | hx
      · omega
      · exact hd
      · exact ih x hx
    · simp at hx
      rcases hx with rfl | hx
      · exact hd
      · exact ih x hx
/-- A value as it is written. -/
def writtenZ (l : List Int) : List Int := if tokenZ l = true then l else 34 :: (escL l ++ [34])
theorem nums_append (s t : ByteArray) : nums (s ++ t) = nums s ++ nums t := by
  rw [nums, nums, nums, ByteArray.data_append, Array.toList_append, List.map_append]
theorem own_built (w : World) (c : Int) : (w.alloc (.cells #[.int .u8 c] 5)).ownsRow w.heap.size 5 1 (.slice (some ⟨w.heap.size, 0, none⟩) 1 1) ([c] : List Int).length (([c] : List Int).map (Value.int .u8)) :=
  ⟨rfl, .inr ⟨w.heap.size, 1, #[.int .u8 c], rfl, Nat.le_refl _, heap_alloc_last w _, Nat.le_refl _, by simp [maxLen], rfl, rfl⟩⟩
set_option maxRecDepth 100000 in
set_option maxHeartbeats 4000000 in
theorem written_any (s : ByteArray) (w : World) (hs : s.size ≤ 1000000000) :
    Calls Tryd.prog 40 #[.string s] w fun e w' => ∃ x, e = .returned (.string x) ∧ nums x = writtenZ (nums s) ∧ Below w.heap.size w w' := by
  obtain ⟨j0, hi, hz0, hz1, hz2⟩ := info_parts Tryd.info5
  cases ht : tokenZ (nums s) with
  | true =>
    have HZ : Hid (writtenZ (nums s) = nums s) := by unfold Hid writtenZ; rw [if_pos ht]
    go_enter Tryd.func40, Tryd.ntmps40
    go_wp2_with (go_at_call 53; refine (isToken_any s _ hs).mono ?_; rintro e w' ⟨rfl, rfl⟩; rw [ht])
    go_ret
    exact ⟨s, rfl, HZ.out.symm, Below.refl _ _⟩
  | false =>
    have HZ : Hid (writtenZ (nums s) = 34 :: (escL (nums s) ++ [34])) := by unfold Hid writtenZ; rw [if_neg (by rw [ht]; simp)]
    go_enter Tryd.func40, Tryd.ntmps40
    go_wp2_with (go_at_call 53; refine (isToken_any s _ hs).mono ?_; rintro e w' ⟨rfl, rfl⟩; rw [ht])
    go_loopw [3, 11] (fun v i wr => ∃ (k : Nat) (pre : List Int), i = .int .i64 k ∧ k ≤ s.size ∧ pre = 34 :: escL ((nums s).take k) ∧ pre.length ≤ 2 * k + 1 ∧ Byt pre ∧ wr.ownsRow w.heap.size 5 1 v pre.length (pre.map (Value.int .u8)) ∧ Below w.heap.size w wr) (fun _ i _ => s.size - (intOf i).toNat)
    case atStart => exact ⟨0, [34], rfl, by omega, by simp [escL], by simp, by intro x hx; simp at hx; omega, own_built w 34, keep w _⟩
    case round =>
      obtain ⟨k, pre, rfl, hk, hpre, hpl, hpb, hown, hb⟩ := hrel
      have HP : Hid (pre = 34 :: escL ((nums s).take k)) := hpre
      have HPB : Hid (Byt pre) := hpb
      have HO : Hid (wr.ownsRow w.heap.size 5 1 u3 pre.length (pre.map (Value.int .u8))) := hown
      have HB : Hid (Below w.heap.size w wr) := hb
      have hsz := hb.size
      clear hpre hown hb hpb
      by_cases hlt : k < s.size
      · have HA : Hid ((nums s)[k]? = some (s[k].toNat : Int)) := nums_at s k hlt
        have hc1 : (s[k].toNat : Int) < 256 := by have := s[k].toNat_lt; omega
        have hc0 : (0 : Int) ≤ (s[k].toNat : Int) := by omega
        obtain ⟨c, hcc⟩ : ∃ c : Int, ((s[k]'hlt).toNat : Int) = c := ⟨_, rfl⟩
        rw [hcc] at HA hc1 hc0
        have HT : Hid (34 :: escL ((nums s).take (k + 1)) = pre ++ escL [c]) := by
          unfold Hid; rw [List.take_add_one, HA.out, HP.out]; simp only [Option.toList]; rw [escL_snoc]; rfl
        by_cases hq : c = 34 ∨ c = 92
        · have HE : Hid (escL [c] = [92, c]) := by unfold Hid escL; rw [if_pos hq]; rfl
          rcases hq with rfl | rfl
          all_goals (
            go_wp2_with (first
              | (at_builtin; refine wpList_append_own _ rfl (.tmp 24) (.tmp 25) 31 rfl w.heap.size 5 j0 (.int .u8 0) 1 1 Tryd.underlying31 hi hz0 hz1 hz2 rfl (by decide) _ _ _ rfl (HO.out.alloc _) ⟨wr.heap.size, 0, none⟩ 1 1 (([92] : List Int).map (Value.int .u8)) rfl rfl (cells_new _ _ _) (ints_one _) ?a1 ?a2 ?a3 ?_))
            case a1 => unfold maxLen; omega
            case a2 => omega
            case a3 => simp; omega
            intro v3 w3 hown3 hgrow3 _
            have HB3 : Hid (Below w.heap.size w w3) := (HB.out.alloc hsz _).grown hgrow3 (by simp; omega) (fun k hk => (HO.out.lt k hk).1)
            have HO3 : Hid (w3.ownsRow w.heap.size 5 1 v3 (pre ++ [92]).length ((pre ++ [92]).map (Value.int .u8))) := by
              unfold Hid; rw [List.length_append, List.map_append]; exact hown3
            have hs3 := HB3.out.size
            clear hown3 hgrow3
            go_wp2_with (first
              | (at_builtin; refine wpList_append_own _ rfl (.tmp 27) (.tmp 31) 31 rfl w.heap.size 5 j0 (.int .u8 0) 1 1 Tryd.underlying31 hi hz0 hz1 hz2 rfl (by decide) _ _ _ rfl (HO3.out.alloc _) ⟨w3.heap.size, 0, none⟩ 1 1 (([_] : List Int).map (Value.int .u8)) rfl rfl (cells_new _ _ _) (ints_one _) ?a1 ?a2 ?a3 ?_))
            case a1 => unfold maxLen; simp; omega
            case a2 => simp; omega
            case a3 => simp; omega
            intro v4 w4 hown4 hgrow4 _
            have HB4 : Hid (Below w.heap.size w w4) := (HB3.out.alloc hs3 _).grown hgrow4 (by simp; omega) (fun k hk => (HO3.out.lt k hk).1)
            clear HO
            go_wp2
            go_roundw
            case rel => exact ⟨k + 1, _, by go_num, by omega, rfl, by rw [HT.out, HE.out]; simp; omega, by rw [HT.out, HE.out]; exact HPB.out.append (by intro x hx; simp at hx; omega), by rw [HT.out, HE.out]; simpa using hown4, HB4.out⟩
            case measure => simp [intOf]; omega)
        · have HE : Hid (escL [c] = [c]) := by unfold Hid escL; rw [if_neg hq]; rfl
          have hb34 : (c == 34) = false := by rw [beq_eq_false_iff_ne]; intro q; exact hq (.inl q)
          have hb92 : (c == 92) = false := by rw [beq_eq_false_iff_ne]; intro q; exact hq (.inr q)
          clear hq
          go_wp2_with (first
            | (at_builtin; refine wpList_append_own _ rfl (.tmp 27) (.tmp 31) 31 rfl w.heap.size 5 j0 (.int .u8 0) 1 1 Tryd.underlying31 hi hz0 hz1 hz2 rfl (by decide) _ _ _ rfl (HO.out.alloc _) ⟨wr.heap.size, 0, none⟩ 1 1 (([c] : List Int).map (Value.int .u8)) rfl rfl (cells_new _ _ _) (ints_one _) (by unfold maxLen; omega) (by omega) (by simp; omega) ?_; intro v4 w4 hown4 hgrow4 _))
          have HB4 : Hid (Below w.heap.size w w4) := (HB.out.alloc hsz _).grown hgrow4 (by simp; omega) (fun k hk => (HO.out.lt k hk).1)
          go_wp2
          go_roundw
          case rel => exact ⟨k + 1, _, by go_num, by omega, rfl, by rw [HT.out, HE.out]; simp; omega, by rw [HT.out, HE.out]; exact HPB.out.append (by intro x hx; simp at hx; subst hx; exact ⟨hc0, hc1⟩), by rw [HT.out, HE.out]; simpa using hown4, HB4.out⟩
          case measure => simp [intOf]; omega
      · obtain rfl : k = s.size := by omega
        have HF : Hid (pre = 34 :: escL (nums s)) := by
          have := HP.out
          rwa [List.take_of_length_le (by rw [nums_len]; exact Nat.le_refl _)] at this
        go_wp2_with (at_builtin; refine wpList_append_own _ rfl (.tmp 34) (.tmp 35) 31 rfl w.heap.size 5 j0 (.int .u8 0) 1 1 Tryd.underlying31 hi hz0 hz1 hz2 rfl (by decide) _ _ _ rfl (HO.out.alloc _) ⟨wr.heap.size, 0, none⟩ 1 1 (([34] : List Int).map (Value.int .u8)) rfl rfl (cells_new _ _ _) (ints_one _) (by unfold maxLen; omega) (by omega) (by simp; omega) ?_)
        intro v4 w4 hown4 hgrow4 _
        have HB4 : Hid (Below w.heap.size w w4) := (HB.out.alloc hsz _).grown hgrow4 (by simp; omega) (fun k hk => (HO.out.lt k hk).1)
        have hO4 : w4.ownsRow w.heap.size 5 1 v4 (pre ++ [34]).length ((pre ++ [34]).map (Value.int .u8)) := by
          rw [List.length_append, List.map_append]; exact hown4
        obtain ⟨a8, cap8, hv, hc8, hm8, hrow8, hn8⟩ := own_row' hO4
        have hl8 : (pre ++ [34]).length = pre.length + 1 := by simp
        have kc := conv_row (pre.length + 1) cap8 hl8 hrow8
        rw [hl8] at hv
        subst hv
        clear hown4 hgrow4 hO4 hrow8
        have HBY : Hid (Byt (pre ++ [34])) := HPB.out.append (by intro x hx; simp at hx; omega)
        go_wp2
        go_ret
        exact ⟨_, rfl, by rw [nums_str HBY.out, HZ.out, HF.out]; rfl, HB4.out⟩
/-- Get. -/
def getZ (nm : List Int) : List (ByteArray × ByteArray) → ByteArray × Bool
  | [] => (⟨#[]⟩, false)
  | f :: r => if nums f.1 = nm then (f.2, true) else getZ nm r
set_option maxRecDepth 100000 in
set_option maxHeartbeats 2000000 in
theorem get_any (ty sub : ByteArray) (a : Option Addr) (n c : Nat) (s : ByteArray) (fs : List (ByteArray × ByteArray)) (w : World) (hn : fs.length = n) (hbig : n ≤ 1000000) (hr : FRow w a fs) :
    Calls Tryd.prog 38 #[kindV ty sub a n c, .string s] w fun e w' => e = .returned (.tuple #[.string (getZ (nums s) fs).1, .bool (getZ (nums s) fs).2]) ∧ Below w.heap.size w w' := by
  have HR : Hid (FRow w a fs) := hr
  clear hr
  unfold kindV
  go_enter Tryd.func38, Tryd.ntmps38
  go_wp2
  go_loopw [11] (fun i wr => ∃ (k : Nat), i = .int .i64 k ∧ k ≤ n ∧ getZ (nums s) (fs.drop k) = getZ (nums s) fs ∧ Below w.heap.size w wr) (fun i _ => n - (intOf i).toNat)
  case atStart => exact ⟨0, rfl, by omega, by simp, keep w _⟩
  case round =>
    obtain ⟨k, rfl, hk, hg, hb⟩ := hrel
    have HG : Hid (getZ (nums s) (fs.drop k) = getZ (nums s) fs) := hg
    have HB : Hid (Below w.heap.size w wr) := hb
    have hrw := HR.out.below hb
    have hsz := hb.size
    clear hg hb
    by_cases hlt : k < n
    · obtain ⟨f, hfk⟩ : ∃ f, fs[k]? = some f := ⟨_, List.getElem?_eq_getElem (by omega)⟩
      have HD : Hid (fs.drop k = f :: fs.drop (k + 1)) := by
        unfold Hid
        rw [List.drop_eq_getElem_cons (by omega)]
        rw [List.getElem?_eq_getElem (by omega)] at hfk
        simp only [Option.some.injEq] at hfk
        rw [hfk]
      obtain ⟨nm, vl⟩ := f
      rcases hrw with h | ⟨b, off, rfl, h⟩
      · rw [h] at hn; simp at hn; omega
      obtain ⟨hc1, hc2⟩ := h k _ hfk
      clear h hfk
      simp only at hc1 hc2
      have hen := eq_nums nm s
      by_cases he : nums nm = nums s
      · rw [decide_eq_true he] at hen
        have HX : Hid (getZ (nums s) fs = (vl, true)) := by unfold Hid; rw [← HG.out, HD.out, getZ, if_pos he]
        clear he
        go_wp2
        go_ret2
        rw [HX.out]
        exact ⟨rfl, HB.out.alloc hsz _⟩
      · rw [decide_eq_false he] at hen
        have HX : Hid (getZ (nums s) (fs.drop (k + 1)) = getZ (nums s) fs) := by unfold Hid; rw [← HG.out, HD.out, getZ, if_neg he]
        clear he
        go_wp2
        go_roundw
        case rel => exact ⟨k + 1, by go_num, by omega, HX.out, HB.out.alloc hsz _⟩
        case measure => simp [intOf]; omega
    · obtain rfl : k = n := by omega
      have HX : Hid (getZ (nums s) fs = (⟨#[]⟩, false)) := by unfold Hid; rw [← HG.out, List.drop_of_length_le (by omega)]; rfl
      go_wp2
      go_ret2
      rw [HX.out]
      exact ⟨rfl, HB.out⟩
end Go.Proofs.YtfhgkkdbkbbpkaaDoor
