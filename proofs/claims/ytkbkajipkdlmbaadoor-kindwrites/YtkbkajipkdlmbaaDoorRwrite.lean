/-
  The reference's Get and Write.
-/
import Derived.Test.YtkbkajipkdlmbaaDoorRright
namespace Go.Proofs.YtkbkajipkdlmbaaDoor
open Go.RowKit
set_option linter.unusedVariables false

set_option maxHeartbeats 2000000 in
theorem rget_any (ty sub : ByteArray) (a : Option Addr) (n c : Nat) (s : ByteArray) (fs : List (ByteArray × ByteArray)) (w : World) (hn : fs.length = n) (hbig : n ≤ 1000000) (hr : FRow w a fs) :
    Calls Tryd.prog 13 #[kindV ty sub a n c, .string s] w fun e w' => e = .returned (.tuple #[.string (getZ (nums s) fs).1, .bool (getZ (nums s) fs).2]) ∧ Below w.heap.size w w' := by
  have HR1 : Hid (FRow (w.alloc (.cells #[.string ty, .string sub, .slice a n c] 24)) a fs) := hr.below (keep w _)
  have HA1 : Hid (KAt (w.alloc (.cells #[.string ty, .string sub, .slice a n c] 24)) w.heap.size ty sub a n c) := kat_new w ty sub a n c
  have HB1 : Hid (Below w.heap.size w (w.alloc (.cells #[.string ty, .string sub, .slice a n c] 24))) := keep w _
  clear hr
  unfold kindV
  go_enter Tryd.func13, Tryd.ntmps13
  go_wp2
  generalize (w.alloc (.cells #[.string ty, .string sub, .slice a n c] 24)) = W at HR1 HA1 HB1 ⊢
  obtain ⟨_, x0, x1, x2⟩ := HA1.out
  clear x0 x1
  go_loopw [6] (fun i wr => ∃ (k : Nat), i = .int .i64 k ∧ k ≤ n ∧ getZ (nums s) (fs.drop k) = getZ (nums s) fs ∧ W = wr) (fun i _ => n - (intOf i).toNat)
  case atStart => exact ⟨0, rfl, by omega, by simp, rfl⟩
  case round =>
    obtain ⟨k, rfl, hk, hg, rfl⟩ := hrel
    have HG : Hid (getZ (nums s) (fs.drop k) = getZ (nums s) fs) := hg
    clear hg
    by_cases hlt : k < n
    · obtain ⟨f, hfk⟩ : ∃ f, fs[k]? = some f := ⟨_, List.getElem?_eq_getElem (by omega)⟩
      have HD : Hid (fs.drop k = f :: fs.drop (k + 1)) := by
        unfold Hid
        rw [List.drop_eq_getElem_cons (by omega)]
        rw [List.getElem?_eq_getElem (by omega)] at hfk
        simp only [Option.some.injEq] at hfk
        rw [hfk]
      obtain ⟨nm, vl⟩ := f
      rcases HR1.out with h | ⟨b, off, rfl, h⟩
      · rw [h] at hn; simp at hn; omega
      obtain ⟨hc1, hc2⟩ := h k _ hfk
      clear h hfk
      simp only at hc1 hc2
      have hen := eq_nums nm s
      by_cases he : nums nm = nums s
      · rw [decide_eq_true he] at hen
        have HX : Hid (getZ (nums s) fs = (vl, true)) := by unfold Hid; rw [← HG.out, HD.out, getZ, if_pos he]
        clear he
        go_wp2
        go_ret2
        rw [HX.out]
        exact ⟨rfl, HB1.out⟩
      · rw [decide_eq_false he] at hen
        have HX : Hid (getZ (nums s) (fs.drop (k + 1)) = getZ (nums s) fs) := by unfold Hid; rw [← HG.out, HD.out, getZ, if_neg he]
        clear he
        go_wp2
        go_roundw
        case rel => exact ⟨k + 1, by go_num, by omega, HX.out, by first | trivial | rfl⟩
        case measure => simp [intOf]; omega
    · obtain rfl : k = n := by omega
      have HX : Hid (getZ (nums s) fs = (⟨#[]⟩, false)) := by unfold Hid; rw [← HG.out, List.drop_of_length_le (by omega)]; rfl
      go_wp2
      go_ret2
      rw [HX.out]
      exact ⟨rfl, HB1.out⟩
theorem sz92 : (⟨#[92]⟩ : ByteArray).size = 1 := rfl
theorem sz34 : (⟨#[34]⟩ : ByteArray).size = 1 := rfl
theorem nums34 : nums (⟨#[34]⟩ : ByteArray) = [34] := rfl
theorem nums92 : nums (⟨#[92]⟩ : ByteArray) = [92] := rfl
theorem extract_one (s : ByteArray) (k : Nat) (c : Int) (h : (nums s)[k]? = some c) : nums (s.extract k (k + 1)) = [c] := by
  rw [nums_extract, Nat.add_sub_cancel_left]; exact one_sub _ _ _ h
set_option maxHeartbeats 8000000 in
set_option maxRecDepth 100000 in
theorem rwrite_any (ty sub : ByteArray) (a : Option Addr) (n c : Nat) (fs : List (ByteArray × ByteArray)) (w : World) (hn : fs.length = n) (hbig : n ≤ 1000000) (hr : FRow w a fs) (h1 : ty.size ≤ 100000000) (h2 : sub.size ≤ 100000000) (hf : ∀ f ∈ fs, f.1.size ≤ 100000000 ∧ f.2.size ≤ 100000000) :
    Calls Tryd.prog 11 #[kindV ty sub a n c] w fun e w' => ∃ x cc, e = .returned (.tuple #[.string x, .int .i64 cc]) ∧ Below w.heap.size w w' ∧ WAns (rightZ (nums ty) (nums sub) (numsP fs)) x cc (writeL (nums ty) (nums sub) (numsP fs)) := by
  have HR : Hid (FRow w a fs) := hr
  have HF : Hid (∀ f ∈ fs, f.1.size ≤ 100000000 ∧ f.2.size ≤ 100000000) := hf
  have hcall := rright_any ty sub a n c fs (w.alloc (.cells #[.string ty, .string sub, .slice a n c] 24)) hn hbig (hr.below (keep w _)) h1 h2 hf
  unfold kindV at hcall ⊢
  clear hr hf
  go_enter Tryd.func11, Tryd.ntmps11
  go_wp2_with fail
  refine hcall.mono ?_
  rintro e w1 ⟨rfl, hb1⟩
  have HB1 : Hid (Below w.heap.size w w1) := (keep w _).trans (hb1.mono (by simp))
  have HA1 : Hid (KAt w1 w.heap.size ty sub a n c) := (kat_new w ty sub a n c).below hb1
  have HR1 : Hid (FRow w1 a fs) := (HR.out.below (keep w _)).below hb1
  obtain ⟨_, x0, x1, x2⟩ := HA1.out
  clear hb1 hcall HR
  cases hrz : rightZ (nums ty) (nums sub) (numsP fs) with
  | false =>
    have HRZ : Hid (rightZ (nums ty) (nums sub) (numsP fs) = false) := hrz
    go_wp2
    go_ret2
    exact ⟨_, _, rfl, HB1.out, ⟨fun q => absurd q (by rw [HRZ.out]; simp), fun _ => ⟨rfl, rfl⟩⟩⟩
  | true =>
    have HRZ : Hid (rightZ (nums ty) (nums sub) (numsP fs) = true) := hrz
    have hn16 : n ≤ 16 := by
      unfold rightZ at hrz
      simp only [Bool.and_eq_true, decide_eq_true_eq, numsP, List.length_map] at hrz
      omega
    clear hrz
    go_wp2
    go_loopw [4, 5] (fun v i wr => ∃ (k : Nat) (o : ByteArray), v = .string o ∧ i = .int .i64 k ∧ k ≤ n ∧ nums o = writeL (nums ty) (nums sub) (numsP (fs.take k)) ∧ o.size ≤ 3000000000 + k * 4000000000 ∧ Below w1.heap.size w1 wr) (fun _ i _ => n - (intOf i).toNat)
    case atStart => exact ⟨0, _, rfl, rfl, by omega, by rw [nums_append, nums_append]; simp [writeL, numsP]; rfl, by simp only [ByteArray.size_append, sz47]; omega, Below.refl _ _⟩
    case round =>
      obtain ⟨k, o, rfl, rfl, hk, ho, hos, hb⟩ := hrel
      have HO : Hid (nums o = writeL (nums ty) (nums sub) (numsP (fs.take k))) := ho
      have HB : Hid (Below w1.heap.size w1 wr) := hb
      have hrw := HR1.out.below hb
      have HAW := HA1.out.below hb
      obtain ⟨_, _, _, c2⟩ := HAW
      have hsz := hb.size
      clear ho hb x0 x1 x2
      by_cases hlt : k < n
      · obtain ⟨f, hfk⟩ : ∃ f, fs[k]? = some f := ⟨_, List.getElem?_eq_getElem (by omega)⟩
        have HT : Hid (numsP (fs.take (k + 1)) = numsP (fs.take k) ++ [(nums f.1, nums f.2)]) := by
          unfold Hid numsP; rw [List.take_add_one, hfk]; simp
        have hfz := HF.out f (List.mem_of_getElem? hfk)
        obtain ⟨nm, vl⟩ := f
        obtain ⟨hz1, hz2⟩ := hfz
        rcases hrw with h | ⟨b, off, rfl, h⟩
        · rw [h] at hn; simp at hn; omega
        obtain ⟨hc1, hc2⟩ := h k _ hfk
        clear h hfk
        simp only at hc1 hc2 hz1 hz2
        go_wp2_with fail
        refine (rtoken_any vl _ (by omega)).mono ?_
        rintro e w2 ⟨rfl, hb2⟩
        have c2' := cell_keep hb2 c2
        have hc1' := cell_keep hb2 hc1
        have HB2 : Hid (Below w1.heap.size w1 w2) := HB.out.trans (hb2.mono hsz)
        clear hb2 c2 hc1 hc2
        cases hq : tokenZ (nums vl) with
        | true =>
          have HX : Hid (writtenZ (nums vl) = nums vl) := by unfold Hid writtenZ; rw [if_pos hq]
          clear hq
          go_wp2
          go_roundw
          case rel => exact ⟨k + 1, _, rfl, by go_num, by omega, by rw [HT.out]; simp only [nums_append, HO.out]; simp [writeL, parW, HX.out]; rfl, by simp only [ByteArray.size_append, sz59, sz61]; omega, HB2.out⟩
          case measure => simp [intOf]; omega
        | false =>
          have HX : Hid (writtenZ (nums vl) = 34 :: (escL (nums vl) ++ [34])) := by unfold Hid writtenZ; rw [if_neg (by rw [hq]; simp)]
          clear hq
          go_wp2
          go_loopw [7, 8] (fun v i wq => ∃ (m : Nat) (q : ByteArray), v = .string q ∧ i = .int .i64 m ∧ m ≤ vl.size ∧ nums q = 34 :: escL ((nums vl).take m) ∧ q.size ≤ 1 + 2 * m ∧ w2 = wq) (fun _ i _ => vl.size - (intOf i).toNat)
          case atStart => exact ⟨0, _, rfl, rfl, by omega, by simp [escL]; rfl, by rw [sz34]; omega, rfl⟩
          case round =>
            obtain ⟨m, q, rfl, rfl, hm, hqn, hqs, rfl⟩ := hrel
            have HQ : Hid (nums q = 34 :: escL ((nums vl).take m)) := hqn
            clear hqn
            by_cases hlm : m < vl.size
            · have HN : Hid ((nums vl)[m]? = some (vl[m].toNat : Int)) := nums_at vl m hlm
              obtain ⟨d, hdd⟩ : ∃ d : Int, ((vl[m]'hlm).toNat : Int) = d := ⟨_, rfl⟩
              rw [hdd] at HN
              have HE : Hid (nums (vl.extract m (m + 1)) = [d]) := extract_one vl m d HN.out
              have hes : (vl.extract m (m + 1)).size = 1 := by rw [← nums_len, HE.out]; rfl
              have HT2 : Hid (34 :: escL ((nums vl).take (m + 1)) = nums q ++ escL [d]) := by
                unfold Hid; rw [List.take_add_one, HN.out, HQ.out]; simp only [Option.toList]; rw [escL_snoc]; rfl
              have e1 : ((m : Int) + 1).toNat = m + 1 := by omega
              by_cases h34 : d = 34
              · subst h34
                have HL : Hid (escL [34] = [92, 34]) := by unfold Hid escL; rw [if_pos (.inl rfl)]; rfl
                go_wp2
                go_roundw
                case rel => exact ⟨m + 1, _, rfl, by go_num, by omega, by rw [HT2.out, HL.out]; simp only [nums_append, HE.out, nums92]; simp, by simp only [ByteArray.size_append, sz92]; omega, by first | trivial | rfl⟩
                case measure => simp [intOf]; omega
              · have hb34 : (d == 34) = false := by rw [beq_eq_false_iff_ne]; exact h34
                by_cases h92 : d = 92
                · subst h92
                  have HL : Hid (escL [92] = [92, 92]) := by unfold Hid escL; rw [if_pos (.inr rfl)]; rfl
                  go_wp2
                  go_roundw
                  case rel => exact ⟨m + 1, _, rfl, by go_num, by omega, by rw [HT2.out, HL.out]; simp only [nums_append, HE.out, nums92]; simp, by simp only [ByteArray.size_append, sz92]; omega, by first | trivial | rfl⟩
                  case measure => simp [intOf]; omega
                · have hb92 : (d == 92) = false := by rw [beq_eq_false_iff_ne]; exact h92
                  have HL : Hid (escL [d] = [d]) := by unfold Hid escL; rw [if_neg (by omega)]; rfl
                  go_wp2
                  go_roundw
                  case rel => exact ⟨m + 1, _, rfl, by go_num, by omega, by rw [HT2.out, HL.out]; simp only [nums_append, HE.out], by simp only [ByteArray.size_append]; omega, by first | trivial | rfl⟩
                  case measure => simp [intOf]; omega
            · obtain rfl : m = vl.size := by omega
              have HE : Hid (nums q = 34 :: escL (nums vl)) := by
                have := HQ.out
                rwa [List.take_of_length_le (by rw [nums_len]; exact Nat.le_refl _)] at this
              go_wp2
              go_roundw
              case rel => exact ⟨k + 1, _, rfl, by go_num, by omega, by rw [HT.out]; simp only [nums_append, HO.out, HE.out, nums34]; simp [writeL, parW, HX.out]; rfl, by simp only [ByteArray.size_append, sz59, sz61, sz34]; omega, HB2.out⟩
              case measure => simp [intOf]; omega
      · obtain rfl : k = n := by omega
        have HX : Hid (nums o = writeL (nums ty) (nums sub) (numsP fs)) := by
          have := HO.out
          rwa [List.take_of_length_le (by omega)] at this
        go_wp2
        go_ret2
        exact ⟨_, _, rfl, HB1.out.trans (HB.out.mono HB1.out.size), ⟨fun _ => ⟨HX.out, rfl⟩, fun q => absurd q (by rw [HRZ.out]; simp)⟩⟩
end Go.Proofs.YtkbkajipkdlmbaaDoor
