/-
  Bytes as a row of binary digits: the contract of the reference's digits.
-/
import Derived.Test.YtegdblchgfiefaaSgn
namespace Go.Proofs.Ytegdblchgfiefaa
open Go.RowKit
set_option linter.unusedVariables false

theorem Try.info3' : (Try.prog.info? 3).map (fun i => (i.zero, i.size, i.bytes)) = some (some (.int .i64 0), 1, 8) := by kernel_rfl
def bin1 (c : Int) : List Int := [c / 128 % 2, c / 64 % 2, c / 32 % 2, c / 16 % 2, c / 8 % 2, c / 4 % 2, c / 2 % 2, c / 1 % 2]
/-- A row of bytes as binary digits, the greatest first. -/
def binZ (l : List Int) : List Int := l.flatMap bin1
def powL : List Int := [128, 64, 32, 16, 8, 4, 2, 1, 0]
theorem bin_len (l : List Int) : (binZ l).length = 8 * l.length := by
  induction l with
  | nil => rfl
  | cons c r ih => simp only [binZ, List.flatMap_cons, List.length_append] at ih ⊢; rw [ih, show (bin1 c).length = 8 from rfl, List.length_cons]; omega
theorem row_cell {w : World} {a : Option Addr} {l : List Int} {k : Nat} {c : Int} {r : List Int} (h : Row w a l) (hd : l.drop k = c :: r) : ∃ b off, a = some ⟨b, off, none⟩ ∧ w.cell? ⟨b, off + k, none⟩ = some (.int .u8 c) := by
  have hk : k < l.length := by
    rcases Nat.lt_or_ge k l.length with h | h
    · exact h
    · rw [List.drop_of_length_le h] at hd; cases hd
  rcases h with rfl | ⟨b, off, rfl, hc⟩
  · simp at hk
  · refine ⟨b, off, rfl, ?_⟩
    rw [hc k hk]
    have : l.getD k 0 = c := by
      rw [List.getD_eq_getElem?_getD, show l[k]? = (l.drop k)[0]? from by simp, hd]; rfl
    rw [this]
set_option maxHeartbeats 8000000 in
theorem digits_any (a : Option Addr) (len cap : Nat) (l : List Int) (w : World) (hl : l.length = len) (hb : Byt l) (hcap : len ≤ cap) (hm : cap ≤ 9223372036854775807) (hs : len ≤ 10000) (hrow : Row w a l) :
    Calls Try.prog 21 #[.slice a len cap] w fun e w' => ∃ v, e = .returned v ∧ w'.ownsRow w.heap.size 3 1 v (binZ l).length ((binZ l).map (Value.int .i64)) ∧ Below w.heap.size w w' := by
  obtain ⟨j1, ki, kz0, kz1, kz2⟩ := info_parts Try.info3'
  have HR : Hid (Row w a l) := hrow
  have HL : Hid (l.length = len) := hl
  have HB : Hid (Byt l) := hb
  clear hrow hl hb
  go_enter Try.func21, Try.ntmps21
  go_wp2
  go_loopw [3, 4] (fun v i wr => ∃ k : Nat, i = .int .i64 k ∧ k ≤ len ∧ wr.ownsRow w.heap.size 3 1 v (binZ (l.take k)).length ((binZ (l.take k)).map (Value.int .i64)) ∧ Below w.heap.size w wr) (fun _ i _ => len - (intOf i).toNat)
  case atStart => exact ⟨0, rfl, by omega, World.ownsRow_nil _ _ _ _, Below.refl _ _⟩
  case round =>
    obtain ⟨k, rfl, hk, hown, hbel⟩ := hrel
    have HO : Hid (wr.ownsRow w.heap.size 3 1 u3 (binZ (l.take k)).length ((binZ (l.take k)).map (Value.int .i64))) := hown
    have HW : Hid (Below w.heap.size w wr) := hbel
    clear hown hbel
    by_cases hlt : k < len
    · obtain ⟨c, r, hd⟩ : ∃ c r, l.drop k = c :: r := by
        match hx : l.drop k with
        | [] => have := congrArg List.length hx; rw [List.length_drop, HL.out] at this; simp at this; omega
        | c :: r => exact ⟨c, r, rfl⟩
      have hcb : 0 ≤ c ∧ c < 256 := HB.out c (List.mem_of_mem_drop (by rw [hd]; simp))
      obtain ⟨b, off, rfl, hcell⟩ := row_cell HR.out hd
      have HC : Hid (w.cell? ⟨b, off + k, none⟩ = some (.int .u8 c)) := hcell
      have hpl : (binZ (l.take k)).length ≤ 80000 := by rw [bin_len, List.length_take, HL.out]; omega
      have HT : Hid (binZ (l.take (k + 1)) = binZ (l.take k) ++ bin1 c) := by
        unfold Hid
        rw [List.take_add_one, show l[k]? = some c from by rw [show l[k]? = (l.drop k)[0]? from by simp, hd]; rfl]
        simp [binZ]
      obtain ⟨pre, hpre⟩ : ∃ pre, binZ (l.take k) = pre := ⟨_, rfl⟩
      rw [hpre] at HO HT hpl
      clear hd hcell hpre
      go_wp2
      go_loopw [3, 5] (fun v n wi => ∃ j : Nat, j ≤ 8 ∧ n = .int .i64 (powL.getD j 0) ∧ wi.ownsRow w.heap.size 3 1 v (pre ++ (bin1 c).take j).length ((pre ++ (bin1 c).take j).map (Value.int .i64)) ∧ Below w.heap.size w wi) (fun _ n _ => (intOf n).toNat)
      case atStart => exact ⟨0, by omega, rfl, by simpa using HO.out, HW.out⟩
      case round =>
        obtain ⟨j, hj, hn, hown, hbel⟩ := hrel
        subst hn
        have HOI : Hid (wr.ownsRow w.heap.size 3 1 u3 (pre ++ (bin1 c).take j).length ((pre ++ (bin1 c).take j).map (Value.int .i64))) := hown
        have HWI : Hid (Below w.heap.size w wr) := hbel
        have hsz : w.heap.size ≤ wr.heap.size := hbel.size
        have hcl : wr.cell? ⟨b, off + k, none⟩ = some (.int .u8 c) := by
          rw [hbel.cell (World.block_lt_of_cell? w _ HC.out)]; exact HC.out
        have hpj : (pre ++ (bin1 c).take j).length ≤ 80008 := by rw [List.length_append, List.length_take]; have : (bin1 c).length = 8 := rfl; omega
        clear hown hbel
        rcases (show j = 0 ∨ j = 1 ∨ j = 2 ∨ j = 3 ∨ j = 4 ∨ j = 5 ∨ j = 6 ∨ j = 7 ∨ j = 8 from by omega) with rfl | rfl | rfl | rfl | rfl | rfl | rfl | rfl | rfl
        · rw [show powL.getD 0 0 = 128 from rfl]
          obtain ⟨q, hq⟩ : ∃ q, pre ++ (bin1 c).take 0 = q := ⟨_, rfl⟩
          have HQ : Hid (pre ++ (bin1 c).take 1 = q ++ [c / 128 % 2]) := by
            unfold Hid; rw [← hq]; simp [bin1]
          rw [hq] at HOI hpj
          clear hq
          go_wp2_with (at_builtin; refine wpList_append_own _ rfl (.tmp 14) (.tmp 23) 39 rfl w.heap.size 3 j1 (.int .i64 0) 1 8 Try.underlying39 ki kz0 kz1 kz2 rfl (by decide) _ _ _ rfl (HOI.out.alloc _) ⟨wr.heap.size, 0, none⟩ 1 1 ([c / 128 % 2].map (Value.int .i64)) rfl rfl (cells_new _ _ _) (by intro x hx; simp at hx; subst hx; rfl) ?_ ?_ ?_ ?_)
          · unfold maxLen; omega
          · omega
          · first | omega | (simp; omega)
          intro v1 w1 hown1 hgrow1 _
          have HB1 : Hid (Below w.heap.size w w1) := (HWI.out.alloc hsz _).grown hgrow1 (by simp; omega) (fun k hk => (HOI.out.lt k hk).1)
          have HO1 : Hid (w1.ownsRow w.heap.size 3 1 v1 (pre ++ (bin1 c).take 1).length ((pre ++ (bin1 c).take 1).map (Value.int .i64))) := by
            unfold Hid; rw [HQ.out, List.length_append, List.map_append]; exact hown1
          clear hown1 hgrow1
          go_wp2
          go_roundw
          case rel => exact ⟨1, by omega, by first | rfl | go_num, HO1.out, HB1.out⟩
          case measure => simp [intOf]
        · rw [show powL.getD 1 0 = 64 from rfl]
          obtain ⟨q, hq⟩ : ∃ q, pre ++ (bin1 c).take 1 = q := ⟨_, rfl⟩
          have HQ : Hid (pre ++ (bin1 c).take 2 = q ++ [c / 64 % 2]) := by
            unfold Hid; rw [← hq]; simp [bin1]
          rw [hq] at HOI hpj
          clear hq
          go_wp2_with (at_builtin; refine wpList_append_own _ rfl (.tmp 14) (.tmp 23) 39 rfl w.heap.size 3 j1 (.int .i64 0) 1 8 Try.underlying39 ki kz0 kz1 kz2 rfl (by decide) _ _ _ rfl (HOI.out.alloc _) ⟨wr.heap.size, 0, none⟩ 1 1 ([c / 64 % 2].map (Value.int .i64)) rfl rfl (cells_new _ _ _) (by intro x hx; simp at hx; subst hx; rfl) ?_ ?_ ?_ ?_)
          · unfold maxLen; omega
          · omega
          · first | omega | (simp; omega)
          intro v1 w1 hown1 hgrow1 _
          have HB1 : Hid (Below w.heap.size w w1) := (HWI.out.alloc hsz _).grown hgrow1 (by simp; omega) (fun k hk => (HOI.out.lt k hk).1)
          have HO1 : Hid (w1.ownsRow w.heap.size 3 1 v1 (pre ++ (bin1 c).take 2).length ((pre ++ (bin1 c).take 2).map (Value.int .i64))) := by
            unfold Hid; rw [HQ.out, List.length_append, List.map_append]; exact hown1
          clear hown1 hgrow1
          go_wp2
          go_roundw
          case rel => exact ⟨2, by omega, by first | rfl | go_num, HO1.out, HB1.out⟩
          case measure => simp [intOf]
        · rw [show powL.getD 2 0 = 32 from rfl]
          obtain ⟨q, hq⟩ : ∃ q, pre ++ (bin1 c).take 2 = q := ⟨_, rfl⟩
          have HQ : Hid (pre ++ (bin1 c).take 3 = q ++ [c / 32 % 2]) := by
            unfold Hid; rw [← hq]; simp [bin1]
          rw [hq] at HOI hpj
          clear hq
          go_wp2_with (at_builtin; refine wpList_append_own _ rfl (.tmp 14) (.tmp 23) 39 rfl w.heap.size 3 j1 (.int .i64 0) 1 8 Try.underlying39 ki kz0 kz1 kz2 rfl (by decide) _ _ _ rfl (HOI.out.alloc _) ⟨wr.heap.size, 0, none⟩ 1 1 ([c / 32 % 2].map (Value.int .i64)) rfl rfl (cells_new _ _ _) (by intro x hx; simp at hx; subst hx; rfl) ?_ ?_ ?_ ?_)
          · unfold maxLen; omega
          · omega
          · first | omega | (simp; omega)
          intro v1 w1 hown1 hgrow1 _
          have HB1 : Hid (Below w.heap.size w w1) := (HWI.out.alloc hsz _).grown hgrow1 (by simp; omega) (fun k hk => (HOI.out.lt k hk).1)
          have HO1 : Hid (w1.ownsRow w.heap.size 3 1 v1 (pre ++ (bin1 c).take 3).length ((pre ++ (bin1 c).take 3).map (Value.int .i64))) := by
            unfold Hid; rw [HQ.out, List.length_append, List.map_append]; exact hown1
          clear hown1 hgrow1
          go_wp2
          go_roundw
          case rel => exact ⟨3, by omega, by first | rfl | go_num, HO1.out, HB1.out⟩
          case measure => simp [intOf]
        · rw [show powL.getD 3 0 = 16 from rfl]
          obtain ⟨q, hq⟩ : ∃ q, pre ++ (bin1 c).take 3 = q := ⟨_, rfl⟩
          have HQ : Hid (pre ++ (bin1 c).take 4 = q ++ [c / 16 % 2]) := by
            unfold Hid; rw [← hq]; simp [bin1]
          rw [hq] at HOI hpj
          clear hq
          go_wp2_with (at_builtin; refine wpList_append_own _ rfl (.tmp 14) (.tmp 23) 39 rfl w.heap.size 3 j1 (.int .i64 0) 1 8 Try.underlying39 ki kz0 kz1 kz2 rfl (by decide) _ _ _ rfl (HOI.out.alloc _) ⟨wr.heap.size, 0, none⟩ 1 1 ([c / 16 % 2].map (Value.int .i64)) rfl rfl (cells_new _ _ _) (by intro x hx; simp at hx; subst hx; rfl) ?_ ?_ ?_ ?_)
          · unfold maxLen; omega
          · omega
          · first | omega | (simp; omega)
          intro v1 w1 hown1 hgrow1 _
          have HB1 : Hid (Below w.heap.size w w1) := (HWI.out.alloc hsz _).grown hgrow1 (by simp; omega) (fun k hk => (HOI.out.lt k hk).1)
          have HO1 : Hid (w1.ownsRow w.heap.size 3 1 v1 (pre ++ (bin1 c).take 4).length ((pre ++ (bin1 c).take 4).map (Value.int .i64))) := by
            unfold Hid; rw [HQ.out, List.length_append, List.map_append]; exact hown1
          clear hown1 hgrow1
          go_wp2
          go_roundw
          case rel => exact ⟨4, by omega, by first | rfl | go_num, HO1.out, HB1.out⟩
          case measure => simp [intOf]
        · rw [show powL.getD 4 0 = 8 from rfl]
          obtain ⟨q, hq⟩ : ∃ q, pre ++ (bin1 c).take 4 = q := ⟨_, rfl⟩
          have HQ : Hid (pre ++ (bin1 c).take 5 = q ++ [c / 8 % 2]) := by
            unfold Hid; rw [← hq]; simp [bin1]
          rw [hq] at HOI hpj
          clear hq
          go_wp2_with (at_builtin; refine wpList_append_own _ rfl (.tmp 14) (.tmp 23) 39 rfl w.heap.size 3 j1 (.int .i64 0) 1 8 Try.underlying39 ki kz0 kz1 kz2 rfl (by decide) _ _ _ rfl (HOI.out.alloc _) ⟨wr.heap.size, 0, none⟩ 1 1 ([c / 8 % 2].map (Value.int .i64)) rfl rfl (cells_new _ _ _) (by intro x hx; simp at hx; subst hx; rfl) ?_ ?_ ?_ ?_)
          · unfold maxLen; omega
          · omega
          · first | omega | (simp; omega)
          intro v1 w1 hown1 hgrow1 _
          have HB1 : Hid (Below w.heap.size w w1) := (HWI.out.alloc hsz _).grown hgrow1 (by simp; omega) (fun k hk => (HOI.out.lt k hk).1)
          have HO1 : Hid (w1.ownsRow w.heap.size 3 1 v1 (pre ++ (bin1 c).take 5).length ((pre ++ (bin1 c).take 5).map (Value.int .i64))) := by
            unfold Hid; rw [HQ.out, List.length_append, List.map_append]; exact hown1
          clear hown1 hgrow1
          go_wp2
          go_roundw
          case rel => exact ⟨5, by omega, by first | rfl | go_num, HO1.out, HB1.out⟩
          case measure => simp [intOf]
        · rw [show powL.getD 5 0 = 4 from rfl]
          obtain ⟨q, hq⟩ : ∃ q, pre ++ (bin1 c).take 5 = q := ⟨_, rfl⟩
          have HQ : Hid (pre ++ (bin1 c).take 6 = q ++ [c / 4 % 2]) := by
            unfold Hid; rw [← hq]; simp [bin1]
          rw [hq] at HOI hpj
          clear hq
          go_wp2_with (at_builtin; refine wpList_append_own _ rfl (.tmp 14) (.tmp 23) 39 rfl w.heap.size 3 j1 (.int .i64 0) 1 8 Try.underlying39 ki kz0 kz1 kz2 rfl (by decide) _ _ _ rfl (HOI.out.alloc _) ⟨wr.heap.size, 0, none⟩ 1 1 ([c / 4 % 2].map (Value.int .i64)) rfl rfl (cells_new _ _ _) (by intro x hx; simp at hx; subst hx; rfl) ?_ ?_ ?_ ?_)
          · unfold maxLen; omega
          · omega
          · first | omega | (simp; omega)
          intro v1 w1 hown1 hgrow1 _
          have HB1 : Hid (Below w.heap.size w w1) := (HWI.out.alloc hsz _).grown hgrow1 (by simp; omega) (fun k hk => (HOI.out.lt k hk).1)
          have HO1 : Hid (w1.ownsRow w.heap.size 3 1 v1 (pre ++ (bin1 c).take 6).length ((pre ++ (bin1 c).take 6).map (Value.int .i64))) := by
            unfold Hid; rw [HQ.out, List.length_append, List.map_append]; exact hown1
          clear hown1 hgrow1
          go_wp2
          go_roundw
          case rel => exact ⟨6, by omega, by first | rfl | go_num, HO1.out, HB1.out⟩
          case measure => simp [intOf]
        · rw [show powL.getD 6 0 = 2 from rfl]
          obtain ⟨q, hq⟩ : ∃ q, pre ++ (bin1 c).take 6 = q := ⟨_, rfl⟩
          have HQ : Hid (pre ++ (bin1 c).take 7 = q ++ [c / 2 % 2]) := by
            unfold Hid; rw [← hq]; simp [bin1]
          rw [hq] at HOI hpj
          clear hq
          go_wp2_with (at_builtin; refine wpList_append_own _ rfl (.tmp 14) (.tmp 23) 39 rfl w.heap.size 3 j1 (.int .i64 0) 1 8 Try.underlying39 ki kz0 kz1 kz2 rfl (by decide) _ _ _ rfl (HOI.out.alloc _) ⟨wr.heap.size, 0, none⟩ 1 1 ([c / 2 % 2].map (Value.int .i64)) rfl rfl (cells_new _ _ _) (by intro x hx; simp at hx; subst hx; rfl) ?_ ?_ ?_ ?_)
          · unfold maxLen; omega
          · omega
          · first | omega | (simp; omega)
          intro v1 w1 hown1 hgrow1 _
          have HB1 : Hid (Below w.heap.size w w1) := (HWI.out.alloc hsz _).grown hgrow1 (by simp; omega) (fun k hk => (HOI.out.lt k hk).1)
          have HO1 : Hid (w1.ownsRow w.heap.size 3 1 v1 (pre ++ (bin1 c).take 7).length ((pre ++ (bin1 c).take 7).map (Value.int .i64))) := by
            unfold Hid; rw [HQ.out, List.length_append, List.map_append]; exact hown1
          clear hown1 hgrow1
          go_wp2
          go_roundw
          case rel => exact ⟨7, by omega, by first | rfl | go_num, HO1.out, HB1.out⟩
          case measure => simp [intOf]
        · rw [show powL.getD 7 0 = 1 from rfl]
          obtain ⟨q, hq⟩ : ∃ q, pre ++ (bin1 c).take 7 = q := ⟨_, rfl⟩
          have HQ : Hid (pre ++ (bin1 c).take 8 = q ++ [c % 2]) := by
            unfold Hid; rw [← hq]; simp [bin1]
          rw [hq] at HOI hpj
          clear hq
          go_wp2_with (at_builtin; refine wpList_append_own _ rfl (.tmp 14) (.tmp 23) 39 rfl w.heap.size 3 j1 (.int .i64 0) 1 8 Try.underlying39 ki kz0 kz1 kz2 rfl (by decide) _ _ _ rfl (HOI.out.alloc _) ⟨wr.heap.size, 0, none⟩ 1 1 ([c % 2].map (Value.int .i64)) rfl rfl (cells_new _ _ _) (by intro x hx; simp at hx; subst hx; rfl) ?_ ?_ ?_ ?_)
          · unfold maxLen; omega
          · omega
          · first | omega | (simp; omega)
          intro v1 w1 hown1 hgrow1 _
          have HB1 : Hid (Below w.heap.size w w1) := (HWI.out.alloc hsz _).grown hgrow1 (by simp; omega) (fun k hk => (HOI.out.lt k hk).1)
          have HO1 : Hid (w1.ownsRow w.heap.size 3 1 v1 (pre ++ (bin1 c).take 8).length ((pre ++ (bin1 c).take 8).map (Value.int .i64))) := by
            unfold Hid; rw [HQ.out, List.length_append, List.map_append]; exact hown1
          clear hown1 hgrow1
          go_wp2
          go_roundw
          case rel => exact ⟨8, by omega, by first | rfl | go_num, HO1.out, HB1.out⟩
          case measure => simp [intOf]
        · rw [show powL.getD 8 0 = 0 from rfl]
          have HO8 : Hid (wr.ownsRow w.heap.size 3 1 u3 (binZ (l.take (k + 1))).length ((binZ (l.take (k + 1))).map (Value.int .i64))) := by
            unfold Hid; rw [HT.out]; exact HOI.out
          go_wp2
          go_roundw
          case rel => exact ⟨k + 1, by go_num, by omega, HO8.out, HWI.out⟩
          case measure => simp [intOf]; omega
    · obtain rfl : k = len := by omega
      have HX : Hid (wr.ownsRow w.heap.size 3 1 u3 (binZ l).length ((binZ l).map (Value.int .i64))) := by
        have h := HO.out
        rw [List.take_of_length_le (by rw [HL.out]; omega)] at h
        exact h
      go_wp2
      go_ret
      exact ⟨_, rfl, HX.out, HW.out⟩
end Go.Proofs.Ytegdblchgfiefaa
