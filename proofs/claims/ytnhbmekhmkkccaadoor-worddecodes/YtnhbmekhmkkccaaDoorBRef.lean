/-
  The contracts of the reference's Sign and Encode (signs).
-/
import Derived.Test.YtnhbmekhmkkccaaDoorBLen
import Derived.Test.YtnhbmekhmkkccaaDoorBEnc
namespace Go.Proofs.YtnhbmekhmkkccaaDoor.Bt
open Go.RowKit
set_option linter.unusedVariables false

/-- What may not be: 1 or 2; 0: it may. -/
def mayZ (n wd : Int) : Int := if wd < 0 ∨ 76 < wd ∨ wd % 4 ≠ 0 ∨ n < 0 then 1 else if 1048576 < n then 2 else 0
set_option maxRecDepth 100000 in
set_option maxHeartbeats 1000000 in
theorem may_any (n wd : Int) (w : World) : Calls Tryd.prog 49 #[.int .i64 n, .int .i64 wd] w fun e w' => e = .returned (.int .i64 (mayZ n wd)) ∧ w = w' := by
  rcases (show wd < 0 ∨ 76 < wd ∨ (0 ≤ wd ∧ wd ≤ 76 ∧ wd % 4 ≠ 0) ∨ (0 ≤ wd ∧ wd ≤ 76 ∧ wd % 4 = 0 ∧ n < 0) ∨ (0 ≤ wd ∧ wd ≤ 76 ∧ wd % 4 = 0 ∧ 0 ≤ n ∧ 1048576 < n) ∨ (0 ≤ wd ∧ wd ≤ 76 ∧ wd % 4 = 0 ∧ 0 ≤ n ∧ n ≤ 1048576) from by omega) with h | h | ⟨h0, h1, h2⟩ | ⟨h0, h1, h2, h3⟩ | ⟨h0, h1, h2, h3, h4⟩ | ⟨h0, h1, h2, h3, h4⟩
  · rw [show mayZ n wd = 1 from by unfold mayZ; rw [if_pos (by omega)]]
    go_enter Tryd.func49, Tryd.ntmps49
    go_wp2
    go_ret
    exact ⟨rfl, rfl⟩
  · rw [show mayZ n wd = 1 from by unfold mayZ; rw [if_pos (by omega)]]
    have h0 : ¬ wd < 0 := by omega
    go_enter Tryd.func49, Tryd.ntmps49
    go_wp2
    go_ret
    exact ⟨rfl, rfl⟩
  · rw [show mayZ n wd = 1 from by unfold mayZ; rw [if_pos (by omega)]]
    have h2' : 0 < wd % 4 := by omega
    clear h2
    go_enter Tryd.func49, Tryd.ntmps49
    go_wp2
    go_ret
    exact ⟨rfl, rfl⟩
  · rw [show mayZ n wd = 1 from by unfold mayZ; rw [if_pos (by omega)]]
    have h2' : ¬ 0 < wd % 4 := by omega
    clear h2
    go_enter Tryd.func49, Tryd.ntmps49
    go_wp2
    go_ret
    exact ⟨rfl, rfl⟩
  · rw [show mayZ n wd = 2 from by unfold mayZ; rw [if_neg (by omega), if_pos h4]]
    have h2' : ¬ 0 < wd % 4 := by omega
    clear h2
    go_enter Tryd.func49, Tryd.ntmps49
    go_wp2
    go_ret
    exact ⟨rfl, rfl⟩
  · rw [show mayZ n wd = 0 from by unfold mayZ; rw [if_neg (by omega), if_neg (by omega)]]
    have h2' : ¬ 0 < wd % 4 := by omega
    clear h2
    go_enter Tryd.func49, Tryd.ntmps49
    go_wp2
    go_ret
    exact ⟨rfl, rfl⟩
/-- A number's sign, and whether it has one. -/
def sgnZ (v : Int) : Int := if 0 ≤ v ∧ v < 64 then sgn v.toNat else 0
theorem sgn_parts : ∀ n : Nat, n < 64 → sgn n = if n ≤ 25 then 65 + (n : Int) else if n ≤ 51 then 97 + (n : Int) - 26 else if n ≤ 61 then 48 + (n : Int) - 52 else if n = 62 then 43 else 47 := by decide
set_option maxRecDepth 100000 in
set_option maxHeartbeats 1000000 in
theorem rsign_any (v : Int) (w : World) (h0 : -9223372036854775808 ≤ v) (h1 : v ≤ 9223372036854775807) : Calls Tryd.prog 51 #[.int .i64 v] w fun e w' => e = .returned (.tuple #[.int .u8 (sgnZ v), .bool (decide (0 ≤ v ∧ v < 64))]) ∧ w = w' := by
  by_cases hv : 0 ≤ v ∧ v < 64
  · obtain ⟨n, rfl⟩ := Int.eq_ofNat_of_zero_le hv.1
    have hn : n < 64 := by omega
    rw [decide_eq_true hv, show sgnZ (n : Int) = sgn n from by unfold sgnZ; rw [if_pos hv]; rfl, sgn_parts n hn]
    rcases (show n ≤ 25 ∨ (25 < n ∧ n ≤ 51) ∨ (51 < n ∧ n ≤ 61) ∨ n = 62 ∨ n = 63 from by omega) with h | ⟨h, h'⟩ | ⟨h, h'⟩ | rfl | rfl
    · rw [if_pos h]
      go_enter Tryd.func51, Tryd.ntmps51
      go_wp2
      go_ret2
      exact ⟨rfl, rfl⟩
    · rw [if_neg (by omega), if_pos h']
      go_enter Tryd.func51, Tryd.ntmps51
      go_wp2
      go_ret2
      exact ⟨rfl, rfl⟩
    · rw [if_neg (by omega), if_neg (by omega), if_pos h']
      go_enter Tryd.func51, Tryd.ntmps51
      go_wp2
      go_ret2
      exact ⟨rfl, rfl⟩
    · go_enter Tryd.func51, Tryd.ntmps51
      go_wp2
      go_ret2
      exact ⟨rfl, rfl⟩
    · go_enter Tryd.func51, Tryd.ntmps51
      go_wp2
      go_ret2
      exact ⟨rfl, rfl⟩
  · rw [decide_eq_false hv, show sgnZ v = 0 from by unfold sgnZ; rw [if_neg hv]]
    rcases (show v < 0 ∨ 64 ≤ v from by omega) with h | h
    · have e1 : (v == 62) = false := by rw [beq_eq_false_iff_ne]; omega
      have e2 : (v == 63) = false := by rw [beq_eq_false_iff_ne]; omega
      clear hv
      go_enter Tryd.func51, Tryd.ntmps51
      go_wp2
      go_ret2
      exact ⟨rfl, rfl⟩
    · have e1 : (v == 62) = false := by rw [beq_eq_false_iff_ne]; omega
      have e2 : (v == 63) = false := by rw [beq_eq_false_iff_ne]; omega
      clear hv
      go_enter Tryd.func51, Tryd.ntmps51
      go_wp2
      go_ret2
      exact ⟨rfl, rfl⟩
set_option maxRecDepth 100000 in
set_option maxHeartbeats 1000000 in
theorem encode_long (a : Option Addr) (len cap : Nat) (wd : Int) (w : World) (h0 : 0 ≤ wd) (h1 : wd ≤ 76) (h2 : wd % 4 = 0) (h3 : 1048576 < len) :
    Calls Tryd.prog 19 #[.slice a len cap, .int .i64 wd] w fun e w' => e = .returned (.tuple #[.string ⟨#[]⟩, .int .i64 2]) ∧ w = w' := by
  have H2 : Hid (wd % 4 = 0) := h2
  clear h2
  go_enter Tryd.func19, Tryd.ntmps19
  go_wp2_with (go_at_call 40; refine (length_long _ _ _ h0 h1 H2.out (by omega)).mono ?_; rintro e w' ⟨rfl, rfl⟩)
  go_ret2
  exact ⟨rfl, rfl⟩
end Go.Proofs.YtnhbmekhmkkccaaDoor.Bt
namespace Go.Proofs.YtnhbmekhmkkccaaDoor.Bt
open Go.RowKit
set_option linter.unusedVariables false

theorem Tryd.info3' : (Tryd.prog.info? 3).map (fun i => (i.zero, i.size, i.bytes)) = some (some (.int .i64 0), 1, 8) := by kernel_rfl
def bin1 (c : Int) : List Int := [c / 128 % 2, c / 64 % 2, c / 32 % 2, c / 16 % 2, c / 8 % 2, c / 4 % 2, c / 2 % 2, c / 1 % 2]
/-- A row of bytes as binary digits, the greatest first. -/
def binZ (l : List Int) : List Int := l.flatMap bin1
def powL : List Int := [128, 64, 32, 16, 8, 4, 2, 1, 0]
theorem bin_len (l : List Int) : (binZ l).length = 8 * l.length := by
  induction l with
  | nil => rfl
  | cons c r ih => simp only [binZ, List.flatMap_cons, List.length_append] at ih ⊢; rw [ih, show (bin1 c).length = 8 from rfl, List.length_cons]; omega
theorem row_cell {w : World} {a : Option Addr} {l : List Int} {k : Nat} {c : Int} {r : List Int} (h : Row w a l) (hd : l.drop k = c :: r) : ∃ b off, a = some ⟨b, off, none⟩ ∧ w.cell? ⟨b, off + k, none⟩ = some (.int .u8 c) := by
  have hk : k < l.length := by
    rcases Nat.lt_or_ge k l.length with h | h
    · exact h
    · rw [List.drop_of_length_le h] at hd; cases hd
  rcases h with rfl | ⟨b, off, rfl, hc⟩
  · simp at hk
  · refine ⟨b, off, rfl, ?_⟩
    rw [hc k hk]
    have : l.getD k 0 = c := by
      rw [List.getD_eq_getElem?_getD, show l[k]? = (l.drop k)[0]? from by simp, hd]; rfl
    rw [this]
set_option maxRecDepth 100000 in
set_option maxHeartbeats 8000000 in
theorem digits_any (a : Option Addr) (len cap : Nat) (l : List Int) (w : World) (hl : l.length = len) (hb : Byt l) (hcap : len ≤ cap) (hm : cap ≤ 9223372036854775807) (hs : len ≤ 10000) (hrow : Row w a l) :
    Calls Tryd.prog 50 #[.slice a len cap] w fun e w' => ∃ v, e = .returned v ∧ w'.ownsRow w.heap.size 3 1 v (binZ l).length ((binZ l).map (Value.int .i64)) ∧ Below w.heap.size w w' := by
  obtain ⟨j1, ki, kz0, kz1, kz2⟩ := info_parts Tryd.info3'
  have HR : Hid (Row w a l) := hrow
  have HL : Hid (l.length = len) := hl
  have HB : Hid (Byt l) := hb
  clear hrow hl hb
  go_enter Tryd.func50, Tryd.ntmps50
  go_wp2
  go_loopw [3, 4] (fun v i wr => ∃ k : Nat, i = .int .i64 k ∧ k ≤ len ∧ wr.ownsRow w.heap.size 3 1 v (binZ (l.take k)).length ((binZ (l.take k)).map (Value.int .i64)) ∧ Below w.heap.size w wr) (fun _ i _ => len - (intOf i).toNat)
  case atStart => exact ⟨0, rfl, by omega, World.ownsRow_nil _ _ _ _, Below.refl _ _⟩
  case round =>
    obtain ⟨k, rfl, hk, hown, hbel⟩ := hrel
    have HO : Hid (wr.ownsRow w.heap.size 3 1 u3 (binZ (l.take k)).length ((binZ (l.take k)).map (Value.int .i64))) := hown
    have HW : Hid (Below w.heap.size w wr) := hbel
    clear hown hbel
    by_cases hlt : k < len
    · obtain ⟨c, r, hd⟩ : ∃ c r, l.drop k = c :: r := by
        match hx : l.drop k with
        | [] => have := congrArg List.length hx; rw [List.length_drop, HL.out] at this; simp at this; omega
        | c :: r => exact ⟨c, r, rfl⟩
      have hcb : 0 ≤ c ∧ c < 256 := HB.out c (List.mem_of_mem_drop (by rw [hd]; simp))
      obtain ⟨b, off, rfl, hcell⟩ := row_cell HR.out hd
      have HC : Hid (w.cell? ⟨b, off + k, none⟩ = some (.int .u8 c)) := hcell
      have hpl : (binZ (l.take k)).length ≤ 80000 := by rw [bin_len, List.length_take, HL.out]; omega
      have HT : Hid (binZ (l.take (k + 1)) = binZ (l.take k) ++ bin1 c) := by
        unfold Hid
        rw [List.take_add_one, show l[k]? = some c from by rw [show l[k]? = (l.drop k)[0]? from by simp, hd]; rfl]
        simp [binZ]
      obtain ⟨pre, hpre⟩ : ∃ pre, binZ (l.take k) = pre := ⟨_, rfl⟩
      rw [hpre] at HO HT hpl
      clear hd hcell hpre
      go_wp2
      go_loopw [3, 5] (fun v n wi => ∃ j : Nat, j ≤ 8 ∧ n = .int .i64 (powL.getD j 0) ∧ wi.ownsRow w.heap.size 3 1 v (pre ++ (bin1 c).take j).length ((pre ++ (bin1 c).take j).map (Value.int .i64)) ∧ Below w.heap.size w wi) (fun _ n _ => (intOf n).toNat)
      case atStart => exact ⟨0, by omega, rfl, by simpa using HO.out, HW.out⟩
      case round =>
        obtain ⟨j, hj, hn, hown, hbel⟩ := hrel
        subst hn
        have HOI : Hid (wr.ownsRow w.heap.size 3 1 u3 (pre ++ (bin1 c).take j).length ((pre ++ (bin1 c).take j).map (Value.int .i64))) := hown
        have HWI : Hid (Below w.heap.size w wr) := hbel
        have hsz : w.heap.size ≤ wr.heap.size := hbel.size
        have hcl : wr.cell? ⟨b, off + k, none⟩ = some (.int .u8 c) := by
          rw [hbel.cell (World.block_lt_of_cell? w _ HC.out)]; exact HC.out
        have hpj : (pre ++ (bin1 c).take j).length ≤ 80008 := by rw [List.length_append, List.length_take]; have : (bin1 c).length = 8 := rfl; omega
        clear hown hbel
        rcases (show j = 0 ∨ j = 1 ∨ j = 2 ∨ j = 3 ∨ j = 4 ∨ j = 5 ∨ j = 6 ∨ j = 7 ∨ j = 8 from by omega) with rfl | rfl | rfl | rfl | rfl | rfl | rfl | rfl | rfl
        · rw [show powL.getD 0 0 = 128 from rfl]
          obtain ⟨q, hq⟩ : ∃ q, pre ++ (bin1 c).take 0 = q := ⟨_, rfl⟩
          have HQ : Hid (pre ++ (bin1 c).take 1 = q ++ [c / 128 % 2]) := by
            unfold Hid; rw [← hq]; simp [bin1]
          rw [hq] at HOI hpj
          clear hq
          go_wp2_with (at_builtin; refine wpList_append_own _ rfl (.tmp 14) (.tmp 23) 73 rfl w.heap.size 3 j1 (.int .i64 0) 1 8 Tryd.underlying73 ki kz0 kz1 kz2 rfl (by decide) _ _ _ rfl (HOI.out.alloc _) ⟨wr.heap.size, 0, none⟩ 1 1 ([c / 128 % 2].map (Value.int .i64)) rfl rfl (cells_new _ _ _) (by intro x hx; simp at hx; subst hx; rfl) ?_ ?_ ?_ ?_)
          · unfold maxLen; omega
          · omega
          · first | omega | (simp; omega)
          intro v1 w1 hown1 hgrow1 _
          have HB1 : Hid (Below w.heap.size w w1) := (HWI.out.alloc hsz _).grown hgrow1 (by simp; omega) (fun k hk => (HOI.out.lt k hk).1)
          have HO1 : Hid (w1.ownsRow w.heap.size 3 1 v1 (pre ++ (bin1 c).take 1).length ((pre ++ (bin1 c).take 1).map (Value.int .i64))) := by
            unfold Hid; rw [HQ.out, List.length_append, List.map_append]; exact hown1
          clear hown1 hgrow1
          go_wp2
          go_roundw
          case rel => exact ⟨1, by omega, by first | rfl | go_num, HO1.out, HB1.out⟩
          case measure => simp [intOf]
        · rw [show powL.getD 1 0 = 64 from rfl]
          obtain ⟨q, hq⟩ : ∃ q, pre ++ (bin1 c).take 1 = q := ⟨_, rfl⟩
          have HQ : Hid (pre ++ (bin1 c).take 2 = q ++ [c / 64 % 2]) := by
            unfold Hid; rw [← hq]; simp [bin1]
          rw [hq] at HOI hpj
          clear hq
          go_wp2_with (at_builtin; refine wpList_append_own _ rfl (.tmp 14) (.tmp 23) 73 rfl w.heap.size 3 j1 (.int .i64 0) 1 8 Tryd.underlying73 ki kz0 kz1 kz2 rfl (by decide) _ _ _ rfl (HOI.out.alloc _) ⟨wr.heap.size, 0, none⟩ 1 1 ([c / 64 % 2].map (Value.int .i64)) rfl rfl (cells_new _ _ _) (by intro x hx; simp at hx; subst hx; rfl) ?_ ?_ ?_ ?_)
          · unfold maxLen; omega
          · omega
          · first | omega | (simp; omega)
          intro v1 w1 hown1 hgrow1 _
          have HB1 : Hid (Below w.heap.size w w1) := (HWI.out.alloc hsz _).grown hgrow1 (by simp; omega) (fun k hk => (HOI.out.lt k hk).1)
          have HO1 : Hid (w1.ownsRow w.heap.size 3 1 v1 (pre ++ (bin1 c).take 2).length ((pre ++ (bin1 c).take 2).map (Value.int .i64))) := by
            unfold Hid; rw [HQ.out, List.length_append, List.map_append]; exact hown1
          clear hown1 hgrow1
          go_wp2
          go_roundw
          case rel => exact ⟨2, by omega, by first | rfl | go_num, HO1.out, HB1.out⟩
          case measure => simp [intOf]
        · rw [show powL.getD 2 0 = 32 from rfl]
          obtain ⟨q, hq⟩ : ∃ q, pre ++ (bin1 c).take 2 = q := ⟨_, rfl⟩
          have HQ : Hid (pre ++ (bin1 c).take 3 = q ++ [c / 32 % 2]) := by
            unfold Hid; rw [← hq]; simp [bin1]
          rw [hq] at HOI hpj
          clear hq
          go_wp2_with (at_builtin; refine wpList_append_own _ rfl (.tmp 14) (.tmp 23) 73 rfl w.heap.size 3 j1 (.int .i64 0) 1 8 Tryd.underlying73 ki kz0 kz1 kz2 rfl (by decide) _ _ _ rfl (HOI.out.alloc _) ⟨wr.heap.size, 0, none⟩ 1 1 ([c / 32 % 2].map (Value.int .i64)) rfl rfl (cells_new _ _ _) (by intro x hx; simp at hx; subst hx; rfl) ?_ ?_ ?_ ?_)
          · unfold maxLen; omega
          · omega
          · first | omega | (simp; omega)
          intro v1 w1 hown1 hgrow1 _
          have HB1 : Hid (Below w.heap.size w w1) := (HWI.out.alloc hsz _).grown hgrow1 (by simp; omega) (fun k hk => (HOI.out.lt k hk).1)
          have HO1 : Hid (w1.ownsRow w.heap.size 3 1 v1 (pre ++ (bin1 c).take 3).length ((pre ++ (bin1 c).take 3).map (Value.int .i64))) := by
            unfold Hid; rw [HQ.out, List.length_append, List.map_append]; exact hown1
          clear hown1 hgrow1
          go_wp2
          go_roundw
          case rel => exact ⟨3, by omega, by first | rfl | go_num, HO1.out, HB1.out⟩
          case measure => simp [intOf]
        · rw [show powL.getD 3 0 = 16 from rfl]
          obtain ⟨q, hq⟩ : ∃ q, pre ++ (bin1 c).take 3 = q := ⟨_, rfl⟩
          have HQ : Hid (pre ++ (bin1 c).take 4 = q ++ [c / 16 % 2]) := by
            unfold Hid; rw [← hq]; simp [bin1]
          rw [hq] at HOI hpj
          clear hq
          go_wp2_with (at_builtin; refine wpList_append_own _ rfl (.tmp 14) (.tmp 23) 73 rfl w.heap.size 3 j1 (.int .i64 0) 1 8 Tryd.underlying73 ki kz0 kz1 kz2 rfl (by decide) _ _ _ rfl (HOI.out.alloc _) ⟨wr.heap.size, 0, none⟩ 1 1 ([c / 16 % 2].map (Value.int .i64)) rfl rfl (cells_new _ _ _) (by intro x hx; simp at hx; subst hx; rfl) ?_ ?_ ?_ ?_)
          · unfold maxLen; omega
          · omega
          · first | omega | (simp; omega)
          intro v1 w1 hown1 hgrow1 _
          have HB1 : Hid (Below w.heap.size w w1) := (HWI.out.alloc hsz _).grown hgrow1 (by simp; omega) (fun k hk => (HOI.out.lt k hk).1)
          have HO1 : Hid (w1.ownsRow w.heap.size 3 1 v1 (pre ++ (bin1 c).take 4).length ((pre ++ (bin1 c).take 4).map (Value.int .i64))) := by
            unfold Hid; rw [HQ.out, List.length_append, List.map_append]; exact hown1
          clear hown1 hgrow1
          go_wp2
          go_roundw
          case rel => exact ⟨4, by omega, by first | rfl | go_num, HO1.out, HB1.out⟩
          case measure => simp [intOf]
        · rw [show powL.getD 4 0 = 8 from rfl]
          obtain ⟨q, hq⟩ : ∃ q, pre ++ (bin1 c).take 4 = q := ⟨_, rfl⟩
          have HQ : Hid (pre ++ (bin1 c).take 5 = q ++ [c / 8 % 2]) := by
            unfold Hid; rw [← hq]; simp [bin1]
          rw [hq] at HOI hpj
          clear hq
          go_wp2_with (at_builtin; refine wpList_append_own _ rfl (.tmp 14) (.tmp 23) 73 rfl w.heap.size 3 j1 (.int .i64 0) 1 8 Tryd.underlying73 ki kz0 kz1 kz2 rfl (by decide) _ _ _ rfl (HOI.out.alloc _) ⟨wr.heap.size, 0, none⟩ 1 1 ([c / 8 % 2].map (Value.int .i64)) rfl rfl (cells_new _ _ _) (by intro x hx; simp at hx; subst hx; rfl) ?_ ?_ ?_ ?_)
          · unfold maxLen; omega
          · omega
          · first | omega | (simp; omega)
          intro v1 w1 hown1 hgrow1 _
          have HB1 : Hid (Below w.heap.size w w1) := (HWI.out.alloc hsz _).grown hgrow1 (by simp; omega) (fun k hk => (HOI.out.lt k hk).1)
          have HO1 : Hid (w1.ownsRow w.heap.size 3 1 v1 (pre ++ (bin1 c).take 5).length ((pre ++ (bin1 c).take 5).map (Value.int .i64))) := by
            unfold Hid; rw [HQ.out, List.length_append, List.map_append]; exact hown1
          clear hown1 hgrow1
          go_wp2
          go_roundw
          case rel => exact ⟨5, by omega, by first | rfl | go_num, HO1.out, HB1.out⟩
          case measure => simp [intOf]
        · rw [show powL.getD 5 0 = 4 from rfl]
          obtain ⟨q, hq⟩ : ∃ q, pre ++ (bin1 c).take 5 = q := ⟨_, rfl⟩
          have HQ : Hid (pre ++ (bin1 c).take 6 = q ++ [c / 4 % 2]) := by
            unfold Hid; rw [← hq]; simp [bin1]
          rw [hq] at HOI hpj
          clear hq
          go_wp2_with (at_builtin; refine wpList_append_own _ rfl (.tmp 14) (.tmp 23) 73 rfl w.heap.size 3 j1 (.int .i64 0) 1 8 Tryd.underlying73 ki kz0 kz1 kz2 rfl (by decide) _ _ _ rfl (HOI.out.alloc _) ⟨wr.heap.size, 0, none⟩ 1 1 ([c / 4 % 2].map (Value.int .i64)) rfl rfl (cells_new _ _ _) (by intro x hx; simp at hx; subst hx; rfl) ?_ ?_ ?_ ?_)
          · unfold maxLen; omega
          · omega
          · first | omega | (simp; omega)
          intro v1 w1 hown1 hgrow1 _
          have HB1 : Hid (Below w.heap.size w w1) := (HWI.out.alloc hsz _).grown hgrow1 (by simp; omega) (fun k hk => (HOI.out.lt k hk).1)
          have HO1 : Hid (w1.ownsRow w.heap.size 3 1 v1 (pre ++ (bin1 c).take 6).length ((pre ++ (bin1 c).take 6).map (Value.int .i64))) := by
            unfold Hid; rw [HQ.out, List.length_append, List.map_append]; exact hown1
          clear hown1 hgrow1
          go_wp2
          go_roundw
          case rel => exact ⟨6, by omega, by first | rfl | go_num, HO1.out, HB1.out⟩
          case measure => simp [intOf]
        · rw [show powL.getD 6 0 = 2 from rfl]
          obtain ⟨q, hq⟩ : ∃ q, pre ++ (bin1 c).take 6 = q := ⟨_, rfl⟩
          have HQ : Hid (pre ++ (bin1 c).take 7 = q ++ [c / 2 % 2]) := by
            unfold Hid; rw [← hq]; simp [bin1]
          rw [hq] at HOI hpj
          clear hq
          go_wp2_with (at_builtin; refine wpList_append_own _ rfl (.tmp 14) (.tmp 23) 73 rfl w.heap.size 3 j1 (.int .i64 0) 1 8 Tryd.underlying73 ki kz0 kz1 kz2 rfl (by decide) _ _ _ rfl (HOI.out.alloc _) ⟨wr.heap.size, 0, none⟩ 1 1 ([c / 2 % 2].map (Value.int .i64)) rfl rfl (cells_new _ _ _) (by intro x hx; simp at hx; subst hx; rfl) ?_ ?_ ?_ ?_)
          · unfold maxLen; omega
          · omega
          · first | omega | (simp; omega)
          intro v1 w1 hown1 hgrow1 _
          have HB1 : Hid (Below w.heap.size w w1) := (HWI.out.alloc hsz _).grown hgrow1 (by simp; omega) (fun k hk => (HOI.out.lt k hk).1)
          have HO1 : Hid (w1.ownsRow w.heap.size 3 1 v1 (pre ++ (bin1 c).take 7).length ((pre ++ (bin1 c).take 7).map (Value.int .i64))) := by
            unfold Hid; rw [HQ.out, List.length_append, List.map_append]; exact hown1
          clear hown1 hgrow1
          go_wp2
          go_roundw
          case rel => exact ⟨7, by omega, by first | rfl | go_num, HO1.out, HB1.out⟩
          case measure => simp [intOf]
        · rw [show powL.getD 7 0 = 1 from rfl]
          obtain ⟨q, hq⟩ : ∃ q, pre ++ (bin1 c).take 7 = q := ⟨_, rfl⟩
          have HQ : Hid (pre ++ (bin1 c).take 8 = q ++ [c % 2]) := by
            unfold Hid; rw [← hq]; simp [bin1]
          rw [hq] at HOI hpj
          clear hq
          go_wp2_with (at_builtin; refine wpList_append_own _ rfl (.tmp 14) (.tmp 23) 73 rfl w.heap.size 3 j1 (.int .i64 0) 1 8 Tryd.underlying73 ki kz0 kz1 kz2 rfl (by decide) _ _ _ rfl (HOI.out.alloc _) ⟨wr.heap.size, 0, none⟩ 1 1 ([c % 2].map (Value.int .i64)) rfl rfl (cells_new _ _ _) (by intro x hx; simp at hx; subst hx; rfl) ?_ ?_ ?_ ?_)
          · unfold maxLen; omega
          · omega
          · first | omega | (simp; omega)
          intro v1 w1 hown1 hgrow1 _
          have HB1 : Hid (Below w.heap.size w w1) := (HWI.out.alloc hsz _).grown hgrow1 (by simp; omega) (fun k hk => (HOI.out.lt k hk).1)
          have HO1 : Hid (w1.ownsRow w.heap.size 3 1 v1 (pre ++ (bin1 c).take 8).length ((pre ++ (bin1 c).take 8).map (Value.int .i64))) := by
            unfold Hid; rw [HQ.out, List.length_append, List.map_append]; exact hown1
          clear hown1 hgrow1
          go_wp2
          go_roundw
          case rel => exact ⟨8, by omega, by first | rfl | go_num, HO1.out, HB1.out⟩
          case measure => simp [intOf]
        · rw [show powL.getD 8 0 = 0 from rfl]
          have HO8 : Hid (wr.ownsRow w.heap.size 3 1 u3 (binZ (l.take (k + 1))).length ((binZ (l.take (k + 1))).map (Value.int .i64))) := by
            unfold Hid; rw [HT.out]; exact HOI.out
          go_wp2
          go_roundw
          case rel => exact ⟨k + 1, by go_num, by omega, HO8.out, HWI.out⟩
          case measure => simp [intOf]; omega
    · obtain rfl : k = len := by omega
      have HX : Hid (wr.ownsRow w.heap.size 3 1 u3 (binZ l).length ((binZ l).map (Value.int .i64))) := by
        have h := HO.out
        rw [List.take_of_length_le (by rw [HL.out]; omega)] at h
        exact h
      go_wp2
      go_ret
      exact ⟨_, rfl, HX.out, HW.out⟩
end Go.Proofs.YtnhbmekhmkkccaaDoor.Bt
namespace Go.Proofs.YtnhbmekhmkkccaaDoor.Bt
open Go.RowKit
set_option linter.unusedVariables false

/-- The number of a row's first digits. -/
def pvZ (d : List Int) : Nat → Int
  | 0 => 0
  | i + 1 => 2 * pvZ d i + d.getD i 0
def lnb (wd ln : Int) : Int := if 0 < wd ∧ ln = wd then 0 else ln
/-- What is still written, from a line's place and the digits that are left on. -/
def gsF (wd : Int) : Nat → Int → List Int → List Int
  | 0, _, _ => []
  | n + 1, ln, d => if d = [] ∧ ln % 4 = 0 then [] else
      brk wd ln ++ (if d = [] then 61 :: gsF wd n (lnb wd ln + 1) [] else sgn (pvZ d 6).toNat :: gsF wd n (lnb wd ln + 1) (d.drop 6))
theorem gsF_end (wd : Int) (n : Nat) (ln : Int) (h : ln % 4 = 0) : gsF wd n ln [] = [] := by
  cases n with
  | zero => rfl
  | succ n => unfold gsF; rw [if_pos ⟨rfl, h⟩]
theorem gsF_pad (wd : Int) (n : Nat) (ln : Int) (h2 : wd % 4 = 0) (h : ln % 4 ≠ 0) : gsF wd (n + 1) ln [] = 61 :: gsF wd n (ln + 1) [] := by
  rw [gsF, if_neg (fun q => h q.2), if_pos rfl]
  have hb : ¬ (0 < wd ∧ ln = wd) := by rintro ⟨_, e⟩; rw [e] at h; exact h h2
  rw [show brk wd ln = [] from by unfold brk; rw [if_neg hb], show lnb wd ln = ln from by unfold lnb; rw [if_neg hb]]
  rfl
theorem gsF_in (wd : Int) (n : Nat) (ln : Int) (d : List Int) (h2 : wd % 4 = 0) (h : ln % 4 ≠ 0) (hd : d ≠ []) : gsF wd (n + 1) ln d = sgn (pvZ d 6).toNat :: gsF wd n (ln + 1) (d.drop 6) := by
  rw [gsF, if_neg (fun q => h q.2), if_neg hd]
  have hb : ¬ (0 < wd ∧ ln = wd) := by rintro ⟨_, e⟩; rw [e] at h; exact h h2
  rw [show brk wd ln = [] from by unfold brk; rw [if_neg hb], show lnb wd ln = ln from by unfold lnb; rw [if_neg hb]]
  rfl
theorem gsF_first (wd : Int) (n : Nat) (ln : Int) (d : List Int) (hd : d ≠ []) : gsF wd (n + 1) ln d = brk wd ln ++ sgn (pvZ d 6).toNat :: gsF wd n (lnb wd ln + 1) (d.drop 6) := by
  rw [gsF, if_neg (fun q => hd q.1), if_neg hd]
theorem lnb_mod (wd ln : Int) (h : ln % 4 = 0) : lnb wd ln % 4 = 0 := by unfold lnb; split <;> omega
theorem nxt_lnb (wd ln : Int) : nxt wd ln = lnb wd ln + 4 := rfl

theorem binZ_cons (x : Int) (r : List Int) : binZ (x :: r) = bin1 x ++ binZ r := rfl

set_option maxRecDepth 100000 in
set_option maxHeartbeats 4000000 in
theorem gs_enc (wd : Int) (h2 : wd % 4 = 0) : ∀ (k : Nat) (l : List Int) (n : Nat) (ln : Int), l.length ≤ k → Byt l → ln % 4 = 0 → 2 * l.length + 4 ≤ n → gsF wd n ln (binZ l) = encW wd ln l
  | _, [], n, ln, _, _, h, _ => by rw [show binZ [] = [] from rfl, gsF_end _ _ _ h]; rfl
  | _, [x], n, ln, _, hb, h, hn => by
    have hx := hb.head
    have hl := lnb_mod wd ln h
    obtain ⟨m, rfl⟩ : ∃ m, n = m + 1 + 1 + 1 + 1 := ⟨n - 4, by simp at hn; omega⟩
    rw [show binZ [x] = bin1 x from by simp [binZ]]
    rw [gsF_first wd _ ln (bin1 x) (by simp [bin1])]
    rw [gsF_in wd _ _ ((bin1 x).drop 6) h2 (by omega) (by simp [bin1])]
    rw [show ((bin1 x).drop 6).drop 6 = [] from rfl]
    rw [gsF_pad wd _ _ h2 (by omega), gsF_pad wd _ _ h2 (by omega), gsF_end _ _ _ (by omega)]
    show _ = brk wd ln ++ fourL x 0 0 1
    congr 1
    unfold fourL
    have e1 : pvZ (bin1 x) 6 = ((x * 256 + 0) * 256 + 0) / 262144 % 64 := by simp [pvZ, bin1]; omega
    have e2 : pvZ ((bin1 x).drop 6) 6 = ((x * 256 + 0) * 256 + 0) / 4096 % 64 := by simp [pvZ, bin1]; omega
    rw [e1, e2]
    simp
  | _, [x, y], n, ln, _, hb, h, hn => by
    have hx := hb.head
    have hy := hb.tail.head
    have hl := lnb_mod wd ln h
    obtain ⟨m, rfl⟩ : ∃ m, n = m + 1 + 1 + 1 + 1 := ⟨n - 4, by simp at hn; omega⟩
    rw [show binZ [x, y] = bin1 x ++ bin1 y from by simp [binZ]]
    rw [gsF_first wd _ ln (bin1 x ++ bin1 y) (by simp [bin1])]
    rw [gsF_in wd _ _ ((bin1 x ++ bin1 y).drop 6) h2 (by omega) (by simp [bin1])]
    rw [gsF_in wd _ _ (((bin1 x ++ bin1 y).drop 6).drop 6) h2 (by omega) (by simp [bin1])]
    rw [show (((bin1 x ++ bin1 y).drop 6).drop 6).drop 6 = [] from rfl]
    rw [gsF_pad wd _ _ h2 (by omega), gsF_end _ _ _ (by omega)]
    show _ = brk wd ln ++ fourL x y 0 2
    congr 1
    unfold fourL
    have e1 : pvZ (bin1 x ++ bin1 y) 6 = ((x * 256 + y) * 256 + 0) / 262144 % 64 := by simp [pvZ, bin1]; omega
    have e2 : pvZ ((bin1 x ++ bin1 y).drop 6) 6 = ((x * 256 + y) * 256 + 0) / 4096 % 64 := by simp [pvZ, bin1]; omega
    have e3 : pvZ (((bin1 x ++ bin1 y).drop 6).drop 6) 6 = ((x * 256 + y) * 256 + 0) / 64 % 64 := by simp [pvZ, bin1]; omega
    rw [e1, e2, e3]
    simp
  | 0, x :: y :: z :: r, n, ln, hk, _, _, _ => by simp at hk
  | k + 1, x :: y :: z :: r, n, ln, hk, hb, h, hn => by
    have hx := hb.head
    have hy := hb.tail.head
    have hz := hb.tail.tail.head
    have hl := lnb_mod wd ln h
    simp only [List.length_cons] at hn hk
    obtain ⟨m, rfl⟩ : ∃ m, n = m + 1 + 1 + 1 + 1 := ⟨n - 4, by omega⟩
    have ih := gs_enc wd h2 k r m (nxt wd ln) (by omega) hb.tail.tail.tail (by rw [nxt_lnb]; omega) (by omega)
    rw [binZ_cons, binZ_cons, binZ_cons]
    generalize binZ r = d at ih ⊢
    rw [gsF_first wd _ ln (bin1 x ++ (bin1 y ++ (bin1 z ++ d))) (by simp [bin1])]
    rw [gsF_in wd _ _ ((bin1 x ++ (bin1 y ++ (bin1 z ++ d))).drop 6) h2 (by omega) (by simp [bin1])]
    rw [gsF_in wd _ _ (((bin1 x ++ (bin1 y ++ (bin1 z ++ d))).drop 6).drop 6) h2 (by omega) (by simp [bin1])]
    rw [gsF_in wd _ _ ((((bin1 x ++ (bin1 y ++ (bin1 z ++ d))).drop 6).drop 6).drop 6) h2 (by omega) (by simp [bin1])]
    rw [show ((((bin1 x ++ (bin1 y ++ (bin1 z ++ d))).drop 6).drop 6).drop 6).drop 6 = d from rfl]
    rw [show lnb wd ln + 1 + 1 + 1 + 1 = nxt wd ln from by rw [nxt_lnb]; omega, ih]
    show _ = brk wd ln ++ fourL x y z 3 ++ encW wd (nxt wd ln) r
    rw [List.append_assoc]
    congr 1
    unfold fourL
    have e1 : pvZ (bin1 x ++ (bin1 y ++ (bin1 z ++ d))) 6 = ((x * 256 + y) * 256 + z) / 262144 % 64 := by simp [pvZ, bin1]; omega
    have e2 : pvZ ((bin1 x ++ (bin1 y ++ (bin1 z ++ d))).drop 6) 6 = ((x * 256 + y) * 256 + z) / 4096 % 64 := by simp [pvZ, bin1]; omega
    have e3 : pvZ (((bin1 x ++ (bin1 y ++ (bin1 z ++ d))).drop 6).drop 6) 6 = ((x * 256 + y) * 256 + z) / 64 % 64 := by simp [pvZ, bin1]; omega
    have e4 : pvZ ((((bin1 x ++ (bin1 y ++ (bin1 z ++ d))).drop 6).drop 6).drop 6) 6 = z % 64 := by simp [pvZ, bin1]; omega
    rw [e1, e2, e3, e4]
    simp
/-- Digits. -/
def Dig (d : List Int) : Prop := ∀ x ∈ d, x = 0 ∨ x = 1
theorem bin_dig (l : List Int) : Dig (binZ l) := by
  intro x hx
  simp only [binZ, List.mem_flatMap] at hx
  obtain ⟨c, _, hc⟩ := hx
  simp [bin1] at hc
  omega
theorem dig_getD {d : List Int} (h : Dig d) (i : Nat) : d.getD i 0 = 0 ∨ d.getD i 0 = 1 := by
  rw [List.getD_eq_getElem?_getD]
  rcases Nat.lt_or_ge i d.length with q | q
  · rw [List.getElem?_eq_getElem q]; exact h _ (List.getElem_mem q)
  · rw [List.getElem?_eq_none q]; exact .inl rfl
theorem pv_range {d : List Int} (h : Dig d) : ∀ i, 0 ≤ pvZ d i ∧ pvZ d i < 2 ^ i
  | 0 => by simp [pvZ]
  | i + 1 => by
    have := pv_range h i
    have := dig_getD h i
    simp only [pvZ, Int.pow_succ]
    omega
theorem brk_count (wd ln : Int) : ((brk wd ln).length : Int) = if 0 < wd ∧ ln = wd then 2 else 0 := by unfold brk; split <;> simp
/-- One group's share of the breaks. -/
theorem grp_one {wd ln : Int} (hw : 0 < wd) (h2 : wd % 4 = 0) (h : ln % 4 = 0) (h0 : 0 ≤ ln) (hle : ln ≤ wd) : ((brk wd ln).length : Int) = (ln + 4 - 1) / wd * 2 := by
  rw [brk_count]
  by_cases e : ln = wd
  · rw [if_pos ⟨hw, e⟩, e]
    have h1 : (3 + 1 * wd) / wd = 3 / wd + 1 := Int.add_mul_ediv_right 3 1 (by omega)
    have h3 : (3 : Int) / wd = 0 := Int.ediv_eq_zero_of_lt (by omega) (by omega)
    rw [show wd + 4 - 1 = 3 + 1 * wd from by omega, h1, h3]; rfl
  · rw [if_neg (fun q => e q.2)]
    have h3 : (ln + 4 - 1) / wd = 0 := Int.ediv_eq_zero_of_lt (by omega) (by omega)
    rw [h3]; rfl
theorem grp_more {wd ln S : Int} (hw : 0 < wd) : ((brk wd ln).length : Int) + (nxt wd ln + S - 1) / wd * 2 = (ln + (S + 4) - 1) / wd * 2 := by
  rw [brk_count, nxt_lnb]
  unfold lnb
  by_cases e : ln = wd
  · rw [if_pos ⟨hw, e⟩, if_pos ⟨hw, e⟩, e]
    have h1 : ((S + 3) + 1 * wd) / wd = (S + 3) / wd + 1 := Int.add_mul_ediv_right (S + 3) 1 (by omega)
    rw [show wd + (S + 4) - 1 = (S + 3) + 1 * wd from by omega, h1, show (0 : Int) + 4 + S - 1 = S + 3 from by omega]
    omega
  · rw [if_neg (fun q => e q.2), if_neg (fun q => e q.2), show ln + 4 + S - 1 = ln + (S + 4) - 1 from by omega]
    omega
/-- How many signs the text has. -/
theorem enc_lenZ (wd : Int) (h0 : 0 ≤ wd) (h2 : wd % 4 = 0) : ∀ (k : Nat) (l : List Int) (ln : Int), l.length ≤ k → ln % 4 = 0 → 0 ≤ ln → (0 < wd → ln ≤ wd) → l ≠ [] →
    ((encW wd ln l).length : Int) = if 0 < wd then ((l.length : Int) + 2) / 3 * 4 + (ln + (((l.length : Int) + 2) / 3 * 4) - 1) / wd * 2 else ((l.length : Int) + 2) / 3 * 4
  | _, [], ln, _, _, _, _, hne => absurd rfl hne
  | _, [x], ln, _, h, hl, hle, _ => by
    show (((brk wd ln ++ fourL x 0 0 1).length : Nat) : Int) = _
    rw [List.length_append, fourL_len]
    by_cases hw : 0 < wd
    · rw [if_pos hw]
      have := grp_one hw h2 h hl (hle hw)
      simp only [List.length_cons, List.length_nil]
      rw [show (((0 + 1 : Nat) : Int) + 2) / 3 * 4 = 4 from rfl]
      omega
    · rw [if_neg hw]
      have := brk_count wd ln
      rw [if_neg (fun q => hw q.1)] at this
      simp only [List.length_cons, List.length_nil]
      omega
  | _, [x, y], ln, _, h, hl, hle, _ => by
    show (((brk wd ln ++ fourL x y 0 2).length : Nat) : Int) = _
    rw [List.length_append, fourL_len]
    by_cases hw : 0 < wd
    · rw [if_pos hw]
      have := grp_one hw h2 h hl (hle hw)
      simp only [List.length_cons, List.length_nil]
      rw [show (((0 + 1 + 1 : Nat) : Int) + 2) / 3 * 4 = 4 from rfl]
      omega
    · rw [if_neg hw]
      have := brk_count wd ln
      rw [if_neg (fun q => hw q.1)] at this
      simp only [List.length_cons, List.length_nil]
      omega
  | 0, x :: y :: z :: r, ln, hk, _, _, _, _ => by simp at hk
  | k + 1, x :: y :: z :: r, ln, hk, h, hl, hle, _ => by
    show (((brk wd ln ++ fourL x y z 3 ++ encW wd (nxt wd ln) r).length : Nat) : Int) = _
    rw [List.length_append, List.length_append, fourL_len]
    by_cases hr : r = []
    · subst hr
      rw [show (encW wd (nxt wd ln) []).length = 0 from rfl]
      by_cases hw : 0 < wd
      · rw [if_pos hw]
        have := grp_one hw h2 h hl (hle hw)
        simp only [List.length_cons, List.length_nil]
        rw [show (((0 + 1 + 1 + 1 : Nat) : Int) + 2) / 3 * 4 = 4 from rfl]
        omega
      · rw [if_neg hw]
        have := brk_count wd ln
        rw [if_neg (fun q => hw q.1)] at this
        simp only [List.length_cons, List.length_nil]
        omega
    · simp only [List.length_cons] at hk
      have hlm := lnb_mod wd ln h
      have hlb : 0 ≤ lnb wd ln := by unfold lnb; split <;> omega
      have ih := enc_lenZ wd h0 h2 k r (nxt wd ln) (by omega) (by rw [nxt_lnb]; omega) (by rw [nxt_lnb]; omega) (by
        intro hw
        have := hle hw
        rw [nxt_lnb]; unfold lnb
        split <;> omega) hr
      have hS : (((x :: y :: z :: r).length : Nat) : Int) + 2 = ((r.length : Int) + 2) + 3 := by simp; omega
      have hS2 : ((((x :: y :: z :: r).length : Nat) : Int) + 2) / 3 * 4 = ((r.length : Int) + 2) / 3 * 4 + 4 := by rw [hS]; omega
      rw [hS2]
      by_cases hw : 0 < wd
      · rw [if_pos hw] at ih ⊢
        have := grp_more (wd := wd) (ln := ln) (S := ((r.length : Int) + 2) / 3 * 4) hw
        omega
      · rw [if_neg hw] at ih ⊢
        have := brk_count wd ln
        rw [if_neg (fun q => hw q.1)] at this
        omega
theorem enc_len (wd : Int) (l : List Int) (h0 : 0 ≤ wd) (h2 : wd % 4 = 0) : ((encW wd 0 l).length : Int) = lenZ l.length wd := by
  by_cases hl : l = []
  · subst hl; simp [encW, lenZ]
  · have hp : 0 < l.length := List.length_pos_iff.2 hl
    rw [enc_lenZ wd h0 h2 l.length l 0 (Nat.le_refl _) (by omega) (by omega) (fun h => by omega) hl]
    unfold lenZ
    by_cases hw : 0 < wd
    · rw [if_pos hw, if_pos ⟨hw, by omega⟩, Int.zero_add]
    · rw [if_neg hw, if_neg (fun q => hw q.1)]
end Go.Proofs.YtnhbmekhmkkccaaDoor.Bt
namespace Go.Proofs.YtnhbmekhmkkccaaDoor.Bt
open Go.RowKit
set_option linter.unusedVariables false

theorem lenOf_sl (a : Option Addr) (n c : Nat) : lenOf (.slice a n c) = n := rfl
theorem intOf_i (k : IntKind) (x : Int) : intOf (.int k x) = x := rfl
/-- How long the loop still runs. -/
def muZ (ln : Int) (d : List Int) : Nat := d.length + (if d = [] then ((4 - ln % 4) % 4).toNat else 4)
theorem app_new {ops : Array Oper} {rest : List Oper} {o : Oper} {a : Act} {Q : Exit → Act → World → Prop} (W : World) (hgd : o.guard = none) (s x : Operand)
    (ho : o.op = .call { callee := .builtin .append, args := #[s, x], argTypes := #[31, 31] }) (B : Nat) (v : Value) (l : List Int) (hs : a.eval s = v) (hown : Own W B v l)
    (m : Nat) (r : List Int) (C : Array Value) (hC : (r.map (Value.int .u8)).toArray = C) (hx : a.eval x = .slice (some ⟨W.heap.size, 0, none⟩) m m) (hm : r.length = m) (hlen : l.length + m ≤ 100000000000000) (hB : B ≤ W.heap.size)
    (h : ∀ v' w', Own w' B v' (l ++ r) → Below B W w' → wpList Tryd.prog ops Q rest (a.put o.dst v') w') : wpList Tryd.prog ops Q (o :: rest) a (W.alloc (.cells C 5)) := by
  subst hC
  obtain ⟨j0, hi, hz0, hz1, hz2⟩ := info_parts Tryd.info5
  refine wpList_append_rowk hgd s x 31 ho B 5 j0 (.int .u8 0) 1 Tryd.underlying31 hi hz0 hz1 hz2 rfl .u8 v l.length _ hs (own_keep hown (keep W _)) _ m m r hx hm (by simp) (row_new W r) (by unfold maxLen; omega) (by omega) (by simp; omega) ?_
  intro v2 w2 hown2 hgrow2
  refine h v2 w2 (own_snoc (by rw [hm]; exact hown2)) (((keep W _).mono hB).trans ((Below.refl B _).grown hgrow2 (by simp; omega) ?_))
  intro k hk
  rcases hown.2 with ⟨rfl, _⟩ | ⟨b, cap, cur, rfl, h2, _⟩
  · simp [Value.ownBlock] at hk
  · simp [Value.ownBlock] at hk; omega
theorem rowK_drop {k : IntKind} {w : World} {b off : Nat} {l : List Int} (n : Nat) (h : RowK k w (some ⟨b, off, none⟩) l) : RowK k w (some ⟨b, off + n, none⟩) (l.drop n) := by
  rcases h with rfl | ⟨b', off', e, h⟩
  · exact .inl (by simp)
  · cases e
    refine .inr ⟨b, off + n, rfl, fun i hi => ?_⟩
    rw [List.length_drop] at hi
    rw [Nat.add_assoc, h (n + i) (by omega)]
    simp [List.getD_eq_getElem?_getD]

set_option maxRecDepth 100000 in
set_option maxHeartbeats 8000000 in
theorem rencode_ok (a : Option Addr) (len cap : Nat) (wd : Int) (l : List Int) (w : World) (hl : l.length = len) (hb : Byt l) (hcap : len ≤ cap) (hm : cap ≤ 9223372036854775807) (hs : len ≤ 10000) (h0 : 0 ≤ wd) (h1 : wd ≤ 76) (h2 : wd % 4 = 0) (hrow : Row w a l) :
    Calls Tryd.prog 24 #[.slice a len cap, .int .i64 wd] w fun e w' => e = .returned (.tuple #[.string (strOfNums (encW wd 0 l)), .int .i64 0]) ∧ Below w.heap.size w w' := by
  have hmay := may_any len wd w
  rw [show mayZ len wd = 0 from by unfold mayZ; rw [if_neg (by omega), if_neg (by omega)]] at hmay
  have hdg := digits_any a len cap l w hl hb hcap hm hs hrow
  have H2 : Hid (wd % 4 = 0) := h2
  have HT : Hid (gsF wd (16 * len + 8) 0 (binZ l) = encW wd 0 l) := gs_enc wd h2 l.length l _ 0 (Nat.le_refl _) hb (by omega) (by rw [hl]; omega)
  have hdl := bin_len l
  rw [hl] at hdl
  have HDG : Hid (Dig (binZ l)) := bin_dig l
  have hel : (encW wd 0 l).length ≤ 6 * len := by have := encW_len wd l.length 0 l (Nat.le_refl _); rw [hl] at this; exact this
  obtain ⟨T, hT⟩ : ∃ T, encW wd 0 l = T := ⟨_, rfl⟩
  obtain ⟨D, hD⟩ : ∃ D, binZ l = D := ⟨_, rfl⟩
  rw [hT] at HT hel ⊢
  rw [hD] at HT HDG hdl hdg
  clear hT hD h2 hl hb hrow
  go_enter Tryd.func24, Tryd.ntmps24
  go_wp2_with fail
  refine hmay.mono ?_
  clear hmay
  rintro e w0 ⟨rfl, rfl⟩
  go_wp2_with fail
  refine hdg.mono ?_
  clear hdg
  rintro e w1 ⟨v1, rfl, ho1, hB1⟩
  obtain ⟨a1, c1, rfl, hc1, hm1, hr1, hn1⟩ := own_row' ho1
  have HB1 : Hid (Below w.heap.size w w1) := hB1
  have HR1 : Hid (RowK .i64 w1 a1 D) := hr1
  unfold maxLen at hm1
  clear ho1 hB1 hr1
  go_wp2_with fail
  go_loopw [7, 8, 9] (fun vd vo vl wr => ∃ (ad : Option Addr) (cd n : Nat) (d out : List Int) (ln : Int), vd = .slice ad d.length cd ∧ vl = .int .i64 ln ∧ d.length ≤ cd ∧ cd ≤ 2 ^ 63 - 1 ∧ d.length ≤ 8 * len ∧ 0 ≤ ln ∧ ln ≤ out.length ∧ Dig d ∧ RowK .i64 w1 ad d ∧ T = out ++ gsF wd n ln d ∧ muZ ln d ≤ n ∧ Own wr w1.heap.size vo out ∧ Below w1.heap.size w1 wr) (fun vd _ vl _ => 2 * lenOf vd + (if lenOf vd = 0 then ((4 - intOf vl % 4) % 4).toNat else 4))
  case atStart => exact ⟨a1, c1, 16 * len + 8, D, [], 0, by rw [hdl], rfl, hc1, by omega, by omega, by omega, by simp, HDG.out, HR1.out, by rw [HT.out]; simp, by unfold muZ; split <;> simp <;> omega, World.ownsRow_nil _ _ _ _, Below.refl _ _⟩
  case round =>
    obtain ⟨ad, cd, n, d, out, ln, rfl, rfl, hcd, hcdm, hdl8, hln0, hln1, hdd, hrd, hgs, hmu, hown, hbel⟩ := hrel
    have HDD : Hid (Dig d) := hdd
    have HRD : Hid (RowK .i64 w1 ad d) := hrd
    have HMU : Hid (muZ ln d ≤ n) := hmu
    have HOW : Hid (Own wr w1.heap.size u8 out) := hown
    have HBW : Hid (Below w1.heap.size w1 wr) := hbel
    have hol : out.length ≤ 6 * len := by have := congrArg List.length hgs; rw [List.length_append] at this; omega
    have HGS0 : Hid (T = out ++ gsF wd n ln d) := hgs
    clear hdd hrd hmu hown hbel hgs
    by_cases hdn : d = []
    · subst hdn
      by_cases h4 : ln % 4 = 0
      · have h4' : ¬ 0 < ln % 4 := by omega
        have HTT : Hid (T = out) := by unfold Hid; rw [HGS0.out, gsF_end _ _ _ h4, List.append_nil]
        obtain ⟨ao, co, rfl, _, _, hro, _⟩ := own_row' HOW.out
        have kc := conv_row out.length co rfl hro
        clear h4
        go_wp2
        go_ret2
        exact ⟨by rw [HTT.out]; rfl, HB1.out.trans (HBW.out.mono HB1.out.size)⟩
      · have h4' : 0 < ln % 4 := by omega
        have hmu1 : 1 ≤ n := by have := HMU.out; unfold muZ at this; simp at this; omega
        obtain ⟨n', rfl⟩ : ∃ n', n = n' + 1 := ⟨n - 1, by omega⟩
        have hgp := gsF_pad wd n' ln H2.out h4
        have HGS : Hid (T = out ++ [61] ++ gsF wd n' (ln + 1) []) := by unfold Hid; rw [HGS0.out, hgp]; simp
        have hnw : ¬ ln = wd := by intro e; rw [e] at h4; exact h4 H2.out
        have hnb : (ln == wd) = false := by rw [beq_eq_false_iff_ne]; exact hnw
        clear hgp h4 hnw
        by_cases hw : 0 < wd
        · go_wp2_with (at_builtin; refine app_new wr rfl (.tmp 44) (.tmp 45) rfl w1.heap.size u8 out rfl HOW.out 1 [61] #[.int .u8 61] rfl rfl rfl (by omega) HBW.out.size ?_)
          intro v9 x9 hO9 hB9
          have OW9 : Hid (Own x9 w1.heap.size v9 (out ++ [61])) := hO9
          have BW9 : Hid (Below w1.heap.size w1 x9) := HBW.out.trans hB9
          clear hO9 hB9
          go_wp2
          go_roundw
          case rel => exact ⟨ad, cd, n', [], out ++ [61], ln + 1, rfl, rfl, hcd, by omega, by simp, by omega, by simp; omega, HDD.out, HRD.out, HGS.out, by have := HMU.out; unfold muZ at this ⊢; simp at this ⊢; omega, OW9.out, BW9.out⟩
          case measure => (simp only [lenOf_sl, intOf_i, List.length_nil, if_true]; omega)
        · go_wp2_with (at_builtin; refine app_new wr rfl (.tmp 44) (.tmp 45) rfl w1.heap.size u8 out rfl HOW.out 1 [61] #[.int .u8 61] rfl rfl rfl (by omega) HBW.out.size ?_)
          intro v9 x9 hO9 hB9
          have OW9 : Hid (Own x9 w1.heap.size v9 (out ++ [61])) := hO9
          have BW9 : Hid (Below w1.heap.size w1 x9) := HBW.out.trans hB9
          clear hO9 hB9
          go_wp2
          go_roundw
          case rel => exact ⟨ad, cd, n', [], out ++ [61], ln + 1, rfl, rfl, hcd, by omega, by simp, by omega, by simp; omega, HDD.out, HRD.out, HGS.out, by have := HMU.out; unfold muZ at this ⊢; simp at this ⊢; omega, OW9.out, BW9.out⟩
          case measure => (simp only [lenOf_sl, intOf_i, List.length_nil, if_true]; omega)
    · have hmu1 : 1 ≤ n := by have := HMU.out; unfold muZ at this; rw [if_neg hdn] at this; omega
      obtain ⟨n', rfl⟩ : ∃ n', n = n' + 1 := ⟨n - 1, by omega⟩
      have hgf := gsF_first wd n' ln d hdn
      obtain ⟨bD, oD, rfl, hcc⟩ : ∃ bD oD, ad = some ⟨bD, oD, none⟩ ∧ ∀ i, i < d.length → w1.cell? ⟨bD, oD + i, none⟩ = some (.int .i64 (d.getD i 0)) := by
        rcases HRD.out with h | ⟨bD, oD, h, hc⟩
        · exact absurd h hdn
        · exact ⟨bD, oD, h, hc⟩
      obtain ⟨nd, hnd⟩ : ∃ nd, d.length = nd := ⟨_, rfl⟩
      have HND : Hid (d.length = nd) := hnd
      have hnd0 : 0 < nd := by rw [← hnd]; exact List.length_pos_iff.2 hdn
      have HCEL : Hid (∀ X, Below w1.heap.size w1 X → ∀ i, i < nd → X.cell? ⟨bD, oD + i, none⟩ = some (.int .i64 (d.getD i 0))) := by
        intro X hX i hi
        have h := hcc i (by rw [hnd]; exact hi)
        rw [hX.cell (World.block_lt_of_cell? w1 _ h)]; exact h
      have HDN : Hid (d ≠ []) := hdn
      rw [hnd] at hcd hdl8 ⊢
      have hdp : decide ((nd : Int) > 0) = true := decide_eq_true (by omega)
      have hn0 : ((nd : Int) == 0) = false := by rw [beq_eq_false_iff_ne]; omega
      clear hdn hcc hnd
      by_cases hw : 0 < wd ∧ ln = wd
      · obtain ⟨hw1, rfl⟩ := hw
        have HGS : Hid (T = out ++ [13, 10] ++ [sgn (pvZ d 6).toNat] ++ gsF ln n' (0 + 1) (d.drop 6)) := by
          unfold Hid; rw [HGS0.out, hgf, show brk ln ln = [13, 10] from by unfold brk; rw [if_pos ⟨hw1, rfl⟩], show lnb ln ln = 0 from by unfold lnb; rw [if_pos ⟨hw1, rfl⟩]]; simp
        clear hgf
        go_wp2_with (at_builtin; refine app_new wr rfl (.tmp 38) (.tmp 39) rfl w1.heap.size u8 out rfl HOW.out 2 [13, 10] #[.int .u8 13, .int .u8 10] rfl rfl rfl (by omega) HBW.out.size ?_)
        intro v5 x5 hO5 hB5
        have OW5 : Hid (Own x5 w1.heap.size v5 (out ++ [13, 10])) := hO5
        have BW5 : Hid (Below w1.heap.size w1 x5) := HBW.out.trans hB5
        clear hO5 hB5
        go_wp2_with fail
        go_loopw [10, 11] (fun vv vi wi => ∃ i : Nat, i ≤ 6 ∧ vi = .int .i64 i ∧ vv = .int .i64 (pvZ d i) ∧ x5 = wi) (fun _ vi _ => 6 - (intOf vi).toNat)
        case atStart => exact ⟨0, by omega, rfl, rfl, rfl⟩
        case round =>
          obtain ⟨i, hi6, rfl, rfl, rfl⟩ := hrel
          have hpv := pv_range HDD.out i
          by_cases hi : i < 6
          · have hdi : decide ((i : Int) < 6) = true := decide_eq_true (by omega)
            have hpb : pvZ d i < 64 := by have h1 := hpv.2; rcases (show i = 0 ∨ i = 1 ∨ i = 2 ∨ i = 3 ∨ i = 4 ∨ i = 5 from by omega) with rfl | rfl | rfl | rfl | rfl | rfl <;> simp at h1 <;> omega
            by_cases hin : i < nd
            · have hdn : decide ((i : Int) < (nd : Int)) = true := decide_eq_true (by omega)
              have hcl := HCEL.out x5 BW5.out i hin
              have hadi : (⟨bD, oD, none⟩ : Addr).add i = ⟨bD, oD + i, none⟩ := add_plain _ _ _
              have hg := dig_getD HDD.out i
              have HPV : Hid (pvZ d (i + 1) = 2 * pvZ d i + d.getD i 0) := rfl
              have hgb : 0 ≤ d.getD i 0 ∧ d.getD i 0 ≤ 1 := by omega
              obtain ⟨dg, hdg⟩ : ∃ dg, d.getD i 0 = dg := ⟨_, rfl⟩
              rw [hdg] at hcl HPV hgb
              clear hg hdg
              go_wp2
              go_roundw
              case rel => exact ⟨i + 1, by omega, by rw [show ((i + 1 : Nat) : Int) = (i : Int) + 1 from by omega], by rw [HPV.out], trivial⟩
              case measure => (simp [intOf]; omega)
            · have hdn : decide ((i : Int) < (nd : Int)) = false := decide_eq_false (by omega)
              have HPV : Hid (pvZ d (i + 1) = 2 * pvZ d i) := by unfold Hid; show 2 * pvZ d i + d.getD i 0 = _; rw [List.getD_eq_getElem?_getD, List.getElem?_eq_none (by rw [HND.out]; omega)]; simp
              go_wp2
              go_roundw
              case rel => exact ⟨i + 1, by omega, by rw [show ((i + 1 : Nat) : Int) = (i : Int) + 1 from by omega], by rw [HPV.out], trivial⟩
              case measure => (simp [intOf]; omega)
          · have hdi : decide ((i : Int) < 6) = false := decide_eq_false (by omega)
            obtain rfl : i = 6 := by omega
            have hp6 : 0 ≤ pvZ d 6 ∧ pvZ d 6 < 64 := by have := hpv; simp at this; omega
            clear hpv
            by_cases hbig : 6 < nd
            · have hd6 : decide ((nd : Int) > 6) = true := decide_eq_true (by omega)
              have hcd6 : ¬ cd = 6 := by omega
              have hadd6 : (⟨bD, oD, none⟩ : Addr).add 6 = ⟨bD, oD + 6, none⟩ := add_plain _ _ _
              go_wp2_with fail
              refine (rsign_any (pvZ d 6) _ (by omega) (by omega)).mono ?_
              rw [show sgnZ (pvZ d 6) = sgn (pvZ d 6).toNat from by unfold sgnZ; rw [if_pos (by omega)]]
              rintro e wz ⟨rfl, rfl⟩
              go_wp2_with (at_builtin; refine app_new x5 rfl (.tmp 75) (.tmp 77) rfl w1.heap.size v5 (out ++ [13, 10]) rfl OW5.out 1 [sgn (pvZ d 6).toNat] #[.int .u8 (sgn (pvZ d 6).toNat)] rfl rfl rfl (by first | omega | (simp; omega)) BW5.out.size ?_)
              intro v9 x9 hO9 hB9
              have OW9 : Hid (Own x9 w1.heap.size v9 ((out ++ [13, 10]) ++ [sgn (pvZ d 6).toNat])) := by unfold Hid; simpa using hO9
              have BW9 : Hid (Below w1.heap.size w1 x9) := Below.trans BW5.out hB9
              clear hO9 hB9
              go_wp2
              go_roundw
              case rel => exact ⟨some ⟨bD, oD + 6, none⟩, cd - 6, n', d.drop 6, (out ++ [13, 10]) ++ [sgn (pvZ d 6).toNat], (0) + 1, by simp [HND.out], rfl, by rw [List.length_drop, HND.out]; omega, by omega, by rw [List.length_drop, HND.out]; omega, by omega, by first | omega | (simp; omega) | simp, fun x hx => HDD.out x (List.mem_of_mem_drop hx), rowK_drop 6 HRD.out, by exact HGS.out, by have := HMU.out; unfold muZ at this ⊢; rw [if_neg HDN.out] at this; rw [if_neg (by intro h; have := congrArg List.length h; simp [HND.out] at this; omega)]; simp [HND.out] at this ⊢ <;> omega, OW9.out, BW9.out⟩
              case measure => (have z1 : ¬ nd = 0 := (by omega); have z2 : ¬ nd - 6 = 0 := (by omega); simp only [lenOf_sl, intOf_i, z1, z2, if_false]; omega)
            · have hd6 : decide ((nd : Int) > 6) = false := decide_eq_false (by omega)
              go_wp2_with fail
              refine (rsign_any (pvZ d 6) _ (by omega) (by omega)).mono ?_
              rw [show sgnZ (pvZ d 6) = sgn (pvZ d 6).toNat from by unfold sgnZ; rw [if_pos (by omega)]]
              rintro e wz ⟨rfl, rfl⟩
              go_wp2_with (at_builtin; refine app_new x5 rfl (.tmp 75) (.tmp 77) rfl w1.heap.size v5 (out ++ [13, 10]) rfl OW5.out 1 [sgn (pvZ d 6).toNat] #[.int .u8 (sgn (pvZ d 6).toNat)] rfl rfl rfl (by first | omega | (simp; omega)) BW5.out.size ?_)
              intro v9 x9 hO9 hB9
              have OW9 : Hid (Own x9 w1.heap.size v9 ((out ++ [13, 10]) ++ [sgn (pvZ d 6).toNat])) := by unfold Hid; simpa using hO9
              have BW9 : Hid (Below w1.heap.size w1 x9) := Below.trans BW5.out hB9
              clear hO9 hB9
              go_wp2
              go_roundw
              case rel => exact ⟨none, 0, n', [], (out ++ [13, 10]) ++ [sgn (pvZ d 6).toNat], (0) + 1, rfl, rfl, by simp, by omega, by simp, by omega, by first | omega | (simp; omega) | simp, fun x hx => by simp at hx, .inl rfl, by have h := HGS.out; rw [List.drop_of_length_le (by rw [HND.out]; omega)] at h; exact h, by have := HMU.out; unfold muZ at this ⊢; rw [if_neg HDN.out] at this; simp [HND.out] at this ⊢ <;> omega, OW9.out, BW9.out⟩
              case measure => (have z1 : ¬ nd = 0 := (by omega); simp only [lenOf_sl, intOf_i, z1, if_false, if_true]; omega)
      · have hbr : brk wd ln = [] := by unfold brk; rw [if_neg hw]
        have hlb : lnb wd ln = ln := by unfold lnb; rw [if_neg hw]
        have HGS : Hid (T = out ++ [sgn (pvZ d 6).toNat] ++ gsF wd n' (ln + 1) (d.drop 6)) := by
          unfold Hid; rw [HGS0.out, hgf, hbr, hlb]; simp
        clear hgf hbr hlb
        by_cases hw0 : 0 < wd
        · have hnb : (ln == wd) = false := by rw [beq_eq_false_iff_ne]; exact fun e => hw ⟨hw0, e⟩
          clear hw
          go_wp2_with fail
          go_loopw [10, 11] (fun vv vi wi => ∃ i : Nat, i ≤ 6 ∧ vi = .int .i64 i ∧ vv = .int .i64 (pvZ d i) ∧ wr = wi) (fun _ vi _ => 6 - (intOf vi).toNat)
          case atStart => exact ⟨0, by omega, rfl, rfl, rfl⟩
          case round =>
            obtain ⟨i, hi6, rfl, rfl, rfl⟩ := hrel
            have hpv := pv_range HDD.out i
            by_cases hi : i < 6
            · have hdi : decide ((i : Int) < 6) = true := decide_eq_true (by omega)
              have hpb : pvZ d i < 64 := by have h1 := hpv.2; rcases (show i = 0 ∨ i = 1 ∨ i = 2 ∨ i = 3 ∨ i = 4 ∨ i = 5 from by omega) with rfl | rfl | rfl | rfl | rfl | rfl <;> simp at h1 <;> omega
              by_cases hin : i < nd
              · have hdn : decide ((i : Int) < (nd : Int)) = true := decide_eq_true (by omega)
                have hcl := HCEL.out wr HBW.out i hin
                have hadi : (⟨bD, oD, none⟩ : Addr).add i = ⟨bD, oD + i, none⟩ := add_plain _ _ _
                have hg := dig_getD HDD.out i
                have HPV : Hid (pvZ d (i + 1) = 2 * pvZ d i + d.getD i 0) := rfl
                have hgb : 0 ≤ d.getD i 0 ∧ d.getD i 0 ≤ 1 := by omega
                obtain ⟨dg, hdg⟩ : ∃ dg, d.getD i 0 = dg := ⟨_, rfl⟩
                rw [hdg] at hcl HPV hgb
                clear hg hdg
                go_wp2
                go_roundw
                case rel => exact ⟨i + 1, by omega, by rw [show ((i + 1 : Nat) : Int) = (i : Int) + 1 from by omega], by rw [HPV.out], trivial⟩
                case measure => (simp [intOf]; omega)
              · have hdn : decide ((i : Int) < (nd : Int)) = false := decide_eq_false (by omega)
                have HPV : Hid (pvZ d (i + 1) = 2 * pvZ d i) := by unfold Hid; show 2 * pvZ d i + d.getD i 0 = _; rw [List.getD_eq_getElem?_getD, List.getElem?_eq_none (by rw [HND.out]; omega)]; simp
                go_wp2
                go_roundw
                case rel => exact ⟨i + 1, by omega, by rw [show ((i + 1 : Nat) : Int) = (i : Int) + 1 from by omega], by rw [HPV.out], trivial⟩
                case measure => (simp [intOf]; omega)
            · have hdi : decide ((i : Int) < 6) = false := decide_eq_false (by omega)
              obtain rfl : i = 6 := by omega
              have hp6 : 0 ≤ pvZ d 6 ∧ pvZ d 6 < 64 := by have := hpv; simp at this; omega
              clear hpv
              by_cases hbig : 6 < nd
              · have hd6 : decide ((nd : Int) > 6) = true := decide_eq_true (by omega)
                have hcd6 : ¬ cd = 6 := by omega
                have hadd6 : (⟨bD, oD, none⟩ : Addr).add 6 = ⟨bD, oD + 6, none⟩ := add_plain _ _ _
                go_wp2_with fail
                refine (rsign_any (pvZ d 6) _ (by omega) (by omega)).mono ?_
                rw [show sgnZ (pvZ d 6) = sgn (pvZ d 6).toNat from by unfold sgnZ; rw [if_pos (by omega)]]
                rintro e wz ⟨rfl, rfl⟩
                go_wp2_with (at_builtin; refine app_new wr rfl (.tmp 75) (.tmp 77) rfl w1.heap.size u8 (out) rfl HOW.out 1 [sgn (pvZ d 6).toNat] #[.int .u8 (sgn (pvZ d 6).toNat)] rfl rfl rfl (by first | omega | (simp; omega)) HBW.out.size ?_)
                intro v9 x9 hO9 hB9
                have OW9 : Hid (Own x9 w1.heap.size v9 ((out) ++ [sgn (pvZ d 6).toNat])) := by unfold Hid; simpa using hO9
                have BW9 : Hid (Below w1.heap.size w1 x9) := Below.trans HBW.out hB9
                clear hO9 hB9
                go_wp2
                go_roundw
                case rel => exact ⟨some ⟨bD, oD + 6, none⟩, cd - 6, n', d.drop 6, (out) ++ [sgn (pvZ d 6).toNat], (ln) + 1, by simp [HND.out], rfl, by rw [List.length_drop, HND.out]; omega, by omega, by rw [List.length_drop, HND.out]; omega, by omega, by first | omega | (simp; omega) | simp, fun x hx => HDD.out x (List.mem_of_mem_drop hx), rowK_drop 6 HRD.out, by exact HGS.out, by have := HMU.out; unfold muZ at this ⊢; rw [if_neg HDN.out] at this; rw [if_neg (by intro h; have := congrArg List.length h; simp [HND.out] at this; omega)]; simp [HND.out] at this ⊢ <;> omega, OW9.out, BW9.out⟩
                case measure => (have z1 : ¬ nd = 0 := (by omega); have z2 : ¬ nd - 6 = 0 := (by omega); simp only [lenOf_sl, intOf_i, z1, z2, if_false]; omega)
              · have hd6 : decide ((nd : Int) > 6) = false := decide_eq_false (by omega)
                go_wp2_with fail
                refine (rsign_any (pvZ d 6) _ (by omega) (by omega)).mono ?_
                rw [show sgnZ (pvZ d 6) = sgn (pvZ d 6).toNat from by unfold sgnZ; rw [if_pos (by omega)]]
                rintro e wz ⟨rfl, rfl⟩
                go_wp2_with (at_builtin; refine app_new wr rfl (.tmp 75) (.tmp 77) rfl w1.heap.size u8 (out) rfl HOW.out 1 [sgn (pvZ d 6).toNat] #[.int .u8 (sgn (pvZ d 6).toNat)] rfl rfl rfl (by first | omega | (simp; omega)) HBW.out.size ?_)
                intro v9 x9 hO9 hB9
                have OW9 : Hid (Own x9 w1.heap.size v9 ((out) ++ [sgn (pvZ d 6).toNat])) := by unfold Hid; simpa using hO9
                have BW9 : Hid (Below w1.heap.size w1 x9) := Below.trans HBW.out hB9
                clear hO9 hB9
                go_wp2
                go_roundw
                case rel => exact ⟨none, 0, n', [], (out) ++ [sgn (pvZ d 6).toNat], (ln) + 1, rfl, rfl, by simp, by omega, by simp, by omega, by first | omega | (simp; omega) | simp, fun x hx => by simp at hx, .inl rfl, by have h := HGS.out; rw [List.drop_of_length_le (by rw [HND.out]; omega)] at h; exact h, by have := HMU.out; unfold muZ at this ⊢; rw [if_neg HDN.out] at this; simp [HND.out] at this ⊢ <;> omega, OW9.out, BW9.out⟩
                case measure => (have z1 : ¬ nd = 0 := (by omega); simp only [lenOf_sl, intOf_i, z1, if_false, if_true]; omega)
        · clear hw
          go_wp2_with fail
          go_loopw [10, 11] (fun vv vi wi => ∃ i : Nat, i ≤ 6 ∧ vi = .int .i64 i ∧ vv = .int .i64 (pvZ d i) ∧ wr = wi) (fun _ vi _ => 6 - (intOf vi).toNat)
          case atStart => exact ⟨0, by omega, rfl, rfl, rfl⟩
          case round =>
            obtain ⟨i, hi6, rfl, rfl, rfl⟩ := hrel
            have hpv := pv_range HDD.out i
            by_cases hi : i < 6
            · have hdi : decide ((i : Int) < 6) = true := decide_eq_true (by omega)
              have hpb : pvZ d i < 64 := by have h1 := hpv.2; rcases (show i = 0 ∨ i = 1 ∨ i = 2 ∨ i = 3 ∨ i = 4 ∨ i = 5 from by omega) with rfl | rfl | rfl | rfl | rfl | rfl <;> simp at h1 <;> omega
              by_cases hin : i < nd
              · have hdn : decide ((i : Int) < (nd : Int)) = true := decide_eq_true (by omega)
                have hcl := HCEL.out wr HBW.out i hin
                have hadi : (⟨bD, oD, none⟩ : Addr).add i = ⟨bD, oD + i, none⟩ := add_plain _ _ _
                have hg := dig_getD HDD.out i
                have HPV : Hid (pvZ d (i + 1) = 2 * pvZ d i + d.getD i 0) := rfl
                have hgb : 0 ≤ d.getD i 0 ∧ d.getD i 0 ≤ 1 := by omega
                obtain ⟨dg, hdg⟩ : ∃ dg, d.getD i 0 = dg := ⟨_, rfl⟩
                rw [hdg] at hcl HPV hgb
                clear hg hdg
                go_wp2
                go_roundw
                case rel => exact ⟨i + 1, by omega, by rw [show ((i + 1 : Nat) : Int) = (i : Int) + 1 from by omega], by rw [HPV.out], trivial⟩
                case measure => (simp [intOf]; omega)
              · have hdn : decide ((i : Int) < (nd : Int)) = false := decide_eq_false (by omega)
                have HPV : Hid (pvZ d (i + 1) = 2 * pvZ d i) := by unfold Hid; show 2 * pvZ d i + d.getD i 0 = _; rw [List.getD_eq_getElem?_getD, List.getElem?_eq_none (by rw [HND.out]; omega)]; simp
                go_wp2
                go_roundw
                case rel => exact ⟨i + 1, by omega, by rw [show ((i + 1 : Nat) : Int) = (i : Int) + 1 from by omega], by rw [HPV.out], trivial⟩
                case measure => (simp [intOf]; omega)
            · have hdi : decide ((i : Int) < 6) = false := decide_eq_false (by omega)
              obtain rfl : i = 6 := by omega
              have hp6 : 0 ≤ pvZ d 6 ∧ pvZ d 6 < 64 := by have := hpv; simp at this; omega
              clear hpv
              by_cases hbig : 6 < nd
              · have hd6 : decide ((nd : Int) > 6) = true := decide_eq_true (by omega)
                have hcd6 : ¬ cd = 6 := by omega
                have hadd6 : (⟨bD, oD, none⟩ : Addr).add 6 = ⟨bD, oD + 6, none⟩ := add_plain _ _ _
                go_wp2_with fail
                refine (rsign_any (pvZ d 6) _ (by omega) (by omega)).mono ?_
                rw [show sgnZ (pvZ d 6) = sgn (pvZ d 6).toNat from by unfold sgnZ; rw [if_pos (by omega)]]
                rintro e wz ⟨rfl, rfl⟩
                go_wp2_with (at_builtin; refine app_new wr rfl (.tmp 75) (.tmp 77) rfl w1.heap.size u8 (out) rfl HOW.out 1 [sgn (pvZ d 6).toNat] #[.int .u8 (sgn (pvZ d 6).toNat)] rfl rfl rfl (by first | omega | (simp; omega)) HBW.out.size ?_)
                intro v9 x9 hO9 hB9
                have OW9 : Hid (Own x9 w1.heap.size v9 ((out) ++ [sgn (pvZ d 6).toNat])) := by unfold Hid; simpa using hO9
                have BW9 : Hid (Below w1.heap.size w1 x9) := Below.trans HBW.out hB9
                clear hO9 hB9
                go_wp2
                go_roundw
                case rel => exact ⟨some ⟨bD, oD + 6, none⟩, cd - 6, n', d.drop 6, (out) ++ [sgn (pvZ d 6).toNat], (ln) + 1, by simp [HND.out], rfl, by rw [List.length_drop, HND.out]; omega, by omega, by rw [List.length_drop, HND.out]; omega, by omega, by first | omega | (simp; omega) | simp, fun x hx => HDD.out x (List.mem_of_mem_drop hx), rowK_drop 6 HRD.out, by exact HGS.out, by have := HMU.out; unfold muZ at this ⊢; rw [if_neg HDN.out] at this; rw [if_neg (by intro h; have := congrArg List.length h; simp [HND.out] at this; omega)]; simp [HND.out] at this ⊢ <;> omega, OW9.out, BW9.out⟩
                case measure => (have z1 : ¬ nd = 0 := (by omega); have z2 : ¬ nd - 6 = 0 := (by omega); simp only [lenOf_sl, intOf_i, z1, z2, if_false]; omega)
              · have hd6 : decide ((nd : Int) > 6) = false := decide_eq_false (by omega)
                go_wp2_with fail
                refine (rsign_any (pvZ d 6) _ (by omega) (by omega)).mono ?_
                rw [show sgnZ (pvZ d 6) = sgn (pvZ d 6).toNat from by unfold sgnZ; rw [if_pos (by omega)]]
                rintro e wz ⟨rfl, rfl⟩
                go_wp2_with (at_builtin; refine app_new wr rfl (.tmp 75) (.tmp 77) rfl w1.heap.size u8 (out) rfl HOW.out 1 [sgn (pvZ d 6).toNat] #[.int .u8 (sgn (pvZ d 6).toNat)] rfl rfl rfl (by first | omega | (simp; omega)) HBW.out.size ?_)
                intro v9 x9 hO9 hB9
                have OW9 : Hid (Own x9 w1.heap.size v9 ((out) ++ [sgn (pvZ d 6).toNat])) := by unfold Hid; simpa using hO9
                have BW9 : Hid (Below w1.heap.size w1 x9) := Below.trans HBW.out hB9
                clear hO9 hB9
                go_wp2
                go_roundw
                case rel => exact ⟨none, 0, n', [], (out) ++ [sgn (pvZ d 6).toNat], (ln) + 1, rfl, rfl, by simp, by omega, by simp, by omega, by first | omega | (simp; omega) | simp, fun x hx => by simp at hx, .inl rfl, by have h := HGS.out; rw [List.drop_of_length_le (by rw [HND.out]; omega)] at h; exact h, by have := HMU.out; unfold muZ at this ⊢; rw [if_neg HDN.out] at this; simp [HND.out] at this ⊢ <;> omega, OW9.out, BW9.out⟩
                case measure => (have z1 : ¬ nd = 0 := (by omega); simp only [lenOf_sl, intOf_i, z1, if_false, if_true]; omega)
end Go.Proofs.YtnhbmekhmkkccaaDoor.Bt
