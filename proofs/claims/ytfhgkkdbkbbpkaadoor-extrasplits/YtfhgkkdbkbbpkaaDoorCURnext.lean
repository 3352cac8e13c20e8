/-
  The contract of the reference's Next.
-/
import Derived.Test.YtfhgkkdbkbbpkaaDoorCURput
import Derived.Test.YtfhgkkdbkbbpkaaDoorCUCand
namespace Go.Proofs.YtfhgkkdbkbbpkaaDoor.Cs.Ut
open Go.RowKit
set_option linter.unusedVariables false
theorem own_row {w : World} {B : Nat} {v : Value} {l : List Int} (h : Own w B v l) :
    ∃ a cap, v = .slice a l.length cap ∧ l.length ≤ cap ∧ cap ≤ maxLen ∧ Row w a l := by
  obtain ⟨a, cap, h1, h2, h3, h4, _⟩ := own_row' h
  exact ⟨a, cap, h1, h2, h3, h4⟩

/-- What Next tells. -/
def nxV (l : List Int) : Value :=
  match decZ l with
  | some p => .tuple #[.int .i32 p, .int .i64 (encZ p).length, .int .i64 0]
  | none => .tuple #[.int .i32 0, .int .i64 0, .int .i64 (if l = [] then 42 else 20)]
theorem nx_some {l : List Int} {p : Int} (h : decZ l = some p) : nxV l = .tuple #[.int .i32 p, .int .i64 (encZ p).length, .int .i64 0] := by simp [nxV, h]
theorem nx_none {l : List Int} (h : decZ l = none) (hl : l ≠ []) : nxV l = .tuple #[.int .i32 0, .int .i64 0, .int .i64 20] := by simp [nxV, h, hl]

theorem more_no {l : List Int} {n len : Nat} (h : ∀ m, 2 ≤ m → m < n → m ≤ len → okB l m = false) (h' : okB l n = false) : ∀ m, 2 ≤ m → m < n + 1 → m ≤ len → okB l m = false := by
  intro m h1 h2 h3
  rcases (show m < n ∨ m = n from by omega) with h4 | rfl
  · exact h m h1 h4 h3
  · exact h'
set_option maxRecDepth 100000 in
theorem rnext_nil (a : Option Addr) (cap : Nat) (w : World) :
    Calls Tryd.prog 67 #[.slice a 0 cap] w fun e w' => e = .returned (.tuple #[.int .i32 0, .int .i64 0, .int .i64 42]) ∧ w = w' := by
  go_enter Tryd.func67, Tryd.ntmps67
  go_wp2
  go_ret3
  exact ⟨rfl, rfl⟩

set_option maxRecDepth 100000 in
theorem rnext_one (b off len cap : Nat) (c : Int) (w : World) (hc0 : 0 ≤ c) (hc1 : c < 128) (hlen : 1 ≤ len) (c0 : w.cell? ⟨b, off, none⟩ = some (.int .u8 c)) :
    Calls Tryd.prog 67 #[.slice (some ⟨b, off, none⟩) len cap] w fun e w' => e = .returned (.tuple #[.int .i32 c, .int .i64 1, .int .i64 0]) ∧ w = w' := by
  go_enter Tryd.func67, Tryd.ntmps67
  go_wp2
  go_ret3
  exact ⟨rfl, rfl⟩

set_option maxRecDepth 100000 in
set_option maxHeartbeats 4000000 in
theorem rnext_more (b off len cap : Nat) (l : List Int) (w : World) (hl : l.length = len) (hlen : 1 ≤ len) (hcap : len ≤ cap) (hm : cap ≤ maxLen) (hb : Byt l) (hc : ∀ i, i < l.length → w.cell? ⟨b, off + i, none⟩ = some (.int .u8 (l.getD i 0))) (h128 : 128 ≤ l.getD 0 0) :
    Calls Tryd.prog 67 #[.slice (some ⟨b, off, none⟩) len cap] w fun e w' => e = .returned (nxV l) ∧ Below w.heap.size w w' := by
  unfold maxLen at hm
  have HL : Hid (l.length = len) := hl
  have HB : Hid (Byt l) := hb
  have hcb : ∀ i, 0 ≤ l.getD i 0 ∧ l.getD i 0 < 256 := by
    intro i
    rcases Nat.lt_or_ge i l.length with h | h
    · rw [List.getD_eq_getElem?_getD, List.getElem?_eq_getElem h]; exact hb _ (List.getElem_mem h)
    · rw [List.getD_eq_getElem?_getD, List.getElem?_eq_none h]; simp
  have HC : Hid (∀ i, i < l.length → w.cell? ⟨b, off + i, none⟩ = some (.int .u8 (l.getD i 0))) := hc
  have HCB : Hid (∀ i, 0 ≤ l.getD i 0 ∧ l.getD i 0 < 256) := hcb
  obtain ⟨c, hcd⟩ : ∃ c, c = l.getD 0 0 := ⟨_, rfl⟩
  have c0 : w.cell? ⟨b, off, none⟩ = some (.int .u8 c) := by have := hc 0 (by omega); rw [hcd]; exact this
  have hc0 : 128 ≤ c := by rw [hcd]; exact h128
  have hc1 : c < 256 := by rw [hcd]; exact (hcb 0).2
  have H0 : Hid (c = l.getD 0 0) := hcd
  have H128 : Hid (128 ≤ l.getD 0 0) := h128
  clear hl hb hc hcb hcd h128
  have hl0 : ((len : Int) == 0) = false := by rw [beq_eq_false_iff_ne]; omega
  go_enter Tryd.func67, Tryd.ntmps67
  go_wp2
  go_loopw [5] (fun v wr => ∃ n : Nat, v = .int .i64 n ∧ 2 ≤ n ∧ n ≤ 5 ∧ (∀ m, 2 ≤ m → m < n → m ≤ len → okB l m = false) ∧ Below w.heap.size w wr) (fun v _ => 5 - (intOf v).toNat)
  case atStart => exact ⟨2, rfl, by omega, by omega, fun m h1 h2 _ => by omega, Below.refl _ _⟩
  case round =>
    obtain ⟨n, rfl, hn2, hn5, hno, hbel⟩ := hrel
    have HNO : Hid (∀ m, 2 ≤ m → m < n → m ≤ len → okB l m = false) := hno
    have HW : Hid (Below w.heap.size w wr) := hbel
    have c0r : wr.cell? ⟨b, off, none⟩ = some (.int .u8 c) := by rw [hbel.cell (World.block_lt_of_cell? w _ c0)]; exact c0
    clear hno hbel
    by_cases hgo : n ≤ 4 ∧ n ≤ len
    · obtain ⟨hn4, hnl⟩ := hgo
      rcases (show n = 2 ∨ n = 3 ∨ n = 4 from by omega) with rfl | rfl | rfl
      · obtain ⟨d, hd⟩ : ∃ d, d = l.getD 1 0 := ⟨_, rfl⟩
        have c1 : wr.cell? ⟨b, off + 1, none⟩ = some (.int .u8 d) := by rw [HW.out.cell (World.block_lt_of_cell? w _ (HC.out 1 (by have := HL.out; omega))), HC.out 1 (by have := HL.out; omega), hd]
        have bd : 0 ≤ d ∧ d < 256 := by rw [hd]; exact HCB.out 1
        have H1 : Hid (d = l.getD 1 0) := hd
        clear hd
        have HV : Hid (candZ l 2 = 64 * (c % 32) + d % 64) := by unfold Hid candZ; rw [← H0.out, ← H1.out]; simp
        have HT : Hid ((l.take 2).length = 2) := by unfold Hid; rw [List.length_take]; have := HL.out; omega
        have hrow : Row wr (some ⟨b, off, none⟩) (l.take 2) := row_take 2 (row_below (.inr ⟨b, off, rfl, HC.out⟩) HW.out)
        have HR : Hid (Row wr (some ⟨b, off, none⟩) (l.take 2)) := hrow
        clear hrow
        by_cases hp : ptB (64 * (c % 32) + d % 64) = true
        · have HP : Hid (ptB (64 * (c % 32) + d % 64) = true) := hp
          clear hp
          go_wp2
          refine wp_loop_rounds 2 ?_; rw [rounds_succ]
          go_wp2
          rw [rounds_succ]
          go_wp2_with fail
          refine (rput_yes (64 * (c % 32) + d % 64) wr HP.out).mono ?_
          rintro e w1 ⟨v1, rfl, hown, hb1⟩
          obtain ⟨a1, cap1, rfl, hcap1, hm1, hrow1⟩ := own_row hown
          have HX1 : Hid (Below w.heap.size w w1) := HW.out.trans (hb1.mono HW.out.size)
          have k1 : ∀ j, (convert 31 9 (.slice a1 (encZ (64 * (c % 32) + d % 64)).length cap1)).run Tryd.prog (w1.drewN j) = .ok (.string (strOfNums (encZ (64 * (c % 32) + d % 64)))) (w1.drewN j) := fun j => conv_row _ _ rfl (row_drewN hrow1 j)
          have k2 : ∀ j, (convert 31 9 (.slice (some ⟨b, off, none⟩) 2 cap)).run Tryd.prog (w1.drewN j) = .ok (.string (strOfNums (l.take 2))) (w1.drewN j) := fun j => conv_row _ _ HT.out (row_drewN (row_below HR.out hb1) j)
          clear hown hrow1 hb1
          have hnc : (2 : Int) ≤ (cap : Int) := by omega
          by_cases he : encZ (64 * (c % 32) + d % 64) = l.take 2
          · have k3 : ((strOfNums (encZ (64 * (c % 32) + d % 64))).toList == (strOfNums (l.take 2)).toList) = true := by rw [he]; simp
            have HD : Hid (nxV l = .tuple #[.int .i32 (64 * (c % 32) + d % 64), .int .i64 2, .int .i64 0]) := by
              have ho : okB l 2 = true := by simp only [okB, HV.out, HP.out, he, Bool.true_and, decide_true]
              have hd := ok_dec (by have := HL.out; omega) ho
              unfold Hid; rw [nx_some hd.1, hd.2, HV.out]; rfl
            clear he
            go_wp2_with fail
            go_quiet (fail)
            go_wp2
            go_ret3
            exact ⟨by rw [HD.out]; rfl, below_drewN HX1.out _⟩
          · have k3 : ((strOfNums (encZ (64 * (c % 32) + d % 64))).toList == (strOfNums (l.take 2)).toList) = false := by
              rw [toList_str, toList_str, beq_eq_false_iff_ne]
              exact fun h => he (bytes_inj (enc_byte _ HP.out) (HB.out.take _) h)
            have HF : Hid (okB l 2 = false) := by unfold Hid okB; rw [HV.out, HP.out, decide_eq_false he]; rfl
            clear he
            go_wp2_with fail
            go_quiet (fail)
            have HX : Hid (Below w.heap.size w (w1.drewN nq)) := below_drewN HX1.out _
            clear k1 k2 k3
            go_wp2
            go_roundw
            case rel => first | exact ⟨2 + 1, by go_num, by omega, by omega, more_no HNO.out HF.out, HX.out⟩ | ((repeat apply Exists.intro); refine ⟨?_, rfl⟩; exact ⟨2 + 1, by go_num, by omega, by omega, more_no HNO.out HF.out, HX.out⟩)
            case measure => simp [intOf]
        · have HP : Hid (ptB (64 * (c % 32) + d % 64) = false) := by simpa [Hid] using hp
          have HF : Hid (okB l 2 = false) := by unfold Hid okB; rw [HV.out, HP.out]; rfl
          clear hp
          go_wp2
          refine wp_loop_rounds 2 ?_; rw [rounds_succ]
          go_wp2
          rw [rounds_succ]
          go_wp2_with fail
          refine (rput_no (64 * (c % 32) + d % 64) wr HP.out).mono ?_
          rintro e w1 ⟨rfl, rfl⟩
          go_wp2_with fail
          go_quiet (fail)
          have HX : Hid (Below w.heap.size w (wr.drewN nq)) := below_drewN HW.out _
          go_wp2
          go_roundw
          case rel => first | exact ⟨2 + 1, by go_num, by omega, by omega, more_no HNO.out HF.out, HX.out⟩ | ((repeat apply Exists.intro); refine ⟨?_, rfl⟩; exact ⟨2 + 1, by go_num, by omega, by omega, more_no HNO.out HF.out, HX.out⟩)
          case measure => simp [intOf]
      · obtain ⟨d, hd⟩ : ∃ d, d = l.getD 1 0 := ⟨_, rfl⟩
        have c1 : wr.cell? ⟨b, off + 1, none⟩ = some (.int .u8 d) := by rw [HW.out.cell (World.block_lt_of_cell? w _ (HC.out 1 (by have := HL.out; omega))), HC.out 1 (by have := HL.out; omega), hd]
        have bd : 0 ≤ d ∧ d < 256 := by rw [hd]; exact HCB.out 1
        have H1 : Hid (d = l.getD 1 0) := hd
        clear hd
        obtain ⟨g, hg⟩ : ∃ g, g = l.getD 2 0 := ⟨_, rfl⟩
        have c2 : wr.cell? ⟨b, off + 2, none⟩ = some (.int .u8 g) := by rw [HW.out.cell (World.block_lt_of_cell? w _ (HC.out 2 (by have := HL.out; omega))), HC.out 2 (by have := HL.out; omega), hg]
        have bg : 0 ≤ g ∧ g < 256 := by rw [hg]; exact HCB.out 2
        have H2 : Hid (g = l.getD 2 0) := hg
        clear hg
        have HV : Hid (candZ l 3 = 64 * (64 * (c % 16) + d % 64) + g % 64) := by unfold Hid candZ; rw [← H0.out, ← H1.out, ← H2.out]; simp
        have HT : Hid ((l.take 3).length = 3) := by unfold Hid; rw [List.length_take]; have := HL.out; omega
        have hrow : Row wr (some ⟨b, off, none⟩) (l.take 3) := row_take 3 (row_below (.inr ⟨b, off, rfl, HC.out⟩) HW.out)
        have HR : Hid (Row wr (some ⟨b, off, none⟩) (l.take 3)) := hrow
        clear hrow
        by_cases hp : ptB (64 * (64 * (c % 16) + d % 64) + g % 64) = true
        · have HP : Hid (ptB (64 * (64 * (c % 16) + d % 64) + g % 64) = true) := hp
          clear hp
          go_wp2
          refine wp_loop_rounds 3 ?_; rw [rounds_succ]
          go_wp2
          rw [rounds_succ]
          go_wp2
          rw [rounds_succ]
          go_wp2_with fail
          refine (rput_yes (64 * (64 * (c % 16) + d % 64) + g % 64) wr HP.out).mono ?_
          rintro e w1 ⟨v1, rfl, hown, hb1⟩
          obtain ⟨a1, cap1, rfl, hcap1, hm1, hrow1⟩ := own_row hown
          have HX1 : Hid (Below w.heap.size w w1) := HW.out.trans (hb1.mono HW.out.size)
          have k1 : ∀ j, (convert 31 9 (.slice a1 (encZ (64 * (64 * (c % 16) + d % 64) + g % 64)).length cap1)).run Tryd.prog (w1.drewN j) = .ok (.string (strOfNums (encZ (64 * (64 * (c % 16) + d % 64) + g % 64)))) (w1.drewN j) := fun j => conv_row _ _ rfl (row_drewN hrow1 j)
          have k2 : ∀ j, (convert 31 9 (.slice (some ⟨b, off, none⟩) 3 cap)).run Tryd.prog (w1.drewN j) = .ok (.string (strOfNums (l.take 3))) (w1.drewN j) := fun j => conv_row _ _ HT.out (row_drewN (row_below HR.out hb1) j)
          clear hown hrow1 hb1
          have hnc : (3 : Int) ≤ (cap : Int) := by omega
          by_cases he : encZ (64 * (64 * (c % 16) + d % 64) + g % 64) = l.take 3
          · have k3 : ((strOfNums (encZ (64 * (64 * (c % 16) + d % 64) + g % 64))).toList == (strOfNums (l.take 3)).toList) = true := by rw [he]; simp
            have HD : Hid (nxV l = .tuple #[.int .i32 (64 * (64 * (c % 16) + d % 64) + g % 64), .int .i64 3, .int .i64 0]) := by
              have ho : okB l 3 = true := by simp only [okB, HV.out, HP.out, he, Bool.true_and, decide_true]
              have hd := ok_dec (by have := HL.out; omega) ho
              unfold Hid; rw [nx_some hd.1, hd.2, HV.out]; rfl
            clear he
            go_wp2_with fail
            go_quiet (fail)
            go_wp2
            go_ret3
            exact ⟨by rw [HD.out]; rfl, below_drewN HX1.out _⟩
          · have k3 : ((strOfNums (encZ (64 * (64 * (c % 16) + d % 64) + g % 64))).toList == (strOfNums (l.take 3)).toList) = false := by
              rw [toList_str, toList_str, beq_eq_false_iff_ne]
              exact fun h => he (bytes_inj (enc_byte _ HP.out) (HB.out.take _) h)
            have HF : Hid (okB l 3 = false) := by unfold Hid okB; rw [HV.out, HP.out, decide_eq_false he]; rfl
            clear he
            go_wp2_with fail
            go_quiet (fail)
            have HX : Hid (Below w.heap.size w (w1.drewN nq)) := below_drewN HX1.out _
            clear k1 k2 k3
            go_wp2
            go_roundw
            case rel => first | exact ⟨3 + 1, by go_num, by omega, by omega, more_no HNO.out HF.out, HX.out⟩ | ((repeat apply Exists.intro); refine ⟨?_, rfl⟩; exact ⟨3 + 1, by go_num, by omega, by omega, more_no HNO.out HF.out, HX.out⟩)
            case measure => simp [intOf]
        · have HP : Hid (ptB (64 * (64 * (c % 16) + d % 64) + g % 64) = false) := by simpa [Hid] using hp
          have HF : Hid (okB l 3 = false) := by unfold Hid okB; rw [HV.out, HP.out]; rfl
          clear hp
          go_wp2
          refine wp_loop_rounds 3 ?_; rw [rounds_succ]
          go_wp2
          rw [rounds_succ]
          go_wp2
          rw [rounds_succ]
          go_wp2_with fail
          refine (rput_no (64 * (64 * (c % 16) + d % 64) + g % 64) wr HP.out).mono ?_
          rintro e w1 ⟨rfl, rfl⟩
          go_wp2_with fail
          go_quiet (fail)
          have HX : Hid (Below w.heap.size w (wr.drewN nq)) := below_drewN HW.out _
          go_wp2
          go_roundw
          case rel => first | exact ⟨3 + 1, by go_num, by omega, by omega, more_no HNO.out HF.out, HX.out⟩ | ((repeat apply Exists.intro); refine ⟨?_, rfl⟩; exact ⟨3 + 1, by go_num, by omega, by omega, more_no HNO.out HF.out, HX.out⟩)
          case measure => simp [intOf]
      · obtain ⟨d, hd⟩ : ∃ d, d = l.getD 1 0 := ⟨_, rfl⟩
        have c1 : wr.cell? ⟨b, off + 1, none⟩ = some (.int .u8 d) := by rw [HW.out.cell (World.block_lt_of_cell? w _ (HC.out 1 (by have := HL.out; omega))), HC.out 1 (by have := HL.out; omega), hd]
        have bd : 0 ≤ d ∧ d < 256 := by rw [hd]; exact HCB.out 1
        have H1 : Hid (d = l.getD 1 0) := hd
        clear hd
        obtain ⟨g, hg⟩ : ∃ g, g = l.getD 2 0 := ⟨_, rfl⟩
        have c2 : wr.cell? ⟨b, off + 2, none⟩ = some (.int .u8 g) := by rw [HW.out.cell (World.block_lt_of_cell? w _ (HC.out 2 (by have := HL.out; omega))), HC.out 2 (by have := HL.out; omega), hg]
        have bg : 0 ≤ g ∧ g < 256 := by rw [hg]; exact HCB.out 2
        have H2 : Hid (g = l.getD 2 0) := hg
        clear hg
        obtain ⟨k, hk⟩ : ∃ k, k = l.getD 3 0 := ⟨_, rfl⟩
        have c3 : wr.cell? ⟨b, off + 3, none⟩ = some (.int .u8 k) := by rw [HW.out.cell (World.block_lt_of_cell? w _ (HC.out 3 (by have := HL.out; omega))), HC.out 3 (by have := HL.out; omega), hk]
        have bk : 0 ≤ k ∧ k < 256 := by rw [hk]; exact HCB.out 3
        have H3 : Hid (k = l.getD 3 0) := hk
        clear hk
        have HV : Hid (candZ l 4 = 64 * (64 * (64 * (c % 8) + d % 64) + g % 64) + k % 64) := by unfold Hid candZ; rw [← H0.out, ← H1.out, ← H2.out, ← H3.out]; simp
        have HT : Hid ((l.take 4).length = 4) := by unfold Hid; rw [List.length_take]; have := HL.out; omega
        have hrow : Row wr (some ⟨b, off, none⟩) (l.take 4) := row_take 4 (row_below (.inr ⟨b, off, rfl, HC.out⟩) HW.out)
        have HR : Hid (Row wr (some ⟨b, off, none⟩) (l.take 4)) := hrow
        clear hrow
        by_cases hp : ptB (64 * (64 * (64 * (c % 8) + d % 64) + g % 64) + k % 64) = true
        · have HP : Hid (ptB (64 * (64 * (64 * (c % 8) + d % 64) + g % 64) + k % 64) = true) := hp
          clear hp
          go_wp2
          refine wp_loop_rounds 4 ?_; rw [rounds_succ]
          go_wp2
          rw [rounds_succ]
          go_wp2
          rw [rounds_succ]
          go_wp2
          rw [rounds_succ]
          go_wp2_with fail
          refine (rput_yes (64 * (64 * (64 * (c % 8) + d % 64) + g % 64) + k % 64) wr HP.out).mono ?_
          rintro e w1 ⟨v1, rfl, hown, hb1⟩
          obtain ⟨a1, cap1, rfl, hcap1, hm1, hrow1⟩ := own_row hown
          have HX1 : Hid (Below w.heap.size w w1) := HW.out.trans (hb1.mono HW.out.size)
          have k1 : ∀ j, (convert 31 9 (.slice a1 (encZ (64 * (64 * (64 * (c % 8) + d % 64) + g % 64) + k % 64)).length cap1)).run Tryd.prog (w1.drewN j) = .ok (.string (strOfNums (encZ (64 * (64 * (64 * (c % 8) + d % 64) + g % 64) + k % 64)))) (w1.drewN j) := fun j => conv_row _ _ rfl (row_drewN hrow1 j)
          have k2 : ∀ j, (convert 31 9 (.slice (some ⟨b, off, none⟩) 4 cap)).run Tryd.prog (w1.drewN j) = .ok (.string (strOfNums (l.take 4))) (w1.drewN j) := fun j => conv_row _ _ HT.out (row_drewN (row_below HR.out hb1) j)
          clear hown hrow1 hb1
          have hnc : (4 : Int) ≤ (cap : Int) := by omega
          by_cases he : encZ (64 * (64 * (64 * (c % 8) + d % 64) + g % 64) + k % 64) = l.take 4
          · have k3 : ((strOfNums (encZ (64 * (64 * (64 * (c % 8) + d % 64) + g % 64) + k % 64))).toList == (strOfNums (l.take 4)).toList) = true := by rw [he]; simp
            have HD : Hid (nxV l = .tuple #[.int .i32 (64 * (64 * (64 * (c % 8) + d % 64) + g % 64) + k % 64), .int .i64 4, .int .i64 0]) := by
              have ho : okB l 4 = true := by simp only [okB, HV.out, HP.out, he, Bool.true_and, decide_true]
              have hd := ok_dec (by have := HL.out; omega) ho
              unfold Hid; rw [nx_some hd.1, hd.2, HV.out]; rfl
            clear he
            go_wp2_with fail
            go_quiet (fail)
            go_wp2
            go_ret3
            exact ⟨by rw [HD.out]; rfl, below_drewN HX1.out _⟩
          · have k3 : ((strOfNums (encZ (64 * (64 * (64 * (c % 8) + d % 64) + g % 64) + k % 64))).toList == (strOfNums (l.take 4)).toList) = false := by
              rw [toList_str, toList_str, beq_eq_false_iff_ne]
              exact fun h => he (bytes_inj (enc_byte _ HP.out) (HB.out.take _) h)
            have HF : Hid (okB l 4 = false) := by unfold Hid okB; rw [HV.out, HP.out, decide_eq_false he]; rfl
            clear he
            go_wp2_with fail
            go_quiet (fail)
            have HX : Hid (Below w.heap.size w (w1.drewN nq)) := below_drewN HX1.out _
            clear k1 k2 k3
            go_wp2
            go_roundw
            case rel => first | exact ⟨4 + 1, by go_num, by omega, by omega, more_no HNO.out HF.out, HX.out⟩ | ((repeat apply Exists.intro); refine ⟨?_, rfl⟩; exact ⟨4 + 1, by go_num, by omega, by omega, more_no HNO.out HF.out, HX.out⟩)
            case measure => simp [intOf]
        · have HP : Hid (ptB (64 * (64 * (64 * (c % 8) + d % 64) + g % 64) + k % 64) = false) := by simpa [Hid] using hp
          have HF : Hid (okB l 4 = false) := by unfold Hid okB; rw [HV.out, HP.out]; rfl
          clear hp
          go_wp2
          refine wp_loop_rounds 4 ?_; rw [rounds_succ]
          go_wp2
          rw [rounds_succ]
          go_wp2
          rw [rounds_succ]
          go_wp2
          rw [rounds_succ]
          go_wp2_with fail
          refine (rput_no (64 * (64 * (64 * (c % 8) + d % 64) + g % 64) + k % 64) wr HP.out).mono ?_
          rintro e w1 ⟨rfl, rfl⟩
          go_wp2_with fail
          go_quiet (fail)
          have HX : Hid (Below w.heap.size w (wr.drewN nq)) := below_drewN HW.out _
          go_wp2
          go_roundw
          case rel => first | exact ⟨4 + 1, by go_num, by omega, by omega, more_no HNO.out HF.out, HX.out⟩ | ((repeat apply Exists.intro); refine ⟨?_, rfl⟩; exact ⟨4 + 1, by go_num, by omega, by omega, more_no HNO.out HF.out, HX.out⟩)
          case measure => simp [intOf]
    · have HE : Hid (nxV l = .tuple #[.int .i32 0, .int .i64 0, .int .i64 20]) := by
        have hd : decZ l = none := by
          cases hd : decZ l with
          | none => rfl
          | some p =>
            exfalso
            obtain ⟨q1, q2, q3, q4, q5⟩ := dec_ok HB.out hd H128.out
            have hl := HL.out
            have := HNO.out _ q1 (by omega) (by omega)
            rw [q4] at this; cases this
        exact nx_none hd (by intro h; have hl := HL.out; rw [h] at hl; simp at hl; omega)
      rcases (show (n ≤ 4 ∧ len < n) ∨ 4 < n from by omega) with ⟨h1, h2⟩ | h1
      · clear hgo
        go_wp2
        go_ret3
        exact ⟨by rw [HE.out]; rfl, HW.out⟩
      · clear hgo
        go_wp2
        go_ret3
        exact ⟨by rw [HE.out]; rfl, HW.out⟩

set_option maxRecDepth 100000 in
theorem rnext_some (a : Option Addr) (len cap : Nat) (l : List Int) (p : Int) (w : World) (hlen : l.length = len) (hl : Byt l) (hcap : len ≤ cap) (hm : cap ≤ maxLen) (hr : Row w a l) (hd : decZ l = some p) :
    Calls Tryd.prog 67 #[.slice a len cap] w fun e w' => e = .returned (.tuple #[.int .i32 p, .int .i64 (encZ p).length, .int .i64 0]) ∧ Below w.heap.size w w' := by
  rcases hr with rfl | ⟨b, off, rfl, hc⟩
  · simp [decZ] at hd
  · cases l with
    | nil => simp [decZ] at hd
    | cons c r =>
      have h1 : 1 ≤ len := by simp at hlen; omega
      by_cases h : c < 128
      · have c0 := hc 0 (by simp)
        simp only [Nat.add_zero, List.getD_cons_zero] at c0
        have he : c = p := by simp [decZ, h] at hd; exact hd
        subst he
        rw [enc1 h]
        exact (rnext_one b off len cap c w hl.head.1 h h1 c0).mono fun e w' ⟨he, hw⟩ => ⟨he, hw ▸ Below.refl _ _⟩
      · exact (rnext_more b off len cap (c :: r) w hlen h1 hcap hm hl hc (by simp; omega)).mono fun e w' ⟨he, hw⟩ => ⟨by rw [he, nx_some hd], hw⟩

set_option maxRecDepth 100000 in
theorem rnext_none (a : Option Addr) (len cap : Nat) (l : List Int) (w : World) (hlen : l.length = len) (hl : Byt l) (hcap : len ≤ cap) (hm : cap ≤ maxLen) (hr : Row w a l) (hne : l ≠ []) (hd : decZ l = none) :
    Calls Tryd.prog 67 #[.slice a len cap] w fun e w' => e = .returned (.tuple #[.int .i32 0, .int .i64 0, .int .i64 20]) ∧ Below w.heap.size w w' := by
  rcases hr with rfl | ⟨b, off, rfl, hc⟩
  · exact absurd rfl hne
  · cases l with
    | nil => exact absurd rfl hne
    | cons c r =>
      have h1 : 1 ≤ len := by simp at hlen; omega
      by_cases h : c < 128
      · simp [decZ, h] at hd
      · exact (rnext_more b off len cap (c :: r) w hlen h1 hcap hm hl hc (by simp; omega)).mono fun e w' ⟨he, hw⟩ => ⟨by rw [he, nx_none hd hne], hw⟩
end Go.Proofs.YtfhgkkdbkbbpkaaDoor.Cs.Ut
