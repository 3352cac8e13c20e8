/-
  Coded texts: what they are, and the contract of Code.
-/
import Derived.Test.YtfhgkkdbkbbpkaaDoorStr
import Derived.Deep.AppendLies
import Derived.Deep.RegionLaw
import Derived.Laws.MakeOwn
namespace Go.Proofs.YtfhgkkdbkbbpkaaDoor
open Go.RowKit
set_option linter.unusedVariables false
set_option linter.unusedSimpArgs false

def plainC (c : Int) : Bool := (decide (97 ≤ c) && decide (c ≤ 122)) || (decide (65 ≤ c) && decide (c ≤ 90)) || (decide (48 ≤ c) && decide (c ≤ 57)) || decide (c = 45) || decide (c = 46) || decide (c = 95)
def digC (d : Int) : Int := if d < 10 then 48 + d else 55 + d
def codeC (c : Int) : List Int := if plainC c = true then [c] else [37, digC (c / 16), digC (c % 16)]
/-- Bytes' coded text. -/
def codeL (l : List Int) : List Int := l.flatMap codeC
set_option maxRecDepth 100000 in
theorem isPlain_any (c : Int) (w : World) (h0 : 0 ≤ c) (h1 : c < 256) : Calls Tryd.prog 31 #[.int .u8 c] w fun e w' => e = .returned (.bool (plainC c)) ∧ w = w' := by
  rcases (show (97 ≤ c ∧ c ≤ 122) ∨ (65 ≤ c ∧ c ≤ 90) ∨ (48 ≤ c ∧ c ≤ 57) ∨ (c = 45) ∨ (c = 46) ∨ (c = 95) ∨ (c < 45) ∨ (c = 47) ∨ (57 < c ∧ c < 65) ∨ (90 < c ∧ c < 95) ∨ (c = 96) ∨ (122 < c) by omega) with ⟨a1, a2⟩ | ⟨a1, a2⟩ | ⟨a1, a2⟩ | rfl | rfl | rfl | a1 | rfl | ⟨a1, a2⟩ | ⟨a1, a2⟩ | rfl | a1
  · have HV : Hid (plainC c = true) := by
      unfold Hid plainC
      simp; omega
    go_enter Tryd.func31, Tryd.ntmps31
    go_wp2
    go_ret
    exact ⟨by rw [HV.out] <;> rfl, rfl⟩
  · have HV : Hid (plainC c = true) := by
      unfold Hid plainC
      simp; omega
    go_enter Tryd.func31, Tryd.ntmps31
    go_wp2
    go_ret
    exact ⟨by rw [HV.out] <;> rfl, rfl⟩
  · have HV : Hid (plainC c = true) := by
      unfold Hid plainC
      simp; omega
    go_enter Tryd.func31, Tryd.ntmps31
    go_wp2
    go_ret
    exact ⟨by rw [HV.out] <;> rfl, rfl⟩
  · have HV : Hid (plainC 45 = true) := by
      unfold Hid plainC
      decide
    go_enter Tryd.func31, Tryd.ntmps31
    go_wp2
    go_ret
    exact ⟨by rw [HV.out] <;> rfl, rfl⟩
  · have HV : Hid (plainC 46 = true) := by
      unfold Hid plainC
      decide
    go_enter Tryd.func31, Tryd.ntmps31
    go_wp2
    go_ret
    exact ⟨by rw [HV.out] <;> rfl, rfl⟩
  · have HV : Hid (plainC 95 = true) := by
      unfold Hid plainC
      decide
    go_enter Tryd.func31, Tryd.ntmps31
    go_wp2
    go_ret
    exact ⟨by rw [HV.out] <;> rfl, rfl⟩
  · have HV : Hid (plainC c = false) := by
      unfold Hid plainC
      simp; omega
    have q1 : (c == 45) = false := by simp; omega
    have q2 : (c == 46) = false := by simp; omega
    have q3 : (c == 95) = false := by simp; omega
    go_enter Tryd.func31, Tryd.ntmps31
    go_wp2
    go_ret
    exact ⟨by rw [HV.out] <;> rfl, rfl⟩
  · have HV : Hid (plainC 47 = false) := by
      unfold Hid plainC
      decide
    go_enter Tryd.func31, Tryd.ntmps31
    go_wp2
    go_ret
    exact ⟨by rw [HV.out] <;> rfl, rfl⟩
  · have HV : Hid (plainC c = false) := by
      unfold Hid plainC
      simp; omega
    have q1 : (c == 45) = false := by simp; omega
    have q2 : (c == 46) = false := by simp; omega
    have q3 : (c == 95) = false := by simp; omega
    go_enter Tryd.func31, Tryd.ntmps31
    go_wp2
    go_ret
    exact ⟨by rw [HV.out] <;> rfl, rfl⟩
  · have HV : Hid (plainC c = false) := by
      unfold Hid plainC
      simp; omega
    have q1 : (c == 45) = false := by simp; omega
    have q2 : (c == 46) = false := by simp; omega
    have q3 : (c == 95) = false := by simp; omega
    go_enter Tryd.func31, Tryd.ntmps31
    go_wp2
    go_ret
    exact ⟨by rw [HV.out] <;> rfl, rfl⟩
  · have HV : Hid (plainC 96 = false) := by
      unfold Hid plainC
      decide
    go_enter Tryd.func31, Tryd.ntmps31
    go_wp2
    go_ret
    exact ⟨by rw [HV.out] <;> rfl, rfl⟩
  · have HV : Hid (plainC c = false) := by
      unfold Hid plainC
      simp; omega
    have q1 : (c == 45) = false := by simp; omega
    have q2 : (c == 46) = false := by simp; omega
    have q3 : (c == 95) = false := by simp; omega
    go_enter Tryd.func31, Tryd.ntmps31
    go_wp2
    go_ret
    exact ⟨by rw [HV.out] <;> rfl, rfl⟩
theorem hex_at : ∀ (m : Nat) (h : m < 16), (((⟨#[48, 49, 50, 51, 52, 53, 54, 55, 56, 57, 65, 66, 67, 68, 69, 70]⟩ : ByteArray)[m]'h).toNat : Int) = digC m := by decide
theorem code_len (c : Int) : (codeC c).length ≤ 3 := by unfold codeC; split <;> simp
theorem codeL_len : ∀ l : List Int, (codeL l).length ≤ 3 * l.length
  | [] => by simp [codeL]
  | c :: l => by
    have h1 := code_len c
    have h2 := codeL_len l
    unfold codeL at h2 ⊢
    rw [List.flatMap_cons, List.length_append, List.length_cons]; omega
theorem code_take {l : List Int} {k : Nat} {c : Int} (h : l[k]? = some c) : codeL (l.take (k + 1)) = codeL (l.take k) ++ codeC c := by
  unfold codeL
  rw [List.take_add_one, h, List.flatMap_append]
  simp
theorem and15 (c : Int) (h0 : 0 ≤ c) (h1 : c < 256) : bits BinOp.and .u8 c 15 = c % 16 := by
  obtain ⟨n, rfl⟩ : ∃ n : Nat, c = n := ⟨c.toNat, by omega⟩
  have hn : n < 256 := by omega
  have : ∀ m : Fin 256, bits BinOp.and .u8 ((m.val : Nat) : Int) 15 = ((m.val : Nat) : Int) % 16 := by decide +kernel
  exact this ⟨n, hn⟩
set_option maxHeartbeats 8000000 in
set_option maxRecDepth 100000 in
theorem code_any (a : Option Addr) (len cap : Nat) (l : List Int) (w : World) (hl : l.length = len) (hb : Byt l) (hbig : len ≤ 1000000) (hcap : len ≤ cap) (hcm : cap ≤ maxLen) (hr : Row w a l) :
    Calls Tryd.prog 15 #[.slice a len cap] w fun e w' => e = .returned (.string (strOfNums (codeL l))) ∧ Below w.heap.size w w' := by
  obtain ⟨j0, hi, hz0, hz1, hz2⟩ := info_parts Tryd.info5
  obtain ⟨w1, hmk, hown1, hgr1⟩ := run_makeSlice_owned (P := Tryd.prog) (w := w) w.heap.size 31 5 j0 _ 1 Tryd.underlying31 hi hz0 hz1 .i64 .i64 len (by omega) (by rw [hz2]; omega) (by unfold maxLen; omega) (Nat.le_refl _)
  have HL : Hid (l.length = len) := hl
  have HBY : Hid (Byt l) := hb
  have HO1 : Hid (Own w1 w.heap.size (.slice (some ⟨w.heap.size, 0, none⟩) 0 len) []) := hown1
  have HB1 : Hid (Below w.heap.size w w1) := (Below.refl _ w).grown hgr1 (Nat.le_refl _) (fun k e => by cases e)
  have HRW : Hid (Row w a l) := hr
  have HCM : Hid (cap ≤ maxLen) := hcm
  clear hown1 hgr1 hl hb hr
  unfold maxLen at hcm
  go_enter Tryd.func15, Tryd.ntmps15
  go_wp2
  clear hmk
  go_loopw [11, 3, 5] (fun i v c wr => ∃ k : Nat, i = .int .i64 k ∧ k ≤ len ∧ Hid (Own wr w.heap.size v (codeL (l.take k))) ∧ Hid (Below w.heap.size w wr)) (fun i _ _ _ => len - (intOf i).toNat)
  case atStart => exact ⟨0, rfl, by omega, by unfold Hid; rw [List.take_zero]; exact HO1.out, HB1⟩
  case round =>
    clear HO1 HB1
    obtain ⟨k, rfl, hk, HO, HB⟩ := hrel
    have hpl : (codeL (l.take k)).length ≤ 3000000 := by
      have := codeL_len (l.take k)
      rw [List.length_take] at this
      have := HL.out
      omega
    obtain ⟨ao, co, rfl, hc1, hc2, hr2, hn2⟩ := own_row' HO.out
    have hsz := HB.out.size
    by_cases hlt : k < len
    · have dl : decide ((k : Int) < (len : Int)) = true := by simp; omega
      have hlk : k < l.length := by rw [HL.out]; exact hlt
      obtain ⟨c, hc⟩ : ∃ c, l[k]? = some c := ⟨_, List.getElem?_eq_getElem hlk⟩
      have hcb := HBY.out c (List.mem_of_getElem? hc)
      obtain ⟨c0, c1⟩ := hcb
      have HNX : Hid (codeL (l.take (k + 1)) = codeL (l.take k) ++ codeC c) := code_take hc
      obtain ⟨b, off, rfl, hcell⟩ : ∃ b off, a = some ⟨b, off, none⟩ ∧ wr.cell? ⟨b, off + k, none⟩ = some (.int .u8 c) := by
        rcases row_below HRW.out HB.out with h | ⟨b, off, rfl, h⟩
        · rw [h] at hlk; cases hlk
        · refine ⟨b, off, rfl, ?_⟩
          rw [h k hlk, List.getD_eq_getElem?_getD, hc]; rfl
      obtain ⟨pre, hpre⟩ : ∃ pre, codeL (l.take k) = pre := ⟨_, rfl⟩
      rw [hpre] at HO HNX hpl hc1 hr2 ⊢
      cases hp : plainC c with
      | true =>
        have HNX2 : Hid (codeL (l.take (k + 1)) = pre ++ [c]) := by unfold Hid; rw [HNX.out]; unfold codeC; rw [if_pos hp]
        clear hr2 hpre hc hlk
        go_wp2_with (first | (go_at_call 31; refine (isPlain_any c _ c0 c1).mono ?_; rintro e w' ⟨rfl, rfl⟩; rw [hp]) | (at_builtin; refine wpList_append_own _ rfl (.tmp 17) (.tmp 19) 31 rfl w.heap.size 5 j0 (.int .u8 0) 1 1 Tryd.underlying31 hi hz0 hz1 hz2 rfl (by decide) _ _ _ rfl (HO.out.alloc _) ⟨wr.heap.size, 0, none⟩ 1 1 ([c].map (Value.int .u8)) rfl rfl (cells_new _ _ _) (ints_one _) ?a1 ?a2 ?a3 ?_))
        case a1 => unfold maxLen; omega
        case a2 => omega
        case a3 => simp; omega
        intro v' w2 hown2 hgrow2 _
        have HB2 : Hid (Below w.heap.size w w2) := (HB.out.alloc hsz _).grown hgrow2 (by simp; omega) (fun q hq => by have := (HO.out.lt q hq).1; omega)
        have HO2 : Hid (Own w2 w.heap.size v' (pre ++ [c])) := own_snoc hown2
        clear hown2 hgrow2
        go_wp2
        go_roundw
        case rel => exact ⟨k + 1, by go_num, by omega, by unfold Hid; rw [HNX2.out]; exact HO2.out, HB2⟩
        case measure => simp [intOf]; omega
      | false =>
        obtain ⟨m1, hm1⟩ : ∃ m : Nat, c / 16 = m := ⟨(c / 16).toNat, by omega⟩
        obtain ⟨m2, hm2⟩ : ∃ m : Nat, c % 16 = m := ⟨(c % 16).toNat, by omega⟩
        have hq1 : m1 < 16 := by omega
        have hq2 : m2 < 16 := by omega
        have hq3 : (m1 : Int) < 16 := by omega
        have hq4 : (m2 : Int) < 16 := by omega
        have em := hex_at m1 hq1
        have en := hex_at m2 hq2
        have hand : bits BinOp.and .u8 c 15 = (m2 : Int) := (and15 c c0 c1).trans hm2
        have HNX2 : Hid (codeL (l.take (k + 1)) = pre ++ [37, digC m1, digC m2]) := by unfold Hid; rw [HNX.out]; unfold codeC; rw [if_neg (by rw [hp]; decide), hm1, hm2]
        clear hr2 hpre hc hlk
        go_wp2_with (first | (go_at_call 31; refine (isPlain_any c _ c0 c1).mono ?_; rintro e w' ⟨rfl, rfl⟩; rw [hp]))
        have HOd : Hid (∀ o, ((wr.alloc o).drew).ownsRow w.heap.size 5 1 (.slice ao pre.length co) pre.length (pre.map (Value.int .u8))) := fun o => (World.ownsRow.alloc (w := wr) HO.out o)
        have HCd : Hid (∀ (j : Nat) (u : Value), ([37, digC m1, digC m2].map (Value.int .u8))[j]? = some u → ((wr.alloc (.cells #[.int .u8 37, .int .u8 (digC m1), .int .u8 (digC m2)] 5)).drew).cell? ((⟨wr.heap.size, 0, none⟩ : Addr).add j) = some u) := fun j u h => cells_new wr ([37, digC m1, digC m2].map (Value.int .u8)) 5 j u h
        go_region_law (refine step_append_lies _ rfl (.tmp 21) (.tmp 28) 31 rfl w.heap.size 5 j0 (.int .u8 0) 1 1 Tryd.underlying31 hi hz0 hz1 hz2 rfl (by decide) (.slice ao pre.length co) pre.length (pre.map (Value.int .u8)) (by simp [Act.eval]) (HOd.out _) ⟨wr.heap.size, 0, none⟩ 3 3 ([37, digC m1, digC m2].map (Value.int .u8)) (by simp [Act.eval]) rfl HCd.out (ints_one _) (by decide) (by unfold maxLen; omega) (by omega) (by simp; omega) (wr.heap.size + 1) (by simp) ?_; intro g2 cap2 w2 hown2 hgrow2 hg2 hg3; have HB2 : Hid (Below w.heap.size w w2) := ((HB.out.alloc hsz _).drew).grown hgrow2 (by simp; omega) (fun q hq => by have := (HO.out.lt q hq).1; omega); have HO2 : Hid (Own w2 w.heap.size (.slice (some ⟨g2, 0, none⟩) (pre.length + 3) cap2) (pre ++ [37, digC m1, digC m2])) := own_snoc hown2; clear hown2 hgrow2 hg2 hg3)
        all_goals go_wp2
        all_goals
          go_roundw
          case rel => exact ⟨k + 1, by go_num, by omega, by unfold Hid; rw [HNX2.out]; exact HO2.out, HB2⟩
          case measure => simp [intOf]; omega
    · obtain rfl : len = k := by omega
      have dl : decide ((len : Int) < (len : Int)) = false := by simp
      have HE : Hid (codeL (l.take len) = codeL l) := by unfold Hid; rw [List.take_of_length_le (by rw [HL.out]; exact Nat.le_refl _)]
      have kc := conv_row (w := wr) (codeL (l.take len)).length co rfl hr2
      clear hr2
      go_wp2
      go_ret
      exact ⟨by rw [HE.out] <;> rfl, HB.out⟩
end Go.Proofs.YtfhgkkdbkbbpkaaDoor
