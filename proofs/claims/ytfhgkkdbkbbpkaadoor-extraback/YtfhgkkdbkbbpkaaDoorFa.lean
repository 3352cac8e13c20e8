/-
  The reference's Code and Decode.
-/
import Derived.Test.YtfhgkkdbkbbpkaaDoorEc
import Derived.Deep.RegionHeld3
namespace Go.Proofs.YtfhgkkdbkbbpkaaDoor
open Go.RowKit
set_option linter.unusedVariables false
set_option linter.unusedSimpArgs false

set_option maxRecDepth 100000 in
theorem rhex_any (c : Int) (w : World) (h0 : 0 ≤ c) (h1 : c < 256) : Calls Tryd.prog 30 #[.int .u8 c] w fun e w' => e = .returned (.int .i64 (hexZ c)) ∧ w = w' := by
  rcases (show (48 ≤ c ∧ c ≤ 57) ∨ (65 ≤ c ∧ c ≤ 70) ∨ (97 ≤ c ∧ c ≤ 102) ∨ (c < 48) ∨ (57 < c ∧ c < 65) ∨ (70 < c ∧ c < 97) ∨ (102 < c) by omega) with ⟨a1, a2⟩ | ⟨a1, a2⟩ | ⟨a1, a2⟩ | a1 | ⟨a1, a2⟩ | ⟨a1, a2⟩ | a1
  · have HV : Hid (hexZ c = c - 48) := by
      unfold Hid hexZ
      repeat (first | rw [if_pos (by omega)] | rw [if_neg (by omega)])
    go_enter Tryd.func30, Tryd.ntmps30
    go_wp2
    go_ret
    exact ⟨by rw [HV.out] <;> rfl, rfl⟩
  · have HV : Hid (hexZ c = c - 55) := by
      unfold Hid hexZ
      repeat (first | rw [if_pos (by omega)] | rw [if_neg (by omega)])
    go_enter Tryd.func30, Tryd.ntmps30
    go_wp2
    go_ret
    exact ⟨by rw [HV.out] <;> rfl, rfl⟩
  · have HV : Hid (hexZ c = c - 87) := by
      unfold Hid hexZ
      repeat (first | rw [if_pos (by omega)] | rw [if_neg (by omega)])
    go_enter Tryd.func30, Tryd.ntmps30
    go_wp2
    go_ret
    exact ⟨by rw [HV.out] <;> rfl, rfl⟩
  · have HV : Hid (hexZ c = -1) := by
      unfold Hid hexZ
      repeat (first | rw [if_pos (by omega)] | rw [if_neg (by omega)])
    go_enter Tryd.func30, Tryd.ntmps30
    go_wp2
    go_ret
    exact ⟨by rw [HV.out] <;> rfl, rfl⟩
  · have HV : Hid (hexZ c = -1) := by
      unfold Hid hexZ
      repeat (first | rw [if_pos (by omega)] | rw [if_neg (by omega)])
    go_enter Tryd.func30, Tryd.ntmps30
    go_wp2
    go_ret
    exact ⟨by rw [HV.out] <;> rfl, rfl⟩
  · have HV : Hid (hexZ c = -1) := by
      unfold Hid hexZ
      repeat (first | rw [if_pos (by omega)] | rw [if_neg (by omega)])
    go_enter Tryd.func30, Tryd.ntmps30
    go_wp2
    go_ret
    exact ⟨by rw [HV.out] <;> rfl, rfl⟩
  · have HV : Hid (hexZ c = -1) := by
      unfold Hid hexZ
      repeat (first | rw [if_pos (by omega)] | rw [if_neg (by omega)])
    go_enter Tryd.func30, Tryd.ntmps30
    go_wp2
    go_ret
    exact ⟨by rw [HV.out] <;> rfl, rfl⟩
def letterZ (c : Int) : Bool := (decide (48 ≤ c) && decide (c ≤ 57)) || (decide (65 ≤ c) && decide (c ≤ 90)) || (decide (97 ≤ c) && decide (c ≤ 122))
set_option maxRecDepth 100000 in
theorem letter_any (c : Int) (w : World) (h0 : 0 ≤ c) (h1 : c < 256) : Calls Tryd.prog 32 #[.int .u8 c] w fun e w' => e = .returned (.bool (letterZ c)) ∧ w = w' := by
  rcases (show (48 ≤ c ∧ c ≤ 57) ∨ (65 ≤ c ∧ c ≤ 90) ∨ (97 ≤ c ∧ c ≤ 122) ∨ (c < 48) ∨ (57 < c ∧ c < 65) ∨ (90 < c ∧ c < 97) ∨ (122 < c) by omega) with ⟨a1, a2⟩ | ⟨a1, a2⟩ | ⟨a1, a2⟩ | a1 | ⟨a1, a2⟩ | ⟨a1, a2⟩ | a1
  · have HV : Hid (letterZ c = true) := by
      unfold Hid letterZ
      simp <;> omega
    go_enter Tryd.func32, Tryd.ntmps32
    go_wp2
    go_ret
    exact ⟨by rw [HV.out] <;> rfl, rfl⟩
  · have HV : Hid (letterZ c = true) := by
      unfold Hid letterZ
      simp <;> omega
    go_enter Tryd.func32, Tryd.ntmps32
    go_wp2
    go_ret
    exact ⟨by rw [HV.out] <;> rfl, rfl⟩
  · have HV : Hid (letterZ c = true) := by
      unfold Hid letterZ
      simp <;> omega
    go_enter Tryd.func32, Tryd.ntmps32
    go_wp2
    go_ret
    exact ⟨by rw [HV.out] <;> rfl, rfl⟩
  · have HV : Hid (letterZ c = false) := by
      unfold Hid letterZ
      simp <;> omega
    go_enter Tryd.func32, Tryd.ntmps32
    go_wp2
    go_ret
    exact ⟨ret_bool (by rw [HV.out] <;> (simp; try omega)), rfl⟩
  · have HV : Hid (letterZ c = false) := by
      unfold Hid letterZ
      simp <;> omega
    go_enter Tryd.func32, Tryd.ntmps32
    go_wp2
    go_ret
    exact ⟨ret_bool (by rw [HV.out] <;> (simp; try omega)), rfl⟩
  · have HV : Hid (letterZ c = false) := by
      unfold Hid letterZ
      simp <;> omega
    go_enter Tryd.func32, Tryd.ntmps32
    go_wp2
    go_ret
    exact ⟨ret_bool (by rw [HV.out] <;> (simp; try omega)), rfl⟩
  · have HV : Hid (letterZ c = false) := by
      unfold Hid letterZ
      simp <;> omega
    go_enter Tryd.func32, Tryd.ntmps32
    go_wp2
    go_ret
    exact ⟨ret_bool (by rw [HV.out] <;> (simp; try omega)), rfl⟩
theorem rdig_any (n : Int) (w : World) (h0 : 0 ≤ n) (h1 : n < 16) : Calls Tryd.prog 52 #[.int .u8 n] w fun e w' => e = .returned (.int .u8 (digC n)) ∧ w = w' := by
  unfold digC
  by_cases h : n < 10
  · rw [if_pos h]
    go_enter Tryd.func52, Tryd.ntmps52
    go_wp2
    go_ret
    exact ⟨rfl, rfl⟩
  · rw [if_neg h]
    go_enter Tryd.func52, Tryd.ntmps52
    go_wp2
    go_ret
    exact ⟨rfl, rfl⟩
theorem rdigits_any (c : Int) (w : World) (h0 : 0 ≤ c) (h1 : c < 256) : Calls Tryd.prog 33 #[.int .u8 c] w fun e w' => e = .returned (.string (strOfNums [digC (c / 16), digC (c % 16)])) ∧ Below w.heap.size w w' := by
  obtain ⟨j0, hi, hz0, hz1, hz2⟩ := info_parts Tryd.info5
  have hx := fun W => rdig_any (c / 16) W (by omega) (by omega)
  have hy := fun W => rdig_any (c % 16) W (by omega) (by omega)
  obtain ⟨p, hp⟩ : ∃ p, digC (c / 16) = p := ⟨_, rfl⟩
  obtain ⟨q, hq⟩ : ∃ q, digC (c % 16) = q := ⟨_, rfl⟩
  rw [hp] at hx ⊢
  rw [hq] at hy ⊢
  go_enter Tryd.func33, Tryd.ntmps33
  go_wp2_with fail
  refine (hx _).mono ?_
  rintro e w' ⟨rfl, rfl⟩
  go_wp2_with fail
  refine (hy _).mono ?_
  rintro e w' ⟨rfl, rfl⟩
  go_wp2_with (at_builtin; refine wpList_append_own _ rfl (.tmp 4) (.tmp 11) 31 rfl w.heap.size 5 j0 (.int .u8 0) 1 1 Tryd.underlying31 hi hz0 hz1 hz2 rfl (by decide) _ _ _ rfl ((World.ownsRow_nil w _ _ _).alloc _) ⟨w.heap.size, 0, none⟩ 2 2 (([p, q] : List Int).map (Value.int .u8)) rfl rfl (cells_new _ _ _) (ints_one _) ?a1 ?a2 ?a3 ?_)
  case a1 => unfold maxLen; omega
  case a2 => omega
  case a3 => simp
  intro v1 w1 hown1 hgrow1 _
  have HB1 : Hid (Below w.heap.size w w1) := (keep w _).grown hgrow1 (by simp) (by intro k hk; cases hk)
  obtain ⟨a8, cap8, hv, hc8, hm8, hrow8, hn8⟩ := own_row' (l := [p, q]) hown1
  have k1 : (convert 31 9 (.slice a8 2 cap8)).run Tryd.prog w1 = .ok (.string (strOfNums [p, q])) w1 := conv_row _ _ rfl hrow8
  subst hv
  rw [show ([p, q] : List Int).length = 2 from rfl]
  clear hown1 hgrow1 hrow8
  go_wp2
  go_ret
  exact ⟨rfl, HB1.out⟩
theorem plain_letter (c : Int) : plainC c = (letterZ c || decide (c = 45) || decide (c = 46) || decide (c = 95)) := by
  unfold plainC letterZ
  rw [Bool.eq_iff_iff]
  simp
  omega
theorem size_strN (l : List Int) : (strOfNums l).size = l.length := by
  show (List.map _ l).toArray.size = _
  simp
theorem digC_byt {d : Int} (h0 : 0 ≤ d) (h1 : d < 16) : 0 ≤ digC d ∧ digC d < 256 := by unfold digC; split <;> omega
theorem codeC_byt {c : Int} (h0 : 0 ≤ c) (h1 : c < 256) : Byt (codeC c) := by
  unfold codeC
  split
  · intro x hx; simp at hx; subst hx; exact ⟨h0, h1⟩
  · have d1 := digC_byt (d := c / 16) (by omega) (by omega)
    have d2 := digC_byt (d := c % 16) (by omega) (by omega)
    intro x hx; simp at hx; rcases hx with rfl | rfl | rfl
    · omega
    · exact d1
    · exact d2
set_option maxRecDepth 100000 in
set_option maxHeartbeats 8000000 in
theorem rcode_any (a : Option Addr) (len cap : Nat) (l : List Int) (w : World) (hl : l.length = len) (hb : Byt l) (hbig : len ≤ 1000000) (hcap : len ≤ cap) (hcm : cap ≤ maxLen) (hr : Row w a l) :
    Calls Tryd.prog 16 #[.slice a len cap] w fun e w' => e = .returned (.string (strOfNums (codeL l))) ∧ Below w.heap.size w w' := by
  have HR : Hid (Row w a l) := hr
  have HL : Hid (l.length = len) := hl
  clear hr
  go_enter Tryd.func16, Tryd.ntmps16
  go_wp2
  go_loopw [3, 4] (fun v i wr => ∃ (k : Nat), i = .int .i64 k ∧ v = .string (strOfNums (codeL (l.take k))) ∧ k ≤ len ∧ Hid (Below w.heap.size w wr)) (fun _ i _ => len - (intOf i).toNat)
  case atStart => exact ⟨0, rfl, rfl, by omega, Below.refl _ _⟩
  case round =>
    obtain ⟨k, rfl, rfl, hk, HB⟩ := hrel
    obtain ⟨pre, hpre⟩ : ∃ pre, codeL (l.take k) = pre := ⟨_, rfl⟩
    rw [hpre]
    have hpl : pre.length ≤ 3 * len := by rw [← hpre]; have := codeL_len (l.take k); have : (l.take k).length ≤ len := (by rw [List.length_take]; omega); omega
    have hsz := HB.out.size
    have hs1 : (strOfNums pre).size = pre.length := size_strN pre
    by_cases hlt : k < len
    · obtain ⟨c, hck⟩ : ∃ c, l[k]? = some c := ⟨_, List.getElem?_eq_getElem (by omega)⟩
      have hcb := hb c (List.mem_of_getElem? hck)
      obtain ⟨c0, c1⟩ := hcb
      have HNX : Hid (codeL (l.take (k + 1)) = pre ++ codeC c) := by
        unfold Hid; rw [← hpre, List.take_add_one, hck]; simp [codeL]
      rcases row_below HR.out HB.out with h | ⟨b, off, rfl, h⟩
      · rw [h] at hl; simp at hl; omega
      have hc := h k (by omega)
      rw [List.getD_eq_getElem?_getD, hck, Option.getD_some] at hc
      clear h hck hpre
      have hpl2 := plain_letter c
      have hs2 : (strOfNums [c]).size = 1 := size_strN [c]
      cases hle : letterZ c with
      | true =>
        have HN2 : Hid (codeL (l.take (k + 1)) = pre ++ [c]) := by unfold Hid; rw [HNX.out]; unfold codeC; rw [if_pos (by rw [hpl2, hle]; rfl)]
        have kc := conv_row (w := wr.alloc (.cells #[.int .u8 c] 5)) (a := some ⟨wr.heap.size, 0, none⟩) (l := [c]) 1 1 rfl (row_new wr [c])
        clear hpl2 HNX
        go_wp2_with (go_at_call 32; refine (letter_any c _ c0 c1).mono ?_; rintro e w' ⟨rfl, rfl⟩; rw [hle])
        rw [str_append]
        go_roundw
        case rel => exact ⟨k + 1, by go_num, by rw [HN2.out], by omega, HB.out.alloc hsz _⟩
        case measure => simp [intOf]; omega
      | false =>
        by_cases hpc : plainC c = true
        · have HN2 : Hid (codeL (l.take (k + 1)) = pre ++ [c]) := by unfold Hid; rw [HNX.out]; unfold codeC; rw [if_pos hpc]
          have kc := conv_row (w := wr.alloc (.cells #[.int .u8 c] 5)) (a := some ⟨wr.heap.size, 0, none⟩) (l := [c]) 1 1 rfl (row_new wr [c])
          have hc3 : c = 45 ∨ c = 46 ∨ c = 95 := by rw [hpl2, hle] at hpc; simp at hpc; omega
          clear hpl2 HNX hpc
          rcases hc3 with rfl | rfl | rfl
          all_goals
            go_wp2_with (go_at_call 32; refine (letter_any _ _ c0 c1).mono ?_; rintro e w' ⟨rfl, rfl⟩; rw [hle])
            rw [str_append]
            go_roundw
            case rel => exact ⟨k + 1, by go_num, by rw [HN2.out], by omega, HB.out.alloc hsz _⟩
            case measure => simp [intOf]; omega
        · have HN2 : Hid (codeL (l.take (k + 1)) = pre ++ [37, digC (c / 16), digC (c % 16)]) := by unfold Hid; rw [HNX.out]; unfold codeC; rw [if_neg hpc]
          have hc3 : ¬ c = 45 ∧ ¬ c = 46 ∧ ¬ c = 95 := by rw [hpl2, hle] at hpc; simp at hpc; omega
          obtain ⟨b1, b2, b3⟩ := hc3
          have b1 : (c == 45) = false := by simpa using b1
          have b2 : (c == 46) = false := by simpa using b2
          have b3 : (c == 95) = false := by simpa using b3
          have hs4 : (strOfNums [digC (c / 16), digC (c % 16)]).size = 2 := size_strN _
          have hs5 : (strOfNums pre ++ ⟨#[37]⟩ : ByteArray).size = pre.length + 1 := by rw [show (⟨#[37]⟩ : ByteArray) = strOfNums [37] from rfl, str_append, size_strN]; simp
          have hap : (strOfNums pre ++ ⟨#[37]⟩ : ByteArray) ++ strOfNums [digC (c / 16), digC (c % 16)] = strOfNums (pre ++ [37, digC (c / 16), digC (c % 16)]) := by
            rw [show (⟨#[37]⟩ : ByteArray) = strOfNums [37] from rfl, str_append, str_append]; simp
          clear hpl2 HNX hpc
          go_wp2_with (first
            | (go_at_call 32; refine (letter_any c _ c0 c1).mono ?_; rintro e w' ⟨rfl, rfl⟩; rw [hle])
            | (go_at_call 33; refine (rdigits_any c _ c0 c1).mono ?_; rintro e w' ⟨rfl, hb3⟩))
          go_roundw
          case rel => exact ⟨k + 1, by go_num, by rw [HN2.out], by omega, HB.out.trans (hb3.mono hsz)⟩
          case measure => simp [intOf]; omega
    · obtain rfl : k = len := by omega
      have HE : Hid (pre = codeL l) := by unfold Hid; rw [← hpre, List.take_of_length_le (by omega)]
      clear hpre
      go_wp2
      go_ret
      exact ⟨by rw [← HE.out] <;> rfl, HB.out⟩
/-- append onto an owned row, as one step of a region that draws. -/
theorem step_append_own {P : Program} {ops : Array Oper} {o : Oper} {a : Act} {w : World} {K : Act → World → Prop} {Q : Exit → Act → World → Prop} {E : Prop}
    (hg : o.guard = none) (s x : Operand) (t : TypeId) (hop : o.op = Op.call { callee := Callee.builtin Builtin.append, args := #[s, x], argTypes := #[t, t] })
    (base : Nat) (e : TypeId) (i : TypeInfo) (z : Value) (size bytes : Nat) (h1 : P.underlying t = some (.slice e)) (h2 : P.info? e = some i) (h3 : i.zero = some z) (h4 : i.size = size) (h5 : i.bytes = bytes) (h6 : z.cells.size = size) (h7 : 0 < size)
    (v : Value) (n : Nat) (xs : List Value) (hs : a.eval s = v) (hown : w.ownsRow base e size v n xs)
    (ad : Addr) (m c : Nat) (news : List Value) (hx : a.eval x = .slice (some ad) m c) (hn : news.length = m * size) (hc : ∀ j u, news[j]? = some u → w.cell? (ad.add j) = some u) (h1c : ∀ u ∈ news, u.oneCell' = true)
    (b1 : n + m ≤ maxLen) (b2 : (n + m) * bytes ≤ 140737488355328) (hbase : base ≤ w.heap.size)
    (hK : ∀ v' w', w'.ownsRow base e size v' (n + m) (xs ++ news) → w.grownBy w' v.ownBlock → K (a.put o.dst v') w') :
    if Region.wanted o (yielded ops a.tmps) = true then Oper.wp P o a w K Q else E := by
  have hw : Region.wanted o (yielded ops a.tmps) = true := by simp [Region.wanted, hg]
  rw [if_pos hw]
  obtain ⟨v', w', hrun, r1, r2, _⟩ := run_append_own (P := P) w base t o.type e i z size bytes h1 h2 h3 h4 h5 h6 h7 v n xs hown ad m c news hn hc h1c b1 b2 hbase
  unfold Oper.wp
  simp [execOp, hop, resolve, invoke, builtin, hs, hx, hrun, Result.andThen]
  exact hK v' w' r1 r2
set_option maxHeartbeats 8000000 in
set_option maxRecDepth 100000 in
theorem rdecode_any (s : ByteArray) (w : World) (hs : s.size ≤ 1000000) : Calls Tryd.prog 14 #[.string s] w (DecP w (decZ (nums s))) := by
  obtain ⟨j0, hi, hz0, hz1, hz2⟩ := info_parts Tryd.info5
  obtain ⟨n, hn⟩ : ∃ n, s.size = n := ⟨_, rfl⟩
  go_enter Tryd.func14, Tryd.ntmps14
  go_wp2
  go_loopw [4, 5] (fun v i wr => ∃ (k : Nat) (pre : List Int), i = .int .i64 k ∧ k ≤ n ∧ pre.length ≤ k ∧ Hid (Own wr w.heap.size v pre) ∧ Hid (Below w.heap.size w wr) ∧ Hid (decZ (nums s) = (decZ ((nums s).drop k)).map fun x => pre ++ x)) (fun _ i _ => n - (intOf i).toNat)
  case atStart => exact ⟨0, [], rfl, by omega, by simp, World.ownsRow_nil _ _ _ _, Below.refl _ _, by unfold Hid; rw [List.drop_zero]; cases decZ (nums s) <;> simp⟩
  case round =>
    obtain ⟨k, pre, rfl, hk, hpl, HO, HB, HQ⟩ := hrel
    obtain ⟨ao, co, rfl, hc1, hc2, hr2, hn2⟩ := own_row' HO.out
    clear hr2 hn2
    have hsz := HB.out.size
    by_cases hlt : k < n
    · have dl : decide ((k : Int) < (n : Int)) = true := decide_eq_true (by omega)
      have hks : k < s.size := by omega
      have hdr := nums_drop s k hks
      have k1 : (k : Int) < (s.size : Int) := by omega
      have hcb : ((s[k]'hks).toNat : Int) < 256 := by have := (s[k]'hks).toNat_lt; omega
      have hcb0 : (0 : Int) ≤ ((s[k]'hks).toNat : Int) := by omega
      obtain ⟨c, hc⟩ : ∃ c : Int, ((s[k]'hks).toNat : Int) = c := ⟨_, rfl⟩
      rw [hc] at hdr hcb hcb0
      by_cases h37 : c = 37
      · subst h37
        have d37 : ((37 : Int) != 37) = false := by decide
        by_cases hs3 : n - k < 3
        · have d3 : decide ((s.size : Int) - (k : Int) < 3) = true := decide_eq_true (by omega)
          have d3' : (s.size : Int) - (k : Int) < 3 := by omega
          have HR : Hid (decZ (nums s) = none) := by
            unfold Hid
            rw [HQ.out, hdr, dec_short (by rw [List.length_drop, nums_len]; omega)]; rfl
          clear hdr
          go_wp2
          go_ret2
          exact HR.out ▸ decP_none HB.out
        · have d3 : decide ((s.size : Int) - (k : Int) < 3) = false := decide_eq_false (by omega)
          have d3' : ¬ (s.size : Int) - (k : Int) < 3 := by omega
          have hk1 : k + 1 < s.size := by omega
          have hk2 : k + 2 < s.size := by omega
          have i1 : (k : Int) + 1 < (s.size : Int) := by omega
          have i2 : (k : Int) + 2 < (s.size : Int) := by omega
          have i3 : ((k : Int) + 1).toNat = k + 1 := by omega
          have i4 : ((k : Int) + 2).toNat = k + 2 := by omega
          have i5 : (0 : Int) ≤ (k : Int) + 1 := by omega
          have i6 : (0 : Int) ≤ (k : Int) + 2 := by omega
          have hd1 := nums_drop s (k + 1) hk1
          have hd2 := nums_drop s (k + 2) hk2
          obtain ⟨h, hh⟩ : ∃ h : Int, ((s[k + 1]'hk1).toNat : Int) = h := ⟨_, rfl⟩
          obtain ⟨l, hl⟩ : ∃ l : Int, ((s[k + 2]'hk2).toNat : Int) = l := ⟨_, rfl⟩
          have h0 : 0 ≤ h := by rw [← hh]; omega
          have h1 : h < 256 := by rw [← hh]; have := (s[k + 1]'hk1).toNat_lt; omega
          have l0 : 0 ≤ l := by rw [← hl]; omega
          have l1 : l < 256 := by rw [← hl]; have := (s[k + 2]'hk2).toNat_lt; omega
          rw [hh] at hd1
          rw [hl] at hd2
          have HST : Hid (decZ ((nums s).drop k) = if 0 ≤ hexZ h ∧ 0 ≤ hexZ l then (decZ ((nums s).drop (k + 3))).map fun x => (hexZ h * 16 + hexZ l) :: x else none) := by
            unfold Hid; rw [hdr, hd1, hd2, dec_code]
          have HH : Hid (∀ V, Calls Tryd.prog 30 #[.int .u8 h] V fun e w' => e = .returned (.int .i64 (hexZ h)) ∧ V = w') := fun V => rhex_any h V h0 h1
          have HL : Hid (∀ V, Calls Tryd.prog 30 #[.int .u8 l] V fun e w' => e = .returned (.int .i64 (hexZ l)) ∧ V = w') := fun V => rhex_any l V l0 l1
          have xh := hex_in h
          have xl := hex_in l
          obtain ⟨p, hp⟩ : ∃ p, hexZ h = p := ⟨_, rfl⟩
          obtain ⟨q, hq⟩ : ∃ q, hexZ l = q := ⟨_, rfl⟩
          rw [hp] at HST HH xh
          rw [hq] at HST HL xl
          clear hdr hd1 hd2 hp hq
          obtain ⟨p0, p1⟩ := xh
          obtain ⟨q0, q1⟩ := xl
          by_cases hpn : p < 0
          · have dp : decide (p < 0) = true := decide_eq_true hpn
            have HR : Hid (decZ (nums s) = none) := by unfold Hid; rw [HQ.out, HST.out, if_neg (by omega)]; rfl
            go_wp2_with (first | (go_at_call_of 30 (Value.int IntKind.u8 h); refine (HH.out _).mono ?_; rintro e w' ⟨rfl, rfl⟩) | (go_at_call_of 30 (Value.int IntKind.u8 l); refine (HL.out _).mono ?_; rintro e w' ⟨rfl, rfl⟩))
            go_ret2
            exact HR.out ▸ decP_none HB.out
          · have dp : decide (p < 0) = false := decide_eq_false hpn
            by_cases hqn : q < 0
            · have dq : decide (q < 0) = true := decide_eq_true hqn
              have HR : Hid (decZ (nums s) = none) := by unfold Hid; rw [HQ.out, HST.out, if_neg (by omega)]; rfl
              go_wp2_with (first | (go_at_call_of 30 (Value.int IntKind.u8 h); refine (HH.out _).mono ?_; rintro e w' ⟨rfl, rfl⟩) | (go_at_call_of 30 (Value.int IntKind.u8 l); refine (HL.out _).mono ?_; rintro e w' ⟨rfl, rfl⟩))
              go_ret2
              exact HR.out ▸ decP_none HB.out
            · have dq : decide (q < 0) = false := decide_eq_false hqn
              have hw3 : IntKind.i64.wrap (16 * p) = 16 * p := by simp [IntKind.wrap, IntKind.bits, IntKind.signed]; omega
              have hw4 : IntKind.i64.wrap (16 * p + q) = 16 * p + q := by simp [IntKind.wrap, IntKind.bits, IntKind.signed]; omega
              have hw5 : IntKind.u8.wrap (16 * p + q) = 16 * p + q := by simp [IntKind.wrap, IntKind.bits, IntKind.signed]; omega
              have hw1 : IntKind.i64.wrap ((k : Int) + 1) = (k : Int) + 1 := by simp [IntKind.wrap, IntKind.bits, IntKind.signed]; omega
              have hw2 : IntKind.i64.wrap ((k : Int) + 2) = (k : Int) + 2 := by simp [IntKind.wrap, IntKind.bits, IntKind.signed]; omega
              have HR : Hid (decZ (nums s) = (decZ ((nums s).drop (k + 3))).map fun x => (pre ++ [16 * p + q]) ++ x) := by
                unfold Hid
                rw [HQ.out, HST.out, if_pos ⟨by omega, by omega⟩, Int.mul_comm p 16]
                cases decZ ((nums s).drop (k + 3)) <;> simp
              clear HST HQ
              go_wp2_with (first | (go_at_call_of 30 (Value.int IntKind.u8 h); refine (HH.out _).mono ?_; rintro e w' ⟨rfl, rfl⟩) | (go_at_call_of 30 (Value.int IntKind.u8 l); refine (HL.out _).mono ?_; rintro e w' ⟨rfl, rfl⟩))
              go_region_held3 (fun W => True) (trivial) (first
                | (go_at_call_of 30 (Value.int IntKind.u8 h); refine (HH.out _).mono ?_; rintro e w' ⟨rfl, rfl⟩)
                | (go_at_call_of 30 (Value.int IntKind.u8 l); refine (HL.out _).mono ?_; rintro e w' ⟨rfl, rfl⟩)
                | (refine step_append_own rfl (.tmp 43) (.tmp 57) 31 rfl w.heap.size 5 j0 (.int .u8 0) 1 1 Tryd.underlying31 hi hz0 hz1 hz2 rfl (by decide) (.slice ao pre.length co) pre.length (pre.map (Value.int .u8)) rfl (World.ownsRow.alloc (w := wr) HO.out _).drew ⟨wr.heap.size, 0, none⟩ 1 1 ([16 * p + q].map (Value.int .u8)) rfl rfl (fun j u hu => cells_new wr _ 5 j u hu) (ints_one _) ?_ ?_ ?_ ?_; (unfold maxLen; omega); omega; (simp; omega); intro v4 w4 hown4 hgrow4))
              all_goals
                have HB4 : Hid (Below w.heap.size w w4) := ((HB.out.alloc hsz _).drew).grown hgrow4 (by simp; omega) (fun z hz => by have := (HO.out.lt z hz).1; omega)
                have HO4 : Hid (Own w4 w.heap.size v4 (pre ++ [16 * p + q])) := own_snoc hown4
                clear hown4 hgrow4
                go_wp2
                go_roundw
                case rel => exact ⟨k + 3, pre ++ [16 * p + q], by go_num, by omega, by simp; omega, HO4, HB4, HR⟩
                case measure => simp [intOf]; omega
      · have d37 : (c != 37) = true := by simpa using h37
        have HR : Hid (decZ (nums s) = (decZ ((nums s).drop (k + 1))).map fun x => (pre ++ [c]) ++ x) := by
          unfold Hid
          rw [HQ.out, hdr, dec_plain _ h37]
          cases decZ ((nums s).drop (k + 1)) <;> simp
        clear hdr HQ
        go_wp2_with (at_builtin; refine wpList_append_own _ rfl (.tmp 14) (.tmp 18) 31 rfl w.heap.size 5 j0 (.int .u8 0) 1 1 Tryd.underlying31 hi hz0 hz1 hz2 rfl (by decide) _ _ _ rfl (HO.out.alloc _) ⟨wr.heap.size, 0, none⟩ 1 1 ([c].map (Value.int .u8)) rfl rfl (cells_new _ _ _) (ints_one _) ?a1 ?a2 ?a3 ?_)
        case a1 => unfold maxLen; omega
        case a2 => omega
        case a3 => simp; omega
        intro v' w2 hown2 hgrow2 _
        have HB2 : Hid (Below w.heap.size w w2) := (HB.out.alloc hsz _).grown hgrow2 (by simp; omega) (fun z hz => by have := (HO.out.lt z hz).1; omega)
        have HO2 : Hid (Own w2 w.heap.size v' (pre ++ [c])) := own_snoc hown2
        clear hown2 hgrow2
        go_wp2
        go_roundw
        case rel => exact ⟨k + 1, pre ++ [c], by go_num, by omega, by simp; omega, HO2, HB2, HR⟩
        case measure => simp [intOf]; omega
    · obtain rfl : n = k := by omega
      have HR : Hid (decZ (nums s) = some pre) := by
        unfold Hid; rw [HQ.out, List.drop_of_length_le (by rw [nums_len]; omega)]; simp [decZ]
      go_wp2
      go_ret2
      exact HR.out ▸ decP_some HB.out HO.out
end Go.Proofs.YtfhgkkdbkbbpkaaDoor
