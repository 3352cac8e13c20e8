/-
  The iterator over lines: its contract.
-/
import Derived.RangeFuncNested
import Derived.RangeFuncBound
import Derived.RangeFuncCalls
import Derived.RangeFuncLeaves
import Derived.Shelf.Abstract
import Derived.Shelf.RegionOpen
import Derived.WalkKit
import Derived.OwnWalkIn
import Derived.TacticsInMore
import Derived.LoopNIn
import Derived.LoopIn
import Derived.Test.YtlpbgfepneoajaaShelf
import Derived.Test.YtlpbgfepneoajaaLmath
import Derived.Test.YtlpbgfepneoajaaEnd
namespace Go.Proofs.Ytlpbgfepneoajaa
open Go.RowKit Go.Shelf
set_option linter.unusedVariables false
attribute [local go_sem] Oper.semAt_some

/-- A piece of bytes. -/
abbrev Ln (n : Nat) := { x : Nat × Nat × Bool // x.1 < n ∧ x.1 + x.2.1 ≤ n }
def encL (b off cap : Nat) (x : Nat × Nat × Bool) : Array Value := #[.int .i64 (x.1 : Nat), .agg #[.slice (some ⟨b, off + x.1, none⟩) x.2.1 (cap - x.1), .bool x.2.2]]
def Kl (n₀ Bn : Nat) (W W' : World) : Prop := Below n₀ W W' ∧ W'.heap[Bn]? = W.heap[Bn]?
theorem Kl.refl (n₀ Bn : Nat) (W : World) : Kl n₀ Bn W W := ⟨Below.refl _ _, rfl⟩
theorem Kl.t {n₀ Bn : Nat} {A B C : World} (h : Kl n₀ Bn A B) (k : Kl n₀ Bn B C) : Kl n₀ Bn A C := ⟨h.1.trans k.1, k.2.trans h.2⟩
/-- The library's variable holds a number. -/
def Mx (w : World) : Prop := ∃ m, w.cell? ⟨0, 0, none⟩ = some (.int .i64 m)
theorem Mx.pos {w : World} (h : Mx w) : 0 < w.heap.size := by obtain ⟨m, h⟩ := h; exact World.block_lt_of_cell? w _ h
theorem Mx.below {w w' : World} {n : Nat} (h : Mx w) (hb : Below n w w') (hn : 0 < n) : Mx w' := by obtain ⟨m, h⟩ := h; exact ⟨m, (hb.cell (p := ⟨0, 0, none⟩) hn).trans h⟩
theorem Mx.keep {w w' : World} (h : Mx w) (hb : Below w.heap.size w w') : Mx w' := h.below hb h.pos

theorem bytesIn_row {w : World} {a : Option Addr} {l : List Int} (h : Row w a l) : Lib.BytesIn w a l.length l := by
  rcases h with rfl | ⟨b, off, rfl, h⟩
  · exact Lib.BytesIn.nil _ _ _
  · exact Lib.BytesIn.of_cells (fun i hi => by rw [add_plain]; exact h i hi)

theorem cut_any (a p : Option Addr) (n c c2 : Nat) (l : List Int) (w : World) (hl : l.length = n) (hb : Byt l) (hr : Row w a l) (hp : Row w p [13, 10]) (hnil : a = none → c = 0) (hc : n ≤ c) (hn : n ≤ 10000000) (hm : Mx w) :
    Calls Try.prog 29 #[.slice a n c, .slice p 2 c2] w fun e w' => e = .returned (Lib.cutV a n c 2 (pairI l)) ∧ Qt w w' := by
  obtain ⟨m, hm⟩ := hm
  have h := bytes_Cut_all a p n c 2 c2 l [13, 10] m w hl rfl hb (by intro y hy; simp at hy; omega) (by rw [← hl]; exact bytesIn_row hr) (bytesIn_row hp) hnil hc (by omega) (by omega) hm
  rw [index_pair l hb] at h
  exact h

set_option maxRecDepth 100000 in
set_option maxHeartbeats 2000000 in
theorem lines1_in (n : Nat) (hn : 1 ≤ n) (lp Bn n₀ b off len cap : Nat) (a : Option Addr) (zs : List Int) (hlen : zs.length = len) (hcap : len ≤ cap) (hnil : a = none → cap = 0) (hbig : len ≤ 1000000) (hz : Byt zs) (ha : zs ≠ [] → a = some ⟨b, off, none⟩) (hpos : 0 < n₀)
    (J Jx : List (Ln len) → World → Prop) (W : World) (hJ : AbidesFrom W.heap.size J)
    (hY : ∀ pre x W, J pre W → pre.length < (linesZ 0 zs).length → YieldAt Fence.wide (n - 1) Try.prog lp (encL b off cap x.1) W fun e W' =>
      (e = .returned (.bool true) ∧ J (pre ++ [x]) W' ∧ Kl n₀ Bn W W') ∨ (e = .returned (.bool false) ∧ Jx (pre ++ [x]) W'))
    (hBn : W.cell? ⟨Bn, 0, none⟩ = some (.slice a len cap)) (hR : ∀ W', Below n₀ W W' → Row W' a zs) (hm : Mx W) (hn₀ : n₀ ≤ W.heap.size) (h0 : J [] W) :
    CallsIn Fence.wide n Try.prog 28 #[.func (.yield lp) #[] #[], .pointer (some ⟨Bn, 0, none⟩)] W fun e W' => (∃ v, e = .returned v) ∧
      ((∃ ys, ys.map (fun x => x.1) = linesZ 0 zs ∧ J ys W') ∨ (∃ pre, pre.map (fun x => x.1) <+: linesZ 0 zs ∧ Jx pre W')) := by
  have hBl : Bn < W.heap.size := World.block_lt_of_cell? W _ hBn
  refine callsIn_of_wp Try.func28 rfl trivial ?_ rfl
  simp only [Try.ntmps28, List.size_toArray, List.length_cons, List.length_nil, Nat.reduceAdd, Nat.reduceSub, Array.replicate_succ, Array.replicate_zero, List.push_toArray, List.append_toArray, List.nil_append, List.cons_append]
  gi_wp2
  gi_loopw [3] (fun v wr => ∃ (p : Nat) (pre : List (Ln len)), v = .int .i64 p ∧ p ≤ len ∧ linesZ 0 zs = pre.map (fun x => x.1) ++ linesZ p (zs.drop p) ∧ J pre wr ∧ Kl n₀ Bn W wr)
    (fun v _ => len - (intOf v).toNat)
  case atStart => exact ⟨0, [], rfl, by omega, by simp, h0, Kl.refl _ _ _⟩
  case round =>
    obtain ⟨p, pre, rfl, hp, hx, hJs, hk⟩ := hrel
    have hc : wr.cell? ⟨Bn, 0, none⟩ = some (.slice a len cap) := (World.cell?_of_block (w := W) hk.2).trans hBn
    have hrow := hR wr hk.1
    have hmx := hm.below hk.1 hpos
    have HK : Hid (Kl n₀ Bn W wr) := hk
    have HX : Hid (linesZ 0 zs = pre.map (fun x => x.1) ++ linesZ p (zs.drop p)) := hx
    have HR : Hid (Row wr a zs) := hrow
    have HM : Hid (Mx wr) := hmx
    have HY : Hid (∀ pre x W, J pre W → pre.length < (linesZ 0 zs).length → YieldAt Fence.wide (n - 1) Try.prog lp (encL b off cap x.1) W fun e W' =>
      (e = .returned (.bool true) ∧ J (pre ++ [x]) W' ∧ Kl n₀ Bn W W') ∨ (e = .returned (.bool false) ∧ Jx (pre ++ [x]) W')) := hY
    have HJ : Hid (J pre wr) := hJs
    have hsz : W.heap.size ≤ wr.heap.size := hk.1.size
    clear hk hx hrow hmx hY hJs
    by_cases hlt : p < len
    · have hlt' : (p : Int) < len := by omega
      have hd : decide ((p : Int) < (len : Int)) = true := by simpa using hlt'
      have hne : zs ≠ [] := by rintro rfl; simp at hlen; omega
      obtain rfl := ha hne
      have kc := conv_const wr #[.int .u8 13, .int .u8 10] 2 2 wr.heap.size rfl
      have hadd : (⟨b, off, none⟩ : Addr).add p = ⟨b, off + p, none⟩ := add_plain b off p
      have hdne : zs.drop p ≠ [] := by intro h; have := congrArg List.length h; simp at this; omega
      have hdl : (zs.drop p).length = len - p := by rw [List.length_drop, hlen]
      gi_wp2_with fail
      refine ⟨trivial, (callsIn_wide.2 (cut_any (some ⟨b, off + p, none⟩) (some ⟨wr.heap.size, 0, none⟩) (len - p) (cap - p) 2 (zs.drop p) (wr.alloc (.cells #[.int .u8 13, .int .u8 10] 5 (2, 3))) hdl (hz.drop p) ?r1 (row_mark wr [13, 10] (2, 3)) (by simp) (by omega) (by omega) (HM.out.keep (keep wr _)))).mono ?_⟩
      case r1 =>
        have h := row_drop (n := p) (cap := cap) HR.out (by omega)
        rw [if_neg (by omega)] at h
        simp only [Option.map_some, hadd] at h
        exact row_below h (keep wr _)
      rintro e w1 ⟨rfl, hq⟩
      have hg1 : wr.grownBy w1 none := by
        obtain ⟨q, rfl⟩ := hq
        have h := World.grownBy_alloc wr (.cells #[.int .u8 13, .int .u8 10] 5 (2, 3)) none
        exact ⟨h.os, h.tape, h.output, h.size, h.block⟩
      have hJ1 : J pre w1 := hJ pre wr w1 none HJ.out hg1 (by simp)
      have HK1 : Hid (Kl n₀ Bn W w1) := HK.out.t ⟨(Below.refl _ _).grown hg1 (by omega) (by simp), hg1.block Bn (by omega) (by simp)⟩
      clear hq hg1 kc
      by_cases hi : 0 ≤ pairI (zs.drop p)
      · have hroom := pairI_room _ hi
        have HL := linesZ_pair p (zs.drop p) hi
        obtain ⟨i, hii⟩ : ∃ i : Nat, pairI (zs.drop p) = i := ⟨(pairI (zs.drop p)).toNat, by omega⟩
        rw [hii] at hroom HL ⊢
        rw [hdl] at hroom
        simp only [Int.toNat_natCast, List.drop_drop] at HL
        have HLH : Hid (linesZ p (zs.drop p) = (p, i, true) :: linesZ (p + i + 2) (zs.drop (p + (i + 2)))) := HL
        obtain ⟨r, hr⟩ : ∃ r, Lib.fromV (some ⟨b, off + p, none⟩) (len - p) (cap - p) (i + 2) = r := ⟨_, rfl⟩
        have hcut : Lib.cutV (some ⟨b, off + p, none⟩) (len - p) (cap - p) 2 (i : Int) = .tuple #[.slice (some ⟨b, off + p, none⟩) i (cap - p), r, .bool true] := by simp [Lib.cutV, ← hr]
        rw [hcut]
        clear hcut hr HL hii hi
        have hx1 : p + i ≤ len := by omega
        obtain ⟨fn, tmps, assign, body, hy, hRd⟩ := HY.out pre ⟨(p, i, true), hlt, hx1⟩ w1 hJ1 (by rw [HX.out, HLH.out]; simp)
        simp only [encL] at hy
        gi_wp2
        refine hRd.mono ?_
        rintro e W3 (⟨rfl, hJ3, hk3⟩ | ⟨rfl, hJx3⟩)
        · clear hy hRd
          gi_wp2
          go_roundw
          case rel => exact ⟨p + i + 2, pre ++ [⟨(p, i, true), hlt, hx1⟩], by rw [show ((p + i + 2 : Nat) : Int) = (p : Int) + ((i : Int) + 2) from by omega], by omega, by rw [HX.out, HLH.out]; simp [Nat.add_assoc], hJ3, HK1.out.t hk3⟩
          case measure => simp [intOf]; omega
        · clear hy hRd
          gi_wp2
          refine bodyPost_ret (results_none rfl _ _ _) rfl ?_
          exact ⟨⟨_, rfl⟩, .inr ⟨pre ++ [⟨(p, i, true), hlt, hx1⟩], ⟨linesZ (p + i + 2) (zs.drop (p + (i + 2))), by rw [HX.out, HLH.out]; simp⟩, hJx3⟩⟩
      · have HLH : Hid (linesZ p (zs.drop p) = [(p, len - p, false)]) := by unfold Hid; rw [linesZ_last p _ hdne hi, hdl]
        have hcut : Lib.cutV (some ⟨b, off + p, none⟩) (len - p) (cap - p) 2 (pairI (zs.drop p)) = .tuple #[.slice (some ⟨b, off + p, none⟩) (len - p) (cap - p), .slice none 0 0, .bool false] := by simp only [Lib.cutV, if_neg hi]
        rw [hcut]
        clear hcut hi
        have hx1 : p + (len - p) ≤ len := by omega
        obtain ⟨fn, tmps, assign, body, hy, hRd⟩ := HY.out pre ⟨(p, len - p, false), hlt, hx1⟩ w1 hJ1 (by rw [HX.out, HLH.out]; simp)
        simp only [encL] at hy
        gi_wp2
        refine hRd.mono ?_
        rintro e W3 (⟨rfl, hJ3, hk3⟩ | ⟨rfl, hJx3⟩)
        · clear hy hRd
          gi_wp2
          refine bodyPost_ret (results_none rfl _ _ _) rfl ?_
          exact ⟨⟨_, rfl⟩, .inl ⟨pre ++ [⟨(p, len - p, false), hlt, hx1⟩], by rw [HX.out, HLH.out]; simp, hJ3⟩⟩
        · clear hy hRd
          gi_wp2
          refine bodyPost_ret (results_none rfl _ _ _) rfl ?_
          exact ⟨⟨_, rfl⟩, .inr ⟨pre ++ [⟨(p, len - p, false), hlt, hx1⟩], ⟨[], by rw [HX.out, HLH.out]; simp⟩, hJx3⟩⟩
    · have hd : decide ((p : Int) < (len : Int)) = false := by simp; omega
      gi_wp2
      go_end0
      refine ⟨⟨_, rfl⟩, .inl ⟨pre, ?_, HJ.out⟩⟩
      have : zs.drop p = [] := List.drop_eq_nil_of_le (by omega)
      rw [HX.out, this, linesZ_nil, List.append_nil]

set_option maxHeartbeats 1000000 in
theorem lines_in (n len cap : Nat) (a : Option Addr) (w : World) :
    CallsIn Fence.wide n Try.prog 19 #[.slice a len cap] w fun e w' => e = .returned (.func (.func 28) #[] #[.pointer (some ⟨w.heap.size, 0, none⟩)]) ∧ w' = w.alloc (.cells #[.slice a len cap] 22) := by
  refine callsIn_of_wp Try.func19 rfl trivial ?_ rfl
  simp only [Try.ntmps19, List.size_toArray, List.length_cons, List.length_nil, Nat.reduceAdd, Nat.reduceSub, Array.replicate_succ, Array.replicate_zero, List.push_toArray, List.append_toArray, List.nil_append, List.cons_append]
  gi_wp2
  go_ret
  exact ⟨rfl, rfl⟩

theorem lines_stops (n : Nat) (hn : 1 ≤ n) (Bn n₀ b off len cap : Nat) (a : Option Addr) (zs : List Int) (hlen : zs.length = len) (hcap : len ≤ cap) (hnil : a = none → cap = 0) (hbig : len ≤ 1000000) (hz : Byt zs) (ha : zs ≠ [] → a = some ⟨b, off, none⟩) (hpos : 0 < n₀)
    (w : World) (hn₀ : n₀ ≤ w.heap.size) (hBn : w.cell? ⟨Bn, 0, none⟩ = some (.slice a len cap)) (hR : ∀ W', Below n₀ w W' → Row W' a zs) (hm : Mx w) :
    SeqStopsK Fence.wide n Try.prog 28 #[.pointer (some ⟨Bn, 0, none⟩)] (fun x : Ln len => encL b off cap x.1) (Kl n₀ Bn) (fun ys => ys.map (fun x => x.1) = linesZ 0 zs) (fun pre => pre.map (fun x => x.1) <+: linesZ 0 zs) (linesZ 0 zs).length w := fun l J Jx W hW hJ _ hY h0 =>
  lines1_in n hn l Bn n₀ b off len cap a zs hlen hcap hnil hbig hz ha hpos J Jx W hJ hY ((hW.cell (p := ⟨Bn, 0, none⟩) (World.block_lt_of_cell? w _ hBn)).trans hBn) (fun W' h => hR W' ((hW.mono hn₀).trans h)) (hm.keep hW) (Nat.le_trans hn₀ hW.size) h0

/-- The place of the first 13 or 10, from k on counted, or -1. -/
def bareAt (k : Nat) : List Int → Int
  | [] => -1
  | c :: l => if c = 13 ∨ c = 10 then (k : Int) else bareAt (k + 1) l

set_option maxHeartbeats 1000000 in
theorem ofPair_any (c : Int) (w : World) : Calls Try.prog 21 #[.int .u8 c] w fun e w' => e = .returned (.bool (decide (c = 13 ∨ c = 10))) ∧ w = w' := by
  by_cases h1 : c = 13
  · subst h1
    go_enter Try.func21, Try.ntmps21
    go_wp2
    go_ret
    exact ⟨rfl, rfl⟩
  · have h1' : (c == 13) = false := by rw [beq_eq_false_iff_ne]; exact h1
    go_enter Try.func21, Try.ntmps21
    go_wp2
    go_ret
    refine ⟨ret_bool ?_, rfl⟩
    by_cases h2 : c = 10 <;> simp [h1, h2]

set_option maxHeartbeats 1000000 in
theorem indexFunc_any (a : Option Addr) (n c : Nat) (l : List Int) (w : World) (hl : l.length = n) (hr : Row w a l) (hn : n ≤ 10000000) :
    Calls Try.prog 20 #[.slice a n c, .func (.func 21) #[] #[]] w fun e w' => e = .returned (.int .i64 (bareAt 0 l)) ∧ w = w' := by
  have HR : Hid (Row w a l) := hr
  clear hr
  go_enter Try.func20, Try.ntmps20
  go_wp2_with fail
  go_loopw [8] (fun v wr => ∃ k : Nat, v = .int .i64 k ∧ k ≤ n ∧ bareAt 0 l = bareAt k (l.drop k) ∧ w = wr) (fun v _ => n - (intOf v).toNat)
  case atStart => exact ⟨0, rfl, by omega, by simp, rfl⟩
  case round =>
    obtain ⟨k, rfl, hk, hb, rfl⟩ := hrel
    have HB : Hid (bareAt 0 l = bareAt k (l.drop k)) := hb
    clear hb
    by_cases hlt : k < n
    · have hd : decide ((k : Int) < (n : Int)) = true := by simp; omega
      have hlt' : k < l.length := by omega
      obtain ⟨x, hx⟩ : ∃ x, l[k]'hlt' = x := ⟨_, rfl⟩
      have hdr : l.drop k = x :: l.drop (k + 1) := by rw [List.drop_eq_getElem_cons hlt', hx]
      have HD : Hid (l.drop k = x :: l.drop (k + 1)) := hdr
      clear hdr
      rcases HR.out with rfl | ⟨b, off, rfl, hc⟩
      · simp at hlt'
      · have hck : w.cell? ⟨b, off + k, none⟩ = some (.int .u8 x) := by rw [hc k hlt']; simp [List.getD_eq_getElem?_getD, List.getElem?_eq_getElem hlt', hx]
        have hadd : (⟨b, off, none⟩ : Addr).add k = ⟨b, off + k, none⟩ := add_plain b off k
        clear hc
        by_cases hp : x = 13 ∨ x = 10
        · have hpd : decide (x = 13 ∨ x = 10) = true := by simpa using hp
          go_wp2_with (go_at_call 21; refine (ofPair_any _ _).mono ?_; rintro e w' ⟨rfl, rfl⟩; rw [hpd])
          go_ret
          refine ⟨ret_int ?_, rfl⟩
          rw [HB.out, HD.out, bareAt, if_pos hp]
        · have hpd : decide (x = 13 ∨ x = 10) = false := by simpa using hp
          go_wp2_with (go_at_call 21; refine (ofPair_any _ _).mono ?_; rintro e w' ⟨rfl, rfl⟩; rw [hpd])
          go_roundw
          case rel => exact ⟨k + 1, by rw [show ((k + 1 : Nat) : Int) = (k : Int) + 1 from by omega], by omega, by rw [HB.out, HD.out, bareAt, if_neg hp], trivial⟩
          case measure => simp [intOf]; omega
    · have hd : decide ((k : Int) < (n : Int)) = false := by simp; omega
      go_wp2
      go_ret
      refine ⟨ret_int ?_, rfl⟩
      rw [HB.out, List.drop_eq_nil_of_le (by omega)]; rfl
end Go.Proofs.Ytlpbgfepneoajaa
