/-
  The iterator over a header's lines: its contract.
-/
import Derived.RangeFuncNested
import Derived.RangeFuncBound
import Derived.RangeFuncCalls
import Derived.RangeFuncLeaves
import Derived.WalkKit
import Derived.OwnWalkIn
import Derived.TacticsInMore
import Derived.LoopNIn
import Derived.LoopIn
import Derived.Test.YtmdkmedlncfcbaaGreatDoorBegin
namespace Go.Proofs.YtmdkmedlncfcbaaGreatDoor
open Go.RowKit
set_option linter.unusedVariables false
attribute [local go_sem] Oper.semAt_some

/-- A header's lines: where each begins, how many bytes it has, and whether it is ended; the last one is not, and may be empty. -/
def linesFN : Nat → Nat → List Int → List (Nat × Nat × Bool)
  | 0, _, _ => []
  | n + 1, p, l => if 0 ≤ pairI l then (p, (pairI l).toNat, true) :: linesFN n (p + (pairI l).toNat + 2) (l.drop ((pairI l).toNat + 2)) else [(p, l.length, false)]
def linesF (p : Nat) (l : List Int) : List (Nat × Nat × Bool) := linesFN (l.length + 1) p l
theorem linesFN_enough : ∀ (n m p : Nat) (l : List Int), l.length < n → l.length < m → linesFN n p l = linesFN m p l
  | 0, _, _, _, h, _ => by omega
  | n + 1, 0, _, _, _, h => by omega
  | n + 1, m + 1, p, l, h1, h2 => by
    rw [linesFN, linesFN]
    by_cases hp : 0 ≤ pairI l
    · have := pairI_room l hp
      rw [if_pos hp, if_pos hp, linesFN_enough n m _ _ (by simp only [List.length_drop]; omega) (by simp only [List.length_drop]; omega)]
    · rw [if_neg hp, if_neg hp]
theorem linesF_pair (p : Nat) (l : List Int) (h : 0 ≤ pairI l) : linesF p l = (p, (pairI l).toNat, true) :: linesF (p + (pairI l).toNat + 2) (l.drop ((pairI l).toNat + 2)) := by
  have := pairI_room l h
  unfold linesF
  rw [linesFN, if_pos h, linesFN_enough l.length _ _ _ (by simp only [List.length_drop]; omega) (Nat.lt_succ_self _)]
theorem linesF_last (p : Nat) (l : List Int) (h : ¬ 0 ≤ pairI l) : linesF p l = [(p, l.length, false)] := by
  unfold linesF
  rw [linesFN, if_neg h]
theorem linesF_len : ∀ (k p : Nat) (l : List Int), l.length ≤ k → 2 * (linesF p l).length ≤ l.length + 2
  | 0, p, l, h => by
    obtain rfl : l = [] := List.eq_nil_of_length_eq_zero (by omega)
    rw [linesF_last p [] (by simp [pairI])]; simp
  | k + 1, p, l, h => by
    by_cases hi : 0 ≤ pairI l
    · rw [linesF_pair p l hi]
      have hr := pairI_room l hi
      have := linesF_len k (p + (pairI l).toNat + 2) (l.drop ((pairI l).toNat + 2)) (by simp; omega)
      simp only [List.length_cons, List.length_drop] at this ⊢
      omega
    · rw [linesF_last p l hi]; simp

/-- A piece of bytes. -/
abbrev Ln (n : Nat) := { x : Nat × Nat × Bool // x.1 + x.2.1 ≤ n }
def dropA (a : Option Addr) (cap p : Nat) : Option Addr := if cap = p then a else Option.map (fun x => x.add p) a
def encL (a : Option Addr) (cap : Nat) (x : Nat × Nat × Bool) : Array Value := #[.int .i64 (x.1 : Nat), .agg #[.slice (dropA a cap x.1) x.2.1 (cap - x.1), .bool x.2.2]]
def Kl (n₀ Bn : Nat) (W W' : World) : Prop := Below n₀ W W' ∧ W'.heap[Bn]? = W.heap[Bn]?
theorem Kl.refl (n₀ Bn : Nat) (W : World) : Kl n₀ Bn W W := ⟨Below.refl _ _, rfl⟩
theorem Kl.t {n₀ Bn : Nat} {A B C : World} (h : Kl n₀ Bn A B) (k : Kl n₀ Bn B C) : Kl n₀ Bn A C := ⟨h.1.trans k.1, k.2.trans h.2⟩
theorem dropA_nil {a : Option Addr} {cap p : Nat} (h : a = none → cap = 0) : dropA a cap p = none → cap - p = 0 := by
  unfold dropA
  cases a with
  | none => intro _; have := h rfl; omega
  | some x => split <;> simp

def moreM (u : Value) (n : Nat) : Nat := match u with | .bool true => n | _ => 0
set_option maxRecDepth 100000 in
set_option maxHeartbeats 2000000 in
theorem lines1_in (n : Nat) (hn : 1 ≤ n) (lp Bn n₀ len cap : Nat) (a : Option Addr) (zs : List Int) (hlen : zs.length = len) (hcap : len ≤ cap) (hmc : cap ≤ 9223372036854775807) (hnil : a = none → cap = 0) (hbig : len ≤ 2000000) (hz : Byt zs) (hpos : 0 < n₀)
    (J Jx : List (Ln len) → World → Prop) (W : World) (hJ : AbidesFrom W.heap.size J)
    (hY : ∀ pre x W, J pre W → pre.length < (linesF 0 zs).length → YieldAt Fence.wide (n - 1) Tryz.prog lp (encL a cap x.1) W fun e W' =>
      (e = .returned (.bool true) ∧ J (pre ++ [x]) W' ∧ Kl n₀ Bn W W') ∨ (e = .returned (.bool false) ∧ Jx (pre ++ [x]) W'))
    (hBn : W.cell? ⟨Bn, 0, none⟩ = some (.slice a len cap)) (hR : ∀ W', Below n₀ W W' → Row W' a zs) (hm : Mx W) (hn₀ : n₀ ≤ W.heap.size) (h0 : J [] W) :
    CallsIn Fence.wide n Tryz.prog 106 #[.func (.yield lp) #[] #[], .pointer (some ⟨Bn, 0, none⟩)] W fun e W' => (∃ v, e = .returned v) ∧
      ((∃ ys, ys.map (fun x => x.1) = linesF 0 zs ∧ J ys W') ∨ (∃ pre, pre.map (fun x => x.1) <+: linesF 0 zs ∧ Jx pre W')) := by
  have hBl : Bn < W.heap.size := World.block_lt_of_cell? W _ hBn
  refine callsIn_of_wp Tryz.func106 rfl trivial ?_ rfl
  simp only [Tryz.ntmps106, List.size_toArray, List.length_cons, List.length_nil, Nat.reduceAdd, Nat.reduceSub, Array.replicate_succ, Array.replicate_zero, List.push_toArray, List.append_toArray, List.nil_append, List.cons_append]
  gi_wp2
  gi_loopw [3, 4] (fun v u wr => ∃ (p : Nat) (m : Bool) (pre : List (Ln len)), v = .int .i64 p ∧ u = .bool m ∧ p ≤ len + 2 ∧ (m = true → p ≤ len ∧ linesF 0 zs = pre.map (fun x => x.1) ++ linesF p (zs.drop p)) ∧ (m = false → linesF 0 zs = pre.map (fun x => x.1)) ∧ J pre wr ∧ Kl n₀ Bn W wr)
    (fun v u _ => moreM u (len + 5 - (intOf v).toNat))
  case atStart => exact ⟨0, true, [], rfl, rfl, by omega, fun _ => ⟨by omega, by simp⟩, fun h => by simp at h, h0, Kl.refl _ _ _⟩
  case round =>
    obtain ⟨p, m, pre, rfl, rfl, hp2, hmt, hmf, hJs, hk⟩ := hrel
    cases m with
    | false =>
      have HX : Hid (linesF 0 zs = pre.map (fun x => x.1)) := hmf rfl
      clear hmt hmf
      gi_wp2
      go_end0
      exact ⟨⟨_, rfl⟩, .inl ⟨pre, HX.out.symm, hJs⟩⟩
    | true =>
    obtain ⟨hp, hx⟩ := hmt rfl
    clear hmt hmf
    have hc : wr.cell? ⟨Bn, 0, none⟩ = some (.slice a len cap) := (World.cell?_of_block (w := W) hk.2).trans hBn
    have hrow := hR wr hk.1
    have hmx := hm.below hk.1 hpos
    have HK : Hid (Kl n₀ Bn W wr) := hk
    have HX : Hid (linesF 0 zs = pre.map (fun x => x.1) ++ linesF p (zs.drop p)) := hx
    have HR : Hid (Row wr a zs) := hrow
    have HM : Hid (Mx wr) := hmx
    have HY : Hid (∀ pre x W, J pre W → pre.length < (linesF 0 zs).length → YieldAt Fence.wide (n - 1) Tryz.prog lp (encL a cap x.1) W fun e W' =>
      (e = .returned (.bool true) ∧ J (pre ++ [x]) W' ∧ Kl n₀ Bn W W') ∨ (e = .returned (.bool false) ∧ Jx (pre ++ [x]) W')) := hY
    have HJ : Hid (J pre wr) := hJs
    have hsz : W.heap.size ≤ wr.heap.size := hk.1.size
    clear hk hx hrow hmx hY hJs
    have kc := conv_const wr #[.int .u8 13, .int .u8 10] 2 2 wr.heap.size rfl
    have hdl : (zs.drop p).length = len - p := by rw [List.length_drop, hlen]
    by_cases hcp : cap = p
    · have hlp : len = p := by omega
      subst hcp
      subst hlp
      have hdn : zs.drop len = [] := List.drop_eq_nil_of_le (by omega)
      have HLH : Hid (linesF len (zs.drop len) = [(len, 0, false)]) := by unfold Hid; rw [hdn, linesF_last len [] (by simp [pairI])]; rfl
      have hda : dropA a len len = a := by rw [dropA, if_pos rfl]
      gi_wp2_with fail
      refine ⟨trivial, (callsIn_wide.2 (cut_any a (some ⟨wr.heap.size, 0, none⟩) 0 0 2 [] (wr.alloc (.cells #[.int .u8 13, .int .u8 10] 5 (2, 3))) rfl (by intro x hx; simp at hx) (.inl rfl) (row_mark wr [13, 10] (2, 3)) (fun _ => rfl) (by omega) (by omega) (HM.out.keep (keep wr _)))).mono ?_⟩
      rintro e w1 ⟨rfl, hqt⟩
      have hg1 : wr.grownBy w1 none := by
        obtain ⟨q', rfl⟩ := hqt
        have h := World.grownBy_alloc wr (.cells #[.int .u8 13, .int .u8 10] 5 (2, 3)) none
        exact ⟨h.os, h.tape, h.output, h.size, h.block⟩
      have hJ1 : J pre w1 := hJ pre wr w1 none HJ.out hg1 (by simp)
      have HK1 : Hid (Kl n₀ Bn W w1) := HK.out.t ⟨(Below.refl _ _).grown hg1 (by omega) (by simp), hg1.block Bn (by omega) (by simp)⟩
      clear hqt hg1 kc
      have hcut : Lib.cutV a 0 0 2 (pairI []) = .tuple #[.slice a 0 0, .slice none 0 0, .bool false] := by rfl
      rw [hcut]
      clear hcut
      have hx1 : len + 0 ≤ len := by omega
      obtain ⟨fn, tmps, assign, body, hy, hRd⟩ := HY.out pre ⟨(len, 0, false), hx1⟩ w1 hJ1 (by rw [HX.out, HLH.out]; simp)
      simp only [encL] at hy
      rw [hda, Nat.sub_self] at hy
      gi_wp2
      refine hRd.mono ?_
      rintro e W3 (⟨rfl, hJ3, hk3⟩ | ⟨rfl, hJx3⟩)
      · clear hy hRd
        gi_wp2
        go_roundw
        case rel => exact ⟨len + 2, false, pre ++ [⟨(len, 0, false), hx1⟩], by congr 1, rfl, by omega, fun h => by simp at h, fun _ => by rw [HX.out, HLH.out]; simp, hJ3, HK1.out.t hk3⟩
        case measure => simp [intOf, moreM]
      · clear hy hRd
        gi_wp2
        refine bodyPost_ret (results_none rfl _ _ _) rfl ?_
        exact ⟨⟨_, rfl⟩, .inr ⟨pre ++ [⟨(len, 0, false), hx1⟩], ⟨[], by rw [HX.out, HLH.out]; simp⟩, hJx3⟩⟩
    have hda : dropA a cap p = Option.map (fun x => x.add p) a := by rw [dropA, if_neg hcp]
    obtain ⟨q, hq⟩ : ∃ q, dropA a cap p = q := ⟨_, rfl⟩
    have hqn : q = none → cap - p = 0 := by rw [← hq]; exact dropA_nil hnil
    have hqr : Row wr q (zs.drop p) := by rw [← hq]; exact row_drop (n := p) (cap := cap) HR.out (by omega)
    have hqa : Option.map (fun x => x.add p) a = q := by rw [← hda, hq]
    have HQ : Hid (dropA a cap p = q) := hq
    clear hda hq
    gi_wp2_with fail
    clear hqa
    refine ⟨trivial, (callsIn_wide.2 (cut_any q (some ⟨wr.heap.size, 0, none⟩) (len - p) (cap - p) 2 (zs.drop p) (wr.alloc (.cells #[.int .u8 13, .int .u8 10] 5 (2, 3))) hdl (hz.drop p) (row_below hqr (keep wr _)) (row_mark wr [13, 10] (2, 3)) hqn (by omega) (by omega) (HM.out.keep (keep wr _)))).mono ?_⟩
    rintro e w1 ⟨rfl, hqt⟩
    have hg1 : wr.grownBy w1 none := by
      obtain ⟨q', rfl⟩ := hqt
      have h := World.grownBy_alloc wr (.cells #[.int .u8 13, .int .u8 10] 5 (2, 3)) none
      exact ⟨h.os, h.tape, h.output, h.size, h.block⟩
    have hJ1 : J pre w1 := hJ pre wr w1 none HJ.out hg1 (by simp)
    have HK1 : Hid (Kl n₀ Bn W w1) := HK.out.t ⟨(Below.refl _ _).grown hg1 (by omega) (by simp), hg1.block Bn (by omega) (by simp)⟩
    clear hqt hg1 kc hqr hqn
    by_cases hi : 0 ≤ pairI (zs.drop p)
    · have hroom := pairI_room _ hi
      have HL := linesF_pair p (zs.drop p) hi
      obtain ⟨i, hii⟩ : ∃ i : Nat, pairI (zs.drop p) = i := ⟨(pairI (zs.drop p)).toNat, by omega⟩
      rw [hii] at hroom HL ⊢
      rw [hdl] at hroom
      simp only [Int.toNat_natCast, List.drop_drop] at HL
      have HLH : Hid (linesF p (zs.drop p) = (p, i, true) :: linesF (p + i + 2) (zs.drop (p + (i + 2)))) := HL
      obtain ⟨r, hr⟩ : ∃ r, Lib.fromV q (len - p) (cap - p) (i + 2) = r := ⟨_, rfl⟩
      have hcut : Lib.cutV q (len - p) (cap - p) 2 (i : Int) = .tuple #[.slice q i (cap - p), r, .bool true] := by simp [Lib.cutV, ← hr]
      rw [hcut]
      clear hcut hr HL hii hi
      have hx1 : p + i ≤ len := by omega
      obtain ⟨fn, tmps, assign, body, hy, hRd⟩ := HY.out pre ⟨(p, i, true), hx1⟩ w1 hJ1 (by rw [HX.out, HLH.out]; simp)
      simp only [encL] at hy
      rw [HQ.out] at hy
      gi_wp2
      refine hRd.mono ?_
      rintro e W3 (⟨rfl, hJ3, hk3⟩ | ⟨rfl, hJx3⟩)
      · clear hy hRd
        gi_wp2
        go_roundw
        case rel => exact ⟨p + i + 2, true, pre ++ [⟨(p, i, true), hx1⟩], by rw [show ((p + i + 2 : Nat) : Int) = (p : Int) + ((i : Int) + 2) from by omega], rfl, by omega, fun _ => ⟨by omega, by rw [HX.out, HLH.out]; simp [Nat.add_assoc]⟩, fun h => by simp at h, hJ3, HK1.out.t hk3⟩
        case measure => simp [intOf, moreM]; omega
      · clear hy hRd
        gi_wp2
        refine bodyPost_ret (results_none rfl _ _ _) rfl ?_
        exact ⟨⟨_, rfl⟩, .inr ⟨pre ++ [⟨(p, i, true), hx1⟩], ⟨linesF (p + i + 2) (zs.drop (p + (i + 2))), by rw [HX.out, HLH.out]; simp⟩, hJx3⟩⟩
    · have HLH : Hid (linesF p (zs.drop p) = [(p, len - p, false)]) := by unfold Hid; rw [linesF_last p _ hi, hdl]
      have hcut : Lib.cutV q (len - p) (cap - p) 2 (pairI (zs.drop p)) = .tuple #[.slice q (len - p) (cap - p), .slice none 0 0, .bool false] := by simp only [Lib.cutV, if_neg hi]
      rw [hcut]
      clear hcut hi
      have hx1 : p + (len - p) ≤ len := by omega
      obtain ⟨fn, tmps, assign, body, hy, hRd⟩ := HY.out pre ⟨(p, len - p, false), hx1⟩ w1 hJ1 (by rw [HX.out, HLH.out]; simp)
      simp only [encL] at hy
      rw [HQ.out] at hy
      gi_wp2
      refine hRd.mono ?_
      rintro e W3 (⟨rfl, hJ3, hk3⟩ | ⟨rfl, hJx3⟩)
      · clear hy hRd
        gi_wp2
        go_roundw
        case rel => exact ⟨len + 2, false, pre ++ [⟨(p, len - p, false), hx1⟩], by congr 1; omega, rfl, by omega, fun h => by simp at h, fun _ => by rw [HX.out, HLH.out]; simp, hJ3, HK1.out.t hk3⟩
        case measure => simp [intOf, moreM]; omega
      · clear hy hRd
        gi_wp2
        refine bodyPost_ret (results_none rfl _ _ _) rfl ?_
        exact ⟨⟨_, rfl⟩, .inr ⟨pre ++ [⟨(p, len - p, false), hx1⟩], ⟨[], by rw [HX.out, HLH.out]; simp⟩, hJx3⟩⟩

set_option maxHeartbeats 1000000 in
theorem lines_in (n len cap : Nat) (a : Option Addr) (w : World) :
    CallsIn Fence.wide n Tryz.prog 62 #[.slice a len cap] w fun e w' => e = .returned (.func (.func 106) #[] #[.pointer (some ⟨w.heap.size, 0, none⟩)]) ∧ w' = w.alloc (.cells #[.slice a len cap] 22) := by
  refine callsIn_of_wp Tryz.func62 rfl trivial ?_ rfl
  simp only [Tryz.ntmps62, List.size_toArray, List.length_cons, List.length_nil, Nat.reduceAdd, Nat.reduceSub, Array.replicate_succ, Array.replicate_zero, List.push_toArray, List.append_toArray, List.nil_append, List.cons_append]
  gi_wp2
  go_ret
  exact ⟨rfl, rfl⟩

theorem lines_stops (n : Nat) (hn : 1 ≤ n) (Bn n₀ len cap : Nat) (a : Option Addr) (zs : List Int) (hlen : zs.length = len) (hcap : len ≤ cap) (hmc : cap ≤ 9223372036854775807) (hnil : a = none → cap = 0) (hbig : len ≤ 2000000) (hz : Byt zs) (hpos : 0 < n₀)
    (w : World) (hn₀ : n₀ ≤ w.heap.size) (hBn : w.cell? ⟨Bn, 0, none⟩ = some (.slice a len cap)) (hR : ∀ W', Below n₀ w W' → Row W' a zs) (hm : Mx w) :
    SeqStopsK Fence.wide n Tryz.prog 106 #[.pointer (some ⟨Bn, 0, none⟩)] (fun x : Ln len => encL a cap x.1) (Kl n₀ Bn) (fun ys => ys.map (fun x => x.1) = linesF 0 zs) (fun pre => pre.map (fun x => x.1) <+: linesF 0 zs) (linesF 0 zs).length w := fun l J Jx W hW hJ _ hY h0 =>
  lines1_in n hn l Bn n₀ len cap a zs hlen hcap hmc hnil hbig hz hpos J Jx W hJ hY ((hW.cell (p := ⟨Bn, 0, none⟩) (World.block_lt_of_cell? w _ hBn)).trans hBn) (fun W' h => hR W' ((hW.mono hn₀).trans h)) (hm.keep hW) (Nat.le_trans hn₀ hW.size) h0
end Go.Proofs.YtmdkmedlncfcbaaGreatDoor
