/-
  The frame of a text: lines, Right, Stuff, and what a reader makes of a frame.
-/
import Derived.Shelf.LaysM
import Derived.Ground.NamesProg
import Derived.Ground.SlbtProg
import Derived.Shelf.Bytes.SlCut
import Derived.Test.YtbckbonffajmeaaGreatDoorStr
import Derived.Test.YtbckbonffajmeaaGreatDoorBase
import Derived.Lib.Index
import Derived.Lib.Bytes
import Derived.RangeFuncNested
import Derived.RangeFuncBound
import Derived.RangeFuncCalls
import Derived.RangeFuncLeaves
import Derived.Shelf.Abstract
import Derived.Shelf.RegionOpen
import Derived.WalkKit
import Derived.OwnWalkIn
import Derived.TacticsInMore
import Derived.LoopNIn
import Derived.LoopIn
import Derived.Test.YtbckbonffajmeaaGreatDoorDEnd
import Derived.Scope
import Derived.Lib.AppendStr
import Derived.Test.YtbckbonffajmeaaGreatDoorDText
namespace Go.Proofs.YtbckbonffajmeaaGreatDoor.Dt
open Go.Shelf
def laysM185_ren : Go.Shelf.Ren := ⟨fun | 185 => 90 | 187 => 113 | 115 => 114 | 253 => 115 | 224 => 116 | 254 => 117 | 255 => 140 | 291 => 141 | n => n, fun | 37 => 33 | 3 => 3 | 4 => 4 | 0 => 0 | 5 => 5 | 46 => 144 | 9 => 9 | 146 => 165 | 51 => 164 | n => n, fun | 1 => 0 | n => n⟩
theorem laysM185 : Go.Proofs.LaysM.n185 Tryz.prog laysM185_ren := {
  mixed := by kernel_rfl
  f115 := Tryz.func114.trans (congrArg some (by kernel_rfl))
  f185 := Tryz.func90.trans (congrArg some (by kernel_rfl))
  f187 := Tryz.func113.trans (congrArg some (by kernel_rfl))
  f224 := Tryz.func116.trans (congrArg some (by kernel_rfl))
  f253 := Tryz.func115.trans (congrArg some (by kernel_rfl))
  f254 := Tryz.func117.trans (congrArg some (by kernel_rfl))
  f255 := Tryz.func140.trans (congrArg some (by kernel_rfl))
  f291 := Tryz.func141.trans (congrArg some (by kernel_rfl))
  t0 := Tryz.underlying0
  a0 := Tryz.isAgg0
  z0 := Tryz.sizeOf0
  v0 := Tryz.zeroValue0
  t3 := Tryz.underlying3
  a3 := Tryz.isAgg3
  z3 := Tryz.sizeOf3
  v3 := Tryz.zeroValue3
  t4 := Tryz.underlying4
  a4 := Tryz.isAgg4
  z4 := Tryz.sizeOf4
  v4 := Tryz.zeroValue4
  t5 := Tryz.underlying5
  a5 := Tryz.isAgg5
  z5 := Tryz.sizeOf5
  v5 := Tryz.zeroValue5
  t9 := Tryz.underlying9
  a9 := Tryz.isAgg9
  z9 := Tryz.sizeOf9
  v9 := Tryz.zeroValue9
  t37 := Tryz.underlying33
  a37 := Tryz.isAgg33
  z37 := Tryz.sizeOf33
  v37 := Tryz.zeroValue33
  t46 := Tryz.underlying144
  a46 := Tryz.isAgg144
  z46 := Tryz.sizeOf144
  v46 := Tryz.zeroValue144
  t51 := Tryz.underlying164
  a51 := Tryz.isAgg164
  z51 := Tryz.sizeOf164
  v51 := Tryz.zeroValue164
  t146 := Tryz.underlying165
  a146 := Tryz.isAgg165
  z146 := Tryz.sizeOf165
  v146 := Tryz.zeroValue165
  g1 := by kernel_rfl
  i0 := by kernel_rfl
  i3 := by kernel_rfl
  i4 := by kernel_rfl
  i5 := by kernel_rfl
  i9 := by kernel_rfl
  i37 := by kernel_rfl
  i46 := by kernel_rfl
  i51 := by kernel_rfl
  i146 := by kernel_rfl
  m1 := by kernel_rfl
  s1_3 := fun w h => Go.Proofs.cell_of_shapedOpen_int (zero := #[.int .i64 0]) (t := 3) h (of_decide_eq_true (by kernel_rfl)) (by kernel_rfl) rfl (by kernel_rfl) (by kernel_rfl) Tryz.underlying3 }
def laysSlT4_ren : Go.Shelf.Ren := ⟨fun | 4 => 73 | 5 => 90 | 6 => 113 | 7 => 114 | 8 => 115 | 9 => 116 | 10 => 117 | 11 => 140 | 12 => 141 | n => n, fun | 22 => 33 | 4 => 4 | 3 => 3 | 0 => 0 | 5 => 5 | 29 => 144 | 9 => 9 | 31 => 165 | 30 => 164 | n => n, fun | 0 => 0 | n => n⟩
theorem laysSlT4 : Go.Proofs.SlLaysT.n4 Tryz.prog laysSlT4_ren := {
  mixed := by kernel_rfl
  f4 := Tryz.func73.trans (congrArg some (by kernel_rfl))
  f5 := Tryz.func90.trans (congrArg some (by kernel_rfl))
  f6 := Tryz.func113.trans (congrArg some (by kernel_rfl))
  f7 := Tryz.func114.trans (congrArg some (by kernel_rfl))
  f8 := Tryz.func115.trans (congrArg some (by kernel_rfl))
  f9 := Tryz.func116.trans (congrArg some (by kernel_rfl))
  f10 := Tryz.func117.trans (congrArg some (by kernel_rfl))
  f11 := Tryz.func140.trans (congrArg some (by kernel_rfl))
  f12 := Tryz.func141.trans (congrArg some (by kernel_rfl))
  t0 := Tryz.underlying0
  a0 := Tryz.isAgg0
  z0 := Tryz.sizeOf0
  v0 := Tryz.zeroValue0
  t3 := Tryz.underlying3
  a3 := Tryz.isAgg3
  z3 := Tryz.sizeOf3
  v3 := Tryz.zeroValue3
  t4 := Tryz.underlying4
  a4 := Tryz.isAgg4
  z4 := Tryz.sizeOf4
  v4 := Tryz.zeroValue4
  t5 := Tryz.underlying5
  a5 := Tryz.isAgg5
  z5 := Tryz.sizeOf5
  v5 := Tryz.zeroValue5
  t9 := Tryz.underlying9
  a9 := Tryz.isAgg9
  z9 := Tryz.sizeOf9
  v9 := Tryz.zeroValue9
  t22 := Tryz.underlying33
  a22 := Tryz.isAgg33
  z22 := Tryz.sizeOf33
  v22 := Tryz.zeroValue33
  t29 := Tryz.underlying144
  a29 := Tryz.isAgg144
  z29 := Tryz.sizeOf144
  v29 := Tryz.zeroValue144
  t30 := Tryz.underlying164
  a30 := Tryz.isAgg164
  z30 := Tryz.sizeOf164
  v30 := Tryz.zeroValue164
  t31 := Tryz.underlying165
  a31 := Tryz.isAgg165
  z31 := Tryz.sizeOf165
  v31 := Tryz.zeroValue165
  g0 := by kernel_rfl }
set_option maxRecDepth 100000 in
theorem bytes_Cut_all (p1 p2 : Option Addr) (n c1 k c2 : Nat) (xs ys : List Int) (m : Int) (w : World) (hx : xs.length = n) (hy : ys.length = k) (hr1 : ∀ x ∈ xs, 0 ≤ x ∧ x < 256) (hr2 : ∀ y ∈ ys, 0 ≤ y ∧ y < 256) (h1 : Lib.BytesIn w p1 n xs) (h2 : Lib.BytesIn w p2 k ys) (hp1 : p1 = none → c1 = 0) (hcap : n ≤ c1) (hs : n < 4294967281) (hk : k ≤ 9223372036854775807) (hm : w.cell? ⟨0, 0, none⟩ = some (.int .i64 m)) :
    Calls Tryz.prog 73 #[.slice p1 n c1, .slice p2 k c2] w fun e w' => e = .returned (Lib.cutV p1 n c1 k (Lib.index (Lib.bytesOf xs) (Lib.bytesOf ys))) ∧ ∃ q, w' = w.drewN q := Any.bytes_Cut_all laysSlT4 p1 p2 n c1 k c2 xs ys m w hx hy hr1 hr2 h1 h2 hp1 hcap hs hk hm
end Go.Proofs.YtbckbonffajmeaaGreatDoor.Dt
namespace Go.Proofs.YtbckbonffajmeaaGreatDoor.Dt
open Go.RowKit
set_option linter.unusedVariables false

/-- The place of the first pair, or -1. -/
def pairI : List Int → Int
  | [] => -1
  | c :: l => if c = 13 ∧ l.head? = some 10 then 0 else if pairI l = -1 then -1 else pairI l + 1

theorem pairI_ge : ∀ l : List Int, -1 ≤ pairI l
  | [] => by simp [pairI]
  | c :: l => by
    have := pairI_ge l
    unfold pairI
    split
    · omega
    · split <;> omega
theorem pairI_room : ∀ l : List Int, 0 ≤ pairI l → pairI l + 2 ≤ l.length
  | [], h => by simp [pairI] at h
  | c :: l, h => by
    have ih := pairI_room l
    have hg := pairI_ge l
    unfold pairI at h ⊢
    by_cases h1 : c = 13 ∧ l.head? = some 10
    · rw [if_pos h1]
      cases l with
      | nil => simp at h1
      | cons d l => simp; omega
    · rw [if_neg h1] at h ⊢
      by_cases h2 : pairI l = -1
      · rw [if_pos h2] at h; omega
      · rw [if_neg h2] at h ⊢
        have := ih (by omega)
        simp only [List.length_cons]
        omega
theorem index_pair : ∀ l : List Int, Byt l → Lib.index (Lib.bytesOf l) (Lib.bytesOf [13, 10]) = pairI l
  | [], _ => rfl
  | c :: l, h => by
    have ih := index_pair l h.tail
    have hc := h.head
    have e1 : ((13 : UInt8) == UInt8.ofNat c.toNat) = decide (c = 13) := by
      have := eq_byte (a := 13) (b := c) (by decide) (by decide) hc.1 hc.2
      rw [show UInt8.ofNat (13 : Int).toNat = 13 from rfl] at this
      rw [this]; exact decide_eq_decide.2 ⟨fun h => h.symm, fun h => h.symm⟩
    have e2 : List.isPrefixOf [10] (Lib.bytesOf l) = decide (l.head? = some 10) := by
      cases l with
      | nil => rfl
      | cons d m =>
        have hd := h.tail.head
        have := eq_byte (a := 10) (b := d) (by decide) (by decide) hd.1 hd.2
        rw [show UInt8.ofNat (10 : Int).toNat = 10 from rfl] at this
        simp only [Lib.bytesOf, List.map_cons, List.isPrefixOf, Bool.and_true, List.head?_cons, Option.some.injEq]
        rw [this]; exact decide_eq_decide.2 ⟨fun h => h.symm, fun h => h.symm⟩
    rw [show Lib.bytesOf (c :: l) = UInt8.ofNat c.toNat :: Lib.bytesOf l from rfl]
    unfold Lib.index pairI
    rw [ih]
    rw [show Lib.bytesOf [13, 10] = [13, 10] from rfl]
    have e3 : List.isPrefixOf [13, 10] (UInt8.ofNat c.toNat :: Lib.bytesOf l) = decide (c = 13 ∧ l.head? = some 10) := by
      simp only [List.isPrefixOf]
      rw [e1]
      have : List.isPrefixOf [(10 : UInt8)] (Lib.bytesOf l) = decide (l.head? = some 10) := e2
      rw [this, Bool.decide_and]
    rw [e3]
    by_cases q : c = 13 ∧ l.head? = some 10
    · simp [q]
    · rw [if_neg (by simpa using q), if_neg q]
      by_cases q2 : pairI l = -1
      · rw [if_pos q2, if_pos (by simpa using q2)]
      · rw [if_neg q2, if_neg (by simpa using q2)]

/-- The lines: where each begins, how many bytes it has, and whether it is ended. -/
def linesN : Nat → Nat → List Int → List (Nat × Nat × Bool)
  | 0, _, _ => []
  | n + 1, p, l => if l = [] then [] else
    if 0 ≤ pairI l then (p, (pairI l).toNat, true) :: linesN n (p + (pairI l).toNat + 2) (l.drop ((pairI l).toNat + 2)) else [(p, l.length, false)]
def linesZ (p : Nat) (l : List Int) : List (Nat × Nat × Bool) := linesN l.length p l
theorem linesN_enough : ∀ (n m p : Nat) (l : List Int), l.length ≤ n → l.length ≤ m → linesN n p l = linesN m p l
  | 0, m, p, l, h, _ => by
    obtain rfl : l = [] := List.eq_nil_of_length_eq_zero (by omega)
    cases m with
    | zero => rfl
    | succ m => rw [linesN, linesN, if_pos rfl]
  | n + 1, 0, p, l, _, h => by
    obtain rfl : l = [] := List.eq_nil_of_length_eq_zero (by omega)
    rw [linesN, linesN, if_pos rfl]
  | n + 1, m + 1, p, l, h1, h2 => by
    rw [linesN, linesN]
    by_cases hne : l = []
    · rw [if_pos hne, if_pos hne]
    · rw [if_neg hne, if_neg hne]
      by_cases hp : 0 ≤ pairI l
      · have : 0 < l.length := List.length_pos_iff.2 hne
        rw [if_pos hp, if_pos hp, linesN_enough n m _ _ (by simp only [List.length_drop]; omega) (by simp only [List.length_drop]; omega)]
      · rw [if_neg hp, if_neg hp]

theorem linesZ_nil (p : Nat) : linesZ p [] = [] := rfl
theorem linesZ_pair (p : Nat) (l : List Int) (h : 0 ≤ pairI l) : linesZ p l = (p, (pairI l).toNat, true) :: linesZ (p + (pairI l).toNat + 2) (l.drop ((pairI l).toNat + 2)) := by
  have hne : l ≠ [] := by rintro rfl; simp [pairI] at h
  have hl : 0 < l.length := List.length_pos_iff.2 hne
  obtain ⟨n, hn⟩ : ∃ n, l.length = n + 1 := ⟨l.length - 1, by omega⟩
  unfold linesZ
  rw [hn, linesN, if_neg hne, if_pos h, linesN_enough n _ _ _ (by simp only [List.length_drop]; omega) (Nat.le_refl _)]
theorem linesZ_last (p : Nat) (l : List Int) (hne : l ≠ []) (h : ¬ 0 ≤ pairI l) : linesZ p l = [(p, l.length, false)] := by
  have hl : 0 < l.length := List.length_pos_iff.2 hne
  obtain ⟨n, hn⟩ : ∃ n, l.length = n + 1 := ⟨l.length - 1, by omega⟩
  unfold linesZ
  rw [hn, linesN, if_neg hne, if_neg h, hn]
end Go.Proofs.YtbckbonffajmeaaGreatDoor.Dt
namespace Go.Proofs.YtbckbonffajmeaaGreatDoor.Dt
open Go.RowKit Go.Shelf
set_option linter.unusedVariables false
attribute [local go_sem] Oper.semAt_some

/-- A piece of bytes. -/
abbrev Ln (n : Nat) := { x : Nat × Nat × Bool // x.1 < n ∧ x.1 + x.2.1 ≤ n }
def encL (b off cap : Nat) (x : Nat × Nat × Bool) : Array Value := #[.int .i64 (x.1 : Nat), .agg #[.slice (some ⟨b, off + x.1, none⟩) x.2.1 (cap - x.1), .bool x.2.2]]
def Kl (n₀ Bn : Nat) (W W' : World) : Prop := Below n₀ W W' ∧ W'.heap[Bn]? = W.heap[Bn]?
theorem Kl.refl (n₀ Bn : Nat) (W : World) : Kl n₀ Bn W W := ⟨Below.refl _ _, rfl⟩
theorem Kl.t {n₀ Bn : Nat} {A B C : World} (h : Kl n₀ Bn A B) (k : Kl n₀ Bn B C) : Kl n₀ Bn A C := ⟨h.1.trans k.1, k.2.trans h.2⟩
/-- The library's variable holds a number. -/
def Mx (w : World) : Prop := ∃ m, w.cell? ⟨0, 0, none⟩ = some (.int .i64 m)
theorem Mx.pos {w : World} (h : Mx w) : 0 < w.heap.size := by obtain ⟨m, h⟩ := h; exact World.block_lt_of_cell? w _ h
theorem Mx.below {w w' : World} {n : Nat} (h : Mx w) (hb : Below n w w') (hn : 0 < n) : Mx w' := by obtain ⟨m, h⟩ := h; exact ⟨m, (hb.cell (p := ⟨0, 0, none⟩) hn).trans h⟩
theorem Mx.keep {w w' : World} (h : Mx w) (hb : Below w.heap.size w w') : Mx w' := h.below hb h.pos

theorem bytesIn_row {w : World} {a : Option Addr} {l : List Int} (h : Row w a l) : Lib.BytesIn w a l.length l := by
  rcases h with rfl | ⟨b, off, rfl, h⟩
  · exact Lib.BytesIn.nil _ _ _
  · exact Lib.BytesIn.of_cells (fun i hi => by rw [add_plain]; exact h i hi)

set_option maxRecDepth 100000 in
theorem cut_any (a p : Option Addr) (n c c2 : Nat) (l : List Int) (w : World) (hl : l.length = n) (hb : Byt l) (hr : Row w a l) (hp : Row w p [13, 10]) (hnil : a = none → c = 0) (hc : n ≤ c) (hn : n ≤ 10000000) (hm : Mx w) :
    Calls Tryz.prog 73 #[.slice a n c, .slice p 2 c2] w fun e w' => e = .returned (Lib.cutV a n c 2 (pairI l)) ∧ Qt w w' := by
  obtain ⟨m, hm⟩ := hm
  have h := bytes_Cut_all a p n c 2 c2 l [13, 10] m w hl rfl hb (by intro y hy; simp at hy; omega) (by rw [← hl]; exact bytesIn_row hr) (bytesIn_row hp) hnil hc (by omega) (by omega) hm
  rw [index_pair l hb] at h
  exact h

set_option maxRecDepth 100000 in
set_option maxHeartbeats 2000000 in
theorem lines1_in (n : Nat) (hn : 1 ≤ n) (lp Bn n₀ b off len cap : Nat) (a : Option Addr) (zs : List Int) (hlen : zs.length = len) (hcap : len ≤ cap) (hnil : a = none → cap = 0) (hbig : len ≤ 1000000) (hz : Byt zs) (ha : zs ≠ [] → a = some ⟨b, off, none⟩) (hpos : 0 < n₀)
    (J Jx : List (Ln len) → World → Prop) (W : World) (hJ : AbidesFrom W.heap.size J)
    (hY : ∀ pre x W, J pre W → pre.length < (linesZ 0 zs).length → YieldAt Fence.wide (n - 1) Tryz.prog lp (encL b off cap x.1) W fun e W' =>
      (e = .returned (.bool true) ∧ J (pre ++ [x]) W' ∧ Kl n₀ Bn W W') ∨ (e = .returned (.bool false) ∧ Jx (pre ++ [x]) W'))
    (hBn : W.cell? ⟨Bn, 0, none⟩ = some (.slice a len cap)) (hR : ∀ W', Below n₀ W W' → Row W' a zs) (hm : Mx W) (hn₀ : n₀ ≤ W.heap.size) (h0 : J [] W) :
    CallsIn Fence.wide n Tryz.prog 72 #[.func (.yield lp) #[] #[], .pointer (some ⟨Bn, 0, none⟩)] W fun e W' => (∃ v, e = .returned v) ∧
      ((∃ ys, ys.map (fun x => x.1) = linesZ 0 zs ∧ J ys W') ∨ (∃ pre, pre.map (fun x => x.1) <+: linesZ 0 zs ∧ Jx pre W')) := by
  have hBl : Bn < W.heap.size := World.block_lt_of_cell? W _ hBn
  refine callsIn_of_wp Tryz.func72 rfl trivial ?_ rfl
  simp only [Tryz.ntmps72, List.size_toArray, List.length_cons, List.length_nil, Nat.reduceAdd, Nat.reduceSub, Array.replicate_succ, Array.replicate_zero, List.push_toArray, List.append_toArray, List.nil_append, List.cons_append]
  gi_wp2
  gi_loopw [3] (fun v wr => ∃ (p : Nat) (pre : List (Ln len)), v = .int .i64 p ∧ p ≤ len ∧ linesZ 0 zs = pre.map (fun x => x.1) ++ linesZ p (zs.drop p) ∧ J pre wr ∧ Kl n₀ Bn W wr)
    (fun v _ => len - (intOf v).toNat)
  case atStart => exact ⟨0, [], rfl, by omega, by simp, h0, Kl.refl _ _ _⟩
  case round =>
    obtain ⟨p, pre, rfl, hp, hx, hJs, hk⟩ := hrel
    have hc : wr.cell? ⟨Bn, 0, none⟩ = some (.slice a len cap) := (World.cell?_of_block (w := W) hk.2).trans hBn
    have hrow := hR wr hk.1
    have hmx := hm.below hk.1 hpos
    have HK : Hid (Kl n₀ Bn W wr) := hk
    have HX : Hid (linesZ 0 zs = pre.map (fun x => x.1) ++ linesZ p (zs.drop p)) := hx
    have HR : Hid (Row wr a zs) := hrow
    have HM : Hid (Mx wr) := hmx
    have HY : Hid (∀ pre x W, J pre W → pre.length < (linesZ 0 zs).length → YieldAt Fence.wide (n - 1) Tryz.prog lp (encL b off cap x.1) W fun e W' =>
      (e = .returned (.bool true) ∧ J (pre ++ [x]) W' ∧ Kl n₀ Bn W W') ∨ (e = .returned (.bool false) ∧ Jx (pre ++ [x]) W')) := hY
    have HJ : Hid (J pre wr) := hJs
    have hsz : W.heap.size ≤ wr.heap.size := hk.1.size
    clear hk hx hrow hmx hY hJs
    by_cases hlt : p < len
    · have hlt' : (p : Int) < len := by omega
      have hd : decide ((p : Int) < (len : Int)) = true := by simpa using hlt'
      have hne : zs ≠ [] := by rintro rfl; simp at hlen; omega
      obtain rfl := ha hne
      have kc := conv_const wr #[.int .u8 13, .int .u8 10] 2 2 wr.heap.size rfl
      have hadd : (⟨b, off, none⟩ : Addr).add p = ⟨b, off + p, none⟩ := add_plain b off p
      have hdne : zs.drop p ≠ [] := by intro h; have := congrArg List.length h; simp at this; omega
      have hdl : (zs.drop p).length = len - p := by rw [List.length_drop, hlen]
      gi_wp2_with fail
      refine ⟨trivial, (callsIn_wide.2 (cut_any (some ⟨b, off + p, none⟩) (some ⟨wr.heap.size, 0, none⟩) (len - p) (cap - p) 2 (zs.drop p) (wr.alloc (.cells #[.int .u8 13, .int .u8 10] 5 (2, 3))) hdl (hz.drop p) ?r1 (row_mark wr [13, 10] (2, 3)) (by simp) (by omega) (by omega) (HM.out.keep (keep wr _)))).mono ?_⟩
      case r1 =>
        have h := row_drop (n := p) (cap := cap) HR.out (by omega)
        rw [if_neg (by omega)] at h
        simp only [Option.map_some, hadd] at h
        exact row_below h (keep wr _)
      rintro e w1 ⟨rfl, hq⟩
      have hg1 : wr.grownBy w1 none := by
        obtain ⟨q, rfl⟩ := hq
        have h := World.grownBy_alloc wr (.cells #[.int .u8 13, .int .u8 10] 5 (2, 3)) none
        exact ⟨h.os, h.tape, h.output, h.size, h.block⟩
      have hJ1 : J pre w1 := hJ pre wr w1 none HJ.out hg1 (by simp)
      have HK1 : Hid (Kl n₀ Bn W w1) := HK.out.t ⟨(Below.refl _ _).grown hg1 (by omega) (by simp), hg1.block Bn (by omega) (by simp)⟩
      clear hq hg1 kc
      by_cases hi : 0 ≤ pairI (zs.drop p)
      · have hroom := pairI_room _ hi
        have HL := linesZ_pair p (zs.drop p) hi
        obtain ⟨i, hii⟩ : ∃ i : Nat, pairI (zs.drop p) = i := ⟨(pairI (zs.drop p)).toNat, by omega⟩
        rw [hii] at hroom HL ⊢
        rw [hdl] at hroom
        simp only [Int.toNat_natCast, List.drop_drop] at HL
        have HLH : Hid (linesZ p (zs.drop p) = (p, i, true) :: linesZ (p + i + 2) (zs.drop (p + (i + 2)))) := HL
        obtain ⟨r, hr⟩ : ∃ r, Lib.fromV (some ⟨b, off + p, none⟩) (len - p) (cap - p) (i + 2) = r := ⟨_, rfl⟩
        have hcut : Lib.cutV (some ⟨b, off + p, none⟩) (len - p) (cap - p) 2 (i : Int) = .tuple #[.slice (some ⟨b, off + p, none⟩) i (cap - p), r, .bool true] := by simp [Lib.cutV, ← hr]
        rw [hcut]
        clear hcut hr HL hii hi
        have hx1 : p + i ≤ len := by omega
        obtain ⟨fn, tmps, assign, body, hy, hRd⟩ := HY.out pre ⟨(p, i, true), hlt, hx1⟩ w1 hJ1 (by rw [HX.out, HLH.out]; simp)
        simp only [encL] at hy
        gi_wp2
        refine hRd.mono ?_
        rintro e W3 (⟨rfl, hJ3, hk3⟩ | ⟨rfl, hJx3⟩)
        · clear hy hRd
          gi_wp2
          go_roundw
          case rel => exact ⟨p + i + 2, pre ++ [⟨(p, i, true), hlt, hx1⟩], by rw [show ((p + i + 2 : Nat) : Int) = (p : Int) + ((i : Int) + 2) from by omega], by omega, by rw [HX.out, HLH.out]; simp [Nat.add_assoc], hJ3, HK1.out.t hk3⟩
          case measure => simp [intOf]; omega
        · clear hy hRd
          gi_wp2
          refine bodyPost_ret (results_none rfl _ _ _) rfl ?_
          exact ⟨⟨_, rfl⟩, .inr ⟨pre ++ [⟨(p, i, true), hlt, hx1⟩], ⟨linesZ (p + i + 2) (zs.drop (p + (i + 2))), by rw [HX.out, HLH.out]; simp⟩, hJx3⟩⟩
      · have HLH : Hid (linesZ p (zs.drop p) = [(p, len - p, false)]) := by unfold Hid; rw [linesZ_last p _ hdne hi, hdl]
        have hcut : Lib.cutV (some ⟨b, off + p, none⟩) (len - p) (cap - p) 2 (pairI (zs.drop p)) = .tuple #[.slice (some ⟨b, off + p, none⟩) (len - p) (cap - p), .slice none 0 0, .bool false] := by simp only [Lib.cutV, if_neg hi]
        rw [hcut]
        clear hcut hi
        have hx1 : p + (len - p) ≤ len := by omega
        obtain ⟨fn, tmps, assign, body, hy, hRd⟩ := HY.out pre ⟨(p, len - p, false), hlt, hx1⟩ w1 hJ1 (by rw [HX.out, HLH.out]; simp)
        simp only [encL] at hy
        gi_wp2
        refine hRd.mono ?_
        rintro e W3 (⟨rfl, hJ3, hk3⟩ | ⟨rfl, hJx3⟩)
        · clear hy hRd
          gi_wp2
          refine bodyPost_ret (results_none rfl _ _ _) rfl ?_
          exact ⟨⟨_, rfl⟩, .inl ⟨pre ++ [⟨(p, len - p, false), hlt, hx1⟩], by rw [HX.out, HLH.out]; simp, hJ3⟩⟩
        · clear hy hRd
          gi_wp2
          refine bodyPost_ret (results_none rfl _ _ _) rfl ?_
          exact ⟨⟨_, rfl⟩, .inr ⟨pre ++ [⟨(p, len - p, false), hlt, hx1⟩], ⟨[], by rw [HX.out, HLH.out]; simp⟩, hJx3⟩⟩
    · have hd : decide ((p : Int) < (len : Int)) = false := by simp; omega
      gi_wp2
      go_end0
      refine ⟨⟨_, rfl⟩, .inl ⟨pre, ?_, HJ.out⟩⟩
      have : zs.drop p = [] := List.drop_eq_nil_of_le (by omega)
      rw [HX.out, this, linesZ_nil, List.append_nil]

set_option maxHeartbeats 1000000 in
theorem lines_in (n len cap : Nat) (a : Option Addr) (w : World) :
    CallsIn Fence.wide n Tryz.prog 45 #[.slice a len cap] w fun e w' => e = .returned (.func (.func 72) #[] #[.pointer (some ⟨w.heap.size, 0, none⟩)]) ∧ w' = w.alloc (.cells #[.slice a len cap] 33) := by
  refine callsIn_of_wp Tryz.func45 rfl trivial ?_ rfl
  simp only [Tryz.ntmps45, List.size_toArray, List.length_cons, List.length_nil, Nat.reduceAdd, Nat.reduceSub, Array.replicate_succ, Array.replicate_zero, List.push_toArray, List.append_toArray, List.nil_append, List.cons_append]
  gi_wp2
  go_ret
  exact ⟨rfl, rfl⟩

theorem lines_stops (n : Nat) (hn : 1 ≤ n) (Bn n₀ b off len cap : Nat) (a : Option Addr) (zs : List Int) (hlen : zs.length = len) (hcap : len ≤ cap) (hnil : a = none → cap = 0) (hbig : len ≤ 1000000) (hz : Byt zs) (ha : zs ≠ [] → a = some ⟨b, off, none⟩) (hpos : 0 < n₀)
    (w : World) (hn₀ : n₀ ≤ w.heap.size) (hBn : w.cell? ⟨Bn, 0, none⟩ = some (.slice a len cap)) (hR : ∀ W', Below n₀ w W' → Row W' a zs) (hm : Mx w) :
    SeqStopsK Fence.wide n Tryz.prog 72 #[.pointer (some ⟨Bn, 0, none⟩)] (fun x : Ln len => encL b off cap x.1) (Kl n₀ Bn) (fun ys => ys.map (fun x => x.1) = linesZ 0 zs) (fun pre => pre.map (fun x => x.1) <+: linesZ 0 zs) (linesZ 0 zs).length w := fun l J Jx W hW hJ _ hY h0 =>
  lines1_in n hn l Bn n₀ b off len cap a zs hlen hcap hnil hbig hz ha hpos J Jx W hJ hY ((hW.cell (p := ⟨Bn, 0, none⟩) (World.block_lt_of_cell? w _ hBn)).trans hBn) (fun W' h => hR W' ((hW.mono hn₀).trans h)) (hm.keep hW) (Nat.le_trans hn₀ hW.size) h0

/-- The place of the first 13 or 10, from k on counted, or -1. -/
def bareAt (k : Nat) : List Int → Int
  | [] => -1
  | c :: l => if c = 13 ∨ c = 10 then (k : Int) else bareAt (k + 1) l

set_option maxRecDepth 100000 in
set_option maxHeartbeats 1000000 in
theorem ofPair_any (c : Int) (w : World) : Calls Tryz.prog 71 #[.int .u8 c] w fun e w' => e = .returned (.bool (decide (c = 13 ∨ c = 10))) ∧ w = w' := by
  by_cases h1 : c = 13
  · subst h1
    go_enter Tryz.func71, Tryz.ntmps71
    go_wp2
    go_ret
    exact ⟨rfl, rfl⟩
  · have h1' : (c == 13) = false := by rw [beq_eq_false_iff_ne]; exact h1
    go_enter Tryz.func71, Tryz.ntmps71
    go_wp2
    go_ret
    refine ⟨ret_bool ?_, rfl⟩
    by_cases h2 : c = 10 <;> simp [h1, h2]

set_option maxRecDepth 100000 in
set_option maxHeartbeats 1000000 in
theorem indexFunc_any (a : Option Addr) (n c : Nat) (l : List Int) (w : World) (hl : l.length = n) (hr : Row w a l) (hn : n ≤ 10000000) :
    Calls Tryz.prog 70 #[.slice a n c, .func (.func 71) #[] #[]] w fun e w' => e = .returned (.int .i64 (bareAt 0 l)) ∧ w = w' := by
  have HR : Hid (Row w a l) := hr
  clear hr
  go_enter Tryz.func70, Tryz.ntmps70
  go_wp2_with fail
  go_loopw [8] (fun v wr => ∃ k : Nat, v = .int .i64 k ∧ k ≤ n ∧ bareAt 0 l = bareAt k (l.drop k) ∧ w = wr) (fun v _ => n - (intOf v).toNat)
  case atStart => exact ⟨0, rfl, by omega, by simp, rfl⟩
  case round =>
    obtain ⟨k, rfl, hk, hb, rfl⟩ := hrel
    have HB : Hid (bareAt 0 l = bareAt k (l.drop k)) := hb
    clear hb
    by_cases hlt : k < n
    · have hd : decide ((k : Int) < (n : Int)) = true := by simp; omega
      have hlt' : k < l.length := by omega
      obtain ⟨x, hx⟩ : ∃ x, l[k]'hlt' = x := ⟨_, rfl⟩
      have hdr : l.drop k = x :: l.drop (k + 1) := by rw [List.drop_eq_getElem_cons hlt', hx]
      have HD : Hid (l.drop k = x :: l.drop (k + 1)) := hdr
      clear hdr
      rcases HR.out with rfl | ⟨b, off, rfl, hc⟩
      · simp at hlt'
      · have hck : w.cell? ⟨b, off + k, none⟩ = some (.int .u8 x) := by rw [hc k hlt']; simp [List.getD_eq_getElem?_getD, List.getElem?_eq_getElem hlt', hx]
        have hadd : (⟨b, off, none⟩ : Addr).add k = ⟨b, off + k, none⟩ := add_plain b off k
        clear hc
        by_cases hp : x = 13 ∨ x = 10
        · have hpd : decide (x = 13 ∨ x = 10) = true := by simpa using hp
          go_wp2_with (go_at_call 71; refine (ofPair_any _ _).mono ?_; rintro e w' ⟨rfl, rfl⟩; rw [hpd])
          go_ret
          refine ⟨ret_int ?_, rfl⟩
          rw [HB.out, HD.out, bareAt, if_pos hp]
        · have hpd : decide (x = 13 ∨ x = 10) = false := by simpa using hp
          go_wp2_with (go_at_call 71; refine (ofPair_any _ _).mono ?_; rintro e w' ⟨rfl, rfl⟩; rw [hpd])
          go_roundw
          case rel => exact ⟨k + 1, by rw [show ((k + 1 : Nat) : Int) = (k : Int) + 1 from by omega], by omega, by rw [HB.out, HD.out, bareAt, if_neg hp], trivial⟩
          case measure => simp [intOf]; omega
    · have hd : decide ((k : Int) < (n : Int)) = false := by simp; omega
      go_wp2
      go_ret
      refine ⟨ret_int ?_, rfl⟩
      rw [HB.out, List.drop_eq_nil_of_le (by omega)]; rfl
end Go.Proofs.YtbckbonffajmeaaGreatDoor.Dt
namespace Go.Proofs.YtbckbonffajmeaaGreatDoor.Dt
open Go.RowKit Go.Shelf
set_option linter.unusedVariables false
attribute [local go_sem] Oper.semAt_some

/-- A block of cells. -/
def Blk (W : World) (B : Nat) (cs : Array Value) (t : TypeId) : Prop := W.heap[B]? = some (.cells cs t (0, 0))
theorem Blk.lt {W : World} {B : Nat} {cs : Array Value} {t : TypeId} (h : Blk W B cs t) : B < W.heap.size := (Array.getElem?_eq_some_iff.1 h).1
theorem Blk.kept {W W' : World} {row : Option Nat} {B : Nat} {cs : Array Value} {t : TypeId} (h : Blk W B cs t) (hg : W.grownBy W' row) (hne : some B ≠ row) : Blk W' B cs t := (hg.block B h.lt hne).trans h
theorem Blk.alloc {W : World} {B : Nat} {cs : Array Value} {t : TypeId} (h : Blk W B cs t) (o : Obj) : Blk (W.alloc o) B cs t := (Below.heap_alloc W o B h.lt).trans h
theorem Blk.new (W : World) (cs : Array Value) (t : TypeId) : Blk (W.alloc (.cells cs t)) W.heap.size cs t := World.alloc_heap_new W _
theorem Blk.other {W : World} {B : Nat} {cs : Array Value} {t : TypeId} (h : Blk W B cs t) {g i : Nat} (hne : B ≠ g) (u : Value) : Blk (W.setCell ⟨g, i, none⟩ u) B cs t := (heap_setCell_other W ⟨g, i, none⟩ B u hne).trans h
theorem Blk.below {W W' : World} {B : Nat} {cs : Array Value} {t : TypeId} (h : Blk W B cs t) {n : Nat} (hb : Below n W W') (hn : B < n) : Blk W' B cs t := (hb.block B hn).trans h
theorem Blk.cell {W : World} {B : Nat} {cs : Array Value} {t : TypeId} (h : Blk W B cs t) (i : Nat) : W.cell? ⟨B, i, none⟩ = cs[i]? := cell_of_row W _ _ _ _ _ h
theorem Blk.frozen {W : World} {B : Nat} {cs : Array Value} {t : TypeId} (h : Blk W B cs t) (i : Nat) : W.frozen? ⟨B, i, none⟩ = false := frozen_of_row W _ _ _ _ h
theorem blk_own {β : Type} (B : Nat) (t : TypeId) (f : β → Array Value) : Go.Own (fun s W => Blk W B (f s) t) := fun s X Y row hs hg hrow =>
  hs.kept hg (fun e' => by obtain ⟨o, ho, hc⟩ := hrow B e'.symm; rw [show X.heap[B]? = _ from hs] at ho; cases ho; cases hc)
theorem Qt.blk {W W' : World} (h : Qt W W') {B : Nat} {cs : Array Value} {t : TypeId} (k : Blk W B cs t) : Blk W' B cs t := by obtain ⟨q, rfl⟩ := h; exact k

theorem scope_wide {n : Nat} {P : Program} {Q : Exit → Act → World → Prop} {a : Act} {w : World} {c : Code} (h : c.wpIn Fence.wide n P (Exit.noGoto Q) a w) : (Code.scope c).wpIn Fence.wide n P Q a w :=
  wpIn_wide.2 (wp_scope_straight (wpIn_wide.1 h))

theorem bareAt_range : ∀ (l : List Int) (k : Nat), bareAt k l = -1 ∨ ((k : Int) ≤ bareAt k l ∧ bareAt k l < k + l.length)
  | [], k => .inl rfl
  | c :: l, k => by
    unfold bareAt
    by_cases h : c = 13 ∨ c = 10
    · rw [if_pos h]; right; simp; omega
    · rw [if_neg h]
      rcases bareAt_range l (k + 1) with h1 | h1
      · exact .inl h1
      · right; simp only [List.length_cons]; omega

/-- What is wrong with a line. -/
def faultL (zs : List Int) (x : Nat × Nat × Bool) : Option (Int × Int) :=
  if 0 ≤ bareAt 0 ((zs.drop x.1).take x.2.1) then some ((x.1 : Int) + bareAt 0 ((zs.drop x.1).take x.2.1), 41)
  else if 998 < x.2.1 then some ((x.1 : Int), 40)
  else if x.2.2 = false then some ((zs.length : Int), 42) else none
/-- What is wrong with a text. -/
def rightZ (zs : List Int) : Int × Int := ((linesZ 0 zs).findSome? (faultL zs)).getD (0, 0)

theorem right_all {zs : List Int} (h : ∀ x ∈ linesZ 0 zs, faultL zs x = none) : rightZ zs = (0, 0) := by
  have : (linesZ 0 zs).findSome? (faultL zs) = none := by rw [List.findSome?_eq_none_iff]; exact h
  rw [rightZ, this]; rfl
theorem right_one {zs : List Int} {pre : List (Nat × Nat × Bool)} {x : Nat × Nat × Bool} {r : Int × Int} (hp : pre ++ [x] <+: linesZ 0 zs) (h : ∀ y ∈ pre, faultL zs y = none) (hx : faultL zs x = some r) : rightZ zs = r := by
  obtain ⟨t, ht⟩ := hp
  have : (linesZ 0 zs).findSome? (faultL zs) = some r := by
    rw [← ht, List.findSome?_append, List.findSome?_append, List.findSome?_eq_none_iff.2 h]
    simp [hx]
  rw [rightZ, this]; rfl

set_option maxRecDepth 100000 in
set_option maxHeartbeats 4000000 in
theorem right_any (a : Option Addr) (len cap : Nat) (zs : List Int) (w : World) (hlen : zs.length = len) (hcap : len ≤ cap) (hnil : a = none → cap = 0) (hbig : len ≤ 1000000) (hz : Byt zs) (hr : Row w a zs) (hm : Mx w) :
    Calls Tryz.prog 44 #[.slice a len cap] w fun e w' => e = .returned (.agg #[.int .i64 (rightZ zs).1, .int .i64 (rightZ zs).2]) ∧ Below w.heap.size w w' := by
  refine (callsIn_wide (n := 20)).1 ?_
  refine callsIn_of_wp_marks Tryz.func44 rfl trivial ?_ rfl
  simp only [Tryz.ntmps44, List.size_toArray, List.length_cons, List.length_nil, Nat.reduceAdd, Nat.reduceSub, Array.replicate_succ, Array.replicate_zero, List.push_toArray, List.append_toArray, List.nil_append, List.cons_append]
  gi_wp2_with (refine ⟨trivial, ?_⟩; gi_at_call 45; refine (lines_in _ _ _ _ _).mono ?_; rintro e w' ⟨rfl, rfl⟩)
  refine scope_wide ?_
  gi_wp2_with fail
  refine wpIn_label ?_
  gi_wp2_with (refine ⟨trivial, ?_⟩; gi_at_call 45; refine (lines_in _ _ _ _ _).mono ?_; rintro e w' ⟨rfl, rfl⟩)
  obtain ⟨b, off, ha⟩ : ∃ b off, (zs ≠ [] → a = some ⟨b, off, none⟩) := by
    rcases hr with rfl | ⟨b, off, rfl, _⟩
    · exact ⟨0, 0, fun h => absurd rfl h⟩
    · exact ⟨b, off, fun _ => rfl⟩
  have hB0 : Below w.heap.size w ((((w.alloc (.cells #[.slice a len cap] 33)).alloc (.cells #[.int .i64 0, .int .i64 0] 81)).alloc (.cells #[.int .i64 0, .int .i64 0] 81)).alloc (.cells #[.slice a len cap] 33)) := ((((Below.refl _ w).alloc (Nat.le_refl _) _).alloc (by simp) _).alloc (by simp; omega) _).alloc (by simp; omega) _
  have k0 := (((Blk.new w #[.slice a len cap] 33).alloc (.cells #[.int .i64 0, .int .i64 0] 81)).alloc (.cells #[.int .i64 0, .int .i64 0] 81)).alloc (.cells #[.slice a len cap] 33)
  have k1 := ((Blk.new (w.alloc (.cells #[.slice a len cap] 33)) #[.int .i64 0, .int .i64 0] 81).alloc (.cells #[.int .i64 0, .int .i64 0] 81)).alloc (.cells #[.slice a len cap] 33)
  have k2 := (Blk.new ((w.alloc (.cells #[.slice a len cap] 33)).alloc (.cells #[.int .i64 0, .int .i64 0] 81)) #[.int .i64 0, .int .i64 0] 81).alloc (.cells #[.slice a len cap] 33)
  have k3 := Blk.new (((w.alloc (.cells #[.slice a len cap] 33)).alloc (.cells #[.int .i64 0, .int .i64 0] 81)).alloc (.cells #[.int .i64 0, .int .i64 0] 81)) #[.slice a len cap] 33
  simp only [World.size_alloc] at k1 k2 k3
  have hsz : ((((w.alloc (.cells #[.slice a len cap] 33)).alloc (.cells #[.int .i64 0, .int .i64 0] 81)).alloc (.cells #[.int .i64 0, .int .i64 0] 81)).alloc (.cells #[.slice a len cap] 33)).heap.size = w.heap.size + 4 := by simp
  obtain ⟨W0, hW0⟩ : ∃ W0, (((w.alloc (.cells #[.slice a len cap] 33)).alloc (.cells #[.int .i64 0, .int .i64 0] 81)).alloc (.cells #[.int .i64 0, .int .i64 0] 81)).alloc (.cells #[.slice a len cap] 33) = W0 := ⟨_, rfl⟩
  rw [hW0] at k0 k1 k2 k3 hB0 hsz ⊢
  clear hW0
  have hpos := hm.pos
  refine wpIn_rangeFunc_ownH rfl (by omega) (gf := 72) (lb := #[.pointer (some ⟨w.heap.size + 1 + 1 + 1, 0, none⟩)]) rfl trivial (enters_of Tryz.func72 (by kernel_rfl) rfl)
    (lines_stops 19 (by omega) (w.heap.size + 1 + 1 + 1) w.heap.size b off len cap a zs hlen hcap hnil hbig hz ha hpos W0 (by omega) (k3.cell 0) (fun W' h => row_below hr (hB0.trans h)) (hm.keep hB0)) Kl.t
    (fun W l o o' hl ho _ _ => ⟨(Below.refl _ W).grown (grownBy_putObj' W l o') (by have := (Array.getElem?_eq_some_iff.1 ho).1; omega) (fun k e => by cases e; omega), World.putObj_heap_other (by omega)⟩)
    (Below.refl _ _) (fun _ => rfl)
    (fun pre W => ((((Blk W w.heap.size #[.slice a len cap] 33 ∧ Blk W (w.heap.size + 1 + 1 + 1) #[.slice a len cap] 33) ∧ Blk W (w.heap.size + 1) #[.int .i64 0, .int .i64 0] 81) ∧ Blk W (w.heap.size + 1 + 1) #[.int .i64 0, .int .i64 0] 81) ∧ (∀ x ∈ pre, faultL zs x.1 = none)) ∧ Below w.heap.size w W)
    (fun c pre W => ((c = .exit 0 ∧ Blk W (w.heap.size + 1) #[.int .i64 0, .int .i64 0] 81) ∧ ∃ r : Int × Int, Blk W (w.heap.size + 1 + 1) #[.int .i64 r.1, .int .i64 r.2] 81 ∧ (∃ pre' x, pre = pre' ++ [x] ∧ (∀ y ∈ pre', faultL zs y.1 = none) ∧ faultL zs x.1 = some r)) ∧ Below w.heap.size w W)
    (OwnFrom.and (OwnFrom.and (OwnFrom.and (OwnFrom.and (OwnFrom.and (Go.Own.from (blk_own _ _ _) _) (Go.Own.from (blk_own _ _ _) _)) (Go.Own.from (blk_own _ _ _) _)) (Go.Own.from (blk_own _ _ _) _)) (ownFrom_pure _ _)) (ownFrom_below (Nat.le_refl _) (by omega)))
    (fun c => OwnFrom.and (OwnFrom.and (OwnFrom.and (ownFrom_pure _ _) (Go.Own.from (blk_own _ _ _) _)) (fun s X Y row hs hg hrow => by
      obtain ⟨r, h1, h2⟩ := hs
      exact ⟨r, blk_own (w.heap.size + 1 + 1) 81 (fun (_ : Unit) => #[Value.int .i64 r.1, Value.int .i64 r.2]) () X Y row h1 hg (fun q e => (hrow q e).2), h2⟩)) (ownFrom_below (Nat.le_refl _) (by omega)))
    ⟨⟨⟨⟨⟨k0, k3⟩, k1⟩, k2⟩, by simp⟩, hB0⟩
    (fun x a' W => ∃ Bx, w.heap.size + 1 + 1 + 1 < Bx ∧ Blk W Bx #[.slice (some ⟨b, off + x.1.1, none⟩) x.1.2.1 (cap - x.1.1), .bool x.1.2.2] 87 ∧ a' = { tmps := #[.slice a len cap, .pointer (some ⟨w.heap.size, 0, none⟩), .pointer (some ⟨w.heap.size + 1, 0, none⟩), .pointer (some ⟨w.heap.size + 1 + 1, 0, none⟩), .int .i64 (x.1.1 : Nat), .pointer (some ⟨Bx, 0, none⟩), undef, .slice a len cap, .func (.func 72) #[] #[.pointer (some ⟨w.heap.size + 1 + 1 + 1, 0, none⟩)], .int .i64 (x.1.1 : Nat), .agg #[.slice (some ⟨b, off + x.1.1, none⟩) x.1.2.1 (cap - x.1.1), .bool x.1.2.2], undef, undef, undef, undef, undef, undef, undef, undef, undef, undef, undef, undef, undef, undef, undef, undef, undef, undef, undef, undef, undef, undef, undef, undef, undef], defers := [] })
    (fun x a' _ X Y row hs hg hrow => by
      obtain ⟨Bx, h1, h2, h3⟩ := hs
      exact ⟨Bx, h1, blk_own Bx 87 (fun (_ : Unit) => #[Value.slice (some ⟨b, off + x.1.1, none⟩) x.1.2.1 (cap - x.1.1), Value.bool x.1.2.2]) () X Y row h2 hg (fun q e => (hrow q e).2), h3⟩)
    ?assign ?body ?done ?stop
  case assign =>
    rintro l pre ⟨⟨p, n, ended⟩, hx1, hx2⟩ W K ⟨⟨⟨⟨⟨j0, j3⟩, j1⟩, j2⟩, hpre⟩, hB1⟩ hK
    simp only at hx1 hx2
    have hs1 := j3.lt
    have hs2 := hB1.size
    simp only [encL]
    gi_wp2
    exact hK _ _ ((KeepsOthers.alloc _ _).from _) ⟨(Below.refl _ W).alloc (by omega) _, Below.heap_alloc W _ _ hs1⟩ ⟨⟨⟨⟨⟨j0.alloc _, j3.alloc _⟩, j1.alloc _⟩, j2.alloc _⟩, hpre⟩, hB1.alloc hs2 _⟩ ⟨W.heap.size, hs1, Blk.new W _ 87, rfl⟩
  case body =>
    rintro l pre ⟨⟨p, n, ended⟩, hx1, hx2⟩ a' W hl ⟨rr, hrr⟩ ⟨⟨⟨⟨⟨j0, j3⟩, j1⟩, j2⟩, hpre⟩, hB1⟩ ⟨Bx, hBx, bX, rfl⟩ hlt
    simp only at hx1 hx2 bX ⊢
    have c0 := bX.cell 0
    have c1 := bX.cell 1
    have d0 := j0.cell 0
    have e0 := j2.cell 0
    have e1 := j2.cell 1
    have f0 := j2.frozen 0
    have f1 := j2.frozen 1
    simp only [List.getElem?_toArray, List.getElem?_cons_zero, List.getElem?_cons_succ] at c0 c1 d0 e0 e1
    have hne : zs ≠ [] := by rintro rfl; simp at hlen; omega
    obtain rfl := ha hne
    have hrow : Row W (some ⟨b, off + p, none⟩) ((zs.drop p).take n) := by
      have h := row_take n (row_drop (n := p) (cap := cap) (row_below hr hB1) (by omega))
      rw [if_neg (by omega)] at h
      simp only [Option.map_some, add_plain] at h
      exact h
    have hpl : ((zs.drop p).take n).length = n := by simp; omega
    obtain ⟨q, hq⟩ : ∃ q, bareAt 0 ((zs.drop p).take n) = q := ⟨_, rfl⟩
    have hbr : -1 ≤ q ∧ q < 2000000 := by have := bareAt_range ((zs.drop p).take n) 0; rw [hq, hpl] at this; omega
    have hidx := CallsIn.inRound l ((callsIn_wide (n := 17)).2 (indexFunc_any (some ⟨b, off + p, none⟩) n (cap - p) _ W hpl hrow (by omega)))
    rw [hq] at hidx
    have HQ : Hid (bareAt 0 ((zs.drop p).take n) = q) := hq
    have HP : Hid (∀ x ∈ pre, faultL zs x.1 = none) := hpre
    have H2 : Hid (Blk W (w.heap.size + 1 + 1) #[.int .i64 0, .int .i64 0] 81) := j2
    have H1 : Hid ((Blk W w.heap.size #[.slice (some ⟨b, off, none⟩) len cap] 33 ∧ Blk W (w.heap.size + 1 + 1 + 1) #[.slice (some ⟨b, off, none⟩) len cap] 33) ∧ Blk W (w.heap.size + 1) #[.int .i64 0, .int .i64 0] 81) := ⟨⟨j0, j3⟩, j1⟩
    have HB1 : Hid (Below w.heap.size w W) := hB1
    have HLEN : Hid (zs.length = len) := hlen
    have hsW : w.heap.size + 4 ≤ W.heap.size := by have := j3.lt; omega
    clear j0 j1 j2 j3 hpre hB1 hq hrow hpl hB0 k0 k1 k2 k3 hr hm hrr bX hlen
    have leave : ∀ x y : Int, KeepsFrom W0.heap.size W ((W.setCell ⟨w.heap.size + 1 + 1, 0, none⟩ (.int .i64 x)).setCell ⟨w.heap.size + 1 + 1, 1, none⟩ (.int .i64 y)) ∧ (Blk ((W.setCell ⟨w.heap.size + 1 + 1, 0, none⟩ (.int .i64 x)).setCell ⟨w.heap.size + 1 + 1, 1, none⟩ (.int .i64 y)) (w.heap.size + 1) #[.int .i64 0, .int .i64 0] 81) ∧ Blk ((W.setCell ⟨w.heap.size + 1 + 1, 0, none⟩ (.int .i64 x)).setCell ⟨w.heap.size + 1 + 1, 1, none⟩ (.int .i64 y)) (w.heap.size + 1 + 1) #[.int .i64 x, .int .i64 y] 81 ∧ Below w.heap.size w ((W.setCell ⟨w.heap.size + 1 + 1, 0, none⟩ (.int .i64 x)).setCell ⟨w.heap.size + 1 + 1, 1, none⟩ (.int .i64 y)) := fun x y =>
      ⟨((KeepsOthers.setCell _ _ _).trans (KeepsOthers.setCell _ _ _)).from _, (H1.out.2.other (by omega) _).other (by omega) _, heap_setCell_same _ _ 1 #[.int .i64 x, .int .i64 0] 81 _ (heap_setCell_same W _ 0 #[.int .i64 0, .int .i64 0] 81 _ H2.out), (HB1.out.setCell (p := ⟨w.heap.size + 1 + 1, 0, none⟩) (by simp; omega) _).setCell (p := ⟨w.heap.size + 1 + 1, 1, none⟩) (by simp; omega) _⟩
    have HLV : Hid _ := leave
    clear leave
    by_cases hq0 : 0 ≤ q
    · have hd : decide (q ≥ 0) = true := by simpa using hq0
      gi_wp2_with (refine ⟨trivial, ?_⟩; gi_at_call 70; refine hidx.mono ?_; rintro e w' ⟨rfl, rfl⟩)
      obtain ⟨v1, v2, v3, v4⟩ := HLV.out ((p : Int) + q) 41
      exact ⟨v1, ⟨⟨rfl, v2⟩, ((p : Int) + q, 41), v3, pre, _, rfl, HP.out, by simp only [faultL]; rw [HQ.out, if_pos hq0]⟩, v4⟩
    · have hd : decide (q ≥ 0) = false := by simpa using hq0
      by_cases hn : 998 < n
      · have hd2 : decide ((n : Int) > 998) = true := by simp; omega
        gi_wp2_with (refine ⟨trivial, ?_⟩; gi_at_call 70; refine hidx.mono ?_; rintro e w' ⟨rfl, rfl⟩)
        obtain ⟨v1, v2, v3, v4⟩ := HLV.out (p : Int) 40
        exact ⟨v1, ⟨⟨rfl, v2⟩, ((p : Int), 40), v3, pre, _, rfl, HP.out, by simp only [faultL]; rw [HQ.out, if_neg (show ¬ 0 ≤ q by omega), if_pos (show 998 < n by omega)]⟩, v4⟩
      · have hd2 : decide ((n : Int) > 998) = false := by simp; omega
        cases ended with
        | false =>
          gi_wp2_with (refine ⟨trivial, ?_⟩; gi_at_call 70; refine hidx.mono ?_; rintro e w' ⟨rfl, rfl⟩)
          obtain ⟨v1, v2, v3, v4⟩ := HLV.out (len : Int) 42
          exact ⟨v1, ⟨⟨rfl, v2⟩, ((len : Int), 42), v3, pre, _, rfl, HP.out, by simp only [faultL]; rw [HQ.out, if_neg (show ¬ 0 ≤ q by omega), if_neg (show ¬ 998 < n by omega), if_pos trivial, HLEN.out]⟩, v4⟩
        | true =>
          gi_wp2_with (refine ⟨trivial, ?_⟩; gi_at_call 70; refine hidx.mono ?_; rintro e w' ⟨rfl, rfl⟩)
          refine ⟨KeepsFrom.refl _ _, Kl.refl _ _ _, ⟨⟨H1.out, H2.out⟩, ?_⟩, HB1.out⟩
          intro x hx
          rcases List.mem_append.1 hx with h | h
          · exact HP.out x h
          · obtain rfl : x = _ := by simpa using h
            simp only [faultL]
            rw [HQ.out, if_neg (show ¬ 0 ≤ q by omega), if_neg (show ¬ 998 < n by omega)]; simp
  case done =>
    rintro D ys W hD hS ⟨⟨⟨⟨⟨j0, j3⟩, j1⟩, j2⟩, hpre⟩, hB1⟩ hK
    have e0 := j2.cell 0
    have e1 := j2.cell 1
    have g0 := j1.cell 0
    have g1 := j1.cell 1
    have f0 := j1.frozen 0
    have f1 := j1.frozen 1
    simp only [List.getElem?_toArray, List.getElem?_cons_zero, List.getElem?_cons_succ] at e0 e1 g0 g1
    have HS : Hid (rightZ zs = (0, 0)) := right_all (fun x hx => by rw [← hS] at hx; obtain ⟨y, hy, rfl⟩ := List.mem_map.1 hx; exact hpre y hy)
    gi_wp2
    have hW : Blk ((W.setCell ⟨w.heap.size + 1, 0, none⟩ (.int .i64 0)).setCell ⟨w.heap.size + 1, 1, none⟩ (.int .i64 0)) (w.heap.size + 1) #[.int .i64 0, .int .i64 0] 81 := heap_setCell_same _ _ 1 #[.int .i64 0, .int .i64 0] 81 _ (heap_setCell_same W _ 0 #[.int .i64 0, .int .i64 0] 81 _ j1)
    have hK2 : ((W.setCell ⟨w.heap.size + 1, 0, none⟩ (.int .i64 0)).setCell ⟨w.heap.size + 1, 1, none⟩ (.int .i64 0)).heap[D]? = some (.deferred (some [])) := (heap_setCell_other _ _ _ _ (by simp; omega)).trans ((heap_setCell_other _ _ _ _ (by simp; omega)).trans hK)
    have hW2 : Blk (((W.setCell ⟨w.heap.size + 1, 0, none⟩ (.int .i64 0)).setCell ⟨w.heap.size + 1, 1, none⟩ (.int .i64 0)).putObj D (.deferred none)) (w.heap.size + 1) #[.int .i64 0, .int .i64 0] 81 := (World.putObj_heap_other (by omega)).trans hW
    have c0 := hW2.cell 0
    have c1 := hW2.cell 1
    simp only [List.getElem?_toArray, List.getElem?_cons_zero, List.getElem?_cons_succ] at c0 c1
    refine ⟨by simp, .inl ⟨_, _, rfl, run_takeDeferred hK2, ?_⟩⟩
    refine ⟨.agg #[.int .i64 0, .int .i64 0], by simp [results, Tryz.results44, go_sem, c0, c1], by rw [HS.out], ?_⟩
    exact ((hB1.setCell (p := ⟨w.heap.size + 1, 0, none⟩) (by simp) _).setCell (p := ⟨w.heap.size + 1, 1, none⟩) (by simp) _).trans (belowK_b (w := w) (Nat.le_refl _) _ D _ _ (by omega) hK2 rfl rfl)
  case stop =>
    rintro D c pre W hD hS ⟨⟨⟨rfl, j1⟩, r, j2, pre', x, rfl, hpre, hx⟩, hB1⟩ hK
    have e0 := j2.cell 0
    have e1 := j2.cell 1
    have g0 := j1.cell 0
    have g1 := j1.cell 1
    have f0 := j1.frozen 0
    have f1 := j1.frozen 1
    simp only [List.getElem?_toArray, List.getElem?_cons_zero, List.getElem?_cons_succ] at e0 e1 g0 g1
    have HS : Hid (rightZ zs = r) := right_one (pre := pre'.map (fun x => x.1)) (x := x.1) (by simpa using hS) (fun y hy => by obtain ⟨z, hz, rfl⟩ := List.mem_map.1 hy; exact hpre z hz) hx
    gi_wp2
    have hW : Blk ((W.setCell ⟨w.heap.size + 1, 0, none⟩ (.int .i64 r.1)).setCell ⟨w.heap.size + 1, 1, none⟩ (.int .i64 r.2)) (w.heap.size + 1) #[.int .i64 r.1, .int .i64 r.2] 81 := heap_setCell_same _ _ 1 #[.int .i64 r.1, .int .i64 0] 81 _ (heap_setCell_same W _ 0 #[.int .i64 0, .int .i64 0] 81 _ j1)
    have hK2 : ((W.setCell ⟨w.heap.size + 1, 0, none⟩ (.int .i64 r.1)).setCell ⟨w.heap.size + 1, 1, none⟩ (.int .i64 r.2)).heap[D]? = some (.deferred (some [])) := (heap_setCell_other _ _ _ _ (by simp; omega)).trans ((heap_setCell_other _ _ _ _ (by simp; omega)).trans hK)
    have hW2 : Blk (((W.setCell ⟨w.heap.size + 1, 0, none⟩ (.int .i64 r.1)).setCell ⟨w.heap.size + 1, 1, none⟩ (.int .i64 r.2)).putObj D (.deferred none)) (w.heap.size + 1) #[.int .i64 r.1, .int .i64 r.2] 81 := (World.putObj_heap_other (by omega)).trans hW
    have c0 := hW2.cell 0
    have c1 := hW2.cell 1
    simp only [List.getElem?_toArray, List.getElem?_cons_zero, List.getElem?_cons_succ] at c0 c1
    refine ⟨by simp, .inl ⟨_, _, rfl, run_takeDeferred hK2, ?_⟩⟩
    refine ⟨.agg #[.int .i64 r.1, .int .i64 r.2], by simp [results, Tryz.results44, go_sem, c0, c1], by rw [HS.out], ?_⟩
    exact ((hB1.setCell (p := ⟨w.heap.size + 1, 0, none⟩) (by simp) _).setCell (p := ⟨w.heap.size + 1, 1, none⟩) (by simp) _).trans (belowK_b (w := w) (Nat.le_refl _) _ D _ _ (by omega) hK2 rfl rfl)
end Go.Proofs.YtbckbonffajmeaaGreatDoor.Dt
namespace Go.Proofs.YtbckbonffajmeaaGreatDoor.Dt
open Go.RowKit Go.Shelf
set_option linter.unusedVariables false
attribute [local go_sem] Oper.semAt_some

/-- A line as it stands in a frame. -/
def lineF (l : List Int) : List Int := (if l.head? = some 46 then [46] else []) ++ (l ++ [13, 10])
def pieceZ (zs : List Int) (x : Nat × Nat × Bool) : List Int := (zs.drop x.1).take x.2.1
def flatZ (zs : List Int) (ls : List (Nat × Nat × Bool)) : List Int := ls.flatMap (fun x => lineF (pieceZ zs x))
/-- A text's frame. -/
def frameZ (zs : List Int) : List Int := flatZ zs (linesZ 0 zs) ++ [46, 13, 10]

theorem in_append_string {F : Fence} {n' : Nat} {P : Program} {ops : Array Oper} {rest : List Oper} {o : Oper} {a : Act} {Q : Exit → Act → World → Prop} (w : World) (hgd : o.guard = none) (sl x : Operand) (t u : TypeId)
    (ho : o.op = .call { callee := .builtin .append, args := #[sl, x], argTypes := #[t, u] })
    (base : Nat) (e : TypeId) (i : TypeInfo) (ht : P.underlying t = some (.slice e)) (hu : P.underlying u = some .string) (hi : P.info? e = some i) (hz : i.zero = some (.int .u8 0))
    (hsize : i.size = 1) (hby : i.bytes = 1)
    (v : Value) (n : Nat) (xs : List Value) (hs : a.eval sl = v) (hown : w.ownsRow base e 1 v n xs) (s : ByteArray) (hx : a.eval x = .string s)
    (h63 : n + s.size ≤ maxLen) (hbytes : n + s.size ≤ 140737488355328) (hbase : base ≤ w.heap.size)
    (h : ∀ v' w', w'.ownsRow base e 1 v' (n + s.size) (xs ++ Lib.strCells s) → w.grownBy w' v.ownBlock → wpListIn F n' P ops Q rest (a.put o.dst v') w') : wpListIn F n' P ops Q (o :: rest) a w := by
  refine wpListIn_plain hgd fun K hK => ?_
  obtain ⟨v', w', hr, h2, h3, h4⟩ := Lib.run_append_own_string (P := P) w base t u o.type e i ht hu hi hz hsize hby v n xs hown s h63 hbytes hbase
  unfold Oper.wpIn
  refine ⟨?_, ?_⟩
  · simp [Oper.about, ho, resolve, Target.leads, Sem.run_pure]
  · rw [Oper.semAt_plain F _ _ (by rw [ho]; intro c hc'; cases hc')]
    simp [execOp, ho, resolve, invoke, builtin, hs, hx, hr, Result.andThen]
    exact hK _ _ (h v' w' h2 h3)

theorem own_of {w : World} {B n : Nat} {v : Value} {l : List Int} {xs : List Value} (h : w.ownsRow B 5 1 v n xs) (hn : n = l.length) (hx : xs = l.map (Value.int .u8)) : Own w B v l := by subst hn; subst hx; exact h
theorem sc1310 : Lib.strCells ⟨#[13, 10]⟩ = [.int .u8 13, .int .u8 10] := rfl

theorem linesZ_len : ∀ (k p : Nat) (l : List Int), l.length ≤ k → (linesZ p l).length ≤ l.length
  | 0, p, l, h => by
    obtain rfl : l = [] := List.eq_nil_of_length_eq_zero (by omega)
    simp [linesZ_nil]
  | k + 1, p, l, h => by
    by_cases hl : l = []
    · subst hl; simp [linesZ_nil]
    · have hp : 0 < l.length := List.length_pos_iff.2 hl
      by_cases hi : 0 ≤ pairI l
      · rw [linesZ_pair p l hi]
        have hr := pairI_room l hi
        have := linesZ_len k (p + (pairI l).toNat + 2) (l.drop ((pairI l).toNat + 2)) (by simp; omega)
        simp only [List.length_cons, List.length_drop] at this ⊢
        omega
      · rw [linesZ_last p l hl hi]; simp; omega
theorem flatZ_len {len : Nat} (zs : List Int) : ∀ pre : List (Ln len), (flatZ zs (pre.map (fun x => x.1))).length ≤ pre.length * (len + 3)
  | [] => by simp [flatZ]
  | x :: pre => by
    have ih := flatZ_len zs pre
    have h1 : (pieceZ zs x.1).length ≤ len := by
      have := x.2
      simp only [pieceZ, List.length_take]
      omega
    have h2 : (lineF (pieceZ zs x.1)).length ≤ len + 3 := by
      unfold lineF
      split <;> simp <;> omega
    have h3 : flatZ zs ((x :: pre).map (fun x => x.1)) = lineF (pieceZ zs x.1) ++ flatZ zs (pre.map (fun x => x.1)) := by simp [flatZ]
    rw [h3, List.length_append, List.length_cons, Nat.succ_mul]
    omega

/-- All but the box Bo and rows of bytes from B on lies as it lay. -/
structure Gr (B Bo : Nat) (W W' : World) : Prop where
  os : W'.os = W.os
  tape : W'.tape = W.tape
  output : W'.output = W.output
  size : W.heap.size ≤ W'.heap.size
  same : ∀ k o, k ≠ Bo → W.heap[k]? = some o → (k < B ∨ ∀ cs fr, o ≠ .cells cs 5 fr) → W'.heap[k]? = some o
theorem Gr.refl (B Bo : Nat) (W : World) : Gr B Bo W W := ⟨rfl, rfl, rfl, Nat.le_refl _, fun _ _ _ h _ => h⟩
theorem Gr.trans {B Bo : Nat} {X Y Z : World} (h : Gr B Bo X Y) (k : Gr B Bo Y Z) : Gr B Bo X Z :=
  ⟨k.os.trans h.os, k.tape.trans h.tape, k.output.trans h.output, Nat.le_trans h.size k.size, fun i o h1 h2 h3 => k.same i o h1 (h.same i o h1 h2 h3) h3⟩
theorem Gr.alloc {B Bo : Nat} {W W' : World} (h : Gr B Bo W W') (o : Obj) : Gr B Bo W (W'.alloc o) :=
  h.trans ⟨rfl, rfl, rfl, by simp, fun k o' _ h2 _ => (Below.heap_alloc W' o k (Array.getElem?_eq_some_iff.1 h2).1).trans h2⟩
theorem Gr.below {B Bo n : Nat} {W W' : World} (h : Gr B Bo W W') (h1 : n ≤ B) (h2 : n ≤ Bo) (h3 : n ≤ W.heap.size) : Below n W W' :=
  ⟨h.os, h.tape, h.output, h.size, fun k hk => by
    obtain ⟨o, ho⟩ : ∃ o, W.heap[k]? = some o := ⟨W.heap[k]'(by omega), Array.getElem?_eq_getElem (by omega)⟩
    rw [ho]; exact h.same k o (by omega) ho (.inl (by omega))⟩
theorem Gr.blk {B Bo k : Nat} {W W' : World} {cs : Array Value} {t : TypeId} (h : Gr B Bo W W') (hb : Blk W k cs t) (hk : k ≠ Bo) (ht : k < B ∨ t ≠ 5) : Blk W' k cs t :=
  h.same k _ hk hb (ht.imp id (fun ht cs' fr e => by cases e; exact ht rfl))
theorem Gr.keeps {B Bo : Nat} {W W' : World} {cs : Array Value} {t : TypeId} (h : Gr B Bo W W') (hb : Blk W Bo cs t) : KeepsOthers W W' :=
  ⟨h.size, fun k o hk ho => h.same k o (fun e => by subst e; rw [show W.heap[k]? = _ from hb] at hk; cases hk; cases ho) hk (.inr (fun cs fr e => by subst e; cases ho))⟩

theorem app_step {B Bo : Nat} {W w1 : World} {v v' : Value} {l l' : List Int} (hb : Blk W Bo #[v] 33) (hBo : Bo < B) (hB : B ≤ W.heap.size) (ho : Own W B v l) (hg : W.grownBy w1 v.ownBlock) (ho' : Own w1 B v' l') :
    Blk w1 Bo #[v] 33 ∧ Blk (w1.setCell ⟨Bo, 0, none⟩ v') Bo #[v'] 33 ∧ Own (w1.setCell ⟨Bo, 0, none⟩ v') B v' l' ∧ Gr B Bo W (w1.setCell ⟨Bo, 0, none⟩ v') ∧ Gr B Bo W w1 := by
  have hbl := grow_below hB hg ho
  have h1 : Blk w1 Bo #[v] 33 := hb.below hbl hBo
  have hs : ∀ k o, W.heap[k]? = some o → (k < B ∨ ∀ cs fr, o ≠ .cells cs 5 fr) → w1.heap[k]? = some o := by
    intro k o h2 h3
    refine (hg.block k (Array.getElem?_eq_some_iff.1 h2).1 (fun e => ?_)).trans h2
    rcases ho.2 with ⟨rfl, _⟩ | ⟨g, cap, cur, rfl, hg1, hg2, _⟩
    · simp [Value.ownBlock] at e
    · obtain rfl : k = g := by simpa [Value.ownBlock] using e
      rcases h3 with h3 | h3
      · omega
      · rw [hg2] at h2; cases h2; exact h3 _ _ rfl
  refine ⟨h1, heap_setCell_same w1 Bo 0 #[v] 33 v' h1, own_other hBo ho', ⟨hbl.os, hbl.tape, hbl.output, Nat.le_trans hbl.size (size_setCell _ _ _), ?_⟩, ⟨hbl.os, hbl.tape, hbl.output, hbl.size, fun k o _ h2 h3 => hs k o h2 h3⟩⟩
  intro k o hk h2 h3
  rw [heap_setCell_other _ _ _ _ (by simpa using hk)]
  exact hs k o h2 h3

set_option maxRecDepth 100000 in
set_option maxHeartbeats 4000000 in
theorem stuff_bad (a : Option Addr) (len cap : Nat) (zs : List Int) (w : World) (hlen : zs.length = len) (hcap : len ≤ cap) (hnil : a = none → cap = 0) (hbig : len ≤ 1000000) (hz : Byt zs) (hr : Row w a zs) (hm : Mx w) (hbad : (rightZ zs).2 ≠ 0) :
    Calls Tryz.prog 23 #[.slice a len cap] w fun e w' => e = .returned (.tuple #[.slice none 0 0, .int .i64 (rightZ zs).2]) ∧ Below w.heap.size w w' := by
  have hR := right_any a len cap zs w hlen hcap hnil hbig hz hr hm
  obtain ⟨x, hx⟩ : ∃ x, (rightZ zs).1 = x := ⟨_, rfl⟩
  obtain ⟨y, hy⟩ : ∃ y, (rightZ zs).2 = y := ⟨_, rfl⟩
  rw [hx, hy] at hR
  rw [hy] at hbad ⊢
  have hb' : (y != 0) = true := by simpa using hbad
  clear hx hy hm hr hz
  go_enter Tryz.func23, Tryz.ntmps23
  go_wp2_with fail
  refine hR.mono ?_
  clear hR
  rintro e w1 ⟨rfl, hB1⟩
  go_wp2
  go_quiet (fail)
  go_wp2
  go_ret2
  refine ⟨rfl, ?_⟩
  exact (hB1.alloc hB1.size _).trans (Qt.below ⟨_, rfl⟩ _)

set_option maxRecDepth 100000 in
set_option maxHeartbeats 4000000 in
theorem stuff_good (a : Option Addr) (len cap : Nat) (zs : List Int) (w : World) (hlen : zs.length = len) (hcap : len ≤ cap) (hnil : a = none → cap = 0) (hbig : len ≤ 1000000) (hz : Byt zs) (hr : Row w a zs) (hm : Mx w) (hgood : (rightZ zs).2 = 0) :
    Calls Tryz.prog 23 #[.slice a len cap] w fun e w' => ∃ v, e = .returned (.tuple #[v, .int .i64 0]) ∧ Own w' w.heap.size v (frameZ zs) ∧ Below w.heap.size w w' := by
  have hR := right_any a len cap zs w hlen hcap hnil hbig hz hr hm
  obtain ⟨x, hx⟩ : ∃ x, (rightZ zs).1 = x := ⟨_, rfl⟩
  rw [hx, hgood] at hR
  clear hx
  obtain ⟨j0, hi, hz0, hz1, hz2⟩ := info_parts Tryz.info5
  refine (callsIn_wide (n := 20)).1 ?_
  refine callsIn_of_wp_marks Tryz.func23 rfl trivial ?_ rfl
  simp only [Tryz.ntmps23, List.size_toArray, List.length_cons, List.length_nil, Nat.reduceAdd, Nat.reduceSub, Array.replicate_succ, Array.replicate_zero, List.push_toArray, List.append_toArray, List.nil_append, List.cons_append]
  gi_wp2_with fail
  refine ⟨trivial, (callsIn_wide.2 hR).mono ?_⟩
  clear hR
  rintro e w1 ⟨rfl, hB1⟩
  gi_wp2_with (refine ⟨trivial, ?_⟩; gi_at_call 45; refine (lines_in _ _ _ _ _).mono ?_; rintro e w' ⟨rfl, rfl⟩)
  obtain ⟨b, off, ha⟩ : ∃ b off, (zs ≠ [] → a = some ⟨b, off, none⟩) := by
    rcases hr with rfl | ⟨b, off, rfl, _⟩
    · exact ⟨0, 0, fun h => absurd rfl h⟩
    · exact ⟨b, off, fun _ => rfl⟩
  have hsw := hB1.size
  have hB0 : Below w.heap.size w (((w1.alloc (.cells #[.int .i64 x, .int .i64 0] 81)).alloc (.cells #[.slice none 0 0] 33)).alloc (.cells #[.slice a len cap] 33)) := ((hB1.alloc hsw _).alloc (by simp; omega) _).alloc (by simp; omega) _
  have k1 := (Blk.new (w1.alloc (.cells #[.int .i64 x, .int .i64 0] 81)) #[.slice none 0 0] 33).alloc (.cells #[.slice a len cap] 33)
  have k2 := Blk.new ((w1.alloc (.cells #[.int .i64 x, .int .i64 0] 81)).alloc (.cells #[.slice none 0 0] 33)) #[.slice a len cap] 33
  simp only [World.size_alloc] at k1 k2
  have hsz : (((w1.alloc (.cells #[.int .i64 x, .int .i64 0] 81)).alloc (.cells #[.slice none 0 0] 33)).alloc (.cells #[.slice a len cap] 33)).heap.size = w1.heap.size + 3 := by simp
  obtain ⟨W0, hW0⟩ : ∃ W0, ((w1.alloc (.cells #[.int .i64 x, .int .i64 0] 81)).alloc (.cells #[.slice none 0 0] 33)).alloc (.cells #[.slice a len cap] 33) = W0 := ⟨_, rfl⟩
  rw [hW0] at k1 k2 hB0 hsz ⊢
  clear hW0
  have hpos := hm.pos
  refine wpIn_rangeFunc_ownH rfl (by omega) (gf := 72) (lb := #[.pointer (some ⟨w1.heap.size + 1 + 1, 0, none⟩)]) rfl trivial (enters_of Tryz.func72 (by kernel_rfl) rfl)
    (lines_stops 19 (by omega) (w1.heap.size + 1 + 1) w.heap.size b off len cap a zs hlen hcap hnil hbig hz ha hpos W0 (by omega) (k2.cell 0) (fun W' h => row_below hr (hB0.trans h)) (hm.keep hB0)) Kl.t
    (fun W l o o' hl ho _ _ => ⟨(Below.refl _ W).grown (grownBy_putObj' W l o') (by have := (Array.getElem?_eq_some_iff.1 ho).1; omega) (fun k e => by cases e; omega), World.putObj_heap_other (by omega)⟩)
    (Below.refl _ _) (fun _ => rfl)
    (fun pre W => ((∃ v, Boxed W (w1.heap.size + 1) 33 v ∧ W.ownsRow (w1.heap.size + 3) 5 1 v (flatZ zs (pre.map (fun x => x.1))).length ((flatZ zs (pre.map (fun x => x.1))).map (Value.int .u8)) ∧ True) ∧ Blk W (w1.heap.size + 1 + 1) #[.slice a len cap] 33) ∧ Below w.heap.size w W)
    (fun _ _ _ => False)
    (OwnFrom.and (OwnFrom.and (Go.Own.from (holdsRow_own (w1.heap.size + 3) (w1.heap.size + 1) 33 5 1 (fun pre : List (Ln len) => (flatZ zs (pre.map (fun x => x.1))).length) (fun pre => (flatZ zs (pre.map (fun x => x.1))).map (Value.int .u8)) (fun _ _ => True)) _) (Go.Own.from (blk_own _ _ _) _)) (ownFrom_below (Nat.le_refl _) (by omega)))
    (fun _ _ _ _ _ hs _ _ => hs)
    ⟨⟨⟨.slice none 0 0, k1, World.ownsRow_nil _ _ _ _, trivial⟩, k2⟩, hB0⟩
    (fun x' a' W => ∃ Bx, w1.heap.size + 1 + 1 < Bx ∧ Blk W Bx #[.slice (some ⟨b, off + x'.1.1, none⟩) x'.1.2.1 (cap - x'.1.1), .bool x'.1.2.2] 87 ∧ a' = { tmps := #[.slice a len cap, undef, .slice none 0 0, .int .i64 0, .pointer (some ⟨w1.heap.size, 0, none⟩), .pointer (some ⟨w1.heap.size + 1, 0, none⟩), undef, .pointer (some ⟨Bx, 0, none⟩), .slice a len cap, .agg #[.int .i64 x, .int .i64 0], .pointer (some ⟨w1.heap.size, 1, none⟩), .int .i64 0, .bool false, undef, undef, .slice a len cap, .func (.func 72) #[] #[.pointer (some ⟨w1.heap.size + 1 + 1, 0, none⟩)], .int .i64 (x'.1.1 : Nat), .agg #[.slice (some ⟨b, off + x'.1.1, none⟩) x'.1.2.1 (cap - x'.1.1), .bool x'.1.2.2], undef, undef, undef, undef, undef, undef, undef, undef, undef, undef, undef, undef, undef, undef, undef, undef, undef, undef, undef, undef, undef, undef, undef, undef, undef], defers := [] })
    (fun x a' _ X Y row hs hg hrow => by
      obtain ⟨Bx, h1, h2, h3⟩ := hs
      exact ⟨Bx, h1, blk_own Bx 87 (fun (_ : Unit) => #[Value.slice (some ⟨b, off + x.1.1, none⟩) x.1.2.1 (cap - x.1.1), Value.bool x.1.2.2]) () X Y row h2 hg (fun q e => (hrow q e).2), h3⟩)
    ?assign ?body ?done ?stop
  case assign =>
    rintro l pre ⟨⟨p, n, ended⟩, hx1, hx2⟩ W K ⟨⟨⟨v, jv, jo, _⟩, j2⟩, hB2⟩ hK
    simp only at hx1 hx2
    have hs1 := j2.lt
    have hs2 := hB2.size
    simp only [encL]
    gi_wp2
    exact hK _ _ ((KeepsOthers.alloc _ _).from _) ⟨(Below.refl _ W).alloc (by omega) _, Below.heap_alloc W _ _ hs1⟩ ⟨⟨⟨v, Blk.alloc jv _, own_keep jo (keep W _), trivial⟩, j2.alloc _⟩, hB2.alloc hs2 _⟩ ⟨W.heap.size, hs1, Blk.new W _ 87, rfl⟩
  case body =>
    rintro l pre ⟨⟨p, n, ended⟩, hx1, hx2⟩ a' W hl ⟨rr, hrr⟩ ⟨⟨⟨v, jv, jo, _⟩, j2⟩, hB2⟩ ⟨Bx, hBx, bX, rfl⟩ hlt
    simp only at hx1 hx2 bX ⊢
    have hne : zs ≠ [] := by rintro rfl; simp at hlen; omega
    obtain rfl := ha hne
    have hrow : Row W (some ⟨b, off + p, none⟩) ((zs.drop p).take n) := by
      have h := row_take n (row_drop (n := p) (cap := cap) (row_below hr hB2) (by omega))
      rw [if_neg (by omega)] at h
      simp only [Option.map_some, add_plain] at h
      exact h
    have hpl : ((zs.drop p).take n).length = n := by simp; omega
    obtain ⟨pc, hpc⟩ : ∃ pc, (zs.drop p).take n = pc := ⟨_, rfl⟩
    rw [hpc] at hrow hpl
    obtain ⟨fl, hfl⟩ : ∃ fl, flatZ zs (pre.map (fun x => x.1)) = fl := ⟨_, rfl⟩
    have hfb : fl.length ≤ 1000010000000 := by
      have h1 := flatZ_len zs pre
      have h2 := linesZ_len zs.length 0 zs (Nat.le_refl _)
      rw [hfl] at h1
      have h3 : pre.length * (len + 3) ≤ 1000000 * 1000003 := Nat.mul_le_mul (by omega) (by omega)
      omega
    rw [hfl] at jo
    have HFL : Hid (flatZ zs ((pre ++ [(⟨(p, n, ended), hx1, hx2⟩ : Ln len)]).map (fun x => x.1)) = fl ++ lineF pc) := by
      unfold Hid; simp [flatZ] at hfl ⊢; rw [hfl]; simp [pieceZ, hpc]
    have hBW : (w1.heap.size + 3) ≤ W.heap.size := j2.lt
    have OW0 : Hid (Own W (w1.heap.size + 3) v fl) := jo
    have BX0 : Hid (Blk W (w1.heap.size + 1) #[v] 33) := jv
    have GR0 : Hid (Gr (w1.heap.size + 3) (w1.heap.size + 1) W W) := Gr.refl _ _ _
    have GR0S := hBW
    have bXH : Hid (Blk W Bx #[.slice (some ⟨b, off + p, none⟩) n (cap - p), .bool ended] 87) := bX
    have HB2 : Hid (Below w.heap.size w W) := hB2
    have H2 : Hid (Blk W (w1.heap.size + 1 + 1) #[.slice (some ⟨b, off, none⟩) len cap] 33) := j2
    have hplH : Hid (pc.length = n) := hpl
    have HROW : Hid (∀ X, Gr (w1.heap.size + 3) (w1.heap.size + 1) W X → ∀ j u, (pc.map (Value.int .u8))[j]? = some u → X.cell? ((⟨b, off + p, none⟩ : Addr).add j) = some u) := by
      intro X hX j u hu
      have hbX : Below w.heap.size w X := hB2.trans (hX.below (by omega) (by omega) (by omega))
      have hrX : Row X (some ⟨b, off + p, none⟩) pc := by
        have h := row_take n (row_drop (n := p) (cap := cap) (row_below hr hbX) (by omega))
        rw [if_neg (by omega), hpc] at h
        simp only [Option.map_some, add_plain] at h
        exact h
      rcases hrX with rfl | ⟨b', off', hb', hc⟩
      · simp at hu
      · cases hb'
        rw [add_plain]
        rw [List.getElem?_map] at hu
        have hj : j < pc.length := by
          rcases Nat.lt_or_ge j pc.length with h | h
          · exact h
          · rw [List.getElem?_eq_none h] at hu; simp at hu
        rw [hc j hj]
        rw [List.getElem?_eq_getElem hj] at hu
        simp at hu
        simp [List.getD_eq_getElem?_getD, List.getElem?_eq_getElem hj, hu]
    have c0 := bX.cell 0
    have c1 := bX.cell 1
    have d0 := Blk.cell (cs := #[v]) jv 0
    have f0 := Blk.frozen (cs := #[v]) jv 0
    simp only [List.getElem?_toArray, List.getElem?_cons_zero, List.getElem?_cons_succ] at c0 c1 d0
    have HEAD : Hid (pc = [] ∨ ∃ q, pc.head? = some q ∧ W.cell? ⟨b, off + p, none⟩ = some (.int .u8 q)) := by
      cases pc with
      | nil => exact .inl rfl
      | cons q pc' => exact .inr ⟨q, rfl, by have := HROW.out W GR0.out 0 (.int .u8 q) rfl; rw [add_plain] at this; exact this⟩
    clear jv jo bX hB2 j2 hrow hpl hpc hfl k1 k2 hB0 hrr hr hm
    have fin : ∀ X v', Blk X (w1.heap.size + 1) #[v'] 33 → Own X (w1.heap.size + 3) v' (fl ++ lineF pc) → Gr (w1.heap.size + 3) (w1.heap.size + 1) W X → KeepsFrom W0.heap.size W X ∧ Kl w.heap.size (w1.heap.size + 1 + 1) W X ∧ ((∃ v, Boxed X (w1.heap.size + 1) 33 v ∧ X.ownsRow (w1.heap.size + 3) 5 1 v (flatZ zs ((pre ++ [(⟨(p, n, ended), hx1, hx2⟩ : Ln len)]).map (fun x => x.1))).length ((flatZ zs ((pre ++ [(⟨(p, n, ended), hx1, hx2⟩ : Ln len)]).map (fun x => x.1))).map (Value.int .u8)) ∧ True) ∧ Blk X (w1.heap.size + 1 + 1) #[.slice (some ⟨b, off, none⟩) len cap] 33) ∧ Below w.heap.size w X := by
      intro X v' h1 h2 h3
      have hb := h3.below (n := w.heap.size) (by omega) (by omega) (by omega)
      have h4 := h3.blk H2.out (by omega) (.inl (by omega))
      rw [HFL.out]
      exact ⟨(h3.keeps BX0.out).from _, ⟨hb, h4.trans H2.out.symm⟩, ⟨⟨v', h1, h2, trivial⟩, h4⟩, HB2.out.trans hb⟩
    have FIN : Hid _ := fin
    clear fin
    by_cases hn0 : n = 0
    · obtain rfl := hn0
      have hn0 : (0 : Nat) = 0 := rfl
      have hpc0 : pc = [] := List.eq_nil_of_length_eq_zero (by exact hplH.out)
      have HLINE : Hid (lineF pc = pc ++ [13, 10]) := by unfold Hid; rw [hpc0]; rfl
      gi_wp2_with (gi_at_builtin; refine wpListIn_append_own _ rfl (.tmp 33) (.tmp 35) 33 rfl (w1.heap.size + 3) 5 j0 (.int .u8 0) 1 1 Tryz.underlying33 hi hz0 hz1 hz2 rfl (by decide) _ fl.length _ rfl OW0.out ⟨b, off + p, none⟩ 0 (cap - p) (pc.map (Value.int .u8)) rfl (by simp [hplH.out]) (HROW.out _ GR0.out) (ints_one pc) (by unfold maxLen; omega) (by omega) hBW ?_)
      intro v1 x1 hown1 hgrow1 _
      have o1 : Own x1 (w1.heap.size + 3) v1 (fl ++ pc) := own_of hown1 (by have := hplH.out; simp; omega) (by simp [hpc0])
      have st1 := app_step BX0.out (by omega) hBW OW0.out hgrow1 o1
      obtain ⟨a1, cp1, e1, _⟩ := own_row' o1
      clear hown1 hgrow1 o1
      subst e1
      have GR1 : Hid (Gr (w1.heap.size + 3) (w1.heap.size + 1) W (x1.setCell ⟨(w1.heap.size + 1), 0, none⟩ (.slice a1 (fl ++ pc).length cp1))) := Gr.trans GR0.out st1.2.2.2.1
      have GP1 : Gr (w1.heap.size + 3) (w1.heap.size + 1) W x1 := Gr.trans GR0.out st1.2.2.2.2
      have GR1S : (w1.heap.size + 3) ≤ (x1.setCell ⟨(w1.heap.size + 1), 0, none⟩ (.slice a1 (fl ++ pc).length cp1)).heap.size := Nat.le_trans hBW GR1.out.size
      have OW1 : Hid (Own (x1.setCell ⟨(w1.heap.size + 1), 0, none⟩ (.slice a1 (fl ++ pc).length cp1)) (w1.heap.size + 3) (.slice a1 (fl ++ pc).length cp1) (fl ++ pc)) := st1.2.2.1
      have BX1 : Hid (Blk (x1.setCell ⟨(w1.heap.size + 1), 0, none⟩ (.slice a1 (fl ++ pc).length cp1)) (w1.heap.size + 1) #[(.slice a1 (fl ++ pc).length cp1)] 33) := st1.2.1
      have m11 := st1.1.cell 0
      have m12 := st1.1.frozen 0
      have m13 := (GP1.blk bXH.out (by omega) (.inr (by decide))).cell 0
      simp only [List.getElem?_toArray, List.getElem?_cons_zero] at m11 m13
      obtain ⟨n1, hn1⟩ : ∃ n1, (fl ++ pc).length = n1 := ⟨_, rfl⟩
      have hnb1 : n1 ≤ 1000020000000 := by have := hplH.out; rw [← hn1]; simp; omega
      have HN1 : Hid ((fl ++ pc).length = n1) := hn1
      rw [hn1] at GR1 GR1S OW1 BX1 ⊢
      have ol1 : Hid ((x1.setCell ⟨(w1.heap.size + 1), 0, none⟩ (.slice a1 n1 cp1)).ownsRow (w1.heap.size + 3) 5 1 (.slice a1 n1 cp1) n1 ((fl ++ pc).map (Value.int .u8))) := by have := OW1.out; unfold Own at this; rw [HN1.out] at this; exact this
      clear st1 GP1 hn1
      gi_wp2_with (gi_at_builtin; refine in_append_string _ rfl (.tmp 37) (.const (.string ⟨#[13, 10]⟩)) 33 9 rfl (w1.heap.size + 3) 5 j0 Tryz.underlying33 Tryz.underlying9 hi hz0 hz1 hz2 _ n1 _ rfl ol1.out ⟨#[13, 10]⟩ rfl (by unfold maxLen; simp [ByteArray.size]; omega) (by simp [ByteArray.size]; omega) GR1S ?_)
      intro v2 x2 hown2 hgrow2
      have o2 : Own x2 (w1.heap.size + 3) v2 (fl ++ pc ++ [13, 10]) := own_of hown2 (by have := hplH.out; have h2 := HN1.out; simp at h2 ⊢; omega) (by simp [sc1310, hpc0])
      have st2 := app_step BX1.out (by omega) GR1S OW1.out hgrow2 o2
      obtain ⟨a2, cp2, e2, _⟩ := own_row' o2
      clear hown2 hgrow2 o2
      subst e2
      have GR2 : Hid (Gr (w1.heap.size + 3) (w1.heap.size + 1) W (x2.setCell ⟨(w1.heap.size + 1), 0, none⟩ (.slice a2 (fl ++ pc ++ [13, 10]).length cp2))) := Gr.trans GR1.out st2.2.2.2.1
      have GP2 : Gr (w1.heap.size + 3) (w1.heap.size + 1) W x2 := Gr.trans GR1.out st2.2.2.2.2
      have GR2S : (w1.heap.size + 3) ≤ (x2.setCell ⟨(w1.heap.size + 1), 0, none⟩ (.slice a2 (fl ++ pc ++ [13, 10]).length cp2)).heap.size := Nat.le_trans hBW GR2.out.size
      have OW2 : Hid (Own (x2.setCell ⟨(w1.heap.size + 1), 0, none⟩ (.slice a2 (fl ++ pc ++ [13, 10]).length cp2)) (w1.heap.size + 3) (.slice a2 (fl ++ pc ++ [13, 10]).length cp2) (fl ++ pc ++ [13, 10])) := st2.2.2.1
      have BX2 : Hid (Blk (x2.setCell ⟨(w1.heap.size + 1), 0, none⟩ (.slice a2 (fl ++ pc ++ [13, 10]).length cp2)) (w1.heap.size + 1) #[(.slice a2 (fl ++ pc ++ [13, 10]).length cp2)] 33) := st2.2.1
      have m21 := st2.1.cell 0
      have m22 := st2.1.frozen 0
      have m23 := (GP2.blk bXH.out (by omega) (.inr (by decide))).cell 0
      simp only [List.getElem?_toArray, List.getElem?_cons_zero] at m21 m23
      obtain ⟨n2, hn2⟩ : ∃ n2, (fl ++ pc ++ [13, 10]).length = n2 := ⟨_, rfl⟩
      have hnb2 : n2 ≤ 1000020000000 := by have := hplH.out; rw [← hn2]; simp; omega
      have HN2 : Hid ((fl ++ pc ++ [13, 10]).length = n2) := hn2
      rw [hn2] at GR2 GR2S OW2 BX2 ⊢
      have ol2 : Hid ((x2.setCell ⟨(w1.heap.size + 1), 0, none⟩ (.slice a2 n2 cp2)).ownsRow (w1.heap.size + 3) 5 1 (.slice a2 n2 cp2) n2 ((fl ++ pc ++ [13, 10]).map (Value.int .u8))) := by have := OW2.out; unfold Own at this; rw [HN2.out] at this; exact this
      clear st2 GP2 hn2
      gi_wp2
      exact FIN.out _ _ BX2.out (by have := OW2.out; rw [HLINE.out, ← List.append_assoc]; exact this) GR2.out
    · have hd : decide ((n : Int) > 0) = true := by simp; omega
      rcases HEAD.out with h | ⟨q, hq, hcq⟩
      · rw [h] at hplH; have := hplH.out; simp at this; omega
      have hadd : (⟨b, off + p, none⟩ : Addr).add 0 = ⟨b, off + p, none⟩ := by rw [add_plain]; rfl
      by_cases hq46 : q = 46
      · subst hq46
        have HLINE : Hid (lineF pc = [46] ++ (pc ++ [13, 10])) := by unfold Hid lineF; rw [if_pos hq]
        gi_wp2_with (gi_at_builtin; refine wpListIn_append_own _ rfl (.tmp 30) (.tmp 31) 33 rfl (w1.heap.size + 3) 5 j0 (.int .u8 0) 1 1 Tryz.underlying33 hi hz0 hz1 hz2 rfl (by decide) _ fl.length _ rfl (own_keep OW0.out (keep W _)) ⟨W.heap.size, 0, none⟩ 1 1 [.int .u8 46] rfl rfl (cells_new W _ 5) (ints_one [46]) (by unfold maxLen; omega) (by omega) (by simp; omega) ?_)
        intro v1 x1 hown1 hgrow1 _
        have o1 : Own x1 (w1.heap.size + 3) v1 (fl ++ [46]) := own_snoc (m := [46]) hown1
        have st1 := app_step (BX0.out.alloc (.cells #[.int .u8 46] 5)) (by omega) (by simp; omega) (own_keep OW0.out (keep W (.cells #[.int .u8 46] 5))) hgrow1 o1
        obtain ⟨a1, cp1, e1, _⟩ := own_row' o1
        clear hown1 hgrow1 o1
        subst e1
        have GR1 : Hid (Gr (w1.heap.size + 3) (w1.heap.size + 1) W (x1.setCell ⟨(w1.heap.size + 1), 0, none⟩ (.slice a1 (fl ++ [46]).length cp1))) := Gr.trans (GR0.out.alloc (.cells #[.int .u8 46] 5)) st1.2.2.2.1
        have GP1 : Gr (w1.heap.size + 3) (w1.heap.size + 1) W x1 := Gr.trans (GR0.out.alloc (.cells #[.int .u8 46] 5)) st1.2.2.2.2
        have GR1S : (w1.heap.size + 3) ≤ (x1.setCell ⟨(w1.heap.size + 1), 0, none⟩ (.slice a1 (fl ++ [46]).length cp1)).heap.size := Nat.le_trans hBW GR1.out.size
        have OW1 : Hid (Own (x1.setCell ⟨(w1.heap.size + 1), 0, none⟩ (.slice a1 (fl ++ [46]).length cp1)) (w1.heap.size + 3) (.slice a1 (fl ++ [46]).length cp1) (fl ++ [46])) := st1.2.2.1
        have BX1 : Hid (Blk (x1.setCell ⟨(w1.heap.size + 1), 0, none⟩ (.slice a1 (fl ++ [46]).length cp1)) (w1.heap.size + 1) #[(.slice a1 (fl ++ [46]).length cp1)] 33) := st1.2.1
        have m11 := st1.1.cell 0
        have m12 := st1.1.frozen 0
        have m13 := (GP1.blk bXH.out (by omega) (.inr (by decide))).cell 0
        simp only [List.getElem?_toArray, List.getElem?_cons_zero] at m11 m13
        obtain ⟨n1, hn1⟩ : ∃ n1, (fl ++ [46]).length = n1 := ⟨_, rfl⟩
        have hnb1 : n1 ≤ 1000020000000 := by have := hplH.out; rw [← hn1]; simp; omega
        have HN1 : Hid ((fl ++ [46]).length = n1) := hn1
        rw [hn1] at GR1 GR1S OW1 BX1 ⊢
        have ol1 : Hid ((x1.setCell ⟨(w1.heap.size + 1), 0, none⟩ (.slice a1 n1 cp1)).ownsRow (w1.heap.size + 3) 5 1 (.slice a1 n1 cp1) n1 ((fl ++ [46]).map (Value.int .u8))) := by have := OW1.out; unfold Own at this; rw [HN1.out] at this; exact this
        clear st1 GP1 hn1
        gi_wp2_with (gi_at_builtin; refine wpListIn_append_own _ rfl (.tmp 33) (.tmp 35) 33 rfl (w1.heap.size + 3) 5 j0 (.int .u8 0) 1 1 Tryz.underlying33 hi hz0 hz1 hz2 rfl (by decide) _ n1 _ rfl ol1.out ⟨b, off + p, none⟩ n (cap - p) (pc.map (Value.int .u8)) rfl (by simp [hplH.out]) (HROW.out _ GR1.out) (ints_one pc) (by unfold maxLen; omega) (by omega) GR1S ?_)
        intro v2 x2 hown2 hgrow2 _
        have o2 : Own x2 (w1.heap.size + 3) v2 (fl ++ [46] ++ pc) := own_of hown2 (by have := hplH.out; have h2 := HN1.out; simp at h2 ⊢; omega) (by simp)
        have st2 := app_step BX1.out (by omega) GR1S OW1.out hgrow2 o2
        obtain ⟨a2, cp2, e2, _⟩ := own_row' o2
        clear hown2 hgrow2 o2
        subst e2
        have GR2 : Hid (Gr (w1.heap.size + 3) (w1.heap.size + 1) W (x2.setCell ⟨(w1.heap.size + 1), 0, none⟩ (.slice a2 (fl ++ [46] ++ pc).length cp2))) := Gr.trans GR1.out st2.2.2.2.1
        have GP2 : Gr (w1.heap.size + 3) (w1.heap.size + 1) W x2 := Gr.trans GR1.out st2.2.2.2.2
        have GR2S : (w1.heap.size + 3) ≤ (x2.setCell ⟨(w1.heap.size + 1), 0, none⟩ (.slice a2 (fl ++ [46] ++ pc).length cp2)).heap.size := Nat.le_trans hBW GR2.out.size
        have OW2 : Hid (Own (x2.setCell ⟨(w1.heap.size + 1), 0, none⟩ (.slice a2 (fl ++ [46] ++ pc).length cp2)) (w1.heap.size + 3) (.slice a2 (fl ++ [46] ++ pc).length cp2) (fl ++ [46] ++ pc)) := st2.2.2.1
        have BX2 : Hid (Blk (x2.setCell ⟨(w1.heap.size + 1), 0, none⟩ (.slice a2 (fl ++ [46] ++ pc).length cp2)) (w1.heap.size + 1) #[(.slice a2 (fl ++ [46] ++ pc).length cp2)] 33) := st2.2.1
        have m21 := st2.1.cell 0
        have m22 := st2.1.frozen 0
        have m23 := (GP2.blk bXH.out (by omega) (.inr (by decide))).cell 0
        simp only [List.getElem?_toArray, List.getElem?_cons_zero] at m21 m23
        obtain ⟨n2, hn2⟩ : ∃ n2, (fl ++ [46] ++ pc).length = n2 := ⟨_, rfl⟩
        have hnb2 : n2 ≤ 1000020000000 := by have := hplH.out; rw [← hn2]; simp; omega
        have HN2 : Hid ((fl ++ [46] ++ pc).length = n2) := hn2
        rw [hn2] at GR2 GR2S OW2 BX2 ⊢
        have ol2 : Hid ((x2.setCell ⟨(w1.heap.size + 1), 0, none⟩ (.slice a2 n2 cp2)).ownsRow (w1.heap.size + 3) 5 1 (.slice a2 n2 cp2) n2 ((fl ++ [46] ++ pc).map (Value.int .u8))) := by have := OW2.out; unfold Own at this; rw [HN2.out] at this; exact this
        clear st2 GP2 hn2
        gi_wp2_with (gi_at_builtin; refine in_append_string _ rfl (.tmp 37) (.const (.string ⟨#[13, 10]⟩)) 33 9 rfl (w1.heap.size + 3) 5 j0 Tryz.underlying33 Tryz.underlying9 hi hz0 hz1 hz2 _ n2 _ rfl ol2.out ⟨#[13, 10]⟩ rfl (by unfold maxLen; simp [ByteArray.size]; omega) (by simp [ByteArray.size]; omega) GR2S ?_)
        intro v3 x3 hown3 hgrow3
        have o3 : Own x3 (w1.heap.size + 3) v3 (fl ++ [46] ++ pc ++ [13, 10]) := own_of hown3 (by have := hplH.out; have h2 := HN2.out; simp at h2 ⊢; omega) (by simp [sc1310])
        have st3 := app_step BX2.out (by omega) GR2S OW2.out hgrow3 o3
        obtain ⟨a3, cp3, e3, _⟩ := own_row' o3
        clear hown3 hgrow3 o3
        subst e3
        have GR3 : Hid (Gr (w1.heap.size + 3) (w1.heap.size + 1) W (x3.setCell ⟨(w1.heap.size + 1), 0, none⟩ (.slice a3 (fl ++ [46] ++ pc ++ [13, 10]).length cp3))) := Gr.trans GR2.out st3.2.2.2.1
        have GP3 : Gr (w1.heap.size + 3) (w1.heap.size + 1) W x3 := Gr.trans GR2.out st3.2.2.2.2
        have GR3S : (w1.heap.size + 3) ≤ (x3.setCell ⟨(w1.heap.size + 1), 0, none⟩ (.slice a3 (fl ++ [46] ++ pc ++ [13, 10]).length cp3)).heap.size := Nat.le_trans hBW GR3.out.size
        have OW3 : Hid (Own (x3.setCell ⟨(w1.heap.size + 1), 0, none⟩ (.slice a3 (fl ++ [46] ++ pc ++ [13, 10]).length cp3)) (w1.heap.size + 3) (.slice a3 (fl ++ [46] ++ pc ++ [13, 10]).length cp3) (fl ++ [46] ++ pc ++ [13, 10])) := st3.2.2.1
        have BX3 : Hid (Blk (x3.setCell ⟨(w1.heap.size + 1), 0, none⟩ (.slice a3 (fl ++ [46] ++ pc ++ [13, 10]).length cp3)) (w1.heap.size + 1) #[(.slice a3 (fl ++ [46] ++ pc ++ [13, 10]).length cp3)] 33) := st3.2.1
        have m31 := st3.1.cell 0
        have m32 := st3.1.frozen 0
        have m33 := (GP3.blk bXH.out (by omega) (.inr (by decide))).cell 0
        simp only [List.getElem?_toArray, List.getElem?_cons_zero] at m31 m33
        obtain ⟨n3, hn3⟩ : ∃ n3, (fl ++ [46] ++ pc ++ [13, 10]).length = n3 := ⟨_, rfl⟩
        have hnb3 : n3 ≤ 1000020000000 := by have := hplH.out; rw [← hn3]; simp; omega
        have HN3 : Hid ((fl ++ [46] ++ pc ++ [13, 10]).length = n3) := hn3
        rw [hn3] at GR3 GR3S OW3 BX3 ⊢
        have ol3 : Hid ((x3.setCell ⟨(w1.heap.size + 1), 0, none⟩ (.slice a3 n3 cp3)).ownsRow (w1.heap.size + 3) 5 1 (.slice a3 n3 cp3) n3 ((fl ++ [46] ++ pc ++ [13, 10]).map (Value.int .u8))) := by have := OW3.out; unfold Own at this; rw [HN3.out] at this; exact this
        clear st3 GP3 hn3
        gi_wp2
        exact FIN.out _ _ BX3.out (by have := OW3.out; rw [HLINE.out]; simpa [List.append_assoc] using this) GR3.out
      · have hq' : (q == 46) = false := by rw [beq_eq_false_iff_ne]; exact hq46
        have HLINE : Hid (lineF pc = pc ++ [13, 10]) := by unfold Hid lineF; rw [hq, if_neg (by simpa using hq46)]; rfl
        gi_wp2_with (gi_at_builtin; refine wpListIn_append_own _ rfl (.tmp 33) (.tmp 35) 33 rfl (w1.heap.size + 3) 5 j0 (.int .u8 0) 1 1 Tryz.underlying33 hi hz0 hz1 hz2 rfl (by decide) _ fl.length _ rfl OW0.out ⟨b, off + p, none⟩ n (cap - p) (pc.map (Value.int .u8)) rfl (by simp [hplH.out]) (HROW.out _ GR0.out) (ints_one pc) (by unfold maxLen; omega) (by omega) hBW ?_)
        intro v1 x1 hown1 hgrow1 _
        have o1 : Own x1 (w1.heap.size + 3) v1 (fl ++ pc) := own_of hown1 (by have := hplH.out; simp; omega) (by simp)
        have st1 := app_step BX0.out (by omega) hBW OW0.out hgrow1 o1
        obtain ⟨a1, cp1, e1, _⟩ := own_row' o1
        clear hown1 hgrow1 o1
        subst e1
        have GR1 : Hid (Gr (w1.heap.size + 3) (w1.heap.size + 1) W (x1.setCell ⟨(w1.heap.size + 1), 0, none⟩ (.slice a1 (fl ++ pc).length cp1))) := Gr.trans GR0.out st1.2.2.2.1
        have GP1 : Gr (w1.heap.size + 3) (w1.heap.size + 1) W x1 := Gr.trans GR0.out st1.2.2.2.2
        have GR1S : (w1.heap.size + 3) ≤ (x1.setCell ⟨(w1.heap.size + 1), 0, none⟩ (.slice a1 (fl ++ pc).length cp1)).heap.size := Nat.le_trans hBW GR1.out.size
        have OW1 : Hid (Own (x1.setCell ⟨(w1.heap.size + 1), 0, none⟩ (.slice a1 (fl ++ pc).length cp1)) (w1.heap.size + 3) (.slice a1 (fl ++ pc).length cp1) (fl ++ pc)) := st1.2.2.1
        have BX1 : Hid (Blk (x1.setCell ⟨(w1.heap.size + 1), 0, none⟩ (.slice a1 (fl ++ pc).length cp1)) (w1.heap.size + 1) #[(.slice a1 (fl ++ pc).length cp1)] 33) := st1.2.1
        have m11 := st1.1.cell 0
        have m12 := st1.1.frozen 0
        have m13 := (GP1.blk bXH.out (by omega) (.inr (by decide))).cell 0
        simp only [List.getElem?_toArray, List.getElem?_cons_zero] at m11 m13
        obtain ⟨n1, hn1⟩ : ∃ n1, (fl ++ pc).length = n1 := ⟨_, rfl⟩
        have hnb1 : n1 ≤ 1000020000000 := by have := hplH.out; rw [← hn1]; simp; omega
        have HN1 : Hid ((fl ++ pc).length = n1) := hn1
        rw [hn1] at GR1 GR1S OW1 BX1 ⊢
        have ol1 : Hid ((x1.setCell ⟨(w1.heap.size + 1), 0, none⟩ (.slice a1 n1 cp1)).ownsRow (w1.heap.size + 3) 5 1 (.slice a1 n1 cp1) n1 ((fl ++ pc).map (Value.int .u8))) := by have := OW1.out; unfold Own at this; rw [HN1.out] at this; exact this
        clear st1 GP1 hn1
        gi_wp2_with (gi_at_builtin; refine in_append_string _ rfl (.tmp 37) (.const (.string ⟨#[13, 10]⟩)) 33 9 rfl (w1.heap.size + 3) 5 j0 Tryz.underlying33 Tryz.underlying9 hi hz0 hz1 hz2 _ n1 _ rfl ol1.out ⟨#[13, 10]⟩ rfl (by unfold maxLen; simp [ByteArray.size]; omega) (by simp [ByteArray.size]; omega) GR1S ?_)
        intro v2 x2 hown2 hgrow2
        have o2 : Own x2 (w1.heap.size + 3) v2 (fl ++ pc ++ [13, 10]) := own_of hown2 (by have := hplH.out; have h2 := HN1.out; simp at h2 ⊢; omega) (by simp [sc1310])
        have st2 := app_step BX1.out (by omega) GR1S OW1.out hgrow2 o2
        obtain ⟨a2, cp2, e2, _⟩ := own_row' o2
        clear hown2 hgrow2 o2
        subst e2
        have GR2 : Hid (Gr (w1.heap.size + 3) (w1.heap.size + 1) W (x2.setCell ⟨(w1.heap.size + 1), 0, none⟩ (.slice a2 (fl ++ pc ++ [13, 10]).length cp2))) := Gr.trans GR1.out st2.2.2.2.1
        have GP2 : Gr (w1.heap.size + 3) (w1.heap.size + 1) W x2 := Gr.trans GR1.out st2.2.2.2.2
        have GR2S : (w1.heap.size + 3) ≤ (x2.setCell ⟨(w1.heap.size + 1), 0, none⟩ (.slice a2 (fl ++ pc ++ [13, 10]).length cp2)).heap.size := Nat.le_trans hBW GR2.out.size
        have OW2 : Hid (Own (x2.setCell ⟨(w1.heap.size + 1), 0, none⟩ (.slice a2 (fl ++ pc ++ [13, 10]).length cp2)) (w1.heap.size + 3) (.slice a2 (fl ++ pc ++ [13, 10]).length cp2) (fl ++ pc ++ [13, 10])) := st2.2.2.1
        have BX2 : Hid (Blk (x2.setCell ⟨(w1.heap.size + 1), 0, none⟩ (.slice a2 (fl ++ pc ++ [13, 10]).length cp2)) (w1.heap.size + 1) #[(.slice a2 (fl ++ pc ++ [13, 10]).length cp2)] 33) := st2.2.1
        have m21 := st2.1.cell 0
        have m22 := st2.1.frozen 0
        have m23 := (GP2.blk bXH.out (by omega) (.inr (by decide))).cell 0
        simp only [List.getElem?_toArray, List.getElem?_cons_zero] at m21 m23
        obtain ⟨n2, hn2⟩ : ∃ n2, (fl ++ pc ++ [13, 10]).length = n2 := ⟨_, rfl⟩
        have hnb2 : n2 ≤ 1000020000000 := by have := hplH.out; rw [← hn2]; simp; omega
        have HN2 : Hid ((fl ++ pc ++ [13, 10]).length = n2) := hn2
        rw [hn2] at GR2 GR2S OW2 BX2 ⊢
        have ol2 : Hid ((x2.setCell ⟨(w1.heap.size + 1), 0, none⟩ (.slice a2 n2 cp2)).ownsRow (w1.heap.size + 3) 5 1 (.slice a2 n2 cp2) n2 ((fl ++ pc ++ [13, 10]).map (Value.int .u8))) := by have := OW2.out; unfold Own at this; rw [HN2.out] at this; exact this
        clear st2 GP2 hn2
        gi_wp2
        exact FIN.out _ _ BX2.out (by have := OW2.out; rw [HLINE.out, ← List.append_assoc]; exact this) GR2.out
  case done =>
    rintro D ys W hD hS ⟨⟨⟨v, jv, jo, _⟩, j2⟩, hB2⟩ hK
    obtain ⟨fl, hfl⟩ : ∃ fl, flatZ zs (linesZ 0 zs) = fl := ⟨_, rfl⟩
    have hfb : fl.length ≤ 1000010000000 := by
      have h1 := flatZ_len zs ys
      have h2 := linesZ_len zs.length 0 zs (Nat.le_refl _)
      have h4 : ys.length = (linesZ 0 zs).length := by rw [← hS]; simp
      rw [hS, hfl] at h1
      have h3 : ys.length * (len + 3) ≤ 1000000 * 1000003 := Nat.mul_le_mul (by omega) (by omega)
      omega
    rw [hS, hfl] at jo
    have HFR : Hid (frameZ zs = fl ++ [46] ++ [13, 10]) := by unfold Hid frameZ; rw [hfl, List.append_assoc]; rfl
    have hBW : (w1.heap.size + 3) ≤ W.heap.size := j2.lt
    have OW0 : Hid (Own W (w1.heap.size + 3) v fl) := jo
    have BX0 : Hid (Blk W (w1.heap.size + 1) #[v] 33) := jv
    have GR0 : Hid (Gr (w1.heap.size + 3) (w1.heap.size + 1) W W) := Gr.refl _ _ _
    have HB2 : Hid (Below w.heap.size w W) := hB2
    have HK : Hid (W.heap[D]? = some (.deferred (some []))) := hK
    have d0 := Blk.cell (cs := #[v]) jv 0
    have f0 := Blk.frozen (cs := #[v]) jv 0
    simp only [List.getElem?_toArray, List.getElem?_cons_zero] at d0
    clear jv jo hB2 j2 hfl hK hr hm hS
    gi_wp2_with (gi_at_builtin; refine wpListIn_append_own _ rfl (.tmp 39) (.tmp 40) 33 rfl (w1.heap.size + 3) 5 j0 (.int .u8 0) 1 1 Tryz.underlying33 hi hz0 hz1 hz2 rfl (by decide) _ fl.length _ rfl (own_keep OW0.out (keep W _)) ⟨W.heap.size, 0, none⟩ 1 1 [.int .u8 46] rfl rfl (cells_new W _ 5) (ints_one [46]) (by unfold maxLen; omega) (by omega) (by simp; omega) ?_)
    intro v1 x1 hown1 hgrow1 _
    have o1 : Own x1 (w1.heap.size + 3) v1 (fl ++ [46]) := own_of hown1 (by simp) (by simp)
    have st1 := app_step (BX0.out.alloc (.cells #[.int .u8 46] 5)) (by omega) (by simp; omega) (own_keep OW0.out (keep W (.cells #[.int .u8 46] 5))) hgrow1 o1
    obtain ⟨a1, cp1, e1, _⟩ := own_row' o1
    clear hown1 hgrow1 o1
    subst e1
    have GR1 : Hid (Gr (w1.heap.size + 3) (w1.heap.size + 1) W (x1.setCell ⟨(w1.heap.size + 1), 0, none⟩ (.slice a1 (fl ++ [46]).length cp1))) := Gr.trans (GR0.out.alloc (.cells #[.int .u8 46] 5)) st1.2.2.2.1
    have GP1 : Gr (w1.heap.size + 3) (w1.heap.size + 1) W x1 := Gr.trans (GR0.out.alloc (.cells #[.int .u8 46] 5)) st1.2.2.2.2
    have GR1S : (w1.heap.size + 3) ≤ (x1.setCell ⟨(w1.heap.size + 1), 0, none⟩ (.slice a1 (fl ++ [46]).length cp1)).heap.size := Nat.le_trans hBW GR1.out.size
    have OW1 : Hid (Own (x1.setCell ⟨(w1.heap.size + 1), 0, none⟩ (.slice a1 (fl ++ [46]).length cp1)) (w1.heap.size + 3) (.slice a1 (fl ++ [46]).length cp1) (fl ++ [46])) := st1.2.2.1
    have BX1 : Hid (Blk (x1.setCell ⟨(w1.heap.size + 1), 0, none⟩ (.slice a1 (fl ++ [46]).length cp1)) (w1.heap.size + 1) #[(.slice a1 (fl ++ [46]).length cp1)] 33) := st1.2.1
    have m11 := st1.1.cell 0
    have m12 := st1.1.frozen 0
    simp only [List.getElem?_toArray, List.getElem?_cons_zero] at m11
    obtain ⟨n1, hn1⟩ : ∃ n1, (fl ++ [46]).length = n1 := ⟨_, rfl⟩
    have hnb1 : n1 ≤ 1000020000000 := by rw [← hn1]; simp; omega
    have HN1 : Hid ((fl ++ [46]).length = n1) := hn1
    rw [hn1] at GR1 GR1S OW1 BX1 ⊢
    have ol1 : Hid ((x1.setCell ⟨(w1.heap.size + 1), 0, none⟩ (.slice a1 n1 cp1)).ownsRow (w1.heap.size + 3) 5 1 (.slice a1 n1 cp1) n1 ((fl ++ [46]).map (Value.int .u8))) := by have := OW1.out; unfold Own at this; rw [HN1.out] at this; exact this
    clear st1 GP1 hn1
    gi_wp2_with (gi_at_builtin; refine in_append_string _ rfl (.tmp 42) (.const (.string ⟨#[13, 10]⟩)) 33 9 rfl (w1.heap.size + 3) 5 j0 Tryz.underlying33 Tryz.underlying9 hi hz0 hz1 hz2 _ n1 _ rfl ol1.out ⟨#[13, 10]⟩ rfl (by unfold maxLen; simp [ByteArray.size]; omega) (by simp [ByteArray.size]; omega) GR1S ?_)
    intro v2 x2 hown2 hgrow2
    have o2 : Own x2 (w1.heap.size + 3) v2 (fl ++ [46] ++ [13, 10]) := own_of hown2 (by have h2 := HN1.out; simp at h2 ⊢; omega) (by simp [sc1310])
    have st2 := app_step BX1.out (by omega) GR1S OW1.out hgrow2 o2
    have GP2 : Hid (Gr (w1.heap.size + 3) (w1.heap.size + 1) W x2) := GR1.out.trans st2.2.2.2.2
    have O2 : Hid (Own x2 (w1.heap.size + 3) v2 (fl ++ [46] ++ [13, 10])) := o2
    clear hown2 hgrow2 o2 st2
    gi_wp2
    have hK2 : x2.heap[D]? = some (.deferred (some [])) := GP2.out.same D _ (by omega) HK.out (.inr (by intro cs fr e; cases e))
    refine ⟨by simp, .inl ⟨_, _, rfl, run_takeDeferred hK2, ?_⟩⟩
    refine ⟨.tuple #[v2, .int .i64 0], by simp [results, Tryz.results23, go_sem], v2, rfl, ?_, ?_⟩
    · rw [HFR.out]
      exact ownsRow_putObj (own_base (by omega) O2.out) _ hK2 rfl
    · exact (HB2.out.trans (GP2.out.below (by omega) (by omega) HB2.out.size)).trans (belowK_b (w := w) (Nat.le_refl _) _ D _ _ (by omega) hK2 rfl rfl)
  case stop =>
    rintro D c pre W _ _ h _
    exact h.elim
end Go.Proofs.YtbckbonffajmeaaGreatDoor.Dt
namespace Go.Proofs.YtbckbonffajmeaaGreatDoor.Dt
open Go.RowKit
set_option linter.unusedVariables false

def noB (l : List Int) : Prop := ∀ c ∈ l, c ≠ 13 ∧ c ≠ 10
theorem bareAt_none : ∀ (l : List Int) (k : Nat), bareAt k l = -1 → noB l
  | [], _, _ => by intro c hc; simp at hc
  | c :: l, k, h => by
    unfold bareAt at h
    by_cases q : c = 13 ∨ c = 10
    · rw [if_pos q] at h; omega
    · rw [if_neg q] at h
      have ih := bareAt_none l (k + 1) h
      intro d hd
      rcases List.mem_cons.1 hd with rfl | hd
      · exact ⟨fun e => q (.inl e), fun e => q (.inr e)⟩
      · exact ih d hd
theorem pairI_line : ∀ (l r : List Int), noB l → pairI (l ++ 13 :: 10 :: r) = l.length
  | [], r, _ => by simp [pairI]
  | c :: l, r, h => by
    have ih := pairI_line l r (fun d hd => h d (by simp [hd]))
    have hc := h c (by simp)
    rw [List.cons_append]
    unfold pairI
    rw [if_neg (fun q => hc.1 q.1), ih, if_neg (by omega)]
    simp
theorem linesZ_line (p : Nat) (l r : List Int) (h : noB l) : linesZ p (l ++ 13 :: 10 :: r) = (p, l.length, true) :: linesZ (p + l.length + 2) r := by
  have hp := pairI_line l r h
  rw [linesZ_pair p _ (by omega), hp]
  simp only [Int.toNat_natCast]
  congr 2
  rw [List.drop_append]
  simp
theorem pairI_split : ∀ (l : List Int) (i : Nat), pairI l = i → l = l.take i ++ 13 :: 10 :: l.drop (i + 2)
  | [], i, h => by simp [pairI] at h
  | c :: l, i, h => by
    unfold pairI at h
    by_cases q : c = 13 ∧ l.head? = some 10
    · rw [if_pos q] at h
      obtain rfl : i = 0 := by omega
      obtain ⟨rfl, q2⟩ := q
      cases l with
      | nil => simp at q2
      | cons d l => simp at q2; subst q2; rfl
    · rw [if_neg q] at h
      have hg := pairI_ge l
      by_cases q2 : pairI l = -1
      · rw [if_pos q2] at h; omega
      · rw [if_neg q2] at h
        obtain ⟨j, rfl⟩ : ∃ j, i = j + 1 := ⟨i - 1, by omega⟩
        have ih := pairI_split l j (by omega)
        simp only [List.take_succ_cons, List.cons_append]
        rw [show j + 1 + 2 = (j + 2) + 1 from by omega, List.drop_succ_cons, ← ih]

/-- A text is its lines, each with its pair. -/
theorem text_flat : ∀ (m : Nat) (l pre : List Int), l.length ≤ m → (∀ x ∈ linesZ pre.length l, x.2.2 = true) → (linesZ pre.length l).flatMap (fun x => pieceZ (pre ++ l) x ++ [13, 10]) = l
  | 0, l, pre, h, _ => by
    obtain rfl : l = [] := List.eq_nil_of_length_eq_zero (by omega)
    simp [linesZ_nil]
  | m + 1, l, pre, h, he => by
    by_cases hl : l = []
    · subst hl; simp [linesZ_nil]
    · by_cases hi : 0 ≤ pairI l
      · have hroom := pairI_room l hi
        obtain ⟨i, hii⟩ : ∃ i : Nat, pairI l = i := ⟨(pairI l).toNat, by omega⟩
        have hsp := pairI_split l i hii
        have hlz := linesZ_pair pre.length l hi
        rw [hii] at hlz hroom
        simp only [Int.toNat_natCast] at hlz
        have hlen : (pre ++ (l.take i ++ [13, 10])).length = pre.length + i + 2 := by simp; omega
        rw [hlz] at he
        have ih := text_flat m (l.drop (i + 2)) (pre ++ (l.take i ++ [13, 10])) (by simp; omega) (by rw [hlen]; intro x hx; exact he x (by simp [hx]))
        rw [hlen] at ih
        have hall : pre ++ (l.take i ++ [13, 10]) ++ l.drop (i + 2) = pre ++ l := by
          conv => rhs; rw [hsp]
          simp
        rw [hall] at ih
        rw [hlz, List.flatMap_cons, ih]
        have hpc : pieceZ (pre ++ l) (pre.length, i, true) = l.take i := by simp [pieceZ]
        rw [hpc]
        conv => rhs; rw [hsp]
        simp
      · rw [linesZ_last _ l hl hi] at he
        have := he _ (List.mem_singleton.2 rfl)
        simp at this

theorem fault_codes {zs : List Int} {x : Nat × Nat × Bool} {r : Int × Int} (h : faultL zs x = some r) : r.2 ≠ 0 := by
  unfold faultL at h
  split at h
  · cases h; simp
  · split at h
    · cases h; simp
    · split at h
      · cases h; simp
      · cases h
theorem right_zero {zs : List Int} (h : (rightZ zs).2 = 0) : ∀ x ∈ linesZ 0 zs, faultL zs x = none := by
  unfold rightZ at h
  cases hq : (linesZ 0 zs).findSome? (faultL zs) with
  | none => rw [List.findSome?_eq_none_iff] at hq; exact hq
  | some r =>
    rw [hq] at h
    obtain ⟨x, _, hx⟩ := List.exists_of_findSome?_eq_some hq
    exact absurd h (fault_codes hx)
theorem fault_none {zs : List Int} {x : Nat × Nat × Bool} (h : faultL zs x = none) : noB (pieceZ zs x) ∧ x.2.1 ≤ 998 ∧ x.2.2 = true := by
  unfold faultL at h
  split at h
  · cases h
  · rename_i h1
    split at h
    · cases h
    · rename_i h2
      split at h
      · cases h
      · rename_i h3
        refine ⟨bareAt_none _ 0 ?_, by omega, by simpa using h3⟩
        rcases bareAt_range ((zs.drop x.1).take x.2.1) 0 with h | h
        · exact h
        · omega

/-- A line of a frame, without its pair. -/
def px (l : List Int) : List Int := (if l.head? = some 46 then [46] else []) ++ l
theorem lineF_px (l : List Int) : lineF l = px l ++ [13, 10] := by unfold lineF px; simp
theorem px_noB {l : List Int} (h : noB l) : noB (px l) := by
  unfold px
  split
  · intro c hc
    rcases List.mem_append.1 hc with q | q
    · obtain rfl : c = 46 := by simpa using q
      decide
    · exact h c q
  · simpa using h
/-- The lines of a frame. -/
theorem lines_flat (zs : List Int) : ∀ (ls : List (Nat × Nat × Bool)) (pre : List Int), (∀ x ∈ ls, noB (pieceZ zs x)) →
    (linesZ pre.length (flatZ zs ls ++ [46, 13, 10])).map (pieceZ (pre ++ (flatZ zs ls ++ [46, 13, 10]))) = ls.map (fun x => px (pieceZ zs x)) ++ [[46]]
  | [], pre, _ => by
    have h := linesZ_line pre.length [46] [] (by intro c hc; obtain rfl : c = 46 := by simpa using hc
                                                 decide)
    simp only [flatZ, List.flatMap_nil, List.nil_append, List.map_nil]
    rw [show ([46, 13, 10] : List Int) = [46] ++ 13 :: 10 :: [] from rfl, h]
    simp [linesZ_nil, pieceZ]
  | x :: ls, pre, hx => by
    have hb := px_noB (hx x (by simp))
    have hf : flatZ zs (x :: ls) ++ [46, 13, 10] = px (pieceZ zs x) ++ 13 :: 10 :: (flatZ zs ls ++ [46, 13, 10]) := by
      simp [flatZ, lineF_px]
    have hlen : (pre ++ (px (pieceZ zs x) ++ [13, 10])).length = pre.length + (px (pieceZ zs x)).length + 2 := by simp; omega
    have ih := lines_flat zs ls (pre ++ (px (pieceZ zs x) ++ [13, 10])) (fun y hy => hx y (by simp [hy]))
    rw [hlen] at ih
    rw [hf, linesZ_line _ _ _ hb, List.map_cons, List.map_cons, List.cons_append]
    congr 1
    · simp [pieceZ]
    · rw [← ih]
      congr 2
      simp
theorem flat_short (zs : List Int) : ∀ ls : List (Nat × Nat × Bool), (flatZ zs ls).length ≤ (ls.flatMap (fun x => pieceZ zs x ++ [13, 10])).length + ls.length
  | [] => by simp [flatZ]
  | x :: ls => by
    have ih := flat_short zs ls
    have h : (lineF (pieceZ zs x)).length ≤ (pieceZ zs x).length + 3 := by unfold lineF; split <;> simp
    have h3 : flatZ zs (x :: ls) = lineF (pieceZ zs x) ++ flatZ zs ls := by simp [flatZ]
    rw [h3, List.flatMap_cons, List.length_append, List.length_append, List.length_append, List.length_cons]
    simp only [List.length_cons, List.length_nil]
    omega
theorem frame_len {zs : List Int} (h : (rightZ zs).2 = 0) : (frameZ zs).length ≤ 2 * zs.length + 3 := by
  have h1 := flat_short zs (linesZ 0 zs)
  have h2 := text_flat zs.length zs [] (Nat.le_refl _) (fun x hx => (fault_none (right_zero h x hx)).2.2)
  have h3 := linesZ_len zs.length 0 zs (Nat.le_refl _)
  simp only [List.length_nil, List.nil_append] at h2
  rw [h2] at h1
  unfold frameZ
  simp only [List.length_append, List.length_cons, List.length_nil]
  omega
theorem frame_byt {zs : List Int} (h : Byt zs) : Byt (frameZ zs) := by
  have hp : ∀ x, Byt (pieceZ zs x) := fun x => (h.drop x.1).take x.2.1
  have hl : ∀ ls : List (Nat × Nat × Bool), Byt (flatZ zs ls) := by
    intro ls c hc
    simp only [flatZ, List.mem_flatMap] at hc
    obtain ⟨x, _, hc⟩ := hc
    unfold lineF at hc
    rcases List.mem_append.1 hc with q | q
    · split at q
      · obtain rfl : c = 46 := by simpa using q
        decide
      · simp at q
    · rcases List.mem_append.1 q with q | q
      · exact hp x c q
      · simp at q; omega
  exact (hl _).append (by intro c hc; simp at hc; omega)
end Go.Proofs.YtbckbonffajmeaaGreatDoor.Dt
namespace Go.Proofs.YtbckbonffajmeaaGreatDoor.Dt
open Go.RowKit
set_option linter.unusedVariables false

theorem run_app : ∀ (l : List Int) (s : RS) (m : List Int), (runZ s l).1.over = false → runZ s (l ++ m) = ((runZ (runZ s l).1 m).1, (runZ s l).2 + (runZ (runZ s l).1 m).2)
  | [], s, m, _ => by simp [runZ]
  | c :: l, s, m, h => by
    unfold runZ at h
    have ht : ¬ (takeZ s c).over = true := by
      intro q; rw [if_pos q] at h; simp only at h; rw [q] at h; cases h
    rw [if_neg ht] at h
    have ih := run_app l (takeZ s c) m h
    simp only [List.cons_append, runZ, if_neg ht]
    rw [ih]
    simp only [Prod.mk.injEq, true_and]
    omega
theorem run_over : ∀ (l : List Int) (s : RS) (m : List Int), (runZ s l).1.over = true → s.over = false → runZ s (l ++ m) = runZ s l
  | [], s, m, h, h0 => by simp [runZ] at h; rw [h0] at h; cases h
  | c :: l, s, m, h, h0 => by
    unfold runZ at h
    by_cases ht : (takeZ s c).over = true
    · simp only [List.cons_append, runZ, if_pos ht]
    · rw [if_neg ht] at h
      simp only [List.cons_append, runZ, if_neg ht]
      rw [run_over l (takeZ s c) m h (by simpa using ht)]

/-- A reader within a line. -/
def ad (m : Int) (z : Int) (K : List Int) (c : Int) (p : Bool) : RS := { most := m, kept := K, size := z, came := c, pointed := p, half := false, bare := false, wide := false, over := false }
theorem fault_ad {m z : Int} {K : List Int} {c : Int} {p : Bool} (h : z ≤ m) : faultZ (ad m z K c p) = 0 := by
  rw [fault_or]; exact ⟨rfl, rfl, by show ¬ m < z; omega⟩
theorem take_ad {m z : Int} {K : List Int} {c : Int} {p : Bool} {x : Int} (hx : x ≠ 13) (hy : x ≠ 10) (h : ¬ (c = 0 ∧ x = 46)) (hc : c + 1 ≤ 999) (hz : z ≤ m) : takeZ (ad m z K c p) x = ad m z (K ++ [x]) (c + 1) p := by
  have h1 : takeZ (ad m z K c p) x = addZ (ad m z K c p) x := by simp [takeZ, ad, hx, hy]
  rw [h1]
  have hf := fault_ad (K := K) (c := c) (p := p) hz
  unfold addZ
  rw [if_neg (show ¬ ((ad m z K c p).came = 0 ∧ x = 46) from h)]
  have hk : keepZ (ad m z K c p) [x] = ad m z (K ++ [x]) c p := by unfold keepZ; rw [if_pos hf]; rfl
  rw [hk, if_neg (show ¬ 999 < (ad m z (K ++ [x]) c p).came + 1 from by show ¬ 999 < c + 1; omega)]
  rfl
theorem take_dot {m z : Int} {K : List Int} : takeZ (ad m z K 0 false) 46 = ad m z K 1 true := by
  have h1 : takeZ (ad m z K 0 false) 46 = addZ (ad m z K 0 false) 46 := by simp [takeZ, ad]
  rw [h1]; simp [addZ, ad]
theorem run_plain {m z : Int} {p : Bool} (hz : z ≤ m) : ∀ (l K : List Int) (c : Int), noB l → 0 ≤ c → (c = 0 → l.head? ≠ some 46) → c + l.length ≤ 999 → (runZ (ad m z K c p) l).1 = ad m z (K ++ l) (c + l.length) p
  | [], K, c, _, _, _, _ => by simp [runZ]
  | x :: l, K, c, hb, h0, hh, hl => by
    have hx := hb x (by simp)
    simp only [List.length_cons] at hl
    have ht := take_ad (m := m) (z := z) (K := K) (c := c) (p := p) hx.1 hx.2 (by rintro ⟨e1, e2⟩; exact hh e1 (by simp [e2])) (by omega) hz
    have ih := run_plain (p := p) hz l (K ++ [x]) (c + 1) (fun y hy => hb y (by simp [hy])) (by omega) (by omega) (by omega)
    unfold runZ
    rw [ht, if_neg (by simp [ad])]
    simp only []
    rw [ih]
    simp only [List.append_assoc, List.singleton_append, List.length_cons]
    congr 1
    omega
theorem run_pair {m z : Int} {K : List Int} {c : Int} {p : Bool} (hn : ¬ (p = true ∧ c = 1)) (hw : c ≤ 998 + b2i p) (hz : z + (c - b2i p) + 2 ≤ m) :
    (runZ (ad m z K c p) [13, 10]).1 = ad m (z + (c - b2i p) + 2) (K ++ [13, 10]) 0 false := by
  have h1 : takeZ (ad m z K c p) 13 = { ad m z K c p with half := true } := by simp [takeZ, ad]
  have ho : ownZ (ad m z K c p) = c - b2i p := by unfold ownZ b2i; show (if p = true then c - 1 else c) = _; split <;> omega
  have h2 : takeZ { ad m z K c p with half := true } 10 = endZ (ad m z K c p) := by simp [takeZ, ad]
  have h3 : endZ (ad m z K c p) = ad m (z + (c - b2i p) + 2) (K ++ [13, 10]) 0 false := by
    unfold endZ
    rw [ho, if_neg (by rintro ⟨e1, e2⟩; have e1' : p = true := e1; subst e1'; simp [b2i] at e2; exact hn ⟨rfl, by omega⟩)]
    have hd : ((ad m z K c p).wide || decide (998 < c - b2i p)) = false := by
      show (false || decide (998 < c - b2i p)) = false
      simp; omega
    rw [hd]
    have hk : keepZ { ad m z K c p with wide := false, size := (ad m z K c p).size + (c - b2i p + 2) } [13, 10] = ad m (z + (c - b2i p) + 2) (K ++ [13, 10]) c p := by
      have e : ({ ad m z K c p with wide := false, size := (ad m z K c p).size + (c - b2i p + 2) } : RS) = ad m (z + (c - b2i p) + 2) K c p := by
        simp [ad]; omega
      rw [e]
      unfold keepZ
      rw [if_pos (fault_ad hz)]; rfl
    rw [hk]; rfl
  unfold runZ
  rw [h1, if_neg (by simp [ad])]
  simp only []
  unfold runZ
  rw [h2, h3, if_neg (by simp [ad])]
  simp [runZ]
theorem run_line {m z : Int} {K pc : List Int} (hb : noB pc) (hl : pc.length ≤ 998) (hz : z + pc.length + 2 ≤ m) (hz0 : 0 ≤ z) :
    (runZ (ad m z K 0 false) (px pc ++ [13, 10])).1 = ad m (z + pc.length + 2) (K ++ pc ++ [13, 10]) 0 false := by
  unfold px
  by_cases hd : pc.head? = some 46
  · rw [if_pos hd]
    have hne : 0 < pc.length := by cases pc with | nil => simp at hd | cons _ _ => simp
    have h1 := run_plain (m := m) (z := z) (p := true) (by omega) pc K 1 hb (by omega) (by omega) (by omega)
    have h2 : (runZ (ad m z K 0 false) ([46] ++ pc)).1 = ad m z (K ++ pc) (1 + pc.length) true := by
      rw [List.singleton_append]
      unfold runZ
      rw [take_dot, if_neg (by simp [ad])]
      exact h1
    rw [run_app ([46] ++ pc) _ [13, 10] (by rw [h2]; rfl), h2]
    simp only []
    rw [run_pair (by rintro ⟨_, e⟩; omega) (by simp [b2i]; omega) (by simp [b2i]; omega)]
    congr 1
    simp [b2i]; omega
  · rw [if_neg hd, List.nil_append]
    have h1 := run_plain (m := m) (z := z) (p := false) (by omega) pc K 0 hb (by omega) (fun _ => hd) (by omega)
    rw [run_app pc _ [13, 10] (by rw [h1]; rfl), h1]
    simp only []
    rw [run_pair (by simp) (by simp [b2i]; omega) (by simp [b2i]; omega)]
    congr 1
    simp [b2i]
theorem run_lines (zs : List Int) {m : Int} : ∀ (ls : List (Nat × Nat × Bool)) (K : List Int), (∀ x ∈ ls, noB (pieceZ zs x) ∧ (pieceZ zs x).length ≤ 998) → ((K ++ ls.flatMap (fun x => pieceZ zs x ++ [13, 10])).length : Int) ≤ m →
    (runZ (ad m K.length K 0 false) (flatZ zs ls)).1 = ad m (K ++ ls.flatMap (fun x => pieceZ zs x ++ [13, 10])).length (K ++ ls.flatMap (fun x => pieceZ zs x ++ [13, 10])) 0 false
  | [], K, _, _ => by simp [flatZ, runZ]
  | x :: ls, K, hx, hm => by
    have h0 := hx x (by simp)
    rw [List.flatMap_cons] at hm
    simp only [List.length_append, List.length_cons, List.length_nil] at hm
    have h1 := run_line (m := m) (z := K.length) (K := K) h0.1 h0.2 (by omega) (by omega)
    have h3 : flatZ zs (x :: ls) = (px (pieceZ zs x) ++ [13, 10]) ++ flatZ zs ls := by simp [flatZ, lineF_px]
    have ih := run_lines zs (m := m) ls (K ++ pieceZ zs x ++ [13, 10]) (fun y hy => hx y (by simp [hy])) (by simp only [List.length_append, List.length_cons, List.length_nil]; omega)
    rw [h3, run_app _ _ _ (by rw [h1]; rfl), h1]
    simp only []
    have e : (K.length : Int) + (pieceZ zs x).length + 2 = ((K ++ pieceZ zs x ++ [13, 10]).length : Int) := by simp; omega
    rw [e, ih]
    simp [List.flatMap_cons]
/-- A text's frame is read as it was. -/
theorem frame_run {zs : List Int} {m : Int} (h : (rightZ zs).2 = 0) (hm : (zs.length : Int) ≤ m) :
    runZ (ad m 0 [] 0 false) (frameZ zs) = ({ ad m zs.length zs 1 true with over := true }, (frameZ zs).length) := by
  have hf := fun x hx => fault_none (right_zero h x hx)
  have htx := text_flat zs.length zs [] (Nat.le_refl _) (fun x hx => (hf x hx).2.2)
  simp only [List.length_nil, List.nil_append] at htx
  have h1 := run_lines zs (m := m) (linesZ 0 zs) [] (fun x hx => ⟨(hf x hx).1, by
    have := (hf x hx).2.1
    simp only [pieceZ, List.length_take]; omega⟩) (by rw [List.nil_append, htx]; exact hm)
  rw [List.nil_append, htx] at h1
  have h2 : runZ (ad m zs.length zs 0 false) [46, 13, 10] = ({ ad m zs.length zs 1 true with over := true }, 3) := by
    have t1 := take_dot (m := m) (z := zs.length) (K := zs)
    have t2 : takeZ (ad m zs.length zs 1 true) 13 = { ad m zs.length zs 1 true with half := true } := by simp [takeZ, ad]
    have t3 : takeZ { ad m zs.length zs 1 true with half := true } 10 = { ad m zs.length zs 1 true with over := true } := by simp [takeZ, ad, endZ, ownZ]
    unfold runZ
    rw [t1, if_neg (by simp [ad])]
    unfold runZ
    rw [t2, if_neg (by simp [ad])]
    unfold runZ
    rw [t3, if_pos rfl]
  have h3 : (runZ (ad m 0 [] 0 false) (flatZ zs (linesZ 0 zs))).1.over = false := by
    have e : ad m 0 [] 0 false = ad m (([] : List Int).length : Nat) [] 0 false := rfl
    rw [e, h1]; rfl
  have h4 := run_all _ _ h3
  unfold frameZ
  rw [run_app _ _ _ h3, h4]
  have e : ad m 0 [] 0 false = ad m (([] : List Int).length : Nat) [] 0 false := rfl
  rw [e, h1, h2]
  simp
end Go.Proofs.YtbckbonffajmeaaGreatDoor.Dt
namespace Go.Proofs.YtbckbonffajmeaaGreatDoor.Dt
open Go.RowKit
set_option linter.unusedVariables false

def bodyL (u : List Int) : List Int := if u.getLast? = some 13 then u.dropLast else u
def hasB (l : List Int) : Bool := l.any (fun c => c == 13 || c == 10)
/-- A reader within a line of which u came. -/
structure Mid (c l : Bool) (z m : Int) (s : RS) (u : List Int) : Prop where
  came : s.came = (bodyL u).length
  half : s.half = decide (u.getLast? = some 13)
  pt : s.pointed = decide ((bodyL u).head? = some 46)
  bare : s.bare = (c || hasB (bodyL u))
  wide : s.wide = (l || decide (999 < (bodyL u).length))
  size : s.size = z
  most : s.most = m
  over : s.over = false

theorem addZ_bare (s : RS) (c : Int) : (addZ s c).bare = s.bare := by
  unfold addZ; by_cases h : s.came = 0 ∧ c = 46
  · rw [if_pos h]; simp only []; split <;> rfl
  · rw [if_neg h]; simp only []; split <;> simp [keepZ_bare]
theorem addZ_size (s : RS) (c : Int) : (addZ s c).size = s.size := by
  unfold addZ; by_cases h : s.came = 0 ∧ c = 46
  · rw [if_pos h]; simp only []; split <;> rfl
  · rw [if_neg h]; simp only []; split <;> simp [keepZ_size]
theorem addZ_most (s : RS) (c : Int) : (addZ s c).most = s.most := by
  unfold addZ; by_cases h : s.came = 0 ∧ c = 46
  · rw [if_pos h]; simp only []; split <;> rfl
  · rw [if_neg h]; simp only []; split <;> simp [keepZ_most]
theorem addZ_pt (s : RS) (c : Int) : (addZ s c).pointed = (s.pointed || decide (s.came = 0 ∧ c = 46)) := by
  unfold addZ; by_cases h : s.came = 0 ∧ c = 46
  · rw [if_pos h]; simp only []; split <;> simp [h]
  · rw [if_neg h]; simp only []; split <;> simp [keepZ_pointed, h]
theorem addZ_wide (s : RS) (c : Int) : (addZ s c).wide = (s.wide || decide (999 < s.came + 1)) := by
  unfold addZ; by_cases h : s.came = 0 ∧ c = 46
  · rw [if_pos h]; simp only []; split
    · rename_i q; simp [q]
    · rename_i q; simp [show ¬ 999 < s.came + 1 from q]
  · rw [if_neg h]; simp only [keepZ_came]; split
    · rename_i q; simp [q]
    · rename_i q; simp [keepZ_wide, show ¬ 999 < s.came + 1 from q]

/-- A byte more, of no pair. -/
theorem mid_add {c l : Bool} {s : RS} {b : List Int} {x : Int} (h1 : s.came = b.length) (h2 : s.pointed = decide (b.head? = some 46)) (h3 : s.bare = (c || hasB (b ++ [x]))) (h4 : s.wide = (l || decide (999 < b.length))) :
    (addZ s x).came = (b ++ [x]).length ∧ (addZ s x).pointed = decide ((b ++ [x]).head? = some 46) ∧ (addZ s x).bare = (c || hasB (b ++ [x])) ∧ (addZ s x).wide = (l || decide (999 < (b ++ [x]).length)) := by
  refine ⟨by rw [addZ_came, h1]; simp, ?_, by rw [addZ_bare, h3], ?_⟩
  · rw [addZ_pt, h2, h1]
    cases b with
    | nil => simp
    | cons y b =>
      simp
      intro hh; omega
  · rw [addZ_wide, h4, h1]
    simp only [List.length_append, List.length_cons, List.length_nil]
    cases l
    · simp only [Bool.false_or]
      rw [Bool.eq_iff_iff]
      simp only [Bool.or_eq_true, decide_eq_true_eq]
      omega
    · simp
theorem hasB_snoc (b : List Int) (x : Int) : hasB (b ++ [x]) = (hasB b || (x == 13 || x == 10)) := by simp [hasB]
theorem bodyL_snoc (u : List Int) (x : Int) : bodyL (u ++ [x]) = if x = 13 then u else u ++ [x] := by
  unfold bodyL; simp

theorem mid_step {c l : Bool} {z m : Int} {s : RS} {u : List Int} (h : Mid c l z m s u) (x : Int) (hx : ¬ (u.getLast? = some 13 ∧ x = 10)) : Mid c l z m (takeZ s x) (u ++ [x]) := by
  by_cases hh : u.getLast? = some 13
  · have hs : s.half = true := by rw [h.half]; simpa using hh
    have hx10 : x ≠ 10 := fun e => hx ⟨hh, e⟩
    obtain ⟨b, rfl⟩ : ∃ b, u = b ++ [13] := List.getLast?_eq_some_iff.1 hh
    have hb : bodyL (b ++ [13]) = b := by rw [bodyL_snoc]; simp
    have e1 := h.came; have e2 := h.pt; have e3 := h.bare; have e4 := h.wide
    rw [hb] at e1 e2 e3 e4
    have htk : takeZ s x = if x = 13 then addZ { s with half := decide (x = 13), bare := true } 13 else addZ (addZ { s with half := decide (x = 13), bare := true } 13) x := by
      unfold takeZ
      rw [if_neg (fun q => hx10 q.2), if_pos hs]
      simp only []
      split
      · rfl
      · have : (addZ { s with half := decide (x = 13), bare := true } 13).bare = true := by rw [addZ_bare]
        have e : ({ addZ { s with half := decide (x = 13), bare := true } 13 with bare := (addZ { s with half := decide (x = 13), bare := true } 13).bare || decide (x = 10) } : RS) = addZ { s with half := decide (x = 13), bare := true } 13 := by
          generalize addZ { s with half := decide (x = 13), bare := true } 13 = t at this ⊢
          cases t
          simp only at this
          simp [this]
        rw [e]
    have m1 := mid_add (c := c) (l := l) (s := { s with half := decide (x = 13), bare := true }) (b := b) (x := 13) e1 e2 (by simp [hasB_snoc]) e4
    rw [htk]
    by_cases hx13 : x = 13
    · rw [if_pos hx13]
      have hb' : bodyL (b ++ [13] ++ [x]) = b ++ [13] := by rw [bodyL_snoc, if_pos hx13]
      refine ⟨by rw [hb']; exact m1.1, by rw [addZ_half]; simp, by rw [hb']; exact m1.2.1, by rw [hb']; exact m1.2.2.1, by rw [hb']; exact m1.2.2.2, by rw [addZ_size]; exact h.size, by rw [addZ_most]; exact h.most, by rw [addZ_over]; exact h.over⟩
    · rw [if_neg hx13]
      have hb' : bodyL (b ++ [13] ++ [x]) = b ++ [13] ++ [x] := by rw [bodyL_snoc, if_neg hx13]
      have m2 := mid_add (c := c) (l := l) (s := addZ { s with half := decide (x = 13), bare := true } 13) (b := b ++ [13]) (x := x) m1.1 m1.2.1 (by rw [m1.2.2.1, hasB_snoc (b ++ [13]) x, hasB_snoc]; simp) m1.2.2.2
      refine ⟨by rw [hb']; exact m2.1, by rw [addZ_half, addZ_half]; simp, by rw [hb']; exact m2.2.1, by rw [hb']; exact m2.2.2.1, by rw [hb']; exact m2.2.2.2, by rw [addZ_size, addZ_size]; exact h.size, by rw [addZ_most, addZ_most]; exact h.most, by rw [addZ_over, addZ_over]; exact h.over⟩
  · have hs : ¬ s.half = true := by rw [h.half]; simpa using hh
    have hb : bodyL u = u := by unfold bodyL; rw [if_neg hh]
    have e1 := h.came; have e2 := h.pt; have e3 := h.bare; have e4 := h.wide
    rw [hb] at e1 e2 e3 e4
    have htk : takeZ s x = if x = 13 then { s with half := true } else addZ { s with half := false, bare := s.bare || decide (x = 10) } x := by
      unfold takeZ
      rw [if_neg (fun q => hs q.1), if_neg hs]
      by_cases q : x = 13 <;> simp [q]
    rw [htk]
    by_cases hx13 : x = 13
    · rw [if_pos hx13]
      have hb' : bodyL (u ++ [x]) = u := by rw [bodyL_snoc, if_pos hx13]
      exact ⟨by rw [hb']; exact e1, by simp [hx13], by rw [hb']; exact e2, by rw [hb']; exact e3, by rw [hb']; exact e4, h.size, h.most, h.over⟩
    · rw [if_neg hx13]
      have hb' : bodyL (u ++ [x]) = u ++ [x] := by rw [bodyL_snoc, if_neg hx13]
      have m1 := mid_add (c := c) (l := l) (s := { s with half := false, bare := s.bare || decide (x = 10) }) (b := u) (x := x) e1 e2 (by simp only []; rw [e3, hasB_snoc, Bool.or_assoc]; congr 2; by_cases q : x = 10 <;> simp [q, hx13]) e4
      refine ⟨by rw [hb']; exact m1.1, by rw [addZ_half]; simp [hx13], by rw [hb']; exact m1.2.1, by rw [hb']; exact m1.2.2.1, by rw [hb']; exact m1.2.2.2, by rw [addZ_size]; exact h.size, by rw [addZ_most]; exact h.most, by rw [addZ_over]; exact h.over⟩

def noPair (w : List Int) : Prop := ∀ a b, w ≠ a ++ 13 :: 10 :: b
theorem run_mid {c l : Bool} {z m : Int} : ∀ (v u : List Int) (s : RS), Mid c l z m s u → noPair (u ++ v) → Mid c l z m (runZ s v).1 (u ++ v)
  | [], u, s, h, _ => by simpa [runZ] using h
  | x :: v, u, s, h, hn => by
    have hx : ¬ (u.getLast? = some 13 ∧ x = 10) := by
      rintro ⟨q1, q2⟩
      obtain ⟨b, rfl⟩ := List.getLast?_eq_some_iff.1 q1
      refine hn b v ?_
      rw [q2]
      simp
    have h1 := mid_step h x hx
    have ih := run_mid v (u ++ [x]) (takeZ s x) h1 (by simpa using hn)
    unfold runZ
    rw [if_neg (by rw [h1.over]; simp)]
    simpa using ih

theorem pairI_le : ∀ (u r : List Int), 0 ≤ pairI (u ++ 13 :: 10 :: r) ∧ pairI (u ++ 13 :: 10 :: r) ≤ u.length
  | [], r => by simp [pairI]
  | c :: u, r => by
    have ih := pairI_le u r
    rw [List.cons_append]
    unfold pairI
    split
    · simp; omega
    · rw [if_neg (by omega)]; simp; omega
theorem noPair_none {l : List Int} (h : ¬ 0 ≤ pairI l) : noPair l := by
  intro a b e
  rw [e] at h
  exact h (pairI_le a b).1
theorem noPair_some {l : List Int} {i : Nat} (h : pairI l = i) (hi : i + 2 ≤ l.length) : noPair (l.take i ++ [13]) := by
  intro a b e
  have hsp := pairI_split l i h
  have hlen := congrArg List.length e
  simp only [List.length_append, List.length_take, List.length_cons, List.length_nil] at hlen
  have h2 : l = a ++ 13 :: 10 :: (b ++ 10 :: l.drop (i + 2)) := by
    conv => lhs; rw [hsp]
    have : l.take i ++ 13 :: 10 :: l.drop (i + 2) = (l.take i ++ [13]) ++ 10 :: l.drop (i + 2) := by simp
    rw [this, e]; simp
  have := pairI_le a (b ++ 10 :: l.drop (i + 2))
  rw [← h2, h] at this
  omega

/-- The pair that ends a line. -/
theorem mid_end {c l : Bool} {z m : Int} {s : RS} {pc : List Int} (h : Mid c l z m s (pc ++ [13])) :
    (pc = [46] → (takeZ s 10).over = true ∧ faultZ (takeZ s 10) = (if (c || hasB pc) = true then 41 else if (l || decide (999 < pc.length)) = true then 40 else if m < z then 2 else 0)) ∧
    (pc ≠ [46] → Mid (c || hasB pc) (l || decide (999 < pc.length) || decide (998 < pc.length - (if pc.head? = some 46 then 1 else 0))) (z + (pc.length - (if pc.head? = some 46 then 1 else 0) : Nat) + 2) m (takeZ s 10) []) := by
  have hb : bodyL (pc ++ [13]) = pc := by rw [bodyL_snoc]; simp
  have e1 := h.came; have e2 := h.pt; have e3 := h.bare; have e4 := h.wide
  rw [hb] at e1 e2 e3 e4
  have hs : s.half = true := by rw [h.half]; simp
  have htk : takeZ s 10 = endZ { s with half := false } := by unfold takeZ; rw [if_pos ⟨hs, rfl⟩]
  have hown : ownZ { s with half := false } = (pc.length - (if pc.head? = some 46 then 1 else 0) : Nat) := by
    unfold ownZ
    simp only [e2, e1, decide_eq_true_eq]
    split
    · have : 0 < pc.length := by cases pc with | nil => simp at * | cons _ _ => simp
      omega
    · omega
  have hpo : (({ s with half := false } : RS).pointed = true ∧ ownZ { s with half := false } = 0) ↔ pc = [46] := by
    rw [hown]
    simp only [e2, decide_eq_true_eq]
    constructor
    · rintro ⟨q1, q2⟩
      rw [if_pos q1] at q2
      cases pc with
      | nil => simp at q1
      | cons x pc =>
        have q3 : (x :: pc).length - 1 = 0 := by omega
        simp at q1 q3
        rw [q1, q3]
    · rintro rfl; simp
  rw [htk]
  unfold endZ
  constructor
  · intro hp
    rw [if_pos (hpo.2 hp)]
    refine ⟨rfl, ?_⟩
    unfold faultZ
    simp only [e3, e4, h.size, h.most]
  · intro hp
    rw [if_neg (fun q => hp (hpo.1 q)), hown]
    have hk := fun (t : RS) => keepZ_bare t [13, 10]
    refine ⟨by simp [bodyL], by simp [keepZ_half], by simp [bodyL], ?_, ?_, ?_, ?_, ?_⟩
    · simp [keepZ_bare, bodyL, hasB, e3]
    · simp only [keepZ_wide, bodyL, e4]
      simp only [List.getLast?_nil, reduceCtorEq, if_false, List.length_nil, Nat.not_lt_zero, decide_false, Bool.or_false]
      congr 1
      exact decide_eq_decide.2 (by omega)
    · simp only [keepZ_size, h.size]; omega
    · simp only [keepZ_most, h.most]
    · simp only [keepZ_over, h.over]

def faultB (c l f : Bool) : Int := if c = true then 41 else if l = true then 40 else if f = true then 2 else 0
/-- What the document says of a frame of which no text is taken. -/
def frL (zs : List Int) : Bool → Bool → Bool → List (Nat × Nat × Bool) → Option (Nat × Int)
  | _, _, _, [] => none
  | c, l, f, x :: ls => if x.2.2 = false then none else if pieceZ zs x = [46] then some (x.1 + 3, faultB c l f) else
      frL zs (c || hasB (pieceZ zs x)) (l || decide (999 < (pieceZ zs x).length) || decide (998 < (pieceZ zs x).length - (if (pieceZ zs x).head? = some 46 then 1 else 0))) true ls

theorem frame_any : ∀ (k : Nat) (l pre : List Int) (s : RS) (c lg : Bool) (z : Int), l.length ≤ k → Mid c lg z 0 s [] → 0 ≤ z →
    (∀ kk e, frL (pre ++ l) c lg (decide (0 < z)) (linesZ pre.length l) = some (kk, e) → (runZ s l).1.over = true ∧ pre.length + (runZ s l).2 = kk ∧ faultZ (runZ s l).1 = e) ∧
    (frL (pre ++ l) c lg (decide (0 < z)) (linesZ pre.length l) = none → (runZ s l).1.over = false)
  | 0, l, pre, s, c, lg, z, hk, hs, hz => by
    obtain rfl : l = [] := List.eq_nil_of_length_eq_zero (by omega)
    rw [linesZ_nil]
    refine ⟨fun kk e h => by simp [frL] at h, fun _ => by simp [runZ, hs.over]⟩
  | k + 1, l, pre, s, c, lg, z, hk, hs, hz => by
    by_cases hl : l = []
    · subst hl
      rw [linesZ_nil]
      exact ⟨fun kk e h => by simp [frL] at h, fun _ => by simp [runZ, hs.over]⟩
    · by_cases hi : 0 ≤ pairI l
      · have hroom := pairI_room l hi
        obtain ⟨i, hii⟩ : ∃ i : Nat, pairI l = i := ⟨(pairI l).toNat, by omega⟩
        have hsp := pairI_split l i hii
        have hlz := linesZ_pair pre.length l hi
        rw [hii] at hlz hroom
        simp only [Int.toNat_natCast] at hlz
        rw [hlz]
        have hpc : pieceZ (pre ++ l) (pre.length, i, true) = l.take i := by simp [pieceZ]
        have hil : (l.take i).length = i := by simp; omega
        have hm := run_mid (c := c) (l := lg) (z := z) (m := 0) (l.take i ++ [13]) [] s hs (by simpa using noPair_some hii (by omega))
        rw [List.nil_append] at hm
        have hme := mid_end hm
        have hrun1 : runZ s (l.take i ++ [13] ++ [10]) = (takeZ (runZ s (l.take i ++ [13])).1 10, i + 2) := by
          rw [run_app _ _ _ hm.over]
          have h2 := run_all _ _ hm.over
          rw [h2]
          simp only [runZ, List.length_append, hil, List.length_cons, List.length_nil]
          split <;> simp
        have hl2 : l = (l.take i ++ [13] ++ [10]) ++ l.drop (i + 2) := by
          conv => lhs; rw [hsp]
          simp
        unfold frL
        simp only [hpc, Bool.true_eq_false, if_false]
        by_cases h46 : l.take i = [46]
        · rw [if_pos h46]
          have ho := hme.1 h46
          have hi1 : i = 1 := by rw [h46] at hil; simpa using hil.symm
          have hrl : runZ s l = (takeZ (runZ s (l.take i ++ [13])).1 10, i + 2) := by
            conv => lhs; rw [hl2]
            rw [run_over _ _ _ (by rw [hrun1]; exact ho.1) hs.over, hrun1]
          refine ⟨fun kk e h => ?_, fun h => by simp at h⟩
          simp only [Option.some.injEq, Prod.mk.injEq] at h
          rw [hrl]
          refine ⟨ho.1, by rw [← h.1, hi1], ?_⟩
          rw [ho.2, ← h.2, h46]
          unfold faultB
          simp [hasB]
        · rw [if_neg h46]
          have hn := hme.2 h46
          rw [hil] at hn ⊢
          have hrl : runZ s l = ((runZ (takeZ (runZ s (l.take i ++ [13])).1 10) (l.drop (i + 2))).1, i + 2 + (runZ (takeZ (runZ s (l.take i ++ [13])).1 10) (l.drop (i + 2))).2) := by
            conv => lhs; rw [hl2]
            rw [run_app _ _ _ (by rw [hrun1]; exact hn.over), hrun1]
          have hlen : (pre ++ (l.take i ++ [13, 10])).length = pre.length + i + 2 := by simp; omega
          have ih := frame_any k (l.drop (i + 2)) (pre ++ (l.take i ++ [13, 10])) _ _ _ _ (by simp; omega) hn (by omega)
          have hall : pre ++ (l.take i ++ [13, 10]) ++ l.drop (i + 2) = pre ++ l := by
            conv => rhs; rw [hsp]
            simp
          rw [hlen, hall] at ih
          rw [show decide (0 < z + ((i - if (l.take i).head? = some 46 then 1 else 0 : Nat) : Int) + 2) = true from by simp; omega] at ih
          rw [hrl]
          refine ⟨fun kk e h => ?_, fun h => ih.2 h⟩
          have := ih.1 kk e h
          exact ⟨this.1, by simp only; omega, this.2.2⟩
      · have hlz := linesZ_last pre.length l hl hi
        rw [hlz]
        have hm := run_mid (c := c) (l := lg) (z := z) (m := 0) l [] s hs (by simpa using noPair_none hi)
        unfold frL
        simp only [if_true]
        exact ⟨fun kk e h => by simp at h, fun _ => hm.over⟩
end Go.Proofs.YtbckbonffajmeaaGreatDoor.Dt
namespace Go.Proofs.YtbckbonffajmeaaGreatDoor.Dt
open Go.RowKit
set_option linter.unusedVariables false
set_option linter.unusedSimpArgs false

theorem noB_hasB {l : List Int} (h : noB l) : hasB l = false := by
  unfold hasB
  rw [List.any_eq_false]
  intro c hc
  have := h c hc
  simp [this.1, this.2]
theorem noB_pair {q : List Int} (h : noB q) : noPair (q ++ [13]) := by
  intro a b e
  have hlen := congrArg List.length e
  simp only [List.length_append, List.length_cons, List.length_nil] at hlen
  have h1 : (q ++ [13])[a.length]? = some 13 := by rw [e]; simp
  have h2 : a.length < q.length := by omega
  rw [List.getElem?_append_left h2] at h1
  exact (h 13 (List.mem_of_getElem? h1)).1 rfl
theorem px_46 {pc : List Int} : px pc ≠ [46] := by
  unfold px
  intro h
  split at h
  · rename_i q
    cases pc with
    | nil => simp at q
    | cons x r => simp at h
  · rename_i q
    rw [List.nil_append] at h
    rw [h] at q
    simp at q
theorem px_len {pc : List Int} (h : pc.length ≤ 998) : (px pc).length ≤ 999 ∧ (px pc).length - (if (px pc).head? = some 46 then 1 else 0) = pc.length := by
  unfold px
  by_cases q : pc.head? = some 46
  · rw [if_pos q]
    simp
    omega
  · rw [if_neg q]
    rw [List.nil_append, if_neg q]
    omega
theorem mid_line {z m : Int} {s : RS} {pc rest : List Int} (h : Mid false false z m s []) (hb : noB pc) (hl : pc.length ≤ 998) :
    ∃ s', Mid false false (z + pc.length + 2) m s' [] ∧ (runZ s (px pc ++ [13, 10] ++ rest)).1 = (runZ s' rest).1 := by
  have hq : noB (px pc) := px_noB hb
  have hm := run_mid (c := false) (l := false) (z := z) (m := m) (px pc ++ [13]) [] s h (by rw [List.nil_append]; exact noB_pair hq)
  rw [List.nil_append] at hm
  have hn := (mid_end hm).2 px_46
  obtain ⟨h1, h2⟩ := px_len hl
  rw [h2] at hn
  rw [noB_hasB hq] at hn
  have e1 : decide (999 < (px pc).length) = false := by simp; omega
  have e2 : decide (998 < pc.length) = false := by simp; omega
  rw [e1, e2] at hn
  refine ⟨_, hn, ?_⟩
  have e3 : px pc ++ [13, 10] ++ rest = (px pc ++ [13]) ++ ([10] ++ rest) := by simp
  rw [e3, run_app _ _ _ hm.over]
  show (runZ (runZ s (px pc ++ [13])).1 (10 :: rest)).1 = _
  rw [runZ, if_neg (by rw [hn.over]; simp)]
theorem mid_lines (zs : List Int) {m : Int} : ∀ (ls : List (Nat × Nat × Bool)) (s : RS) (z : Int), Mid false false z m s [] → (∀ x ∈ ls, noB (pieceZ zs x) ∧ (pieceZ zs x).length ≤ 998) →
    Mid false false (z + (ls.flatMap (fun x => pieceZ zs x ++ [13, 10])).length) m (runZ s (flatZ zs ls)).1 []
  | [], s, z, h, _ => by simpa [flatZ, runZ] using h
  | x :: ls, s, z, h, hx => by
    have h0 := hx x (by simp)
    obtain ⟨s', a1, a2⟩ := mid_line (rest := flatZ zs ls) h h0.1 h0.2
    have h3 : flatZ zs (x :: ls) = px (pieceZ zs x) ++ [13, 10] ++ flatZ zs ls := by simp [flatZ, lineF_px]
    rw [h3, a2]
    have ih := mid_lines zs ls s' _ a1 (fun y hy => hx y (by simp [hy]))
    have e : z + ((List.flatMap (fun x => pieceZ zs x ++ [13, 10]) (x :: ls)).length : Int) = z + (pieceZ zs x).length + 2 + (List.flatMap (fun x => pieceZ zs x ++ [13, 10]) ls).length := by
      rw [List.flatMap_cons]
      simp
      omega
    rw [e]
    exact ih
/-- A text's frame: it is over at its end, and too long if the text is. -/
theorem frame_long {zs : List Int} {m : Int} (h : (rightZ zs).2 = 0) (hm : 0 ≤ m) :
    (runZ (new0 m) (frameZ zs)).1.over = true ∧ (runZ (new0 m) (frameZ zs)).2 = (frameZ zs).length ∧ faultZ (runZ (new0 m) (frameZ zs)).1 = (if m < (zs.length : Int) then 2 else 0) ∧ ((zs.length : Int) ≤ m → textZ (runZ (new0 m) (frameZ zs)).1 = zs) := by
  have hn0 : new0 m = ad m 0 [] 0 false := by
    unfold new0 ad
    rw [if_neg (by omega)]
  have hf := fun x hx => fault_none (right_zero h x hx)
  have htx := text_flat zs.length zs [] (Nat.le_refl _) (fun x hx => (hf x hx).2.2)
  simp only [List.length_nil, List.nil_append] at htx
  have hM : Mid false false 0 m (new0 m) [] := by
    rw [hn0]
    exact ⟨by simp [ad, bodyL], by simp [ad], by simp [ad, bodyL], by simp [ad, bodyL, hasB], by simp [ad, bodyL], rfl, rfl, rfl⟩
  have h1 := mid_lines zs (m := m) (linesZ 0 zs) (new0 m) 0 hM (fun x hx => ⟨(hf x hx).1, by
    have := (hf x hx).2.1
    simp only [pieceZ, List.length_take]; omega⟩)
  rw [htx, Int.zero_add] at h1
  have h2 := run_mid (c := false) (l := false) (z := zs.length) (m := m) ([46] ++ [13]) [] _ h1 (by
    rw [List.nil_append]
    exact noB_pair (q := [46]) (by intro c hc; simp at hc; subst hc; decide))
  rw [List.nil_append] at h2
  obtain ⟨o1, o2⟩ := (mid_end (pc := [46]) h2).1 rfl
  have h2 : Mid false false (zs.length : Int) m (runZ (runZ (new0 m) (flatZ zs (linesZ 0 zs))).1 [46, 13]).1 [46, 13] := h2
  have o1 : (takeZ (runZ (runZ (new0 m) (flatZ zs (linesZ 0 zs))).1 [46, 13]).1 10).over = true := o1
  have h3 := run_all _ _ h1.over
  have e0 : runZ (new0 m) (frameZ zs) = (takeZ (runZ (runZ (new0 m) (flatZ zs (linesZ 0 zs))).1 [46, 13]).1 10, (frameZ zs).length) := by
    unfold frameZ
    rw [run_app _ _ _ h1.over, h3]
    have e1 : ([46, 13, 10] : List Int) = [46, 13] ++ [10] := rfl
    rw [e1, run_app _ _ _ h2.over, run_all _ _ h2.over]
    have e2 : runZ (runZ (runZ (new0 m) (flatZ zs (linesZ 0 zs))).1 [46, 13]).1 [10] = (takeZ (runZ (runZ (new0 m) (flatZ zs (linesZ 0 zs))).1 [46, 13]).1 10, 1) := by
      rw [runZ, if_pos o1]
    rw [e2]
    simp
  rw [e0]
  refine ⟨o1, rfl, ?_, fun hz => ?_⟩
  · show faultZ (takeZ _ 10) = _
    have hb : hasB [46] = false := rfl
    have : faultZ (takeZ (runZ (runZ (new0 m) (flatZ zs (linesZ 0 zs))).1 [46, 13]).1 10) = _ := o2
    rw [this]
    simp [hasB]
  · have hr := frame_run h hz
    rw [← hn0, e0] at hr
    have := congrArg Prod.fst hr
    show textZ (takeZ _ 10) = _
    rw [show takeZ (runZ (runZ (new0 m) (flatZ zs (linesZ 0 zs))).1 [46, 13]).1 10 = _ from this]
    simp [textZ, ad, faultZ]
    omega
end Go.Proofs.YtbckbonffajmeaaGreatDoor.Dt
