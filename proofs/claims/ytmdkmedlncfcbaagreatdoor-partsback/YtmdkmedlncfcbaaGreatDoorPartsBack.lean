/-
  Great, Count, few, a tree as it comes in; what is written is read as it was (P9.4): for all trees the statement PartsBack answers true, and leaves its argument as it was.
-/
import Derived.Test.YtmdkmedlncfcbaaGreatDoorPr
import Derived.Test.YtmdkmedlncfcbaaGreatDoorSm
import Derived.Test.YtmdkmedlncfcbaaGreatDoorPq
import Derived.Deep.SlicePairs
import Derived.Deep.Strs
import Derived.WideShapes
import Derived.OpenShut
import Derived.HandedShaped
import Derived.Test.YtmdkmedlncfcbaaGreatDoorCards
import Derived.Test.YtmdkmedlncfcbaaGreatDoorTie
import Derived.Test.YtmdkmedlncfcbaaGreatDoorZz
import Derived.WalkKit
import Derived.ProofKit
import Derived.ShutString
import Derived.ChangeOld
import Derived.Below
import Derived.LaidMore
import Derived.Lay
import Derived.SevenTiedAt
import Derived.Stop.Joined
namespace Go.Proofs.YtmdkmedlncfcbaaGreatDoor
open Go.RowKit Go.Shelf
set_option linter.unusedVariables false
set_option linter.unusedSimpArgs false

def greatT : Nat → Prt → Bool
  | 0, _ => true
  | k + 1, t => greatZ t.fs || (decide (3000 < t.body.length) || (decide (70 < t.ps.length) || t.ps.any (greatT k)))
theorem any_at {P : Prt → Bool} {l : List Prt} {k : Nat} {t : Prt} (h : l[k]? = some t) (hP : P t = true) : l.any P = true := by
  rw [List.any_eq_true]; exact ⟨t, List.mem_of_getElem? h, hP⟩
theorem any_none {P : Prt → Bool} {l : List Prt} (h : ∀ (j : Nat) t, l[j]? = some t → P t = false) : l.any P = false := by
  rw [List.any_eq_false]
  intro t ht
  obtain ⟨j, hj⟩ := List.getElem?_of_mem ht
  rw [h j t hj]; decide
def GrC (left : Nat) : Prop := ∀ (h : Nat) (t : Prt) (x y z : Value) (w : World), PtAt h w t x y z → Calls Tryz.prog 14 #[partV x y z, .int .i64 (left : Nat)] w fun e w' => e = .returned (.bool (greatT left t)) ∧ Below w.heap.size w w'
set_option maxHeartbeats 4000000 in
set_option maxRecDepth 100000 in
theorem great_zero : GrC 0 := by
  intro h t x y z w hp
  obtain ⟨h', rfl⟩ : ∃ h', h = h' + 1 := by cases h with | zero => exact hp.elim | succ h => exact ⟨h, rfl⟩
  obtain ⟨⟨x1, x2, x3, rfl⟩, ⟨y1, y2, y3, rfl⟩, ⟨z1, z2, z3, rfl⟩⟩ := pt_slices hp
  unfold partV
  clear hp
  go_enter Tryz.func14, Tryz.ntmps14
  go_wp2
  go_ret
  exact ⟨rfl, keep w _⟩
set_option maxHeartbeats 8000000 in
set_option maxRecDepth 100000 in
theorem great_step (k : Nat) (hk12 : k ≤ 100) (ih : GrC k) : GrC (k + 1) := by
  intro h t x y z w hp
  obtain ⟨h', rfl⟩ : ∃ h', h = h' + 1 := by cases h with | zero => exact hp.elim | succ h => exact ⟨h, rfl⟩
  have HP := hp
  obtain ⟨⟨fa, fc, rfl, fr, fl⟩, ⟨ba, bc, rfl, bl, bm, bn, bb, br⟩, ⟨pl, pa, pc, rfl, prow⟩⟩ := hp
  obtain ⟨bn', hbn⟩ : ∃ n, t.body.length = n := ⟨_, rfl⟩
  obtain ⟨pn, hpn⟩ : ∃ n, t.ps.length = n := ⟨_, rfl⟩
  obtain ⟨fn, hfn⟩ : ∃ n, t.fs.length = n := ⟨_, rfl⟩
  have hk0 := keep w (.cells #[.slice fa fn fc, .slice ba bn' bc, .slice pa pn pc] 28)
  have hgr := great_any fa fn fc t.fs (w.alloc (.cells #[.slice fa fn fc, .slice ba bn' bc, .slice pa pn pc] 28)) hfn (by unfold maxLen at fl; omega) (fr.below hk0)
  have hG0 := Blk.new w #[.slice fa fn fc, .slice ba bn' bc, .slice pa pn pc] 28
  rw [hfn, hbn, hpn]
  have hle : ¬ ((k : Int) + 1 ≤ 0) := by omega
  have HE : Hid (greatT (k + 1) t = (greatZ t.fs || (decide (3000 < bn') || (decide (70 < pn) || t.ps.any (greatT k))))) := by unfold Hid; rw [← hbn, ← hpn]; rfl
  have HPL : Hid (t.ps.length = pn) := hpn
  have hbm : bn' ≤ 9223372036854775807 := by unfold maxLen at bm; omega
  have hpm : pn ≤ 9223372036854775807 := by unfold maxLen at pl; omega
  have HPR : Hid (t.ps = [] ∨ ∃ b off, pa = some ⟨b, off, none⟩ ∧ ∀ (i : Nat) (t_1 : Prt), t.ps[i]? = some t_1 → ∃ x y z, w.cell? ⟨b, off + i * 3, none⟩ = some x ∧ w.cell? ⟨b, off + i * 3 + 1, none⟩ = some y ∧ w.cell? ⟨b, off + i * 3 + 2, none⟩ = some z ∧ PtAt h' w t_1 x y z) := prow
  have HK0 : Hid (Below w.heap.size w (w.alloc (.cells #[.slice fa fn fc, .slice ba bn' bc, .slice pa pn pc] 28))) := hk0
  have HG0 : Hid (Blk (w.alloc (.cells #[.slice fa fn fc, .slice ba bn' bc, .slice pa pn pc] 28)) w.heap.size #[.slice fa fn fc, .slice ba bn' bc, .slice pa pn pc] 28) := hG0
  have HIH : Hid (GrC k) := ih
  unfold partV
  clear hk0 hG0 HP fr fl bl bm bn bb br pl prow hbn hpn hfn ih
  obtain ⟨gb, hgb⟩ : ∃ b, greatZ t.fs = b := ⟨_, rfl⟩
  rw [hgb] at hgr HE
  clear hgb
  go_enter Tryz.func14, Tryz.ntmps14
  go_wp2_with fail
  refine hgr.mono ?_
  rintro e w1 ⟨rfl, rfl⟩
  clear hgr
  cases gb with
  | true =>
    have HV : Hid (greatT (k + 1) t = true) := by unfold Hid; rw [HE.out]; rfl
    go_wp2
    go_ret
    exact ⟨by rw [HV.out]; rfl, HK0.out⟩
  | false =>
    by_cases hb : 3000 < bn'
    · have HV : Hid (greatT (k + 1) t = true) := by unfold Hid; rw [HE.out, decide_eq_true hb]; rfl
      have hb1 : decide ((bn' : Int) > 3000) = true := by simp; omega
      go_wp2
      go_ret
      exact ⟨by rw [HV.out]; rfl, HK0.out⟩
    · by_cases hq : 70 < pn
      · have HV : Hid (greatT (k + 1) t = true) := by unfold Hid; rw [HE.out, decide_eq_true hq]; simp
        have hb1 : decide ((bn' : Int) > 3000) = false := by simp; omega
        have hq1 : decide ((pn : Int) > 70) = true := by simp; omega
        go_wp2
        go_ret
        exact ⟨by rw [HV.out]; rfl, HK0.out⟩
      · have HV : Hid (greatT (k + 1) t = t.ps.any (greatT k)) := by unfold Hid; rw [HE.out, decide_eq_false hb, decide_eq_false hq]; rfl
        have hb1 : decide ((bn' : Int) > 3000) = false := by simp; omega
        have hq1 : decide ((pn : Int) > 70) = false := by simp; omega
        obtain ⟨w0, hw0⟩ : ∃ w0, w.alloc (.cells #[.slice fa fn fc, .slice ba bn' bc, .slice pa pn pc] 28) = w0 := ⟨_, rfl⟩
        rw [hw0] at HK0 HG0
        obtain ⟨q0, q1, q2⟩ := cells3 HG0.out
        go_wp2_with fail
        go_loopw [5] (fun i wr => ∃ j : Nat, i = .int .i64 (j : Nat) ∧ j ≤ pn ∧ Below w0.heap.size w0 wr ∧ ∀ (m : Nat) u, m < j → t.ps[m]? = some u → greatT k u = false) (fun i _ => pn - (intOf i).toNat)
        case atStart => exact ⟨0, rfl, by omega, by rw [← hw0]; exact Below.refl _ _, fun m u hm => by omega⟩
        case round =>
          obtain ⟨j, rfl, hj, hbr, hno⟩ := hrel
          have HBR : Hid (Below w0.heap.size w0 wr) := hbr
          have HNO : Hid (∀ (m : Nat) u, m < j → t.ps[m]? = some u → greatT k u = false) := hno
          have HBW : Hid (Below w.heap.size w wr) := HK0.out.trans (hbr.mono HK0.out.size)
          obtain ⟨r0, r1, r2⟩ := cells3 (HG0.out.below hbr HG0.out.lt)
          clear q0 q1 q2 hbr hno hw0
          by_cases hlt : j < pn
          · obtain ⟨u, hu⟩ : ∃ u, t.ps[j]? = some u := ⟨_, List.getElem?_eq_getElem (by have := HPL.out; omega)⟩
            rcases HPR.out with h0 | ⟨b1, o1, rfl, g1⟩
            · rw [h0] at hu; simp at hu
            obtain ⟨x1, y1, z1, e1, e2, e3, e4⟩ := g1 j u hu
            have e5 := PtAt.below HBW.out _ _ _ _ _ e4
            have e1 := keep_cell HBW.out e1
            have e2 := keep_cell HBW.out e2
            have e3 := keep_cell HBW.out e3
            have hch := HIH.out h' u x1 y1 z1 wr e5
            obtain ⟨h2, rfl⟩ : ∃ h2, h' = h2 + 1 := by cases h' with | zero => exact e5.elim | succ h => exact ⟨h, rfl⟩
            obtain ⟨⟨xa, xn, xc, rfl⟩, ⟨ya, yn, yc, rfl⟩, ⟨za, zn, zc, rfl⟩⟩ := pt_slices e5
            obtain ⟨bu, hbu⟩ : ∃ b, greatT k u = b := ⟨_, rfl⟩
            have HBU : Hid (greatT k u = bu) := hbu
            have HU : Hid (t.ps[j]? = some u) := hu
            rw [hbu] at hch
            unfold partV at hch
            have hjp : ¬ (pn : Int) ≤ j := by omega
            have hs1 : IntKind.i64.wrap ((k : Int) + 1 - 1) = k := by rw [IntKind.wrap_i64]; omega
            clear e4 e5 g1 hu hbu
            go_wp2_with fail
            refine hch.mono ?_
            rintro e w2 ⟨rfl, hb2⟩
            clear hch e1 e2 e3
            have HB2 : Hid (Below w0.heap.size w0 w2) := HBR.out.trans (hb2.mono HBR.out.size)
            have HBW2 : Hid (Below w.heap.size w w2) := HBW.out.trans (hb2.mono HBW.out.size)
            clear hb2 r0 r1 r2
            cases bu with
            | true =>
              go_wp2
              go_ret
              exact ⟨by rw [HV.out, any_at HU.out HBU.out]; rfl, HBW2.out⟩
            | false =>
              go_wp2
              go_roundw
              case rel => exact ⟨j + 1, by go_num, by omega, HB2.out, fun m v hm hv => by
                by_cases hmj : m < j
                · exact HNO.out m v hmj hv
                · obtain rfl : m = j := by omega
                  rw [HU.out] at hv; cases hv; exact HBU.out⟩
              case measure => simp [intOf]; omega
          · go_wp2
            go_ret
            exact ⟨by rw [HV.out, any_none (fun m v hv => HNO.out m v (by have := (List.getElem?_eq_some_iff.1 hv).1; have := HPL.out; omega) hv)]; rfl, HBW.out⟩
theorem great_tree : ∀ left, left ≤ 100 → GrC left
  | 0, _ => great_zero
  | k + 1, h => great_step k (by omega) (great_tree k (by omega))
end Go.Proofs.YtmdkmedlncfcbaaGreatDoor
namespace Go.Proofs.YtmdkmedlncfcbaaGreatDoor
open Go.RowKit Go.Shelf
set_option linter.unusedVariables false
set_option linter.unusedSimpArgs false

def CtC (h : Nat) : Prop := ∀ (t : Prt) (x y z : Value) (w : World), PtAt h w t x y z → Calls Tryz.prog 36 #[partV x y z] w fun e w' => ∃ n d, e = .returned (.tuple #[.int .i64 n, .int .i64 d]) ∧ Below w.heap.size w w'
set_option maxHeartbeats 8000000 in
set_option maxRecDepth 100000 in
theorem count_step (h' : Nat) (ih : CtC h') : CtC (h' + 1) := by
  intro t x y z w hp
  obtain ⟨⟨x1, x2, x3, rfl⟩, ⟨y1, y2, y3, rfl⟩, _⟩ := pt_slices hp
  obtain ⟨_, _, ⟨pl, pa, pc, rfl, prow⟩⟩ := hp
  obtain ⟨pn, hpn⟩ : ∃ n, t.ps.length = n := ⟨_, rfl⟩
  have hpm : pn ≤ 9223372036854775807 := by unfold maxLen at pl; omega
  have HPL : Hid (t.ps.length = pn) := hpn
  have HPR : Hid (t.ps = [] ∨ ∃ b off, pa = some ⟨b, off, none⟩ ∧ ∀ (i : Nat) (t_1 : Prt), t.ps[i]? = some t_1 → ∃ x y z, w.cell? ⟨b, off + i * 3, none⟩ = some x ∧ w.cell? ⟨b, off + i * 3 + 1, none⟩ = some y ∧ w.cell? ⟨b, off + i * 3 + 2, none⟩ = some z ∧ PtAt h' w t_1 x y z) := prow
  rw [hpn]
  have hk0 := keep w (.cells #[.slice x1 x2 x3, .slice y1 y2 y3, .slice pa pn pc] 28)
  have hG0 := Blk.new w #[.slice x1 x2 x3, .slice y1 y2 y3, .slice pa pn pc] 28
  obtain ⟨w0, hw0⟩ : ∃ w0, w.alloc (.cells #[.slice x1 x2 x3, .slice y1 y2 y3, .slice pa pn pc] 28) = w0 := ⟨_, rfl⟩
  rw [hw0] at hk0 hG0
  have HK0 : Hid (Below w.heap.size w w0) := hk0
  have HG0 : Hid (Blk w0 w.heap.size #[.slice x1 x2 x3, .slice y1 y2 y3, .slice pa pn pc] 28) := hG0
  have HIH : Hid (CtC h') := ih
  unfold partV
  clear hk0 hG0 pl prow hpn ih
  go_enter Tryz.func36, Tryz.ntmps36
  go_wp2_with fail
  go_loopw [4, 5, 6] (fun c d i wr => ∃ (j : Nat) (cn dn : Int), c = .int .i64 cn ∧ d = .int .i64 dn ∧ i = .int .i64 (j : Nat) ∧ j ≤ pn ∧ Below w0.heap.size w0 wr) (fun _ _ i _ => pn - (intOf i).toNat)
  case atStart => exact ⟨0, 1, 1, rfl, rfl, rfl, by omega, Below.refl _ _⟩
  case round =>
    obtain ⟨j, cn, dn, rfl, rfl, rfl, hj, hbr⟩ := hrel
    have HBR : Hid (Below w0.heap.size w0 wr) := hbr
    have HBW : Hid (Below w.heap.size w wr) := HK0.out.trans (hbr.mono HK0.out.size)
    obtain ⟨r0, r1, r2⟩ := cells3 (HG0.out.below hbr HG0.out.lt)
    clear hbr hw0
    by_cases hlt : j < pn
    · obtain ⟨u, hu⟩ : ∃ u, t.ps[j]? = some u := ⟨_, List.getElem?_eq_getElem (by have := HPL.out; omega)⟩
      rcases HPR.out with h0 | ⟨b1, o1, rfl, g1⟩
      · rw [h0] at hu; simp at hu
      obtain ⟨a1, a2, a3, e1, e2, e3, e4⟩ := g1 j u hu
      have e5 := PtAt.below HBW.out _ _ _ _ _ e4
      have e1 := keep_cell HBW.out e1
      have e2 := keep_cell HBW.out e2
      have e3 := keep_cell HBW.out e3
      have hch := HIH.out u a1 a2 a3 wr e5
      obtain ⟨h2, rfl⟩ : ∃ h2, h' = h2 + 1 := by cases h' with | zero => exact e5.elim | succ h => exact ⟨h, rfl⟩
      obtain ⟨⟨xa, xn, xc, rfl⟩, ⟨ya, yn, yc, rfl⟩, ⟨za, zn, zc, rfl⟩⟩ := pt_slices e5
      unfold partV at hch
      have hjp : ¬ (pn : Int) ≤ j := by omega
      clear e4 e5 g1 hu
      go_wp2_with fail
      refine hch.mono ?_
      rintro e w2 ⟨m, d2, rfl, hb2⟩
      clear hch e1 e2 e3
      have HB2 : Hid (Below w0.heap.size w0 w2) := HBR.out.trans (hb2.mono HBR.out.size)
      clear hb2 r0 r1 r2
      go_wp2
      all_goals
        refine ⟨⟨j + 1, _, _, rfl, rfl, ?_, by omega, HB2.out⟩, ?_⟩
        · go_num
        · simp [intOf]; omega
    · go_wp2
      exact bodyPost_ret (results_tmp2 rfl _ _ _) rfl ⟨_, _, rfl, HBW.out⟩
theorem count_any : ∀ h, CtC h
  | 0 => fun t x y z w hp => hp.elim
  | h + 1 => count_step h (count_any h)
set_option maxHeartbeats 4000000 in
set_option maxRecDepth 100000 in
theorem few_any (h : Nat) (t : Prt) (x y z : Value) (m : Int) (w : World) (hp : PtAt h w t x y z) : Calls Tryz.prog 15 #[partV x y z, .int .i64 m] w fun e w' => ∃ b, e = .returned (.bool b) ∧ Below w.heap.size w w' := by
  obtain ⟨h', rfl⟩ : ∃ h', h = h' + 1 := by cases h with | zero => exact hp.elim | succ h => exact ⟨h, rfl⟩
  have hk0 := keep w (.cells #[x, y, z] 28)
  have hch := count_any (h' + 1) t x y z (w.alloc (.cells #[x, y, z] 28)) (PtAt.below hk0 _ _ _ _ _ hp)
  obtain ⟨⟨x1, x2, x3, rfl⟩, ⟨y1, y2, y3, rfl⟩, ⟨z1, z2, z3, rfl⟩⟩ := pt_slices hp
  have HK0 : Hid (Below w.heap.size w (w.alloc (.cells #[.slice x1 x2 x3, .slice y1 y2 y3, .slice z1 z2 z3] 28))) := hk0
  unfold partV at hch ⊢
  clear hk0 hp
  go_enter Tryz.func15, Tryz.ntmps15
  go_wp2_with fail
  refine hch.mono ?_
  rintro e w2 ⟨n, d, rfl, hb2⟩
  have HB2 : Hid (Below w.heap.size w w2) := HK0.out.trans (hb2.mono HK0.out.size)
  clear hch hb2
  go_wp2
  go_ret
  exact ⟨_, rfl, HB2.out⟩
end Go.Proofs.YtmdkmedlncfcbaaGreatDoor
namespace Go.Proofs.YtmdkmedlncfcbaaGreatDoor
open Go.RowKit Go.ChangeShapes Go.WideShapes
set_option linter.unusedVariables false

theorem Tryz.two50 : Tryz.prog.cellsOf 50 = 2 := by kernel_rfl
theorem Tryz.one9 : Tryz.prog.cellsOf 9 = 1 := by kernel_rfl
theorem Tryz.one22 : Tryz.prog.cellsOf 22 = 1 := by kernel_rfl
theorem Tryz.one25 : Tryz.prog.cellsOf 25 = 1 := by kernel_rfl
theorem Tryz.one26 : Tryz.prog.cellsOf 26 = 1 := by kernel_rfl
theorem Tryz.three28 : Tryz.prog.cellsOf 28 = 3 := by kernel_rfl
/-- A list of fields that came in. -/
def IsFs (w : World) (a : Option Addr) (len cap : Nat) (fs : List (ByteArray × ByteArray)) : Prop :=
  fs.length = len ∧ len ≤ cap ∧ cap ≤ maxLen ∧ FRow w a fs ∧ (a = none → cap = 0) ∧ ∀ f ∈ fs, f.1.size ≤ maxLen ∧ f.2.size ≤ maxLen
theorem fields_arg {H : Type} {enc : TypeId × Value → H} {W : World} {base : Nat} {sp : Nat → Bool} {held : Bool} {a : Option Addr} {len cap : Nat} {d : DataW H} {ps : List MemPlace} (h : DataW.Trod enc Tryz.prog W base sp held 25 (.slice a len cap) d ps) :
    ∃ fs, IsFs W a len cap fs := by
  obtain ⟨fuel, hf⟩ := h
  rcases Go.Deep.open_slice_pairs Tryz.underlying25 Tryz.underlying50 Tryz.two50 rfl rfl Tryz.one9 Tryz.one9 hf with ⟨hcs, _⟩ | ⟨x, l, c, m, n, V0, V1, D0, D1, P0, P1, hcs, _, hl, hm, hmm, _, hx⟩
  · simp [Value.cells] at hcs
    obtain ⟨rfl, rfl, rfl⟩ := hcs
    exact ⟨[], rfl, Nat.le_refl _, by simp [maxLen], .inl rfl, fun _ => rfl, by simp⟩
  · simp [Value.cells] at hcs
    obtain ⟨rfl, rfl, rfl⟩ := hcs
    have hlm : len ≤ m := by rw [hmm]; split <;> omega
    have each : ∀ i, i < len → ∃ f : ByteArray × ByteArray, (W.cell? (x.add (i * 2)) = some (.string f.1) ∧ W.cell? (x.add (i * 2 + 1)) = some (.string f.2)) ∧ f.1.size ≤ maxLen ∧ f.2.size ≤ maxLen := by
      intro i hi
      obtain ⟨h0, h1, t0, t1⟩ := hx i (by omega)
      obtain ⟨s0, e0, _, z0⟩ := DataW.trod_string Tryz.underlying9 t0
      obtain ⟨s1, e1, _, z1⟩ := DataW.trod_string Tryz.underlying9 t1
      simp at e0 e1
      rw [e0] at h0
      rw [e1] at h1
      exact ⟨(s0, s1), ⟨h0, h1⟩, z0, z1⟩
    obtain ⟨q, hq⟩ := Go.Deep.choose_lt each
    refine ⟨(List.range len).map q, by simp, hl, hm, ?_, by simp, ?_⟩
    · by_cases h0 : len = 0
      · exact .inl (by simp [h0])
      · obtain ⟨b, off, spot⟩ := x
        have hspot : spot = none := by simpa [Addr.add] using World.cell?_spot (hq 0 (by omega)).1.1
        subst hspot
        refine .inr ⟨b, off, rfl, fun i f hf => ?_⟩
        have hi : i < len := by
          rcases Nat.lt_or_ge i len with h | h
          · exact h
          · rw [List.getElem?_eq_none (by simpa using h)] at hf; simp at hf
        rw [List.getElem?_map, List.getElem?_range hi] at hf
        simp at hf
        subst hf
        have := (hq i hi).1
        rw [add_plain, add_plain] at this
        exact ⟨this.1, by rw [Nat.add_assoc]; exact this.2⟩
    · intro f hf
      obtain ⟨i, hi, rfl⟩ := List.mem_map.1 hf
      exact (hq i (List.mem_range.1 hi)).2
theorem bytes_arg {H : Type} {enc : TypeId × Value → H} {W : World} {base fuel : Nat} {held : Bool} {v : Value} {x : DataW H × List MemPlace} (h : DataW.trod enc Tryz.prog W base (fun _ => true) held fuel 22 [v] = some x) : ∃ l, BAt W v l := by
  rcases open_ints Tryz.underlying22 Tryz.underlying5 (by kernel_rfl) h with ⟨hcs, _⟩ | ⟨x, l, c, zs, hcs, _, hl, hm, hz, _, hcell, hwz⟩
  · cases hcs
    exact ⟨[], none, 0, rfl, Nat.le_refl _, Nat.zero_le _, fun _ => rfl, fun y hy => by simp at hy, .inl rfl⟩
  · cases hcs
    have hr : IsRow .u8 W (some x) l c zs := .inr ⟨_, rfl, hl, hm, by simpa using hz, hcell, hwz⟩
    obtain ⟨ys, h1, h2, h3, h4, h5⟩ := byte_view hr
    subst h1
    exact ⟨ys, some x, c, rfl, h2, h3, fun q => by simp at q, h4, h5⟩
theorem fields_at {H : Type} {enc : TypeId × Value → H} {W : World} {base fuel : Nat} {held : Bool} {v : Value} {x : DataW H × List MemPlace} (h : DataW.trod enc Tryz.prog W base (fun _ => true) held fuel 25 [v] = some x) : ∃ fs, FAt W v fs ∧ ∀ f ∈ fs, f.1.size ≤ maxLen ∧ f.2.size ≤ maxLen := by
  have hv : ∃ a len cap, v = .slice a len cap := by
    rcases DataW.trod_slice Tryz.underlying25 h with ⟨q, _⟩ | ⟨a, len, cap, _, _, _, _, q, _⟩
    · cases q; exact ⟨_, _, _, rfl⟩
    · cases q; exact ⟨_, _, _, rfl⟩
  obtain ⟨a, len, cap, rfl⟩ := hv
  obtain ⟨d, ps⟩ := x
  obtain ⟨fs, h1, h2, h3, h4, h5, h6⟩ := fields_arg (W := W) (a := a) (len := len) (cap := cap) (d := d) (ps := ps) ⟨fuel, by simpa [Value.cells] using h⟩
  subst h1
  exact ⟨fs, ⟨a, cap, rfl, h4, by omega⟩, h6⟩
/-- The fields of a tree are of a size that can be. -/
def Szt : Nat → Prt → Prop
  | 0, _ => True
  | h + 1, t => (∀ f ∈ t.fs, f.1.size ≤ maxLen ∧ f.2.size ≤ maxLen) ∧ ∀ q ∈ t.ps, Szt h q
set_option maxRecDepth 100000 in
theorem part_at {H : Type} {enc : TypeId × Value → H} {W : World} {base : Nat} {held : Bool} : ∀ (k fuel : Nat) (cs : List Value) (x : DataW H × List MemPlace), fuel ≤ k → DataW.trod enc Tryz.prog W base (fun _ => true) held fuel 28 cs = some x → ∃ v0 v1 v2 t, cs = [v0, v1, v2] ∧ PtAt (k + 1) W t v0 v1 v2 ∧ Szt (k + 1) t := by
  intro k
  induction k with
  | zero =>
    intro fuel cs x hk h
    obtain rfl : fuel = 0 := by omega
    simp [DataW.trod] at h
  | succ k ih =>
    intro fuel cs x hk h
    obtain ⟨xs, n, hn, _, hlen, hxl, hf⟩ := DataW.trod_struct Tryz.underlying28 h
    rw [Tryz.three28] at hlen
    match cs, hlen, xs, hxl with
    | [v0, v1, v2], _, [y0, y1, y2], _ =>
      have g0 := hf 0 _ rfl
      have g1 := hf 1 _ rfl
      have g2 := hf 2 _ rfl
      simp [Tryz.one25, Tryz.one22, Tryz.one26] at g0 g1 g2
      obtain ⟨fs, hfs, hsz⟩ := fields_at g0
      obtain ⟨l, hl⟩ := bytes_arg g1
      have htr : ∃ ts, TRow W v2 ts (PtAt (k + 1) W) ∧ ∀ q ∈ ts, Szt (k + 1) q := by
        rcases DataW.trod_slice Tryz.underlying26 g2 with ⟨q, _⟩ | ⟨a, len, cap, elems, rest, m, hm, q, _, hb, hle, hcm, hel, hx, _⟩
        · cases q
          exact ⟨[], ⟨Nat.zero_le _, none, 0, rfl, .inl rfl⟩, fun q hq => by simp at hq⟩
        · cases q
          have each : ∀ i, i < len → ∃ t : Prt, (∃ x y z, W.cell? (a.add (i * 3)) = some x ∧ W.cell? (a.add (i * 3 + 1)) = some y ∧ W.cell? (a.add (i * 3 + 2)) = some z ∧ PtAt (k + 1) W t x y z) ∧ Szt (k + 1) t := by
            intro i hi
            have hxi := hx i hi
            rw [List.getElem?_eq_getElem (by omega), Tryz.three28] at hxi
            cases hcs : W.cells? base (a.add (i * 3)) 3 with
            | none => rw [hcs] at hxi; simp at hxi
            | some cs' =>
              rw [hcs] at hxi
              simp only [Option.bind_some] at hxi
              obtain ⟨_, hlen', hcell⟩ := World.cells?_some hcs
              obtain ⟨u0, u1, u2, t, rfl, hpt, hst⟩ := ih m cs' _ (by omega) hxi
              have e0 := hcell 0 (by omega)
              have e1 := hcell 1 (by omega)
              have e2 := hcell 2 (by omega)
              rw [Go.Deep.add_add] at e0 e1 e2
              exact ⟨t, ⟨u0, u1, u2, by simpa using e0, by simpa using e1, by simpa using e2, hpt⟩, hst⟩
          have : Inhabited Prt := ⟨⟨[], [], []⟩⟩
          obtain ⟨q, hq⟩ := Go.Deep.choose_lt each
          refine ⟨(List.range len).map q, ⟨by simp; omega, some a, cap, by simp, ?_⟩, ?_⟩
          · by_cases h0 : len = 0
            · exact .inl (by simp [h0])
            · obtain ⟨b, off, spot⟩ := a
              obtain ⟨x, y, z, c0, _⟩ := (hq 0 (by omega)).1
              have hspot : spot = none := by simpa [Addr.add] using World.cell?_spot c0
              subst hspot
              refine .inr ⟨b, off, rfl, fun i t ht => ?_⟩
              have hi : i < len := by
                rcases Nat.lt_or_ge i len with h | h
                · exact h
                · rw [List.getElem?_eq_none (by simpa using h)] at ht; simp at ht
              rw [List.getElem?_map, List.getElem?_range hi] at ht
              simp at ht
              subst ht
              obtain ⟨x, y, z, c0, c1, c2, hp⟩ := (hq i hi).1
              rw [add_plain] at c0 c1 c2
              exact ⟨x, y, z, c0, by rw [Nat.add_assoc]; exact c1, by rw [Nat.add_assoc]; exact c2, hp⟩
          · intro u hu
            obtain ⟨i, hi, rfl⟩ := List.mem_map.1 hu
            exact (hq i (List.mem_range.1 hi)).2
      obtain ⟨ts, htr, hsz2⟩ := htr
      exact ⟨v0, v1, v2, ⟨fs, l, ts⟩, rfl, ⟨hfs, hl, htr⟩, ⟨hsz, hsz2⟩⟩
end Go.Proofs.YtmdkmedlncfcbaaGreatDoor
namespace Go.Proofs.YtmdkmedlncfcbaaGreatDoor.partsBack
open Go.ChangeShapes Go.WideShapes Go.ChangeAt Go.RowKit
open Go.ChangeMaps (open_string shut_string)
set_option linter.unusedVariables false

/-- A row's step: its listed variables and the world's shape are handed on. -/
theorem step_both {H : Type} {enc : TypeId × Value → H} {a : Assume} {C : Checked} {os : Os} {f : FuncId} {fn : Func} {s : ChangeSpec} {conds : List PathCond} {apart fresh handsOn again : Bool} {X : World → Array Value → Prop}
    (hX : ∀ (w w' : World) (args : Array Value), w.heap = w'.heap → X w args → X w' args)
    (own : ownKnob C.prog.godebug = none) (started : os.Started) (noInit : C.prog.inits.idxOf? f = none) (hfn : C.prog.funcs[f]? = some fn)
    (witness : ∃ (w : World) (tape : Tape) (i : Input), w.os = os ∧ (w.forCall tape i).Shaped C.prog ∧ i.vars = [] ∧ Input.okWide C.prog (w.forCall tape i) .any w.heap.size f i ∧
      ((s.pre enc C.prog fn conds apart (w.forCall tape i).memory i.args ∧ X (w.forCall tape i).memory i.args) ∧ sizedMet enc C.prog fn (OpenSpec.ofChange s) apart (w.forCall tape i).memory i.args) ∧ a.holds C.prog (lone (Frame.enter C.prog f i.args .normal) [] (w.forCall tape i)))
    (contract : ∀ (W : World) (base : Nat) (args : Array Value) (ds gs : List (DataW H)) (before : List MemPlace), (∀ (j : Nat) t v, fn.params[j]? = some t → args[j]? = some v → Value.okWide C.prog W .any base t v) →
      DataW.Whole enc C.prog fn.params.toList s.vars apart W args.toList ds gs before → conds.all (PathCond.test C.prog ⟨fn.params.toList, ds, s.plain.varTypes C.prog, gs⟩) = true → W.ShapedOpen C.prog → X W args →
      Calls C.prog f args W fun e W' => ∃ v, e = .returned v ∧ s.post enc C.prog fn apart fresh handsOn again W args v W') :
    ReturnsInHanded a C os f .any (fun w args => (s.pre enc C.prog fn conds apart w args ∧ X w args) ∧ sizedMet enc C.prog fn (OpenSpec.ofChange s) apart w args) (s.post enc C.prog fn apart fresh handsOn again) := by
  refine returnsInHanded_of_calls own started noInit witness ?_
  intro w tape i _ hsh _ hok hpre _
  obtain ⟨_, _, _, fn', hfn', _, _, _, _, hval⟩ := hok
  obtain rfl : fn' = fn := Option.some.inj (hfn'.symm.trans hfn)
  obtain ⟨⟨⟨ds, gs, before, hw, hc⟩, hx⟩, _⟩ := hpre
  refine (contract (w.forCall tape i) w.heap.size i.args ds gs before hval (DataW.Whole.of_heap (w' := w.forCall tape i) (by rfl) hw) hc hsh (hX _ _ _ (by rfl) hx)).mono ?_
  rintro e W' ⟨v, rfl, hp⟩
  exact ChangeSpec.post_blind hp
theorem own : ownKnob Tryz.prog.godebug = none := by kernel_rfl
theorem laidOut : laidOutB Tryz.prog = true := by kernel_rfl
set_option maxRecDepth 100000 in
theorem part_arg {H : Type} {enc : TypeId × Value → H} {W : World} {base b0 : Nat} {held : Bool} {v : Value} {d : DataW H} {ps : List MemPlace} {r : Reach} (hv : Value.okWide Tryz.prog W r b0 28 v) (h : DataW.Trod enc Tryz.prog W base (fun _ => true) held 28 v d ps) :
    ∃ x y z t K, v = .agg #[x, y, z] ∧ 20 ≤ K ∧ PtAt K W t x y z := by
  obtain ⟨cs, rfl, hsz⟩ := okWide_struct Tryz.underlying28 hv
  obtain ⟨fuel, hf⟩ := h
  obtain ⟨l⟩ := cs
  obtain ⟨x, y, z, t, hl, hp, _⟩ := part_at (fuel + 20) fuel l (d, ps) (by omega) (by simpa [Value.cells] using hf)
  subst hl
  exact ⟨x, y, z, t, fuel + 20 + 1, rfl, by omega, hp⟩
theorem great_fit : ∀ (k h : Nat) (t : Prt), k ≤ h → greatT k t = false → FitT h t
  | 0, _, t, _, hg => by simp [greatT] at hg
  | k + 1, 0, t, hk, _ => by omega
  | k + 1, h + 1, t, hk, hg => by
    simp only [greatT, Bool.or_eq_false_iff, decide_eq_false_iff_not] at hg
    obtain ⟨h1, h2, h3, h4⟩ := hg
    obtain ⟨f1, f2⟩ := great_mem h1
    refine ⟨⟨by omega, fun f hf => ?_⟩, by omega, by omega, fun q hq => great_fit k h q (by omega) ?_⟩
    · have := f2 f hf; omega
    · rw [List.any_eq_false] at h4
      have := h4 q hq
      simpa using this
theorem pt_ups {w : World} {t : Prt} {x y z : Value} : ∀ (n h : Nat), PtAt h w t x y z → PtAt (h + n) w t x y z
  | 0, h, q => q
  | n + 1, h, q => (pt_ups n h q).up
set_option maxRecDepth 100000 in
set_option maxHeartbeats 8000000 in
theorem walk (x0 y0 z0 : Value) (t : Prt) (K : Nat) (w : World) (w0 : 20 ≤ K ∧ PtAt K w t x0 y0 z0) (hm : Mx w) :
    Calls Tryz.prog 6 #[.agg #[x0, y0, z0]] w fun e w' => e = .returned (.bool true) ∧ Below w.heap.size w w' := by
  obtain ⟨hK, hp⟩ := w0
  obtain ⟨K', rfl⟩ : ∃ k, K = k + 1 := ⟨K - 1, by omega⟩
  obtain ⟨⟨f1, f2, f3, rfl⟩, ⟨b1, b2, b3, rfl⟩, ⟨p1, p2, p3, rfl⟩⟩ := pt_slices hp
  have HM : Hid (Mx w) := hm
  have hk0 := keep w (.cells #[.slice f1 f2 f3, .slice b1 b2 b3, .slice p1 p2 p3] 28)
  have hG0 := Blk.new w #[.slice f1 f2 f3, .slice b1 b2 b3, .slice p1 p2 p3] 28
  obtain ⟨g, hg⟩ : ∃ g, w.heap.size = g := ⟨_, rfl⟩
  obtain ⟨u0, hu0⟩ : ∃ u, w.alloc (.cells #[.slice f1 f2 f3, .slice b1 b2 b3, .slice p1 p2 p3] 28) = u := ⟨_, rfl⟩
  rw [hu0] at hk0 hG0
  have hP0 := PtAt.below hk0 _ _ _ _ _ hp
  have HB0 : Hid (Below w.heap.size w u0) := hk0
  have HP0 : Hid (PtAt (K' + 1) u0 t (.slice f1 f2 f3) (.slice b1 b2 b3) (.slice p1 p2 p3)) := hP0
  have HG0 : Hid (Blk u0 g #[.slice f1 f2 f3, .slice b1 b2 b3, .slice p1 p2 p3] 28) := by rw [← hg]; exact hG0
  have hgr := great_tree 12 (by decide) (K' + 1) t _ _ _ u0 hP0
  obtain ⟨q0, q1, q2⟩ := cells3 HG0.out
  unfold partV at hgr
  obtain ⟨gb, hgb⟩ : ∃ b, greatT 12 t = b := ⟨_, rfl⟩
  rw [hgb] at hgr
  have HGB : Hid (greatT 12 t = gb) := hgb
  clear hm hp hk0 hG0 hP0 hgb
  go_enter Tryz.func6, Tryz.ntmps6
  go_wp2_with fail
  refine hgr.mono ?_
  rintro e w1 ⟨rfl, hb1⟩
  clear hgr q0 q1 q2
  have HB1 : Hid (Below w.heap.size w w1) := HB0.out.trans (hb1.mono HB0.out.size)
  have HP1 : Hid (PtAt (K' + 1) w1 t (.slice f1 f2 f3) (.slice b1 b2 b3) (.slice p1 p2 p3)) := PtAt.below hb1 _ _ _ _ _ HP0.out
  have HG1 : Hid (Blk w1 g #[.slice f1 f2 f3, .slice b1 b2 b3, .slice p1 p2 p3] 28) := HG0.out.below hb1 HG0.out.lt
  clear hb1 hu0
  cases gb with
  | true =>
    go_wp2_with fail
    refine (alive_any w1 (HM.out.keep HB1.out)).mono ?_
    rintro e w2 ⟨rfl, hb2⟩
    have HB2 : Hid (Below w.heap.size w w2) := HB1.out.trans (hb2.mono HB1.out.size)
    clear hb2
    go_wp2
    go_ret
    exact ⟨rfl, HB2.out⟩
  | false =>
    have HFT : Hid (FitT (K' + 1) t) := great_fit 12 (K' + 1) t (by omega) HGB.out
    have hfw := few_any (K' + 1) t _ _ _ 80 w1 HP1.out
    obtain ⟨q0, q1, q2⟩ := cells3 HG1.out
    unfold partV at hfw
    go_wp2_with fail
    refine hfw.mono ?_
    rintro e w2 ⟨fb, rfl, hb2⟩
    clear hfw q0 q1 q2
    have HB2 : Hid (Below w.heap.size w w2) := HB1.out.trans (hb2.mono HB1.out.size)
    have HP2 : Hid (PtAt (K' + 1) w2 t (.slice f1 f2 f3) (.slice b1 b2 b3) (.slice p1 p2 p3)) := PtAt.below hb2 _ _ _ _ _ HP1.out
    have HG2 : Hid (Blk w2 g #[.slice f1 f2 f3, .slice b1 b2 b3, .slice p1 p2 p3] 28) := HG1.out.below hb2 HG1.out.lt
    clear hb2
    cases fb with
    | false =>
      go_wp2_with fail
      refine (alive_any w2 (HM.out.keep HB2.out)).mono ?_
      rintro e w3 ⟨rfl, hb3⟩
      have HB3 : Hid (Below w.heap.size w w3) := HB2.out.trans (hb3.mono HB2.out.size)
      clear hb3
      go_wp2
      go_ret
      exact ⟨rfl, HB3.out⟩
    | true =>
      have hwt := write_top (K' + 1) t _ _ _ w2 HP2.out HFT.out (HM.out.keep HB2.out)
      obtain ⟨q0, q1, q2⟩ := cells3 HG2.out
      unfold partV at hwt
      go_wp2_with fail
      refine hwt.mono ?_
      clear hwt
      rintro e w3 ⟨v, c2, rfl, hb3, hans⟩
      have HB3 : Hid (Below w.heap.size w w3) := HB2.out.trans (hb3.mono HB2.out.size)
      have HP3 : Hid (PtAt (K' + 1) w3 t (.slice f1 f2 f3) (.slice b1 b2 b3) (.slice p1 p2 p3)) := PtAt.below hb3 _ _ _ _ _ HP2.out
      have HG3 : Hid (Blk w3 g #[.slice f1 f2 f3, .slice b1 b2 b3, .slice p1 p2 p3] 28) := HG2.out.below hb3 HG2.out.lt
      clear hb3 q0 q1 q2
      rcases hans with ⟨o, h4, rfl, hown, hol, hob⟩ | ⟨h4, rfl, rfl⟩
      · obtain ⟨hbk, _⟩ := wr_top h4
        obtain ⟨ba, bc, rfl, k1, k2, k3, k4, hrow⟩ := own_bat hown hob (by unfold maxLen; omega)
        have hps := parse_top ba o.length bc o w3 rfl k1 k2 k3 hol k4 hrow (HM.out.keep HB3.out)
        have HBK : Hid ((prP 7 0 o).2 = .ok t) := hbk
        clear hown hrow k1 k2 k3 k4 hol hob hbk h4
        go_wp2_with fail
        refine hps.mono ?_
        clear hps
        rintro e w4 ⟨vf, vb, vp, c3, rfl, hb4, hans⟩
        obtain ⟨hc3, hpt⟩ : c3 = 0 ∧ PtAt 8 w4 t vf vb vp := by
          rcases hans with ⟨t', h1, h2, h3⟩ | ⟨er, h1, _⟩
          · rw [HBK.out] at h1; cases h1; exact ⟨h2, h3.now⟩
          · rw [HBK.out] at h1; cases h1
        subst hc3
        obtain ⟨⟨d1, d2, d3, rfl⟩, ⟨e1, e2, e3, rfl⟩, ⟨r1, r2, r3, rfl⟩⟩ := pt_slices hpt
        have hk4 := keep w4 (.cells #[.slice d1 d2 d3, .slice e1 e2 e3, .slice r1 r2 r3] 28)
        have hQ := Blk.new w4 #[.slice d1 d2 d3, .slice e1 e2 e3, .slice r1 r2 r3] 28
        obtain ⟨g', hg'⟩ : ∃ g, w4.heap.size = g := ⟨_, rfl⟩
        obtain ⟨u4, hu4⟩ : ∃ u, w4.alloc (.cells #[.slice d1 d2 d3, .slice e1 e2 e3, .slice r1 r2 r3] 28) = u := ⟨_, rfl⟩
        have h34 : Below w3.heap.size w3 u4 := by rw [← hu4]; exact hb4.trans (hk4.mono hb4.size)
        have HB4 : Hid (Below w.heap.size w u4) := HB3.out.trans (h34.mono HB3.out.size)
        have HP4 : Hid (PtAt (K' + 1) u4 t (.slice f1 f2 f3) (.slice b1 b2 b3) (.slice p1 p2 p3)) := PtAt.below h34 _ _ _ _ _ HP3.out
        have HG4 : Hid (Blk u4 g #[.slice f1 f2 f3, .slice b1 b2 b3, .slice p1 p2 p3] 28) := HG3.out.below h34 HG3.out.lt
        have HQ4 : Hid (PtAt (K' + 1) u4 t (.slice d1 d2 d3) (.slice e1 e2 e3) (.slice r1 r2 r3)) := by
          have h8 := pt_ups (K' - 7) 8 (PtAt.below hk4 _ _ _ _ _ hpt)
          rw [show 8 + (K' - 7) = K' + 1 by omega, hu4] at h8
          exact h8
        have HR4 : Hid (Blk u4 g' #[.slice d1 d2 d3, .slice e1 e2 e3, .slice r1 r2 r3] 28) := by rw [← hu4, ← hg']; exact hQ
        unfold partV
        clear hans hpt hk4 hQ h34 hb4
        go_wp2_with fail
        refine (alive_any u4 (HM.out.keep HB4.out)).mono ?_
        rintro e w5 ⟨rfl, hb5⟩
        obtain ⟨g0, g1, g2⟩ := cells3 (HG4.out.below hb5 HG4.out.lt)
        obtain ⟨l0, l1, l2⟩ := cells3 (HR4.out.below hb5 HR4.out.lt)
        have hsm := same_all (K' + 1) t _ _ _ _ _ _ w5 (PtAt.below hb5 _ _ _ _ _ HP4.out) (PtAt.below hb5 _ _ _ _ _ HQ4.out)
        unfold partV at hsm
        have HB5 : Hid (Below w.heap.size w w5) := HB4.out.trans (hb5.mono HB4.out.size)
        clear hb5
        go_wp2_with fail
        refine hsm.mono ?_
        rintro e w6 ⟨rfl, hb6⟩
        clear hsm g0 g1 g2 l0 l1 l2
        have HB6 : Hid (Below w.heap.size w w6) := HB5.out.trans (hb6.mono HB5.out.size)
        clear hb6
        go_wp2
        go_ret
        exact ⟨rfl, HB6.out⟩
      · go_wp2_with fail
        refine (alive_any w3 (HM.out.keep HB3.out)).mono ?_
        rintro e w4 ⟨rfl, hb4⟩
        have HB4 : Hid (Below w.heap.size w w4) := HB3.out.trans (hb4.mono HB3.out.size)
        clear hb4
        go_wp2
        go_ret
        exact ⟨rfl, HB4.out⟩

set_option maxRecDepth 100000 in
theorem lifted (os : Os) (started : os.Started) (H : Type) (enc : TypeId × Value → H) :
    ReturnsInHanded {} Tryz.checked os 6 .any (fun w args => (Rows.partsBackSpec.pre enc Tryz.prog Tryz.f6 Rows.partsBackRow.domain false w args ∧ laidMetH Tryz.prog Rows.partsBackRow.laid w) ∧ sizedMet enc Tryz.prog Tryz.f6 (OpenSpec.ofChange Rows.partsBackSpec) false w args)
      (Rows.partsBackSpec.post enc Tryz.prog Tryz.f6 false true false false) := by
  refine step_both (C := Tryz.checked) (X := fun w _ => laidMetH Tryz.prog Rows.partsBackRow.laid w) (fun _ _ _ hh h => h.of_heap hh) own started (by kernel_rfl) Tryz.func6
    (ChangeSpec.witness_shaped (enc := enc) (C := Tryz.checked) (os := os) (X := fun w _ => laidMetH Tryz.prog Rows.partsBackRow.laid w) false (World.laidAll Tryz.prog os Rows.partsBackRow.laid) #[.agg #[.slice none 0 0, .slice none 0 0, .slice none 0 0]] 8 (World.laidAll_os _ _ _)
      (World.shaped_of_ZipB (by kernel_rfl) (by kernel_rfl)) (by kernel_rfl) (by kernel_rfl) (by kernel_rfl)
      (by rw [MakeChecks.laidMetH_plain _ _ _ (by kernel_rfl)]; exact laidMet_laidAll _ (by kernel_rfl) (by kernel_rfl))) ?_
  intro W base args ds gs before hval0 hW hcnd hsh hL
  have hval : ∀ (j : Nat) t v, Tryz.f6.params[j]? = some t → args[j]? = some v → Value.okWide Tryz.prog W .any base t v := hval0
  have hW' := hW
  obtain ⟨p, q, hA0, hV, rfl, hfz, hnd⟩ := hW
  have hA : DataW.TrodAll enc Tryz.prog W 0 (fun _ => true) true Tryz.f6.params.toList args.toList ds p := hA0
  rw [Tryz.params6] at hA hval
  obtain ⟨v0, vs0, d0, ds0, p0, q0, hargs, rfl, rfl, h0, r0⟩ := trodAll_cons hA
  obtain ⟨rfl, rfl, rfl⟩ := trodAll_nil r0
  obtain rfl : args = #[v0] := by cases args; simp_all
  obtain ⟨rfl, rfl⟩ := trodVars_none hV
  have k0 := h0
  have lt0 : ∀ x ∈ p0, x.block < W.heap.size := by obtain ⟨m, hm⟩ := k0; exact DataW.trod_lt m _ _ _ hm
  obtain ⟨x0, y0, z0, t0, K0, rfl, w0⟩ := part_arg (hval 0 28 v0 rfl rfl) h0
  clear hA0 hval0
  refine (walk x0 y0 z0 t0 K0 W w0 (laysM185.s1_3 W hsh)).mono fun e W' ⟨he, bel⟩ => ?_
  subst he
  exact ⟨_, rfl, _, _, _, [], _, [], hW', trodAll_mk1 (shut_bool Tryz.underlying4 _), (trodAll_cons_mk (Below.trod laidOut (by kernel_rfl) (of_decide_eq_true (by kernel_rfl)) k0 bel lt0) trodAll_mk0), rfl, bel.frame _, fun h => by cases h⟩

theorem over : Rows.PartsBackSaid :=
  OpenClaim.holds_of_wide 6 Tryz.f6 rfl rfl rfl rfl rfl rfl rfl ⟨rfl, rfl, rfl, rfl, rfl⟩ rfl rfl rfl rfl rfl (by kernel_rfl) Tryz.func6 (by kernel_rfl)
    (of_decide_eq_true (by kernel_rfl)) (by unfold Func.isWrapper; first | (rw [if_pos (by decide +kernel)]; kernel_rfl) | (rw [if_neg (by decide +kernel)]; exact ⟨rfl, rfl⟩))
    (fun os started H enc _ => lifted os started H enc)
end Go.Proofs.YtmdkmedlncfcbaaGreatDoor.partsBack
namespace Go.Proofs.YtmdkmedlncfcbaaGreatDoor
theorem partsBack_card : Rows.PartsBackCardSaid :=
  Claim7.holds_tied_plain_at .later [] _ _ _ _ partsBack.over (fun _ h => by cases h) (by kernel_rfl) (fun _ h => by cases h) partsBack_row_tie rfl ⟨rfl, rfl⟩ (by kernel_rfl) rfl
    (fun f fn hf hfn => by
      obtain rfl : f = 6 := Option.some.inj ((show Tryz.prog.funcNamed Rows.partsBackRow.func = some 6 by kernel_rfl).symm.trans hf) |>.symm
      obtain rfl : fn = Tryz.f6 := (Option.some.inj (Tryz.func6.symm.trans hfn)).symm
      exact ⟨by kernel_rfl, fun j t ht => by
        rw [Tryz.params6] at ht
        have hm : t ∈ [28] := by simpa using Array.mem_of_getElem? ht
        have hall : ([28].all fun u => !Tryz.prog.wantsStandIn u) = true := by kernel_rfl
        exact (show Tryz.prog.wantsStandIn t = false by simpa using List.all_eq_true.1 hall t hm)⟩)
    (by kernel_rfl)
#print axioms partsBack_card
end Go.Proofs.YtmdkmedlncfcbaaGreatDoor
