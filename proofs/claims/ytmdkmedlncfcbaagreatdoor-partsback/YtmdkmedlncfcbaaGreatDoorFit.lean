/-
  The iterator over a field's lines: its contract.
-/
import Derived.Test.YtmdkmedlncfcbaaGreatDoorFold
import Derived.Test.YtmdkmedlncfcbaaGreatDoorIter
namespace Go.Proofs.YtmdkmedlncfcbaaGreatDoor
open Go.RowKit
set_option linter.unusedVariables false
attribute [local go_sem] Oper.semAt_some

theorem nums_append (s t : ByteArray) : nums (s ++ t) = nums s ++ nums t := by
  rw [← str_nums s, ← str_nums t, str_append, nums_str ((nums_byt s).append (nums_byt t)), nums_str (nums_byt s), nums_str (nums_byt t)]
theorem size_append (s t : ByteArray) : (s ++ t).size = s.size + t.size := by
  rw [← nums_len, nums_append, List.length_append, nums_len, nums_len]
/-- The lines that a line is folded to. -/
def foldLN : Nat → Nat → List Int → List (List Int)
  | 0, _, l => [l]
  | n + 1, first, l =>
    match foldZ first l with
    | none => [l]
    | some k => if 0 < k ∧ k < l.length then l.take k :: foldLN n 0 (l.drop k) else [l]
def foldL (first : Nat) (l : List Int) : List (List Int) := foldLN (l.length + 1) first l
theorem foldLN_enough : ∀ (n m first : Nat) (l : List Int), l.length < n → l.length < m → foldLN n first l = foldLN m first l
  | 0, _, _, _, h, _ => by omega
  | n + 1, 0, _, _, _, h => by omega
  | n + 1, m + 1, first, l, h1, h2 => by
    rw [foldLN, foldLN]
    cases foldZ first l with
    | none => rfl
    | some k =>
      simp only
      by_cases hk : 0 < k ∧ k < l.length
      · rw [if_pos hk, if_pos hk, foldLN_enough n m _ _ (by simp only [List.length_drop]; omega) (by simp only [List.length_drop]; omega)]
      · rw [if_neg hk, if_neg hk]
theorem foldL_none {first : Nat} {l : List Int} (h : foldZ first l = none) : foldL first l = [l] := by unfold foldL; rw [foldLN, h]
theorem foldL_some {first k : Nat} {l : List Int} (hf : first ≤ 76) (h : foldZ first l = some k) : foldL first l = l.take k :: foldL 0 (l.drop k) := by
  have := foldZ_some hf h
  unfold foldL
  rw [foldLN, h]
  simp only
  rw [if_pos ⟨by omega, this.2.1⟩, foldLN_enough l.length _ _ _ (by simp only [List.length_drop]; omega) (Nat.lt_succ_self _)]
theorem foldL_len : ∀ (n : Nat) (first : Nat) (l : List Int), l.length ≤ n → first ≤ 76 → (foldL first l).length ≤ l.length + 1
  | n, first, l, hn, hf => by
    cases h : foldZ first l with
    | none => rw [foldL_none h]; simp
    | some k =>
      have hk := foldZ_some hf h
      rw [foldL_some hf h]
      cases n with
      | zero => omega
      | succ n =>
        have := foldL_len n 0 (l.drop k) (by simp; omega) (by omega)
        simp only [List.length_cons, List.length_drop] at this ⊢
        omega
/-- A field as one line. -/
def fieldL (nm vl : List Int) : List Int := nm ++ [58] ++ (if vl = [] then [] else 32 :: vl)
/-- A piece of text. -/
abbrev Pt := { s : ByteArray // s.size ≤ 10000 }
def szOf (v : Value) : Nat := match v with | .string t => t.size | _ => 0

set_option maxRecDepth 100000 in
set_option maxHeartbeats 4000000 in
theorem folded1_in (n : Nat) (hn : 1 ≤ n) (lp Bn : Nat) (nm vl : ByteArray) (hnm : nm.size ≤ 64) (hvl : vl.size ≤ 4096)
    (J Jx : List Pt → World → Prop) (W : World)
    (hY : ∀ pre x W, J pre W → pre.length < (foldL (nm.size + 2) (fieldL (nums nm) (nums vl))).length → YieldAt Fence.wide (n - 1) Tryz.prog lp #[.string x.1] W fun e W' =>
      (e = .returned (.bool true) ∧ J (pre ++ [x]) W' ∧ True) ∨ (e = .returned (.bool false) ∧ Jx (pre ++ [x]) W'))
    (hc0 : W.cell? ⟨Bn, 0, none⟩ = some (.string nm)) (hc1 : W.cell? ⟨Bn, 1, none⟩ = some (.string vl)) (h0 : J [] W) :
    CallsIn Fence.wide n Tryz.prog 121 #[.func (.yield lp) #[] #[], .pointer (some ⟨Bn, 0, none⟩)] W fun e W' => (∃ v, e = .returned v) ∧
      ((∃ ys, ys.map (fun x : Pt => nums x.1) = foldL (nm.size + 2) (fieldL (nums nm) (nums vl)) ∧ J ys W') ∨ (∃ pre, pre.map (fun x : Pt => nums x.1) <+: foldL (nm.size + 2) (fieldL (nums nm) (nums vl)) ∧ Jx pre W')) := by
  obtain ⟨FL, hFL⟩ : ∃ FL, foldL (nm.size + 2) (fieldL (nums nm) (nums vl)) = FL := ⟨_, rfl⟩
  have HFL : Hid (foldL (nm.size + 2) (fieldL (nums nm) (nums vl)) = FL) := hFL
  rw [hFL] at hY ⊢
  clear hFL
  have HY : Hid (∀ pre x W, J pre W → pre.length < FL.length → YieldAt Fence.wide (n - 1) Tryz.prog lp #[.string x.1] W fun e W' =>
      (e = .returned (.bool true) ∧ J (pre ++ [x]) W' ∧ True) ∨ (e = .returned (.bool false) ∧ Jx (pre ++ [x]) W')) := hY
  clear hY
  refine callsIn_of_wp Tryz.func121 rfl trivial ?_ rfl
  simp only [Tryz.ntmps121, List.size_toArray, List.length_cons, List.length_nil, Nat.reduceAdd, Nat.reduceSub, Array.replicate_succ, Array.replicate_zero, List.push_toArray, List.append_toArray, List.nil_append, List.cons_append]
  by_cases hv : vl.toList = []
  · have hq : (vl.toList == ([] : List UInt8)) = true := by simp [hv]
    have hvn : nums vl = [] := by rw [nums, ← ByteArray.toList_eq, hv]; rfl
    obtain ⟨t0, ht0⟩ : ∃ t0, nm ++ (⟨#[58]⟩ : ByteArray) = t0 := ⟨_, rfl⟩
    have HT0 : Hid (nums t0 = fieldL (nums nm) (nums vl) ∧ t0.size ≤ 10000) := by
      rw [← ht0]
      refine ⟨?_, ?_⟩
      · rw [nums_append, hvn]; simp [fieldL]; rfl
      · rw [size_append]; have : (⟨#[58]⟩ : ByteArray).size = 1 := rfl; omega
    clear hvn
    gi_wp2
    clear ht0
    gi_loopw [3, 4] (fun v u wr => ∃ (t : ByteArray) (first : Nat) (pre : List Pt), v = .string t ∧ u = .int .i64 first ∧ first ≤ 76 ∧ t.size ≤ 10000 ∧ FL = pre.map (fun x : Pt => nums x.1) ++ foldL first (nums t) ∧ J pre wr) (fun v _ _ => szOf v)
    case atStart => exact ⟨t0, nm.size + 2, [], rfl, by go_num, by omega, HT0.out.2, by rw [HT0.out.1]; simpa using HFL.out.symm, h0⟩
    case round =>
      obtain ⟨t, first, pre, rfl, rfl, hf, hts, hx, hJs⟩ := hrel
      have HX : Hid (FL = pre.map (fun x : Pt => nums x.1) ++ foldL first (nums t)) := hx
      have hfa := foldAt_any t first wr (by omega) hf
      clear hx
      cases hz : foldZ first (nums t) with
      | none =>
        rw [hz] at hfa
        have HE : Hid (FL = pre.map (fun x : Pt => nums x.1) ++ [nums t]) := by unfold Hid; rw [HX.out, foldL_none hz]
        clear hz
        gi_wp2_with fail
        refine ⟨trivial, (callsIn_wide.2 hfa).mono ?_⟩
        clear hfa
        rintro e w1 ⟨⟨at', rfl, _⟩, rfl⟩
        obtain ⟨fn, tmps, assign, body, hy, hRd⟩ := HY.out pre ⟨t, hts⟩ wr hJs (by rw [HE.out]; simp)
        simp only at hy
        gi_wp2
        refine hRd.mono ?_
        rintro e W3 (⟨rfl, hJ3, _⟩ | ⟨rfl, hJx3⟩)
        · clear hy hRd
          gi_wp2
          refine bodyPost_ret (results_none rfl _ _ _) rfl ?_
          exact ⟨⟨_, rfl⟩, .inl ⟨pre ++ [⟨t, hts⟩], by rw [HE.out]; simp, hJ3⟩⟩
        · clear hy hRd
          gi_wp2
          refine bodyPost_ret (results_none rfl _ _ _) rfl ?_
          exact ⟨⟨_, rfl⟩, .inr ⟨pre ++ [⟨t, hts⟩], ⟨[], by rw [HE.out]; simp⟩, hJx3⟩⟩
      | some k =>
        rw [hz] at hfa
        obtain ⟨k1, k2, _⟩ := foldZ_some hf hz
        rw [nums_len] at k2
        have HE : Hid (FL = pre.map (fun x : Pt => nums x.1) ++ (nums t).take k :: foldL 0 ((nums t).drop k)) := by unfold Hid; rw [HX.out, foldL_some hf hz]
        clear hz
        have hz1 : (t.extract 0 k).size ≤ 10000 := by rw [← nums_len, nums_to, List.length_take, nums_len]; omega
        have hz2 : (t.extract k t.size).size = t.size - k := by rw [← nums_len, nums_from, List.length_drop, nums_len]
        gi_wp2_with fail
        refine ⟨trivial, (callsIn_wide.2 hfa).mono ?_⟩
        clear hfa
        rintro e w1 ⟨⟨at', rfl, hat⟩, rfl⟩
        obtain rfl : at' = (k : Int) := hat k rfl
        clear hat
        obtain ⟨fn, tmps, assign, body, hy, hRd⟩ := HY.out pre ⟨t.extract 0 k, hz1⟩ wr hJs (by rw [HE.out]; simp)
        simp only at hy
        gi_wp2
        refine hRd.mono ?_
        rintro e W3 (⟨rfl, hJ3, _⟩ | ⟨rfl, hJx3⟩)
        · clear hy hRd
          gi_wp2
          go_roundw
          case rel => exact ⟨t.extract k t.size, 0, pre ++ [⟨t.extract 0 k, hz1⟩], rfl, rfl, by omega, by omega, by rw [HE.out, nums_from]; simp [nums_to], hJ3⟩
          case measure => simp only [szOf]; omega
        · clear hy hRd
          gi_wp2
          refine bodyPost_ret (results_none rfl _ _ _) rfl ?_
          exact ⟨⟨_, rfl⟩, .inr ⟨pre ++ [⟨t.extract 0 k, hz1⟩], ⟨foldL 0 ((nums t).drop k), by rw [HE.out]; simp [nums_to]⟩, hJx3⟩⟩
  · have hq : (vl.toList == ([] : List UInt8)) = false := by simp [hv]
    have hvn : nums vl ≠ [] := by
      intro h
      rw [nums, ← ByteArray.toList_eq] at h
      exact hv (List.map_eq_nil_iff.1 h)
    obtain ⟨t0, ht0⟩ : ∃ t0, (nm ++ (⟨#[58]⟩ : ByteArray)) ++ ((⟨#[32]⟩ : ByteArray) ++ vl) = t0 := ⟨_, rfl⟩
    have HT0 : Hid (nums t0 = fieldL (nums nm) (nums vl) ∧ t0.size ≤ 10000) := by
      rw [← ht0]
      refine ⟨?_, ?_⟩
      · rw [nums_append, nums_append, nums_append, fieldL, if_neg hvn]; rfl
      · rw [size_append, size_append, size_append]; have h1 : (⟨#[58]⟩ : ByteArray).size = 1 := rfl; have h2 : (⟨#[32]⟩ : ByteArray).size = 1 := rfl; omega
    clear hvn
    gi_wp2
    clear ht0
    gi_loopw [3, 4] (fun v u wr => ∃ (t : ByteArray) (first : Nat) (pre : List Pt), v = .string t ∧ u = .int .i64 first ∧ first ≤ 76 ∧ t.size ≤ 10000 ∧ FL = pre.map (fun x : Pt => nums x.1) ++ foldL first (nums t) ∧ J pre wr) (fun v _ _ => szOf v)
    case atStart => exact ⟨t0, nm.size + 2, [], rfl, by go_num, by omega, HT0.out.2, by rw [HT0.out.1]; simpa using HFL.out.symm, h0⟩
    case round =>
      obtain ⟨t, first, pre, rfl, rfl, hf, hts, hx, hJs⟩ := hrel
      have HX : Hid (FL = pre.map (fun x : Pt => nums x.1) ++ foldL first (nums t)) := hx
      have hfa := foldAt_any t first wr (by omega) hf
      clear hx
      cases hz : foldZ first (nums t) with
      | none =>
        rw [hz] at hfa
        have HE : Hid (FL = pre.map (fun x : Pt => nums x.1) ++ [nums t]) := by unfold Hid; rw [HX.out, foldL_none hz]
        clear hz
        gi_wp2_with fail
        refine ⟨trivial, (callsIn_wide.2 hfa).mono ?_⟩
        clear hfa
        rintro e w1 ⟨⟨at', rfl, _⟩, rfl⟩
        obtain ⟨fn, tmps, assign, body, hy, hRd⟩ := HY.out pre ⟨t, hts⟩ wr hJs (by rw [HE.out]; simp)
        simp only at hy
        gi_wp2
        refine hRd.mono ?_
        rintro e W3 (⟨rfl, hJ3, _⟩ | ⟨rfl, hJx3⟩)
        · clear hy hRd
          gi_wp2
          refine bodyPost_ret (results_none rfl _ _ _) rfl ?_
          exact ⟨⟨_, rfl⟩, .inl ⟨pre ++ [⟨t, hts⟩], by rw [HE.out]; simp, hJ3⟩⟩
        · clear hy hRd
          gi_wp2
          refine bodyPost_ret (results_none rfl _ _ _) rfl ?_
          exact ⟨⟨_, rfl⟩, .inr ⟨pre ++ [⟨t, hts⟩], ⟨[], by rw [HE.out]; simp⟩, hJx3⟩⟩
      | some k =>
        rw [hz] at hfa
        obtain ⟨k1, k2, _⟩ := foldZ_some hf hz
        rw [nums_len] at k2
        have HE : Hid (FL = pre.map (fun x : Pt => nums x.1) ++ (nums t).take k :: foldL 0 ((nums t).drop k)) := by unfold Hid; rw [HX.out, foldL_some hf hz]
        clear hz
        have hz1 : (t.extract 0 k).size ≤ 10000 := by rw [← nums_len, nums_to, List.length_take, nums_len]; omega
        have hz2 : (t.extract k t.size).size = t.size - k := by rw [← nums_len, nums_from, List.length_drop, nums_len]
        gi_wp2_with fail
        refine ⟨trivial, (callsIn_wide.2 hfa).mono ?_⟩
        clear hfa
        rintro e w1 ⟨⟨at', rfl, hat⟩, rfl⟩
        obtain rfl : at' = (k : Int) := hat k rfl
        clear hat
        obtain ⟨fn, tmps, assign, body, hy, hRd⟩ := HY.out pre ⟨t.extract 0 k, hz1⟩ wr hJs (by rw [HE.out]; simp)
        simp only at hy
        gi_wp2
        refine hRd.mono ?_
        rintro e W3 (⟨rfl, hJ3, _⟩ | ⟨rfl, hJx3⟩)
        · clear hy hRd
          gi_wp2
          go_roundw
          case rel => exact ⟨t.extract k t.size, 0, pre ++ [⟨t.extract 0 k, hz1⟩], rfl, rfl, by omega, by omega, by rw [HE.out, nums_from]; simp [nums_to], hJ3⟩
          case measure => simp only [szOf]; omega
        · clear hy hRd
          gi_wp2
          refine bodyPost_ret (results_none rfl _ _ _) rfl ?_
          exact ⟨⟨_, rfl⟩, .inr ⟨pre ++ [⟨t.extract 0 k, hz1⟩], ⟨foldL 0 ((nums t).drop k), by rw [HE.out]; simp [nums_to]⟩, hJx3⟩⟩

set_option maxHeartbeats 1000000 in
theorem folded_in (n : Nat) (nm vl : ByteArray) (w : World) :
    CallsIn Fence.wide n Tryz.prog 74 #[.agg #[.string nm, .string vl]] w fun e w' => e = .returned (.func (.func 121) #[] #[.pointer (some ⟨w.heap.size, 0, none⟩)]) ∧ w' = w.alloc (.cells #[.string nm, .string vl] 50) := by
  refine callsIn_of_wp Tryz.func74 rfl trivial ?_ rfl
  simp only [Tryz.ntmps74, List.size_toArray, List.length_cons, List.length_nil, Nat.reduceAdd, Nat.reduceSub, Array.replicate_succ, Array.replicate_zero, List.push_toArray, List.append_toArray, List.nil_append, List.cons_append]
  gi_wp2
  go_ret
  exact ⟨rfl, rfl⟩
theorem folded_stops (n : Nat) (hn : 1 ≤ n) (Bn : Nat) (nm vl : ByteArray) (hnm : nm.size ≤ 64) (hvl : vl.size ≤ 4096) (w : World) (hc0 : w.cell? ⟨Bn, 0, none⟩ = some (.string nm)) (hc1 : w.cell? ⟨Bn, 1, none⟩ = some (.string vl)) :
    SeqStopsK Fence.wide n Tryz.prog 121 #[.pointer (some ⟨Bn, 0, none⟩)] (fun x : Pt => #[.string x.1]) (fun _ _ => True) (fun ys => ys.map (fun x : Pt => nums x.1) = foldL (nm.size + 2) (fieldL (nums nm) (nums vl))) (fun pre => pre.map (fun x : Pt => nums x.1) <+: foldL (nm.size + 2) (fieldL (nums nm) (nums vl))) (foldL (nm.size + 2) (fieldL (nums nm) (nums vl))).length w := fun l J Jx W hW _ _ hY h0 =>
  folded1_in n hn l Bn nm vl hnm hvl J Jx W hY ((hW.cell (p := ⟨Bn, 0, none⟩) (World.block_lt_of_cell? w _ hc0)).trans hc0) ((hW.cell (p := ⟨Bn, 1, none⟩) (World.block_lt_of_cell? w _ hc1)).trans hc1) h0
end Go.Proofs.YtmdkmedlncfcbaaGreatDoor
