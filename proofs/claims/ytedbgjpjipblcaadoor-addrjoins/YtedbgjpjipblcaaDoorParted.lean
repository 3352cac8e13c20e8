/-
  A range over parted: its contract, and the law of the statement.
-/
import Derived.Test.YtedbgjpjipblcaaDoorComma
namespace Go.Proofs.YtedbgjpjipblcaaDoor
open Go.RowKit Go.Shelf
set_option linter.unusedVariables false
attribute [local go_sem] Oper.semAt_some

/-- Pieces with a comma between. -/
def joinC : List (List Int) → List Int
  | [] => []
  | [p] => p
  | p :: q :: r => p ++ 44 :: joinC (q :: r)
def boolN : Value → Nat
  | .bool true => 1
  | _ => 0
set_option maxRecDepth 100000 in
set_option maxHeartbeats 4000000 in
theorem parted1_in (n : Nat) (hn : 1 ≤ n) (lp Bs : Nat) (s : ByteArray) (pcs : List (List Int)) (hs : s.size ≤ 1000000000) (hp : ∀ p ∈ pcs, Piece p) (hj : nums s = joinC pcs) (hne : ¬ s.size = 0) (J Jx : List ByteArray → World → Prop)
    (hJ1 : ∀ pre W v, J pre W → J pre (W.setCell ⟨Bs, 0, none⟩ (.string v)))
    (hY : ∀ (pre : List ByteArray) (x : ByteArray) W, x.size ≤ 1000000000 → J pre W → YieldAt Fence.wide (n - 1) Tryd.prog lp #[.string x] W fun e W' =>
      (e = .returned (.bool true) ∧ J (pre ++ [x]) W' ∧ W'.heap[Bs]? = W.heap[Bs]?) ∨ (e = .returned (.bool false) ∧ Jx (pre ++ [x]) W'))
    (W : World) (hS : Sx W Bs s) (h0 : J [] W) :
    CallsIn Fence.wide n Tryd.prog 55 #[.func (.yield lp) #[] #[], .pointer (some ⟨Bs, 0, none⟩)] W fun e W' => (∃ v, e = .returned v) ∧
      ((∃ ys : List ByteArray, ys.map nums = pcs ∧ J ys W') ∨ (∃ pre : List ByteArray, pre.map nums <+: pcs ∧ Jx pre W')) := by
  have c0 := hS.cell
  have he := empty_list s
  rw [decide_eq_false hne] at he
  have he2 : ¬ s.toList = [] := by simpa using he
  have hpn : pcs ≠ [] := by rintro rfl; exact hne (by rw [← nums_len, hj]; rfl)
  refine callsIn_of_wp Tryd.func55 rfl trivial ?_ rfl
  simp only [Tryd.ntmps55, List.size_toArray, List.length_cons, List.length_nil, Nat.reduceAdd, Nat.reduceSub, Array.replicate_succ, Array.replicate_zero, List.push_toArray, List.append_toArray, List.nil_append, List.cons_append]
  gi_wp2
  clear c0 he he2
  gi_loopw [3] (fun v wr => ∃ (t : ByteArray) (pre : List ByteArray) (qs : List (List Int)), t.size ≤ 1000000000 ∧ pcs = pre.map nums ++ qs ∧ nums t = joinC qs ∧ Sx wr Bs t ∧ J pre wr ∧ ((qs ≠ [] ∧ v = .bool true) ∨ (qs = [] ∧ v = .bool false))) (fun v wr => restLen wr Bs + boolN v)
  case atStart => exact ⟨s, [], pcs, hs, rfl, hj, hS, h0, .inl ⟨hpn, rfl⟩⟩
  case round =>
    obtain ⟨t, pre, qs, hts, hq, hjt, hst, hjj, hv⟩ := hrel
    have HQ : Hid (pcs = pre.map nums ++ qs) := hq
    have HST : Hid (Sx wr Bs t) := hst
    have HJ : Hid (J pre wr) := hjj
    have HL : Hid (restLen wr Bs = t.size) := restLen_of hst
    have HY : Hid _ := hY
    have c2 := hst.cell
    have f2 := hst.frozen
    clear hq hst hjj hS h0 hY hj hne hpn
    rcases hv with ⟨hqn, rfl⟩ | ⟨rfl, rfl⟩
    · cases qs with
      | nil => exact absurd rfl hqn
      | cons p qs =>
      have hpp : Piece p := hp p (by rw [HQ.out]; simp)
      clear hqn
      cases qs with
      | nil =>
        have hjt2 : nums t = p ++ [] := by rw [hjt]; simp [joinC]
        have hpl : p.length = t.size := by rw [← nums_len, hjt2]; simp
        have hcm := comma_any t p [] wr hts hpp (.inl rfl) hjt2
        rw [hpl] at hcm
        have HT : Hid (nums t = p) := by unfold Hid; rw [hjt2]; simp
        have hex : t.extract 0 t.size = t := by apply nums_inj; rw [nums_to, List.take_of_length_le (by rw [nums_len]; exact Nat.le_refl _)]
        have hex2 : t.extract t.size t.size = ByteArray.empty := by apply nums_inj; rw [nums_from, List.drop_of_length_le (by rw [nums_len]; exact Nat.le_refl _)]; rfl
        have hmin : min ((t.size : Int) + 1) (t.size : Int) = (t.size : Int) := by omega
        have k0 : (0 : Int) ≤ (t.size : Int) := by omega
        clear hpl hjt hjt2 hpp hp
        obtain ⟨fn, tmps, assign, body, hy, hRd⟩ := HY.out pre t wr hts HJ.out
        gi_wp2_with (refine ⟨trivial, ?_⟩; gi_at_call 56; refine (callsIn_wide.2 hcm).mono ?_; rintro e w' ⟨rfl, rfl⟩)
        refine hRd.mono ?_
        rintro e W3 (⟨rfl, hJ3, hk3⟩ | ⟨rfl, hJx3⟩)
        · have hst3 : Sx W3 Bs t := hk3.trans HST.out
          have HJ3 : Hid (J (pre ++ [t]) W3) := hJ3
          have HST4 : Hid (Sx (W3.setCell ⟨Bs, 0, none⟩ (.string ByteArray.empty)) Bs ByteArray.empty) := hst3.set _
          have g2 := hst3.cell
          have g3 := hst3.frozen
          clear hy hRd c2 f2 hk3 hst3 hJ3
          gi_wp2
          go_roundw
          case rel => exact ⟨ByteArray.empty, pre ++ [t], [], by decide, by rw [HQ.out, List.map_append, ← HT.out]; simp, rfl, HST4.out, hJ1 _ _ _ HJ3.out, .inr ⟨rfl, rfl⟩⟩
          case measure => rw [restLen_of HST4.out, HL.out]; simp [boolN]; first | done | omega | (have : (ByteArray.empty).size = 0 := rfl; omega)
        · clear hy hRd
          gi_wp2
          refine bodyPost_ret (results_none rfl _ _ _) rfl ?_
          exact ⟨⟨_, rfl⟩, .inr ⟨pre ++ [t], ⟨[], by rw [HQ.out, List.map_append, ← HT.out]; simp⟩, hJx3⟩⟩
      | cons q qs =>
        have hjt2 : nums t = p ++ 44 :: joinC (q :: qs) := hjt
        have hcm := comma_any t p (44 :: joinC (q :: qs)) wr hts hpp (.inr ⟨_, rfl⟩) hjt2
        have hlt : p.length < t.size := by rw [← nums_len, hjt2]; simp
        obtain ⟨k, hk⟩ : ∃ k, p.length = k := ⟨_, rfl⟩
        have HT : Hid (nums (t.extract 0 k) = p) := by unfold Hid; rw [nums_to, hjt2, ← hk, List.take_left]
        have HT2 : Hid (nums (t.extract (k + 1) t.size) = joinC (q :: qs)) := by
          unfold Hid; rw [nums_from, hjt2, ← hk, show p ++ 44 :: joinC (q :: qs) = (p ++ [44]) ++ joinC (q :: qs) by simp, show p.length + 1 = (p ++ [44]).length by simp, List.drop_left]
        rw [hk] at hcm hlt
        have z1 : (t.extract 0 k).size ≤ 1000000000 := by rw [← nums_len, nums_to, List.length_take, nums_len]; omega
        have z2 : (t.extract (k + 1) t.size).size + (k + 1) = t.size := by rw [← nums_len, nums_from, List.length_drop, nums_len]; omega
        have hmin : min ((k : Int) + 1) (t.size : Int) = (k : Int) + 1 := by omega
        have k0 : (0 : Int) ≤ (k : Int) := by omega
        have k1 : (k : Int) ≤ (t.size : Int) := by omega
        have k2 : (k : Int) + 1 ≤ (t.size : Int) := by omega
        have k3 : (0 : Int) ≤ (k : Int) + 1 := by omega
        have k4 : ((k : Int) + 1).toNat = k + 1 := by omega
        have hd : decide ((k : Int) < (t.size : Int)) = true := decide_eq_true (by omega)
        clear hk hjt hjt2 hpp hp
        obtain ⟨fn, tmps, assign, body, hy, hRd⟩ := HY.out pre (t.extract 0 k) wr z1 HJ.out
        gi_wp2_with (refine ⟨trivial, ?_⟩; gi_at_call 56; refine (callsIn_wide.2 hcm).mono ?_; rintro e w' ⟨rfl, rfl⟩)
        refine hRd.mono ?_
        rintro e W3 (⟨rfl, hJ3, hk3⟩ | ⟨rfl, hJx3⟩)
        · have hst3 : Sx W3 Bs t := hk3.trans HST.out
          have HJ3 : Hid (J (pre ++ [t.extract 0 k]) W3) := hJ3
          have HST4 : Hid (Sx (W3.setCell ⟨Bs, 0, none⟩ (.string (t.extract (k + 1) t.size))) Bs (t.extract (k + 1) t.size)) := hst3.set _
          have g2 := hst3.cell
          have g3 := hst3.frozen
          clear hy hRd c2 f2 hk3 hst3 hJ3
          gi_wp2
          go_roundw
          case rel => exact ⟨_, pre ++ [t.extract 0 k], q :: qs, by omega, by rw [HQ.out, List.map_append, List.map_cons, HT.out]; simp, HT2.out, HST4.out, hJ1 _ _ _ HJ3.out, .inl ⟨by simp, rfl⟩⟩
          case measure => rw [restLen_of HST4.out, HL.out]; simp [boolN]; omega
        · clear hy hRd
          gi_wp2
          refine bodyPost_ret (results_none rfl _ _ _) rfl ?_
          exact ⟨⟨_, rfl⟩, .inr ⟨pre ++ [t.extract 0 k], ⟨q :: qs, by rw [HQ.out, List.map_append, List.map_cons, HT.out]; simp⟩, hJx3⟩⟩
    · gi_wp2
      go_end0
      exact ⟨⟨_, rfl⟩, .inl ⟨pre, by rw [HQ.out]; simp, HJ.out⟩⟩
end Go.Proofs.YtedbgjpjipblcaaDoor
