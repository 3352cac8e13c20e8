/-
  Pieces of a Value: the contracts of front and of Itoa below a hundred.
-/
import Derived.Test.YtfhgkkdbkbbpkaaDoorEa
import Derived.Test.YtfhgkkdbkbbpkaaDoorCUText
namespace Go.Proofs.YtfhgkkdbkbbpkaaDoor
open Go.RowKit
set_option linter.unusedVariables false
set_option linter.unusedSimpArgs false

def itoaZ (n : Nat) : List Int := if n < 10 then [48 + (n : Int)] else [48 + ((n / 10 : Nat) : Int), 48 + ((n % 10 : Nat) : Int)]
theorem small_lo : ∀ n : Fin 10, (⟨#[48, 49, 50, 51, 52, 53, 54, 55, 56, 57, 97, 98, 99, 100, 101, 102, 103, 104, 105, 106, 107, 108, 109, 110, 111, 112, 113, 114, 115, 116, 117, 118, 119, 120, 121, 122]⟩ : ByteArray).extract n.val (n.val + 1) = strOfNums (itoaZ n.val) := by decide +kernel
def hunS : ByteArray := ⟨((List.range 100).flatMap fun n => [(48 + n / 10).toUInt8, (48 + n % 10).toUInt8]).toArray⟩
theorem small_hi : ∀ n : Fin 100, 10 ≤ n.val → hunS.extract (n.val * 2) (n.val * 2 + 2) = strOfNums (itoaZ n.val) := by decide +kernel
set_option maxRecDepth 100000 in
set_option maxHeartbeats 4000000 in
theorem small_any2 (n : Nat) (w : World) (h : n < 100) : Calls Tryd.prog 102 #[.int .i64 n] w fun e w' => e = .returned (.string (strOfNums (itoaZ n))) ∧ w = w' := by
  by_cases h1 : n < 10
  · have hx := small_lo ⟨n, h1⟩
    simp only at hx
    obtain ⟨t, ht⟩ : ∃ t, strOfNums (itoaZ n) = t := ⟨_, rfl⟩
    rw [ht] at hx ⊢
    have d1 : decide ((n : Int) < 10) = true := decide_eq_true (by omega)
    have i1 : ((n : Int) + 1).toNat = n + 1 := by omega
    have i2 : (n : Int) + 1 ≤ 36 := by omega
    have i3 : (n : Int) ≤ (n : Int) + 1 := by omega
    go_enter Tryd.func102, Tryd.ntmps102
    go_wp2
    go_ret
    exact ⟨by rw [← hx] <;> rfl, rfl⟩
  · have hx := small_hi ⟨n, h⟩ (by simp only; omega)
    simp only at hx
    obtain ⟨t, ht⟩ : ∃ t, strOfNums (itoaZ n) = t := ⟨_, rfl⟩
    rw [ht] at hx ⊢
    have d1 : decide ((n : Int) < 10) = false := decide_eq_false (by omega)
    have i1 : ((n : Int) * 2).toNat = n * 2 := by omega
    have i2 : ((n : Int) * 2 + 2).toNat = n * 2 + 2 := by omega
    have i3 : (n : Int) * 2 + 2 ≤ 200 := by omega
    go_enter Tryd.func102, Tryd.ntmps102
    go_wp2
    go_ret
    exact ⟨by rw [← hx] <;> rfl, rfl⟩
theorem itoa_any (n : Nat) (w : World) (h : n < 100) : Calls Tryd.prog 45 #[.int .i64 n] w fun e w' => e = .returned (.string (strOfNums (itoaZ n))) ∧ w = w' := by
  have K : ∀ V, Calls Tryd.prog 66 #[.int .i64 n] V fun e w' => e = .returned (.string (strOfNums (itoaZ n))) ∧ V = w' := fun V => by
    have K2 : ∀ U, Calls Tryd.prog 85 #[.int .i64 n, .int .i64 10] U fun e w' => e = .returned (.string (strOfNums (itoaZ n))) ∧ U = w' := fun U => by
      have K3 := fun T : World => small_any2 n T h
      obtain ⟨t, ht⟩ : ∃ t, strOfNums (itoaZ n) = t := ⟨_, rfl⟩
      rw [ht] at K3 ⊢
      have d1 : decide ((0 : Int) ≤ (n : Int)) = true := decide_eq_true (by omega)
      have d2 : decide ((n : Int) < 100) = true := decide_eq_true (by omega)
      clear ht
      go_enter Tryd.func85, Tryd.ntmps85
      go_wp2_with (go_at_call 102; refine (K3 _).mono ?_; rintro e w' ⟨rfl, rfl⟩)
      go_ret
      exact ⟨rfl, rfl⟩
    obtain ⟨t, ht⟩ : ∃ t, strOfNums (itoaZ n) = t := ⟨_, rfl⟩
    rw [ht] at K2 ⊢
    clear ht
    go_enter Tryd.func66, Tryd.ntmps66
    go_wp2_with (go_at_call 85; refine (K2 _).mono ?_; rintro e w' ⟨rfl, rfl⟩)
    go_ret
    exact ⟨rfl, rfl⟩
  obtain ⟨t, ht⟩ : ∃ t, strOfNums (itoaZ n) = t := ⟨_, rfl⟩
  rw [ht] at K ⊢
  clear ht
  go_enter Tryd.func45, Tryd.ntmps45
  go_wp2_with (go_at_call 66; refine (K _).mono ?_; rintro e w' ⟨rfl, rfl⟩)
  go_ret
  exact ⟨rfl, rfl⟩
/-- How many points fit. -/
def fitN : Nat → List Int → Nat
  | _, [] => 0
  | r, p :: ps => if r < (codeL (Cs.Ut.encZ p)).length then 0 else fitN (r - (codeL (Cs.Ut.encZ p)).length) ps + 1
theorem enc_code (p : Int) : 1 ≤ (codeL (Cs.Ut.encZ p)).length ∧ (codeL (Cs.Ut.encZ p)).length ≤ 12 := by
  have h1 := Cs.Ut.enc_len p
  have h2 := codeL_len (Cs.Ut.encZ p)
  have h3 : ∀ l : List Int, l.length ≤ (codeL l).length := by
    intro l
    induction l with
    | nil => simp
    | cons c l ih =>
      have e : codeL (c :: l) = codeC c ++ codeL l := by simp [codeL]
      rw [e, List.length_append, List.length_cons]
      have : 1 ≤ (codeC c).length := by unfold codeC; split <;> simp
      omega
  have := h3 (Cs.Ut.encZ p)
  omega
theorem size_strM (l : List Int) : (strOfNums l).size = l.length := by
  show (List.map _ l).toArray.size = _
  simp
theorem codeL_app (l m : List Int) : codeL (l ++ m) = codeL l ++ codeL m := by simp [codeL]
set_option maxRecDepth 100000 in
set_option maxHeartbeats 8000000 in
theorem front_any (a : Option Addr) (len cap : Nat) (ps : List Int) (w : World) (hps : Cs.Ut.AllPt ps) (hlen : (Cs.Ut.flat ps).length = len) (hcap : len ≤ cap) (hm : cap ≤ maxLen) (hsmall : len ≤ 4000) (hrow : Row w a (Cs.Ut.flat ps)) :
    Calls Tryd.prog 44 #[.slice a len cap] w fun e w' => e = .returned (.int .i64 (Cs.Ut.flat (ps.take (fitN 45 ps))).length) ∧ Below w.heap.size w w' := by
  have hm' := hm
  unfold maxLen at hm'
  have HL : Hid ((Cs.Ut.flat ps).length = len) := hlen
  have HW : Hid (Row w a (Cs.Ut.flat ps)) := hrow
  have HPS : Hid (Cs.Ut.AllPt ps) := hps
  clear hlen hrow hps
  go_enter Tryd.func44, Tryd.ntmps44
  go_wp2
  go_loopw [3, 4] (fun i u wr => ∃ (qs rs : List Int) (k m : Nat), i = .int .i64 k ∧ u = .int .i64 m ∧ m ≤ 45 ∧ k ≤ len ∧ Hid (ps = qs ++ rs) ∧ Hid (k = (Cs.Ut.flat qs).length) ∧ Hid (fitN 45 ps = qs.length + fitN m rs) ∧ Hid (Below w.heap.size w wr)) (fun i _ _ => len - (intOf i).toNat)
  case atStart => exact ⟨[], ps, 0, 45, rfl, rfl, by omega, by omega, rfl, rfl, by unfold Hid; simp, Below.refl _ _⟩
  case round =>
    obtain ⟨qs, rs, k, m, rfl, rfl, hm45, hkl, HQ, HK, HF, HB⟩ := hrel
    have hsz := HB.out.size
    cases rs with
    | nil =>
      have hpq : ps = qs := by rw [HQ.out, List.append_nil]
      have hk2 : k = len := by rw [HK.out, ← HL.out, hpq]
      have HR : Hid ((Cs.Ut.flat (ps.take (fitN 45 ps))).length = k) := by
        unfold Hid
        rw [HF.out, fitN, List.take_of_length_le (by rw [hpq]; simp), HL.out, hk2]
      clear hpq HQ HK HF
      obtain rfl := hk2
      go_wp2
      go_ret
      exact ⟨by rw [HR.out] <;> rfl, HB.out⟩
    | cons p rs =>
      have hA : Cs.Ut.AllPt (p :: rs) := by have := HPS.out; rw [HQ.out] at this; exact this.right
      have hp4 := Cs.Ut.enc_len p
      have hc12 := enc_code p
      have hdr : (Cs.Ut.flat ps).drop k = Cs.Ut.flat (p :: rs) ++ [] := by
        rw [HQ.out, Cs.Ut.flat_append, HK.out, List.drop_left, List.append_nil]
      have hle : k + (Cs.Ut.encZ p).length ≤ len := by
        rw [HK.out, ← HL.out, HQ.out, Cs.Ut.flat_append, Cs.Ut.flat_cons]; simp
      have hr1 : Row wr (Option.map (fun x => x.add k) a) (Cs.Ut.flat (p :: rs) ++ []) := by
        have := row_drop (n := k) (cap := cap) (row_below HW.out HB.out) (by rw [HL.out]; omega)
        rw [if_neg (by omega), hdr] at this
        exact this
      have hln : (Cs.Ut.flat (p :: rs) ++ []).length = len - k := by rw [← hdr, List.length_drop, HL.out]
      have KN : Calls Tryd.prog 65 #[.slice (Option.map (fun x => x.add k) a) (len - k) (cap - k)] wr fun e w' => e = .returned (.tuple #[.int .i32 p, .int .i64 (Cs.Ut.encZ p).length, .int .i64 0]) ∧ wr = w' :=
        Cs.Ut.next_some _ _ _ _ p wr hln (by rw [List.append_nil]; exact Cs.Ut.flat_byt hA) (by omega) (by unfold maxLen; omega) hr1 (Cs.Ut.dec_flat hA)
      have KC : Calls Tryd.prog 15 #[.slice (Option.map (fun x => x.add k) a) (Cs.Ut.encZ p).length (cap - k)] wr fun e w' => e = .returned (.string (strOfNums (codeL (Cs.Ut.encZ p)))) ∧ Below wr.heap.size wr w' := by
        have hr2 := row_take (Cs.Ut.encZ p).length hr1
        rw [Cs.Ut.flat_cons, List.append_assoc, List.take_left] at hr2
        exact code_any _ _ _ (Cs.Ut.encZ p) wr rfl (Cs.Ut.enc_byte p hA.head) (by omega) (by omega) (by unfold maxLen; omega) hr2
      have hss := size_strM (codeL (Cs.Ut.encZ p))
      obtain ⟨t, ht⟩ : ∃ t, strOfNums (codeL (Cs.Ut.encZ p)) = t := ⟨_, rfl⟩
      rw [ht] at KC hss
      have HFP : Hid (fitN m (p :: rs) = if m < (codeL (Cs.Ut.encZ p)).length then 0 else fitN (m - (codeL (Cs.Ut.encZ p)).length) rs + 1) := rfl
      have HE : Hid (Cs.Ut.flat (qs ++ [p]) = Cs.Ut.flat qs ++ Cs.Ut.encZ p) := by unfold Hid; rw [Cs.Ut.flat_append, Cs.Ut.flat_cons, Cs.Ut.flat_nil, List.append_nil]
      obtain ⟨j, hj⟩ : ∃ j, (Cs.Ut.encZ p).length = j := ⟨_, rfl⟩
      obtain ⟨q, hq⟩ : ∃ q, (codeL (Cs.Ut.encZ p)).length = q := ⟨_, rfl⟩
      have HJ : Hid ((Cs.Ut.encZ p).length = j) := hj
      rw [hj] at KN KC hle hp4
      rw [hq] at hss hc12 HFP
      have x1 : (k : Int) < (len : Int) := by omega
      have x2 : ((k : Int) + (j : Int)).toNat = k + j := by omega
      have x3 : (k : Int) + (j : Int) ≤ (cap : Int) := by omega
      have x4 : k + j - k = j := by omega
      clear hj hq ht hr1 hdr hln hA
      go_wp2_with fail
      refine KN.mono ?_
      rintro e w1 ⟨rfl, rfl⟩
      go_wp2_with fail
      refine KC.mono ?_
      rintro e w2 ⟨rfl, hb2⟩
      have HB2 : Hid (Below w.heap.size w w2) := HB.out.trans (hb2.mono hsz)
      clear KN KC hb2
      by_cases hmq : m < q
      · have HR : Hid ((Cs.Ut.flat (ps.take (fitN 45 ps))).length = k) := by
          unfold Hid
          rw [HF.out, HFP.out, if_pos hmq, Nat.add_zero, HQ.out, List.take_left, ← HK.out]
        have x5 : decide ((m : Int) - (q : Int) < 0) = true := decide_eq_true (by omega)
        clear HQ HK HF HFP HE HJ
        go_wp2
        go_ret
        exact ⟨by rw [HR.out] <;> rfl, HB2.out⟩
      · have x5 : decide ((m : Int) - (q : Int) < 0) = false := decide_eq_false (by omega)
        have HF2 : Hid (fitN 45 ps = (qs ++ [p]).length + fitN (m - q) rs) := by
          unfold Hid
          rw [HF.out, HFP.out, if_neg hmq]; simp; omega
        have HQ2 : Hid (ps = (qs ++ [p]) ++ rs) := by unfold Hid; rw [HQ.out]; simp
        have HK2 : Hid (k + j = (Cs.Ut.flat (qs ++ [p])).length) := by unfold Hid; rw [HE.out, List.length_append, ← HK.out, HJ.out]
        clear HQ HK HF HFP HE HJ
        go_wp2
        go_roundw
        case rel => exact ⟨qs ++ [p], rs, k + j, m - q, by go_num, by go_num, by omega, by omega, HQ2, HK2, HF2, HB2⟩
        case measure => simp [intOf]; omega
end Go.Proofs.YtfhgkkdbkbbpkaaDoor
