/-
  The words behind a path, and the greatest SIZE among them: the contracts of words and sizeOf.
-/
import Derived.Test.YtbckbonffajmeaaGreatDoorSc
namespace Go.Proofs.YtbckbonffajmeaaGreatDoor
open Go.RowKit Go.Shelf
set_option linter.unusedVariables false
set_option linter.unusedSimpArgs false
attribute [local go_sem] Oper.semAt_some

def cutB (s : List UInt8) : List UInt8 × List UInt8 × Bool := Lib.cut s [32]
theorem cutB_len (s : List UInt8) : (cutB s).1.length ≤ s.length ∧ (cutB s).2.1.length ≤ s.length ∧ ((cutB s).2.2 = true → (cutB s).2.1.length + 1 ≤ s.length) := by
  unfold cutB Lib.cut
  split
  · rename_i h
    refine ⟨by simp; omega, by simp, fun _ => ?_⟩
    cases s with
    | nil => exact absurd h (by decide)
    | cons c s => simp only [List.length_drop, List.length_cons, List.length_nil]; omega
  · exact ⟨Nat.le_refl _, Nat.zero_le _, fun h => by cases h⟩
/-- The words of a text that is left. -/
def wordsF : Nat → List UInt8 → List (List UInt8)
  | 0, s => [(cutB s).1]
  | n + 1, s => (cutB s).1 :: (if (cutB s).2.2 = true then wordsF n (cutB s).2.1 else [])
def wordsB (n : Nat) (b : Bool) (s : List UInt8) : List (List UInt8) := if b = true then wordsF n s else []
def wordsZ (s : List UInt8) : List (List UInt8) := wordsB s.length (cutB s).2.2 (cutB s).2.1
def wordsV (l : List (List UInt8)) : List (Array Value) := l.map fun x => #[.string (strL x)]
theorem Tk.drewN (O : Nat → Prop) (V : World) (q : Nat) : Tk O V (V.drewN q) := ⟨rfl, rfl, rfl, Nat.le_refl _, fun _ _ _ => rfl⟩
theorem strL_list (l : List UInt8) : (strL l).data.toList = l := rfl
theorem list_strL (s : ByteArray) : strL s.data.toList = s := by cases s; simp [strL]
theorem strL_size (l : List UInt8) : (strL l).size = l.length := by simp [strL, ByteArray.size]
theorem words_any (s : ByteArray) (w : World) : Calls Tryz.prog 152 #[.string s] w fun e w' => e = .returned (.func (.func 172) #[] #[.pointer (some ⟨w.heap.size, 0, none⟩)]) ∧ w' = w.alloc (.cells #[.string s] 9) := by
  go_enter Tryz.func152, Tryz.ntmps152
  go_wp2
  go_ret
  exact ⟨rfl, rfl⟩
set_option maxRecDepth 100000 in
set_option maxHeartbeats 8000000 in
theorem words_iter (n : Nat) (hn : 1 ≤ n) (Bs : Nat) (s : ByteArray) (m : Int) (hs : s.size ≤ 100000) (W : World) :
    ItG n 172 [.pointer (some ⟨Bs, 0, none⟩)] (fun _ => False) (wordsV (wordsZ s.data.toList)) (fun V => V.cell? ⟨Bs, 0, none⟩ = some (.string s) ∧ V.cell? ⟨0, 0, none⟩ = some (.int .i64 m)) W := by
  intro lp J Jx hJ hJx hJG hY h0
  obtain ⟨c0, cm⟩ := hJG 0 W h0
  have HJ : Hid (∀ k V V', J k V → Tk (fun _ => False) V V' → J k V') := hJ
  have HJX : Hid (∀ V V', Jx V → Tk (fun _ => False) V V' → Jx V') := hJx
  have HJG : Hid (∀ k V, J k V → V.cell? ⟨Bs, 0, none⟩ = some (.string s) ∧ V.cell? ⟨0, 0, none⟩ = some (.int .i64 m)) := hJG
  have HY : Hid _ := hY
  have hct := strings_Cut s ⟨#[32]⟩ m W (by omega) cm
  change Calls _ _ _ _ (fun e w' => e = .returned (.tuple #[.string (strL (cutB s.data.toList).1), .string (strL (cutB s.data.toList).2.1), .bool (cutB s.data.toList).2.2]) ∧ ∃ n, w' = W.drewN n) at hct
  have hl0 := cutB_len s.data.toList
  have hsl : s.data.toList.length = s.size := Array.length_toList
  obtain ⟨x1, hx1⟩ : ∃ x, strL (cutB s.data.toList).1 = x := ⟨_, rfl⟩
  obtain ⟨x2, hx2⟩ : ∃ x, strL (cutB s.data.toList).2.1 = x := ⟨_, rfl⟩
  obtain ⟨cb, hcb⟩ : ∃ b, (cutB s.data.toList).2.2 = b := ⟨_, rfl⟩
  have hxz : x2.size ≤ s.size := by rw [← hx2, strL_size]; omega
  have HW0 : Hid (wordsZ s.data.toList = wordsB s.size cb x2.data.toList) := by unfold Hid wordsZ; rw [hcb, ← hx2, hsl]; rfl
  rw [hx1, hx2, hcb] at hct
  obtain ⟨XS, hXS⟩ : ∃ xs, wordsV (wordsZ s.data.toList) = xs := ⟨_, rfl⟩
  have HXS : Hid (wordsV (wordsB s.size cb x2.data.toList) = XS) := by unfold Hid; rw [← HW0.out, hXS]
  rw [hXS] at HY ⊢
  have HJ0 : Hid (J 0 W) := h0
  clear hJ hJx hJG hY hl0 hsl hx1 hx2 hcb hXS cm h0
  refine callsIn_of_wp Tryz.func172 rfl trivial ?_ rfl
  simp only [Tryz.ntmps172, List.size_toArray, List.length_cons, List.length_nil, Nat.reduceAdd, Nat.reduceSub, Array.replicate_succ, Array.replicate_zero, List.push_toArray, List.append_toArray, List.nil_append, List.cons_append]
  gi_wp2_with fail
  refine ⟨trivial, (callsIn_wide.2 hct).mono ?_⟩
  rintro e W1 ⟨rfl, q, rfl⟩
  have HJ1 : Hid (J 0 (W.drewN q)) := HJ.out _ _ _ HJ0.out (Tk.drewN _ _ _)
  clear hct c0
  gi_wp2
  gi_loopw [4, 5, 6] (fun t b _ wr => ∃ (k fuel : Nat) (x : ByteArray) (bb : Bool), t = .string x ∧ b = .bool bb ∧ J k wr ∧ k ≤ XS.length ∧ x.size ≤ fuel ∧ x.size ≤ s.size ∧ wordsV (wordsB fuel bb x.data.toList) = XS.drop k) (fun t b _ _ => (match t with | .string x => x.size | _ => 0) + (match b with | .bool true => 1 | _ => 0))
  case atStart => exact ⟨0, s.size, x2, cb, rfl, rfl, HJ1.out, Nat.zero_le _, hxz, hxz, HXS.out⟩
  case round =>
    obtain ⟨k, fuel, x, bb, rfl, rfl, hj, hkX, hfu, hxs, hq⟩ := hrel
    have HQ : Hid (wordsV (wordsB fuel bb x.data.toList) = XS.drop k) := hq
    have HJk : Hid (J k wr) := hj
    obtain ⟨_, cm⟩ := HJG.out k wr hj
    clear hq hj
    cases bb with
    | false =>
      have hkl : XS.length ≤ k := by
        have := congrArg List.length HQ.out
        simp [wordsV, wordsB] at this
        omega
      obtain rfl : k = XS.length := by omega
      gi_wp2
      go_end0
      exact ⟨⟨_, rfl⟩, .inl HJk.out⟩
    | true =>
      have hct := strings_Cut x ⟨#[32]⟩ m wr (by omega) cm
      change Calls _ _ _ _ (fun e w' => e = .returned (.tuple #[.string (strL (cutB x.data.toList).1), .string (strL (cutB x.data.toList).2.1), .bool (cutB x.data.toList).2.2]) ∧ ∃ n, w' = wr.drewN n) at hct
      have hl := cutB_len x.data.toList
      have hsl : x.data.toList.length = x.size := Array.length_toList
      obtain ⟨y1, hy1⟩ : ∃ y, strL (cutB x.data.toList).1 = y := ⟨_, rfl⟩
      obtain ⟨y2, hy2⟩ : ∃ y, strL (cutB x.data.toList).2.1 = y := ⟨_, rfl⟩
      obtain ⟨yb, hyb⟩ : ∃ b, (cutB x.data.toList).2.2 = b := ⟨_, rfl⟩
      have hyz : y2.size ≤ x.size := by rw [← hy2, strL_size]; omega
      have hyz1 : yb = true → y2.size + 1 ≤ x.size := fun h => by rw [← hy2, strL_size]; have := hl.2.2 (hyb.trans h); omega
      have hP : wordsV (wordsB fuel true x.data.toList) = #[.string y1] :: wordsV (wordsB (fuel - 1) yb y2.data.toList) := by
        have e2 : y2.data.toList = (cutB x.data.toList).2.1 := by rw [← hy2]; rfl
        cases fuel with
        | zero =>
          have hyf : yb = false := by
            cases yb with
            | false => rfl
            | true => have := hyz1 rfl; omega
          subst hyf
          simp only [wordsB, wordsF, wordsV, if_true, List.map_cons, List.map_nil, hy1]
          rfl
        | succ f =>
          rw [e2]
          show wordsV (wordsF (f + 1) x.data.toList) = _
          rw [wordsF, hyb]
          unfold wordsV wordsB
          rw [List.map_cons, hy1]
          rfl
      have hpv : XS.drop k = #[.string y1] :: wordsV (wordsB (fuel - 1) yb y2.data.toList) := by rw [← HQ.out, hP]
      have hx : XS[k]? = some #[.string y1] := by rw [← List.head?_drop, hpv]; rfl
      have hklt : k < XS.length := (List.getElem?_eq_some_iff.1 hx).1
      have HD2 : Hid (wordsV (wordsB (fuel - 1) yb y2.data.toList) = XS.drop (k + 1)) := by unfold Hid; rw [← List.drop_drop, hpv]; rfl
      have HF : Hid (yb = true → y2.size ≤ fuel - 1) := fun h => by have := hyz1 h; omega
      have HJd : Hid (∀ q, J k (wr.drewN q)) := fun q => HJ.out _ _ _ HJk.out (Tk.drewN _ _ _)
      have HYY : Hid (∀ q, _) := fun q => HY.out k _ (wr.drewN q) hx (HJd.out q) (fun b hb => hb.elim)
      rw [hy1, hy2, hyb] at hct
      clear hP hpv hx hl hsl hy1 hy2 hyb cm
      gi_wp2_with fail
      refine ⟨trivial, (callsIn_wide.2 hct).mono ?_⟩
      rintro e W2 ⟨rfl, q, rfl⟩
      obtain ⟨fn, tmps, assign, body, hy, hRd⟩ := HYY.out q
      clear hct
      gi_wp2_with fail
      refine hRd.mono ?_
      rintro e W3 (⟨rfl, hJ3, _⟩ | ⟨rfl, hJx3, _⟩)
      · have HJ3 : Hid (J (k + 1) W3) := hJ3
        clear hy hRd hJ3
        gi_wp2
        go_roundw
        case rel =>
          cases yb with
          | true => exact ⟨k + 1, fuel - 1, y2, true, rfl, rfl, HJ3.out, by omega, HF.out rfl, by omega, HD2.out⟩
          | false => exact ⟨k + 1, y2.size, y2, false, rfl, rfl, HJ3.out, by omega, Nat.le_refl _, by omega, by rw [← HD2.out]; rfl⟩
        case measure =>
          cases yb with
          | true => have := hyz1 rfl; simp; omega
          | false => simp; omega
      · clear hy hRd
        gi_wp2
        refine bodyPost_ret (results_none rfl _ _ _) rfl ?_
        exact ⟨⟨_, rfl⟩, .inr hJx3⟩
end Go.Proofs.YtbckbonffajmeaaGreatDoor
