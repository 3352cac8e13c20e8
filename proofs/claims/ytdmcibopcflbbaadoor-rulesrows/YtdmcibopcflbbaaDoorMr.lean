/-
  Messages as they lie; which may be: the contract of event.Right.
-/
import Derived.Test.YtdmcibopcflbbaaDoorPe
namespace Go.Proofs.YtdmcibopcflbbaaDoor
open Go.RowKit
set_option linter.unusedVariables false

/-- A message as it comes. -/
structure Msg where
  (meth uid : ByteArray)
  (seq stamp recur : Int)
  (org : ByteArray)
  (a : Option Addr)
  (n c : Nat)
  (start fin : Int)
  (sum com : ByteArray)
def msgV (m : Msg) : Value := .agg #[.string m.meth, .string m.uid, .int .i64 m.seq, .int .i64 m.stamp, .int .i64 m.recur, .string m.org, .slice m.a m.n m.c, .int .i64 m.start, .int .i64 m.fin, .string m.sum, .string m.com]
def msgC (m : Msg) : Array Value := #[.string m.meth, .string m.uid, .int .i64 m.seq, .int .i64 m.stamp, .int .i64 m.recur, .string m.org, .slice m.a m.n m.c, .int .i64 m.start, .int .i64 m.fin, .string m.sum, .string m.com]
def MAt (w : World) (g : Nat) (m : Msg) : Prop := g < w.heap.size ∧ w.cell? ⟨g, 0, none⟩ = some (.string m.meth) ∧ w.cell? ⟨g, 1, none⟩ = some (.string m.uid) ∧ w.cell? ⟨g, 2, none⟩ = some (.int .i64 m.seq) ∧ w.cell? ⟨g, 3, none⟩ = some (.int .i64 m.stamp) ∧ w.cell? ⟨g, 4, none⟩ = some (.int .i64 m.recur) ∧ w.cell? ⟨g, 5, none⟩ = some (.string m.org) ∧ w.cell? ⟨g, 6, none⟩ = some (.slice m.a m.n m.c) ∧ w.cell? ⟨g, 7, none⟩ = some (.int .i64 m.start) ∧ w.cell? ⟨g, 8, none⟩ = some (.int .i64 m.fin) ∧ w.cell? ⟨g, 9, none⟩ = some (.string m.sum) ∧ w.cell? ⟨g, 10, none⟩ = some (.string m.com)
theorem MAt.below {w w' : World} {g : Nat} {m : Msg} (h : MAt w g m) (hb : Below w.heap.size w w') : MAt w' g m :=
  ⟨Nat.lt_of_lt_of_le h.1 hb.size, (hb.cell (p := ⟨g, 0, none⟩) h.1).trans h.2.1, (hb.cell (p := ⟨g, 1, none⟩) h.1).trans h.2.2.1, (hb.cell (p := ⟨g, 2, none⟩) h.1).trans h.2.2.2.1, (hb.cell (p := ⟨g, 3, none⟩) h.1).trans h.2.2.2.2.1, (hb.cell (p := ⟨g, 4, none⟩) h.1).trans h.2.2.2.2.2.1, (hb.cell (p := ⟨g, 5, none⟩) h.1).trans h.2.2.2.2.2.2.1, (hb.cell (p := ⟨g, 6, none⟩) h.1).trans h.2.2.2.2.2.2.2.1, (hb.cell (p := ⟨g, 7, none⟩) h.1).trans h.2.2.2.2.2.2.2.2.1, (hb.cell (p := ⟨g, 8, none⟩) h.1).trans h.2.2.2.2.2.2.2.2.2.1, (hb.cell (p := ⟨g, 9, none⟩) h.1).trans h.2.2.2.2.2.2.2.2.2.2.1, (hb.cell (p := ⟨g, 10, none⟩) h.1).trans h.2.2.2.2.2.2.2.2.2.2.2⟩
theorem mat_new (w : World) (m : Msg) : MAt (w.alloc (.cells #[.string m.meth, .string m.uid, .int .i64 m.seq, .int .i64 m.stamp, .int .i64 m.recur, .string m.org, .slice m.a m.n m.c, .int .i64 m.start, .int .i64 m.fin, .string m.sum, .string m.com] 24)) w.heap.size m :=
  ⟨by simp, by rw [World.cell?_alloc_mark]; rfl, by rw [World.cell?_alloc_mark]; rfl, by rw [World.cell?_alloc_mark]; rfl, by rw [World.cell?_alloc_mark]; rfl, by rw [World.cell?_alloc_mark]; rfl, by rw [World.cell?_alloc_mark]; rfl, by rw [World.cell?_alloc_mark]; rfl, by rw [World.cell?_alloc_mark]; rfl, by rw [World.cell?_alloc_mark]; rfl, by rw [World.cell?_alloc_mark]; rfl, by rw [World.cell?_alloc_mark]; rfl⟩
/-- What is so of a message's numbers and sizes. -/
def Num (x : Int) : Prop := -9223372036854775808 ≤ x ∧ x ≤ 9223372036854775807
structure MFit (m : Msg) (fs : List (ByteArray × ByteArray)) : Prop where
  l : fs.length = m.n
  f : ∀ f ∈ fs, f.1.size ≤ 100000000 ∧ f.2.size ≤ 100000000
  s0 : m.meth.size ≤ 140737488355328
  s1 : m.uid.size ≤ 100000000
  s5 : m.org.size ≤ 100000000
  s9 : m.sum.size ≤ 100000000
  s10 : m.com.size ≤ 100000000
  i2 : Num m.seq
  i3 : Num m.stamp
  i4 : Num m.recur
  i7 : Num m.start
  i8 : Num m.fin
def seqZ (x : Int) : Bool := decide (0 ≤ x) && decide (x ≤ 2147483647)
def orgZ (s : ByteArray) : Bool := decide (s.size = 0) || personZ (nums s)
def restM (m : Msg) (fs : List (ByteArray × ByteArray)) : Bool :=
  uidZ (nums m.uid) && (seqZ m.seq && (rightB m.stamp && (lackZ m.recur && (endsZ m.start m.fin && (orgZ m.org && (attsZ (numsP fs) && (textZ (nums m.sum) && textZ (nums m.com))))))))
def rightM (m : Msg) (fs : List (ByteArray × ByteArray)) : Bool := methZ (nums m.meth) && restM m fs
set_option maxHeartbeats 8000000 in
set_option maxRecDepth 100000 in
theorem mright_any (m : Msg) (fs : List (ByteArray × ByteArray)) (w : World) (hr : FRow w m.a fs) (hm : MFit m fs) :
    Calls Tryd.prog 23 #[msgV m] w fun e w' => e = .returned (.bool (rightM m fs)) ∧ Below w.heap.size w w' := by
  have HR : Hid (FRow w m.a fs) := hr
  have HM : Hid (MFit m fs) := hm
  clear hr hm
  unfold msgV
  go_enter Tryd.func23, Tryd.ntmps23
  go_wp2_with fail
  have HA : Hid (MAt (w.alloc (.cells #[.string m.meth, .string m.uid, .int .i64 m.seq, .int .i64 m.stamp, .int .i64 m.recur, .string m.org, .slice m.a m.n m.c, .int .i64 m.start, .int .i64 m.fin, .string m.sum, .string m.com] 24)) w.heap.size m) := mat_new w m
  have HB : Hid (Below w.heap.size w (w.alloc (.cells #[.string m.meth, .string m.uid, .int .i64 m.seq, .int .i64 m.stamp, .int .i64 m.recur, .string m.org, .slice m.a m.n m.c, .int .i64 m.start, .int .i64 m.fin, .string m.sum, .string m.com] 24))) := keep w _
  generalize w.alloc (.cells #[.string m.meth, .string m.uid, .int .i64 m.seq, .int .i64 m.stamp, .int .i64 m.recur, .string m.org, .slice m.a m.n m.c, .int .i64 m.start, .int .i64 m.fin, .string m.sum, .string m.com] 24) = V0 at HA HB ⊢
  refine (isMethod_any m.meth _ (by have := HM.out.s0; omega)).mono ?_
  rintro e w1 ⟨rfl, rfl⟩
  cases h0 : methZ (nums m.meth) with
  | false =>
    have HZ : Hid (rightM m fs = false) := by unfold Hid rightM restM; rw [h0]; rfl
    go_wp2
    go_ret
    exact ⟨ret_bool HZ.out.symm, HB.out⟩
  | true =>
    obtain ⟨_, _, K1, _, _, _, _, _, _, _, _, _⟩ := HA.out
    go_wp2_with fail
    clear K1
    refine (isUID_any m.uid _ (by have := HM.out.s1; omega)).mono ?_
    rintro e V2 ⟨rfl, hb⟩
    replace HA : Hid (MAt V2 w.heap.size m) := HA.out.below hb
    replace HB : Hid (Below w.heap.size w V2) := HB.out.trans (hb.mono HB.out.size)
    clear hb
    cases h1 : uidZ (nums m.uid) with
    | false =>
      have HZ : Hid (rightM m fs = false) := by unfold Hid rightM restM; rw [h0, h1]; rfl
      go_wp2
      go_ret
      exact ⟨ret_bool HZ.out.symm, HB.out⟩
    | true =>
      obtain ⟨_, _, _, K2, K3, _, _, _, _, _, _, _⟩ := HA.out
      have HS : Hid (seqZ m.seq = (decide (0 ≤ m.seq) && decide (m.seq ≤ 2147483647))) := rfl
      cases h2 : decide (0 ≤ m.seq) with
      | false =>
        have HZ : Hid (rightM m fs = false) := by unfold Hid rightM restM; rw [h0, h1, HS.out, h2]; rfl
        go_wp2
        go_ret
        exact ⟨ret_bool HZ.out.symm, HB.out⟩
      | true =>
        cases h3 : decide (m.seq ≤ 2147483647) with
        | false =>
          have HZ : Hid (rightM m fs = false) := by unfold Hid rightM restM; rw [h0, h1, HS.out, h2, h3]; rfl
          go_wp2
          go_ret
          exact ⟨ret_bool HZ.out.symm, HB.out⟩
        | true =>
          have hsq : seqZ m.seq = true := by rw [HS.out, h2, h3]; rfl
          go_wp2_with fail
          clear K2 K3
          refine (wright_any m.stamp _ HM.out.i3.1 HM.out.i3.2).mono ?_
          rintro e w1 ⟨rfl, rfl⟩
          cases h4 : rightB m.stamp with
          | false =>
            have HZ : Hid (rightM m fs = false) := by unfold Hid rightM restM; rw [h0, h1, hsq, h4]; rfl
            go_wp2
            go_ret
            exact ⟨ret_bool HZ.out.symm, HB.out⟩
          | true =>
            obtain ⟨_, _, _, _, _, K4, _, _, _, _, _, _⟩ := HA.out
            go_wp2_with fail
            clear K4
            refine (lack_any m.recur _ HM.out.i4.1 HM.out.i4.2).mono ?_
            rintro e w1 ⟨rfl, rfl⟩
            cases h5 : lackZ m.recur with
            | false =>
              have HZ : Hid (rightM m fs = false) := by unfold Hid rightM restM; rw [h0, h1, hsq, h4, h5]; rfl
              go_wp2
              go_ret
              exact ⟨ret_bool HZ.out.symm, HB.out⟩
            | true =>
              obtain ⟨_, _, _, _, _, _, _, _, K7, K8, _, _⟩ := HA.out
              go_wp2_with fail
              clear K7 K8
              refine (ends_any m.start m.fin _ HM.out.i7.1 HM.out.i7.2 HM.out.i8.1 HM.out.i8.2).mono ?_
              rintro e w1 ⟨rfl, rfl⟩
              cases h6 : endsZ m.start m.fin with
              | false =>
                have HZ : Hid (rightM m fs = false) := by unfold Hid rightM restM; rw [h0, h1, hsq, h4, h5, h6]; rfl
                go_wp2
                go_ret
                exact ⟨ret_bool HZ.out.symm, HB.out⟩
              | true =>
                obtain ⟨_, _, _, _, _, _, K5, K6, _, _, _, _⟩ := HA.out
                have HO : Hid (orgZ m.org = (decide (m.org.size = 0) || personZ (nums m.org))) := rfl
                have hemp := toList_emp m.org
                by_cases hor : m.org.size = 0
                · rw [decide_eq_true hor] at hemp
                  have h7 : orgZ m.org = true := by rw [HO.out, decide_eq_true hor]; rfl
                  clear hor
                  go_wp2_with fail
                  clear K5 K6 hemp
                  refine (atts_any m.a m.n m.c fs _ HM.out.l (HR.out.below HB.out) HM.out.f).mono ?_
                  rintro e V6 ⟨rfl, hb⟩
                  replace HA : Hid (MAt V6 w.heap.size m) := HA.out.below hb
                  replace HB : Hid (Below w.heap.size w V6) := HB.out.trans (hb.mono HB.out.size)
                  clear hb
                  obtain ⟨_, _, _, _, _, _, _, _, _, _, K9, _⟩ := HA.out
                  cases h8 : attsZ (numsP fs) with
                  | false =>
                    have HZ : Hid (rightM m fs = false) := by unfold Hid rightM restM; rw [h0, h1, hsq, h4, h5, h6, h7, h8]; rfl
                    go_wp2
                    go_ret
                    exact ⟨ret_bool HZ.out.symm, HB.out⟩
                  | true =>
                    go_wp2_with fail
                    clear K9
                    refine (isText_any m.sum _ (by have := HM.out.s9; omega)).mono ?_
                    rintro e V7 ⟨rfl, hb⟩
                    replace HA : Hid (MAt V7 w.heap.size m) := HA.out.below hb
                    replace HB : Hid (Below w.heap.size w V7) := HB.out.trans (hb.mono HB.out.size)
                    clear hb
                    cases h9 : textZ (nums m.sum) with
                    | false =>
                      have HZ : Hid (rightM m fs = false) := by unfold Hid rightM restM; rw [h0, h1, hsq, h4, h5, h6, h7, h8, h9]; rfl
                      go_wp2
                      go_ret
                      exact ⟨ret_bool HZ.out.symm, HB.out⟩
                    | true =>
                      obtain ⟨_, _, _, _, _, _, _, _, _, _, _, K10⟩ := HA.out
                      go_wp2_with fail
                      clear K10
                      refine (isText_any m.com _ (by have := HM.out.s10; omega)).mono ?_
                      rintro e V8 ⟨rfl, hb⟩
                      replace HA : Hid (MAt V8 w.heap.size m) := HA.out.below hb
                      replace HB : Hid (Below w.heap.size w V8) := HB.out.trans (hb.mono HB.out.size)
                      clear hb
                      have HZ : Hid (rightM m fs = textZ (nums m.com)) := by unfold Hid rightM restM; rw [h0, h1, hsq, h4, h5, h6, h7, h8, h9]; rfl
                      go_wp2
                      go_ret
                      exact ⟨ret_bool HZ.out.symm, HB.out⟩
                · rw [decide_eq_false hor] at hemp
                  go_wp2_with fail
                  clear K5 K6 hemp
                  refine (isPerson_any m.org _ HM.out.s5).mono ?_
                  rintro e V6 ⟨rfl, hb⟩
                  replace HA : Hid (MAt V6 w.heap.size m) := HA.out.below hb
                  replace HB : Hid (Below w.heap.size w V6) := HB.out.trans (hb.mono HB.out.size)
                  clear hb
                  have hoz : orgZ m.org = personZ (nums m.org) := by rw [HO.out, decide_eq_false hor]; rfl
                  clear hor
                  cases h7 : personZ (nums m.org) with
                  | false =>
                    have HZ : Hid (rightM m fs = false) := by unfold Hid rightM restM; rw [h0, h1, hsq, h4, h5, h6, hoz, h7]; rfl
                    go_wp2
                    go_ret
                    exact ⟨ret_bool HZ.out.symm, HB.out⟩
                  | true =>
                    obtain ⟨_, _, _, _, _, _, _, K6, _, _, _, _⟩ := HA.out
                    go_wp2_with fail
                    clear K6
                    refine (atts_any m.a m.n m.c fs _ HM.out.l (HR.out.below HB.out) HM.out.f).mono ?_
                    rintro e V7 ⟨rfl, hb⟩
                    replace HA : Hid (MAt V7 w.heap.size m) := HA.out.below hb
                    replace HB : Hid (Below w.heap.size w V7) := HB.out.trans (hb.mono HB.out.size)
                    clear hb
                    obtain ⟨_, _, _, _, _, _, _, _, _, _, K9, _⟩ := HA.out
                    cases h8 : attsZ (numsP fs) with
                    | false =>
                      have HZ : Hid (rightM m fs = false) := by unfold Hid rightM restM; rw [h0, h1, hsq, h4, h5, h6, hoz, h7, h8]; rfl
                      go_wp2
                      go_ret
                      exact ⟨ret_bool HZ.out.symm, HB.out⟩
                    | true =>
                      go_wp2_with fail
                      clear K9
                      refine (isText_any m.sum _ (by have := HM.out.s9; omega)).mono ?_
                      rintro e V8 ⟨rfl, hb⟩
                      replace HA : Hid (MAt V8 w.heap.size m) := HA.out.below hb
                      replace HB : Hid (Below w.heap.size w V8) := HB.out.trans (hb.mono HB.out.size)
                      clear hb
                      cases h9 : textZ (nums m.sum) with
                      | false =>
                        have HZ : Hid (rightM m fs = false) := by unfold Hid rightM restM; rw [h0, h1, hsq, h4, h5, h6, hoz, h7, h8, h9]; rfl
                        go_wp2
                        go_ret
                        exact ⟨ret_bool HZ.out.symm, HB.out⟩
                      | true =>
                        obtain ⟨_, _, _, _, _, _, _, _, _, _, _, K10⟩ := HA.out
                        go_wp2_with fail
                        clear K10
                        refine (isText_any m.com _ (by have := HM.out.s10; omega)).mono ?_
                        rintro e V9 ⟨rfl, hb⟩
                        replace HA : Hid (MAt V9 w.heap.size m) := HA.out.below hb
                        replace HB : Hid (Below w.heap.size w V9) := HB.out.trans (hb.mono HB.out.size)
                        clear hb
                        have HZ : Hid (rightM m fs = textZ (nums m.com)) := by unfold Hid rightM restM; rw [h0, h1, hsq, h4, h5, h6, hoz, h7, h8, h9]; rfl
                        go_wp2
                        go_ret
                        exact ⟨ret_bool HZ.out.symm, HB.out⟩
end Go.Proofs.YtdmcibopcflbbaaDoor
