/-
  What is wrong with a message, who may send it, which mark is newer: the contracts of Role, Check, Sender, Newer.
-/
import Derived.Test.YtdmcibopcflbbaaDoorRu
namespace Go.Proofs.YtdmcibopcflbbaaDoor
open Go.RowKit
set_option linter.unusedVariables false

def DAt (w : World) (g : Nat) (d : Dem) : Prop := g < w.heap.size ∧ w.cell? ⟨g, 0, none⟩ = some (.int .i64 d.role) ∧ w.cell? ⟨g, 1, none⟩ = some (.int .i64 d.least) ∧ w.cell? ⟨g, 2, none⟩ = some (.int .i64 d.most) ∧ w.cell? ⟨g, 3, none⟩ = some (.bool d.ans) ∧ w.cell? ⟨g, 4, none⟩ = some (.bool d.rc) ∧ w.cell? ⟨g, 5, none⟩ = some (.bool d.st) ∧ w.cell? ⟨g, 6, none⟩ = some (.bool d.nost)
theorem DAt.below {w w' : World} {g : Nat} {d : Dem} (h : DAt w g d) (hb : Below w.heap.size w w') : DAt w' g d :=
  ⟨Nat.lt_of_lt_of_le h.1 hb.size, (hb.cell (p := ⟨g, 0, none⟩) h.1).trans h.2.1, (hb.cell (p := ⟨g, 1, none⟩) h.1).trans h.2.2.1, (hb.cell (p := ⟨g, 2, none⟩) h.1).trans h.2.2.2.1, (hb.cell (p := ⟨g, 3, none⟩) h.1).trans h.2.2.2.2.1, (hb.cell (p := ⟨g, 4, none⟩) h.1).trans h.2.2.2.2.2.1, (hb.cell (p := ⟨g, 5, none⟩) h.1).trans h.2.2.2.2.2.2.1, (hb.cell (p := ⟨g, 6, none⟩) h.1).trans h.2.2.2.2.2.2.2⟩
theorem dat_new (w : World) (d : Dem) : DAt (w.alloc (.cells #[.int .i64 d.role, .int .i64 d.least, .int .i64 d.most, .bool d.ans, .bool d.rc, .bool d.st, .bool d.nost] 46)) w.heap.size d :=
  ⟨by simp, by rw [World.cell?_alloc_mark]; rfl, by rw [World.cell?_alloc_mark]; rfl, by rw [World.cell?_alloc_mark]; rfl, by rw [World.cell?_alloc_mark]; rfl, by rw [World.cell?_alloc_mark]; rfl, by rw [World.cell?_alloc_mark]; rfl, by rw [World.cell?_alloc_mark]; rfl⟩
def roleZ (t : List Int) : Int := (askZ t).role
set_option maxRecDepth 100000 in
theorem role_any (s : ByteArray) (w : World) : Calls Tryd.prog 15 #[.string s] w fun e w' => e = .returned (.int .i64 (roleZ (nums s))) ∧ Below w.heap.size w w' := by
  go_enter Tryd.func15, Tryd.ntmps15
  go_wp2_with fail
  refine (asked_any s _).mono ?_
  rintro e w1 ⟨rfl, hb⟩
  have HR : Hid (roleZ (nums s) = (askZ (nums s)).role) := rfl
  generalize askZ (nums s) = d at HR ⊢
  unfold demV
  have hfd : ∀ w : World, (Instr.field 46 (.agg #[.int .i64 d.role, .int .i64 d.least, .int .i64 d.most, .bool d.ans, .bool d.rc, .bool d.st, .bool d.nost]) 0).run Tryd.prog w = .ok (.int .i64 d.role) w := fun _ => by kernel_rfl
  go_wp2
  go_ret
  exact ⟨ret_int HR.out.symm, hb⟩
/-- Whether a list's first one gave no answer. -/
def firstZ : List (ByteArray × ByteArray) → Bool
  | [] => false
  | f :: _ => decide (nums f.2 = answN)
def checkD (d : Dem) (m : Msg) (fs : List (ByteArray × ByteArray)) : Int :=
  if rightM m fs = false then 120
  else if d.role = 0 then 130
  else if m.org.size = 0 then 131
  else if (m.n : Int) < d.least then 131
  else if d.most < (m.n : Int) then 132
  else if d.ans = true ∧ firstZ fs = true then 3
  else if d.rc = true ∧ m.recur = -1 then 131
  else if d.st = true ∧ m.start = -1 then 131
  else if d.nost = true ∧ m.start ≠ -1 then 132
  else 0
def checkZ (m : Msg) (fs : List (ByteArray × ByteArray)) : Int := checkD (askZ (nums m.meth)) m fs
theorem ask_ans (t : List Int) : (askZ t).ans = true → (askZ t).least = 1 := by
  unfold askZ
  repeat' (first | (split; try (intro h; first | rfl | cases h)) | (intro h; cases h))
set_option maxHeartbeats 8000000 in
set_option maxRecDepth 100000 in
theorem check_any (m : Msg) (fs : List (ByteArray × ByteArray)) (w : World) (hr : FRow w m.a fs) (hm : MFit m fs) :
    Calls Tryd.prog 13 #[msgV m] w fun e w' => e = .returned (.int .i64 (checkZ m fs)) ∧ Below w.heap.size w w' := by
  have HR : Hid (FRow w m.a fs) := hr
  have HM : Hid (MFit m fs) := hm
  clear hr hm
  have HQ : Hid (checkZ m fs = checkD (askZ (nums m.meth)) m fs) := rfl
  have HAN : Hid ((askZ (nums m.meth)).ans = true → (askZ (nums m.meth)).least = 1) := ask_ans _
  unfold msgV
  go_enter Tryd.func13, Tryd.ntmps13
  go_wp2_with fail
  have HA : Hid (MAt (w.alloc (.cells #[.string m.meth, .string m.uid, .int .i64 m.seq, .int .i64 m.stamp, .int .i64 m.recur, .string m.org, .slice m.a m.n m.c, .int .i64 m.start, .int .i64 m.fin, .string m.sum, .string m.com] 24)) w.heap.size m) := mat_new w m
  have HB : Hid (Below w.heap.size w (w.alloc (.cells #[.string m.meth, .string m.uid, .int .i64 m.seq, .int .i64 m.stamp, .int .i64 m.recur, .string m.org, .slice m.a m.n m.c, .int .i64 m.start, .int .i64 m.fin, .string m.sum, .string m.com] 24))) := keep w _
  generalize w.alloc (.cells #[.string m.meth, .string m.uid, .int .i64 m.seq, .int .i64 m.stamp, .int .i64 m.recur, .string m.org, .slice m.a m.n m.c, .int .i64 m.start, .int .i64 m.fin, .string m.sum, .string m.com] 24) = V0 at HA HB ⊢
  refine (asked_any m.meth _).mono ?_
  rintro e V1 ⟨rfl, hb⟩
  generalize askZ (nums m.meth) = d at HQ HAN ⊢
  unfold demV
  replace HA : Hid (MAt V1 w.heap.size m) := HA.out.below hb
  replace HB : Hid (Below w.heap.size w V1) := HB.out.trans (hb.mono HB.out.size)
  clear hb
  have hs1 := HB.out.size
  have HA2 : Hid (MAt (V1.alloc (.cells #[.int .i64 d.role, .int .i64 d.least, .int .i64 d.most, .bool d.ans, .bool d.rc, .bool d.st, .bool d.nost] 46)) w.heap.size m) := HA.out.below (keep V1 _)
  have HD : Hid (DAt (V1.alloc (.cells #[.int .i64 d.role, .int .i64 d.least, .int .i64 d.most, .bool d.ans, .bool d.rc, .bool d.st, .bool d.nost] 46)) V1.heap.size d) := dat_new V1 d
  have HB2 : Hid (Below w.heap.size w (V1.alloc (.cells #[.int .i64 d.role, .int .i64 d.least, .int .i64 d.most, .bool d.ans, .bool d.rc, .bool d.st, .bool d.nost] 46))) := HB.out.alloc hs1 _
  obtain ⟨_, K0, K1, K2, K3, K4, K5, K6, K7, K8, K9, K10⟩ := HA.out
  go_wp2_with fail
  clear K0 K1 K2 K3 K4 K5 K6 K7 K8 K9 K10
  generalize V1.alloc (.cells #[.int .i64 d.role, .int .i64 d.least, .int .i64 d.most, .bool d.ans, .bool d.rc, .bool d.st, .bool d.nost] 46) = V2 at HA2 HD HB2 ⊢
  have hcall := mright_any m fs V2 (HR.out.below HB2.out) HM.out
  unfold msgV at hcall
  refine hcall.mono ?_
  clear hcall
  rintro e V3 ⟨rfl, hb⟩
  replace HA2 : Hid (MAt V3 w.heap.size m) := HA2.out.below hb
  replace HD : Hid (DAt V3 V1.heap.size d) := HD.out.below hb
  replace HB2 : Hid (Below w.heap.size w V3) := HB2.out.trans (hb.mono HB2.out.size)
  clear hb HA HB
  have HF : Hid (FRow V3 m.a fs) := HR.out.below HB2.out
  obtain ⟨_, K0, K1, K2, K3, K4, K5, K6, K7, K8, K9, K10⟩ := HA2.out
  obtain ⟨_, D0, D1, D2, D3, D4, D5, D6⟩ := HD.out
  clear K0 K1 K2 K3 K8 K9 K10
  cases h0 : rightM m fs with
  | false =>
    have HZ : Hid (checkZ m fs = 120) := by unfold Hid; rw [HQ.out]; unfold checkD; rw [if_pos h0]
    go_wp2
    go_ret
    exact ⟨ret_int HZ.out.symm, HB2.out⟩
  | true =>
    have n0 : ¬ rightM m fs = false := by rw [h0]; simp
    by_cases n1 : d.role = 0
    · have a1 : (d.role == 0) = true := by simpa using n1
      have HZ : Hid (checkZ m fs = 130) := by unfold Hid; rw [HQ.out]; unfold checkD; rw [if_neg n0, if_pos n1]
      go_wp2
      go_ret
      exact ⟨ret_int HZ.out.symm, HB2.out⟩
    · have a1 : (d.role == 0) = false := by simpa using n1
      have hemp := toList_emp m.org
      by_cases n2 : m.org.size = 0
      · rw [decide_eq_true n2] at hemp
        have HZ : Hid (checkZ m fs = 131) := by unfold Hid; rw [HQ.out]; unfold checkD; rw [if_neg n0, if_neg n1, if_pos n2]
        go_wp2
        go_ret
        exact ⟨ret_int HZ.out.symm, HB2.out⟩
      · rw [decide_eq_false n2] at hemp
        by_cases n3 : (m.n : Int) < d.least
        · have a3 : decide ((m.n : Int) < d.least) = true := decide_eq_true n3
          have HZ : Hid (checkZ m fs = 131) := by unfold Hid; rw [HQ.out]; unfold checkD; rw [if_neg n0, if_neg n1, if_neg n2, if_pos n3]
          go_wp2
          go_ret
          exact ⟨ret_int HZ.out.symm, HB2.out⟩
        · have a3 : decide ((m.n : Int) < d.least) = false := decide_eq_false n3
          by_cases n4 : d.most < (m.n : Int)
          · have a4 : decide (d.most < (m.n : Int)) = true := decide_eq_true n4
            have HZ : Hid (checkZ m fs = 132) := by unfold Hid; rw [HQ.out]; unfold checkD; rw [if_neg n0, if_neg n1, if_neg n2, if_neg n3, if_pos n4]
            go_wp2
            go_ret
            exact ⟨ret_int HZ.out.symm, HB2.out⟩
          · have a4 : decide (d.most < (m.n : Int)) = false := decide_eq_false n4
            cases bn5 : d.ans with
            | false =>
              rw [bn5] at D3
              have n5 : ¬ (d.ans = true ∧ firstZ fs = true) := by rw [bn5]; simp
              cases bn6 : d.rc with
              | false =>
                have n6 : ¬ (d.rc = true ∧ m.recur = -1) := by rw [bn6]; simp
                rw [bn6] at D4
                cases bn7 : d.st with
                | false =>
                  have n7 : ¬ (d.st = true ∧ m.start = -1) := by rw [bn7]; simp
                  rw [bn7] at D5
                  cases bn8 : d.nost with
                  | false =>
                    have n8 : ¬ (d.nost = true ∧ m.start ≠ -1) := by rw [bn8]; simp
                    rw [bn8] at D6
                    have HZ : Hid (checkZ m fs = 0) := by unfold Hid; rw [HQ.out]; unfold checkD; rw [if_neg n0, if_neg n1, if_neg n2, if_neg n3, if_neg n4, if_neg n5, if_neg n6, if_neg n7, if_neg n8]
                    go_wp2
                    go_ret
                    exact ⟨ret_int HZ.out.symm, HB2.out⟩
                  | true =>
                    rw [bn8] at D6
                    by_cases qn8 : m.start ≠ -1
                    · have n8 : d.nost = true ∧ m.start ≠ -1 := ⟨bn8, qn8⟩
                      have an8 : (m.start != -1) = true := by simpa using qn8
                      have HZ : Hid (checkZ m fs = 132) := by unfold Hid; rw [HQ.out]; unfold checkD; rw [if_neg n0, if_neg n1, if_neg n2, if_neg n3, if_neg n4, if_neg n5, if_neg n6, if_neg n7, if_pos n8]
                      go_wp2
                      go_ret
                      exact ⟨ret_int HZ.out.symm, HB2.out⟩
                    · have n8 : ¬ (d.nost = true ∧ m.start ≠ -1) := fun h => qn8 h.2
                      have an8 : (m.start != -1) = false := by simpa using qn8
                      have HZ : Hid (checkZ m fs = 0) := by unfold Hid; rw [HQ.out]; unfold checkD; rw [if_neg n0, if_neg n1, if_neg n2, if_neg n3, if_neg n4, if_neg n5, if_neg n6, if_neg n7, if_neg n8]
                      go_wp2
                      go_ret
                      exact ⟨ret_int HZ.out.symm, HB2.out⟩
                | true =>
                  rw [bn7] at D5
                  by_cases qn7 : m.start = -1
                  · have n7 : d.st = true ∧ m.start = -1 := ⟨bn7, qn7⟩
                    have an7 : (m.start == -1) = true := by simpa using qn7
                    have HZ : Hid (checkZ m fs = 131) := by unfold Hid; rw [HQ.out]; unfold checkD; rw [if_neg n0, if_neg n1, if_neg n2, if_neg n3, if_neg n4, if_neg n5, if_neg n6, if_pos n7]
                    go_wp2
                    go_ret
                    exact ⟨ret_int HZ.out.symm, HB2.out⟩
                  · have n7 : ¬ (d.st = true ∧ m.start = -1) := fun h => qn7 h.2
                    have an7 : (m.start == -1) = false := by simpa using qn7
                    cases bn8 : d.nost with
                    | false =>
                      have n8 : ¬ (d.nost = true ∧ m.start ≠ -1) := by rw [bn8]; simp
                      rw [bn8] at D6
                      have HZ : Hid (checkZ m fs = 0) := by unfold Hid; rw [HQ.out]; unfold checkD; rw [if_neg n0, if_neg n1, if_neg n2, if_neg n3, if_neg n4, if_neg n5, if_neg n6, if_neg n7, if_neg n8]
                      go_wp2
                      go_ret
                      exact ⟨ret_int HZ.out.symm, HB2.out⟩
                    | true =>
                      rw [bn8] at D6
                      by_cases qn8 : m.start ≠ -1
                      · have n8 : d.nost = true ∧ m.start ≠ -1 := ⟨bn8, qn8⟩
                        have an8 : (m.start != -1) = true := by simpa using qn8
                        have HZ : Hid (checkZ m fs = 132) := by unfold Hid; rw [HQ.out]; unfold checkD; rw [if_neg n0, if_neg n1, if_neg n2, if_neg n3, if_neg n4, if_neg n5, if_neg n6, if_neg n7, if_pos n8]
                        go_wp2
                        go_ret
                        exact ⟨ret_int HZ.out.symm, HB2.out⟩
                      · exact absurd (Decidable.byContradiction qn8) qn7
              | true =>
                rw [bn6] at D4
                by_cases qn6 : m.recur = -1
                · have n6 : d.rc = true ∧ m.recur = -1 := ⟨bn6, qn6⟩
                  have an6 : (m.recur == -1) = true := by simpa using qn6
                  have HZ : Hid (checkZ m fs = 131) := by unfold Hid; rw [HQ.out]; unfold checkD; rw [if_neg n0, if_neg n1, if_neg n2, if_neg n3, if_neg n4, if_neg n5, if_pos n6]
                  go_wp2
                  go_ret
                  exact ⟨ret_int HZ.out.symm, HB2.out⟩
                · have n6 : ¬ (d.rc = true ∧ m.recur = -1) := fun h => qn6 h.2
                  have an6 : (m.recur == -1) = false := by simpa using qn6
                  cases bn7 : d.st with
                  | false =>
                    have n7 : ¬ (d.st = true ∧ m.start = -1) := by rw [bn7]; simp
                    rw [bn7] at D5
                    cases bn8 : d.nost with
                    | false =>
                      have n8 : ¬ (d.nost = true ∧ m.start ≠ -1) := by rw [bn8]; simp
                      rw [bn8] at D6
                      have HZ : Hid (checkZ m fs = 0) := by unfold Hid; rw [HQ.out]; unfold checkD; rw [if_neg n0, if_neg n1, if_neg n2, if_neg n3, if_neg n4, if_neg n5, if_neg n6, if_neg n7, if_neg n8]
                      go_wp2
                      go_ret
                      exact ⟨ret_int HZ.out.symm, HB2.out⟩
                    | true =>
                      rw [bn8] at D6
                      by_cases qn8 : m.start ≠ -1
                      · have n8 : d.nost = true ∧ m.start ≠ -1 := ⟨bn8, qn8⟩
                        have an8 : (m.start != -1) = true := by simpa using qn8
                        have HZ : Hid (checkZ m fs = 132) := by unfold Hid; rw [HQ.out]; unfold checkD; rw [if_neg n0, if_neg n1, if_neg n2, if_neg n3, if_neg n4, if_neg n5, if_neg n6, if_neg n7, if_pos n8]
                        go_wp2
                        go_ret
                        exact ⟨ret_int HZ.out.symm, HB2.out⟩
                      · have n8 : ¬ (d.nost = true ∧ m.start ≠ -1) := fun h => qn8 h.2
                        have an8 : (m.start != -1) = false := by simpa using qn8
                        have HZ : Hid (checkZ m fs = 0) := by unfold Hid; rw [HQ.out]; unfold checkD; rw [if_neg n0, if_neg n1, if_neg n2, if_neg n3, if_neg n4, if_neg n5, if_neg n6, if_neg n7, if_neg n8]
                        go_wp2
                        go_ret
                        exact ⟨ret_int HZ.out.symm, HB2.out⟩
                  | true =>
                    rw [bn7] at D5
                    by_cases qn7 : m.start = -1
                    · have n7 : d.st = true ∧ m.start = -1 := ⟨bn7, qn7⟩
                      have an7 : (m.start == -1) = true := by simpa using qn7
                      have HZ : Hid (checkZ m fs = 131) := by unfold Hid; rw [HQ.out]; unfold checkD; rw [if_neg n0, if_neg n1, if_neg n2, if_neg n3, if_neg n4, if_neg n5, if_neg n6, if_pos n7]
                      go_wp2
                      go_ret
                      exact ⟨ret_int HZ.out.symm, HB2.out⟩
                    · have n7 : ¬ (d.st = true ∧ m.start = -1) := fun h => qn7 h.2
                      have an7 : (m.start == -1) = false := by simpa using qn7
                      cases bn8 : d.nost with
                      | false =>
                        have n8 : ¬ (d.nost = true ∧ m.start ≠ -1) := by rw [bn8]; simp
                        rw [bn8] at D6
                        have HZ : Hid (checkZ m fs = 0) := by unfold Hid; rw [HQ.out]; unfold checkD; rw [if_neg n0, if_neg n1, if_neg n2, if_neg n3, if_neg n4, if_neg n5, if_neg n6, if_neg n7, if_neg n8]
                        go_wp2
                        go_ret
                        exact ⟨ret_int HZ.out.symm, HB2.out⟩
                      | true =>
                        rw [bn8] at D6
                        by_cases qn8 : m.start ≠ -1
                        · have n8 : d.nost = true ∧ m.start ≠ -1 := ⟨bn8, qn8⟩
                          have an8 : (m.start != -1) = true := by simpa using qn8
                          have HZ : Hid (checkZ m fs = 132) := by unfold Hid; rw [HQ.out]; unfold checkD; rw [if_neg n0, if_neg n1, if_neg n2, if_neg n3, if_neg n4, if_neg n5, if_neg n6, if_neg n7, if_pos n8]
                          go_wp2
                          go_ret
                          exact ⟨ret_int HZ.out.symm, HB2.out⟩
                        · exact absurd (Decidable.byContradiction qn8) qn7
            | true =>
              rw [bn5] at D3
              have hle : d.least = 1 := HAN.out bn5
              have hn1 : 1 ≤ m.n := by omega
              obtain ⟨f, fr, hfs⟩ : ∃ f fr, fs = f :: fr := by
                cases hq : fs with
                | nil => have := HM.out.l; rw [hq] at this; simp at this; omega
                | cons f fr => exact ⟨f, fr, rfl⟩
              have hca : ∃ b off, m.a = some ⟨b, off, none⟩ ∧ V3.cell? ⟨b, off + 1, none⟩ = some (.string f.2) := by
                rcases HF.out with h | ⟨b, off, ha, h⟩
                · rw [hfs] at h; cases h
                · exact ⟨b, off, ha, by have := (h 0 f (by rw [hfs]; rfl)).2; simpa using this⟩
              obtain ⟨b, off, hma, hcf⟩ := hca
              rw [hma] at K6
              have hfz : firstZ fs = (f.2.toList == [78, 69, 69, 68, 83, 45, 65, 67, 84, 73, 79, 78]) := by rw [eq_list, hfs]; rfl
              have HL : Hid (d.least = 1) := hle
              have hn0 : 0 < m.n := by omega
              clear hle hfs
              cases e5 : (f.2.toList == [78, 69, 69, 68, 83, 45, 65, 67, 84, 73, 79, 78]) with
              | true =>
                have n5 : d.ans = true ∧ firstZ fs = true := ⟨bn5, by rw [hfz]; exact e5⟩
                have HZ : Hid (checkZ m fs = 3) := by unfold Hid; rw [HQ.out]; unfold checkD; rw [if_neg n0, if_neg n1, if_neg n2, if_neg n3, if_neg n4, if_pos n5]
                go_wp2
                go_ret
                exact ⟨ret_int HZ.out.symm, HB2.out⟩
              | false =>
                have n5 : ¬ (d.ans = true ∧ firstZ fs = true) := fun h => absurd h.2 (by rw [hfz, e5]; simp)
                cases bn6 : d.rc with
                | false =>
                  have n6 : ¬ (d.rc = true ∧ m.recur = -1) := by rw [bn6]; simp
                  rw [bn6] at D4
                  cases bn7 : d.st with
                  | false =>
                    have n7 : ¬ (d.st = true ∧ m.start = -1) := by rw [bn7]; simp
                    rw [bn7] at D5
                    cases bn8 : d.nost with
                    | false =>
                      have n8 : ¬ (d.nost = true ∧ m.start ≠ -1) := by rw [bn8]; simp
                      rw [bn8] at D6
                      have HZ : Hid (checkZ m fs = 0) := by unfold Hid; rw [HQ.out]; unfold checkD; rw [if_neg n0, if_neg n1, if_neg n2, if_neg n3, if_neg n4, if_neg n5, if_neg n6, if_neg n7, if_neg n8]
                      go_wp2
                      go_ret
                      exact ⟨ret_int HZ.out.symm, HB2.out⟩
                    | true =>
                      rw [bn8] at D6
                      by_cases qn8 : m.start ≠ -1
                      · have n8 : d.nost = true ∧ m.start ≠ -1 := ⟨bn8, qn8⟩
                        have an8 : (m.start != -1) = true := by simpa using qn8
                        have HZ : Hid (checkZ m fs = 132) := by unfold Hid; rw [HQ.out]; unfold checkD; rw [if_neg n0, if_neg n1, if_neg n2, if_neg n3, if_neg n4, if_neg n5, if_neg n6, if_neg n7, if_pos n8]
                        go_wp2
                        go_ret
                        exact ⟨ret_int HZ.out.symm, HB2.out⟩
                      · have n8 : ¬ (d.nost = true ∧ m.start ≠ -1) := fun h => qn8 h.2
                        have an8 : (m.start != -1) = false := by simpa using qn8
                        have HZ : Hid (checkZ m fs = 0) := by unfold Hid; rw [HQ.out]; unfold checkD; rw [if_neg n0, if_neg n1, if_neg n2, if_neg n3, if_neg n4, if_neg n5, if_neg n6, if_neg n7, if_neg n8]
                        go_wp2
                        go_ret
                        exact ⟨ret_int HZ.out.symm, HB2.out⟩
                  | true =>
                    rw [bn7] at D5
                    by_cases qn7 : m.start = -1
                    · have n7 : d.st = true ∧ m.start = -1 := ⟨bn7, qn7⟩
                      have an7 : (m.start == -1) = true := by simpa using qn7
                      have HZ : Hid (checkZ m fs = 131) := by unfold Hid; rw [HQ.out]; unfold checkD; rw [if_neg n0, if_neg n1, if_neg n2, if_neg n3, if_neg n4, if_neg n5, if_neg n6, if_pos n7]
                      go_wp2
                      go_ret
                      exact ⟨ret_int HZ.out.symm, HB2.out⟩
                    · have n7 : ¬ (d.st = true ∧ m.start = -1) := fun h => qn7 h.2
                      have an7 : (m.start == -1) = false := by simpa using qn7
                      cases bn8 : d.nost with
                      | false =>
                        have n8 : ¬ (d.nost = true ∧ m.start ≠ -1) := by rw [bn8]; simp
                        rw [bn8] at D6
                        have HZ : Hid (checkZ m fs = 0) := by unfold Hid; rw [HQ.out]; unfold checkD; rw [if_neg n0, if_neg n1, if_neg n2, if_neg n3, if_neg n4, if_neg n5, if_neg n6, if_neg n7, if_neg n8]
                        go_wp2
                        go_ret
                        exact ⟨ret_int HZ.out.symm, HB2.out⟩
                      | true =>
                        rw [bn8] at D6
                        by_cases qn8 : m.start ≠ -1
                        · have n8 : d.nost = true ∧ m.start ≠ -1 := ⟨bn8, qn8⟩
                          have an8 : (m.start != -1) = true := by simpa using qn8
                          have HZ : Hid (checkZ m fs = 132) := by unfold Hid; rw [HQ.out]; unfold checkD; rw [if_neg n0, if_neg n1, if_neg n2, if_neg n3, if_neg n4, if_neg n5, if_neg n6, if_neg n7, if_pos n8]
                          go_wp2
                          go_ret
                          exact ⟨ret_int HZ.out.symm, HB2.out⟩
                        · exact absurd (Decidable.byContradiction qn8) qn7
                | true =>
                  rw [bn6] at D4
                  by_cases qn6 : m.recur = -1
                  · have n6 : d.rc = true ∧ m.recur = -1 := ⟨bn6, qn6⟩
                    have an6 : (m.recur == -1) = true := by simpa using qn6
                    have HZ : Hid (checkZ m fs = 131) := by unfold Hid; rw [HQ.out]; unfold checkD; rw [if_neg n0, if_neg n1, if_neg n2, if_neg n3, if_neg n4, if_neg n5, if_pos n6]
                    go_wp2
                    go_ret
                    exact ⟨ret_int HZ.out.symm, HB2.out⟩
                  · have n6 : ¬ (d.rc = true ∧ m.recur = -1) := fun h => qn6 h.2
                    have an6 : (m.recur == -1) = false := by simpa using qn6
                    cases bn7 : d.st with
                    | false =>
                      have n7 : ¬ (d.st = true ∧ m.start = -1) := by rw [bn7]; simp
                      rw [bn7] at D5
                      cases bn8 : d.nost with
                      | false =>
                        have n8 : ¬ (d.nost = true ∧ m.start ≠ -1) := by rw [bn8]; simp
                        rw [bn8] at D6
                        have HZ : Hid (checkZ m fs = 0) := by unfold Hid; rw [HQ.out]; unfold checkD; rw [if_neg n0, if_neg n1, if_neg n2, if_neg n3, if_neg n4, if_neg n5, if_neg n6, if_neg n7, if_neg n8]
                        go_wp2
                        go_ret
                        exact ⟨ret_int HZ.out.symm, HB2.out⟩
                      | true =>
                        rw [bn8] at D6
                        by_cases qn8 : m.start ≠ -1
                        · have n8 : d.nost = true ∧ m.start ≠ -1 := ⟨bn8, qn8⟩
                          have an8 : (m.start != -1) = true := by simpa using qn8
                          have HZ : Hid (checkZ m fs = 132) := by unfold Hid; rw [HQ.out]; unfold checkD; rw [if_neg n0, if_neg n1, if_neg n2, if_neg n3, if_neg n4, if_neg n5, if_neg n6, if_neg n7, if_pos n8]
                          go_wp2
                          go_ret
                          exact ⟨ret_int HZ.out.symm, HB2.out⟩
                        · have n8 : ¬ (d.nost = true ∧ m.start ≠ -1) := fun h => qn8 h.2
                          have an8 : (m.start != -1) = false := by simpa using qn8
                          have HZ : Hid (checkZ m fs = 0) := by unfold Hid; rw [HQ.out]; unfold checkD; rw [if_neg n0, if_neg n1, if_neg n2, if_neg n3, if_neg n4, if_neg n5, if_neg n6, if_neg n7, if_neg n8]
                          go_wp2
                          go_ret
                          exact ⟨ret_int HZ.out.symm, HB2.out⟩
                    | true =>
                      rw [bn7] at D5
                      by_cases qn7 : m.start = -1
                      · have n7 : d.st = true ∧ m.start = -1 := ⟨bn7, qn7⟩
                        have an7 : (m.start == -1) = true := by simpa using qn7
                        have HZ : Hid (checkZ m fs = 131) := by unfold Hid; rw [HQ.out]; unfold checkD; rw [if_neg n0, if_neg n1, if_neg n2, if_neg n3, if_neg n4, if_neg n5, if_neg n6, if_pos n7]
                        go_wp2
                        go_ret
                        exact ⟨ret_int HZ.out.symm, HB2.out⟩
                      · have n7 : ¬ (d.st = true ∧ m.start = -1) := fun h => qn7 h.2
                        have an7 : (m.start == -1) = false := by simpa using qn7
                        cases bn8 : d.nost with
                        | false =>
                          have n8 : ¬ (d.nost = true ∧ m.start ≠ -1) := by rw [bn8]; simp
                          rw [bn8] at D6
                          have HZ : Hid (checkZ m fs = 0) := by unfold Hid; rw [HQ.out]; unfold checkD; rw [if_neg n0, if_neg n1, if_neg n2, if_neg n3, if_neg n4, if_neg n5, if_neg n6, if_neg n7, if_neg n8]
                          go_wp2
                          go_ret
                          exact ⟨ret_int HZ.out.symm, HB2.out⟩
                        | true =>
                          rw [bn8] at D6
                          by_cases qn8 : m.start ≠ -1
                          · have n8 : d.nost = true ∧ m.start ≠ -1 := ⟨bn8, qn8⟩
                            have an8 : (m.start != -1) = true := by simpa using qn8
                            have HZ : Hid (checkZ m fs = 132) := by unfold Hid; rw [HQ.out]; unfold checkD; rw [if_neg n0, if_neg n1, if_neg n2, if_neg n3, if_neg n4, if_neg n5, if_neg n6, if_neg n7, if_pos n8]
                            go_wp2
                            go_ret
                            exact ⟨ret_int HZ.out.symm, HB2.out⟩
                          · exact absurd (Decidable.byContradiction qn8) qn7
end Go.Proofs.YtdmcibopcflbbaaDoor
