/-
  What methods ask: the contracts of asked and Role.
-/
import Derived.Test.YtdmcibopcflbbaaDoorMr
namespace Go.Proofs.YtdmcibopcflbbaaDoor
open Go.RowKit
set_option linter.unusedVariables false

def mADD : List Int := [65, 68, 68]
def mREQ : List Int := [82, 69, 81, 85, 69, 83, 84]
def mCAN : List Int := [67, 65, 78, 67, 69, 76]
def mPUB : List Int := [80, 85, 66, 76, 73, 83, 72]
def mDEC : List Int := [68, 69, 67, 76, 73, 78, 69, 67, 79, 85, 78, 84, 69, 82]
def mCOU : List Int := [67, 79, 85, 78, 84, 69, 82]
def mREP : List Int := [82, 69, 80, 76, 89]
def mREF : List Int := [82, 69, 70, 82, 69, 83, 72]
/-- What a method asks. -/
structure Dem where
  (role least most : Int)
  (ans rc st nost : Bool)
def demV (d : Dem) : Value := .agg #[.int .i64 d.role, .int .i64 d.least, .int .i64 d.most, .bool d.ans, .bool d.rc, .bool d.st, .bool d.nost]
def askZ (t : List Int) : Dem :=
  if t = mADD then ⟨1, 1, 32, false, true, true, false⟩
  else if t = mREQ then ⟨1, 1, 32, false, false, true, false⟩
  else if t = mCAN then ⟨1, 0, 32, false, false, false, false⟩
  else if t = mPUB then ⟨1, 0, 0, false, false, true, false⟩
  else if t = mDEC then ⟨1, 1, 1, false, false, false, false⟩
  else if t = mCOU then ⟨2, 1, 1, false, false, true, false⟩
  else if t = mREP then ⟨2, 1, 1, true, false, false, false⟩
  else if t = mREF then ⟨2, 1, 1, false, false, false, true⟩
  else ⟨0, 0, 0, false, false, false, false⟩
set_option maxHeartbeats 8000000 in
set_option maxRecDepth 100000 in
theorem asked_any (s : ByteArray) (w : World) : Calls Tryd.prog 22 #[.string s] w fun e w' => e = .returned (demV (askZ (nums s))) ∧ Below w.heap.size w w' := by
  cases e0 : (s.toList == [65, 68, 68]) with
  | true =>
    have HS : Hid (askZ (nums s) = ⟨1, 1, 32, false, true, true, false⟩) := by
      have h0 := e0
      rw [eq_list, decide_eq_true_eq] at h0
      unfold Hid; rw [h0]; rfl
    go_enter Tryd.func22, Tryd.ntmps22
    go_wp2
    (try simp only [Exit.inBlock, Exit.then])
    refine bodyPost_ret (v := demV (askZ (nums s))) (by rw [HS.out]; simp [results, Tryd.results22, go_sem, demV]) rfl ⟨rfl, (keep w _).trans ((keep _ _).mono (by simp))⟩
  | false =>
    cases e1 : (s.toList == [82, 69, 81, 85, 69, 83, 84]) with
    | true =>
      have HS : Hid (askZ (nums s) = ⟨1, 1, 32, false, false, true, false⟩) := by
        have h1 := e1
        rw [eq_list, decide_eq_true_eq] at h1
        unfold Hid; rw [h1]; rfl
      go_enter Tryd.func22, Tryd.ntmps22
      go_wp2
      (try simp only [Exit.inBlock, Exit.then])
      refine bodyPost_ret (v := demV (askZ (nums s))) (by rw [HS.out]; simp [results, Tryd.results22, go_sem, demV]) rfl ⟨rfl, (keep w _).trans ((keep _ _).mono (by simp))⟩
    | false =>
      cases e2 : (s.toList == [67, 65, 78, 67, 69, 76]) with
      | true =>
        have HS : Hid (askZ (nums s) = ⟨1, 0, 32, false, false, false, false⟩) := by
          have h2 := e2
          rw [eq_list, decide_eq_true_eq] at h2
          unfold Hid; rw [h2]; rfl
        go_enter Tryd.func22, Tryd.ntmps22
        go_wp2
        (try simp only [Exit.inBlock, Exit.then])
        refine bodyPost_ret (v := demV (askZ (nums s))) (by rw [HS.out]; simp [results, Tryd.results22, go_sem, demV]) rfl ⟨rfl, (keep w _).trans ((keep _ _).mono (by simp))⟩
      | false =>
        cases e3 : (s.toList == [80, 85, 66, 76, 73, 83, 72]) with
        | true =>
          have HS : Hid (askZ (nums s) = ⟨1, 0, 0, false, false, true, false⟩) := by
            have h3 := e3
            rw [eq_list, decide_eq_true_eq] at h3
            unfold Hid; rw [h3]; rfl
          go_enter Tryd.func22, Tryd.ntmps22
          go_wp2
          (try simp only [Exit.inBlock, Exit.then])
          refine bodyPost_ret (v := demV (askZ (nums s))) (by rw [HS.out]; simp [results, Tryd.results22, go_sem, demV]) rfl ⟨rfl, (keep w _).trans ((keep _ _).mono (by simp))⟩
        | false =>
          cases e4 : (s.toList == [68, 69, 67, 76, 73, 78, 69, 67, 79, 85, 78, 84, 69, 82]) with
          | true =>
            have HS : Hid (askZ (nums s) = ⟨1, 1, 1, false, false, false, false⟩) := by
              have h4 := e4
              rw [eq_list, decide_eq_true_eq] at h4
              unfold Hid; rw [h4]; rfl
            go_enter Tryd.func22, Tryd.ntmps22
            go_wp2
            (try simp only [Exit.inBlock, Exit.then])
            refine bodyPost_ret (v := demV (askZ (nums s))) (by rw [HS.out]; simp [results, Tryd.results22, go_sem, demV]) rfl ⟨rfl, (keep w _).trans ((keep _ _).mono (by simp))⟩
          | false =>
            cases e5 : (s.toList == [67, 79, 85, 78, 84, 69, 82]) with
            | true =>
              have HS : Hid (askZ (nums s) = ⟨2, 1, 1, false, false, true, false⟩) := by
                have h5 := e5
                rw [eq_list, decide_eq_true_eq] at h5
                unfold Hid; rw [h5]; rfl
              have e6 : (s.toList == [82, 69, 80, 76, 89]) = false := by
                have h5 := e5
                rw [eq_list, decide_eq_true_eq] at h5
                rw [eq_list, h5]; rfl
              have e7 : (s.toList == [82, 69, 70, 82, 69, 83, 72]) = false := by
                have h5 := e5
                rw [eq_list, decide_eq_true_eq] at h5
                rw [eq_list, h5]; rfl
              go_enter Tryd.func22, Tryd.ntmps22
              go_wp2
              (try simp only [Exit.inBlock, Exit.then])
              refine bodyPost_ret (v := demV (askZ (nums s))) (by rw [HS.out]; simp [results, Tryd.results22, go_sem, demV]) rfl ⟨rfl, (keep w _).trans ((keep _ _).mono (by simp))⟩
            | false =>
              cases e6 : (s.toList == [82, 69, 80, 76, 89]) with
              | true =>
                have HS : Hid (askZ (nums s) = ⟨2, 1, 1, true, false, false, false⟩) := by
                  have h6 := e6
                  rw [eq_list, decide_eq_true_eq] at h6
                  unfold Hid; rw [h6]; rfl
                have e7 : (s.toList == [82, 69, 70, 82, 69, 83, 72]) = false := by
                  have h6 := e6
                  rw [eq_list, decide_eq_true_eq] at h6
                  rw [eq_list, h6]; rfl
                go_enter Tryd.func22, Tryd.ntmps22
                go_wp2
                (try simp only [Exit.inBlock, Exit.then])
                refine bodyPost_ret (v := demV (askZ (nums s))) (by rw [HS.out]; simp [results, Tryd.results22, go_sem, demV]) rfl ⟨rfl, (keep w _).trans ((keep _ _).mono (by simp))⟩
              | false =>
                cases e7 : (s.toList == [82, 69, 70, 82, 69, 83, 72]) with
                | true =>
                  have HS : Hid (askZ (nums s) = ⟨2, 1, 1, false, false, false, true⟩) := by
                    have h7 := e7
                    rw [eq_list, decide_eq_true_eq] at h7
                    unfold Hid; rw [h7]; rfl
                  go_enter Tryd.func22, Tryd.ntmps22
                  go_wp2
                  (try simp only [Exit.inBlock, Exit.then])
                  refine bodyPost_ret (v := demV (askZ (nums s))) (by rw [HS.out]; simp [results, Tryd.results22, go_sem, demV]) rfl ⟨rfl, (keep w _).trans ((keep _ _).mono (by simp))⟩
                | false =>
                  have HS : Hid (askZ (nums s) = ⟨0, 0, 0, false, false, false, false⟩) := by
                    have h0 : ¬ nums s = mADD := by have h := e0; rw [eq_list, decide_eq_false_iff_not] at h; exact h
                    have h1 : ¬ nums s = mREQ := by have h := e1; rw [eq_list, decide_eq_false_iff_not] at h; exact h
                    have h2 : ¬ nums s = mCAN := by have h := e2; rw [eq_list, decide_eq_false_iff_not] at h; exact h
                    have h3 : ¬ nums s = mPUB := by have h := e3; rw [eq_list, decide_eq_false_iff_not] at h; exact h
                    have h4 : ¬ nums s = mDEC := by have h := e4; rw [eq_list, decide_eq_false_iff_not] at h; exact h
                    have h5 : ¬ nums s = mCOU := by have h := e5; rw [eq_list, decide_eq_false_iff_not] at h; exact h
                    have h6 : ¬ nums s = mREP := by have h := e6; rw [eq_list, decide_eq_false_iff_not] at h; exact h
                    have h7 : ¬ nums s = mREF := by have h := e7; rw [eq_list, decide_eq_false_iff_not] at h; exact h
                    unfold Hid askZ
                    rw [if_neg h0, if_neg h1, if_neg h2, if_neg h3, if_neg h4, if_neg h5, if_neg h6, if_neg h7]
                  go_enter Tryd.func22, Tryd.ntmps22
                  go_wp2
                  (try simp only [Exit.inBlock, Exit.then])
                  refine bodyPost_ret (v := demV (askZ (nums s))) (by rw [HS.out]; simp [results, Tryd.results22, go_sem, demV]) rfl ⟨rfl, (keep w _).trans ((keep _ _).mono (by simp))⟩
end Go.Proofs.YtdmcibopcflbbaaDoor
