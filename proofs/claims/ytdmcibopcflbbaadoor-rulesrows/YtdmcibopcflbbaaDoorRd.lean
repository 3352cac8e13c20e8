/-
  Who may send a message, and which mark is newer: the contracts of Sender and Newer.
-/
import Derived.Test.YtdmcibopcflbbaaDoorRc
namespace Go.Proofs.YtdmcibopcflbbaaDoor
open Go.RowKit
set_option linter.unusedVariables false

theorem ret_two {a b : ByteArray} {x y : Int} (h : a = b) (k : x = y) : Ending.returned (.tuple #[.string a, .int .i64 x]) = .returned (.tuple #[.string b, .int .i64 y]) := by rw [h, k]
/-- Who may send a message. -/
def sendZ (m : Msg) (fs : List (ByteArray × ByteArray)) : ByteArray :=
  if checkZ m fs ≠ 0 then ⟨#[]⟩ else if roleZ (nums m.meth) = 2 then (match fs with | [] => ⟨#[]⟩ | f :: _ => f.1) else m.org
theorem ask_two (t : List Int) : (askZ t).role = 2 → (askZ t).least = 1 ∧ (askZ t).most = 1 := by
  unfold askZ
  repeat' (first | (split; try (intro h; first | exact ⟨rfl, rfl⟩ | cases h)) | (intro h; cases h))
theorem check_ok {m : Msg} {fs : List (ByteArray × ByteArray)} (h : checkZ m fs = 0) : rightM m fs = true ∧ (askZ (nums m.meth)).role ≠ 0 ∧ m.org.size ≠ 0 ∧ (askZ (nums m.meth)).least ≤ (m.n : Int) ∧ (m.n : Int) ≤ (askZ (nums m.meth)).most ∧ ¬ ((askZ (nums m.meth)).ans = true ∧ firstZ fs = true) ∧ ¬ ((askZ (nums m.meth)).rc = true ∧ m.recur = -1) ∧ ¬ ((askZ (nums m.meth)).st = true ∧ m.start = -1) ∧ ¬ ((askZ (nums m.meth)).nost = true ∧ m.start ≠ -1) := by
  unfold checkZ checkD at h
  split at h; · omega
  split at h; · omega
  split at h; · omega
  split at h; · omega
  split at h; · omega
  split at h; · omega
  split at h; · omega
  split at h; · omega
  split at h; · omega
  rename_i h1 h2 h3 h4 h5 h6 h7 h8 h9
  exact ⟨by simpa using h1, h2, h3, by omega, by omega, h6, h7, h8, h9⟩
set_option maxHeartbeats 8000000 in
set_option maxRecDepth 100000 in
theorem sender_any (m : Msg) (fs : List (ByteArray × ByteArray)) (w : World) (hr : FRow w m.a fs) (hm : MFit m fs) :
    Calls Tryd.prog 16 #[msgV m] w fun e w' => e = .returned (.tuple #[.string (sendZ m fs), .int .i64 (checkZ m fs)]) ∧ Below w.heap.size w w' := by
  have HR : Hid (FRow w m.a fs) := hr
  have HM : Hid (MFit m fs) := hm
  clear hr hm
  unfold msgV
  go_enter Tryd.func16, Tryd.ntmps16
  go_wp2_with fail
  have HA : Hid (MAt (w.alloc (.cells #[.string m.meth, .string m.uid, .int .i64 m.seq, .int .i64 m.stamp, .int .i64 m.recur, .string m.org, .slice m.a m.n m.c, .int .i64 m.start, .int .i64 m.fin, .string m.sum, .string m.com] 24)) w.heap.size m) := mat_new w m
  have HB : Hid (Below w.heap.size w (w.alloc (.cells #[.string m.meth, .string m.uid, .int .i64 m.seq, .int .i64 m.stamp, .int .i64 m.recur, .string m.org, .slice m.a m.n m.c, .int .i64 m.start, .int .i64 m.fin, .string m.sum, .string m.com] 24))) := keep w _
  generalize w.alloc (.cells #[.string m.meth, .string m.uid, .int .i64 m.seq, .int .i64 m.stamp, .int .i64 m.recur, .string m.org, .slice m.a m.n m.c, .int .i64 m.start, .int .i64 m.fin, .string m.sum, .string m.com] 24) = V0 at HA HB ⊢
  have hcall := check_any m fs V0 (HR.out.below HB.out) HM.out
  unfold msgV at hcall
  refine hcall.mono ?_
  clear hcall
  rintro e V1 ⟨rfl, hb⟩
  replace HA : Hid (MAt V1 w.heap.size m) := HA.out.below hb
  replace HB : Hid (Below w.heap.size w V1) := HB.out.trans (hb.mono HB.out.size)
  clear hb
  by_cases hc : checkZ m fs = 0
  · have hq : (checkZ m fs != 0) = false := by simpa using hc
    obtain ⟨_, K0, _, _, _, _, _, _, _, _, _, _⟩ := HA.out
    go_wp2_with fail
    clear K0
    refine (role_any m.meth _).mono ?_
    rintro e V2 ⟨rfl, hb⟩
    replace HA : Hid (MAt V2 w.heap.size m) := HA.out.below hb
    replace HB : Hid (Below w.heap.size w V2) := HB.out.trans (hb.mono HB.out.size)
    clear hb
    obtain ⟨_, _, _, _, _, _, K5, K6, _, _, _, _⟩ := HA.out
    by_cases hro : roleZ (nums m.meth) = 2
    · have hq2 : (roleZ (nums m.meth) == 2) = true := by simpa using hro
      obtain ⟨_, _, _, o1, o2, _⟩ := check_ok hc
      obtain ⟨t1, t2⟩ := ask_two _ hro
      have hn0 : 0 < m.n := by omega
      obtain ⟨f, fr, hfs⟩ : ∃ f fr, fs = f :: fr := by
        cases hq : fs with
        | nil => have := HM.out.l; rw [hq] at this; simp at this; omega
        | cons f fr => exact ⟨f, fr, rfl⟩
      have hca : ∃ b off, m.a = some ⟨b, off, none⟩ ∧ V2.cell? ⟨b, off, none⟩ = some (.string f.1) := by
        rcases HR.out.below HB.out with h | ⟨b, off, ha, h⟩
        · rw [hfs] at h; cases h
        · exact ⟨b, off, ha, by have := (h 0 f (by rw [hfs]; rfl)).1; simpa using this⟩
      obtain ⟨b, off, hma, hcf⟩ := hca
      rw [hma] at K6
      have HZ : Hid (sendZ m fs = f.1) := by unfold Hid sendZ; rw [if_neg (by simp [hc]), if_pos hro, hfs]
      have HC : Hid (checkZ m fs = 0) := hc
      clear o1 o2 t1 t2 hc hfs hro
      go_wp2
      go_ret2
      exact ⟨ret_two HZ.out.symm HC.out.symm, HB.out⟩
    · have hq2 : (roleZ (nums m.meth) == 2) = false := by simpa using hro
      have HZ : Hid (sendZ m fs = m.org) := by unfold Hid sendZ; rw [if_neg (by simp [hc]), if_neg hro]
      have HC : Hid (checkZ m fs = 0) := hc
      clear hc hro
      go_wp2
      go_ret2
      exact ⟨ret_two HZ.out.symm HC.out.symm, HB.out⟩
  · have hq : (checkZ m fs != 0) = true := by simpa using hc
    have HZ : Hid (sendZ m fs = ⟨#[]⟩) := by unfold Hid sendZ; rw [if_pos hc]
    clear hc
    go_wp2
    go_ret2
    exact ⟨ret_two HZ.out.symm rfl, HB.out⟩
def newZ (a b c d : Int) : Bool := decide (c < a) || (decide (a = c) && decide (d < b))
set_option maxHeartbeats 4000000 in
set_option maxRecDepth 100000 in
theorem newer_any (a b c d : Int) (w : World) : Calls Tryd.prog 19 #[.agg #[.int .i64 a, .int .i64 b], .agg #[.int .i64 c, .int .i64 d]] w fun e w' => e = .returned (.bool (newZ a b c d)) ∧ Below w.heap.size w w' := by
  by_cases h1 : a = c
  · subst h1
    by_cases h2 : b = d
    · subst h2
      have HZ : Hid (newZ a b a b = false) := by unfold Hid newZ; simp
      go_enter Tryd.func19, Tryd.ntmps19
      go_wp2
      go_ret
      exact ⟨ret_bool HZ.out.symm, (keep w _).alloc (by simp) _⟩
    · have hq : (b == d) = false := by simpa using h2
      have HZ : Hid (newZ a b a d = decide (b > d)) := by unfold Hid newZ; simp
      go_enter Tryd.func19, Tryd.ntmps19
      go_wp2
      go_ret
      exact ⟨ret_bool HZ.out.symm, (keep w _).alloc (by simp) _⟩
  · have hq : (a == c) = false := by simpa using h1
    have HZ : Hid (newZ a b c d = decide (a > c)) := by unfold Hid newZ; rw [decide_eq_false h1]; simp
    go_enter Tryd.func19, Tryd.ntmps19
    go_wp2
    go_ret
    exact ⟨ret_bool HZ.out.symm, (keep w _).alloc (by simp) _⟩
end Go.Proofs.YtdmcibopcflbbaaDoor
