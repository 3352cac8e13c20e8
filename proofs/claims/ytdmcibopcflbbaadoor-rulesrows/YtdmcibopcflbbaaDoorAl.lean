/-
  Messages that are too great; the eight methods; the fixed message.
-/
import Derived.Test.YtdmcibopcflbbaaDoorRd
import Derived.Deep.LoopGhost
namespace Go.Proofs.YtdmcibopcflbbaaDoor
open Go.RowKit
set_option linter.unusedVariables false

structure MWide (m : Msg) (fs : List (ByteArray × ByteArray)) : Prop where
  l : fs.length = m.n
  f : ∀ f ∈ fs, f.1.size ≤ 140737488355328 ∧ f.2.size ≤ 140737488355328
  s0 : m.meth.size ≤ 140737488355328
  s1 : m.uid.size ≤ 140737488355328
  s5 : m.org.size ≤ 140737488355328
  s9 : m.sum.size ≤ 140737488355328
  s10 : m.com.size ≤ 140737488355328
  i2 : Num m.seq
  i3 : Num m.stamp
  i4 : Num m.recur
  i7 : Num m.start
  i8 : Num m.fin
set_option maxHeartbeats 8000000 in
set_option maxRecDepth 100000 in
theorem great_any (m : Msg) (fs : List (ByteArray × ByteArray)) (w : World) (hr : FRow w m.a fs) (hm : MWide m fs) :
    Calls Tryd.prog 9 #[msgV m] w fun e w' => ∃ b, e = .returned (.bool b) ∧ Below w.heap.size w w' ∧ (b = false → MFit m fs) := by
  have HR : Hid (FRow w m.a fs) := hr
  have HM : Hid (MWide m fs) := hm
  have hz0 := hm.s0
  have hz1 := hm.s1
  have hz5 := hm.s5
  have hz9 := hm.s9
  have hz10 := hm.s10
  have hln := hm.l
  have HLN : Hid (fs.length = m.n) := hln
  clear hr hm
  unfold msgV
  go_enter Tryd.func9, Tryd.ntmps9
  have HA : Hid (MAt (w.alloc (.cells #[.string m.meth, .string m.uid, .int .i64 m.seq, .int .i64 m.stamp, .int .i64 m.recur, .string m.org, .slice m.a m.n m.c, .int .i64 m.start, .int .i64 m.fin, .string m.sum, .string m.com] 24)) w.heap.size m) := mat_new w m
  have HB : Hid (Below w.heap.size w (w.alloc (.cells #[.string m.meth, .string m.uid, .int .i64 m.seq, .int .i64 m.stamp, .int .i64 m.recur, .string m.org, .slice m.a m.n m.c, .int .i64 m.start, .int .i64 m.fin, .string m.sum, .string m.com] 24))) := keep w _
  clear hln
  by_cases p1 : 60 < m.n
  · have dp1 : decide ((60 : Int) < (m.n : Int)) = true := by simp; omega
    go_wp2
    go_ret
    exact ⟨true, rfl, HB.out, fun h => by cases h⟩
  have dp1 : decide ((60 : Int) < (m.n : Int)) = false := by simp; omega
  have hs1 : IntKind.i64.wrap ((m.meth.size : Int) + (m.uid.size : Int)) = (m.meth.size : Int) + (m.uid.size : Int) := by rw [IntKind.wrap_i64]; omega
  by_cases p2 : 1000 < m.meth.size + m.uid.size
  · have dp2 : decide ((1000 : Int) < (m.meth.size : Int) + (m.uid.size : Int)) = true := by simp; omega
    go_wp2
    go_ret
    exact ⟨true, rfl, HB.out, fun h => by cases h⟩
  have dp2 : decide ((1000 : Int) < (m.meth.size : Int) + (m.uid.size : Int)) = false := by simp; omega
  by_cases p3 : 1000 < m.org.size
  · have dp3 : decide ((1000 : Int) < (m.org.size : Int)) = true := by simp; omega
    go_wp2
    go_ret
    exact ⟨true, rfl, HB.out, fun h => by cases h⟩
  have dp3 : decide ((1000 : Int) < (m.org.size : Int)) = false := by simp; omega
  have hs2 : IntKind.i64.wrap ((m.sum.size : Int) + (m.com.size : Int)) = (m.sum.size : Int) + (m.com.size : Int) := by rw [IntKind.wrap_i64]; omega
  by_cases p4 : 4000 < m.sum.size + m.com.size
  · have dp4 : decide ((4000 : Int) < (m.sum.size : Int) + (m.com.size : Int)) = true := by simp; omega
    go_wp2
    go_ret
    exact ⟨true, rfl, HB.out, fun h => by cases h⟩
  have dp4 : decide ((4000 : Int) < (m.sum.size : Int) + (m.com.size : Int)) = false := by simp; omega
  go_wp2
  generalize w.alloc (.cells #[.string m.meth, .string m.uid, .int .i64 m.seq, .int .i64 m.stamp, .int .i64 m.recur, .string m.org, .slice m.a m.n m.c, .int .i64 m.start, .int .i64 m.fin, .string m.sum, .string m.com] 24) = V0 at HA HB ⊢
  obtain ⟨_, _, _, _, _, _, _, K6, _, _, _, _⟩ := HA.out
  have HR2 : Hid (FRow V0 m.a fs) := HR.out.below HB.out
  go_loopw [3] (fun i wx => ∃ (j q : Nat), i = .int .i64 j ∧ j ≤ m.n ∧ (∀ f ∈ fs.take j, f.1.size + f.2.size ≤ 600) ∧ wx = V0.drewN q) (fun i _ => m.n - (intOf i).toNat)
  case atStart => exact ⟨0, 0, rfl, by omega, by simp, rfl⟩
  case round =>
    obtain ⟨j, q, rfl, hj, hall, rfl⟩ := hrel
    have HI : Hid (∀ f ∈ fs.take j, f.1.size + f.2.size ≤ 600) := hall
    clear hall
    by_cases hjl : j < m.n
    · have e0 : decide ((j : Int) < (m.n : Int)) = true := by simp; omega
      obtain ⟨f, hfj⟩ : ∃ f, fs[j]? = some f := ⟨_, List.getElem?_eq_getElem (by rw [HLN.out]; omega)⟩
      have hwf := HM.out.f f (List.mem_of_getElem? hfj)
      have HTJ : Hid (∀ g ∈ fs.take (j + 1), g = f ∨ g ∈ fs.take j) := by
        intro g hg
        rw [List.take_add_one, hfj] at hg
        simp at hg
        rcases hg with hg | hg
        · exact .inr hg
        · exact .inl hg
      obtain ⟨pn, pv⟩ := f
      obtain ⟨bp, op, hma, hpp⟩ : ∃ bp op, m.a = some ⟨bp, op, none⟩ ∧ ∀ i f, fs[i]? = some f → V0.cell? ⟨bp, op + i * 2, none⟩ = some (.string f.1) ∧ V0.cell? ⟨bp, op + i * 2 + 1, none⟩ = some (.string f.2) := by
        rcases HR2.out with h | h
        · rw [h] at hfj; simp at hfj
        · exact h
      obtain ⟨g1, g2⟩ := hpp j _ hfj
      rw [hma] at K6
      clear hpp hfj
      simp only at g1 g2 hwf
      obtain ⟨w1, w2⟩ := hwf
      have hsum : IntKind.i64.wrap ((pn.size : Int) + (pv.size : Int)) = (pn.size : Int) + (pv.size : Int) := by rw [IntKind.wrap_i64]; omega
      by_cases h5 : 600 < pn.size + pv.size
      · have e5 : decide ((600 : Int) < (pn.size : Int) + (pv.size : Int)) = true := by simp; omega
        go_wp2
        go_quiet (fail)
        go_wp2
        go_ret
        exact ⟨true, rfl, by first | exact below_drewN (below_drewN HB.out _) _ | exact below_drewN HB.out _, fun h => by cases h⟩
      · have e5 : decide ((600 : Int) < (pn.size : Int) + (pv.size : Int)) = false := by simp; omega
        go_wp2
        go_quiet (fail)
        go_wp2
        go_roundw
        case rel =>
          refine ⟨j + 1, _, by go_num, by omega, ?_, rfl⟩
          intro g hg
          rcases HTJ.out g hg with rfl | h
          · simp only; omega
          · exact HI.out g h
        case measure => simp [intOf]; omega
    · obtain rfl : j = m.n := by omega
      have e0 : decide ((m.n : Int) < (m.n : Int)) = false := by simp
      have HX : Hid (MFit m fs) := by
        have hh := HI.out
        rw [List.take_of_length_le (by rw [HLN.out]; exact Nat.le_refl _)] at hh
        exact ⟨HLN.out, fun f hf => by have := hh f hf; omega, by omega, by omega, by omega, by omega, by omega, HM.out.i2, HM.out.i3, HM.out.i4, HM.out.i7, HM.out.i8⟩
      go_wp2
      go_ret
      exact ⟨false, rfl, below_drewN HB.out _, fun _ => HX.out⟩
/-- The eight. -/
def methA : Array Value := #[.string ⟨#[65, 68, 68]⟩, .string ⟨#[67, 65, 78, 67, 69, 76]⟩, .string ⟨#[67, 79, 85, 78, 84, 69, 82]⟩, .string ⟨#[68, 69, 67, 76, 73, 78, 69, 67, 79, 85, 78, 84, 69, 82]⟩, .string ⟨#[80, 85, 66, 76, 73, 83, 72]⟩, .string ⟨#[82, 69, 70, 82, 69, 83, 72]⟩, .string ⟨#[82, 69, 80, 76, 89]⟩, .string ⟨#[82, 69, 81, 85, 69, 83, 84]⟩]
set_option maxHeartbeats 4000000 in
set_option maxRecDepth 100000 in
theorem methods_any (w : World) : Calls Tryd.prog 11 #[] w fun e w' => e = .returned (.slice (some ⟨w.heap.size, 0, none⟩) 8 8) ∧ w' = w.alloc (.cells #[.string ⟨#[65, 68, 68]⟩, .string ⟨#[67, 65, 78, 67, 69, 76]⟩, .string ⟨#[67, 79, 85, 78, 84, 69, 82]⟩, .string ⟨#[68, 69, 67, 76, 73, 78, 69, 67, 79, 85, 78, 84, 69, 82]⟩, .string ⟨#[80, 85, 66, 76, 73, 83, 72]⟩, .string ⟨#[82, 69, 70, 82, 69, 83, 72]⟩, .string ⟨#[82, 69, 80, 76, 89]⟩, .string ⟨#[82, 69, 81, 85, 69, 83, 84]⟩] 9) := by
  go_enter Tryd.func11, Tryd.ntmps11
  go_wp2
  go_ret
  exact ⟨rfl, rfl⟩
/-- The fixed message, its attendee in the block b. -/
def fixM (b : Nat) : Msg := ⟨⟨#[82, 69, 81, 85, 69, 83, 84]⟩, ⟨#[117]⟩, 0, 0, -1, ⟨#[111, 64, 120]⟩, some ⟨b, 0, none⟩, 1, 1, 0, 60, ⟨#[115]⟩, ⟨#[]⟩⟩
def fixF : List (ByteArray × ByteArray) := [(⟨#[97, 64, 120]⟩, ⟨#[78, 69, 69, 68, 83, 45, 65, 67, 84, 73, 79, 78]⟩)]
set_option maxHeartbeats 4000000 in
set_option maxRecDepth 100000 in
theorem message_any (w : World) : Calls Tryd.prog 21 #[] w fun e w' => ∃ b, e = .returned (msgV (fixM b)) ∧ Below w.heap.size w w' ∧ FRow w' (some ⟨b, 0, none⟩) fixF := by
  go_enter Tryd.func21, Tryd.ntmps21
  go_wp2
  (try simp only [Exit.inBlock, Exit.then])
  refine bodyPost_ret (v := msgV (fixM (w.heap.size + 1))) (by simp [results, Tryd.results21, go_sem, msgV, fixM]) rfl ⟨w.heap.size + 1, rfl, (keep w _).trans ((keep _ _).mono (by simp)), ?_⟩
  refine .inr ⟨w.heap.size + 1, 0, rfl, fun i f hf => ?_⟩
  cases i with
  | zero =>
    simp only [fixF, List.getElem?_cons_zero, Option.some.injEq] at hf
    subst hf
    constructor
    · simp [go_sem]
    · simp [go_sem]
  | succ i => simp [fixF] at hf
/-- The fixed message's second form. -/
def fixN : Msg := ⟨⟨#[82, 69, 80, 76, 89]⟩, ⟨#[117]⟩, 0, 0, -1, ⟨#[111, 64, 120]⟩, none, 0, 0, 0, 60, ⟨#[115]⟩, ⟨#[]⟩⟩
theorem fix_fit (b : Nat) : MFit (fixM b) fixF := ⟨rfl, fun f hf => by
    simp only [fixF, List.mem_singleton] at hf
    subst hf
    exact ⟨by decide, by decide⟩, of_decide_eq_true (by kernel_rfl), of_decide_eq_true (by kernel_rfl), of_decide_eq_true (by kernel_rfl), of_decide_eq_true (by kernel_rfl), of_decide_eq_true (by kernel_rfl), ⟨of_decide_eq_true (by kernel_rfl), of_decide_eq_true (by kernel_rfl)⟩, ⟨of_decide_eq_true (by kernel_rfl), of_decide_eq_true (by kernel_rfl)⟩, ⟨of_decide_eq_true (by kernel_rfl), of_decide_eq_true (by kernel_rfl)⟩, ⟨of_decide_eq_true (by kernel_rfl), of_decide_eq_true (by kernel_rfl)⟩, ⟨of_decide_eq_true (by kernel_rfl), of_decide_eq_true (by kernel_rfl)⟩⟩
theorem fixN_fit : MFit fixN [] := ⟨rfl, fun f hf => (by cases hf), by decide, by decide, by decide, by decide, by decide, ⟨by decide, by decide⟩, ⟨by decide, by decide⟩, ⟨by decide, by decide⟩, ⟨by decide, by decide⟩, ⟨by decide, by decide⟩⟩
theorem fix_check (b : Nat) : checkZ (fixM b) fixF = 0 := by kernel_rfl
theorem fix_send (b : Nat) : sendZ (fixM b) fixF = ⟨#[111, 64, 120]⟩ := by kernel_rfl
theorem fixN_check : checkZ fixN [] = 131 := by kernel_rfl
theorem role_reply : roleZ (nums ⟨#[82, 69, 80, 76, 89]⟩) = 2 := by kernel_rfl
set_option maxHeartbeats 8000000 in
set_option maxRecDepth 100000 in
theorem alive_any (w : World) : Calls Tryd.prog 10 #[] w fun e w' => e = .returned (.bool true) ∧ Below w.heap.size w w' := by
  go_enter Tryd.func10, Tryd.ntmps10
  go_wp2_with fail
  refine (message_any _).mono ?_
  rintro e V1 ⟨b, rfl, hb1, hf1⟩
  have hs1 := hb1.size
  have HA : Hid (MAt (V1.alloc (.cells #[.string ⟨#[82, 69, 81, 85, 69, 83, 84]⟩, .string ⟨#[117]⟩, .int .i64 0, .int .i64 0, .int .i64 (-1), .string ⟨#[111, 64, 120]⟩, .slice (some ⟨b, 0, none⟩) 1 1, .int .i64 0, .int .i64 60, .string ⟨#[115]⟩, .string ⟨#[]⟩] 24)) V1.heap.size (fixM b)) := mat_new V1 (fixM b)
  have hcall := sender_any (fixM b) fixF (V1.alloc (.cells #[.string ⟨#[82, 69, 81, 85, 69, 83, 84]⟩, .string ⟨#[117]⟩, .int .i64 0, .int .i64 0, .int .i64 (-1), .string ⟨#[111, 64, 120]⟩, .slice (some ⟨b, 0, none⟩) 1 1, .int .i64 0, .int .i64 60, .string ⟨#[115]⟩, .string ⟨#[]⟩] 24)) (FRow.below (w := V1) (a := (fixM b).a) hf1 (keep V1 _)) (fix_fit b)
  have HB1 : Hid (Below w.heap.size w V1) := hb1
  rw [fix_check, fix_send] at hcall
  unfold msgV fixM at hcall ⊢
  simp only at hcall
  clear hb1 hf1
  go_wp2_with fail
  refine hcall.mono ?_
  clear hcall
  rintro e V2 ⟨rfl, hb2⟩
  have hbk : V2.heap[V1.heap.size]? = some (.cells #[.string ⟨#[82, 69, 81, 85, 69, 83, 84]⟩, .string ⟨#[117]⟩, .int .i64 0, .int .i64 0, .int .i64 (-1), .string ⟨#[111, 64, 120]⟩, .slice (some ⟨b, 0, none⟩) 1 1, .int .i64 0, .int .i64 60, .string ⟨#[115]⟩, .string ⟨#[]⟩] 24 (0, 0)) := (hb2.block _ (by simp)).trans (heap_alloc_last V1 _)
  have HK : Hid (V2.heap[V1.heap.size]? = some (.cells #[.string ⟨#[82, 69, 81, 85, 69, 83, 84]⟩, .string ⟨#[117]⟩, .int .i64 0, .int .i64 0, .int .i64 (-1), .string ⟨#[111, 64, 120]⟩, .slice (some ⟨b, 0, none⟩) 1 1, .int .i64 0, .int .i64 60, .string ⟨#[115]⟩, .string ⟨#[]⟩] 24 (0, 0))) := hbk
  have HB2 : Hid (Below w.heap.size w V2) := (HB1.out.alloc hs1 _).trans (hb2.mono (by simp; omega))
  have f0 : V2.frozen? ⟨V1.heap.size, 0, none⟩ = false := frozen_of_row _ _ _ _ _ hbk
  have f6 : V2.frozen? ⟨V1.heap.size, 6, none⟩ = false := frozen_of_row _ _ _ _ _ hbk
  have c0 : V2.cell? ⟨V1.heap.size, 0, none⟩ = some (.string ⟨#[82, 69, 81, 85, 69, 83, 84]⟩) := (cell_of_row _ _ 0 _ _ _ hbk).trans rfl
  have c1 : V2.cell? ⟨V1.heap.size, 1, none⟩ = some (.string ⟨#[117]⟩) := (cell_of_row _ _ 1 _ _ _ hbk).trans rfl
  have c2 : V2.cell? ⟨V1.heap.size, 2, none⟩ = some (.int .i64 0) := (cell_of_row _ _ 2 _ _ _ hbk).trans rfl
  have c3 : V2.cell? ⟨V1.heap.size, 3, none⟩ = some (.int .i64 0) := (cell_of_row _ _ 3 _ _ _ hbk).trans rfl
  have c4 : V2.cell? ⟨V1.heap.size, 4, none⟩ = some (.int .i64 (-1)) := (cell_of_row _ _ 4 _ _ _ hbk).trans rfl
  have c5 : V2.cell? ⟨V1.heap.size, 5, none⟩ = some (.string ⟨#[111, 64, 120]⟩) := (cell_of_row _ _ 5 _ _ _ hbk).trans rfl
  have c6 : V2.cell? ⟨V1.heap.size, 6, none⟩ = some (.slice (some ⟨b, 0, none⟩) 1 1) := (cell_of_row _ _ 6 _ _ _ hbk).trans rfl
  have c7 : V2.cell? ⟨V1.heap.size, 7, none⟩ = some (.int .i64 0) := (cell_of_row _ _ 7 _ _ _ hbk).trans rfl
  have c8 : V2.cell? ⟨V1.heap.size, 8, none⟩ = some (.int .i64 60) := (cell_of_row _ _ 8 _ _ _ hbk).trans rfl
  have c9 : V2.cell? ⟨V1.heap.size, 9, none⟩ = some (.string ⟨#[115]⟩) := (cell_of_row _ _ 9 _ _ _ hbk).trans rfl
  have c10 : V2.cell? ⟨V1.heap.size, 10, none⟩ = some (.string ⟨#[]⟩) := (cell_of_row _ _ 10 _ _ _ hbk).trans rfl
  clear hbk hb2
  go_wp2_with fail
  have hcall := check_any fixN [] ((V2.setCell ⟨V1.heap.size, 0, none⟩ (.string ⟨#[82, 69, 80, 76, 89]⟩)).setCell ⟨V1.heap.size, 6, none⟩ (.slice none 0 0)) (.inl rfl) fixN_fit
  rw [fixN_check] at hcall
  unfold msgV fixN at hcall
  simp only at hcall
  refine hcall.mono ?_
  clear hcall
  rintro e V3 ⟨rfl, hb3⟩
  have HB3 : Hid (Below w.heap.size w V3) := ((HB2.out.setCell (p := ⟨V1.heap.size, 0, none⟩) hs1 _).setCell (p := ⟨V1.heap.size, 6, none⟩) hs1 _).trans (hb3.mono (by simp; exact HB2.out.size))
  clear hb3 c0 c1 c2 c3 c4 c5 c6 c7 c8 c9 c10 f0 f6
  go_wp2_with fail
  refine (newer_any 1 0 0 9 _).mono ?_
  rintro e V4 ⟨rfl, hb4⟩
  have HB4 : Hid (Below w.heap.size w V4) := HB3.out.trans (hb4.mono HB3.out.size)
  clear hb4
  rw [show newZ 1 0 0 9 = true from rfl]
  go_wp2_with fail
  refine (role_any _ _).mono ?_
  rintro e V5 ⟨rfl, hb5⟩
  rw [role_reply]
  have HB5 : Hid (Below w.heap.size w V5) := HB4.out.trans (hb5.mono HB4.out.size)
  clear hb5
  go_wp2_with fail
  refine (methods_any _).mono ?_
  rintro e V6 ⟨rfl, rfl⟩
  go_wp2
  go_ret
  exact ⟨rfl, HB5.out.alloc HB5.out.size _⟩
end Go.Proofs.YtdmcibopcflbbaaDoor
