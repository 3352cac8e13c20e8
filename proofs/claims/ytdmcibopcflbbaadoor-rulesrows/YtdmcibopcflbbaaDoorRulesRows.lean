/-
  For every message the statement RulesRows of the given rows holds: what may be a COUNTER, and is answered, may be a REPLY, what may be a REQUEST, and has a Recur, an ADD, and all that may be anything a CANCEL (a tied card: the listed tables are tied to the program; no other condition).
-/
import Derived.Test.YtdmcibopcflbbaaDoorCards
import Derived.Test.YtdmcibopcflbbaaDoorTie
import Derived.Test.YtdmcibopcflbbaaDoorAr
import Derived.WalkKit
import Derived.ProofKit
import Derived.OpenShut
import Derived.ShutString
import Derived.ChangeOld
import Derived.Below
import Derived.LaidMore
import Derived.Lay
import Derived.SevenTiedAt
import Derived.Stop.Joined
import Derived.SizedLaws
namespace Go.Proofs.YtdmcibopcflbbaaDoor.rulesRows
open Go.ChangeShapes Go.WideShapes Go.ChangeAt Go.RowKit
open Go.ChangeMaps (open_string shut_string)
set_option linter.unusedVariables false

theorem role_three (t : List Int) : roleZ t = 0 ∨ roleZ t = 1 ∨ roleZ t = 2 := by
  unfold roleZ askZ
  repeat' (first | split | (exact .inl rfl) | (exact .inr (.inl rfl)) | (exact .inr (.inr rfl)))
theorem rest_meth (m : Msg) (fs : List (ByteArray × ByteArray)) (t : ByteArray) : restM { m with meth := t } fs = restM m fs := rfl
theorem right_n {m : Msg} {fs : List (ByteArray × ByteArray)} (hl : fs.length = m.n) (h : rightM m fs = true) : m.n ≤ 32 ∧ restM m fs = true := by
  have h' := h
  unfold rightM at h'
  simp only [Bool.and_eq_true] at h'
  refine ⟨?_, h'.2⟩
  have h2 := h'.2
  unfold restM attsZ numsP at h2
  simp only [Bool.and_eq_true, decide_eq_true_eq, List.length_map] at h2
  omega
theorem check_mk {m : Msg} {fs : List (ByteArray × ByteArray)} (t : ByteArray) (h : restM m fs = true) (ho : m.org.size ≠ 0) (hm : methZ (nums t) = true) (hr : (askZ (nums t)).role ≠ 0) (hl : (askZ (nums t)).least ≤ (m.n : Int)) (hmo : (m.n : Int) ≤ (askZ (nums t)).most)
    (ha : ¬ ((askZ (nums t)).ans = true ∧ firstZ fs = true)) (hrc : ¬ ((askZ (nums t)).rc = true ∧ m.recur = -1)) (hst : ¬ ((askZ (nums t)).st = true ∧ m.start = -1)) (hno : ¬ ((askZ (nums t)).nost = true ∧ m.start ≠ -1)) : checkZ { m with meth := t } fs = 0 := by
  have hri : rightM { m with meth := t } fs = true := by unfold rightM; rw [rest_meth, h, hm]; rfl
  unfold checkZ checkD
  rw [if_neg (by rw [hri]; simp), if_neg hr, if_neg ho, if_neg (by simp only; omega), if_neg (by simp only; omega), if_neg ha, if_neg hrc, if_neg hst, if_neg hno]
theorem fit_meth {m : Msg} {fs : List (ByteArray × ByteArray)} (h : MFit m fs) (t : ByteArray) (ht : t.size ≤ 140737488355328) : MFit { m with meth := t } fs := ⟨h.l, h.f, ht, h.s1, h.s5, h.s9, h.s10, h.i2, h.i3, h.i4, h.i7, h.i8⟩
theorem mat_set {V : World} {g : Nat} {m : Msg} (h : MAt V g m) (t : ByteArray) : MAt (V.setCell ⟨g, 0, none⟩ (.string t)) g { m with meth := t } := by
  obtain ⟨h0, k0, k1, k2, k3, k4, k5, k6, k7, k8, k9, k10⟩ := h
  exact ⟨by simpa using h0, World.cell?_setCell_same _ _ _ (by rw [k0]), (World.cell?_setCell_other _ _ _ _ (by simp)).trans k1, (World.cell?_setCell_other _ _ _ _ (by simp)).trans k2, (World.cell?_setCell_other _ _ _ _ (by simp)).trans k3, (World.cell?_setCell_other _ _ _ _ (by simp)).trans k4, (World.cell?_setCell_other _ _ _ _ (by simp)).trans k5, (World.cell?_setCell_other _ _ _ _ (by simp)).trans k6, (World.cell?_setCell_other _ _ _ _ (by simp)).trans k7, (World.cell?_setCell_other _ _ _ _ (by simp)).trans k8, (World.cell?_setCell_other _ _ _ _ (by simp)).trans k9, (World.cell?_setCell_other _ _ _ _ (by simp)).trans k10⟩
set_option maxHeartbeats 8000000 in
set_option maxRecDepth 100000 in
theorem walk (m : Msg) (fs : List (ByteArray × ByteArray)) (w : World) (hr : FRow w m.a fs) (hm : MWide m fs) :
    Calls Tryd.prog 6 #[msgV m] w fun e w' => e = .returned (.bool true) ∧ Below w.heap.size w w' := by
  have HR : Hid (FRow w m.a fs) := hr
  have HW : Hid (MWide m fs) := hm
  clear hr hm
  unfold msgV
  go_enter Tryd.func6, Tryd.ntmps6
  go_wp2_with fail
  have HA : Hid (MAt (w.alloc (.cells #[.string m.meth, .string m.uid, .int .i64 m.seq, .int .i64 m.stamp, .int .i64 m.recur, .string m.org, .slice m.a m.n m.c, .int .i64 m.start, .int .i64 m.fin, .string m.sum, .string m.com] 24)) w.heap.size m) := mat_new w m
  have HB : Hid (Below w.heap.size w (w.alloc (.cells #[.string m.meth, .string m.uid, .int .i64 m.seq, .int .i64 m.stamp, .int .i64 m.recur, .string m.org, .slice m.a m.n m.c, .int .i64 m.start, .int .i64 m.fin, .string m.sum, .string m.com] 24))) := keep w _
  generalize w.alloc (.cells #[.string m.meth, .string m.uid, .int .i64 m.seq, .int .i64 m.stamp, .int .i64 m.recur, .string m.org, .slice m.a m.n m.c, .int .i64 m.start, .int .i64 m.fin, .string m.sum, .string m.com] 24) = V0 at HA HB ⊢
  have hcall := great_any m fs V0 (HR.out.below HB.out) HW.out
  unfold msgV at hcall
  refine hcall.mono ?_
  clear hcall
  rintro e V1 ⟨b, rfl, hb, hfit⟩
  replace HA : Hid (MAt V1 w.heap.size m) := HA.out.below hb
  replace HB : Hid (Below w.heap.size w V1) := HB.out.trans (hb.mono HB.out.size)
  clear hb
  cases b with
  | true =>
    go_wp2_with fail
    refine (alive_any _).mono ?_
    rintro e V2 ⟨rfl, hb⟩
    replace HA : Hid (MAt V2 w.heap.size m) := HA.out.below hb
    replace HB : Hid (Below w.heap.size w V2) := HB.out.trans (hb.mono HB.out.size)
    clear hb
    go_wp2
    go_ret
    exact ⟨rfl, HB.out⟩
  | false =>
    have HM : Hid (MFit m fs) := hfit rfl
    clear hfit
    obtain ⟨_, K0, K1, K2, K3, K4, K5, K6, K7, K8, K9, K10⟩ := HA.out
    go_wp2_with fail
    clear K0 K1 K2 K3 K4 K5 K6 K7 K8 K9 K10
    have hcall := check_any m fs _ (HR.out.below HB.out) HM.out
    unfold msgV at hcall
    refine hcall.mono ?_
    clear hcall
    rintro e V3 ⟨rfl, hb⟩
    replace HA : Hid (MAt V3 w.heap.size m) := HA.out.below hb
    replace HB : Hid (Below w.heap.size w V3) := HB.out.trans (hb.mono HB.out.size)
    clear hb
    by_cases hc : checkZ m fs = 0
    · have hq : (checkZ m fs != 0) = false := by simpa using hc
      obtain ⟨o0, o1, o2, o3, o4, o5, o6, o7, o8⟩ := check_ok hc
      obtain ⟨hn32, hrest⟩ := right_n HM.out.l o0
      have HCC : Hid (checkZ { m with meth := ⟨#[67, 65, 78, 67, 69, 76]⟩ } fs = 0) := check_mk _ hrest o2 (by kernel_rfl) (by decide) (by show (0 : Int) ≤ _; omega) (by show _ ≤ (32 : Int); omega) (fun h => by cases h.1) (fun h => by cases h.1) (fun h => by cases h.1) (fun h => by cases h.1)
      have HO : Hid ((askZ (nums m.meth)).role ≠ 0 ∧ m.org.size ≠ 0 ∧ (askZ (nums m.meth)).least ≤ (m.n : Int) ∧ (m.n : Int) ≤ (askZ (nums m.meth)).most ∧ ¬ ((askZ (nums m.meth)).ans = true ∧ firstZ fs = true) ∧ ¬ ((askZ (nums m.meth)).rc = true ∧ m.recur = -1) ∧ ¬ ((askZ (nums m.meth)).st = true ∧ m.start = -1) ∧ ¬ ((askZ (nums m.meth)).nost = true ∧ m.start ≠ -1) ∧ m.n ≤ 32 ∧ restM m fs = true) := ⟨o1, o2, o3, o4, o5, o6, o7, o8, hn32, hrest⟩
      clear o0 o1 o2 o3 o4 o5 o6 o7 o8 hn32 hrest hc
      obtain ⟨_, K0, K1, K2, K3, K4, K5, K6, K7, K8, K9, K10⟩ := HA.out
      go_wp2_with fail
      clear K0 K1 K2 K3 K4 K5 K6 K7 K8 K9 K10
      have HK : Hid ((V3.alloc (.cells #[.string ⟨#[67, 65, 78, 67, 69, 76]⟩, .string m.uid, .int .i64 m.seq, .int .i64 m.stamp, .int .i64 m.recur, .string m.org, .slice m.a m.n m.c, .int .i64 m.start, .int .i64 m.fin, .string m.sum, .string m.com] 24)).heap[V3.heap.size]? = some (.cells #[.string ⟨#[67, 65, 78, 67, 69, 76]⟩, .string m.uid, .int .i64 m.seq, .int .i64 m.stamp, .int .i64 m.recur, .string m.org, .slice m.a m.n m.c, .int .i64 m.start, .int .i64 m.fin, .string m.sum, .string m.com] 24 (0, 0))) := heap_alloc_last V3 _
      have HCA : Hid (MAt (V3.alloc (.cells #[.string ⟨#[67, 65, 78, 67, 69, 76]⟩, .string m.uid, .int .i64 m.seq, .int .i64 m.stamp, .int .i64 m.recur, .string m.org, .slice m.a m.n m.c, .int .i64 m.start, .int .i64 m.fin, .string m.sum, .string m.com] 24)) V3.heap.size { m with meth := ⟨#[67, 65, 78, 67, 69, 76]⟩ }) := mat_new V3 { m with meth := ⟨#[67, 65, 78, 67, 69, 76]⟩ }
      have hltC : w.heap.size < V3.heap.size := HA.out.1
      replace HA : Hid (MAt (V3.alloc (.cells #[.string ⟨#[67, 65, 78, 67, 69, 76]⟩, .string m.uid, .int .i64 m.seq, .int .i64 m.stamp, .int .i64 m.recur, .string m.org, .slice m.a m.n m.c, .int .i64 m.start, .int .i64 m.fin, .string m.sum, .string m.com] 24)) w.heap.size m) := HA.out.below (keep V3 _)
      have hsv := HB.out.size
      replace HB : Hid (Below w.heap.size w (V3.alloc (.cells #[.string ⟨#[67, 65, 78, 67, 69, 76]⟩, .string m.uid, .int .i64 m.seq, .int .i64 m.stamp, .int .i64 m.recur, .string m.org, .slice m.a m.n m.c, .int .i64 m.start, .int .i64 m.fin, .string m.sum, .string m.com] 24))) := HB.out.alloc hsv _
      obtain ⟨C, hC⟩ : ∃ C, V3.heap.size = C := ⟨_, rfl⟩
      rw [hC] at HK HCA hsv hltC ⊢
      generalize (V3.alloc (.cells #[.string ⟨#[67, 65, 78, 67, 69, 76]⟩, .string m.uid, .int .i64 m.seq, .int .i64 m.stamp, .int .i64 m.recur, .string m.org, .slice m.a m.n m.c, .int .i64 m.start, .int .i64 m.fin, .string m.sum, .string m.com] 24)) = X at HK HCA HA HB ⊢
      clear hC
      have hcall := check_any { m with meth := ⟨#[67, 65, 78, 67, 69, 76]⟩ } fs X (HR.out.below HB.out) (fit_meth HM.out _ (by decide))
      rw [HCC.out] at hcall
      unfold msgV at hcall
      refine hcall.mono ?_
      clear hcall
      rintro e V4 ⟨rfl, hb⟩
      replace HK : Hid (V4.heap[C]? = some (.cells #[.string ⟨#[67, 65, 78, 67, 69, 76]⟩, .string m.uid, .int .i64 m.seq, .int .i64 m.stamp, .int .i64 m.recur, .string m.org, .slice m.a m.n m.c, .int .i64 m.start, .int .i64 m.fin, .string m.sum, .string m.com] 24 (0, 0))) := (hb.block _ HCA.out.1).trans HK.out
      replace HA : Hid (MAt V4 w.heap.size m) := HA.out.below hb
      replace HCA : Hid (MAt V4 C { m with meth := ⟨#[67, 65, 78, 67, 69, 76]⟩ }) := HCA.out.below hb
      replace HB : Hid (Below w.heap.size w V4) := HB.out.trans (hb.mono HB.out.size)
      clear hb
      have hfz : V4.frozen? ⟨C, 0, none⟩ = false := frozen_of_row _ _ _ _ _ HK.out
      have hcz : V4.cell? ⟨C, 0, none⟩ = some (.string ⟨#[67, 65, 78, 67, 69, 76]⟩) := HCA.out.2.1
      obtain ⟨_, K0, _, _, _, K4, _, K6, _, _, _, _⟩ := HA.out
      cases e1 : (m.meth.toList == [67, 79, 85, 78, 84, 69, 82]) with
      | true =>
        have hme : nums m.meth = mCOU := by have h := e1; rw [eq_list, decide_eq_true_eq] at h; exact h
        have e2 : (m.meth.toList == [82, 69, 81, 85, 69, 83, 84]) = false := by rw [eq_list, hme]; rfl
        obtain ⟨o1, o2, o3, o4, o5, o6, o7, o8, hn32, hrest⟩ := HO.out
        rw [hme] at o3 o4 o7
        have hn1 : m.n = 1 := by
          have a1 : (1 : Int) ≤ (m.n : Int) := o3
          have a2 : (m.n : Int) ≤ 1 := o4
          omega
        obtain ⟨f, fr, hfs⟩ : ∃ f fr, fs = f :: fr := by
          cases hq : fs with
          | nil => have := HM.out.l; rw [hq] at this; simp at this; omega
          | cons f fr => exact ⟨f, fr, rfl⟩
        obtain ⟨b, off, hma, hcf⟩ : ∃ b off, m.a = some ⟨b, off, none⟩ ∧ V4.cell? ⟨b, off + 1, none⟩ = some (.string f.2) := by
          rcases HR.out.below HB.out with h | ⟨b, off, ha, h⟩
          · rw [hfs] at h; cases h
          · exact ⟨b, off, ha, by have := (h 0 f (by rw [hfs]; rfl)).2; simpa using this⟩
        have hfz2 : firstZ fs = (f.2.toList == [78, 69, 69, 68, 83, 45, 65, 67, 84, 73, 79, 78]) := by rw [eq_list, hfs]; rfl
        have HN1 : Hid (m.n = 1) := hn1
        rw [hma, hn1] at K6
        clear hma
        cases e5 : (f.2.toList == [78, 69, 69, 68, 83, 45, 65, 67, 84, 73, 79, 78]) with
        | false =>
          have HZ : Hid (checkZ { m with meth := ⟨#[82, 69, 80, 76, 89]⟩ } fs = 0) := check_mk _ hrest o2 (by kernel_rfl) (by decide) (by show (1 : Int) ≤ _; omega) (by show _ ≤ (1 : Int); omega) (fun h => by have := h.2; rw [hfz2, e5] at this; cases this) (fun h => by cases h.1) (fun h => by cases h.1) (fun h => by cases h.1)
          clear o1 o2 o3 o4 o5 o6 o7 o8 hn32 hrest hn1 hfs hme hfz2
          have HCB : Hid (MAt (V4.setCell ⟨C, 0, none⟩ (.string ⟨#[82, 69, 80, 76, 89]⟩)) C { m with meth := ⟨#[82, 69, 80, 76, 89]⟩ }) := mat_set HCA.out ⟨#[82, 69, 80, 76, 89]⟩
          have KK0 : (V4.setCell ⟨C, 0, none⟩ (.string ⟨#[82, 69, 80, 76, 89]⟩)).cell? ⟨w.heap.size, 0, none⟩ = some (.string m.meth) := (World.cell?_setCell_other _ _ _ _ (by simp <;> omega)).trans K0
          have KK4 : (V4.setCell ⟨C, 0, none⟩ (.string ⟨#[82, 69, 80, 76, 89]⟩)).cell? ⟨w.heap.size, 4, none⟩ = some (.int .i64 m.recur) := (World.cell?_setCell_other _ _ _ _ (by simp <;> omega)).trans K4
          have HBB : Hid (Below w.heap.size w (V4.setCell ⟨C, 0, none⟩ (.string ⟨#[82, 69, 80, 76, 89]⟩))) := HB.out.setCell (p := ⟨C, 0, none⟩) hsv _
          go_wp2_with fail
          refine (alive_any _).mono ?_
          rintro e Y ⟨rfl, hb⟩
          replace HCB : Hid (MAt Y C { m with meth := ⟨#[82, 69, 80, 76, 89]⟩ }) := HCB.out.below hb
          replace HBB : Hid (Below w.heap.size w Y) := HBB.out.trans (hb.mono HBB.out.size)
          clear hb
          obtain ⟨_, Z0, Z1, Z2, Z3, Z4, Z5, Z6, Z7, Z8, Z9, Z10⟩ := HCB.out
          simp only at Z0 Z1 Z2 Z3 Z4 Z5 Z6 Z7 Z8 Z9 Z10
          clear hfz hcz
          go_wp2_with fail
          have hcall := check_any { m with meth := ⟨#[82, 69, 80, 76, 89]⟩ } fs Y (HR.out.below HBB.out) (fit_meth HM.out _ (by decide))
          rw [HZ.out] at hcall
          unfold msgV at hcall
          refine hcall.mono ?_
          clear hcall
          rintro e Y2 ⟨rfl, hb⟩
          go_wp2
          go_ret
          exact ⟨rfl, HBB.out.trans (hb.mono HBB.out.size)⟩
        | true =>
          clear o1 o2 o3 o4 o5 o6 o7 o8 hn32 hrest hn1 hfs hme hfz2
          have HCB : Hid (MAt V4 C { m with meth := ⟨#[67, 65, 78, 67, 69, 76]⟩ }) := HCA.out
          have HBB : Hid (Below w.heap.size w V4) := HB.out
          go_wp2_with fail
          refine (alive_any _).mono ?_
          rintro e Y ⟨rfl, hb⟩
          replace HCB : Hid (MAt Y C { m with meth := ⟨#[67, 65, 78, 67, 69, 76]⟩ }) := HCB.out.below hb
          replace HBB : Hid (Below w.heap.size w Y) := HBB.out.trans (hb.mono HBB.out.size)
          clear hb
          obtain ⟨_, Z0, Z1, Z2, Z3, Z4, Z5, Z6, Z7, Z8, Z9, Z10⟩ := HCB.out
          simp only at Z0 Z1 Z2 Z3 Z4 Z5 Z6 Z7 Z8 Z9 Z10
          clear hfz hcz
          go_wp2_with fail
          have hcall := check_any { m with meth := ⟨#[67, 65, 78, 67, 69, 76]⟩ } fs Y (HR.out.below HBB.out) (fit_meth HM.out _ (by decide))
          rw [HCC.out] at hcall
          unfold msgV at hcall
          refine hcall.mono ?_
          clear hcall
          rintro e Y2 ⟨rfl, hb⟩
          go_wp2
          go_ret
          exact ⟨rfl, HBB.out.trans (hb.mono HBB.out.size)⟩
      | false =>
        cases e2 : (m.meth.toList == [82, 69, 81, 85, 69, 83, 84]) with
        | true =>
          have hme : nums m.meth = mREQ := by have h := e2; rw [eq_list, decide_eq_true_eq] at h; exact h
          by_cases hre : 0 ≤ m.recur
          · have d1 : decide (m.recur ≥ 0) = true := decide_eq_true hre
            obtain ⟨o1, o2, o3, o4, o5, o6, o7, o8, hn32, hrest⟩ := HO.out
            rw [hme] at o3 o4 o7
            have HZ : Hid (checkZ { m with meth := ⟨#[65, 68, 68]⟩ } fs = 0) := check_mk _ hrest o2 (by kernel_rfl) (by decide) o3 o4 (fun h => by cases h.1) (fun h => by have := h.2; omega) (fun h => o7 ⟨rfl, h.2⟩) (fun h => by cases h.1)
            clear o1 o2 o3 o4 o5 o6 o7 o8 hn32 hrest hme
            have HCB : Hid (MAt (V4.setCell ⟨C, 0, none⟩ (.string ⟨#[65, 68, 68]⟩)) C { m with meth := ⟨#[65, 68, 68]⟩ }) := mat_set HCA.out ⟨#[65, 68, 68]⟩
            have KK0 : (V4.setCell ⟨C, 0, none⟩ (.string ⟨#[65, 68, 68]⟩)).cell? ⟨w.heap.size, 0, none⟩ = some (.string m.meth) := (World.cell?_setCell_other _ _ _ _ (by simp <;> omega)).trans K0
            have KK4 : (V4.setCell ⟨C, 0, none⟩ (.string ⟨#[65, 68, 68]⟩)).cell? ⟨w.heap.size, 4, none⟩ = some (.int .i64 m.recur) := (World.cell?_setCell_other _ _ _ _ (by simp <;> omega)).trans K4
            have HBB : Hid (Below w.heap.size w (V4.setCell ⟨C, 0, none⟩ (.string ⟨#[65, 68, 68]⟩))) := HB.out.setCell (p := ⟨C, 0, none⟩) hsv _
            go_wp2_with fail
            refine (alive_any _).mono ?_
            rintro e Y ⟨rfl, hb⟩
            replace HCB : Hid (MAt Y C { m with meth := ⟨#[65, 68, 68]⟩ }) := HCB.out.below hb
            replace HBB : Hid (Below w.heap.size w Y) := HBB.out.trans (hb.mono HBB.out.size)
            clear hb
            obtain ⟨_, Z0, Z1, Z2, Z3, Z4, Z5, Z6, Z7, Z8, Z9, Z10⟩ := HCB.out
            simp only at Z0 Z1 Z2 Z3 Z4 Z5 Z6 Z7 Z8 Z9 Z10
            clear hfz hcz
            go_wp2_with fail
            have hcall := check_any { m with meth := ⟨#[65, 68, 68]⟩ } fs Y (HR.out.below HBB.out) (fit_meth HM.out _ (by decide))
            rw [HZ.out] at hcall
            unfold msgV at hcall
            refine hcall.mono ?_
            clear hcall
            rintro e Y2 ⟨rfl, hb⟩
            go_wp2
            go_ret
            exact ⟨rfl, HBB.out.trans (hb.mono HBB.out.size)⟩
          · have d1 : decide (m.recur ≥ 0) = false := decide_eq_false hre
            clear hme
            have HCB : Hid (MAt V4 C { m with meth := ⟨#[67, 65, 78, 67, 69, 76]⟩ }) := HCA.out
            have HBB : Hid (Below w.heap.size w V4) := HB.out
            go_wp2_with fail
            refine (alive_any _).mono ?_
            rintro e Y ⟨rfl, hb⟩
            replace HCB : Hid (MAt Y C { m with meth := ⟨#[67, 65, 78, 67, 69, 76]⟩ }) := HCB.out.below hb
            replace HBB : Hid (Below w.heap.size w Y) := HBB.out.trans (hb.mono HBB.out.size)
            clear hb
            obtain ⟨_, Z0, Z1, Z2, Z3, Z4, Z5, Z6, Z7, Z8, Z9, Z10⟩ := HCB.out
            simp only at Z0 Z1 Z2 Z3 Z4 Z5 Z6 Z7 Z8 Z9 Z10
            clear hfz hcz
            go_wp2_with fail
            have hcall := check_any { m with meth := ⟨#[67, 65, 78, 67, 69, 76]⟩ } fs Y (HR.out.below HBB.out) (fit_meth HM.out _ (by decide))
            rw [HCC.out] at hcall
            unfold msgV at hcall
            refine hcall.mono ?_
            clear hcall
            rintro e Y2 ⟨rfl, hb⟩
            go_wp2
            go_ret
            exact ⟨rfl, HBB.out.trans (hb.mono HBB.out.size)⟩
        | false =>
          have HCB : Hid (MAt V4 C { m with meth := ⟨#[67, 65, 78, 67, 69, 76]⟩ }) := HCA.out
          have HBB : Hid (Below w.heap.size w V4) := HB.out
          go_wp2_with fail
          refine (alive_any _).mono ?_
          rintro e Y ⟨rfl, hb⟩
          replace HCB : Hid (MAt Y C { m with meth := ⟨#[67, 65, 78, 67, 69, 76]⟩ }) := HCB.out.below hb
          replace HBB : Hid (Below w.heap.size w Y) := HBB.out.trans (hb.mono HBB.out.size)
          clear hb
          obtain ⟨_, Z0, Z1, Z2, Z3, Z4, Z5, Z6, Z7, Z8, Z9, Z10⟩ := HCB.out
          simp only at Z0 Z1 Z2 Z3 Z4 Z5 Z6 Z7 Z8 Z9 Z10
          clear hfz hcz
          go_wp2_with fail
          have hcall := check_any { m with meth := ⟨#[67, 65, 78, 67, 69, 76]⟩ } fs Y (HR.out.below HBB.out) (fit_meth HM.out _ (by decide))
          rw [HCC.out] at hcall
          unfold msgV at hcall
          refine hcall.mono ?_
          clear hcall
          rintro e Y2 ⟨rfl, hb⟩
          go_wp2
          go_ret
          exact ⟨rfl, HBB.out.trans (hb.mono HBB.out.size)⟩
    · have hq : (checkZ m fs != 0) = true := by simpa using hc
      clear hc
      go_wp2_with fail
      refine (alive_any _).mono ?_
      rintro e V4 ⟨rfl, hb⟩
      replace HA : Hid (MAt V4 w.heap.size m) := HA.out.below hb
      replace HB : Hid (Below w.heap.size w V4) := HB.out.trans (hb.mono HB.out.size)
      clear hb
      go_wp2
      go_ret
      exact ⟨rfl, HB.out⟩

set_option maxRecDepth 100000 in
theorem lifted (os : Os) (started : os.Started) (H : Type) (enc : TypeId × Value → H) :
    ReturnsInHanded {} Tryd.checked os 6 .any (fun w args => (Rows.rulesRowsSpec.pre enc Tryd.prog Tryd.f6 Rows.rulesRowsRow.domain false w args ∧ laidMetH Tryd.prog Rows.rulesRowsRow.laid w) ∧ sizedMet enc Tryd.prog Tryd.f6 (OpenSpec.ofChange Rows.rulesRowsSpec) false w args)
      (Rows.rulesRowsSpec.post enc Tryd.prog Tryd.f6 false true false false) := by
  refine returnsInHanded_of_change_and (C := Tryd.checked) (X := fun w _ => laidMetH Tryd.prog Rows.rulesRowsRow.laid w) (fun _ _ _ hh h => h.of_heap hh) own started (by kernel_rfl) Tryd.func6
    (ChangeSpec.witness_shaped (enc := enc) (C := Tryd.checked) (os := os) (X := fun w _ => laidMetH Tryd.prog Rows.rulesRowsRow.laid w) false (World.laidAll Tryd.prog os Rows.rulesRowsRow.laid) #[.agg #[.string ⟨#[]⟩, .string ⟨#[]⟩, .int .i64 0, .int .i64 0, .int .i64 0, .string ⟨#[]⟩, .slice none 0 0, .int .i64 0, .int .i64 0, .string ⟨#[]⟩, .string ⟨#[]⟩]] 8 (World.laidAll_os _ _ _)
      (World.shaped_of_ZipB (by kernel_rfl) (by kernel_rfl)) (by kernel_rfl) (by kernel_rfl) (by kernel_rfl)
      (by rw [MakeChecks.laidMetH_plain _ _ _ (by kernel_rfl)]; exact laidMet_laidAll _ (by kernel_rfl) (by kernel_rfl))) ?_
  intro W base args ds gs before hval0 hW hcnd hsz0 hL _
  have hval : ∀ (j : Nat) t v, Tryd.f6.params[j]? = some t → args[j]? = some v → Value.okWide Tryd.prog W .any base t v := hval0
  have hsz : (DataW.weightsEach Tryd.prog (Tryd.f6.params.toList ++ Rows.rulesRowsSpec.plain.varTypes Tryd.prog) (ds ++ gs)).all (· ≤ reachBytes) = true := hsz0
  have hW' := hW
  obtain ⟨p, q, hA0, hV, rfl, hfz, hnd⟩ := hW
  have hA : DataW.TrodAll enc Tryd.prog W 0 (fun _ => true) true Tryd.f6.params.toList args.toList ds p := hA0
  rw [Tryd.params6] at hA hval hsz
  obtain ⟨v0, vs0, d0, ds0, p0, q0, hargs, rfl, rfl, h0, r0⟩ := trodAll_cons hA
  obtain ⟨rfl, rfl, rfl⟩ := trodAll_nil r0
  obtain rfl : args = #[v0] := by cases args; simp_all
  obtain ⟨rfl, rfl⟩ := trodVars_none hV
  have k0 := h0
  have lt0 : ∀ x ∈ p0, x.block < W.heap.size := by obtain ⟨m, hm⟩ := k0; exact DataW.trod_lt m _ _ _ hm
  obtain ⟨m0, f0, rfl, g0, w0⟩ := msg_arg (hval 0 24 v0 rfl rfl) h0 (fun n hn => by simpa using List.all_eq_true.1 hsz n (DataW.weights_mem_each (j := 0) rfl rfl n hn))
  clear hA0 hval0
  refine (walk m0 f0 W g0 w0).mono fun e W' ⟨he, bel⟩ => ?_
  subst he
  exact ⟨_, rfl, _, _, _, [], _, [], hW', trodAll_mk1 (shut_bool Tryd.underlying4 _), (trodAll_cons_mk (Below.trod laidOut (by kernel_rfl) (of_decide_eq_true (by kernel_rfl)) k0 bel lt0) trodAll_mk0), rfl, bel.frame _, fun h => by cases h⟩

theorem over : Rows.RulesRowsSaid :=
  OpenClaim.holds_of_wide 6 Tryd.f6 rfl rfl rfl rfl rfl rfl rfl ⟨rfl, rfl, rfl, rfl, rfl⟩ rfl rfl rfl rfl rfl (by kernel_rfl) Tryd.func6 (by kernel_rfl)
    (of_decide_eq_true (by kernel_rfl)) (by unfold Func.isWrapper; first | (rw [if_pos (by decide +kernel)]; kernel_rfl) | (rw [if_neg (by decide +kernel)]; exact ⟨rfl, rfl⟩))
    (fun os started H enc _ => lifted os started H enc)
end Go.Proofs.YtdmcibopcflbbaaDoor.rulesRows
namespace Go.Proofs.YtdmcibopcflbbaaDoor
theorem rulesRows_card : Rows.RulesRowsCardSaid :=
  Claim7.holds_tied_plain_at .later [] _ _ _ _ rulesRows.over (fun _ h => by cases h) (by kernel_rfl) (fun _ h => by cases h) rulesRows_row_tie rfl ⟨rfl, rfl⟩ (by kernel_rfl) rfl
    (fun f fn hf hfn => by
      obtain rfl : f = 6 := Option.some.inj ((show Tryd.prog.funcNamed Rows.rulesRowsRow.func = some 6 by kernel_rfl).symm.trans hf) |>.symm
      obtain rfl : fn = Tryd.f6 := (Option.some.inj (Tryd.func6.symm.trans hfn)).symm
      exact ⟨by kernel_rfl, fun j t ht => by
        rw [Tryd.params6] at ht
        have hm : t ∈ [24] := by simpa using Array.mem_of_getElem? ht
        have hall : ([24].all fun u => !Tryd.prog.wantsStandIn u) = true := by kernel_rfl
        exact (show Tryd.prog.wantsStandIn t = false by simpa using List.all_eq_true.1 hall t hm)⟩)
    (by kernel_rfl)
#print axioms rulesRows_card
end Go.Proofs.YtdmcibopcflbbaaDoor
