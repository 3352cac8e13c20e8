/-
  For every message and every text the statement RulesOthers of the given rows holds: a message with a method that is none of the eight is refused (a tied card: the listed tables are tied to the program; no other condition).
-/
import Derived.Test.YtdmcibopcflbbaaDoorCards
import Derived.Test.YtdmcibopcflbbaaDoorTie
import Derived.Test.YtdmcibopcflbbaaDoorAr
import Derived.WalkKit
import Derived.ProofKit
import Derived.OpenShut
import Derived.ShutString
import Derived.ChangeOld
import Derived.Below
import Derived.LaidMore
import Derived.Lay
import Derived.SevenTiedAt
import Derived.Stop.Joined
import Derived.SizedLaws
namespace Go.Proofs.YtdmcibopcflbbaaDoor.rulesOthers
open Go.ChangeShapes Go.WideShapes Go.ChangeAt Go.RowKit
open Go.ChangeMaps (open_string shut_string)
set_option linter.unusedVariables false

theorem role_three (t : List Int) : roleZ t = 0 ∨ roleZ t = 1 ∨ roleZ t = 2 := by
  unfold roleZ askZ
  repeat' (first | split | (exact .inl rfl) | (exact .inr (.inl rfl)) | (exact .inr (.inr rfl)))
theorem fit_meth {m : Msg} {fs : List (ByteArray × ByteArray)} (h : MFit m fs) (t : ByteArray) (ht : t.size ≤ 140737488355328) : MFit { m with meth := t } fs := ⟨h.l, h.f, ht, h.s1, h.s5, h.s9, h.s10, h.i2, h.i3, h.i4, h.i7, h.i8⟩
theorem mat_set {V : World} {g : Nat} {m : Msg} (h : MAt V g m) (t : ByteArray) : MAt (V.setCell ⟨g, 0, none⟩ (.string t)) g { m with meth := t } := by
  obtain ⟨h0, k0, k1, k2, k3, k4, k5, k6, k7, k8, k9, k10⟩ := h
  exact ⟨by simpa using h0, World.cell?_setCell_same _ _ _ (by rw [k0]), (World.cell?_setCell_other _ _ _ _ (by simp)).trans k1, (World.cell?_setCell_other _ _ _ _ (by simp)).trans k2, (World.cell?_setCell_other _ _ _ _ (by simp)).trans k3, (World.cell?_setCell_other _ _ _ _ (by simp)).trans k4, (World.cell?_setCell_other _ _ _ _ (by simp)).trans k5, (World.cell?_setCell_other _ _ _ _ (by simp)).trans k6, (World.cell?_setCell_other _ _ _ _ (by simp)).trans k7, (World.cell?_setCell_other _ _ _ _ (by simp)).trans k8, (World.cell?_setCell_other _ _ _ _ (by simp)).trans k9, (World.cell?_setCell_other _ _ _ _ (by simp)).trans k10⟩
def methL : List ByteArray := [⟨#[65, 68, 68]⟩, ⟨#[67, 65, 78, 67, 69, 76]⟩, ⟨#[67, 79, 85, 78, 84, 69, 82]⟩, ⟨#[68, 69, 67, 76, 73, 78, 69, 67, 79, 85, 78, 84, 69, 82]⟩, ⟨#[80, 85, 66, 76, 73, 83, 72]⟩, ⟨#[82, 69, 70, 82, 69, 83, 72]⟩, ⟨#[82, 69, 80, 76, 89]⟩, ⟨#[82, 69, 81, 85, 69, 83, 84]⟩]
theorem meth_cell (V : World) (k : Nat) (x : ByteArray) (h : methL[k]? = some x) : (V.alloc (.cells #[.string ⟨#[65, 68, 68]⟩, .string ⟨#[67, 65, 78, 67, 69, 76]⟩, .string ⟨#[67, 79, 85, 78, 84, 69, 82]⟩, .string ⟨#[68, 69, 67, 76, 73, 78, 69, 67, 79, 85, 78, 84, 69, 82]⟩, .string ⟨#[80, 85, 66, 76, 73, 83, 72]⟩, .string ⟨#[82, 69, 70, 82, 69, 83, 72]⟩, .string ⟨#[82, 69, 80, 76, 89]⟩, .string ⟨#[82, 69, 81, 85, 69, 83, 84]⟩] 9)).cell? ⟨V.heap.size, k, none⟩ = some (.string x) := by
  rw [World.cell?_alloc_mark]
  have : ((#[.string ⟨#[65, 68, 68]⟩, .string ⟨#[67, 65, 78, 67, 69, 76]⟩, .string ⟨#[67, 79, 85, 78, 84, 69, 82]⟩, .string ⟨#[68, 69, 67, 76, 73, 78, 69, 67, 79, 85, 78, 84, 69, 82]⟩, .string ⟨#[80, 85, 66, 76, 73, 83, 72]⟩, .string ⟨#[82, 69, 70, 82, 69, 83, 72]⟩, .string ⟨#[82, 69, 80, 76, 89]⟩, .string ⟨#[82, 69, 81, 85, 69, 83, 84]⟩] : Array Value))[k]? = (methL[k]?).map Value.string := by
    show (methL.map Value.string).toArray[k]? = _
    simp
  rw [this, h]; rfl
theorem ask_none {t : ByteArray} (h : ∀ x ∈ methL, (x.toList == t.toList) = false) : askZ (nums t) = ⟨0, 0, 0, false, false, false, false⟩ := by
  have key : ∀ x ∈ methL, ¬ nums t = nums x := fun x hx e => by
    have := h x hx
    rw [eq_nums, decide_eq_false_iff_not] at this
    exact this e.symm
  have h0 : ¬ nums t = mADD := key ⟨#[65, 68, 68]⟩ (by unfold methL; simp)
  have h1 : ¬ nums t = mCAN := key ⟨#[67, 65, 78, 67, 69, 76]⟩ (by unfold methL; simp)
  have h2 : ¬ nums t = mCOU := key ⟨#[67, 79, 85, 78, 84, 69, 82]⟩ (by unfold methL; simp)
  have h3 : ¬ nums t = mDEC := key ⟨#[68, 69, 67, 76, 73, 78, 69, 67, 79, 85, 78, 84, 69, 82]⟩ (by unfold methL; simp)
  have h4 : ¬ nums t = mPUB := key ⟨#[80, 85, 66, 76, 73, 83, 72]⟩ (by unfold methL; simp)
  have h5 : ¬ nums t = mREF := key ⟨#[82, 69, 70, 82, 69, 83, 72]⟩ (by unfold methL; simp)
  have h6 : ¬ nums t = mREP := key ⟨#[82, 69, 80, 76, 89]⟩ (by unfold methL; simp)
  have h7 : ¬ nums t = mREQ := key ⟨#[82, 69, 81, 85, 69, 83, 84]⟩ (by unfold methL; simp)
  unfold askZ
  rw [if_neg h0, if_neg h7, if_neg h1, if_neg h4, if_neg h3, if_neg h2, if_neg h6, if_neg h5]
theorem check_none {m : Msg} {fs : List (ByteArray × ByteArray)} (h : askZ (nums m.meth) = ⟨0, 0, 0, false, false, false, false⟩) : checkZ m fs = 120 ∨ checkZ m fs = 130 := by
  unfold checkZ checkD
  rw [h]
  by_cases hr : rightM m fs = false
  · rw [if_pos hr]; exact .inl rfl
  · rw [if_neg hr, if_pos rfl]; exact .inr rfl
set_option maxHeartbeats 8000000 in
set_option maxRecDepth 100000 in
theorem walk (m : Msg) (fs : List (ByteArray × ByteArray)) (s : ByteArray) (w : World) (hr : FRow w m.a fs) (hm : MWide m fs) (hs : s.size ≤ 140737488355328) :
    Calls Tryd.prog 8 #[msgV m, .string s] w fun e w' => e = .returned (.bool true) ∧ Below w.heap.size w w' := by
  have HR : Hid (FRow w m.a fs) := hr
  have HW : Hid (MWide m fs) := hm
  clear hr hm
  unfold msgV
  go_enter Tryd.func8, Tryd.ntmps8
  go_wp2_with fail
  have HA : Hid (MAt (w.alloc (.cells #[.string m.meth, .string m.uid, .int .i64 m.seq, .int .i64 m.stamp, .int .i64 m.recur, .string m.org, .slice m.a m.n m.c, .int .i64 m.start, .int .i64 m.fin, .string m.sum, .string m.com] 24)) w.heap.size m) := mat_new w m
  have HB : Hid (Below w.heap.size w (w.alloc (.cells #[.string m.meth, .string m.uid, .int .i64 m.seq, .int .i64 m.stamp, .int .i64 m.recur, .string m.org, .slice m.a m.n m.c, .int .i64 m.start, .int .i64 m.fin, .string m.sum, .string m.com] 24))) := keep w _
  have HKK : Hid ((w.alloc (.cells #[.string m.meth, .string m.uid, .int .i64 m.seq, .int .i64 m.stamp, .int .i64 m.recur, .string m.org, .slice m.a m.n m.c, .int .i64 m.start, .int .i64 m.fin, .string m.sum, .string m.com] 24)).heap[w.heap.size]? = some (.cells #[.string m.meth, .string m.uid, .int .i64 m.seq, .int .i64 m.stamp, .int .i64 m.recur, .string m.org, .slice m.a m.n m.c, .int .i64 m.start, .int .i64 m.fin, .string m.sum, .string m.com] 24 (0, 0))) := heap_alloc_last w _
  generalize w.alloc (.cells #[.string m.meth, .string m.uid, .int .i64 m.seq, .int .i64 m.stamp, .int .i64 m.recur, .string m.org, .slice m.a m.n m.c, .int .i64 m.start, .int .i64 m.fin, .string m.sum, .string m.com] 24) = V0 at HA HB HKK ⊢
  have hcall := great_any m fs V0 (HR.out.below HB.out) HW.out
  unfold msgV at hcall
  refine hcall.mono ?_
  clear hcall
  rintro e V1 ⟨b, rfl, hb, hfit⟩
  have HK0 : Hid (V1.heap[w.heap.size]? = some (.cells #[.string m.meth, .string m.uid, .int .i64 m.seq, .int .i64 m.stamp, .int .i64 m.recur, .string m.org, .slice m.a m.n m.c, .int .i64 m.start, .int .i64 m.fin, .string m.sum, .string m.com] 24 (0, 0))) := (hb.block _ HA.out.1).trans HKK.out
  replace HA : Hid (MAt V1 w.heap.size m) := HA.out.below hb
  replace HB : Hid (Below w.heap.size w V1) := HB.out.trans (hb.mono HB.out.size)
  clear hb
  cases b with
  | true =>
    go_wp2_with fail
    refine (alive_any _).mono ?_
    rintro e V2 ⟨rfl, hb⟩
    replace HA : Hid (MAt V2 w.heap.size m) := HA.out.below hb
    replace HB : Hid (Below w.heap.size w V2) := HB.out.trans (hb.mono HB.out.size)
    clear hb
    go_wp2
    go_ret
    exact ⟨rfl, HB.out⟩
  | false =>
    have HM : Hid (MFit m fs) := hfit rfl
    clear hfit
    obtain ⟨_, K0, K1, K2, K3, K4, K5, K6, K7, K8, K9, K10⟩ := HA.out
    go_wp2_with fail
    clear K0 K1 K2 K3 K4 K5 K6 K7 K8 K9 K10
    have HA0 := HA
    have hcall := check_any m fs _ (HR.out.below HB.out) HM.out
    unfold msgV at hcall
    refine hcall.mono ?_
    clear hcall
    rintro e V3 ⟨rfl, hb⟩
    replace HA : Hid (MAt V3 w.heap.size m) := HA.out.below hb
    replace HB : Hid (Below w.heap.size w V3) := HB.out.trans (hb.mono HB.out.size)
    have HK : Hid (V3.heap[w.heap.size]? = some (.cells #[.string m.meth, .string m.uid, .int .i64 m.seq, .int .i64 m.stamp, .int .i64 m.recur, .string m.org, .slice m.a m.n m.c, .int .i64 m.start, .int .i64 m.fin, .string m.sum, .string m.com] 24 (0, 0))) := (hb.block _ HA0.out.1).trans HK0.out
    clear hb
    by_cases hc : checkZ m fs = 0
    · have hq : (checkZ m fs != 0) = false := by simpa using hc
      go_wp2_with fail
      refine (methods_any _).mono ?_
      rintro e X ⟨rfl, rfl⟩
      have HMC : Hid (∀ k x, methL[k]? = some x → (V3.alloc (.cells #[.string ⟨#[65, 68, 68]⟩, .string ⟨#[67, 65, 78, 67, 69, 76]⟩, .string ⟨#[67, 79, 85, 78, 84, 69, 82]⟩, .string ⟨#[68, 69, 67, 76, 73, 78, 69, 67, 79, 85, 78, 84, 69, 82]⟩, .string ⟨#[80, 85, 66, 76, 73, 83, 72]⟩, .string ⟨#[82, 69, 70, 82, 69, 83, 72]⟩, .string ⟨#[82, 69, 80, 76, 89]⟩, .string ⟨#[82, 69, 81, 85, 69, 83, 84]⟩] 9)).cell? ⟨V3.heap.size, k, none⟩ = some (.string x)) := fun k x h => meth_cell V3 k x h
      replace HA : Hid (MAt (V3.alloc (.cells #[.string ⟨#[65, 68, 68]⟩, .string ⟨#[67, 65, 78, 67, 69, 76]⟩, .string ⟨#[67, 79, 85, 78, 84, 69, 82]⟩, .string ⟨#[68, 69, 67, 76, 73, 78, 69, 67, 79, 85, 78, 84, 69, 82]⟩, .string ⟨#[80, 85, 66, 76, 73, 83, 72]⟩, .string ⟨#[82, 69, 70, 82, 69, 83, 72]⟩, .string ⟨#[82, 69, 80, 76, 89]⟩, .string ⟨#[82, 69, 81, 85, 69, 83, 84]⟩] 9)) w.heap.size m) := HA.out.below (keep V3 _)
      replace HK : Hid ((V3.alloc (.cells #[.string ⟨#[65, 68, 68]⟩, .string ⟨#[67, 65, 78, 67, 69, 76]⟩, .string ⟨#[67, 79, 85, 78, 84, 69, 82]⟩, .string ⟨#[68, 69, 67, 76, 73, 78, 69, 67, 79, 85, 78, 84, 69, 82]⟩, .string ⟨#[80, 85, 66, 76, 73, 83, 72]⟩, .string ⟨#[82, 69, 70, 82, 69, 83, 72]⟩, .string ⟨#[82, 69, 80, 76, 89]⟩, .string ⟨#[82, 69, 81, 85, 69, 83, 84]⟩] 9)).heap[w.heap.size]? = some (.cells #[.string m.meth, .string m.uid, .int .i64 m.seq, .int .i64 m.stamp, .int .i64 m.recur, .string m.org, .slice m.a m.n m.c, .int .i64 m.start, .int .i64 m.fin, .string m.sum, .string m.com] 24 (0, 0))) := (Below.heap_alloc _ _ _ (Array.getElem?_eq_some_iff.1 HK.out).1).trans HK.out
      have hsv := HB.out.size
      replace HB : Hid (Below w.heap.size w (V3.alloc (.cells #[.string ⟨#[65, 68, 68]⟩, .string ⟨#[67, 65, 78, 67, 69, 76]⟩, .string ⟨#[67, 79, 85, 78, 84, 69, 82]⟩, .string ⟨#[68, 69, 67, 76, 73, 78, 69, 67, 79, 85, 78, 84, 69, 82]⟩, .string ⟨#[80, 85, 66, 76, 73, 83, 72]⟩, .string ⟨#[82, 69, 70, 82, 69, 83, 72]⟩, .string ⟨#[82, 69, 80, 76, 89]⟩, .string ⟨#[82, 69, 81, 85, 69, 83, 84]⟩] 9))) := HB.out.alloc hsv _
      obtain ⟨B, hB⟩ : ∃ B, V3.heap.size = B := ⟨_, rfl⟩
      rw [hB] at HMC hsv ⊢
      generalize (V3.alloc (.cells #[.string ⟨#[65, 68, 68]⟩, .string ⟨#[67, 65, 78, 67, 69, 76]⟩, .string ⟨#[67, 79, 85, 78, 84, 69, 82]⟩, .string ⟨#[68, 69, 67, 76, 73, 78, 69, 67, 79, 85, 78, 84, 69, 82]⟩, .string ⟨#[80, 85, 66, 76, 73, 83, 72]⟩, .string ⟨#[82, 69, 70, 82, 69, 83, 72]⟩, .string ⟨#[82, 69, 80, 76, 89]⟩, .string ⟨#[82, 69, 81, 85, 69, 83, 84]⟩] 9)) = Y at HMC HA HK HB ⊢
      clear hB hc hq
      go_wp2
      go_loopw [6] (fun i wr => ∃ k : Nat, i = .int .i64 k ∧ k ≤ 8 ∧ (∀ x ∈ methL.take k, (x.toList == s.toList) = false) ∧ Y = wr) (fun i _ => 8 - (intOf i).toNat)
      case atStart => exact ⟨0, rfl, by omega, by simp, rfl⟩
      case round =>
        obtain ⟨k, rfl, hk, hall, rfl⟩ := hrel
        have HI : Hid (∀ x ∈ methL.take k, (x.toList == s.toList) = false) := hall
        clear hall
        by_cases hlt : k < 8
        · have e0 : decide ((k : Int) < 8) = true := by simp; omega
          obtain ⟨x, hxk⟩ : ∃ x, methL[k]? = some x := ⟨_, List.getElem?_eq_getElem (by simpa [methL] using hlt)⟩
          have hcx := HMC.out k x hxk
          have HTK : Hid (∀ y ∈ methL.take (k + 1), y = x ∨ y ∈ methL.take k) := by
            intro y hy
            rw [List.take_add_one, hxk] at hy
            simp at hy
            rcases hy with hy | hy
            · exact .inr hy
            · exact .inl hy
          clear hxk
          cases e5 : (x.toList == s.toList) with
          | true =>
            go_wp2_with fail
            refine (alive_any _).mono ?_
            rintro e Z ⟨rfl, hb⟩
            go_wp2
            go_ret
            exact ⟨rfl, HB.out.trans (hb.mono HB.out.size)⟩
          | false =>
            have HE5 : Hid ((x.toList == s.toList) = false) := e5
            go_wp2
            go_roundw
            case rel =>
              refine ⟨k + 1, by go_num, by omega, ?_, by first | rfl | trivial⟩
              intro y hy
              rcases HTK.out y hy with rfl | h
              · exact HE5.out
              · exact HI.out y h
            case measure => simp [intOf]; omega
        · obtain rfl : k = 8 := by omega
          have hno := ask_none (t := s) HI.out
          have HRO : Hid (roleZ (nums s) = 0) := by unfold Hid roleZ; rw [hno]
          have HCH : Hid (checkZ { m with meth := s } fs = 120 ∨ checkZ { m with meth := s } fs = 130) := check_none hno
          clear hno
          have hfz : Y.frozen? ⟨w.heap.size, 0, none⟩ = false := frozen_of_row _ _ _ _ _ HK.out
          obtain ⟨_, K0, K1, K2, K3, K4, K5, K6, K7, K8, K9, K10⟩ := HA.out
          have HBB : Hid (Below w.heap.size w (Y.setCell ⟨w.heap.size, 0, none⟩ (.string s))) := HB.out.setCell (p := ⟨w.heap.size, 0, none⟩) (Nat.le_refl _) _
          go_wp2_with fail
          have hcall := check_any { m with meth := s } fs (Y.setCell ⟨w.heap.size, 0, none⟩ (.string s)) (HR.out.below HBB.out) (fit_meth HM.out _ hs)
          unfold msgV at hcall
          refine hcall.mono ?_
          clear hcall
          rintro e Z ⟨rfl, hb⟩
          replace HBB : Hid (Below w.heap.size w Z) := HBB.out.trans (hb.mono HBB.out.size)
          clear hb K0 K1 K2 K3 K4 K5 K6 K7 K8 K9 K10 hfz
          rcases HCH.out with hcc | hcc
          · rw [hcc]
            go_wp2_with fail
            refine (alive_any _).mono ?_
            rintro e Z2 ⟨rfl, hb⟩
            replace HBB : Hid (Below w.heap.size w Z2) := HBB.out.trans (hb.mono HBB.out.size)
            clear hb
            go_wp2_with fail
            refine (role_any s _).mono ?_
            rintro e Z3 ⟨rfl, hb⟩
            rw [HRO.out]
            replace HBB : Hid (Below w.heap.size w Z3) := HBB.out.trans (hb.mono HBB.out.size)
            go_wp2
            go_ret
            exact ⟨rfl, HBB.out⟩
          · rw [hcc]
            go_wp2_with fail
            refine (alive_any _).mono ?_
            rintro e Z2 ⟨rfl, hb⟩
            replace HBB : Hid (Below w.heap.size w Z2) := HBB.out.trans (hb.mono HBB.out.size)
            clear hb
            go_wp2_with fail
            refine (role_any s _).mono ?_
            rintro e Z3 ⟨rfl, hb⟩
            rw [HRO.out]
            replace HBB : Hid (Below w.heap.size w Z3) := HBB.out.trans (hb.mono HBB.out.size)
            go_wp2
            go_ret
            exact ⟨rfl, HBB.out⟩
    · have hq : (checkZ m fs != 0) = true := by simpa using hc
      clear hc
      go_wp2_with fail
      refine (alive_any _).mono ?_
      rintro e V4 ⟨rfl, hb⟩
      replace HA : Hid (MAt V4 w.heap.size m) := HA.out.below hb
      replace HB : Hid (Below w.heap.size w V4) := HB.out.trans (hb.mono HB.out.size)
      clear hb
      go_wp2
      go_ret
      exact ⟨rfl, HB.out⟩

set_option maxRecDepth 100000 in
theorem lifted (os : Os) (started : os.Started) (H : Type) (enc : TypeId × Value → H) :
    ReturnsInHanded {} Tryd.checked os 8 .any (fun w args => (Rows.rulesOthersSpec.pre enc Tryd.prog Tryd.f8 Rows.rulesOthersRow.domain false w args ∧ laidMetH Tryd.prog Rows.rulesOthersRow.laid w) ∧ sizedMet enc Tryd.prog Tryd.f8 (OpenSpec.ofChange Rows.rulesOthersSpec) false w args)
      (Rows.rulesOthersSpec.post enc Tryd.prog Tryd.f8 false true false false) := by
  refine returnsInHanded_of_change_and (C := Tryd.checked) (X := fun w _ => laidMetH Tryd.prog Rows.rulesOthersRow.laid w) (fun _ _ _ hh h => h.of_heap hh) own started (by kernel_rfl) Tryd.func8
    (ChangeSpec.witness_shaped (enc := enc) (C := Tryd.checked) (os := os) (X := fun w _ => laidMetH Tryd.prog Rows.rulesOthersRow.laid w) false (World.laidAll Tryd.prog os Rows.rulesOthersRow.laid) #[.agg #[.string ⟨#[]⟩, .string ⟨#[]⟩, .int .i64 0, .int .i64 0, .int .i64 0, .string ⟨#[]⟩, .slice none 0 0, .int .i64 0, .int .i64 0, .string ⟨#[]⟩, .string ⟨#[]⟩], .string ⟨#[]⟩] 8 (World.laidAll_os _ _ _)
      (World.shaped_of_ZipB (by kernel_rfl) (by kernel_rfl)) (by kernel_rfl) (by kernel_rfl) (by kernel_rfl)
      (by rw [MakeChecks.laidMetH_plain _ _ _ (by kernel_rfl)]; exact laidMet_laidAll _ (by kernel_rfl) (by kernel_rfl))) ?_
  intro W base args ds gs before hval0 hW hcnd hsz0 hL _
  have hval : ∀ (j : Nat) t v, Tryd.f8.params[j]? = some t → args[j]? = some v → Value.okWide Tryd.prog W .any base t v := hval0
  have hsz : (DataW.weightsEach Tryd.prog (Tryd.f8.params.toList ++ Rows.rulesOthersSpec.plain.varTypes Tryd.prog) (ds ++ gs)).all (· ≤ reachBytes) = true := hsz0
  have hW' := hW
  obtain ⟨p, q, hA0, hV, rfl, hfz, hnd⟩ := hW
  have hA : DataW.TrodAll enc Tryd.prog W 0 (fun _ => true) true Tryd.f8.params.toList args.toList ds p := hA0
  rw [Tryd.params8] at hA hval hsz
  obtain ⟨v0, vs0, d0, ds0, p0, q0, hargs, rfl, rfl, h0, r0⟩ := trodAll_cons hA
  obtain ⟨v1, vs1, d1, ds1, p1, q1, rfl, rfl, rfl, h1, r1⟩ := trodAll_cons r0
  obtain ⟨rfl, rfl, rfl⟩ := trodAll_nil r1
  obtain rfl : args = #[v0, v1] := by cases args; simp_all
  obtain ⟨rfl, rfl⟩ := trodVars_none hV
  have k0 := h0
  have lt0 : ∀ x ∈ p0, x.block < W.heap.size := by obtain ⟨m, hm⟩ := k0; exact DataW.trod_lt m _ _ _ hm
  obtain ⟨m0, f0, rfl, g0, w0⟩ := msg_arg (hval 0 24 v0 rfl rfl) h0 (fun n hn => by simpa using List.all_eq_true.1 hsz n (DataW.weights_mem_each (j := 0) rfl rfl n hn))
  have k1 := h1
  have lt1 : ∀ x ∈ p1, x.block < W.heap.size := by obtain ⟨m, hm⟩ := k1; exact DataW.trod_lt m _ _ _ hm
  obtain ⟨s1, rfl, e1, _, _⟩ := open_string Tryd.underlying9 (hval 1 9 v1 rfl rfl) h1
  have hs1 : s1.size ≤ 140737488355328 := reach_le (by simpa using List.all_eq_true.1 hsz _ (DataW.weights_mem_each (j := 1) rfl rfl _ (by rw [e1]; exact List.mem_singleton.2 rfl)))
  clear hA0 hval0
  refine (walk m0 f0 s1 W g0 w0 hs1).mono fun e W' ⟨he, bel⟩ => ?_
  subst he
  exact ⟨_, rfl, _, _, _, [], _, [], hW', trodAll_mk1 (shut_bool Tryd.underlying4 _), (trodAll_cons_mk (Below.trod laidOut (by kernel_rfl) (of_decide_eq_true (by kernel_rfl)) k0 bel lt0) (trodAll_cons_mk (Below.trod laidOut (by kernel_rfl) (of_decide_eq_true (by kernel_rfl)) k1 bel lt1) trodAll_mk0)), rfl, bel.frame _, fun h => by cases h⟩

theorem over : Rows.RulesOthersSaid :=
  OpenClaim.holds_of_wide 8 Tryd.f8 rfl rfl rfl rfl rfl rfl rfl ⟨rfl, rfl, rfl, rfl, rfl⟩ rfl rfl rfl rfl rfl (by kernel_rfl) Tryd.func8 (by kernel_rfl)
    (of_decide_eq_true (by kernel_rfl)) (by unfold Func.isWrapper; first | (rw [if_pos (by decide +kernel)]; kernel_rfl) | (rw [if_neg (by decide +kernel)]; exact ⟨rfl, rfl⟩))
    (fun os started H enc _ => lifted os started H enc)
end Go.Proofs.YtdmcibopcflbbaaDoor.rulesOthers
namespace Go.Proofs.YtdmcibopcflbbaaDoor
theorem rulesOthers_card : Rows.RulesOthersCardSaid :=
  Claim7.holds_tied_plain_at .later [] _ _ _ _ rulesOthers.over (fun _ h => by cases h) (by kernel_rfl) (fun _ h => by cases h) rulesOthers_row_tie rfl ⟨rfl, rfl⟩ (by kernel_rfl) rfl
    (fun f fn hf hfn => by
      obtain rfl : f = 8 := Option.some.inj ((show Tryd.prog.funcNamed Rows.rulesOthersRow.func = some 8 by kernel_rfl).symm.trans hf) |>.symm
      obtain rfl : fn = Tryd.f8 := (Option.some.inj (Tryd.func8.symm.trans hfn)).symm
      exact ⟨by kernel_rfl, fun j t ht => by
        rw [Tryd.params8] at ht
        have hm : t ∈ [24, 9] := by simpa using Array.mem_of_getElem? ht
        have hall : ([24, 9].all fun u => !Tryd.prog.wantsStandIn u) = true := by kernel_rfl
        exact (show Tryd.prog.wantsStandIn t = false by simpa using List.all_eq_true.1 hall t hm)⟩)
    (by kernel_rfl)
#print axioms rulesOthers_card
end Go.Proofs.YtdmcibopcflbbaaDoor
