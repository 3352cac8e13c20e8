/-
  DotsBack: whatever the bytes, what stands behind their frame, and the pieces: a text's frame is read as it was, and nothing behind it is taken.
  No condition.
-/
import Derived.Test.YtlpbgfepneoajaaRows
import Derived.Test.YtlpbgfepneoajaaBmath
import Derived.Test.YtlpbgfepneoajaaRstuff
import Derived.Deep.RegionHeld
import Derived.WalkKit
import Derived.ProofKit
import Derived.OpenShut
import Derived.ShutString
import Derived.ChangeOld
import Derived.Below
import Derived.HandedShaped
namespace Go.Proofs.Ytlpbgfepneoajaa.dotsBack
open Go.ChangeShapes Go.WideShapes Go.ChangeAt Go.RowKit
open Go.ChangeMaps (open_string shut_string)
set_option linter.unusedVariables false


theorem flat3 (zs : List Int) : ∀ ls : List (Nat × Nat × Bool), 3 * (flatZ zs ls).length ≤ 4 * (ls.flatMap (fun x => pieceZ zs x ++ [13, 10])).length
  | [] => by simp [flatZ]
  | x :: ls => by
    have ih := flat3 zs ls
    have h : 3 * (lineF (pieceZ zs x)).length ≤ 4 * ((pieceZ zs x).length + 2) := by
      unfold lineF
      split
      · rename_i hd
        have : 0 < (pieceZ zs x).length := by cases hq : pieceZ zs x with | nil => rw [hq] at hd; simp at hd | cons _ _ => simp
        simp; omega
      · simp; omega
    have h3 : flatZ zs (x :: ls) = lineF (pieceZ zs x) ++ flatZ zs ls := by simp [flatZ]
    rw [h3, List.flatMap_cons, List.length_append, List.length_append, List.length_append]
    simp only [List.length_cons, List.length_nil]
    omega
theorem frame3 {zs : List Int} (h : (rightZ zs).2 = 0) : 3 * (frameZ zs).length ≤ 4 * zs.length + 9 := by
  have h1 := flat3 zs (linesZ 0 zs)
  have h2 := text_flat zs.length zs [] (Nat.le_refl _) (fun x hx => (fault_none (right_zero h x hx)).2.2)
  simp only [List.length_nil, List.nil_append] at h2
  rw [h2] at h1
  unfold frameZ
  simp only [List.length_append, List.length_cons, List.length_nil]
  omega
theorem rd_below {w w' : World} {B g : Nat} {s : RS} (h : Rd w B g s) (hb : Below w.heap.size w w') : Rd w' B g s := by
  obtain ⟨h1, h2, v, h3, h4⟩ := h
  exact ⟨h1, Nat.le_trans h2 hb.size, v, (hb.block g (by omega)).trans h3, own_keep h4 hb⟩

set_option maxHeartbeats 1000000 in
theorem copy_any (a : Option Addr) (n c : Nat) (l : List Int) (w : World) (hl : l.length = n) (hnil : a = none → c = 0) (hr : Row w a l) (hn : n ≤ 1000000000) :
    Calls Try.prog 16 #[.slice a n c] w fun e w' => ∃ v, e = .returned v ∧ Own w' w.heap.size v l ∧ Below w.heap.size w w' := by
  go_enter Try.func16, Try.ntmps16
  go_wp2_with (at_builtin; refine app_row w rfl (.tmp 4) (.tmp 5) rfl w.heap.size (.slice none 0 0) [] rfl (World.ownsRow_nil _ _ _ _) a n c l rfl hl hnil hr (by simp; omega) (Nat.le_refl _) ?_)
  intro v2 w2 hO hB
  have HO : Hid (Own w2 w.heap.size v2 l) := by unfold Hid; simpa using hO
  clear hO
  go_wp2
  go_ret
  exact ⟨v2, rfl, HO.out, hB⟩

/-- What one more piece makes. -/
theorem step_math {zs more : List Int} {m : Int} {s : RS} {t k : Nat} (h : (rightZ zs).2 = 0) (hm : (zs.length : Int) ≤ m) (ht : t < (frameZ zs).length) (hk : t + k ≤ (frameZ zs ++ more).length) (hs : runZ (ad m 0 [] 0 false) ((frameZ zs ++ more).take t) = (s, t)) (ho : s.over = false) :
    (((runZ s (((frameZ zs ++ more).drop t).take k)).1.over = true ∧ (runZ s (((frameZ zs ++ more).drop t).take k)).1 = { ad m zs.length zs 1 true with over := true } ∧ t + (runZ s (((frameZ zs ++ more).drop t).take k)).2 = (frameZ zs).length) ∨
     ((runZ s (((frameZ zs ++ more).drop t).take k)).1.over = false ∧ (runZ s (((frameZ zs ++ more).drop t).take k)).2 = k ∧ t + k < (frameZ zs).length ∧ runZ (ad m 0 [] 0 false) ((frameZ zs ++ more).take (t + k)) = ((runZ s (((frameZ zs ++ more).drop t).take k)).1, t + k))) := by
  have hF := frame_run h hm
  have hall : runZ (ad m 0 [] 0 false) (frameZ zs ++ more) = ({ ad m zs.length zs 1 true with over := true }, (frameZ zs).length) := by
    rw [run_over _ _ more (by rw [hF]) rfl, hF]
  have htk : (frameZ zs ++ more).take (t + k) = (frameZ zs ++ more).take t ++ ((frameZ zs ++ more).drop t).take k := by rw [List.take_add]
  have hrun : runZ (ad m 0 [] 0 false) ((frameZ zs ++ more).take (t + k)) = ((runZ s (((frameZ zs ++ more).drop t).take k)).1, t + (runZ s (((frameZ zs ++ more).drop t).take k)).2) := by
    rw [htk, run_app _ _ _ (by rw [hs]; exact ho), hs]
  have hpl : (((frameZ zs ++ more).drop t).take k).length = k := by simp at hk ⊢; omega
  cases hov : (runZ s (((frameZ zs ++ more).drop t).take k)).1.over with
  | true =>
    left
    have h2 := run_over ((frameZ zs ++ more).take (t + k)) (ad m 0 [] 0 false) ((frameZ zs ++ more).drop (t + k)) (by rw [hrun]; exact hov) rfl
    rw [List.take_append_drop, hall, hrun] at h2
    simp only [Prod.mk.injEq] at h2
    exact ⟨rfl, h2.1.symm, h2.2.symm⟩
  | false =>
    right
    have h2 := run_all _ _ hov
    rw [hpl] at h2
    refine ⟨rfl, h2, ?_, by rw [hrun, h2]⟩
    rcases Nat.lt_or_ge (t + k) (frameZ zs).length with q | q
    · exact q
    · exfalso
      have h3 : (frameZ zs ++ more).take (t + k) = frameZ zs ++ more.take (t + k - (frameZ zs).length) := by
        rw [List.take_append, List.take_of_length_le q]
      have h4 := run_over (frameZ zs) (ad m 0 [] 0 false) (more.take (t + k - (frameZ zs).length)) (by rw [hF]) rfl
      rw [← h3, hF, hrun] at h4
      simp only [Prod.mk.injEq] at h4
      rw [h4.1] at hov
      cases hov

set_option maxRecDepth 100000 in
set_option maxHeartbeats 8000000 in
theorem walk (a0 : Option Addr) (len0 cap0 : Nat) (z0 : List Int) (a1 : Option Addr) (len1 cap1 : Nat) (z1 : List Int) (a2 : Option Addr) (len2 cap2 : Nat) (z2 : List Int) (w : World) (w0 : IsRow .u8 w a0 len0 cap0 z0) (w1 : IsRow .u8 w a1 len1 cap1 z1) (w2 : IsRow .u8 w a2 len2 cap2 z2) (hm : Mx w) :
    Calls Try.prog 5 #[.slice a0 len0 cap0, .slice a1 len1 cap1, .slice a2 len2 cap2] w fun e w' => e = .returned (.bool true) ∧ Below w.heap.size w w' := by
  obtain ⟨zs, hl0, hcap0, hmax0, hbyt0, hrow0⟩ := byte_view w0
  obtain ⟨more, hl1, hcap1, hmax1, hbyt1, hrow1⟩ := byte_view w1
  obtain ⟨cs, hl2, hcap2, hmax2, hbyt2, hrow2⟩ := byte_view w2
  have hnil0 := isRow_nil w0
  have hnil1 := isRow_nil w1
  clear w0 w1 w2
  have HM : Hid (Mx w) := hm
  clear hm
  by_cases h1 : 4000 < len0
  · have hd : decide ((len0 : Int) > 4000) = true := by simp; omega
    go_enter Try.func5, Try.ntmps5
    go_wp2_with (go_at_call 8; refine (alive_any _ HM.out).mono ?_; rintro e w' ⟨rfl, hb1⟩)
    go_ret
    exact ⟨rfl, by assumption⟩
  have hd1 : decide ((len0 : Int) > 4000) = false := by simp; omega
  by_cases h2 : 100 < len1
  · have hd : decide ((len1 : Int) > 100) = true := by simp; omega
    go_enter Try.func5, Try.ntmps5
    go_wp2_with (go_at_call 8; refine (alive_any _ HM.out).mono ?_; rintro e w' ⟨rfl, hb1⟩)
    go_ret
    exact ⟨rfl, by assumption⟩
  have hd2 : decide ((len1 : Int) > 100) = false := by simp; omega
  by_cases hbad : (rightZ zs).2 = 0
  rotate_left
  · have hS := stuff_bad a0 len0 cap0 zs w hl0 hcap0 hnil0 (by omega) hbyt0 hrow0 HM.out hbad
    obtain ⟨y, hy⟩ : ∃ y, (rightZ zs).2 = y := ⟨_, rfl⟩
    rw [hy] at hS hbad
    have hb' : (y != 0) = true := by simpa using hbad
    clear hrow0 hrow1 hrow2 hy
    go_enter Try.func5, Try.ntmps5
    go_wp2_with fail
    refine hS.mono ?_
    clear hS
    rintro e w1 ⟨rfl, hB1⟩
    have HB1 : Hid (Below w.heap.size w w1) := hB1
    clear hB1
    go_wp2_with fail
    refine (alive_any w1 (HM.out.keep HB1.out)).mono ?_
    rintro e w2 ⟨rfl, hB2⟩
    have HB2 : Hid (Below w.heap.size w w2) := HB1.out.trans (hB2.mono HB1.out.size)
    clear hB2
    go_wp2
    go_ret
    exact ⟨rfl, HB2.out⟩
  have hS := stuff_good a0 len0 cap0 zs w hl0 hcap0 hnil0 (by omega) hbyt0 hrow0 HM.out hbad
  have hfr3 := frame3 hbad
  rw [hl0] at hfr3
  have HR0 : Hid (Row w a0 zs) := hrow0
  have HR1 : Hid (Row w a1 more) := hrow1
  have HR2 : Hid (Row w a2 cs) := hrow2
  have HL0 : Hid (zs.length = len0) := hl0
  have HL1 : Hid (more.length = len1) := hl1
  have HL2 : Hid (cs.length = len2) := hl2
  have HBAD : Hid ((rightZ zs).2 = 0) := hbad
  have HBY2 : Hid (Byt cs) := hbyt2
  obtain ⟨fl, hfl⟩ : ∃ fl, (frameZ zs).length = fl := ⟨_, rfl⟩
  rw [hfl] at hfr3
  have HFL : Hid ((frameZ zs).length = fl) := hfl
  have hfl0 : fl ≤ 5336 := by omega
  unfold maxLen at hmax0 hmax1 hmax2
  clear hrow0 hrow1 hrow2 hl0 hl1 hl2 hbad hbyt0 hbyt1 hbyt2 hfl hfr3
  go_enter Try.func5, Try.ntmps5
  go_wp2_with fail
  refine hS.mono ?_
  clear hS
  rintro e w1 ⟨v1, rfl, ho1, hB1⟩
  obtain ⟨af, cf, rfl, hfc, hfm, hrf, hfn⟩ := own_row' ho1
  rw [HFL.out] at hfc ⊢
  have HRF : Hid (Row w1 af (frameZ zs)) := hrf
  have HB1 : Hid (Below w.heap.size w w1) := hB1
  clear ho1 hB1 hrf
  go_wp2_with fail
  refine (copy_any af fl cf (frameZ zs) w1 HFL.out hfn HRF.out (by omega)).mono ?_
  rintro e w2 ⟨v2, rfl, ho2, hB2⟩
  have HO2 : Hid (Own w2 w1.heap.size v2 (frameZ zs)) := ho2
  have HB2 : Hid (Below w.heap.size w w2) := HB1.out.trans (hB2.mono HB1.out.size)
  have hs12 : w1.heap.size ≤ w2.heap.size := hB2.size
  clear ho2 hB2
  go_wp2_with (at_builtin; refine app_row w2 rfl (.tmp 40) (.tmp 41) rfl w1.heap.size v2 (frameZ zs) rfl HO2.out a1 len1 cap1 more rfl HL1.out hnil1 (row_below HR1.out HB2.out) (by rw [HFL.out]; omega) hs12 ?_)
  intro v3 w3 hO3 hB3
  obtain ⟨a3, c3, rfl, hc3, hm3, hr3, _⟩ := own_row' hO3
  have HB3 : Hid (Below w.heap.size w w3) := HB2.out.trans (hB3.mono HB1.out.size)
  rw [List.length_append, HFL.out, HL1.out] at hc3 ⊢
  have HR3 : Hid (Row w3 a3 (frameZ zs ++ more)) := hr3
  clear hO3 hB3 hr3
  unfold maxLen at hm3
  go_wp2_with fail
  refine (new_any (len0 : Int) w3).mono ?_
  rintro e w4 ⟨rfl, hw4⟩
  have hnw : new0 (len0 : Int) = ad (len0 : Int) 0 [] 0 false := by simp [new0, ad]; omega
  rw [hnw] at hw4
  have HB34 : Hid (Below w3.heap.size w3 w4) := by rw [hw4]; exact keep w3 _
  have HRD0 : Hid (Rd w4 (w3.heap.size + 1) w3.heap.size (ad (len0 : Int) 0 [] 0 false)) := by
    rw [hw4]
    exact ⟨by omega, by simp, .slice none 0 0, heap_alloc_new _ _, World.ownsRow_nil _ _ _ _⟩
  have HB4 : Hid (Below w.heap.size w w4) := HB3.out.trans (HB34.out.mono HB3.out.size)
  have hsw3 : w.heap.size ≤ w3.heap.size := HB3.out.size
  clear hw4 hnw
  have HR3L : Hid (∀ X, Below w3.heap.size w4 X → Row X a3 (frameZ zs ++ more)) := fun X hX => row_below HR3.out (HB34.out.trans hX)
  obtain ⟨g, hg⟩ : ∃ g, w3.heap.size = g := ⟨_, rfl⟩
  rw [hg] at HB34 HRD0 hsw3 HR3L ⊢
  clear hg
  go_wp2_with fail
  go_loopw [9, 11, 12] (fun va vt vi wr => ∃ (i t cv : Nat) (av : Option Addr) (s : RS), va = .slice av (fl + len1 - t) cv ∧ fl + len1 - t ≤ cv ∧ cv ≤ 2 ^ 63 - 1 ∧ vt = .int .i64 t ∧ vi = .int .i64 i ∧ i ≤ t ∧ t < fl ∧ (∀ X, Below g w4 X → Row X av ((frameZ zs ++ more).drop t)) ∧ Rd wr (g + 1) g s ∧ s.over = false ∧ Fit s t ∧ runZ (ad (len0 : Int) 0 [] 0 false) ((frameZ zs ++ more).take t) = (s, t) ∧ Bx (g + 1) g w4 wr) (fun _ _ vi _ => 6000 - (intOf vi).toNat)
  case atStart => exact ⟨0, 0, c3, a3, _, by simp, by omega, by omega, rfl, rfl, by omega, by have := HFL.out; unfold frameZ at this; simp at this; omega, fun X hX => by simpa using HR3L.out X hX, HRD0.out, rfl, by have := fit_new (len0 : Int); simp [new0, ad] at this ⊢; rw [if_neg (by omega)] at this; exact this, by simp [runZ], Bx.refl _ _ _⟩
  case round =>
    obtain ⟨i, t, cv, av, s, rfl, hcv, hcvm, rfl, rfl, hit, htf, hrw, hrd, hov, hfit, hrun, hbx⟩ := hrel
    have HRW : Hid (∀ X, Below g w4 X → Row X av ((frameZ zs ++ more).drop t)) := hrw
    have HRD : Hid (Rd wr (g + 1) g s) := hrd
    have HOV : Hid (s.over = false) := hov
    have HFIT : Hid (Fit s t) := hfit
    have HRUN : Hid (runZ (ad (len0 : Int) 0 [] 0 false) ((frameZ zs ++ more).take t) = (s, t)) := hrun
    have HBX : Hid (Bx (g + 1) g w4 wr) := hbx
    clear hrw hrd hov hfit hrun hbx
    have hdi : decide ((i : Int) < 6000) = true := by simp; omega
    obtain ⟨bA, oA, rfl⟩ : ∃ bA oA, av = some ⟨bA, oA, none⟩ := by
      rcases HRW.out wr HBX.out.1 with h | ⟨bA, oA, h, _⟩
      · have h2 := congrArg List.length h
        simp [HFL.out, HL1.out] at h2
        omega
      · exact ⟨bA, oA, h⟩
    obtain ⟨r, hr⟩ : ∃ r, fl + len1 - t = r := ⟨_, rfl⟩
    rw [hr] at hcv ⊢
    have HRT : Hid (r + t = fl + len1 ∧ fl + len1 - t = r) := ⟨by omega, hr⟩
    clear hr
    by_cases hil : i < len2
    · have hdl : decide ((i : Int) < (len2 : Int)) = true := by simp; omega
      have hrc := row_below HR2.out (HB4.out.trans (HBX.out.below hsw3))
      rcases hrc with rfl | ⟨b2, off2, rfl, hc2⟩
      · have := HL2.out; simp at this; omega
      have hic : i < cs.length := by rw [HL2.out]; exact hil
      obtain ⟨x, hx⟩ : ∃ x, cs[i]'hic = x := ⟨_, rfl⟩
      have hck : wr.cell? ⟨b2, off2 + i, none⟩ = some (.int .u8 x) := by rw [hc2 i hic]; simp [List.getD_eq_getElem?_getD, List.getElem?_eq_getElem hic, hx]
      have hxb := HBY2.out x (by rw [← hx]; exact List.getElem_mem hic)
      have hadd : (⟨b2, off2, none⟩ : Addr).add i = ⟨b2, off2 + i, none⟩ := add_plain b2 off2 i
      obtain ⟨xn, rfl⟩ : ∃ xn : Nat, x = xn := ⟨x.toNat, by omega⟩
      clear hc2 hx hic
      by_cases hgt : r < 1 + xn
      · have hdg : decide ((1 : Int) + (xn : Int) > (r : Int)) = true := by simp; omega
        have haddk : (⟨bA, oA, none⟩ : Addr).add (r) = ⟨bA, oA + (r), none⟩ := add_plain _ _ _
        have hkb : 1 ≤ r ∧ r ≤ r := by have := HRT.out; omega
        have hkl : (((frameZ zs ++ more).drop t).take (r)).length = r := by have := HRT.out; simp [HFL.out, HL1.out]; omega
        have hstep := step_math (zs := zs) (more := more) (m := (len0 : Int)) (s := s) (t := t) (k := r) HBAD.out (by rw [HL0.out]; omega) (by rw [HFL.out]; exact htf) (by have := HRT.out; simp [HFL.out, HL1.out]; omega) HRUN.out HOV.out
        rw [HFL.out] at hstep
        have hput := put_any (g + 1) g s wr HRD.out HOV.out t HFIT.out (some ⟨bA, oA, none⟩) (r) cv (((frameZ zs ++ more).drop t).take (r)) hkl (fun w' hb => row_take _ (HRW.out w' (HBX.out.1.trans hb.1))) (by have := HRT.out; omega)
        have hfit2 := fit_run (((frameZ zs ++ more).drop t).take (r)) HFIT.out
        rw [hkl] at hfit2
        obtain ⟨⟨s', n'⟩, hs'⟩ : ∃ rr, runZ s (((frameZ zs ++ more).drop t).take (r)) = rr := ⟨_, rfl⟩
        have hn' : n' ≤ r := by have := run_len (((frameZ zs ++ more).drop t).take (r)) s; rw [hs', hkl] at this; exact this
        rw [hs'] at hstep hput hfit2
        simp only at hstep
        simp only [putV] at hput
        have hkc : r ≤ cv := by omega
        clear hkl
        rcases hstep with ⟨ho', hsF, htn⟩ | ⟨ho', hnk, htk, hrun'⟩
        · rw [ho'] at hput
          simp only [if_true] at hput
          have hft : faultZ s' = 0 := by rw [hsF]; rw [fault_or]; exact ⟨rfl, rfl, by show ¬ (len0 : Int) < zs.length; rw [HL0.out]; omega⟩
          have htx : textZ s' = zs := by unfold textZ; rw [if_pos hft, hsF]; show zs.take (zs.length : Int).toNat = zs; simp
          rw [hft] at hput
          have HTX : Hid (textZ s' = zs) := htx
          have HFT : Hid (Fit s' (t + (r))) := hfit2
          have etn : (t : Int) + (n' : Int) = (fl : Int) := by omega
          clear hft htx hsF ho' hs' hfit2 htn
          go_wp2_with fail
          refine hput.mono ?_
          clear hput
          rintro e w5 ⟨rfl, hrd5, hbx5⟩
          have HB5 : Hid (Below w.heap.size w w5) := HB4.out.trans ((HBX.out.trans hbx5).below hsw3)
          have RD5 : Hid (Rd w5 (g + 1) g s') := hrd5
          clear hrd5 hbx5
          have HT1 : Hid (∀ X, Below w5.heap.size w5 X → Calls Try.prog 15 #[.pointer (some ⟨g, 0, none⟩)] X fun e w' => ∃ a c, e = .returned (.slice a len0 c) ∧ Row w' a zs ∧ Below X.heap.size X w') := by
            intro X hX
            have h := text_any _ _ s' X (rd_below RD5.out hX) _ HFT.out (by have := HRT.out; omega)
            rw [HTX.out, HL0.out] at h
            exact h
          have HA : Hid (∀ X, Below w5.heap.size w5 X → Calls Try.prog 8 #[] X fun e w' => e = .returned (.bool true) ∧ Below X.heap.size X w') := fun X hX => alive_any X ((HM.out.keep HB5.out).keep hX)
          have HR05 : Hid (∀ X, Below w5.heap.size w5 X → Row X a0 zs) := fun X hX => row_below HR0.out (HB5.out.trans (hX.mono HB5.out.size))
          clear HRW HRD HOV HFIT HRUN HBX RD5 HTX HFT HR0 HR1 HR2 HB1 HB2 HB3 HB34 HRD0 HB4 HR3 HR3L HRF HO2 HBAD HBY2 HFL HL1 HL2
          go_wp2_with fail
          all_goals (go_region_held (fun _ => True) (trivial) (first
            | (go_at_call 8; refine (HA.out _ ?_).mono ?_; exact (Below.refl _ _).drew; rintro e x6 ⟨rfl, hb60⟩; have hb6 := ((Below.refl w5.heap.size w5).drew).trans (hb60.mono (Nat.le_refl _)); have kb6 := conv_row len0 cap0 HL0.out (HR05.out x6 hb6); clear HA)
            | (go_at_call 15; refine (HT1.out _ hb6).mono ?_; rintro e x7 ⟨a7, c7, rfl, hr7, hb7⟩; have k7 := conv_row len0 c7 HL0.out hr7; have hb67 := hb6.trans (hb7.mono hb6.size); have kb7 := conv_row len0 cap0 HL0.out (HR05.out x7 hb67); clear HT1)))
          all_goals go_wp2
          all_goals go_ret
          all_goals exact ⟨rfl, HB5.out.trans (hb67.mono HB5.out.size)⟩
        · exact absurd htk (by have := HRT.out; omega)
      · have hdg : decide ((1 : Int) + (xn : Int) > (r : Int)) = false := by simp; omega
        have haddk : (⟨bA, oA, none⟩ : Addr).add (1 + xn) = ⟨bA, oA + (1 + xn), none⟩ := add_plain _ _ _
        have hkb : 1 ≤ 1 + xn ∧ 1 + xn ≤ r := by have := HRT.out; omega
        have hkl : (((frameZ zs ++ more).drop t).take (1 + xn)).length = 1 + xn := by have := HRT.out; simp [HFL.out, HL1.out]; omega
        have hstep := step_math (zs := zs) (more := more) (m := (len0 : Int)) (s := s) (t := t) (k := 1 + xn) HBAD.out (by rw [HL0.out]; omega) (by rw [HFL.out]; exact htf) (by have := HRT.out; simp [HFL.out, HL1.out]; omega) HRUN.out HOV.out
        rw [HFL.out] at hstep
        have hput := put_any (g + 1) g s wr HRD.out HOV.out t HFIT.out (some ⟨bA, oA, none⟩) (1 + xn) cv (((frameZ zs ++ more).drop t).take (1 + xn)) hkl (fun w' hb => row_take _ (HRW.out w' (HBX.out.1.trans hb.1))) (by have := HRT.out; omega)
        have hfit2 := fit_run (((frameZ zs ++ more).drop t).take (1 + xn)) HFIT.out
        rw [hkl] at hfit2
        obtain ⟨⟨s', n'⟩, hs'⟩ : ∃ rr, runZ s (((frameZ zs ++ more).drop t).take (1 + xn)) = rr := ⟨_, rfl⟩
        have hn' : n' ≤ 1 + xn := by have := run_len (((frameZ zs ++ more).drop t).take (1 + xn)) s; rw [hs', hkl] at this; exact this
        rw [hs'] at hstep hput hfit2
        simp only at hstep
        simp only [putV] at hput
        have hkc : 1 + xn ≤ cv := by omega
        clear hkl
        rcases hstep with ⟨ho', hsF, htn⟩ | ⟨ho', hnk, htk, hrun'⟩
        · rw [ho'] at hput
          simp only [if_true] at hput
          have hft : faultZ s' = 0 := by rw [hsF]; rw [fault_or]; exact ⟨rfl, rfl, by show ¬ (len0 : Int) < zs.length; rw [HL0.out]; omega⟩
          have htx : textZ s' = zs := by unfold textZ; rw [if_pos hft, hsF]; show zs.take (zs.length : Int).toNat = zs; simp
          rw [hft] at hput
          have HTX : Hid (textZ s' = zs) := htx
          have HFT : Hid (Fit s' (t + (1 + xn))) := hfit2
          have etn : (t : Int) + (n' : Int) = (fl : Int) := by omega
          clear hft htx hsF ho' hs' hfit2 htn
          go_wp2_with fail
          refine hput.mono ?_
          clear hput
          rintro e w5 ⟨rfl, hrd5, hbx5⟩
          have HB5 : Hid (Below w.heap.size w w5) := HB4.out.trans ((HBX.out.trans hbx5).below hsw3)
          have RD5 : Hid (Rd w5 (g + 1) g s') := hrd5
          clear hrd5 hbx5
          have HT1 : Hid (∀ X, Below w5.heap.size w5 X → Calls Try.prog 15 #[.pointer (some ⟨g, 0, none⟩)] X fun e w' => ∃ a c, e = .returned (.slice a len0 c) ∧ Row w' a zs ∧ Below X.heap.size X w') := by
            intro X hX
            have h := text_any _ _ s' X (rd_below RD5.out hX) _ HFT.out (by have := HRT.out; omega)
            rw [HTX.out, HL0.out] at h
            exact h
          have HA : Hid (∀ X, Below w5.heap.size w5 X → Calls Try.prog 8 #[] X fun e w' => e = .returned (.bool true) ∧ Below X.heap.size X w') := fun X hX => alive_any X ((HM.out.keep HB5.out).keep hX)
          have HR05 : Hid (∀ X, Below w5.heap.size w5 X → Row X a0 zs) := fun X hX => row_below HR0.out (HB5.out.trans (hX.mono HB5.out.size))
          clear HRW HRD HOV HFIT HRUN HBX RD5 HTX HFT HR0 HR1 HR2 HB1 HB2 HB3 HB34 HRD0 HB4 HR3 HR3L HRF HO2 HBAD HBY2 HFL HL1 HL2
          go_wp2_with fail
          all_goals (go_region_held (fun _ => True) (trivial) (first
            | (go_at_call 8; refine (HA.out _ ?_).mono ?_; exact (Below.refl _ _).drew; rintro e x6 ⟨rfl, hb60⟩; have hb6 := ((Below.refl w5.heap.size w5).drew).trans (hb60.mono (Nat.le_refl _)); have kb6 := conv_row len0 cap0 HL0.out (HR05.out x6 hb6); clear HA)
            | (go_at_call 15; refine (HT1.out _ hb6).mono ?_; rintro e x7 ⟨a7, c7, rfl, hr7, hb7⟩; have k7 := conv_row len0 c7 HL0.out hr7; have hb67 := hb6.trans (hb7.mono hb6.size); have kb7 := conv_row len0 cap0 HL0.out (HR05.out x7 hb67); clear HT1)))
          all_goals go_wp2
          all_goals go_ret
          all_goals exact ⟨rfl, HB5.out.trans (hb67.mono HB5.out.size)⟩
        · rw [ho'] at hput
          simp only [Bool.false_eq_true, if_false] at hput
          rw [hnk] at hput
          have HS' : Hid (s'.over = false ∧ Fit s' (t + (1 + xn)) ∧ runZ (ad (len0 : Int) 0 [] 0 false) ((frameZ zs ++ more).take (t + (1 + xn))) = (s', t + (1 + xn))) := ⟨ho', hfit2, hrun'⟩
          have hcn : ¬ cv = 1 + xn := by have := HRT.out; omega
          have hrk : ¬ r - (1 + xn) = 0 := by have := HRT.out; omega
          have HTK : Hid (t + (1 + xn) < fl) := htk
          clear ho' hfit2 hrun' hs' hnk hn' htk
          go_wp2_with fail
          refine hput.mono ?_
          clear hput
          rintro e w5 ⟨rfl, hrd5, hbx5⟩
          have HBX5 : Hid (Bx (g + 1) g w4 w5) := HBX.out.trans hbx5
          have RD5 : Hid (Rd w5 (g + 1) g s') := hrd5
          clear hrd5 hbx5
          go_wp2
          go_roundw
          case rel => exact ⟨i + 1, t + (1 + xn), cv - (1 + xn), some ⟨bA, oA + (1 + xn), none⟩, s', by rw [show fl + len1 - (t + (1 + xn)) = r - (1 + xn) from by have := HRT.out; omega]; try (rw [if_neg hcn]), by have := HRT.out; omega, by omega, by rw [show ((t + (1 + xn) : Nat) : Int) = (t : Int) + (1 + (xn : Int)) from by omega], by rw [show ((i + 1 : Nat) : Int) = (i : Int) + 1 from by omega], by omega, HTK.out, fun X hX => by have h := row_drop (n := (1 + xn)) (cap := cv) (HRW.out X hX) (by have := HRT.out; simp [HFL.out, HL1.out]; omega); rw [if_neg hcn, List.drop_drop] at h; simp only [Option.map_some, haddk] at h; exact h, RD5.out, HS'.out.1, HS'.out.2.1, HS'.out.2.2, HBX5.out⟩
          case measure => simp [intOf]; omega
    · have hdl : decide ((i : Int) < (len2 : Int)) = false := by simp; omega
      by_cases hgt : r < 7
      · have hdg : decide ((7 : Int) > (r : Int)) = true := by simp; omega
        have haddk : (⟨bA, oA, none⟩ : Addr).add (r) = ⟨bA, oA + (r), none⟩ := add_plain _ _ _
        have hkb : 1 ≤ r ∧ r ≤ r := by have := HRT.out; omega
        have hkl : (((frameZ zs ++ more).drop t).take (r)).length = r := by have := HRT.out; simp [HFL.out, HL1.out]; omega
        have hstep := step_math (zs := zs) (more := more) (m := (len0 : Int)) (s := s) (t := t) (k := r) HBAD.out (by rw [HL0.out]; omega) (by rw [HFL.out]; exact htf) (by have := HRT.out; simp [HFL.out, HL1.out]; omega) HRUN.out HOV.out
        rw [HFL.out] at hstep
        have hput := put_any (g + 1) g s wr HRD.out HOV.out t HFIT.out (some ⟨bA, oA, none⟩) (r) cv (((frameZ zs ++ more).drop t).take (r)) hkl (fun w' hb => row_take _ (HRW.out w' (HBX.out.1.trans hb.1))) (by have := HRT.out; omega)
        have hfit2 := fit_run (((frameZ zs ++ more).drop t).take (r)) HFIT.out
        rw [hkl] at hfit2
        obtain ⟨⟨s', n'⟩, hs'⟩ : ∃ rr, runZ s (((frameZ zs ++ more).drop t).take (r)) = rr := ⟨_, rfl⟩
        have hn' : n' ≤ r := by have := run_len (((frameZ zs ++ more).drop t).take (r)) s; rw [hs', hkl] at this; exact this
        rw [hs'] at hstep hput hfit2
        simp only at hstep
        simp only [putV] at hput
        have hkc : r ≤ cv := by omega
        clear hkl
        rcases hstep with ⟨ho', hsF, htn⟩ | ⟨ho', hnk, htk, hrun'⟩
        · rw [ho'] at hput
          simp only [if_true] at hput
          have hft : faultZ s' = 0 := by rw [hsF]; rw [fault_or]; exact ⟨rfl, rfl, by show ¬ (len0 : Int) < zs.length; rw [HL0.out]; omega⟩
          have htx : textZ s' = zs := by unfold textZ; rw [if_pos hft, hsF]; show zs.take (zs.length : Int).toNat = zs; simp
          rw [hft] at hput
          have HTX : Hid (textZ s' = zs) := htx
          have HFT : Hid (Fit s' (t + (r))) := hfit2
          have etn : (t : Int) + (n' : Int) = (fl : Int) := by omega
          clear hft htx hsF ho' hs' hfit2 htn
          go_wp2_with fail
          refine hput.mono ?_
          clear hput
          rintro e w5 ⟨rfl, hrd5, hbx5⟩
          have HB5 : Hid (Below w.heap.size w w5) := HB4.out.trans ((HBX.out.trans hbx5).below hsw3)
          have RD5 : Hid (Rd w5 (g + 1) g s') := hrd5
          clear hrd5 hbx5
          have HT1 : Hid (∀ X, Below w5.heap.size w5 X → Calls Try.prog 15 #[.pointer (some ⟨g, 0, none⟩)] X fun e w' => ∃ a c, e = .returned (.slice a len0 c) ∧ Row w' a zs ∧ Below X.heap.size X w') := by
            intro X hX
            have h := text_any _ _ s' X (rd_below RD5.out hX) _ HFT.out (by have := HRT.out; omega)
            rw [HTX.out, HL0.out] at h
            exact h
          have HA : Hid (∀ X, Below w5.heap.size w5 X → Calls Try.prog 8 #[] X fun e w' => e = .returned (.bool true) ∧ Below X.heap.size X w') := fun X hX => alive_any X ((HM.out.keep HB5.out).keep hX)
          have HR05 : Hid (∀ X, Below w5.heap.size w5 X → Row X a0 zs) := fun X hX => row_below HR0.out (HB5.out.trans (hX.mono HB5.out.size))
          clear HRW HRD HOV HFIT HRUN HBX RD5 HTX HFT HR0 HR1 HR2 HB1 HB2 HB3 HB34 HRD0 HB4 HR3 HR3L HRF HO2 HBAD HBY2 HFL HL1 HL2
          go_wp2_with fail
          all_goals (go_region_held (fun _ => True) (trivial) (first
            | (go_at_call 8; refine (HA.out _ ?_).mono ?_; exact (Below.refl _ _).drew; rintro e x6 ⟨rfl, hb60⟩; have hb6 := ((Below.refl w5.heap.size w5).drew).trans (hb60.mono (Nat.le_refl _)); have kb6 := conv_row len0 cap0 HL0.out (HR05.out x6 hb6); clear HA)
            | (go_at_call 15; refine (HT1.out _ hb6).mono ?_; rintro e x7 ⟨a7, c7, rfl, hr7, hb7⟩; have k7 := conv_row len0 c7 HL0.out hr7; have hb67 := hb6.trans (hb7.mono hb6.size); have kb7 := conv_row len0 cap0 HL0.out (HR05.out x7 hb67); clear HT1)))
          all_goals go_wp2
          all_goals go_ret
          all_goals exact ⟨rfl, HB5.out.trans (hb67.mono HB5.out.size)⟩
        · exact absurd htk (by have := HRT.out; omega)
      · have hdg : decide ((7 : Int) > (r : Int)) = false := by simp; omega
        have haddk : (⟨bA, oA, none⟩ : Addr).add (7) = ⟨bA, oA + (7), none⟩ := add_plain _ _ _
        have hkb : 1 ≤ 7 ∧ 7 ≤ r := by have := HRT.out; omega
        have hkl : (((frameZ zs ++ more).drop t).take (7)).length = 7 := by have := HRT.out; simp [HFL.out, HL1.out]; omega
        have hstep := step_math (zs := zs) (more := more) (m := (len0 : Int)) (s := s) (t := t) (k := 7) HBAD.out (by rw [HL0.out]; omega) (by rw [HFL.out]; exact htf) (by have := HRT.out; simp [HFL.out, HL1.out]; omega) HRUN.out HOV.out
        rw [HFL.out] at hstep
        have hput := put_any (g + 1) g s wr HRD.out HOV.out t HFIT.out (some ⟨bA, oA, none⟩) (7) cv (((frameZ zs ++ more).drop t).take (7)) hkl (fun w' hb => row_take _ (HRW.out w' (HBX.out.1.trans hb.1))) (by have := HRT.out; omega)
        have hfit2 := fit_run (((frameZ zs ++ more).drop t).take (7)) HFIT.out
        rw [hkl] at hfit2
        obtain ⟨⟨s', n'⟩, hs'⟩ : ∃ rr, runZ s (((frameZ zs ++ more).drop t).take (7)) = rr := ⟨_, rfl⟩
        have hn' : n' ≤ 7 := by have := run_len (((frameZ zs ++ more).drop t).take (7)) s; rw [hs', hkl] at this; exact this
        rw [hs'] at hstep hput hfit2
        simp only at hstep
        simp only [putV] at hput
        have hkc : 7 ≤ cv := by omega
        clear hkl
        rcases hstep with ⟨ho', hsF, htn⟩ | ⟨ho', hnk, htk, hrun'⟩
        · rw [ho'] at hput
          simp only [if_true] at hput
          have hft : faultZ s' = 0 := by rw [hsF]; rw [fault_or]; exact ⟨rfl, rfl, by show ¬ (len0 : Int) < zs.length; rw [HL0.out]; omega⟩
          have htx : textZ s' = zs := by unfold textZ; rw [if_pos hft, hsF]; show zs.take (zs.length : Int).toNat = zs; simp
          rw [hft] at hput
          have HTX : Hid (textZ s' = zs) := htx
          have HFT : Hid (Fit s' (t + (7))) := hfit2
          have etn : (t : Int) + (n' : Int) = (fl : Int) := by omega
          clear hft htx hsF ho' hs' hfit2 htn
          go_wp2_with fail
          refine hput.mono ?_
          clear hput
          rintro e w5 ⟨rfl, hrd5, hbx5⟩
          have HB5 : Hid (Below w.heap.size w w5) := HB4.out.trans ((HBX.out.trans hbx5).below hsw3)
          have RD5 : Hid (Rd w5 (g + 1) g s') := hrd5
          clear hrd5 hbx5
          have HT1 : Hid (∀ X, Below w5.heap.size w5 X → Calls Try.prog 15 #[.pointer (some ⟨g, 0, none⟩)] X fun e w' => ∃ a c, e = .returned (.slice a len0 c) ∧ Row w' a zs ∧ Below X.heap.size X w') := by
            intro X hX
            have h := text_any _ _ s' X (rd_below RD5.out hX) _ HFT.out (by have := HRT.out; omega)
            rw [HTX.out, HL0.out] at h
            exact h
          have HA : Hid (∀ X, Below w5.heap.size w5 X → Calls Try.prog 8 #[] X fun e w' => e = .returned (.bool true) ∧ Below X.heap.size X w') := fun X hX => alive_any X ((HM.out.keep HB5.out).keep hX)
          have HR05 : Hid (∀ X, Below w5.heap.size w5 X → Row X a0 zs) := fun X hX => row_below HR0.out (HB5.out.trans (hX.mono HB5.out.size))
          clear HRW HRD HOV HFIT HRUN HBX RD5 HTX HFT HR0 HR1 HR2 HB1 HB2 HB3 HB34 HRD0 HB4 HR3 HR3L HRF HO2 HBAD HBY2 HFL HL1 HL2
          go_wp2_with fail
          all_goals (go_region_held (fun _ => True) (trivial) (first
            | (go_at_call 8; refine (HA.out _ ?_).mono ?_; exact (Below.refl _ _).drew; rintro e x6 ⟨rfl, hb60⟩; have hb6 := ((Below.refl w5.heap.size w5).drew).trans (hb60.mono (Nat.le_refl _)); have kb6 := conv_row len0 cap0 HL0.out (HR05.out x6 hb6); clear HA)
            | (go_at_call 15; refine (HT1.out _ hb6).mono ?_; rintro e x7 ⟨a7, c7, rfl, hr7, hb7⟩; have k7 := conv_row len0 c7 HL0.out hr7; have hb67 := hb6.trans (hb7.mono hb6.size); have kb7 := conv_row len0 cap0 HL0.out (HR05.out x7 hb67); clear HT1)))
          all_goals go_wp2
          all_goals go_ret
          all_goals exact ⟨rfl, HB5.out.trans (hb67.mono HB5.out.size)⟩
        · rw [ho'] at hput
          simp only [Bool.false_eq_true, if_false] at hput
          rw [hnk] at hput
          have HS' : Hid (s'.over = false ∧ Fit s' (t + (7)) ∧ runZ (ad (len0 : Int) 0 [] 0 false) ((frameZ zs ++ more).take (t + (7))) = (s', t + (7))) := ⟨ho', hfit2, hrun'⟩
          have hcn : ¬ cv = 7 := by have := HRT.out; omega
          have hrk : ¬ r - (7) = 0 := by have := HRT.out; omega
          have HTK : Hid (t + (7) < fl) := htk
          clear ho' hfit2 hrun' hs' hnk hn' htk
          go_wp2_with fail
          refine hput.mono ?_
          clear hput
          rintro e w5 ⟨rfl, hrd5, hbx5⟩
          have HBX5 : Hid (Bx (g + 1) g w4 w5) := HBX.out.trans hbx5
          have RD5 : Hid (Rd w5 (g + 1) g s') := hrd5
          clear hrd5 hbx5
          go_wp2
          go_roundw
          case rel => exact ⟨i + 1, t + (7), cv - (7), some ⟨bA, oA + (7), none⟩, s', by rw [show fl + len1 - (t + (7)) = r - (7) from by have := HRT.out; omega]; try (rw [if_neg hcn]), by have := HRT.out; omega, by omega, by rw [show ((t + (7) : Nat) : Int) = (t : Int) + (7) from by omega], by rw [show ((i + 1 : Nat) : Int) = (i : Int) + 1 from by omega], by omega, HTK.out, fun X hX => by have h := row_drop (n := (7)) (cap := cv) (HRW.out X hX) (by have := HRT.out; simp [HFL.out, HL1.out]; omega); rw [if_neg hcn, List.drop_drop] at h; simp only [Option.map_some, haddk] at h; exact h, RD5.out, HS'.out.1, HS'.out.2.1, HS'.out.2.2, HBX5.out⟩
          case measure => simp [intOf]; omega


set_option maxRecDepth 100000 in
theorem lifted (os : Os) (started : os.Started) (H : Type) (enc : TypeId × Value → H) :
    ReturnsInHanded {} Try.checked os 5 .any (Rows.dotsBackSpec.pre6 enc Try.prog Try.f5 Rows.dotsBackRow.domain false) (Rows.dotsBackSpec.post enc Try.prog Try.f5 false true false false) := by
  refine returnsInHanded_of_change_shaped (C := Try.checked) own started (by kernel_rfl) Try.func5
    (ChangeSpec.witness6 (enc := enc) (C := Try.checked) false ⟨#[], #[.slice none 0 0, .slice none 0 0, .slice none 0 0], []⟩ 8 (by kernel_rfl) (by kernel_rfl) (by kernel_rfl) (by kernel_rfl)) ?_
  intro W base args ds gs before hval0 hW hcnd _ hsh _
  have hval : ∀ (j : Nat) t v, Try.f5.params[j]? = some t → args[j]? = some v → Value.okWide Try.prog W .any base t v := hval0
  have hW' := hW
  obtain ⟨p, q, hA0, hV, rfl, hfz, hnd⟩ := hW
  have hA : DataW.TrodAll enc Try.prog W 0 (fun _ => true) true Try.f5.params.toList args.toList ds p := hA0
  rw [Try.params5] at hA hval
  obtain ⟨v0, vs0, d0, ds0, p0, q0, hargs, rfl, rfl, h0, r0⟩ := trodAll_cons hA
  obtain ⟨v1, vs1, d1, ds1, p1, q1, rfl, rfl, rfl, h1, r1⟩ := trodAll_cons r0
  obtain ⟨v2, vs2, d2, ds2, p2, q2, rfl, rfl, rfl, h2, r2⟩ := trodAll_cons r1
  obtain ⟨rfl, rfl, rfl⟩ := trodAll_nil r2
  obtain rfl : args = #[v0, v1, v2] := by cases args; simp_all
  obtain ⟨rfl, rfl⟩ := trodVars_none hV
  obtain ⟨a0, len0, cap0, rfl⟩ := okWide_slice Try.underlying22 (hval 0 22 v0 rfl rfl)
  have k0 := h0
  have lt0 : ∀ x ∈ p0, x.block < W.heap.size := by obtain ⟨m, hm⟩ := k0; exact DataW.trod_lt m _ _ _ hm
  obtain ⟨z0, w0⟩ : ∃ zs, IsRow .u8 W a0 len0 cap0 zs := by
    obtain ⟨fuel, hf⟩ := h0
    rcases open_ints Try.underlying22 Try.underlying5 (by kernel_rfl) hf with ⟨hcs, _⟩ | ⟨x, l, c, zs, hcs, _, hl, hm, hz, _, hcell, hwz⟩
    · simp [Value.cells] at hcs
      obtain ⟨rfl, rfl, rfl⟩ := hcs
      exact ⟨[], .inl ⟨rfl, rfl, rfl, rfl⟩⟩
    · simp [Value.cells] at hcs
      obtain ⟨rfl, rfl, rfl⟩ := hcs
      exact ⟨zs, .inr ⟨_, rfl, hl, hm, by simpa using hz, hcell, hwz⟩⟩
  obtain ⟨a1, len1, cap1, rfl⟩ := okWide_slice Try.underlying22 (hval 1 22 v1 rfl rfl)
  have k1 := h1
  have lt1 : ∀ x ∈ p1, x.block < W.heap.size := by obtain ⟨m, hm⟩ := k1; exact DataW.trod_lt m _ _ _ hm
  obtain ⟨z1, w1⟩ : ∃ zs, IsRow .u8 W a1 len1 cap1 zs := by
    obtain ⟨fuel, hf⟩ := h1
    rcases open_ints Try.underlying22 Try.underlying5 (by kernel_rfl) hf with ⟨hcs, _⟩ | ⟨x, l, c, zs, hcs, _, hl, hm, hz, _, hcell, hwz⟩
    · simp [Value.cells] at hcs
      obtain ⟨rfl, rfl, rfl⟩ := hcs
      exact ⟨[], .inl ⟨rfl, rfl, rfl, rfl⟩⟩
    · simp [Value.cells] at hcs
      obtain ⟨rfl, rfl, rfl⟩ := hcs
      exact ⟨zs, .inr ⟨_, rfl, hl, hm, by simpa using hz, hcell, hwz⟩⟩
  obtain ⟨a2, len2, cap2, rfl⟩ := okWide_slice Try.underlying22 (hval 2 22 v2 rfl rfl)
  have k2 := h2
  have lt2 : ∀ x ∈ p2, x.block < W.heap.size := by obtain ⟨m, hm⟩ := k2; exact DataW.trod_lt m _ _ _ hm
  obtain ⟨z2, w2⟩ : ∃ zs, IsRow .u8 W a2 len2 cap2 zs := by
    obtain ⟨fuel, hf⟩ := h2
    rcases open_ints Try.underlying22 Try.underlying5 (by kernel_rfl) hf with ⟨hcs, _⟩ | ⟨x, l, c, zs, hcs, _, hl, hm, hz, _, hcell, hwz⟩
    · simp [Value.cells] at hcs
      obtain ⟨rfl, rfl, rfl⟩ := hcs
      exact ⟨[], .inl ⟨rfl, rfl, rfl, rfl⟩⟩
    · simp [Value.cells] at hcs
      obtain ⟨rfl, rfl, rfl⟩ := hcs
      exact ⟨zs, .inr ⟨_, rfl, hl, hm, by simpa using hz, hcell, hwz⟩⟩
  clear hA0 hval0
  refine (walk a0 len0 cap0 z0 a1 len1 cap1 z1 a2 len2 cap2 z2 W w0 w1 w2 (laysM185.s1_3 W hsh)).mono fun e W' ⟨he, bel⟩ => ?_
  subst he
  exact ⟨_, rfl, _, _, _, [], _, [], hW', trodAll_mk1 (shut_bool Try.underlying4 _), (trodAll_cons_mk (Below.trod laidOut (by kernel_rfl) (of_decide_eq_true (by kernel_rfl)) k0 bel lt0) (trodAll_cons_mk (Below.trod laidOut (by kernel_rfl) (of_decide_eq_true (by kernel_rfl)) k1 bel lt1) (trodAll_cons_mk (Below.trod laidOut (by kernel_rfl) (of_decide_eq_true (by kernel_rfl)) k2 bel lt2) trodAll_mk0))), rfl, bel.frame _, fun h => by cases h⟩

theorem over : Rows.dotsBackRow.holds Try.pinned (OpenSpec.ofChange Rows.dotsBackSpec) :=
  OpenClaim.holds_of_wide 5 Try.f5 rfl rfl rfl rfl rfl rfl rfl ⟨rfl, rfl, rfl, rfl, rfl⟩ rfl rfl rfl rfl rfl (by kernel_rfl) Try.func5 (by kernel_rfl)
    (of_decide_eq_true (by kernel_rfl)) (by unfold Func.isWrapper; first | (rw [if_pos (by decide +kernel)]; kernel_rfl) | (rw [if_neg (by decide +kernel)]; exact ⟨rfl, rfl⟩))
    (fun os started H enc _ => lifted os started H enc)


end Go.Proofs.Ytlpbgfepneoajaa.dotsBack
namespace Go.Proofs.Ytlpbgfepneoajaa
theorem dotsBack_holds : Rows.DotsBackSaid := dotsBack.over
#print axioms dotsBack_holds
end Go.Proofs.Ytlpbgfepneoajaa
