/-
  TreeNests, one of its four ways.
-/
import Derived.Test.YtenclgnkogmgiaaDoorXe
import Derived.Test.YtenclgnkogmgiaaDoorXd
import Derived.Test.YtenclgnkogmgiaaDoorTs
import Derived.WalkKit
import Derived.ProofKit
import Derived.OpenShut
import Derived.ShutString
import Derived.ChangeOld
import Derived.Below
import Derived.HandedShaped
import Derived.LaidMore
import Derived.Lay
import Derived.SevenTiedAt
import Derived.Stop.Joined
namespace Go.Proofs.YtenclgnkogmgiaaDoor
open Go.ChangeShapes Go.WideShapes Go.ChangeAt Go.RowKit
open Go.ChangeMaps (open_string shut_string)
set_option linter.unusedVariables false
set_option linter.unusedSimpArgs false

set_option maxHeartbeats 8000000 in
set_option maxRecDepth 100000 in
theorem walkff (x y z : Value) (t : Cp) (k : Nat) (w : World) (hp : CpAt k w t x y z) (hwd : WdC k t) (mx : Int) (hm : w.cell? ⟨0, 0, none⟩ = some (.int .i64 mx)) : Calls Tryd.prog 8 #[compV x y z, .bool false, .bool false] w fun e w' => e = .returned (.bool true) ∧ Below w.heap.size w w' := by
  obtain ⟨⟨nm, rfl, hnm⟩, ⟨ya, yn, yc, rfl⟩, ⟨za, zn, zc, rfl⟩⟩ := cp_form hp
  have HNM : Hid (nums nm = t.nm) := hnm
  have HM : Hid (w.cell? ⟨0, 0, none⟩ = some (.int .i64 mx)) := hm
  have HP : Hid (CpAt k w t (.string nm) (.slice ya yn yc) (.slice za zn zc)) := hp
  have hk0 := keep w (.cells #[.string nm, .slice ya yn yc, .slice za zn zc] 25)
  have HG0 : Hid (Blk (w.alloc (.cells #[.string nm, .slice ya yn yc, .slice za zn zc] 25)) w.heap.size #[.string nm, .slice ya yn yc, .slice za zn zc] 25) := Blk.new _ _ _
  have hgr := great_tree 12 (by omega) k t _ _ _ (w.alloc (.cells #[.string nm, .slice ya yn yc, .slice za zn zc] 25)) (CpAt.below hk0 _ _ _ _ _ hp) hwd
  have HK0 : Hid (Below w.heap.size w (w.alloc (.cells #[.string nm, .slice ya yn yc, .slice za zn zc] 25))) := hk0
  unfold compV at hgr ⊢
  clear hk0 hp hm hwd hnm
  go_enter Tryd.func8, Tryd.ntmps8
  go_wp2_with fail
  refine hgr.mono ?_
  rintro e w1 ⟨gb, rfl, hb1, hgs⟩
  clear hgr
  have HGS : Hid (gb = false → smallT 12 t) := hgs
  have HB1 : Hid (Below w.heap.size w w1) := HK0.out.trans (hb1.mono HK0.out.size)
  have HG1 : Hid (Blk w1 w.heap.size #[.string nm, .slice ya yn yc, .slice za zn zc] 25) := HG0.out.below hb1 HG0.out.lt
  obtain ⟨c0, c1, c2⟩ := cells3 HG1.out
  clear hb1 hgs
  cases gb with
  | true =>
    go_wp2_with (go_at_call 11; refine (alive_any _ mx (cell_keep HB1.out HM.out)).mono ?_; rintro e w2 ⟨rfl, hb2⟩)
    go_ret
    exact ⟨rfl, HB1.out.trans (hb2.mono HB1.out.size)⟩
  | false =>
    have HSM : Hid (smallT 12 t) := HGS.out rfl
    have hfw := few_any k t _ _ _ w1 (CpAt.below HB1.out _ _ _ _ _ HP.out)
    unfold compV at hfw
    clear HGS
    go_wp2_with fail
    refine hfw.mono ?_
    rintro e w2 ⟨n2, rfl, hb2⟩
    clear hfw c0 c1 c2
    have HB2 : Hid (Below w.heap.size w w2) := HB1.out.trans (hb2.mono HB1.out.size)
    have HG2 : Hid (Blk w2 w.heap.size #[.string nm, .slice ya yn yc, .slice za zn zc] 25) := HG1.out.below hb2 HG1.out.lt
    obtain ⟨c0, c1, c2⟩ := cells3 HG2.out
    clear hb2
    obtain ⟨fb, hfb⟩ : ∃ b, decide (n2 ≤ 80) = b := ⟨_, rfl⟩
    rw [hfb]
    clear hfb
    cases fb with
    | false =>
      go_wp2_with (go_at_call 11; refine (alive_any _ mx (cell_keep HB2.out HM.out)).mono ?_; rintro e w3 ⟨rfl, hb3⟩)
      go_ret
      exact ⟨rfl, HB2.out.trans (hb3.mono HB2.out.size)⟩
    | true =>
      have hrt := right_tree k t _ _ _ w2 (CpAt.below HB2.out _ _ _ _ _ HP.out) (small_fit 12 k t HSM.out)
      unfold compV at hrt
      go_wp2_with fail
      refine hrt.mono ?_
      rintro e w3 ⟨rfl, hb3⟩
      clear hrt c0 c1 c2
      have HB3 : Hid (Below w.heap.size w w3) := HB2.out.trans (hb3.mono HB2.out.size)
      have HG3 : Hid (Blk w3 w.heap.size #[.string nm, .slice ya yn yc, .slice za zn zc] 25) := HG2.out.below hb3 HG2.out.lt
      obtain ⟨c0, c1, c2⟩ := cells3 HG3.out
      clear hb3
      obtain ⟨rb, hrb⟩ : ∃ b, rightT t = b := ⟨_, rfl⟩
      have HRT : Hid (rightT t = rb) := hrb
      rw [hrb]
      clear hrb
      cases rb with
      | false =>
        go_wp2_with (go_at_call 11; refine (alive_any _ mx (cell_keep HB3.out HM.out)).mono ?_; rintro e w4 ⟨rfl, hb4⟩)
        go_ret
        exact ⟨rfl, HB3.out.trans (hb4.mono HB3.out.size)⟩
      | true =>
      have HP12 : Hid (CpAt 12 w t (.string nm) (.slice ya yn yc) (.slice za zn zc)) := cp_flat 12 k t _ _ _ HSM.out HP.out
      have HDEP : Hid (dep 12 t) := dep_cp 12 t _ _ _ HP12.out
      have HRI : Hid (okC 12 t ∧ dP 12 t ≤ 8 ∧ nP 12 t ≤ 64 ∧ lP 12 t ≤ 8192) := (right_iff HDEP.out).1 HRT.out
      clear HP
      have hkG : w.heap.size < w3.heap.size := HG3.out.lt
      obtain ⟨d0, d1, d2⟩ := cells3 (HG3.out.alloc (.cells #[.string ⟨#[88]⟩, .slice none 0 0, .string ⟨#[49]⟩] 39))
      obtain ⟨e0, e1, e2⟩ := cells3 (((HG3.out.alloc (.cells #[.string ⟨#[88]⟩, .slice none 0 0, .string ⟨#[49]⟩] 39)).alloc (.cells #[.string nm, .slice ya yn yc, .slice za zn zc] 25)).alloc (.cells #[.string ⟨#[79]⟩, .slice none 0 0, .slice (some ⟨w3.heap.size + 1, 0, none⟩) 1 1] 25))
      have hbX : Below w3.heap.size w3 (((w3.alloc (.cells #[.string ⟨#[88]⟩, .slice none 0 0, .string ⟨#[49]⟩] 39)).alloc (.cells #[.string nm, .slice ya yn yc, .slice za zn zc] 25)).alloc (.cells #[.string ⟨#[79]⟩, .slice none 0 0, .slice (some ⟨w3.heap.size + 1, 0, none⟩) 1 1] 25)) := (keep w3 _).trans (((keep _ _).trans ((keep _ _).mono (keep _ _).size)).mono (keep w3 _).size)
      have HBX : Hid (Below w.heap.size w (((w3.alloc (.cells #[.string ⟨#[88]⟩, .slice none 0 0, .string ⟨#[49]⟩] 39)).alloc (.cells #[.string nm, .slice ya yn yc, .slice za zn zc] 25)).alloc (.cells #[.string ⟨#[79]⟩, .slice none 0 0, .slice (some ⟨w3.heap.size + 1, 0, none⟩) 1 1] 25))) := HB3.out.trans (hbX.mono HB3.out.size)
      have HGX : Hid (Blk (((w3.alloc (.cells #[.string ⟨#[88]⟩, .slice none 0 0, .string ⟨#[49]⟩] 39)).alloc (.cells #[.string nm, .slice ya yn yc, .slice za zn zc] 25)).alloc (.cells #[.string ⟨#[79]⟩, .slice none 0 0, .slice (some ⟨w3.heap.size + 1, 0, none⟩) 1 1] 25)) w.heap.size #[.string nm, .slice ya yn yc, .slice za zn zc] 25) := ((HG3.out.alloc _).alloc _).alloc _
      have HLX : Hid (Blk (((w3.alloc (.cells #[.string ⟨#[88]⟩, .slice none 0 0, .string ⟨#[49]⟩] 39)).alloc (.cells #[.string nm, .slice ya yn yc, .slice za zn zc] 25)).alloc (.cells #[.string ⟨#[79]⟩, .slice none 0 0, .slice (some ⟨w3.heap.size + 1, 0, none⟩) 1 1] 25)) w3.heap.size #[.string ⟨#[88]⟩, .slice none 0 0, .string ⟨#[49]⟩] 39) := ((Blk.new w3 _ _).alloc _).alloc _
      have HCX : Hid (Blk (((w3.alloc (.cells #[.string ⟨#[88]⟩, .slice none 0 0, .string ⟨#[49]⟩] 39)).alloc (.cells #[.string nm, .slice ya yn yc, .slice za zn zc] 25)).alloc (.cells #[.string ⟨#[79]⟩, .slice none 0 0, .slice (some ⟨w3.heap.size + 1, 0, none⟩) 1 1] 25)) (w3.heap.size + 1) #[.string nm, .slice ya yn yc, .slice za zn zc] 25) := by
        unfold Hid
        have h := (Blk.new (w3.alloc (.cells #[.string ⟨#[88]⟩, .slice none 0 0, .string ⟨#[49]⟩] 39)) #[.string nm, .slice ya yn yc, .slice za zn zc] 25).alloc (.cells #[.string ⟨#[79]⟩, .slice none 0 0, .slice (some ⟨w3.heap.size + 1, 0, none⟩) 1 1] 25)
        rw [World.size_alloc] at h
        exact h
      have HOX : Hid (Blk (((w3.alloc (.cells #[.string ⟨#[88]⟩, .slice none 0 0, .string ⟨#[49]⟩] 39)).alloc (.cells #[.string nm, .slice ya yn yc, .slice za zn zc] 25)).alloc (.cells #[.string ⟨#[79]⟩, .slice none 0 0, .slice (some ⟨w3.heap.size + 1, 0, none⟩) 1 1] 25)) (w3.heap.size + 1 + 1) #[.string ⟨#[79]⟩, .slice none 0 0, .slice (some ⟨w3.heap.size + 1, 0, none⟩) 1 1] 25) := by
        unfold Hid
        have h := Blk.new ((w3.alloc (.cells #[.string ⟨#[88]⟩, .slice none 0 0, .string ⟨#[49]⟩] 39)).alloc (.cells #[.string nm, .slice ya yn yc, .slice za zn zc] 25)) #[.string ⟨#[79]⟩, .slice none 0 0, .slice (some ⟨w3.heap.size + 1, 0, none⟩) 1 1] 25
        rw [World.size_alloc, World.size_alloc] at h
        exact h
      have hct := count_exact 12 t _ _ _ (((w3.alloc (.cells #[.string ⟨#[88]⟩, .slice none 0 0, .string ⟨#[49]⟩] 39)).alloc (.cells #[.string nm, .slice ya yn yc, .slice za zn zc] 25)).alloc (.cells #[.string ⟨#[79]⟩, .slice none 0 0, .slice (some ⟨w3.heap.size + 1, 0, none⟩) 1 1] 25)) (CpAt.below HBX.out _ _ _ _ _ HP12.out) (by have := HRI.out; omega) (by have := HRI.out; omega)
      unfold compV at hct
      obtain ⟨nn, hnn⟩ : ∃ n, nP 12 t = n := ⟨_, rfl⟩
      obtain ⟨ll, hll⟩ : ∃ n, lP 12 t = n := ⟨_, rfl⟩
      obtain ⟨dd, hdd⟩ : ∃ n, dP 12 t = n := ⟨_, rfl⟩
      rw [hnn, hll, hdd] at hct
      have bn : nn ≤ 64 := by have := HRI.out; omega
      have bl : ll ≤ 8192 := by have := HRI.out; omega
      have bd : dd ≤ 8 := by have := HRI.out; omega
      have HNN : Hid (nP 12 t = nn) := hnn
      have HLL : Hid (lP 12 t = ll) := hll
      have HDD : Hid (dP 12 t = dd) := hdd
      clear hnn hll hdd hbX
      go_wp2_with fail
      refine hct.mono ?_
      rintro e w4 ⟨rfl, hb4⟩
      clear hct d0 d1 d2 e0 e1 e2 c0 c1 c2
      have hs4 : w3.heap.size + 3 ≤ w4.heap.size := by have := hb4.size; simp only [World.size_alloc] at this; omega
      have HB4 : Hid (Below w.heap.size w w4) := HBX.out.trans (hb4.mono HBX.out.size)
      have HG4 : Hid (Blk w4 w.heap.size #[.string nm, .slice ya yn yc, .slice za zn zc] 25) := HGX.out.below hb4 HGX.out.lt
      have HL4 : Hid (Blk w4 w3.heap.size #[.string ⟨#[88]⟩, .slice none 0 0, .string ⟨#[49]⟩] 39) := HLX.out.below hb4 HLX.out.lt
      have HC4 : Hid (Blk w4 (w3.heap.size + 1) #[.string nm, .slice ya yn yc, .slice za zn zc] 25) := HCX.out.below hb4 HCX.out.lt
      have HO4 : Hid (Blk w4 (w3.heap.size + 1 + 1) #[.string ⟨#[79]⟩, .slice none 0 0, .slice (some ⟨w3.heap.size + 1, 0, none⟩) 1 1] 25) := HOX.out.below hb4 HOX.out.lt
      obtain ⟨g7, hg7⟩ : ∃ g, w3.heap.size = g := ⟨_, rfl⟩
      rw [hg7] at HL4 HC4 HO4 hs4 hkG ⊢
      clear hg7 HBX HLX HCX HOX HGX hb4 HG3 HB3
      have o1 : w4.cell? ⟨g7 + 1 + 1, 1, none⟩ = some (.slice none 0 0) := (cells3 HO4.out).2.1
      have o2 : w4.cell? ⟨g7 + 1 + 1, 2, none⟩ = some (.slice (some ⟨g7 + 1, 0, none⟩) 1 1) := (cells3 HO4.out).2.2
      obtain ⟨l0, l1, l2⟩ := cells3 HL4.out
      have HT6 : Hid (Tk (fun b => b = g7 + 1 ∨ b = g7 + 1 + 1) w4 (w4)) := Tk.refl _ _
      have HO6 : Hid (Blk w4 (g7 + 1 + 1) #[.string ⟨#[79]⟩, .slice none 0 0, .slice (some ⟨g7 + 1, 0, none⟩) 1 1] 25) := HO4.out
      have hb56 := HB4
      obtain ⟨W, hW⟩ : ∃ W, w4 = W := ⟨_, rfl⟩
      have HW : Hid (w4 = W) := hW
      have HO8 : Hid (Blk W (g7 + 1 + 1) #[.string ⟨#[79]⟩, .slice none 0 0, .slice (some ⟨g7 + 1, 0, none⟩) 1 1] 25) := by unfold Hid; rw [← hW]; exact HO6.out
      have HT8 : Hid (Tk (fun b => b = g7 + 1 ∨ b = g7 + 1 + 1) w4 W) := by unfold Hid; rw [← hW]; exact HT6.out
      have HC8 : Hid (Blk W (g7 + 1) #[.string nm, .slice ya yn yc, .slice za zn zc] 25) := by unfold Hid; rw [← hW]; exact HC4.out
      clear hW
      have HB8 : Hid (Below w.heap.size w W) := below_tk hb56.out HT8.out (by intro b hb; rcases hb with rfl | rfl <;> omega) hb56.out.size
      have HG8 : Hid (Blk W w.heap.size #[.string nm, .slice ya yn yc, .slice za zn zc] 25) := HT8.out.kept HG4.out (by omega)
      have hcp : CpAt 12 W t (.string nm) (.slice ya yn yc) (.slice za zn zc) := CpAt.below HB8.out _ _ _ _ _ HP12.out
      have HQ8 : Hid (CpAt 13 W (outC t false false) (.string ⟨#[79]⟩) (.slice none 0 0) (.slice (some ⟨g7 + 1, 0, none⟩) 1 1)) := ⟨⟨_, rfl, rfl⟩, nest_ls0 W, nest_t1 HC8.out hcp⟩
      have hwt := write_tree 13 (outC t false false) _ _ _ W HQ8.out (small_fit 13 13 _ (outC_small HSM.out false false))
      have HRR : Hid (rightT (outC t false false) = true ↔ (nn : Int) + 1 ≤ 64 ∧ (dd : Int) < 8 ∧ (ll : Int) ≤ 8192) := by
        unfold Hid
        rw [outC_right HDEP.out HRT.out false false, HNN.out, HLL.out, HDD.out]
        simp only [Bool.false_eq_true, if_true, if_false]
        omega
      unfold compV at hwt
      obtain ⟨x0, x1, x2⟩ := cells3 HO8.out
      rw [← HW.out] at x0 x1 x2
      clear hcp HT6 HO6 hb56 HB4 HG4 HO4 HC4 HL4
      try clear o1
      try clear o2
      try clear l0 l1 l2
      by_cases f1 : (nn : Int) + 1 ≤ 64
      rotate_left
      · have HRF : Hid (rightT (outC t false false) = false) := by
          unfold Hid
          rw [Bool.eq_false_iff]
          intro q
          have := HRR.out.1 q
          omega
        go_wp2_with fail
        rw [HW.out]
        refine hwt.mono ?_
        rintro e w9 ⟨v9, c9, rfl, hb9, hans⟩
        clear hwt x0 x1 x2 HW
        try clear p1 pf r0 r1 r2
        try clear s0 s1 s2 sf
        have HB9 : Hid (Below w.heap.size w w9) := HB8.out.trans (hb9.mono HB8.out.size)
        have hc : c9 = 100 ∧ v9 = .slice none 0 0 := by
          rcases hans with ⟨_, q, _⟩ | ⟨q0, ⟨_, q⟩ | ⟨q, _⟩⟩
          · rw [HRF.out] at q; cases q
          · exact ⟨q, q0⟩
          · rw [HRF.out] at q; cases q
        obtain ⟨rfl, rfl⟩ := hc
        clear hans HRF hb9
        go_wp2_with (go_at_call 11; refine (alive_any _ mx (cell_keep HB9.out HM.out)).mono ?_; rintro e w10 ⟨rfl, hb10⟩)
        go_ret
        exact ⟨rfl, HB9.out.trans (hb10.mono HB9.out.size)⟩
      by_cases f2 : (dd : Int) < 8
      rotate_left
      · have HRF : Hid (rightT (outC t false false) = false) := by
          unfold Hid
          rw [Bool.eq_false_iff]
          intro q
          have := HRR.out.1 q
          omega
        go_wp2_with fail
        rw [HW.out]
        refine hwt.mono ?_
        rintro e w9 ⟨v9, c9, rfl, hb9, hans⟩
        clear hwt x0 x1 x2 HW
        try clear p1 pf r0 r1 r2
        try clear s0 s1 s2 sf
        have HB9 : Hid (Below w.heap.size w w9) := HB8.out.trans (hb9.mono HB8.out.size)
        have hc : c9 = 100 ∧ v9 = .slice none 0 0 := by
          rcases hans with ⟨_, q, _⟩ | ⟨q0, ⟨_, q⟩ | ⟨q, _⟩⟩
          · rw [HRF.out] at q; cases q
          · exact ⟨q, q0⟩
          · rw [HRF.out] at q; cases q
        obtain ⟨rfl, rfl⟩ := hc
        clear hans HRF hb9
        go_wp2_with (go_at_call 11; refine (alive_any _ mx (cell_keep HB9.out HM.out)).mono ?_; rintro e w10 ⟨rfl, hb10⟩)
        go_ret
        exact ⟨rfl, HB9.out.trans (hb10.mono HB9.out.size)⟩
      by_cases f3 : (ll : Int) ≤ 8192
      rotate_left
      · exfalso; omega
      have HRT2 : Hid (rightT (outC t false false) = true) := HRR.out.2 ⟨f1, f2, f3⟩
      go_wp2_with fail
      rw [HW.out]
      refine hwt.mono ?_
      rintro e w9 ⟨v9, c9, rfl, hb9, hans⟩
      clear hwt x0 x1 x2 HW
      try clear p1 pf r0 r1 r2
      try clear s0 s1 s2 sf
      have HB9 : Hid (Below w.heap.size w w9) := HB8.out.trans (hb9.mono HB8.out.size)

      have HG9 : Hid (Blk w9 w.heap.size #[.string nm, .slice ya yn yc, .slice za zn zc] 25) := HG8.out.below hb9 HG8.out.lt
      have HO9 : Hid (Blk w9 (g7 + 1 + 1) #[.string ⟨#[79]⟩, .slice none 0 0, .slice (some ⟨g7 + 1, 0, none⟩) 1 1] 25) := HO8.out.below hb9 HO8.out.lt
      have HQ9 : Hid (CpAt 13 w9 (outC t false false) (.string ⟨#[79]⟩) (.slice none 0 0) (.slice (some ⟨g7 + 1, 0, none⟩) 1 1)) := CpAt.below hb9 _ _ _ _ _ HQ8.out
      rcases hans with ⟨rfl, _, hl1, hl2, hown⟩ | ⟨q0, ⟨q, _⟩ | ⟨_, rfl, _⟩⟩
      rotate_left
      · rw [HRT2.out] at q; cases q
      · subst q0
        clear hb9
        go_wp2_with (go_at_call 11; refine (alive_any _ mx (cell_keep HB9.out HM.out)).mono ?_; rintro e w10 ⟨rfl, hb10⟩)
        go_ret
        exact ⟨rfl, HB9.out.trans (hb10.mono HB9.out.size)⟩
      obtain ⟨ks, hks⟩ := cp_ms 13 _ _ _ _ HQ9.out
      have hd13 : dep 13 (outC t false false) := outC_dep HDEP.out false false
      have hlen : (wlP 13 (outC t false false)).length < 4096 := by
        have h1 := few_lines 13 _ hd13
        have h2 := small_lines 13 13 _ (outC_small HSM.out false false) hd13
        have h3 := ((right_iff hd13).1 HRT2.out).2.2.1
        omega
      have hrw := read_written hks HRT2.out hd13 hlen hl2 v9 _ w9 hown mx (cell_keep HB9.out HM.out)
      obtain ⟨va, vn, vc, rfl⟩ : ∃ a n c, v9 = .slice a n c := by obtain ⟨a, c, h1, _⟩ := row_of_own hown; exact ⟨_, _, _, h1⟩
      clear hown hl1 hl2 hks hlen hd13 hb9 f1 f2 f3 HRR HO8 HG8 HQ8 HB8 HT8
      try clear HV8 HV7 HO7 HT7
      try clear HC8
      go_wp2_with fail
      refine hrw.mono ?_
      rintro e w10 ⟨x10, y10, z10, rfl, hb10, _, hcp10⟩
      clear hrw
      obtain ⟨⟨nm4, rfl, _⟩, ⟨ua, un, uc, rfl⟩, ⟨ta, tn, tc, rfl⟩⟩ := cp_form hcp10
      have HB10 : Hid (Below w.heap.size w w10) := HB9.out.trans (hb10.mono HB9.out.size)
      have HC10 : Hid (CpAt 13 w10 (outC t false false) (.string nm4) (.slice ua un uc) (.slice ta tn tc)) := cp_flat 13 4097 _ _ _ _ (outC_small HSM.out false false) hcp10
      have hk10 := keep w10 (.cells #[.string nm4, .slice ua un uc, .slice ta tn tc] 25)
      obtain ⟨Y, hY⟩ : ∃ Y, w10.alloc (.cells #[.string nm4, .slice ua un uc, .slice ta tn tc] 25) = Y := ⟨_, rfl⟩
      obtain ⟨gy, hgy⟩ : ∃ g, w10.heap.size = g := ⟨_, rfl⟩
      have HYE : Hid (w10.alloc (.cells #[.string nm4, .slice ua un uc, .slice ta tn tc] 25) = Y) := hY
      have HGE : Hid (w10.heap.size = gy) := hgy
      have hn := Blk.new w10 #[.string nm4, .slice ua un uc, .slice ta tn tc] 25
      obtain ⟨n0, n1, n2'⟩ := cells3 hn
      rw [hY] at hk10
      rw [hY, hgy] at hn
      have HYB : Hid (Blk Y gy #[.string nm4, .slice ua un uc, .slice ta tn tc] 25) := hn
      have hb9Y : Below w9.heap.size w9 Y := hb10.trans (hk10.mono hb10.size)
      have HBY : Hid (Below w.heap.size w Y) := HB10.out.trans (hk10.mono HB10.out.size)
      have HGY : Hid (Blk Y w.heap.size #[.string nm, .slice ya yn yc, .slice za zn zc] 25) := HG9.out.below hb9Y HG9.out.lt
      have HOY : Hid (Blk Y (g7 + 1 + 1) #[.string ⟨#[79]⟩, .slice none 0 0, .slice (some ⟨g7 + 1, 0, none⟩) 1 1] 25) := HO9.out.below hb9Y HO9.out.lt
      have HQY : Hid (CpAt 13 Y (outC t false false) (.string ⟨#[79]⟩) (.slice none 0 0) (.slice (some ⟨g7 + 1, 0, none⟩) 1 1)) := CpAt.below hb9Y _ _ _ _ _ HQ9.out
      have HCY : Hid (CpAt 13 Y (outC t false false) (.string nm4) (.slice ua un uc) (.slice ta tn tc)) := CpAt.below hk10 _ _ _ _ _ HC10.out
      have hfd := find_tree 12 12 (by omega) nm4 nm ua ta un uc tn tc (outC t false false).cs Y HCY.out.2.2 (outC_small HSM.out false false).2.2.2.2 (outC_small HSM.out false false).2.2.2.1
      obtain ⟨g0, g1, g2⟩ := cells3 HGY.out
      rw [← hY] at g0 g1 g2
      unfold compV at hfd ⊢
      clear hY hgy hn hk10 hb10 hb9Y hcp10
      go_wp2_with fail
      rw [HYE.out]
      refine hfd.mono ?_
      rintro e w11 ⟨v11, rfl, htr, hb11⟩
      rw [HGE.out]
      clear hfd g0 g1 g2 n0 n1 n2' HYE HGE HQ9 HO9 HG9 HC10
      obtain ⟨rr, hrr⟩ := outC_find t false false
      rw [HNM.out, hrr] at htr
      clear hrr
      obtain ⟨_, fa, fc, rfl, hfr⟩ := htr
      obtain ⟨fb, off, rfl, hfc⟩ : ∃ b off, fa = some ⟨b, off, none⟩ ∧ ∀ (i : Nat) (q : Cp), (t :: rr)[i]? = some q → ∃ x y z, w11.cell? ⟨b, off + i * 3, none⟩ = some x ∧ w11.cell? ⟨b, off + i * 3 + 1, none⟩ = some y ∧ w11.cell? ⟨b, off + i * 3 + 2, none⟩ = some z ∧ CpAt (12 * 1000) w11 q x y z := by
        rcases hfr with h | h
        · cases h
        · exact h
      obtain ⟨fx, fy, fz, k0, k1, k2, hfp⟩ := hfc 0 t rfl
      simp only [Nat.zero_mul, Nat.add_zero] at k0 k1 k2
      obtain ⟨⟨fs, rfl, _⟩, ⟨ba, bn', bc, rfl⟩, ⟨ca, cn, cc, rfl⟩⟩ := cp_form hfp
      obtain ⟨fn, hfn⟩ : ∃ n, (t :: rr).length = n := ⟨_, rfl⟩
      have hf1 : 1 ≤ fn := by rw [← hfn]; simp
      rw [hfn]
      have hrl : rr.length + 1 = fn := by rw [← hfn]; simp
      try rw [hrl]
      clear hfr hfc hfn hrl
      have HK0' : Hid (w11.cell? ⟨fb, off, none⟩ = some (.string fs)) := k0
      have HK1' : Hid (w11.cell? ⟨fb, off + 1, none⟩ = some (.slice ba bn' bc)) := k1
      have HK2' : Hid (w11.cell? ⟨fb, off + 2, none⟩ = some (.slice ca cn cc)) := k2
      have HFP : Hid (CpAt 12000 w11 t (.string fs) (.slice ba bn' bc) (.slice ca cn cc)) := hfp
      have HB11 : Hid (Below w.heap.size w w11) := HBY.out.trans (hb11.mono HBY.out.size)
      have HG11 : Hid (Blk w11 w.heap.size #[.string nm, .slice ya yn yc, .slice za zn zc] 25) := HGY.out.below hb11 HGY.out.lt
      have HO11 : Hid (Blk w11 (g7 + 1 + 1) #[.string ⟨#[79]⟩, .slice none 0 0, .slice (some ⟨g7 + 1, 0, none⟩) 1 1] 25) := HOY.out.below hb11 HOY.out.lt
      have HY11 : Hid (Blk w11 gy #[.string nm4, .slice ua un uc, .slice ta tn tc] 25) := HYB.out.below hb11 HYB.out.lt
      have HQ11 : Hid (CpAt 13 w11 (outC t false false) (.string ⟨#[79]⟩) (.slice none 0 0) (.slice (some ⟨g7 + 1, 0, none⟩) 1 1)) := CpAt.below hb11 _ _ _ _ _ HQY.out
      have HC11 : Hid (CpAt 13 w11 (outC t false false) (.string nm4) (.slice ua un uc) (.slice ta tn tc)) := CpAt.below hb11 _ _ _ _ _ HCY.out
      have HT11 : Hid (CpAt 12000 w11 t (.string nm) (.slice ya yn yc) (.slice za zn zc)) := CpAt.up 12 12000 _ _ _ _ (by omega) (CpAt.below HB11.out _ _ _ _ _ HP12.out)
      clear hb11 hfp k0 k1 k2 HGY HOY HYB HQY HCY HP12
      go_wp2_with fail
      have hSall : ∀ V, Below w11.heap.size w11 V → Below w11.heap.size w11 V ∧ V.cell? ⟨w.heap.size, 0, none⟩ = some (.string nm) ∧ V.cell? ⟨w.heap.size, 1, none⟩ = some (.slice ya yn yc) ∧ V.cell? ⟨w.heap.size, 2, none⟩ = some (.slice za zn zc) ∧ V.cell? ⟨g7 + 1 + 1, 0, none⟩ = some (.string ⟨#[79]⟩) ∧ V.cell? ⟨g7 + 1 + 1, 1, none⟩ = some (.slice none 0 0) ∧ V.cell? ⟨g7 + 1 + 1, 2, none⟩ = some (.slice (some ⟨g7 + 1, 0, none⟩) 1 1) ∧ V.cell? ⟨gy, 0, none⟩ = some (.string nm4) ∧ V.cell? ⟨gy, 1, none⟩ = some (.slice ua un uc) ∧ V.cell? ⟨gy, 2, none⟩ = some (.slice ta tn tc) ∧ V.cell? ⟨fb, off, none⟩ = some (.string fs) ∧ V.cell? ⟨fb, off + 1, none⟩ = some (.slice ba bn' bc) ∧ V.cell? ⟨fb, off + 2, none⟩ = some (.slice ca cn cc) := by
        intro V hb
        obtain ⟨a0, a1, a2⟩ := cells3 (HG11.out.below hb HG11.out.lt)
        obtain ⟨b0, b1, b2⟩ := cells3 (HO11.out.below hb HO11.out.lt)
        obtain ⟨d0, d1, d2⟩ := cells3 (HY11.out.below hb HY11.out.lt)
        exact ⟨hb, a0, a1, a2, b0, b1, b2, d0, d1, d2, cell_keep hb HK0'.out, cell_keep hb HK1'.out, cell_keep hb HK2'.out⟩
      have hal := fun V (hb : Below w11.heap.size w11 V) => alive_any V mx (cell_keep (HB11.out.trans (hb.mono HB11.out.size)) HM.out)
      have hs1 := fun V (hb : Below w11.heap.size w11 V) => same_all 13 (outC t false false) _ _ _ _ _ _ V (CpAt.below hb _ _ _ _ _ HC11.out) (CpAt.below hb _ _ _ _ _ HQ11.out)
      have hs2 := fun V (hb : Below w11.heap.size w11 V) => same_all 12000 t _ _ _ _ _ _ V (CpAt.below hb _ _ _ _ _ HFP.out) (CpAt.below hb _ _ _ _ _ HT11.out)
      unfold compV at hs1 hs2
      refine wp_region_held_drew (S := fun V => Below w11.heap.size w11 V ∧ V.cell? ⟨w.heap.size, 0, none⟩ = some (.string nm) ∧ V.cell? ⟨w.heap.size, 1, none⟩ = some (.slice ya yn yc) ∧ V.cell? ⟨w.heap.size, 2, none⟩ = some (.slice za zn zc) ∧ V.cell? ⟨g7 + 1 + 1, 0, none⟩ = some (.string ⟨#[79]⟩) ∧ V.cell? ⟨g7 + 1 + 1, 1, none⟩ = some (.slice none 0 0) ∧ V.cell? ⟨g7 + 1 + 1, 2, none⟩ = some (.slice (some ⟨g7 + 1, 0, none⟩) 1 1) ∧ V.cell? ⟨gy, 0, none⟩ = some (.string nm4) ∧ V.cell? ⟨gy, 1, none⟩ = some (.slice ua un uc) ∧ V.cell? ⟨gy, 2, none⟩ = some (.slice ta tn tc) ∧ V.cell? ⟨fb, off, none⟩ = some (.string fs) ∧ V.cell? ⟨fb, off + 1, none⟩ = some (.slice ba bn' bc) ∧ V.cell? ⟨fb, off + 2, none⟩ = some (.slice ca cn cc)) (by kernel_rfl) (by exact hSall _ (below_drew (Below.refl _ _))) (fun hHeld => ?_)
      refine wpAnyH_ready (rs := [0]) (by kernel_rfl) (by simp) ?_
      refine AllReadyH.cons rfl (fun K hK => ?_) AllReadyH.nil
      go_simp
      refine (hal _ hHeld.1).mono ?_
      rintro e u1 ⟨rfl, hb1⟩
      have hV1 : Below w11.heap.size w11 u1 := hHeld.1.trans (hb1.mono hHeld.1.size)
      refine hK.out _ _ (by exact hSall _ hV1) (fun hHeld => ?_)
      clear hK K
      refine takeD (some 95) (i := 1) (v := .bool true) rfl rfl (by kernel_rfl) (by kernel_rfl) (by kernel_rfl) (fun _ _ _ h => h) (Or.inl ⟨by kernel_rfl, ?_⟩) (by assumption) ?_
      · (intro w hSw; (try dsimp only at hSw); go_simp)
      (try simp only [Act.put, List.setIfInBounds_toArray, List.set_cons_zero, List.set_cons_succ])
      refine takeD (some 96) (i := 2) (v := .int .i64 0) rfl rfl (by kernel_rfl) (by kernel_rfl) (by kernel_rfl) (fun _ _ _ h => h) (Or.inl ⟨by kernel_rfl, ?_⟩) (by assumption) ?_
      · (intro w hSw; (try dsimp only at hSw); go_simp)
      (try simp only [Act.put, List.setIfInBounds_toArray, List.set_cons_zero, List.set_cons_succ])
      refine takeD (some 97) (i := 3) (v := .bool true) rfl rfl (by kernel_rfl) (by kernel_rfl) (by kernel_rfl) (fun _ _ _ h => h) (Or.inl ⟨by kernel_rfl, ?_⟩) (by assumption) ?_
      · (intro w hSw; (try dsimp only at hSw); go_simp)
      (try simp only [Act.put, List.setIfInBounds_toArray, List.set_cons_zero, List.set_cons_succ])
      refine takeD (some 98) (i := 4) (v := .bool true) rfl rfl (by kernel_rfl) (by kernel_rfl) (by kernel_rfl) (fun _ _ _ h => h) (Or.inl ⟨by kernel_rfl, ?_⟩) (by assumption) ?_
      · (intro w hSw; (try dsimp only at hSw); go_simp)
      (try simp only [Act.put, List.setIfInBounds_toArray, List.set_cons_zero, List.set_cons_succ])
      refine takeD (some 99) (i := 5) (v := .bool true) rfl rfl (by kernel_rfl) (by kernel_rfl) (by kernel_rfl) (fun _ _ _ h => h) (Or.inl ⟨by kernel_rfl, ?_⟩) (by assumption) ?_
      · (intro w hSw; (try dsimp only at hSw); go_simp)
      (try simp only [Act.put, List.setIfInBounds_toArray, List.set_cons_zero, List.set_cons_succ])
      refine takeD (some 100) (i := 6) (v := .int .i64 0) rfl rfl (by kernel_rfl) (by kernel_rfl) (by kernel_rfl) (fun _ _ _ h => h) (Or.inl ⟨by kernel_rfl, ?_⟩) (by assumption) ?_
      · (intro w hSw; (try dsimp only at hSw); go_simp)
      (try simp only [Act.put, List.setIfInBounds_toArray, List.set_cons_zero, List.set_cons_succ])
      refine takeD (some 101) (i := 7) (v := .bool true) rfl rfl (by kernel_rfl) (by kernel_rfl) (by kernel_rfl) (fun _ _ _ h => h) (Or.inl ⟨by kernel_rfl, ?_⟩) (by assumption) ?_
      · (intro w hSw; (try dsimp only at hSw); go_simp)
      (try simp only [Act.put, List.setIfInBounds_toArray, List.set_cons_zero, List.set_cons_succ])
      refine takeD (some 102) (i := 8) (v := .bool true) rfl rfl (by kernel_rfl) (by kernel_rfl) (by kernel_rfl) (fun _ _ _ h => h) (Or.inl ⟨by kernel_rfl, ?_⟩) (by assumption) ?_
      · (intro w hSw; (try dsimp only at hSw); go_simp)
      (try simp only [Act.put, List.setIfInBounds_toArray, List.set_cons_zero, List.set_cons_succ])
      refine takeD (some 103) (i := 9) (v := .bool true) rfl rfl (by kernel_rfl) (by kernel_rfl) (by kernel_rfl) (fun _ _ _ h => h) (Or.inl ⟨by kernel_rfl, ?_⟩) (by assumption) ?_
      · (intro w hSw; (try dsimp only at hSw); go_simp)
      (try simp only [Act.put, List.setIfInBounds_toArray, List.set_cons_zero, List.set_cons_succ])
      refine takeD (some 104) (i := 10) (v := .agg #[.string nm4, .slice ua un uc, .slice ta tn tc]) rfl rfl (by kernel_rfl) (by kernel_rfl) (by kernel_rfl) (fun _ _ _ h => h) (Or.inl ⟨by kernel_rfl, ?_⟩) (by assumption) ?_
      · (intro w hSw; (try dsimp only at hSw); go_simp)
      (try simp only [Act.put, List.setIfInBounds_toArray, List.set_cons_zero, List.set_cons_succ])
      refine takeD (some 105) (i := 11) (v := .agg #[.string ⟨#[79]⟩, .slice none 0 0, .slice (some ⟨g7 + 1, 0, none⟩) 1 1]) rfl rfl (by kernel_rfl) (by kernel_rfl) (by kernel_rfl) (fun _ _ _ h => h) (Or.inl ⟨by kernel_rfl, ?_⟩) (by assumption) ?_
      · (intro w hSw; (try dsimp only at hSw); go_simp)
      (try simp only [Act.put, List.setIfInBounds_toArray, List.set_cons_zero, List.set_cons_succ])
      refine wpAnyH_ready (rs := [12]) (by kernel_rfl) (by simp) ?_
      refine AllReadyH.cons rfl (fun K hK => ?_) AllReadyH.nil
      go_simp
      refine (hs1 _ hHeld.1).mono ?_
      rintro e u2 ⟨rfl, hb2⟩
      have hV2 : Below w11.heap.size w11 u2 := hHeld.1.trans (hb2.mono hHeld.1.size)
      refine hK.out _ _ (by exact hSall _ hV2) (fun hHeld => ?_)
      clear hK K
      refine takeD (some 107) (i := 13) (v := .bool true) rfl rfl (by kernel_rfl) (by kernel_rfl) (by kernel_rfl) (fun _ _ _ h => h) (Or.inl ⟨by kernel_rfl, ?_⟩) (by assumption) ?_
      · (intro w hSw; (try dsimp only at hSw); go_simp)
      (try simp only [Act.put, List.setIfInBounds_toArray, List.set_cons_zero, List.set_cons_succ])
      refine takeD (some 108) (i := 14) (v := .bool true) rfl rfl (by kernel_rfl) (by kernel_rfl) (by kernel_rfl) (fun _ _ _ h => h) (Or.inl ⟨by kernel_rfl, ?_⟩) (by assumption) ?_
      · (intro w hSw; (try dsimp only at hSw); go_simp)
      (try simp only [Act.put, List.setIfInBounds_toArray, List.set_cons_zero, List.set_cons_succ])
      refine takeD (some 109) (i := 15) (v := .slice (some ⟨fb, off, none⟩) fn fc) rfl rfl (by kernel_rfl) (by kernel_rfl) (by kernel_rfl) (fun _ _ _ h => h) (Or.inl ⟨by kernel_rfl, ?_⟩) (by assumption) ?_
      · (intro w hSw; (try dsimp only at hSw); go_simp)
      (try simp only [Act.put, List.setIfInBounds_toArray, List.set_cons_zero, List.set_cons_succ])
      refine takeD (some 110) (i := 16) (v := .int .i64 (fn : Nat)) rfl rfl (by kernel_rfl) (by kernel_rfl) (by kernel_rfl) (fun _ _ _ h => h) (Or.inl ⟨by kernel_rfl, ?_⟩) (by assumption) ?_
      · (intro w hSw; (try dsimp only at hSw); go_simp)
      (try simp only [Act.put, List.setIfInBounds_toArray, List.set_cons_zero, List.set_cons_succ])
      refine takeD (some 111) (i := 17) (v := .bool true) rfl rfl (by kernel_rfl) (by kernel_rfl) (by kernel_rfl) (fun _ _ _ h => h) (Or.inl ⟨by kernel_rfl, ?_⟩) (by assumption) ?_
      · (intro w hSw; (try dsimp only at hSw); go_simp <;> first | omega | (intro h; omega))
      (try simp only [Act.put, List.setIfInBounds_toArray, List.set_cons_zero, List.set_cons_succ])
      refine takeD (some 112) (i := 18) (v := .bool true) rfl rfl (by kernel_rfl) (by kernel_rfl) (by kernel_rfl) (fun _ _ _ h => h) (Or.inl ⟨by kernel_rfl, ?_⟩) (by assumption) ?_
      · (intro w hSw; (try dsimp only at hSw); go_simp)
      (try simp only [Act.put, List.setIfInBounds_toArray, List.set_cons_zero, List.set_cons_succ])
      refine takeD (some 113) (i := 19) (v := .bool true) rfl rfl (by kernel_rfl) (by kernel_rfl) (by kernel_rfl) (fun _ _ _ h => h) (Or.inl ⟨by kernel_rfl, ?_⟩) (by assumption) ?_
      · (intro w hSw; (try dsimp only at hSw); go_simp)
      (try simp only [Act.put, List.setIfInBounds_toArray, List.set_cons_zero, List.set_cons_succ])
      refine takeD (some 114) (i := 20) (v := .slice (some ⟨fb, off, none⟩) fn fc) rfl rfl (by kernel_rfl) (by kernel_rfl) (by kernel_rfl) (fun _ _ _ h => h) (Or.inl ⟨by kernel_rfl, ?_⟩) (by assumption) ?_
      · (intro w hSw; (try dsimp only at hSw); go_simp)
      (try simp only [Act.put, List.setIfInBounds_toArray, List.set_cons_zero, List.set_cons_succ])
      refine takeD (some 115) (i := 21) (v := .pointer (some ⟨fb, off, none⟩)) rfl rfl (by kernel_rfl) (by kernel_rfl) (by kernel_rfl) (fun _ _ _ h => h) (Or.inl ⟨by kernel_rfl, ?_⟩) (by assumption) ?_
      · (intro w hSw; (try dsimp only at hSw); go_simp <;> first | omega | (intro h; omega))
      (try simp only [Act.put, List.setIfInBounds_toArray, List.set_cons_zero, List.set_cons_succ])
      refine takeD (some 116) (i := 22) (v := (.agg #[.string fs, .slice ba bn' bc, .slice ca cn cc])) rfl rfl (by kernel_rfl) (by kernel_rfl) (by kernel_rfl) (fun _ _ _ h => h) (Or.inl ⟨by kernel_rfl, ?_⟩) (by assumption) ?_
      · (intro w hSw; (try dsimp only at hSw); go_simp)
      (try simp only [Act.put, List.setIfInBounds_toArray, List.set_cons_zero, List.set_cons_succ])
      refine takeD (some 117) (i := 23) (v := .agg #[.string nm, .slice ya yn yc, .slice za zn zc]) rfl rfl (by kernel_rfl) (by kernel_rfl) (by kernel_rfl) (fun _ _ _ h => h) (Or.inl ⟨by kernel_rfl, ?_⟩) (by assumption) ?_
      · (intro w hSw; (try dsimp only at hSw); go_simp)
      (try simp only [Act.put, List.setIfInBounds_toArray, List.set_cons_zero, List.set_cons_succ])
      refine wpAnyH_ready (rs := [24]) (by kernel_rfl) (by simp) ?_
      refine AllReadyH.cons rfl (fun K hK => ?_) AllReadyH.nil
      go_simp
      refine (hs2 _ hHeld.1).mono ?_
      rintro e u3 ⟨rfl, hb3⟩
      have hV3 : Below w11.heap.size w11 u3 := hHeld.1.trans (hb3.mono hHeld.1.size)
      refine hK.out _ _ (by exact hSall _ hV3) (fun hHeld => ?_)
      clear hK K
      refine takeD (some 119) (i := 25) (v := .bool true) rfl rfl (by kernel_rfl) (by kernel_rfl) (by kernel_rfl) (fun _ _ _ h => h) (Or.inl ⟨by kernel_rfl, ?_⟩) (by assumption) ?_
      · (intro w hSw; (try dsimp only at hSw); go_simp)
      (try simp only [Act.put, List.setIfInBounds_toArray, List.set_cons_zero, List.set_cons_succ])
      refine takeD (some 6) (i := 26) (v := .bool true) rfl rfl (by kernel_rfl) (by kernel_rfl) (by kernel_rfl) (fun _ _ _ h => h) (Or.inl ⟨by kernel_rfl, ?_⟩) (by assumption) ?_
      · (intro w hSw; (try dsimp only at hSw); go_simp)
      (try simp only [Act.put, List.setIfInBounds_toArray, List.set_cons_zero, List.set_cons_succ])
      refine wpAnyH_done (by kernel_rfl) ?_ _
      go_wp2
      go_ret
      exact ⟨rfl, HB11.out.trans (hV3.mono HB11.out.size)⟩
end Go.Proofs.YtenclgnkogmgiaaDoor
