/-
  TreeGets: whatever component and name come, Get, All and Find answer as the document says.
-/
import Derived.Test.YtenclgnkogmgiaaDoorCards
import Derived.Test.YtenclgnkogmgiaaDoorTie
import Derived.Test.YtenclgnkogmgiaaDoorTw
import Derived.Test.YtenclgnkogmgiaaDoorXd
import Derived.Test.YtenclgnkogmgiaaDoorTs
import Derived.WalkKit
import Derived.ProofKit
import Derived.OpenShut
import Derived.ShutString
import Derived.ChangeOld
import Derived.Below
import Derived.HandedShaped
import Derived.LaidMore
import Derived.Lay
import Derived.SevenTiedAt
import Derived.Stop.Joined
namespace Go.Proofs.YtenclgnkogmgiaaDoor.treeGets
open Go.ChangeShapes Go.WideShapes Go.ChangeAt Go.RowKit
open Go.ChangeMaps (open_string shut_string)
set_option linter.unusedVariables false
set_option linter.unusedSimpArgs false

theorem lrow_one {V : World} {B n c : Nat} {nm vl : ByteArray} {a : Option Addr} {fs : List (ByteArray × ByteArray)} (h : Blk V B #[.string nm, .slice a n c, .string vl] 39) (hn : fs.length = n) (hf : FRow V a fs) : LRow V (some ⟨B, 0, none⟩) [⟨nm, vl, a, c, fs⟩] := by
  obtain ⟨c0, c1, c2⟩ := cells3 h
  refine .inr ⟨B, 0, rfl, fun i m hm => ?_⟩
  cases i with
  | zero => simp at hm; subst hm; simp only; rw [hn]; exact ⟨⟨c0, c1, c2⟩, hf⟩
  | succ i => simp at hm
theorem trow_up {V : World} {v : Value} {ts : List Cp} {P P' : Cp → Value → Value → Value → Prop} (h : TRow V v ts P) (hp : ∀ q x y z, P q x y z → P' q x y z) : TRow V v ts P' := by
  obtain ⟨h1, a, c, e, h2⟩ := h
  refine ⟨h1, a, c, e, ?_⟩
  rcases h2 with h2 | ⟨b, off, ha, h2⟩
  · exact .inl h2
  · refine .inr ⟨b, off, ha, fun i u hu => ?_⟩
    obtain ⟨x, y, z, c0, c1, c2, h3⟩ := h2 i u hu
    exact ⟨x, y, z, c0, c1, c2, hp _ _ _ _ h3⟩
theorem trow_below {h : Nat} {V V' : World} {v : Value} {ts : List Cp} (h1 : TRow V v ts (CpAt h V)) (hb : Below V.heap.size V V') : TRow V' v ts (CpAt h V') := by
  obtain ⟨h1, a, c, e, h2⟩ := h1
  refine ⟨h1, a, c, e, ?_⟩
  rcases h2 with h2 | ⟨b, off, ha, h2⟩
  · exact .inl h2
  · refine .inr ⟨b, off, ha, fun i u hu => ?_⟩
    obtain ⟨x, y, z, c0, c1, c2, h3⟩ := h2 i u hu
    exact ⟨x, y, z, cell_keep hb c0, cell_keep hb c1, cell_keep hb c2, CpAt.below hb _ _ _ _ _ h3⟩
theorem pars_len {a b : List (ByteArray × ByteArray)} {x y x' y' : List Int} (h : (⟨x, numsP a, y⟩ : Ln) = ⟨x', numsP b, y'⟩) : a.length = b.length := by
  have h1 : numsP a = numsP b := congrArg Ln.pars h
  have h2 := congrArg List.length h1
  unfold numsP at h2
  simpa using h2
theorem cp_flat {w : World} : ∀ (n k : Nat) (t : Cp) (x y z : Value), smallT n t → CpAt k w t x y z → CpAt n w t x y z
  | 0, _, _, _, _, _, h, _ => h.elim
  | n + 1, 0, _, _, _, _, _, h => h.elim
  | n + 1, k + 1, t, x, y, z, ⟨_, _, _, _, hq⟩, ⟨h1, h2, h3, a, c, e, h4⟩ => by
    refine ⟨h1, h2, h3, a, c, e, ?_⟩
    rcases h4 with h4 | ⟨b, off, ha, h4⟩
    · exact .inl h4
    · refine .inr ⟨b, off, ha, fun i u hu => ?_⟩
      obtain ⟨p, q, r, c0, c1, c2, h5⟩ := h4 i u hu
      exact ⟨p, q, r, c0, c1, c2, cp_flat n k u p q r (hq u (List.mem_of_getElem? hu)) h5⟩
set_option maxHeartbeats 8000000 in
set_option maxRecDepth 100000 in
theorem walk (x y z : Value) (t : Cp) (k : Nat) (name : ByteArray) (w : World) (hp : CpAt k w t x y z) (hwd : WdC k t) (hnz : name.size ≤ 9223372036854775807) (mx : Int) (hm : w.cell? ⟨0, 0, none⟩ = some (.int .i64 mx)) : Calls Tryd.prog 5 #[compV x y z, .string name] w fun e w' => e = .returned (.bool true) ∧ Below w.heap.size w w' := by
  obtain ⟨⟨nm, rfl, _⟩, ⟨ya, yn, yc, rfl⟩, ⟨za, zn, zc, rfl⟩⟩ := cp_form hp
  have HM : Hid (w.cell? ⟨0, 0, none⟩ = some (.int .i64 mx)) := hm
  have HP : Hid (CpAt k w t (.string nm) (.slice ya yn yc) (.slice za zn zc)) := hp
  have hk0 := keep w (.cells #[.string nm, .slice ya yn yc, .slice za zn zc] 25)
  have HG0 : Hid (Blk (w.alloc (.cells #[.string nm, .slice ya yn yc, .slice za zn zc] 25)) w.heap.size #[.string nm, .slice ya yn yc, .slice za zn zc] 25) := Blk.new _ _ _
  have hgr := great_tree 12 (by omega) k t _ _ _ (w.alloc (.cells #[.string nm, .slice ya yn yc, .slice za zn zc] 25)) (CpAt.below hk0 _ _ _ _ _ hp) hwd
  have HK0 : Hid (Below w.heap.size w (w.alloc (.cells #[.string nm, .slice ya yn yc, .slice za zn zc] 25))) := hk0
  unfold compV at hgr ⊢
  clear hk0 hp hm hwd
  go_enter Tryd.func5, Tryd.ntmps5
  go_wp2_with fail
  refine hgr.mono ?_
  rintro e w1 ⟨gb, rfl, hb1, hgs⟩
  clear hgr
  have HGS : Hid (gb = false → smallT 12 t) := hgs
  have HB1 : Hid (Below w.heap.size w w1) := HK0.out.trans (hb1.mono HK0.out.size)
  have HG1 : Hid (Blk w1 w.heap.size #[.string nm, .slice ya yn yc, .slice za zn zc] 25) := HG0.out.below hb1 HG0.out.lt
  obtain ⟨c0, c1, c2⟩ := cells3 HG1.out
  clear hb1 hgs
  cases gb with
  | true =>
    go_wp2_with (go_at_call 11; refine (alive_any _ mx (cell_keep HB1.out HM.out)).mono ?_; rintro e w2 ⟨rfl, hb2⟩)
    go_ret
    exact ⟨rfl, HB1.out.trans (hb2.mono HB1.out.size)⟩
  | false =>
    have HSM : Hid (smallT 12 t) := HGS.out rfl
    have hfw := few_any k t _ _ _ w1 (CpAt.below HB1.out _ _ _ _ _ HP.out)
    unfold compV at hfw
    clear HGS
    go_wp2_with fail
    refine hfw.mono ?_
    rintro e w2 ⟨n2, rfl, hb2⟩
    clear hfw c0 c1 c2
    have HB2 : Hid (Below w.heap.size w w2) := HB1.out.trans (hb2.mono HB1.out.size)
    have HG2 : Hid (Blk w2 w.heap.size #[.string nm, .slice ya yn yc, .slice za zn zc] 25) := HG1.out.below hb2 HG1.out.lt
    obtain ⟨c0, c1, c2⟩ := cells3 HG2.out
    clear hb2
    obtain ⟨fb, hfb⟩ : ∃ b, decide (n2 ≤ 80) = b := ⟨_, rfl⟩
    rw [hfb]
    clear hfb
    cases fb with
    | false =>
      go_wp2_with (go_at_call 11; refine (alive_any _ mx (cell_keep HB2.out HM.out)).mono ?_; rintro e w3 ⟨rfl, hb3⟩)
      go_ret
      exact ⟨rfl, HB2.out.trans (hb3.mono HB2.out.size)⟩
    | true =>
      by_cases h200 : 200 < name.size
      · go_wp2_with (go_at_call 11; refine (alive_any _ mx (cell_keep HB2.out HM.out)).mono ?_; rintro e w3 ⟨rfl, hb3⟩)
        go_ret
        exact ⟨rfl, HB2.out.trans (hb3.mono HB2.out.size)⟩
      have HP12 : Hid (CpAt 12 w t (.string nm) (.slice ya yn yc) (.slice za zn zc)) := cp_flat 12 k t _ _ _ HSM.out HP.out
      have HLS : Hid (LsAt w (.slice ya yn yc) t.ls) := HP12.out.2.1
      have HTR : Hid (TRow w (.slice za zn zc) t.cs (CpAt 11 w)) := HP12.out.2.2
      have HF1 : Hid (∀ x ∈ t.ls, FitN x) := HSM.out.2.2.1
      have HL60 : Hid (t.ls.length ≤ 60) := HSM.out.2.1
      have HL70 : Hid (t.cs.length ≤ 70) := HSM.out.2.2.2.1
      have HQ : Hid (∀ q ∈ t.cs, smallT 11 q) := HSM.out.2.2.2.2
      have hgt := get_tree nm name ya za yn yc zn zc t.ls w2 (HLS.out.below HB2.out) HF1.out (by omega)
      unfold compV at hgt
      clear HP HP12 HSM
      go_wp2_with fail
      refine hgt.mono ?_
      rintro e w3 ⟨gnm, gvl, ga, gc, gfs, gn, rfl, hgf, hb3, hgn, hgx⟩
      clear hgt c0 c1 c2
      obtain ⟨gm, hgm⟩ : ∃ m, gfs.length = m := ⟨_, rfl⟩
      have HGM : Hid (gfs.length = gm) := hgm
      have HGF : Hid (FRow w3 ga gfs) := hgf
      have HGN : Hid (gn = (getL (nums name) t.ls).length) := hgn
      have HGX : Hid ((⟨nums gnm, numsP gfs, nums gvl⟩ : Ln) = firstL (getL (nums name) t.ls)) := hgx
      have HB3 : Hid (Below w.heap.size w w3) := HB2.out.trans (hb3.mono HB2.out.size)
      have HG3 : Hid (Blk w3 w.heap.size #[.string nm, .slice ya yn yc, .slice za zn zc] 25) := HG2.out.below hb3 HG2.out.lt
      rw [hgm]
      clear hgf hgn hgx hb3 hgm
      have hk3 := keep w3 (.cells #[.string gnm, .slice ga gm gc, .string gvl] 39)
      have HK3 : Hid (Below w3.heap.size w3 (w3.alloc (.cells #[.string gnm, .slice ga gm gc, .string gvl] 39))) := hk3
      have HR3 : Hid (Blk (w3.alloc (.cells #[.string gnm, .slice ga gm gc, .string gvl] 39)) w3.heap.size #[.string gnm, .slice ga gm gc, .string gvl] 39) := Blk.new _ _ _
      obtain ⟨c0, c1, c2⟩ := cells3 (HG3.out.below hk3 HG3.out.lt)
      have hal := rall_tree nm name ya za yn yc zn zc t.ls (w3.alloc (.cells #[.string gnm, .slice ga gm gc, .string gvl] 39)) (HLS.out.below (HB3.out.trans (hk3.mono HB3.out.size))) HF1.out HL60.out
      unfold compV at hal
      unfold lineV
      clear hk3
      go_wp2_with fail
      refine hal.mono ?_
      rintro e w4 ⟨v4, rfl, hls4, hb4⟩
      clear hal c0 c1 c2
      obtain ⟨aa, ac, ks, rfl, lr4, hms4, lm4, _, mf4⟩ := hls4
      obtain ⟨kn, hkn⟩ : ∃ n, ks.length = n := ⟨_, rfl⟩
      have HKN : Hid (ks.length = kn) := hkn
      rw [hkn] at lm4 ⊢
      have HLR4 : Hid (LRow w4 aa ks) := lr4
      have HMS4 : Hid (ks.map Lm.ln = getL (nums name) t.ls) := hms4
      have HMF4 : Hid (∀ m ∈ ks, m.fs.length ≤ 9223372036854775807) := mf4
      have hb34 : Below w3.heap.size w3 w4 := HK3.out.trans (hb4.mono HK3.out.size)
      have HB34 : Hid (Below w3.heap.size w3 w4) := hb34
      have HB4 : Hid (Below w.heap.size w w4) := HB3.out.trans (hb34.mono HB3.out.size)
      have HG4 : Hid (Blk w4 w.heap.size #[.string nm, .slice ya yn yc, .slice za zn zc] 25) := HG3.out.below hb34 HG3.out.lt
      have HR4 : Hid (Blk w4 w3.heap.size #[.string gnm, .slice ga gm gc, .string gvl] 39) := HR3.out.below hb4 HR3.out.lt
      obtain ⟨g4, hg4⟩ : ∃ n, w3.heap.size = n := ⟨_, rfl⟩
      have HR : Hid (Blk w4 g4 #[.string gnm, .slice ga gm gc, .string gvl] 39) := by rw [← hg4]; exact HR4.out
      have HGF4 : Hid (FRow w4 ga gfs) := by unfold Hid; exact HGF.out.below hb34
      clear hkn lr4 hms4 mf4 hb34 hb4 HG3 HR3 HR4 HK3 HGF HB34
      rw [hg4]
      clear hg4
      have hkeq : gn = kn := by rw [HGN.out, ← HMS4.out, List.length_map]; exact HKN.out
      subst hkeq
      clear HGN
      have hgl : g4 < w4.heap.size := HR.out.lt
      have hwl : w.heap.size ≤ w4.heap.size := HB4.out.size
      have hcw : w.heap.size < w4.heap.size := HG4.out.lt
      by_cases h0 : gn = 0
      · subst h0
        obtain ⟨W, hW⟩ : ∃ W, w4.alloc (.cells #[.string ⟨#[]⟩, .slice none 0 0, .string ⟨#[]⟩] 39) = W := ⟨_, rfl⟩
        have HW : Hid (w4.alloc (.cells #[.string ⟨#[]⟩, .slice none 0 0, .string ⟨#[]⟩] 39) = W) := hW
        have hkW : Below w4.heap.size w4 W := by rw [← hW]; exact keep w4 _
        have HBW : Hid (Below w.heap.size w W) := HB4.out.trans (hkW.mono HB4.out.size)
        have HGW : Hid (Blk W w.heap.size #[.string nm, .slice ya yn yc, .slice za zn zc] 25) := HG4.out.below hkW HG4.out.lt
        have HRW : Hid (Blk W g4 #[.string gnm, .slice ga gm gc, .string gvl] 39) := HR.out.below hkW HR.out.lt
        have HGFW : Hid (FRow W ga gfs) := by unfold Hid; exact HGF4.out.below hkW
        have HKW : Hid (LRow W aa ks) := HLR4.out.below hkW
        obtain ⟨f4, hf4⟩ : ∃ f4, w4.heap.size = f4 := ⟨_, rfl⟩
        have HFZ : Hid (Blk W f4 #[.string ⟨#[]⟩, .slice none 0 0, .string ⟨#[]⟩] 39) := by unfold Hid; rw [← hW, ← hf4]; exact Blk.new _ _ _
        have HEZ : Hid ((⟨nums gnm, numsP gfs, nums gvl⟩ : Ln) = ⟨nums ⟨#[]⟩, numsP [], nums ⟨#[]⟩⟩) := by
          unfold Hid
          rw [HGX.out, ← HMS4.out, List.eq_nil_of_length_eq_zero HKN.out]
          rfl
        have HGM2 : Hid (gm ≤ 9223372036854775807) := by unfold Hid; rw [← HGM.out, pars_len HEZ.out]; simp
        clear hW hkW HGX HR HG4 HGF4 HLR4 HB4
        go_wp2_with fail
        rw [HW.out]
        try rw [hf4]
        clear HW hf4
        obtain ⟨fnm, hfnm⟩ : ∃ s : ByteArray, (⟨#[]⟩ : ByteArray) = s := ⟨_, rfl⟩
        obtain ⟨fvl, hfvl⟩ : ∃ s : ByteArray, (⟨#[]⟩ : ByteArray) = s := ⟨_, rfl⟩
        obtain ⟨fa, hfa⟩ : ∃ s : Option Addr, none = s := ⟨_, rfl⟩
        obtain ⟨fm, hfm⟩ : ∃ s : Nat, 0 = s := ⟨_, rfl⟩
        obtain ⟨fc, hfc⟩ : ∃ s : Nat, 0 = s := ⟨_, rfl⟩
        obtain ⟨ffs, hffs⟩ : ∃ s : List (ByteArray × ByteArray), [] = s := ⟨_, rfl⟩
        have HFW : Hid (Blk W f4 #[.string fnm, .slice fa fm fc, .string fvl] 39) := by rw [← hfnm, ← hfvl, ← hfa, ← hfm, ← hfc]; exact HFZ.out
        have HEQ : Hid ((⟨nums gnm, numsP gfs, nums gvl⟩ : Ln) = ⟨nums fnm, numsP ffs, nums fvl⟩) := by rw [← hfnm, ← hfvl, ← hffs]; exact HEZ.out
        have HFM : Hid (ffs.length = fm) := by unfold Hid; rw [← hffs, ← hfm]; rfl
        have HFFW : Hid (FRow W fa ffs) := by unfold Hid; rw [← hffs]; exact .inl rfl
        clear hfnm hfvl hfa hfm hfc hffs HFZ HEZ
        obtain ⟨kn, hkn0⟩ : ∃ n : Nat, 0 = n := ⟨_, rfl⟩
        have HKN : Hid (ks.length = kn) := by rw [← hkn0]; exact HKN.out
        have hkz : (Value.int .i64 ((0 : Nat) : Int)) = .int .i64 (kn : Nat) := by rw [hkn0]
        subst hkn0
        clear hkz
        have hSall : ∀ V, Below W.heap.size W V → Below W.heap.size W V ∧ V.cell? ⟨w.heap.size, 0, none⟩ = some (.string nm) ∧ V.cell? ⟨w.heap.size, 1, none⟩ = some (.slice ya yn yc) ∧ V.cell? ⟨w.heap.size, 2, none⟩ = some (.slice za zn zc) ∧ V.cell? ⟨g4, 0, none⟩ = some (.string gnm) ∧ V.cell? ⟨g4, 1, none⟩ = some (.slice ga gm gc) ∧ V.cell? ⟨g4, 2, none⟩ = some (.string gvl) ∧ V.cell? ⟨f4, 0, none⟩ = some (.string fnm) ∧ V.cell? ⟨f4, 1, none⟩ = some (.slice fa fm fc) ∧ V.cell? ⟨f4, 2, none⟩ = some (.string fvl) := by
          intro V hb
          obtain ⟨a0, a1, a2⟩ := cells3 (HGW.out.below hb HGW.out.lt)
          obtain ⟨b0, b1, b2⟩ := cells3 (HRW.out.below hb HRW.out.lt)
          obtain ⟨d0, d1, d2⟩ := cells3 (HFW.out.below hb HFW.out.lt)
          exact ⟨hb, a0, a1, a2, b0, b1, b2, d0, d1, d2⟩
        have hal := fun V (hb : Below W.heap.size W V) => alive_any V mx (cell_keep (HBW.out.trans (hb.mono HBW.out.size)) HM.out)
        have hsm1 := fun V B1 B2 (hb : Below W.heap.size W V) (h1 : Blk V B1 #[.string gnm, .slice ga gm gc, .string gvl] 39) (h2 : Blk V B2 #[.string fnm, .slice fa fm fc, .string fvl] 39) => same_any (some ⟨B1, 0, none⟩) (some ⟨B2, 0, none⟩) 1 1 1 1 [⟨gnm, gvl, ga, gc, gfs⟩] [⟨fnm, fvl, fa, fc, ffs⟩] V rfl rfl (by omega) (by intro m hm; simp at hm; subst hm; simp only; rw [HGM.out]; exact HGM2.out) (lrow_one h1 HGM.out (HGFW.out.below hb)) (lrow_one h2 HFM.out (HFFW.out.below hb)) (same_ln (by simp only [List.map_cons, List.map_nil, Lm.ln]; rw [HEQ.out]))
        have hall := fun V (hb : Below W.heap.size W V) => all_tree nm name ya za yn yc zn zc t.ls V (HLS.out.below (HBW.out.trans (hb.mono HBW.out.size))) HF1.out HL60.out
        have hfi := fun V (hb : Below W.heap.size W V) => find_tree 11 11 (by omega) nm name ya za yn yc zn zc t.cs V (trow_below HTR.out (HBW.out.trans (hb.mono HBW.out.size))) HQ.out HL70.out
        have hrf := fun V (hb : Below W.heap.size W V) => rfind_tree 11 11 (by omega) nm name ya za yn yc zn zc t.cs V (trow_below HTR.out (HBW.out.trans (hb.mono HBW.out.size))) HQ.out HL70.out
        unfold compV at hall hfi hrf
        refine wp_region_held_drew (S := (fun V => Below W.heap.size W V ∧ V.cell? ⟨w.heap.size, 0, none⟩ = some (.string nm) ∧ V.cell? ⟨w.heap.size, 1, none⟩ = some (.slice ya yn yc) ∧ V.cell? ⟨w.heap.size, 2, none⟩ = some (.slice za zn zc) ∧ V.cell? ⟨g4, 0, none⟩ = some (.string gnm) ∧ V.cell? ⟨g4, 1, none⟩ = some (.slice ga gm gc) ∧ V.cell? ⟨g4, 2, none⟩ = some (.string gvl) ∧ V.cell? ⟨f4, 0, none⟩ = some (.string fnm) ∧ V.cell? ⟨f4, 1, none⟩ = some (.slice fa fm fc) ∧ V.cell? ⟨f4, 2, none⟩ = some (.string fvl))) (by kernel_rfl) (by exact hSall _ (below_drew (Below.refl _ _))) (fun hHeld => ?_)
        refine wpAnyH_ready (rs := [0]) (by kernel_rfl) (by simp) ?_
        refine AllReadyH.cons rfl (fun K hK => ?_) AllReadyH.nil
        go_simp
        refine (hal _ hHeld.1).mono ?_
        rintro e v1 ⟨rfl, hb1⟩
        have hV1 : Below W.heap.size W v1 := hHeld.1.trans (hb1.mono hHeld.1.size)
        refine hK.out _ _ (hSall _ hV1) (fun hHeld => ?_)
        clear hK K
        refine takeD (some 39) (i := 1) (v := .bool true) rfl rfl (by kernel_rfl) (by kernel_rfl) (by kernel_rfl) (fun _ _ _ h => h) (Or.inl ⟨by kernel_rfl, ?_⟩) (by assumption) ?_
        · (intro w hSw; (try dsimp only at hSw); go_simp)
        (try simp only [Act.put, List.setIfInBounds_toArray, List.set_cons_zero, List.set_cons_succ])
        refine takeD (some 40) (i := 2) (v := .int .i64 0) rfl rfl (by kernel_rfl) (by kernel_rfl) (by kernel_rfl) (fun _ _ _ h => h) (Or.inl ⟨by kernel_rfl, ?_⟩) (by assumption) ?_
        · (intro w hSw; (try dsimp only at hSw); go_simp)
        (try simp only [Act.put, List.setIfInBounds_toArray, List.set_cons_zero, List.set_cons_succ])
        refine takeD (some 41) (i := 3) (v := .slice aa 0 ac) rfl rfl (by kernel_rfl) (by kernel_rfl) (by kernel_rfl) (fun _ _ _ h => h) (Or.inl ⟨by kernel_rfl, ?_⟩) (by assumption) ?_
        · (intro w hSw; (try dsimp only at hSw); go_simp)
        (try simp only [Act.put, List.setIfInBounds_toArray, List.set_cons_zero, List.set_cons_succ])
        refine takeD (some 42) (i := 4) (v := .int .i64 0) rfl rfl (by kernel_rfl) (by kernel_rfl) (by kernel_rfl) (fun _ _ _ h => h) (Or.inl ⟨by kernel_rfl, ?_⟩) (by assumption) ?_
        · (intro w hSw; (try dsimp only at hSw); go_simp)
        (try simp only [Act.put, List.setIfInBounds_toArray, List.set_cons_zero, List.set_cons_succ])
        refine takeD (some 43) (i := 5) (v := .bool true) rfl rfl (by kernel_rfl) (by kernel_rfl) (by kernel_rfl) (fun _ _ _ h => h) (Or.inl ⟨by kernel_rfl, ?_⟩) (by assumption) ?_
        · (intro w hSw; (try dsimp only at hSw); go_simp)
        (try simp only [Act.put, List.setIfInBounds_toArray, List.set_cons_zero, List.set_cons_succ])
        refine takeD (some 44) (i := 6) (v := .bool true) rfl rfl (by kernel_rfl) (by kernel_rfl) (by kernel_rfl) (fun _ _ _ h => h) (Or.inl ⟨by kernel_rfl, ?_⟩) (by assumption) ?_
        · (intro w hSw; (try dsimp only at hSw); go_simp)
        (try simp only [Act.put, List.setIfInBounds_toArray, List.set_cons_zero, List.set_cons_succ])
        refine takeD (some 45) (i := 7) (v := .bool true) rfl rfl (by kernel_rfl) (by kernel_rfl) (by kernel_rfl) (fun _ _ _ h => h) (Or.inl ⟨by kernel_rfl, ?_⟩) (by assumption) ?_
        · (intro w hSw; (try dsimp only at hSw); go_simp)
        (try simp only [Act.put, List.setIfInBounds_toArray, List.set_cons_zero, List.set_cons_succ])
        refine takeD (some 46) (i := 8) (v := .agg #[.string gnm, .slice ga gm gc, .string gvl]) rfl rfl (by kernel_rfl) (by kernel_rfl) (by kernel_rfl) (fun _ _ _ h => h) (Or.inl ⟨by kernel_rfl, ?_⟩) (by assumption) ?_
        · (intro w hSw; (try dsimp only at hSw); go_simp)
        (try simp only [Act.put, List.setIfInBounds_toArray, List.set_cons_zero, List.set_cons_succ])
        refine takeD (some 48) (i := 10) (v := .agg #[.string fnm, .slice fa fm fc, .string fvl]) rfl rfl (by kernel_rfl) (by kernel_rfl) (by kernel_rfl) (fun _ _ _ h => h) (Or.inl ⟨by kernel_rfl, ?_⟩) (by assumption) ?_
        · (intro w hSw; (try dsimp only at hSw); go_simp)
        (try simp only [Act.put, List.setIfInBounds_toArray, List.set_cons_zero, List.set_cons_succ])
        refine wpAnyH_ready (rs := [9, 11]) (by kernel_rfl) (by simp) ?_
        refine AllReadyH.cons rfl (fun K hK => ?_) (AllReadyH.cons rfl (fun K hK => ?_) AllReadyH.nil)
        · go_simp
          have hV2 : Below W.heap.size W (v1.alloc (.cells #[.string gnm, .slice ga gm gc, .string gvl] 39)) := hV1.trans ((keep v1 _).mono hV1.size)
          have HN2 : Hid (Blk (v1.alloc (.cells #[.string gnm, .slice ga gm gc, .string gvl] 39)) v1.heap.size #[.string gnm, .slice ga gm gc, .string gvl] 39) := Blk.new _ _ _
          refine hK.out _ _ (hSall _ hV2) (fun hHeld => ?_)
          clear hK K
          obtain ⟨v2, hv2⟩ : ∃ v2, v1.alloc (.cells #[.string gnm, .slice ga gm gc, .string gvl] 39) = v2 := ⟨_, rfl⟩
          rw [hv2] at hV2 HN2 hHeld ⊢
          refine wpAnyH_ready (rs := [11]) (by kernel_rfl) (by simp) ?_
          refine AllReadyH.cons rfl (fun K hK => ?_) AllReadyH.nil
          go_simp
          have hV3 : Below W.heap.size W (v2.alloc (.cells #[.string fnm, .slice fa fm fc, .string fvl] 39)) := hV2.trans ((keep v2 _).mono hV2.size)
          have HN3 : Hid (Blk (v2.alloc (.cells #[.string fnm, .slice fa fm fc, .string fvl] 39)) v2.heap.size #[.string fnm, .slice fa fm fc, .string fvl] 39) := Blk.new _ _ _
          refine hK.out _ _ (hSall _ hV3) (fun hHeld => ?_)
          clear hK K
          obtain ⟨v3, hv3⟩ : ∃ v3, v2.alloc (.cells #[.string fnm, .slice fa fm fc, .string fvl] 39) = v3 := ⟨_, rfl⟩
          have HQ2 : Hid (Blk v3 v1.heap.size #[.string gnm, .slice ga gm gc, .string gvl] 39) := by unfold Hid; rw [← hv3]; exact HN2.out.alloc _
          rw [hv3] at hV3 HN3 hHeld ⊢
          have HQ3 : Hid (Blk v3 v2.heap.size #[.string fnm, .slice fa fm fc, .string fvl] 39) := HN3.out
          clear hv2 hv3 HN2 HN3
          refine wpAnyH_ready (rs := [12]) (by kernel_rfl) (by simp) ?_
          refine AllReadyH.cons rfl (fun K hK => ?_) AllReadyH.nil
          go_simp
          refine (hsm1 _ _ _ hHeld.1 HQ2.out HQ3.out).mono ?_
          rintro e v4 ⟨rfl, hb4⟩
          have hV4 : Below W.heap.size W v4 := hHeld.1.trans (hb4.mono hHeld.1.size)
          refine hK.out _ _ (hSall _ hV4) (fun hHeld => ?_)
          clear hK K
          refine takeD (some 51) (i := 13) (v := .bool true) rfl rfl (by kernel_rfl) (by kernel_rfl) (by kernel_rfl) (fun _ _ _ h => h) (Or.inl ⟨by kernel_rfl, ?_⟩) (by assumption) ?_
          · (intro w hSw; (try dsimp only at hSw); go_simp)
          (try simp only [Act.put, List.setIfInBounds_toArray, List.set_cons_zero, List.set_cons_succ])
          refine takeD (some 52) (i := 14) (v := .bool true) rfl rfl (by kernel_rfl) (by kernel_rfl) (by kernel_rfl) (fun _ _ _ h => h) (Or.inl ⟨by kernel_rfl, ?_⟩) (by assumption) ?_
          · (intro w hSw; (try dsimp only at hSw); go_simp)
          (try simp only [Act.put, List.setIfInBounds_toArray, List.set_cons_zero, List.set_cons_succ])
          refine takeD (some 53) (i := 15) (v := .agg #[.string nm, .slice ya yn yc, .slice za zn zc]) rfl rfl (by kernel_rfl) (by kernel_rfl) (by kernel_rfl) (fun _ _ _ h => h) (Or.inl ⟨by kernel_rfl, ?_⟩) (by assumption) ?_
          · (intro w hSw; (try dsimp only at hSw); go_simp)
          (try simp only [Act.put, List.setIfInBounds_toArray, List.set_cons_zero, List.set_cons_succ])
          refine takeD (some 54) (i := 16) (v := .string name) rfl rfl (by kernel_rfl) (by kernel_rfl) (by kernel_rfl) (fun _ _ _ h => h) (Or.inl ⟨by kernel_rfl, ?_⟩) (by assumption) ?_
          · (intro w hSw; (try dsimp only at hSw); go_simp)
          (try simp only [Act.put, List.setIfInBounds_toArray, List.set_cons_zero, List.set_cons_succ])
          refine takeD (some 56) (i := 18) (v := .slice aa 0 ac) rfl rfl (by kernel_rfl) (by kernel_rfl) (by kernel_rfl) (fun _ _ _ h => h) (Or.inl ⟨by kernel_rfl, ?_⟩) (by assumption) ?_
          · (intro w hSw; (try dsimp only at hSw); go_simp)
          (try simp only [Act.put, List.setIfInBounds_toArray, List.set_cons_zero, List.set_cons_succ])
          refine wpAnyH_ready (rs := [17]) (by kernel_rfl) (by simp) ?_
          refine AllReadyH.cons rfl (fun K hK => ?_) AllReadyH.nil
          go_simp
          refine (hall _ hHeld.1).mono ?_
          rintro e v5 ⟨u5, rfl, hls5, hb5⟩
          have hV5 : Below W.heap.size W v5 := hHeld.1.trans (hb5.mono hHeld.1.size)
          obtain ⟨la5, lc5, ks5, rfl, hlr5, hks5, hl5, _, hm5⟩ := hls5
          have HS5 : Hid (LRow v5 la5 ks5) := hlr5
          have HE5 : Hid (ks5.map Lm.ln = getL (nums name) t.ls) := hks5
          have HM5 : Hid (∀ m ∈ ks5, m.fs.length ≤ 9223372036854775807) := hm5
          clear hlr5 hks5 hm5
          refine hK.out _ _ (hSall _ hV5) (fun hHeld => ?_)
          clear hK K
          refine wpAnyH_ready (rs := [19]) (by kernel_rfl) (by simp) ?_
          refine AllReadyH.cons rfl (fun K hK => ?_) AllReadyH.nil
          go_simp
          have hsm2 := same_any la5 aa ks5.length 0 lc5 ac ks5 ks v5 rfl HKN.out hl5 HM5.out HS5.out (HKW.out.below hHeld.1) (same_ln (HE5.out.trans HMS4.out.symm))
          refine (hsm2).mono ?_
          rintro e v6 ⟨rfl, hb6⟩
          have hV6 : Below W.heap.size W v6 := hHeld.1.trans (hb6.mono hHeld.1.size)
          refine hK.out _ _ (hSall _ hV6) (fun hHeld => ?_)
          clear hK K
          clear hsm2
          refine takeD (some 58) (i := 20) (v := .bool true) rfl rfl (by kernel_rfl) (by kernel_rfl) (by kernel_rfl) (fun _ _ _ h => h) (Or.inl ⟨by kernel_rfl, ?_⟩) (by assumption) ?_
          · (intro w hSw; (try dsimp only at hSw); go_simp)
          (try simp only [Act.put, List.setIfInBounds_toArray, List.set_cons_zero, List.set_cons_succ])
          refine takeD (some 59) (i := 21) (v := .bool true) rfl rfl (by kernel_rfl) (by kernel_rfl) (by kernel_rfl) (fun _ _ _ h => h) (Or.inl ⟨by kernel_rfl, ?_⟩) (by assumption) ?_
          · (intro w hSw; (try dsimp only at hSw); go_simp)
          (try simp only [Act.put, List.setIfInBounds_toArray, List.set_cons_zero, List.set_cons_succ])
          refine takeD (some 60) (i := 22) (v := .agg #[.string nm, .slice ya yn yc, .slice za zn zc]) rfl rfl (by kernel_rfl) (by kernel_rfl) (by kernel_rfl) (fun _ _ _ h => h) (Or.inl ⟨by kernel_rfl, ?_⟩) (by assumption) ?_
          · (intro w hSw; (try dsimp only at hSw); go_simp)
          (try simp only [Act.put, List.setIfInBounds_toArray, List.set_cons_zero, List.set_cons_succ])
          refine takeD (some 61) (i := 23) (v := .string name) rfl rfl (by kernel_rfl) (by kernel_rfl) (by kernel_rfl) (fun _ _ _ h => h) (Or.inl ⟨by kernel_rfl, ?_⟩) (by assumption) ?_
          · (intro w hSw; (try dsimp only at hSw); go_simp)
          (try simp only [Act.put, List.setIfInBounds_toArray, List.set_cons_zero, List.set_cons_succ])
          refine takeD (some 63) (i := 25) (v := .agg #[.string nm, .slice ya yn yc, .slice za zn zc]) rfl rfl (by kernel_rfl) (by kernel_rfl) (by kernel_rfl) (fun _ _ _ h => h) (Or.inl ⟨by kernel_rfl, ?_⟩) (by assumption) ?_
          · (intro w hSw; (try dsimp only at hSw); go_simp)
          (try simp only [Act.put, List.setIfInBounds_toArray, List.set_cons_zero, List.set_cons_succ])
          refine takeD (some 64) (i := 26) (v := .string name) rfl rfl (by kernel_rfl) (by kernel_rfl) (by kernel_rfl) (fun _ _ _ h => h) (Or.inl ⟨by kernel_rfl, ?_⟩) (by assumption) ?_
          · (intro w hSw; (try dsimp only at hSw); go_simp)
          (try simp only [Act.put, List.setIfInBounds_toArray, List.set_cons_zero, List.set_cons_succ])
          refine wpAnyH_ready (rs := [24]) (by kernel_rfl) (by simp) ?_
          refine AllReadyH.cons rfl (fun K hK => ?_) AllReadyH.nil
          go_simp
          refine (hfi _ hHeld.1).mono ?_
          rintro e v7 ⟨u7, rfl, htr7, hb7⟩
          have hV7 : Below W.heap.size W v7 := hHeld.1.trans (hb7.mono hHeld.1.size)
          have HT7 : Hid (TRow v7 u7 (findC (nums name) t.cs) (CpAt 11000 v7)) := htr7
          clear htr7
          refine hK.out _ _ (hSall _ hV7) (fun hHeld => ?_)
          clear hK K
          refine wpAnyH_ready (rs := [27]) (by kernel_rfl) (by simp) ?_
          refine AllReadyH.cons rfl (fun K hK => ?_) AllReadyH.nil
          go_simp
          refine (hrf _ hHeld.1).mono ?_
          rintro e v8 ⟨u8, rfl, htr8, hb8⟩
          have hV8 : Below W.heap.size W v8 := hHeld.1.trans (hb8.mono hHeld.1.size)
          have HT8 : Hid (TRow v8 u8 (findC (nums name) t.cs) (CpAt 11000 v8)) := trow_up htr8 (fun q x y z hq => CpAt.up 11 11000 _ _ _ _ (by omega) hq)
          have HT9 : Hid (TRow v8 u7 (findC (nums name) t.cs) (CpAt 11000 v8)) := trow_below HT7.out hb8
          clear htr8
          refine hK.out _ _ (hSall _ hV8) (fun hHeld => ?_)
          clear hK K
          refine wpAnyH_ready (rs := [28]) (by kernel_rfl) (by simp) ?_
          refine AllReadyH.cons rfl (fun K hK => ?_) AllReadyH.nil
          go_simp
          refine (same_list 11000 (same_all 11000) _ _ _ _ HT9.out HT8.out).mono ?_
          rintro e v9 ⟨rfl, hb9⟩
          have hV9 : Below W.heap.size W v9 := hHeld.1.trans (hb9.mono hHeld.1.size)
          refine hK.out _ _ (hSall _ hV9) (fun hHeld => ?_)
          clear hK K
          refine takeD (some 67) (i := 29) (v := .bool true) rfl rfl (by kernel_rfl) (by kernel_rfl) (by kernel_rfl) (fun _ _ _ h => h) (Or.inl ⟨by kernel_rfl, ?_⟩) (by assumption) ?_
          · (intro w hSw; (try dsimp only at hSw); go_simp)
          (try simp only [Act.put, List.setIfInBounds_toArray, List.set_cons_zero, List.set_cons_succ])
          refine takeD (some 4) (i := 30) (v := .bool true) rfl rfl (by kernel_rfl) (by kernel_rfl) (by kernel_rfl) (fun _ _ _ h => h) (Or.inl ⟨by kernel_rfl, ?_⟩) (by assumption) ?_
          · (intro w hSw; (try dsimp only at hSw); go_simp)
          (try simp only [Act.put, List.setIfInBounds_toArray, List.set_cons_zero, List.set_cons_succ])
          refine wpAnyH_done (by kernel_rfl) ?_ _
          go_wp2
          go_ret
          exact ⟨rfl, HBW.out.trans (hV9.mono HBW.out.size)⟩
        · go_simp
          have hV2 : Below W.heap.size W (v1.alloc (.cells #[.string fnm, .slice fa fm fc, .string fvl] 39)) := hV1.trans ((keep v1 _).mono hV1.size)
          have HN2 : Hid (Blk (v1.alloc (.cells #[.string fnm, .slice fa fm fc, .string fvl] 39)) v1.heap.size #[.string fnm, .slice fa fm fc, .string fvl] 39) := Blk.new _ _ _
          refine hK.out _ _ (hSall _ hV2) (fun hHeld => ?_)
          clear hK K
          obtain ⟨v2, hv2⟩ : ∃ v2, v1.alloc (.cells #[.string fnm, .slice fa fm fc, .string fvl] 39) = v2 := ⟨_, rfl⟩
          rw [hv2] at hV2 HN2 hHeld ⊢
          refine wpAnyH_ready (rs := [9]) (by kernel_rfl) (by simp) ?_
          refine AllReadyH.cons rfl (fun K hK => ?_) AllReadyH.nil
          go_simp
          have hV3 : Below W.heap.size W (v2.alloc (.cells #[.string gnm, .slice ga gm gc, .string gvl] 39)) := hV2.trans ((keep v2 _).mono hV2.size)
          have HN3 : Hid (Blk (v2.alloc (.cells #[.string gnm, .slice ga gm gc, .string gvl] 39)) v2.heap.size #[.string gnm, .slice ga gm gc, .string gvl] 39) := Blk.new _ _ _
          refine hK.out _ _ (hSall _ hV3) (fun hHeld => ?_)
          clear hK K
          obtain ⟨v3, hv3⟩ : ∃ v3, v2.alloc (.cells #[.string gnm, .slice ga gm gc, .string gvl] 39) = v3 := ⟨_, rfl⟩
          have HQ3 : Hid (Blk v3 v1.heap.size #[.string fnm, .slice fa fm fc, .string fvl] 39) := by unfold Hid; rw [← hv3]; exact HN2.out.alloc _
          rw [hv3] at hV3 HN3 hHeld ⊢
          have HQ2 : Hid (Blk v3 v2.heap.size #[.string gnm, .slice ga gm gc, .string gvl] 39) := HN3.out
          clear hv2 hv3 HN2 HN3
          refine wpAnyH_ready (rs := [12]) (by kernel_rfl) (by simp) ?_
          refine AllReadyH.cons rfl (fun K hK => ?_) AllReadyH.nil
          go_simp
          refine (hsm1 _ _ _ hHeld.1 HQ2.out HQ3.out).mono ?_
          rintro e v4 ⟨rfl, hb4⟩
          have hV4 : Below W.heap.size W v4 := hHeld.1.trans (hb4.mono hHeld.1.size)
          refine hK.out _ _ (hSall _ hV4) (fun hHeld => ?_)
          clear hK K
          refine takeD (some 51) (i := 13) (v := .bool true) rfl rfl (by kernel_rfl) (by kernel_rfl) (by kernel_rfl) (fun _ _ _ h => h) (Or.inl ⟨by kernel_rfl, ?_⟩) (by assumption) ?_
          · (intro w hSw; (try dsimp only at hSw); go_simp)
          (try simp only [Act.put, List.setIfInBounds_toArray, List.set_cons_zero, List.set_cons_succ])
          refine takeD (some 52) (i := 14) (v := .bool true) rfl rfl (by kernel_rfl) (by kernel_rfl) (by kernel_rfl) (fun _ _ _ h => h) (Or.inl ⟨by kernel_rfl, ?_⟩) (by assumption) ?_
          · (intro w hSw; (try dsimp only at hSw); go_simp)
          (try simp only [Act.put, List.setIfInBounds_toArray, List.set_cons_zero, List.set_cons_succ])
          refine takeD (some 53) (i := 15) (v := .agg #[.string nm, .slice ya yn yc, .slice za zn zc]) rfl rfl (by kernel_rfl) (by kernel_rfl) (by kernel_rfl) (fun _ _ _ h => h) (Or.inl ⟨by kernel_rfl, ?_⟩) (by assumption) ?_
          · (intro w hSw; (try dsimp only at hSw); go_simp)
          (try simp only [Act.put, List.setIfInBounds_toArray, List.set_cons_zero, List.set_cons_succ])
          refine takeD (some 54) (i := 16) (v := .string name) rfl rfl (by kernel_rfl) (by kernel_rfl) (by kernel_rfl) (fun _ _ _ h => h) (Or.inl ⟨by kernel_rfl, ?_⟩) (by assumption) ?_
          · (intro w hSw; (try dsimp only at hSw); go_simp)
          (try simp only [Act.put, List.setIfInBounds_toArray, List.set_cons_zero, List.set_cons_succ])
          refine takeD (some 56) (i := 18) (v := .slice aa 0 ac) rfl rfl (by kernel_rfl) (by kernel_rfl) (by kernel_rfl) (fun _ _ _ h => h) (Or.inl ⟨by kernel_rfl, ?_⟩) (by assumption) ?_
          · (intro w hSw; (try dsimp only at hSw); go_simp)
          (try simp only [Act.put, List.setIfInBounds_toArray, List.set_cons_zero, List.set_cons_succ])
          refine wpAnyH_ready (rs := [17]) (by kernel_rfl) (by simp) ?_
          refine AllReadyH.cons rfl (fun K hK => ?_) AllReadyH.nil
          go_simp
          refine (hall _ hHeld.1).mono ?_
          rintro e v5 ⟨u5, rfl, hls5, hb5⟩
          have hV5 : Below W.heap.size W v5 := hHeld.1.trans (hb5.mono hHeld.1.size)
          obtain ⟨la5, lc5, ks5, rfl, hlr5, hks5, hl5, _, hm5⟩ := hls5
          have HS5 : Hid (LRow v5 la5 ks5) := hlr5
          have HE5 : Hid (ks5.map Lm.ln = getL (nums name) t.ls) := hks5
          have HM5 : Hid (∀ m ∈ ks5, m.fs.length ≤ 9223372036854775807) := hm5
          clear hlr5 hks5 hm5
          refine hK.out _ _ (hSall _ hV5) (fun hHeld => ?_)
          clear hK K
          refine wpAnyH_ready (rs := [19]) (by kernel_rfl) (by simp) ?_
          refine AllReadyH.cons rfl (fun K hK => ?_) AllReadyH.nil
          go_simp
          have hsm2 := same_any la5 aa ks5.length 0 lc5 ac ks5 ks v5 rfl HKN.out hl5 HM5.out HS5.out (HKW.out.below hHeld.1) (same_ln (HE5.out.trans HMS4.out.symm))
          refine (hsm2).mono ?_
          rintro e v6 ⟨rfl, hb6⟩
          have hV6 : Below W.heap.size W v6 := hHeld.1.trans (hb6.mono hHeld.1.size)
          refine hK.out _ _ (hSall _ hV6) (fun hHeld => ?_)
          clear hK K
          clear hsm2
          refine takeD (some 58) (i := 20) (v := .bool true) rfl rfl (by kernel_rfl) (by kernel_rfl) (by kernel_rfl) (fun _ _ _ h => h) (Or.inl ⟨by kernel_rfl, ?_⟩) (by assumption) ?_
          · (intro w hSw; (try dsimp only at hSw); go_simp)
          (try simp only [Act.put, List.setIfInBounds_toArray, List.set_cons_zero, List.set_cons_succ])
          refine takeD (some 59) (i := 21) (v := .bool true) rfl rfl (by kernel_rfl) (by kernel_rfl) (by kernel_rfl) (fun _ _ _ h => h) (Or.inl ⟨by kernel_rfl, ?_⟩) (by assumption) ?_
          · (intro w hSw; (try dsimp only at hSw); go_simp)
          (try simp only [Act.put, List.setIfInBounds_toArray, List.set_cons_zero, List.set_cons_succ])
          refine takeD (some 60) (i := 22) (v := .agg #[.string nm, .slice ya yn yc, .slice za zn zc]) rfl rfl (by kernel_rfl) (by kernel_rfl) (by kernel_rfl) (fun _ _ _ h => h) (Or.inl ⟨by kernel_rfl, ?_⟩) (by assumption) ?_
          · (intro w hSw; (try dsimp only at hSw); go_simp)
          (try simp only [Act.put, List.setIfInBounds_toArray, List.set_cons_zero, List.set_cons_succ])
          refine takeD (some 61) (i := 23) (v := .string name) rfl rfl (by kernel_rfl) (by kernel_rfl) (by kernel_rfl) (fun _ _ _ h => h) (Or.inl ⟨by kernel_rfl, ?_⟩) (by assumption) ?_
          · (intro w hSw; (try dsimp only at hSw); go_simp)
          (try simp only [Act.put, List.setIfInBounds_toArray, List.set_cons_zero, List.set_cons_succ])
          refine takeD (some 63) (i := 25) (v := .agg #[.string nm, .slice ya yn yc, .slice za zn zc]) rfl rfl (by kernel_rfl) (by kernel_rfl) (by kernel_rfl) (fun _ _ _ h => h) (Or.inl ⟨by kernel_rfl, ?_⟩) (by assumption) ?_
          · (intro w hSw; (try dsimp only at hSw); go_simp)
          (try simp only [Act.put, List.setIfInBounds_toArray, List.set_cons_zero, List.set_cons_succ])
          refine takeD (some 64) (i := 26) (v := .string name) rfl rfl (by kernel_rfl) (by kernel_rfl) (by kernel_rfl) (fun _ _ _ h => h) (Or.inl ⟨by kernel_rfl, ?_⟩) (by assumption) ?_
          · (intro w hSw; (try dsimp only at hSw); go_simp)
          (try simp only [Act.put, List.setIfInBounds_toArray, List.set_cons_zero, List.set_cons_succ])
          refine wpAnyH_ready (rs := [24]) (by kernel_rfl) (by simp) ?_
          refine AllReadyH.cons rfl (fun K hK => ?_) AllReadyH.nil
          go_simp
          refine (hfi _ hHeld.1).mono ?_
          rintro e v7 ⟨u7, rfl, htr7, hb7⟩
          have hV7 : Below W.heap.size W v7 := hHeld.1.trans (hb7.mono hHeld.1.size)
          have HT7 : Hid (TRow v7 u7 (findC (nums name) t.cs) (CpAt 11000 v7)) := htr7
          clear htr7
          refine hK.out _ _ (hSall _ hV7) (fun hHeld => ?_)
          clear hK K
          refine wpAnyH_ready (rs := [27]) (by kernel_rfl) (by simp) ?_
          refine AllReadyH.cons rfl (fun K hK => ?_) AllReadyH.nil
          go_simp
          refine (hrf _ hHeld.1).mono ?_
          rintro e v8 ⟨u8, rfl, htr8, hb8⟩
          have hV8 : Below W.heap.size W v8 := hHeld.1.trans (hb8.mono hHeld.1.size)
          have HT8 : Hid (TRow v8 u8 (findC (nums name) t.cs) (CpAt 11000 v8)) := trow_up htr8 (fun q x y z hq => CpAt.up 11 11000 _ _ _ _ (by omega) hq)
          have HT9 : Hid (TRow v8 u7 (findC (nums name) t.cs) (CpAt 11000 v8)) := trow_below HT7.out hb8
          clear htr8
          refine hK.out _ _ (hSall _ hV8) (fun hHeld => ?_)
          clear hK K
          refine wpAnyH_ready (rs := [28]) (by kernel_rfl) (by simp) ?_
          refine AllReadyH.cons rfl (fun K hK => ?_) AllReadyH.nil
          go_simp
          refine (same_list 11000 (same_all 11000) _ _ _ _ HT9.out HT8.out).mono ?_
          rintro e v9 ⟨rfl, hb9⟩
          have hV9 : Below W.heap.size W v9 := hHeld.1.trans (hb9.mono hHeld.1.size)
          refine hK.out _ _ (hSall _ hV9) (fun hHeld => ?_)
          clear hK K
          refine takeD (some 67) (i := 29) (v := .bool true) rfl rfl (by kernel_rfl) (by kernel_rfl) (by kernel_rfl) (fun _ _ _ h => h) (Or.inl ⟨by kernel_rfl, ?_⟩) (by assumption) ?_
          · (intro w hSw; (try dsimp only at hSw); go_simp)
          (try simp only [Act.put, List.setIfInBounds_toArray, List.set_cons_zero, List.set_cons_succ])
          refine takeD (some 4) (i := 30) (v := .bool true) rfl rfl (by kernel_rfl) (by kernel_rfl) (by kernel_rfl) (fun _ _ _ h => h) (Or.inl ⟨by kernel_rfl, ?_⟩) (by assumption) ?_
          · (intro w hSw; (try dsimp only at hSw); go_simp)
          (try simp only [Act.put, List.setIfInBounds_toArray, List.set_cons_zero, List.set_cons_succ])
          refine wpAnyH_done (by kernel_rfl) ?_ _
          go_wp2
          go_ret
          exact ⟨rfl, HBW.out.trans (hV9.mono HBW.out.size)⟩
      · obtain ⟨mm, hmk⟩ : ∃ mm, ks[0]? = some mm := ⟨_, List.getElem?_eq_getElem (by have := HKN.out; omega)⟩
        obtain ⟨b, off, rfl, hcc⟩ : ∃ b off, aa = some ⟨b, off, none⟩ ∧ ∀ i m, ks[i]? = some m → (w4.cell? ⟨b, off + i * 3, none⟩ = some (.string m.nm) ∧ w4.cell? ⟨b, off + i * 3 + 1, none⟩ = some (.slice m.a m.fs.length m.c) ∧ w4.cell? ⟨b, off + i * 3 + 2, none⟩ = some (.string m.vl)) ∧ FRow w4 m.a m.fs := by
          rcases HLR4.out with h | h
          · rw [h] at hmk; simp at hmk
          · exact h
        obtain ⟨⟨hc1, hc2, hc3⟩, hfr⟩ := hcc 0 mm hmk
        have hmf := HMF4.out mm (List.mem_of_getElem? hmk)
        have hfst : firstL (getL (nums name) t.ls) = mm.ln := by
          rw [← HMS4.out]; unfold firstL
          cases ks with
          | nil => simp at hmk
          | cons q r => simp at hmk; subst hmk; rfl
        obtain ⟨fnm, fvl, fa, fc, ffs⟩ := mm
        simp only [Nat.zero_mul, Nat.add_zero] at hc1 hc2 hc3 hfr hmf
        obtain ⟨fm, hfm⟩ : ∃ n, ffs.length = n := ⟨_, rfl⟩
        have HFM : Hid (ffs.length = fm) := hfm
        have HEQ : Hid ((⟨nums gnm, numsP gfs, nums gvl⟩ : Ln) = ⟨nums fnm, numsP ffs, nums fvl⟩) := HGX.out.trans hfst
        have HGM2 : Hid (gm ≤ 9223372036854775807) := by unfold Hid; rw [← HGM.out, pars_len HEQ.out]; exact hmf
        rw [hfm] at hc2
        have hz := Blk.new w4 #[.string ⟨#[]⟩, .slice none 0 0, .string ⟨#[]⟩] 39
        obtain ⟨z0, z1, z2⟩ := cells3 hz
        have y0 := hz.frozen 0
        have y1 := hz.frozen 1
        have y2 := hz.frozen 2
        have x0 := cell_keep (keep w4 (.cells #[.string ⟨#[]⟩, .slice none 0 0, .string ⟨#[]⟩] 39)) hc1
        have x1 := cell_keep (keep w4 (.cells #[.string ⟨#[]⟩, .slice none 0 0, .string ⟨#[]⟩] 39)) hc2
        have x2 := cell_keep (keep w4 (.cells #[.string ⟨#[]⟩, .slice none 0 0, .string ⟨#[]⟩] 39)) hc3
        obtain ⟨W, hW⟩ : ∃ W, w4.alloc (.cells #[.string fnm, .slice fa fm fc, .string fvl] 39) = W := ⟨_, rfl⟩
        have hkW : Below w4.heap.size w4 W := by rw [← hW]; exact keep w4 _
        have HBW : Hid (Below w.heap.size w W) := HB4.out.trans (hkW.mono HB4.out.size)
        have HGW : Hid (Blk W w.heap.size #[.string nm, .slice ya yn yc, .slice za zn zc] 25) := HG4.out.below hkW HG4.out.lt
        have HRW : Hid (Blk W g4 #[.string gnm, .slice ga gm gc, .string gvl] 39) := HR.out.below hkW HR.out.lt
        have HGFW : Hid (FRow W ga gfs) := by unfold Hid; exact HGF4.out.below hkW
        have HFFW : Hid (FRow W fa ffs) := by unfold Hid; exact hfr.below hkW
        have HKW : Hid (LRow W (some ⟨b, off, none⟩) ks) := HLR4.out.below hkW
        have HFW0 : Hid (Blk W w4.heap.size #[.string fnm, .slice fa fm fc, .string fvl] 39) := by unfold Hid; rw [← hW]; exact Blk.new _ _ _
        have HW : Hid (w4.alloc (.cells #[.string fnm, .slice fa fm fc, .string fvl] 39) = W) := hW
        clear hW hkW HGX HR HG4 HGF4 HLR4 HB4 hz hcc hfr hmf hfst hfm hmk hc1 hc2 hc3
        go_wp2_with fail
        obtain ⟨f4, hf4⟩ : ∃ f4, w4.heap.size = f4 := ⟨_, rfl⟩
        have HFW : Hid (Blk W f4 #[.string fnm, .slice fa fm fc, .string fvl] 39) := by rw [← hf4]; exact HFW0.out
        have hWW := HW.out
        rw [hWW]
        try rw [hf4]
        clear hWW HW HFW0 hf4 z0 z1 z2 y0 y1 y2 x0 x1 x2
        obtain ⟨kn, hkn0⟩ : ∃ n : Nat, gn = n := ⟨_, rfl⟩
        have HKN : Hid (ks.length = kn) := by rw [← hkn0]; exact HKN.out
        subst hkn0
        have hSall : ∀ V, Below W.heap.size W V → Below W.heap.size W V ∧ V.cell? ⟨w.heap.size, 0, none⟩ = some (.string nm) ∧ V.cell? ⟨w.heap.size, 1, none⟩ = some (.slice ya yn yc) ∧ V.cell? ⟨w.heap.size, 2, none⟩ = some (.slice za zn zc) ∧ V.cell? ⟨g4, 0, none⟩ = some (.string gnm) ∧ V.cell? ⟨g4, 1, none⟩ = some (.slice ga gm gc) ∧ V.cell? ⟨g4, 2, none⟩ = some (.string gvl) ∧ V.cell? ⟨f4, 0, none⟩ = some (.string fnm) ∧ V.cell? ⟨f4, 1, none⟩ = some (.slice fa fm fc) ∧ V.cell? ⟨f4, 2, none⟩ = some (.string fvl) := by
          intro V hb
          obtain ⟨a0, a1, a2⟩ := cells3 (HGW.out.below hb HGW.out.lt)
          obtain ⟨b0, b1, b2⟩ := cells3 (HRW.out.below hb HRW.out.lt)
          obtain ⟨d0, d1, d2⟩ := cells3 (HFW.out.below hb HFW.out.lt)
          exact ⟨hb, a0, a1, a2, b0, b1, b2, d0, d1, d2⟩
        have hal := fun V (hb : Below W.heap.size W V) => alive_any V mx (cell_keep (HBW.out.trans (hb.mono HBW.out.size)) HM.out)
        have hsm1 := fun V B1 B2 (hb : Below W.heap.size W V) (h1 : Blk V B1 #[.string gnm, .slice ga gm gc, .string gvl] 39) (h2 : Blk V B2 #[.string fnm, .slice fa fm fc, .string fvl] 39) => same_any (some ⟨B1, 0, none⟩) (some ⟨B2, 0, none⟩) 1 1 1 1 [⟨gnm, gvl, ga, gc, gfs⟩] [⟨fnm, fvl, fa, fc, ffs⟩] V rfl rfl (by omega) (by intro m hm; simp at hm; subst hm; simp only; rw [HGM.out]; exact HGM2.out) (lrow_one h1 HGM.out (HGFW.out.below hb)) (lrow_one h2 HFM.out (HFFW.out.below hb)) (same_ln (by simp only [List.map_cons, List.map_nil, Lm.ln]; rw [HEQ.out]))
        have hall := fun V (hb : Below W.heap.size W V) => all_tree nm name ya za yn yc zn zc t.ls V (HLS.out.below (HBW.out.trans (hb.mono HBW.out.size))) HF1.out HL60.out
        have hfi := fun V (hb : Below W.heap.size W V) => find_tree 11 11 (by omega) nm name ya za yn yc zn zc t.cs V (trow_below HTR.out (HBW.out.trans (hb.mono HBW.out.size))) HQ.out HL70.out
        have hrf := fun V (hb : Below W.heap.size W V) => rfind_tree 11 11 (by omega) nm name ya za yn yc zn zc t.cs V (trow_below HTR.out (HBW.out.trans (hb.mono HBW.out.size))) HQ.out HL70.out
        unfold compV at hall hfi hrf
        refine wp_region_held_drew (S := (fun V => Below W.heap.size W V ∧ V.cell? ⟨w.heap.size, 0, none⟩ = some (.string nm) ∧ V.cell? ⟨w.heap.size, 1, none⟩ = some (.slice ya yn yc) ∧ V.cell? ⟨w.heap.size, 2, none⟩ = some (.slice za zn zc) ∧ V.cell? ⟨g4, 0, none⟩ = some (.string gnm) ∧ V.cell? ⟨g4, 1, none⟩ = some (.slice ga gm gc) ∧ V.cell? ⟨g4, 2, none⟩ = some (.string gvl) ∧ V.cell? ⟨f4, 0, none⟩ = some (.string fnm) ∧ V.cell? ⟨f4, 1, none⟩ = some (.slice fa fm fc) ∧ V.cell? ⟨f4, 2, none⟩ = some (.string fvl))) (by kernel_rfl) (by exact hSall _ (below_drew (Below.refl _ _))) (fun hHeld => ?_)
        refine wpAnyH_ready (rs := [0]) (by kernel_rfl) (by simp) ?_
        refine AllReadyH.cons rfl (fun K hK => ?_) AllReadyH.nil
        go_simp
        refine (hal _ hHeld.1).mono ?_
        rintro e v1 ⟨rfl, hb1⟩
        have hV1 : Below W.heap.size W v1 := hHeld.1.trans (hb1.mono hHeld.1.size)
        refine hK.out _ _ (hSall _ hV1) (fun hHeld => ?_)
        clear hK K
        refine takeD (some 39) (i := 1) (v := .bool true) rfl rfl (by kernel_rfl) (by kernel_rfl) (by kernel_rfl) (fun _ _ _ h => h) (Or.inl ⟨by kernel_rfl, ?_⟩) (by assumption) ?_
        · (intro w hSw; (try dsimp only at hSw); go_simp)
        (try simp only [Act.put, List.setIfInBounds_toArray, List.set_cons_zero, List.set_cons_succ])
        refine takeD (some 40) (i := 2) (v := .int .i64 (gn : Nat)) rfl rfl (by kernel_rfl) (by kernel_rfl) (by kernel_rfl) (fun _ _ _ h => h) (Or.inl ⟨by kernel_rfl, ?_⟩) (by assumption) ?_
        · (intro w hSw; (try dsimp only at hSw); go_simp)
        (try simp only [Act.put, List.setIfInBounds_toArray, List.set_cons_zero, List.set_cons_succ])
        refine takeD (some 41) (i := 3) (v := .slice (some ⟨b, off, none⟩) gn ac) rfl rfl (by kernel_rfl) (by kernel_rfl) (by kernel_rfl) (fun _ _ _ h => h) (Or.inl ⟨by kernel_rfl, ?_⟩) (by assumption) ?_
        · (intro w hSw; (try dsimp only at hSw); go_simp)
        (try simp only [Act.put, List.setIfInBounds_toArray, List.set_cons_zero, List.set_cons_succ])
        refine takeD (some 42) (i := 4) (v := .int .i64 (gn : Nat)) rfl rfl (by kernel_rfl) (by kernel_rfl) (by kernel_rfl) (fun _ _ _ h => h) (Or.inl ⟨by kernel_rfl, ?_⟩) (by assumption) ?_
        · (intro w hSw; (try dsimp only at hSw); go_simp)
        (try simp only [Act.put, List.setIfInBounds_toArray, List.set_cons_zero, List.set_cons_succ])
        refine takeD (some 43) (i := 5) (v := .bool true) rfl rfl (by kernel_rfl) (by kernel_rfl) (by kernel_rfl) (fun _ _ _ h => h) (Or.inl ⟨by kernel_rfl, ?_⟩) (by assumption) ?_
        · (intro w hSw; (try dsimp only at hSw); go_simp)
        (try simp only [Act.put, List.setIfInBounds_toArray, List.set_cons_zero, List.set_cons_succ])
        refine takeD (some 44) (i := 6) (v := .bool true) rfl rfl (by kernel_rfl) (by kernel_rfl) (by kernel_rfl) (fun _ _ _ h => h) (Or.inl ⟨by kernel_rfl, ?_⟩) (by assumption) ?_
        · (intro w hSw; (try dsimp only at hSw); go_simp)
        (try simp only [Act.put, List.setIfInBounds_toArray, List.set_cons_zero, List.set_cons_succ])
        refine takeD (some 45) (i := 7) (v := .bool true) rfl rfl (by kernel_rfl) (by kernel_rfl) (by kernel_rfl) (fun _ _ _ h => h) (Or.inl ⟨by kernel_rfl, ?_⟩) (by assumption) ?_
        · (intro w hSw; (try dsimp only at hSw); go_simp)
        (try simp only [Act.put, List.setIfInBounds_toArray, List.set_cons_zero, List.set_cons_succ])
        refine takeD (some 46) (i := 8) (v := .agg #[.string gnm, .slice ga gm gc, .string gvl]) rfl rfl (by kernel_rfl) (by kernel_rfl) (by kernel_rfl) (fun _ _ _ h => h) (Or.inl ⟨by kernel_rfl, ?_⟩) (by assumption) ?_
        · (intro w hSw; (try dsimp only at hSw); go_simp)
        (try simp only [Act.put, List.setIfInBounds_toArray, List.set_cons_zero, List.set_cons_succ])
        refine takeD (some 48) (i := 10) (v := .agg #[.string fnm, .slice fa fm fc, .string fvl]) rfl rfl (by kernel_rfl) (by kernel_rfl) (by kernel_rfl) (fun _ _ _ h => h) (Or.inl ⟨by kernel_rfl, ?_⟩) (by assumption) ?_
        · (intro w hSw; (try dsimp only at hSw); go_simp)
        (try simp only [Act.put, List.setIfInBounds_toArray, List.set_cons_zero, List.set_cons_succ])
        refine wpAnyH_ready (rs := [9, 11]) (by kernel_rfl) (by simp) ?_
        refine AllReadyH.cons rfl (fun K hK => ?_) (AllReadyH.cons rfl (fun K hK => ?_) AllReadyH.nil)
        · go_simp
          have hV2 : Below W.heap.size W (v1.alloc (.cells #[.string gnm, .slice ga gm gc, .string gvl] 39)) := hV1.trans ((keep v1 _).mono hV1.size)
          have HN2 : Hid (Blk (v1.alloc (.cells #[.string gnm, .slice ga gm gc, .string gvl] 39)) v1.heap.size #[.string gnm, .slice ga gm gc, .string gvl] 39) := Blk.new _ _ _
          refine hK.out _ _ (hSall _ hV2) (fun hHeld => ?_)
          clear hK K
          obtain ⟨v2, hv2⟩ : ∃ v2, v1.alloc (.cells #[.string gnm, .slice ga gm gc, .string gvl] 39) = v2 := ⟨_, rfl⟩
          rw [hv2] at hV2 HN2 hHeld ⊢
          refine wpAnyH_ready (rs := [11]) (by kernel_rfl) (by simp) ?_
          refine AllReadyH.cons rfl (fun K hK => ?_) AllReadyH.nil
          go_simp
          have hV3 : Below W.heap.size W (v2.alloc (.cells #[.string fnm, .slice fa fm fc, .string fvl] 39)) := hV2.trans ((keep v2 _).mono hV2.size)
          have HN3 : Hid (Blk (v2.alloc (.cells #[.string fnm, .slice fa fm fc, .string fvl] 39)) v2.heap.size #[.string fnm, .slice fa fm fc, .string fvl] 39) := Blk.new _ _ _
          refine hK.out _ _ (hSall _ hV3) (fun hHeld => ?_)
          clear hK K
          obtain ⟨v3, hv3⟩ : ∃ v3, v2.alloc (.cells #[.string fnm, .slice fa fm fc, .string fvl] 39) = v3 := ⟨_, rfl⟩
          have HQ2 : Hid (Blk v3 v1.heap.size #[.string gnm, .slice ga gm gc, .string gvl] 39) := by unfold Hid; rw [← hv3]; exact HN2.out.alloc _
          rw [hv3] at hV3 HN3 hHeld ⊢
          have HQ3 : Hid (Blk v3 v2.heap.size #[.string fnm, .slice fa fm fc, .string fvl] 39) := HN3.out
          clear hv2 hv3 HN2 HN3
          refine wpAnyH_ready (rs := [12]) (by kernel_rfl) (by simp) ?_
          refine AllReadyH.cons rfl (fun K hK => ?_) AllReadyH.nil
          go_simp
          refine (hsm1 _ _ _ hHeld.1 HQ2.out HQ3.out).mono ?_
          rintro e v4 ⟨rfl, hb4⟩
          have hV4 : Below W.heap.size W v4 := hHeld.1.trans (hb4.mono hHeld.1.size)
          refine hK.out _ _ (hSall _ hV4) (fun hHeld => ?_)
          clear hK K
          refine takeD (some 51) (i := 13) (v := .bool true) rfl rfl (by kernel_rfl) (by kernel_rfl) (by kernel_rfl) (fun _ _ _ h => h) (Or.inl ⟨by kernel_rfl, ?_⟩) (by assumption) ?_
          · (intro w hSw; (try dsimp only at hSw); go_simp)
          (try simp only [Act.put, List.setIfInBounds_toArray, List.set_cons_zero, List.set_cons_succ])
          refine takeD (some 52) (i := 14) (v := .bool true) rfl rfl (by kernel_rfl) (by kernel_rfl) (by kernel_rfl) (fun _ _ _ h => h) (Or.inl ⟨by kernel_rfl, ?_⟩) (by assumption) ?_
          · (intro w hSw; (try dsimp only at hSw); go_simp)
          (try simp only [Act.put, List.setIfInBounds_toArray, List.set_cons_zero, List.set_cons_succ])
          refine takeD (some 53) (i := 15) (v := .agg #[.string nm, .slice ya yn yc, .slice za zn zc]) rfl rfl (by kernel_rfl) (by kernel_rfl) (by kernel_rfl) (fun _ _ _ h => h) (Or.inl ⟨by kernel_rfl, ?_⟩) (by assumption) ?_
          · (intro w hSw; (try dsimp only at hSw); go_simp)
          (try simp only [Act.put, List.setIfInBounds_toArray, List.set_cons_zero, List.set_cons_succ])
          refine takeD (some 54) (i := 16) (v := .string name) rfl rfl (by kernel_rfl) (by kernel_rfl) (by kernel_rfl) (fun _ _ _ h => h) (Or.inl ⟨by kernel_rfl, ?_⟩) (by assumption) ?_
          · (intro w hSw; (try dsimp only at hSw); go_simp)
          (try simp only [Act.put, List.setIfInBounds_toArray, List.set_cons_zero, List.set_cons_succ])
          refine takeD (some 56) (i := 18) (v := .slice (some ⟨b, off, none⟩) gn ac) rfl rfl (by kernel_rfl) (by kernel_rfl) (by kernel_rfl) (fun _ _ _ h => h) (Or.inl ⟨by kernel_rfl, ?_⟩) (by assumption) ?_
          · (intro w hSw; (try dsimp only at hSw); go_simp)
          (try simp only [Act.put, List.setIfInBounds_toArray, List.set_cons_zero, List.set_cons_succ])
          refine wpAnyH_ready (rs := [17]) (by kernel_rfl) (by simp) ?_
          refine AllReadyH.cons rfl (fun K hK => ?_) AllReadyH.nil
          go_simp
          refine (hall _ hHeld.1).mono ?_
          rintro e v5 ⟨u5, rfl, hls5, hb5⟩
          have hV5 : Below W.heap.size W v5 := hHeld.1.trans (hb5.mono hHeld.1.size)
          obtain ⟨la5, lc5, ks5, rfl, hlr5, hks5, hl5, _, hm5⟩ := hls5
          have HS5 : Hid (LRow v5 la5 ks5) := hlr5
          have HE5 : Hid (ks5.map Lm.ln = getL (nums name) t.ls) := hks5
          have HM5 : Hid (∀ m ∈ ks5, m.fs.length ≤ 9223372036854775807) := hm5
          clear hlr5 hks5 hm5
          refine hK.out _ _ (hSall _ hV5) (fun hHeld => ?_)
          clear hK K
          refine wpAnyH_ready (rs := [19]) (by kernel_rfl) (by simp) ?_
          refine AllReadyH.cons rfl (fun K hK => ?_) AllReadyH.nil
          go_simp
          have hsm2 := same_any la5 (some ⟨b, off, none⟩) ks5.length gn lc5 ac ks5 ks v5 rfl HKN.out hl5 HM5.out HS5.out (HKW.out.below hHeld.1) (same_ln (HE5.out.trans HMS4.out.symm))
          refine (hsm2).mono ?_
          rintro e v6 ⟨rfl, hb6⟩
          have hV6 : Below W.heap.size W v6 := hHeld.1.trans (hb6.mono hHeld.1.size)
          refine hK.out _ _ (hSall _ hV6) (fun hHeld => ?_)
          clear hK K
          clear hsm2
          refine takeD (some 58) (i := 20) (v := .bool true) rfl rfl (by kernel_rfl) (by kernel_rfl) (by kernel_rfl) (fun _ _ _ h => h) (Or.inl ⟨by kernel_rfl, ?_⟩) (by assumption) ?_
          · (intro w hSw; (try dsimp only at hSw); go_simp)
          (try simp only [Act.put, List.setIfInBounds_toArray, List.set_cons_zero, List.set_cons_succ])
          refine takeD (some 59) (i := 21) (v := .bool true) rfl rfl (by kernel_rfl) (by kernel_rfl) (by kernel_rfl) (fun _ _ _ h => h) (Or.inl ⟨by kernel_rfl, ?_⟩) (by assumption) ?_
          · (intro w hSw; (try dsimp only at hSw); go_simp)
          (try simp only [Act.put, List.setIfInBounds_toArray, List.set_cons_zero, List.set_cons_succ])
          refine takeD (some 60) (i := 22) (v := .agg #[.string nm, .slice ya yn yc, .slice za zn zc]) rfl rfl (by kernel_rfl) (by kernel_rfl) (by kernel_rfl) (fun _ _ _ h => h) (Or.inl ⟨by kernel_rfl, ?_⟩) (by assumption) ?_
          · (intro w hSw; (try dsimp only at hSw); go_simp)
          (try simp only [Act.put, List.setIfInBounds_toArray, List.set_cons_zero, List.set_cons_succ])
          refine takeD (some 61) (i := 23) (v := .string name) rfl rfl (by kernel_rfl) (by kernel_rfl) (by kernel_rfl) (fun _ _ _ h => h) (Or.inl ⟨by kernel_rfl, ?_⟩) (by assumption) ?_
          · (intro w hSw; (try dsimp only at hSw); go_simp)
          (try simp only [Act.put, List.setIfInBounds_toArray, List.set_cons_zero, List.set_cons_succ])
          refine takeD (some 63) (i := 25) (v := .agg #[.string nm, .slice ya yn yc, .slice za zn zc]) rfl rfl (by kernel_rfl) (by kernel_rfl) (by kernel_rfl) (fun _ _ _ h => h) (Or.inl ⟨by kernel_rfl, ?_⟩) (by assumption) ?_
          · (intro w hSw; (try dsimp only at hSw); go_simp)
          (try simp only [Act.put, List.setIfInBounds_toArray, List.set_cons_zero, List.set_cons_succ])
          refine takeD (some 64) (i := 26) (v := .string name) rfl rfl (by kernel_rfl) (by kernel_rfl) (by kernel_rfl) (fun _ _ _ h => h) (Or.inl ⟨by kernel_rfl, ?_⟩) (by assumption) ?_
          · (intro w hSw; (try dsimp only at hSw); go_simp)
          (try simp only [Act.put, List.setIfInBounds_toArray, List.set_cons_zero, List.set_cons_succ])
          refine wpAnyH_ready (rs := [24]) (by kernel_rfl) (by simp) ?_
          refine AllReadyH.cons rfl (fun K hK => ?_) AllReadyH.nil
          go_simp
          refine (hfi _ hHeld.1).mono ?_
          rintro e v7 ⟨u7, rfl, htr7, hb7⟩
          have hV7 : Below W.heap.size W v7 := hHeld.1.trans (hb7.mono hHeld.1.size)
          have HT7 : Hid (TRow v7 u7 (findC (nums name) t.cs) (CpAt 11000 v7)) := htr7
          clear htr7
          refine hK.out _ _ (hSall _ hV7) (fun hHeld => ?_)
          clear hK K
          refine wpAnyH_ready (rs := [27]) (by kernel_rfl) (by simp) ?_
          refine AllReadyH.cons rfl (fun K hK => ?_) AllReadyH.nil
          go_simp
          refine (hrf _ hHeld.1).mono ?_
          rintro e v8 ⟨u8, rfl, htr8, hb8⟩
          have hV8 : Below W.heap.size W v8 := hHeld.1.trans (hb8.mono hHeld.1.size)
          have HT8 : Hid (TRow v8 u8 (findC (nums name) t.cs) (CpAt 11000 v8)) := trow_up htr8 (fun q x y z hq => CpAt.up 11 11000 _ _ _ _ (by omega) hq)
          have HT9 : Hid (TRow v8 u7 (findC (nums name) t.cs) (CpAt 11000 v8)) := trow_below HT7.out hb8
          clear htr8
          refine hK.out _ _ (hSall _ hV8) (fun hHeld => ?_)
          clear hK K
          refine wpAnyH_ready (rs := [28]) (by kernel_rfl) (by simp) ?_
          refine AllReadyH.cons rfl (fun K hK => ?_) AllReadyH.nil
          go_simp
          refine (same_list 11000 (same_all 11000) _ _ _ _ HT9.out HT8.out).mono ?_
          rintro e v9 ⟨rfl, hb9⟩
          have hV9 : Below W.heap.size W v9 := hHeld.1.trans (hb9.mono hHeld.1.size)
          refine hK.out _ _ (hSall _ hV9) (fun hHeld => ?_)
          clear hK K
          refine takeD (some 67) (i := 29) (v := .bool true) rfl rfl (by kernel_rfl) (by kernel_rfl) (by kernel_rfl) (fun _ _ _ h => h) (Or.inl ⟨by kernel_rfl, ?_⟩) (by assumption) ?_
          · (intro w hSw; (try dsimp only at hSw); go_simp)
          (try simp only [Act.put, List.setIfInBounds_toArray, List.set_cons_zero, List.set_cons_succ])
          refine takeD (some 4) (i := 30) (v := .bool true) rfl rfl (by kernel_rfl) (by kernel_rfl) (by kernel_rfl) (fun _ _ _ h => h) (Or.inl ⟨by kernel_rfl, ?_⟩) (by assumption) ?_
          · (intro w hSw; (try dsimp only at hSw); go_simp)
          (try simp only [Act.put, List.setIfInBounds_toArray, List.set_cons_zero, List.set_cons_succ])
          refine wpAnyH_done (by kernel_rfl) ?_ _
          go_wp2
          go_ret
          exact ⟨rfl, HBW.out.trans (hV9.mono HBW.out.size)⟩
        · go_simp
          have hV2 : Below W.heap.size W (v1.alloc (.cells #[.string fnm, .slice fa fm fc, .string fvl] 39)) := hV1.trans ((keep v1 _).mono hV1.size)
          have HN2 : Hid (Blk (v1.alloc (.cells #[.string fnm, .slice fa fm fc, .string fvl] 39)) v1.heap.size #[.string fnm, .slice fa fm fc, .string fvl] 39) := Blk.new _ _ _
          refine hK.out _ _ (hSall _ hV2) (fun hHeld => ?_)
          clear hK K
          obtain ⟨v2, hv2⟩ : ∃ v2, v1.alloc (.cells #[.string fnm, .slice fa fm fc, .string fvl] 39) = v2 := ⟨_, rfl⟩
          rw [hv2] at hV2 HN2 hHeld ⊢
          refine wpAnyH_ready (rs := [9]) (by kernel_rfl) (by simp) ?_
          refine AllReadyH.cons rfl (fun K hK => ?_) AllReadyH.nil
          go_simp
          have hV3 : Below W.heap.size W (v2.alloc (.cells #[.string gnm, .slice ga gm gc, .string gvl] 39)) := hV2.trans ((keep v2 _).mono hV2.size)
          have HN3 : Hid (Blk (v2.alloc (.cells #[.string gnm, .slice ga gm gc, .string gvl] 39)) v2.heap.size #[.string gnm, .slice ga gm gc, .string gvl] 39) := Blk.new _ _ _
          refine hK.out _ _ (hSall _ hV3) (fun hHeld => ?_)
          clear hK K
          obtain ⟨v3, hv3⟩ : ∃ v3, v2.alloc (.cells #[.string gnm, .slice ga gm gc, .string gvl] 39) = v3 := ⟨_, rfl⟩
          have HQ3 : Hid (Blk v3 v1.heap.size #[.string fnm, .slice fa fm fc, .string fvl] 39) := by unfold Hid; rw [← hv3]; exact HN2.out.alloc _
          rw [hv3] at hV3 HN3 hHeld ⊢
          have HQ2 : Hid (Blk v3 v2.heap.size #[.string gnm, .slice ga gm gc, .string gvl] 39) := HN3.out
          clear hv2 hv3 HN2 HN3
          refine wpAnyH_ready (rs := [12]) (by kernel_rfl) (by simp) ?_
          refine AllReadyH.cons rfl (fun K hK => ?_) AllReadyH.nil
          go_simp
          refine (hsm1 _ _ _ hHeld.1 HQ2.out HQ3.out).mono ?_
          rintro e v4 ⟨rfl, hb4⟩
          have hV4 : Below W.heap.size W v4 := hHeld.1.trans (hb4.mono hHeld.1.size)
          refine hK.out _ _ (hSall _ hV4) (fun hHeld => ?_)
          clear hK K
          refine takeD (some 51) (i := 13) (v := .bool true) rfl rfl (by kernel_rfl) (by kernel_rfl) (by kernel_rfl) (fun _ _ _ h => h) (Or.inl ⟨by kernel_rfl, ?_⟩) (by assumption) ?_
          · (intro w hSw; (try dsimp only at hSw); go_simp)
          (try simp only [Act.put, List.setIfInBounds_toArray, List.set_cons_zero, List.set_cons_succ])
          refine takeD (some 52) (i := 14) (v := .bool true) rfl rfl (by kernel_rfl) (by kernel_rfl) (by kernel_rfl) (fun _ _ _ h => h) (Or.inl ⟨by kernel_rfl, ?_⟩) (by assumption) ?_
          · (intro w hSw; (try dsimp only at hSw); go_simp)
          (try simp only [Act.put, List.setIfInBounds_toArray, List.set_cons_zero, List.set_cons_succ])
          refine takeD (some 53) (i := 15) (v := .agg #[.string nm, .slice ya yn yc, .slice za zn zc]) rfl rfl (by kernel_rfl) (by kernel_rfl) (by kernel_rfl) (fun _ _ _ h => h) (Or.inl ⟨by kernel_rfl, ?_⟩) (by assumption) ?_
          · (intro w hSw; (try dsimp only at hSw); go_simp)
          (try simp only [Act.put, List.setIfInBounds_toArray, List.set_cons_zero, List.set_cons_succ])
          refine takeD (some 54) (i := 16) (v := .string name) rfl rfl (by kernel_rfl) (by kernel_rfl) (by kernel_rfl) (fun _ _ _ h => h) (Or.inl ⟨by kernel_rfl, ?_⟩) (by assumption) ?_
          · (intro w hSw; (try dsimp only at hSw); go_simp)
          (try simp only [Act.put, List.setIfInBounds_toArray, List.set_cons_zero, List.set_cons_succ])
          refine takeD (some 56) (i := 18) (v := .slice (some ⟨b, off, none⟩) gn ac) rfl rfl (by kernel_rfl) (by kernel_rfl) (by kernel_rfl) (fun _ _ _ h => h) (Or.inl ⟨by kernel_rfl, ?_⟩) (by assumption) ?_
          · (intro w hSw; (try dsimp only at hSw); go_simp)
          (try simp only [Act.put, List.setIfInBounds_toArray, List.set_cons_zero, List.set_cons_succ])
          refine wpAnyH_ready (rs := [17]) (by kernel_rfl) (by simp) ?_
          refine AllReadyH.cons rfl (fun K hK => ?_) AllReadyH.nil
          go_simp
          refine (hall _ hHeld.1).mono ?_
          rintro e v5 ⟨u5, rfl, hls5, hb5⟩
          have hV5 : Below W.heap.size W v5 := hHeld.1.trans (hb5.mono hHeld.1.size)
          obtain ⟨la5, lc5, ks5, rfl, hlr5, hks5, hl5, _, hm5⟩ := hls5
          have HS5 : Hid (LRow v5 la5 ks5) := hlr5
          have HE5 : Hid (ks5.map Lm.ln = getL (nums name) t.ls) := hks5
          have HM5 : Hid (∀ m ∈ ks5, m.fs.length ≤ 9223372036854775807) := hm5
          clear hlr5 hks5 hm5
          refine hK.out _ _ (hSall _ hV5) (fun hHeld => ?_)
          clear hK K
          refine wpAnyH_ready (rs := [19]) (by kernel_rfl) (by simp) ?_
          refine AllReadyH.cons rfl (fun K hK => ?_) AllReadyH.nil
          go_simp
          have hsm2 := same_any la5 (some ⟨b, off, none⟩) ks5.length gn lc5 ac ks5 ks v5 rfl HKN.out hl5 HM5.out HS5.out (HKW.out.below hHeld.1) (same_ln (HE5.out.trans HMS4.out.symm))
          refine (hsm2).mono ?_
          rintro e v6 ⟨rfl, hb6⟩
          have hV6 : Below W.heap.size W v6 := hHeld.1.trans (hb6.mono hHeld.1.size)
          refine hK.out _ _ (hSall _ hV6) (fun hHeld => ?_)
          clear hK K
          clear hsm2
          refine takeD (some 58) (i := 20) (v := .bool true) rfl rfl (by kernel_rfl) (by kernel_rfl) (by kernel_rfl) (fun _ _ _ h => h) (Or.inl ⟨by kernel_rfl, ?_⟩) (by assumption) ?_
          · (intro w hSw; (try dsimp only at hSw); go_simp)
          (try simp only [Act.put, List.setIfInBounds_toArray, List.set_cons_zero, List.set_cons_succ])
          refine takeD (some 59) (i := 21) (v := .bool true) rfl rfl (by kernel_rfl) (by kernel_rfl) (by kernel_rfl) (fun _ _ _ h => h) (Or.inl ⟨by kernel_rfl, ?_⟩) (by assumption) ?_
          · (intro w hSw; (try dsimp only at hSw); go_simp)
          (try simp only [Act.put, List.setIfInBounds_toArray, List.set_cons_zero, List.set_cons_succ])
          refine takeD (some 60) (i := 22) (v := .agg #[.string nm, .slice ya yn yc, .slice za zn zc]) rfl rfl (by kernel_rfl) (by kernel_rfl) (by kernel_rfl) (fun _ _ _ h => h) (Or.inl ⟨by kernel_rfl, ?_⟩) (by assumption) ?_
          · (intro w hSw; (try dsimp only at hSw); go_simp)
          (try simp only [Act.put, List.setIfInBounds_toArray, List.set_cons_zero, List.set_cons_succ])
          refine takeD (some 61) (i := 23) (v := .string name) rfl rfl (by kernel_rfl) (by kernel_rfl) (by kernel_rfl) (fun _ _ _ h => h) (Or.inl ⟨by kernel_rfl, ?_⟩) (by assumption) ?_
          · (intro w hSw; (try dsimp only at hSw); go_simp)
          (try simp only [Act.put, List.setIfInBounds_toArray, List.set_cons_zero, List.set_cons_succ])
          refine takeD (some 63) (i := 25) (v := .agg #[.string nm, .slice ya yn yc, .slice za zn zc]) rfl rfl (by kernel_rfl) (by kernel_rfl) (by kernel_rfl) (fun _ _ _ h => h) (Or.inl ⟨by kernel_rfl, ?_⟩) (by assumption) ?_
          · (intro w hSw; (try dsimp only at hSw); go_simp)
          (try simp only [Act.put, List.setIfInBounds_toArray, List.set_cons_zero, List.set_cons_succ])
          refine takeD (some 64) (i := 26) (v := .string name) rfl rfl (by kernel_rfl) (by kernel_rfl) (by kernel_rfl) (fun _ _ _ h => h) (Or.inl ⟨by kernel_rfl, ?_⟩) (by assumption) ?_
          · (intro w hSw; (try dsimp only at hSw); go_simp)
          (try simp only [Act.put, List.setIfInBounds_toArray, List.set_cons_zero, List.set_cons_succ])
          refine wpAnyH_ready (rs := [24]) (by kernel_rfl) (by simp) ?_
          refine AllReadyH.cons rfl (fun K hK => ?_) AllReadyH.nil
          go_simp
          refine (hfi _ hHeld.1).mono ?_
          rintro e v7 ⟨u7, rfl, htr7, hb7⟩
          have hV7 : Below W.heap.size W v7 := hHeld.1.trans (hb7.mono hHeld.1.size)
          have HT7 : Hid (TRow v7 u7 (findC (nums name) t.cs) (CpAt 11000 v7)) := htr7
          clear htr7
          refine hK.out _ _ (hSall _ hV7) (fun hHeld => ?_)
          clear hK K
          refine wpAnyH_ready (rs := [27]) (by kernel_rfl) (by simp) ?_
          refine AllReadyH.cons rfl (fun K hK => ?_) AllReadyH.nil
          go_simp
          refine (hrf _ hHeld.1).mono ?_
          rintro e v8 ⟨u8, rfl, htr8, hb8⟩
          have hV8 : Below W.heap.size W v8 := hHeld.1.trans (hb8.mono hHeld.1.size)
          have HT8 : Hid (TRow v8 u8 (findC (nums name) t.cs) (CpAt 11000 v8)) := trow_up htr8 (fun q x y z hq => CpAt.up 11 11000 _ _ _ _ (by omega) hq)
          have HT9 : Hid (TRow v8 u7 (findC (nums name) t.cs) (CpAt 11000 v8)) := trow_below HT7.out hb8
          clear htr8
          refine hK.out _ _ (hSall _ hV8) (fun hHeld => ?_)
          clear hK K
          refine wpAnyH_ready (rs := [28]) (by kernel_rfl) (by simp) ?_
          refine AllReadyH.cons rfl (fun K hK => ?_) AllReadyH.nil
          go_simp
          refine (same_list 11000 (same_all 11000) _ _ _ _ HT9.out HT8.out).mono ?_
          rintro e v9 ⟨rfl, hb9⟩
          have hV9 : Below W.heap.size W v9 := hHeld.1.trans (hb9.mono hHeld.1.size)
          refine hK.out _ _ (hSall _ hV9) (fun hHeld => ?_)
          clear hK K
          refine takeD (some 67) (i := 29) (v := .bool true) rfl rfl (by kernel_rfl) (by kernel_rfl) (by kernel_rfl) (fun _ _ _ h => h) (Or.inl ⟨by kernel_rfl, ?_⟩) (by assumption) ?_
          · (intro w hSw; (try dsimp only at hSw); go_simp)
          (try simp only [Act.put, List.setIfInBounds_toArray, List.set_cons_zero, List.set_cons_succ])
          refine takeD (some 4) (i := 30) (v := .bool true) rfl rfl (by kernel_rfl) (by kernel_rfl) (by kernel_rfl) (fun _ _ _ h => h) (Or.inl ⟨by kernel_rfl, ?_⟩) (by assumption) ?_
          · (intro w hSw; (try dsimp only at hSw); go_simp)
          (try simp only [Act.put, List.setIfInBounds_toArray, List.set_cons_zero, List.set_cons_succ])
          refine wpAnyH_done (by kernel_rfl) ?_ _
          go_wp2
          go_ret
          exact ⟨rfl, HBW.out.trans (hV9.mono HBW.out.size)⟩

set_option maxRecDepth 100000 in
theorem lifted (os : Os) (started : os.Started) (H : Type) (enc : TypeId × Value → H) :
    ReturnsInHanded {} Tryd.checked os 5 .any (fun w args => (Rows.treeGetsSpec.pre enc Tryd.prog Tryd.f5 Rows.treeGetsRow.domain false w args ∧ laidMetH Tryd.prog Rows.treeGetsRow.laid w) ∧ sizedMet enc Tryd.prog Tryd.f5 (OpenSpec.ofChange Rows.treeGetsSpec) false w args)
      (Rows.treeGetsSpec.post enc Tryd.prog Tryd.f5 false true false false) := by
  refine step_all (C := Tryd.checked) (X := fun w _ => laidMetH Tryd.prog Rows.treeGetsRow.laid w) (fun _ _ _ hh h => h.of_heap hh) own started (by kernel_rfl) Tryd.func5
    (ChangeSpec.witness_shaped (enc := enc) (C := Tryd.checked) (os := os) (X := fun w _ => laidMetH Tryd.prog Rows.treeGetsRow.laid w) false (World.laidAll Tryd.prog os Rows.treeGetsRow.laid) #[compV (.string ⟨#[]⟩) (.slice none 0 0) (.slice none 0 0), .string ⟨#[]⟩] 8 (World.laidAll_os _ _ _)
      (World.shaped_of_ZipB (by kernel_rfl) (by kernel_rfl)) (by kernel_rfl) (by kernel_rfl) (by kernel_rfl)
      (by rw [MakeChecks.laidMetH_plain _ _ _ (by kernel_rfl)]; exact laidMet_laidAll _ (by kernel_rfl) (by kernel_rfl))) ?_
  intro W base args ds gs before hval0 hW hcnd hsz0 hsh hL
  have hval : ∀ (j : Nat) t v, Tryd.f5.params[j]? = some t → args[j]? = some v → Value.okWide Tryd.prog W .any base t v := hval0
  have hsz : (DataW.weightsEach Tryd.prog (Tryd.f5.params.toList ++ Rows.treeGetsSpec.plain.varTypes Tryd.prog) (ds ++ gs)).all (· ≤ reachBytes) = true := hsz0
  have hW' := hW
  obtain ⟨p, q, hA0, hV, rfl, hfz, hnd⟩ := hW
  have hA : DataW.TrodAll enc Tryd.prog W 0 (fun _ => true) true Tryd.f5.params.toList args.toList ds p := hA0
  rw [Tryd.params5] at hA hval hsz
  obtain ⟨v0, vs0, d0, ds0, p0, q0, hargs0, rfl, rfl, h0, r0⟩ := trodAll_cons hA
  obtain ⟨v1, vs1, d1, ds1, p1, q1, hargs1, rfl, rfl, h1, r1⟩ := trodAll_cons r0
  obtain ⟨rfl, rfl, rfl⟩ := trodAll_nil r1
  subst hargs1
  obtain rfl : args = #[v0, v1] := by cases args; simp_all
  obtain ⟨rfl, rfl⟩ := trodVars_none hV
  have hwt0 : ∀ n, n ∈ DataW.weights Tryd.prog 25 d0 → n ≤ reachBytes := by
    intro n hn
    have hh := List.all_eq_true.1 hsz n (by simp [DataW.weightsEach, hn])
    simpa using hh
  have k0 := h0
  have lt0 : ∀ x ∈ p0, x.block < W.heap.size := by obtain ⟨m, hm⟩ := k0; exact DataW.trod_lt m _ _ _ hm
  obtain ⟨x0, y0, z0, t0, kk0, rfl, w0, wd0⟩ := comp_arg (hval 0 25 v0 rfl rfl) h0 (fun n hn => hwt0 n hn)
  have k1 := h1
  have lt1 : ∀ x ∈ p1, x.block < W.heap.size := by obtain ⟨m, hm⟩ := k1; exact DataW.trod_lt m _ _ _ hm
  obtain ⟨s1, rfl, _, _, zz1⟩ := open_string Tryd.underlying9 (hval 1 9 v1 rfl rfl) h1
  clear hA0 hval0
  obtain ⟨m, hm⟩ := shape_cell W hsh
  refine (walk x0 y0 z0 t0 kk0 s1 W w0 wd0 zz1 m hm).mono fun e W' ⟨he, bel⟩ => ?_
  subst he
  exact ⟨_, rfl, _, _, _, [], _, [], hW', trodAll_mk1 (shut_bool Tryd.underlying4 _), (trodAll_cons_mk (Below.trod laidOut (by kernel_rfl) (of_decide_eq_true (by kernel_rfl)) k0 bel lt0) (trodAll_cons_mk (Below.trod laidOut (by kernel_rfl) (of_decide_eq_true (by kernel_rfl)) k1 bel lt1) trodAll_mk0)), rfl, bel.frame _, fun h => by cases h⟩

theorem over : Rows.TreeGetsSaid :=
  OpenClaim.holds_of_wide 5 Tryd.f5 rfl rfl rfl rfl rfl rfl rfl ⟨rfl, rfl, rfl, rfl, rfl⟩ rfl rfl rfl rfl rfl (by kernel_rfl) Tryd.func5 (by kernel_rfl)
    (of_decide_eq_true (by kernel_rfl)) (by unfold Func.isWrapper; first | (rw [if_pos (by decide +kernel)]; kernel_rfl) | (rw [if_neg (by decide +kernel)]; exact ⟨rfl, rfl⟩))
    (fun os started H enc _ => lifted os started H enc)
end Go.Proofs.YtenclgnkogmgiaaDoor.treeGets
namespace Go.Proofs.YtenclgnkogmgiaaDoor
theorem treeGets_card : Rows.TreeGetsCardSaid :=
  Claim7.holds_tied_plain_at .later [] _ _ _ _ treeGets.over (fun _ h => by cases h) (by kernel_rfl) (fun _ h => by cases h) treeGets_row_tie rfl ⟨rfl, rfl⟩ (by kernel_rfl) rfl
    (fun f fn hf hfn => by
      obtain rfl : f = 5 := Option.some.inj ((show Tryd.prog.funcNamed Rows.treeGetsRow.func = some 5 by kernel_rfl).symm.trans hf) |>.symm
      obtain rfl : fn = Tryd.f5 := (Option.some.inj (Tryd.func5.symm.trans hfn)).symm
      exact ⟨by kernel_rfl, fun j t ht => by
        rw [Tryd.params5] at ht
        have hm : t ∈ [25, 9] := by simpa using Array.mem_of_getElem? ht
        have hall : ([25, 9].all fun u => !Tryd.prog.wantsStandIn u) = true := by kernel_rfl
        exact (show Tryd.prog.wantsStandIn t = false by simpa using List.all_eq_true.1 hall t hm)⟩)
    (by kernel_rfl)
#print axioms treeGets_card
end Go.Proofs.YtenclgnkogmgiaaDoor
