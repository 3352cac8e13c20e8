/-
  Parse's reading of a part.
-/
import Derived.Test.YtmdkmedlncfcbaaGreatDoorPt
namespace Go.Proofs.YtmdkmedlncfcbaaGreatDoor
open Go.RowKit Go.Shelf
set_option linter.unusedVariables false
set_option linter.unusedSimpArgs false

def gP : Nat → Nat → List Int → List Int → List (Nat × Nat) → Nat × Except Int Prt
  | 0, ct, l => fun _ _ => (ct + 1, .error 80)
  | f + 1, ct, l => fun m ts => prW (outL l) (prL (prP f) m (ct + 1) ts [])
theorem prP_eq (f ct : Nat) (l : List Int) : prP f ct l = prH (ct + 1) l (gP f ct l) := by cases f <;> rfl
def RdC (f : Nat) : Prop := ∀ (d : Int), d = 8 - (f : Int) → ∀ (ct C R : Nat) (a : Option Addr) (n c : Nat) (l : List Int) (w : World), ct ≤ 64 → l.length = n → n ≤ c → c ≤ maxLen → (a = none → c = 0) → n ≤ 1048576 → Byt l → Row w a l → Mx w → Blk w C #[.int .i64 (ct : Nat)] 3 → Blk w R #[.func (.func 29) #[] #[.pointer (some ⟨C, 0, none⟩), .pointer (some ⟨R, 0, none⟩)]] 53 → C ≠ R →
  Calls Tryz.prog 29 #[.slice a n c, .int .i64 d, .pointer (some ⟨C, 0, none⟩), .pointer (some ⟨R, 0, none⟩)] w (PrPost w C (f + 1) (prP f ct l))
set_option maxHeartbeats 16000000 in
set_option maxRecDepth 100000 in
theorem read_step (f : Nat) (hf : f ≤ 7) (ih : ∀ g, f = g + 1 → RdC g) : RdC f := by
  intro d hd ct C R a n c l w hct hl hcap hcm hnil hbig hb hr hm hC hR hne
  rw [prP_eq]
  have HD : Hid (d = 8 - (f : Int)) := hd
  have hd1 : 0 ≤ d := by omega
  have hd2 : d ≤ 8 := by omega
  clear hd
  have HX : Hid (∀ x, x = prH (ct + 1) l (gP f ct l) → x = prH (ct + 1) l (gP f ct l)) := fun _ h => h
  generalize hx : prH (ct + 1) l (gP f ct l) = x
  have HXE : Hid (prH (ct + 1) l (gP f ct l) = x) := hx
  have HIH : Hid (∀ g, f = g + 1 → RdC g) := ih
  have HL : Hid (l.length = n) := hl
  have HBY : Hid (Byt l) := hb
  have hcmx : c ≤ 9223372036854775807 := hcm
  have hClt : C < w.heap.size := hC.lt
  have hRlt : R < w.heap.size := hR.lt
  obtain ⟨G, hG⟩ : ∃ G, w.heap.size = G := ⟨_, rfl⟩
  obtain ⟨w0, hw0⟩ : ∃ w0, (w.alloc (.cells #[.slice none 0 0, .slice none 0 0, .slice none 0 0] 28)).setCell ⟨C, 0, none⟩ (.int .i64 ((ct : Int) + 1)) = w0 := ⟨_, rfl⟩
  have hBk := keep w (.cells #[.slice none 0 0, .slice none 0 0, .slice none 0 0] 28)
  have ht0 : Tg (fun b => b = C) w w0 := by rw [← hw0]; exact (Tg.alloc _ w _).trans (Tg.set _ C 0 _ rfl)
  have hC0 : Blk w0 C #[.int .i64 ((ct + 1 : Nat) : Int)] 3 := by
    rw [← hw0]; exact (hC.below hBk hClt).same0 _
  have hG0 : Blk w0 G #[.slice none 0 0, .slice none 0 0, .slice none 0 0] 28 := by
    have := Blk.new w #[.slice none 0 0, .slice none 0 0, .slice none 0 0] 28
    rw [hG] at this
    rw [← hw0]; exact this.other (by omega) _
  have hR0 : Blk w0 R #[.func (.func 29) #[] #[.pointer (some ⟨C, 0, none⟩), .pointer (some ⟨R, 0, none⟩)]] 53 := ht0.kept hR (fun q => hne q.symm)
  have hr0 : Row w0 a l := row_tg hr ht0 (row_ne hr hC)
  have hm0 : Mx w0 := mx_set hm hC hC0 ht0
  have hz0 : w0.heap.size = G + 1 := by rw [← hw0, ← hG]; simp
  have hpa := parse_any a n c l w0 HL.out hcap hcmx hnil (by omega) HBY.out hr0 hm0
  have cC := cell1 hC
  have fC := hC.frozen 0
  rw [hG] at hClt hRlt
  have HT0 : Hid (Tg (fun b => b = C) w w0) := ht0
  have HC0 : Hid (Blk w0 C #[.int .i64 ((ct + 1 : Nat) : Int)] 3) := hC0
  have HG0 : Hid (Blk w0 G #[.slice none 0 0, .slice none 0 0, .slice none 0 0] 28) := hG0
  have HR0 : Hid (Blk w0 R #[.func (.func 29) #[] #[.pointer (some ⟨C, 0, none⟩), .pointer (some ⟨R, 0, none⟩)]] 53) := hR0
  have HRW : Hid (Row w0 a l) := hr0
  have HM0 : Hid (Mx w0) := hm0
  have HZ0 : Hid (w0.heap.size = G + 1) := hz0
  have HG : Hid (w.heap.size = G) := hG
  have HR00 : Hid (Row w a l) := hr
  have HM00 : Hid (Mx w) := hm
  have HCW : Hid (Blk w C #[.int .i64 (ct : Nat)] 3) := hC
  clear hx hr hm hC hR hC0 hG0 hR0 hr0 hm0 ht0 hBk hz0 hl hb ih
  by_cases h64 : ct = 64
  · subst h64
    have HV : Hid (x = (65, .error 81)) := by unfold Hid; rw [← HXE.out]; rfl
    clear hw0
    have hCw : Blk w C #[.int .i64 ((64 : Nat) : Int)] 3 := HCW.out
    go_enter Tryz.func29, Tryz.ntmps29
    go_wp2
    have hsz : (w.setCell ⟨C, 0, none⟩ (.int .i64 65)).heap.size = w.heap.size := size_setCell' _ _ _
    refine rd_fin (x := x) (c := 81) (vf := .slice none 0 0) (vb := .slice none 0 0) (vp := .slice none 0 0) ?_ (Tg.trans (O := fun b => b = C) (Tg.set w C 0 (.int .i64 65) rfl) (Tg.alloc _ _ _)) ?_ (.inr ⟨81, by rw [HV.out], rfl, by decide, rfl, rfl, rfl⟩) rfl (by rw [HG.out]; rfl) rfl
    · have := Blk.new (w.setCell ⟨C, 0, none⟩ (.int .i64 65)) #[.slice none 0 0, .slice none 0 0, .slice none 0 0] 28
      rw [hsz] at this; exact this
    · rw [HV.out]; exact (hCw.same0 (.int .i64 65)).alloc _
  · have hct2 : ct + 1 ≤ 64 := by omega
    have c0 : w0.cell? ⟨C, 0, none⟩ = some (.int .i64 ((ct : Int) + 1)) := cell1 HC0.out
    go_enter Tryz.func29, Tryz.ntmps29
    go_wp2_with fail
    refine hpa.mono ?_
    rintro e w2 ⟨vf, rfl, hof, hb2⟩
    obtain ⟨fa, fc, rfl, hfr⟩ := ownF_view hof
    have hC2 : Blk w2 C #[.int .i64 ((ct + 1 : Nat) : Int)] 3 := HC0.out.below hb2 HC0.out.lt
    have hG2 : Blk w2 G #[.slice none 0 0, .slice none 0 0, .slice none 0 0] 28 := HG0.out.below hb2 HG0.out.lt
    have hR2 := HR0.out.below hb2 HR0.out.lt
    have hr2 : Row w2 a l := row_below HRW.out hb2
    have hm2 : Mx w2 := HM0.out.keep hb2
    have ht2 : Tg (fun b => b = C) w w2 := HT0.out.trans (.of_below hb2)
    have hz2 : G + 1 ≤ w2.heap.size := by have := hb2.size; rw [HZ0.out] at this; exact this
    obtain ⟨g0, g1, g2⟩ := cells3 hG2
    have f0 := free3 hG2 0
    have f1 := free3 hG2 1
    have f2 := free3 hG2 2
    have HC2 : Hid (Blk w2 C #[.int .i64 ((ct + 1 : Nat) : Int)] 3) := hC2
    have HG2 : Hid (Blk w2 G #[.slice none 0 0, .slice none 0 0, .slice none 0 0] 28) := hG2
    have HR2 : Hid (Blk w2 R #[.func (.func 29) #[] #[.pointer (some ⟨C, 0, none⟩), .pointer (some ⟨R, 0, none⟩)]] 53) := hR2
    have HRW2 : Hid (Row w2 a l) := hr2
    have HM2 : Hid (Mx w2) := hm2
    have HT2 : Hid (Tg (fun b => b = C) w w2) := ht2
    have HOF : Hid (OwnF w2 (G + 1) (.slice fa (outL l).length fc) (outL l)) := by unfold Hid; rw [← HZ0.out]; exact hof
    have HFR : Hid (FRow w2 fa (outL l)) := hfr
    obtain ⟨Z, hZ⟩ : ∃ Z, w2.heap.size = Z := ⟨_, rfl⟩
    rw [hZ] at hz2
    have HZ : Hid (w2.heap.size = Z) := hZ
    have HFI : Hid (outC l = 0 → FitF (outL l) ∧ 2 ≤ outN l ∧ outN l ≤ l.length) := fun h => fit_out HBY.out (by rw [HL.out]; exact hbig) h
    obtain ⟨oc, hoc⟩ : ∃ oc, outC l = oc := ⟨_, rfl⟩
    obtain ⟨op, hop⟩ : ∃ op, outP l = op := ⟨_, rfl⟩
    obtain ⟨on, hon⟩ : ∃ on, outN l = on := ⟨_, rfl⟩
    obtain ⟨fs, hfs⟩ : ∃ fs, outL l = fs := ⟨_, rfl⟩
    rw [hoc, hop, hon]
    rw [hfs] at HOF HFR ⊢
    rw [hfs, hon, hoc] at HFI
    have HOC : Hid (outC l = oc) := hoc
    have HON : Hid (outN l = on) := hon
    have HFS : Hid (outL l = fs) := hfs
    clear hpa hb2 hof hfr hC2 hG2 hR2 hr2 hm2 ht2 c0 hw0 hoc hop hon hfs HC0 HG0 HR0 HRW HM0 HZ0 HT0 cC fC
    unfold faultV
    by_cases hc0 : oc = 0
    · subst hc0
      obtain ⟨hfit, hon2, honl⟩ := HFI.out rfl
      rw [HL.out] at honl
      obtain ⟨nm, hnm⟩ : ∃ m : Nat, on = m := ⟨on.toNat, by omega⟩
      subst hnm
      have hfl : fs.length ≤ 1000 := hfit.1
      have hb4 : Below w2.heap.size w2 ((w2.alloc (.cells #[.int .i64 op, .int .i64 0] 55)).alloc (.cells #[.slice fa fs.length fc, .slice none 0 0, .slice none 0 0] 28)) := (keep w2 _).alloc (by simp) _
      have HB4 : Hid (Below w2.heap.size w2 ((w2.alloc (.cells #[.int .i64 op, .int .i64 0] 55)).alloc (.cells #[.slice fa fs.length fc, .slice none 0 0, .slice none 0 0] 28))) := hb4
      have hki := kind_any fa fs.length fc (.slice none 0 0) (.slice none 0 0) fs ((w2.alloc (.cells #[.int .i64 op, .int .i64 0] 55)).alloc (.cells #[.slice fa fs.length fc, .slice none 0 0, .slice none 0 0] 28)) rfl (HFR.out.below hb4) hfit rfl rfl
      unfold partV at hki
      have HFIT : Hid (FitF fs) := hfit
      have HC64 : Hid (¬ ct = 64) := h64
      clear g0 g1 g2 f0 f1 f2 hZ hb4 hfit
      go_wp2_with fail
      refine hki.mono ?_
      rintro e w5 ⟨ty, sub, ka, kc, ks, kcd, rfl, hka, hb5, hkans⟩
      clear hki
      have hb4 := HB4.out
      have hz4 : ((w2.alloc (.cells #[.int .i64 op, .int .i64 0] 55)).alloc (.cells #[.slice fa fs.length fc, .slice none 0 0, .slice none 0 0] 28)).heap.size = Z + 2 := by rw [World.size_alloc, World.size_alloc, HZ.out]
      have hP4 : Blk ((w2.alloc (.cells #[.int .i64 op, .int .i64 0] 55)).alloc (.cells #[.slice fa fs.length fc, .slice none 0 0, .slice none 0 0] 28)) (Z + 1) #[.slice fa fs.length fc, .slice none 0 0, .slice none 0 0] 28 := by
        have := Blk.new (w2.alloc (.cells #[.int .i64 op, .int .i64 0] 55)) #[.slice fa fs.length fc, .slice none 0 0, .slice none 0 0] 28
        rw [World.size_alloc, HZ.out] at this; exact this
      have hb25 : Below w2.heap.size w2 w5 := hb4.trans (hb5.mono (by rw [hz4, HZ.out]; omega))
      have HP5 : Hid (Blk w5 (Z + 1) #[.slice fa fs.length fc, .slice none 0 0, .slice none 0 0] 28) := hP4.below hb5 hP4.lt
      have HC5 : Hid (Blk w5 C #[.int .i64 ((ct + 1 : Nat) : Int)] 3) := HC2.out.below hb25 HC2.out.lt
      have HG5 : Hid (Blk w5 G #[.slice none 0 0, .slice none 0 0, .slice none 0 0] 28) := HG2.out.below hb25 HG2.out.lt
      have HR5 : Hid (Blk w5 R #[.func (.func 29) #[] #[.pointer (some ⟨C, 0, none⟩), .pointer (some ⟨R, 0, none⟩)]] 53) := HR2.out.below hb25 HR2.out.lt
      have HRW5 : Hid (Row w5 a l) := row_below HRW2.out hb25
      have HM5 : Hid (Mx w5) := HM2.out.keep hb25
      have HT5 : Hid (Tg (fun b => b = C) w w5) := HT2.out.trans (.of_below hb25)
      have HOF5 : Hid (OwnF w5 (G + 1) (.slice fa fs.length fc) fs) := own_keep HOF.out hb25
      have HZ5 : Hid (Z + 2 ≤ w5.heap.size) := by unfold Hid; rw [← hz4]; exact hb5.size
      have HKA : Hid (KAt w5 ty sub ka ks) := hka
      have HSF : Hid (Stay (fun b => b ≤ G ∨ Z ≤ b) w5 (fun W => FAt W (.slice fa fs.length fc) fs)) := by
        have h1 : Stay (fun b => b ≤ G ∨ Z ≤ b) w2 (fun W => FAt W (.slice fa fs.length fc) fs) := stay_fat HOF.out hfl (fun b h1 h2 q => by rw [HZ.out] at h2; omega)
        exact h1.go (.of_below (O := fun _ => False) hb25) (fun _ _ q => q.elim) (fun _ _ q => q)
      have hzz : Z + 1 < w5.heap.size := by have := HZ5.out; omega
      have hgz : G < w5.heap.size := by omega
      simp only [HZ.out]
      unfold Kd.kindV
      clear hb4 hb5 hb25 hz4 hP4 hka HC2 HG2 HR2 HRW2 HM2 HT2 HOF HFR HB4
      obtain ⟨kn, hkn⟩ : ∃ kn, ks.length = kn := ⟨_, rfl⟩
      rw [hkn]
      have HKN : Hid (ks.length = kn) := hkn
      clear hkn
      obtain ⟨g0, g1, g2⟩ := cells3 HG5.out
      have f0 := free3 HG5.out 0
      have f1 := free3 HG5.out 1
      have f2 := free3 HG5.out 2
      have hgg : w.heap.size = G := HG.out
      rcases hkans with ⟨rfl, hkd⟩ | ⟨hk0, hke, hkd⟩
      · have HKD : Hid (knd fs = some (knOf ty sub ks)) := hkd
        clear hkd
        obtain ⟨p0, p1, p2⟩ := cells3 HP5.out
        have q1 := free3 HP5.out 1
        have hmp := mp_eq ty
        by_cases hty : nums ty = mpZ
        · rw [decide_eq_true hty] at hmp
          have hmp2 : ty.toList = [109, 117, 108, 116, 105, 112, 97, 114, 116] := by rw [← mp_list]; simpa using hmp
          have HV : Hid (x = prK (ct + 1) (gP f ct l (l.drop nm)) ((bord (knOf ty sub ks)).bind (betw (l.drop nm)))) := by
            unfold Hid
            rw [← HXE.out, prH, if_neg (by omega), if_neg (by rw [HOC.out]; simp), HFS.out, HKD.out]
            simp only
            rw [if_pos (show (knOf ty sub ks).1 = mpZ from hty), HON.out, Int.toNat_natCast]
          obtain ⟨a', ha'⟩ : ∃ a', (if c = nm then a else Option.map (fun x => x.add nm) a) = a' := ⟨_, rfl⟩
          have ha2 : (if nm = c then a else Option.map (fun x => x.add nm) a) = a' := by rw [← ha']; by_cases h : c = nm <;> simp [h, eq_comm]
          have HRA : Hid (∀ W, Row W a l → Row W a' (l.drop nm)) := fun W h => by rw [← ha']; exact row_drop h (by rw [HL.out]; exact hcap)
          have HNA : Hid (a' = none → c - nm = 0) := fun h => by
            rw [← ha'] at h
            split at h
            · omega
            · cases a with
              | none => have := hnil rfl; omega
              | some y => simp at h
          have hbe := fun V (hV : Below w5.heap.size w5 V) => between_any a' (n - nm) (c - nm) (l.drop nm) ty sub ka kn kc ks V (by rw [List.length_drop, HL.out]) (HBY.out.drop _) (HRA.out V (row_below HRW5.out hV)) (by omega) (by unfold maxLen; omega) HNA.out (by omega) (HM5.out.keep hV) HKN.out (HKA.out.below hV)
          unfold Kd.kindV at hbe
          have HBE : Hid (∀ V, Below w5.heap.size w5 V → Calls Tryz.prog 32 #[.slice a' (n - nm) (c - nm), .agg #[.string ty, .string sub, .slice ka kn kc]] V (TPost V a' (c - nm) ((bord (knOf ty sub ks)).bind (betw (l.drop nm))))) := hbe
          have hnc : nm ≤ c := by omega
          have hnn : nm ≤ n := by omega
          have HK6 : Hid (Blk (w5.alloc (.cells #[.string ty, .string sub, .slice ka kn kc] 39)) w5.heap.size #[.string ty, .string sub, .slice ka kn kc] 39) := Blk.new _ _ _
          clear hty hmp hbe
          go_wp2_with fail
          obtain ⟨y0, y1, y2⟩ := cells3 HK6.out
          have hk6 := keep w5 (.cells #[.string ty, .string sub, .slice ka kn kc] 39)
          refine wp_region_held_drew (S := (fun V => Below w5.heap.size w5 V ∧ V.cell? ⟨w5.heap.size, 0, none⟩ = some (.string ty) ∧ V.cell? ⟨w5.heap.size, 1, none⟩ = some (.string sub) ∧ V.cell? ⟨w5.heap.size, 2, none⟩ = some (.slice ka kn kc))) (by kernel_rfl) (by (refine ⟨?_, ?_, ?_, ?_⟩ <;> first | assumption | exact below_drew hk6 | exact hHeld.1.trans (hb8.mono hHeld.1.size) | exact keep_cell hb8 hHeld.2.1 | exact keep_cell hb8 hHeld.2.2.1 | exact keep_cell hb8 hHeld.2.2.2 | simp [*])) (fun hHeld => ?_)
          refine takeD (some 56) (i := 0) (v := .slice a n c) rfl rfl (by kernel_rfl) (by kernel_rfl) (by kernel_rfl) (fun _ _ _ h => h) (Or.inl ⟨by kernel_rfl, ?_⟩) (by assumption) ?_
          · (intro w hSw; (try dsimp only at hSw); go_simp)
          (try simp only [Act.put, List.setIfInBounds_toArray, List.set_cons_zero, List.set_cons_succ])
          refine takeD (some 57) (i := 1) (v := .int .i64 (nm : Nat)) rfl rfl (by kernel_rfl) (by kernel_rfl) (by kernel_rfl) (fun _ _ _ h => h) (Or.inl ⟨by kernel_rfl, ?_⟩) (by assumption) ?_
          · (intro w hSw; (try dsimp only at hSw); go_simp)
          (try simp only [Act.put, List.setIfInBounds_toArray, List.set_cons_zero, List.set_cons_succ])
          refine takeD (some 58) (i := 2) (v := .slice a' (n - nm) (c - nm)) rfl rfl (by kernel_rfl) (by kernel_rfl) (by kernel_rfl) (fun _ _ _ h => h) (Or.inl ⟨by kernel_rfl, ?_⟩) (by assumption) ?_
          · (intro w hSw; (try dsimp only at hSw); go_simp)
          (try simp only [Act.put, List.setIfInBounds_toArray, List.set_cons_zero, List.set_cons_succ])
          refine takeD (some 59) (i := 3) (v := .agg #[.string ty, .string sub, .slice ka kn kc]) rfl rfl (by kernel_rfl) (by kernel_rfl) (by kernel_rfl) (fun _ _ _ h => h) (Or.inl ⟨by kernel_rfl, ?_⟩) (by assumption) ?_
          · (intro w hSw; (try dsimp only at hSw); go_simp)
          (try simp only [Act.put, List.setIfInBounds_toArray, List.set_cons_zero, List.set_cons_succ])
          refine wpAnyH_ready (rs := [4]) (by kernel_rfl) (by simp) ?_
          refine AllReadyH.cons rfl (fun K hK => ?_) AllReadyH.nil
          go_simp
          refine (HBE.out _ hHeld.1).mono ?_
          rintro e w8 ⟨v8, fd, rfl, hb8, hans8⟩
          refine hK.out _ _ (by (refine ⟨?_, ?_, ?_, ?_⟩ <;> first | assumption | exact below_drew hk6 | exact hHeld.1.trans (hb8.mono hHeld.1.size) | exact keep_cell hb8 hHeld.2.1 | exact keep_cell hb8 hHeld.2.2.1 | exact keep_cell hb8 hHeld.2.2.2 | simp [*])) (fun hHeld => ?_)
          clear hK K
          refine takeD (some 55) (i := 5) (v := .tuple #[v8, .bool fd]) rfl rfl (by kernel_rfl) (by kernel_rfl) (by kernel_rfl) (fun _ _ _ h => h) (Or.inl ⟨by kernel_rfl, ?_⟩) (by assumption) ?_
          · (intro w hSw; (try dsimp only at hSw); go_simp)
          (try simp only [Act.put, List.setIfInBounds_toArray, List.set_cons_zero, List.set_cons_succ])
          refine takeD (some 61) (i := 6) (v := v8) rfl rfl (by kernel_rfl) (by kernel_rfl) (by kernel_rfl) (fun _ _ _ h => h) (Or.inl ⟨by kernel_rfl, ?_⟩) (by assumption) ?_
          · (intro w hSw; (try dsimp only at hSw); go_simp)
          (try simp only [Act.put, List.setIfInBounds_toArray, List.set_cons_zero, List.set_cons_succ])
          refine takeD (some 62) (i := 7) (v := .bool fd) rfl rfl (by kernel_rfl) (by kernel_rfl) (by kernel_rfl) (fun _ _ _ h => h) (Or.inl ⟨by kernel_rfl, ?_⟩) (by assumption) ?_
          · (intro w hSw; (try dsimp only at hSw); go_simp)
          (try simp only [Act.put, List.setIfInBounds_toArray, List.set_cons_zero, List.set_cons_succ])
          refine takeD (some 14) (i := 8) (v := v8) rfl rfl (by kernel_rfl) (by kernel_rfl) (by kernel_rfl) (fun _ _ _ h => h) (Or.inl ⟨by kernel_rfl, ?_⟩) (by assumption) ?_
          · (intro w hSw; (try dsimp only at hSw); go_simp)
          (try simp only [Act.put, List.setIfInBounds_toArray, List.set_cons_zero, List.set_cons_succ])
          refine takeD (some 15) (i := 9) (v := .bool fd) rfl rfl (by kernel_rfl) (by kernel_rfl) (by kernel_rfl) (fun _ _ _ h => h) (Or.inl ⟨by kernel_rfl, ?_⟩) (by assumption) ?_
          · (intro w hSw; (try dsimp only at hSw); go_simp)
          (try simp only [Act.put, List.setIfInBounds_toArray, List.set_cons_zero, List.set_cons_succ])
          refine wpAnyH_done (by kernel_rfl) ?_ _
          have hans9 : (fd = false ∧ (bord (knOf ty sub ks)).bind (betw (l.drop nm)) = none ∧ v8 = .slice none 0 0) ∨ (fd = true ∧ ∃ ts, (bord (knOf ty sub ks)).bind (betw (l.drop nm)) = some ts ∧ w8.ownsRow (w5.heap.size + 1) 22 1 v8 ts.length (ts.map (cutV a' (c - nm)))) := by simpa using hans8
          have hb58 := hHeld.1
          have HG8 : Hid (Blk w8 G #[.slice none 0 0, .slice none 0 0, .slice none 0 0] 28) := HG5.out.below hb58 HG5.out.lt
          have HC8 : Hid (Blk w8 C #[.int .i64 ((ct + 1 : Nat) : Int)] 3) := HC5.out.below hb58 HC5.out.lt
          have HR8 : Hid (Blk w8 R #[rdF C R] 53) := HR5.out.below hb58 HR5.out.lt
          have HP8 : Hid (Blk w8 (Z + 1) #[.slice fa fs.length fc, .slice none 0 0, .slice none 0 0] 28) := HP5.out.below hb58 HP5.out.lt
          have HT8 : Hid (Tg (fun b => b = C) w w8) := HT5.out.trans (.of_below hb58)
          have HSF8 : Hid (Stay (fun b => b ≤ G ∨ Z ≤ b) w8 (fun W => FAt W (.slice fa fs.length fc) fs)) := HSF.out.go (.of_below (O := fun _ => False) hb58) (fun _ _ q => q.elim) (fun _ _ q => q)
          obtain ⟨B5, hB5⟩ : ∃ B5, w5.heap.size = B5 := ⟨_, rfl⟩
          obtain ⟨B8, hB8⟩ : ∃ B8, w8.heap.size = B8 := ⟨_, rfl⟩
          have HB58 : Hid (B5 + 1 ≤ B8) := by
            unfold Hid
            have := World.block_lt_of_cell? _ _ hHeld.2.1
            rw [← hB5, ← hB8]; exact this
          have HB8 : Hid (w8.heap.size = B8) := hB8
          rw [hB5] at hans9 hzz
          simp only [hB5]
          clear g0 g1 g2 f0 f1 f2 p0 p1 p2 q1 y0 y1 y2 hb8 hans8 hHeld hb58 ha' ha2 hk6 HK6 HG5 HC5 HR5 HP5 HT5 HSF HRW5 HM5 HKA HOF5 hB5 hgz hB8 HBE HZ5
          obtain ⟨g0, g1, g2⟩ := cells3 HG8.out
          have f0 := free3 HG8.out 0
          have f1 := free3 HG8.out 1
          have f2 := free3 HG8.out 2
          rcases hans9 with ⟨rfl, hno, rfl⟩ | ⟨rfl, ts, hts, ho8⟩
          · have HV2 : Hid (x = (ct + 1, .error 81)) := by unfold Hid; rw [HV.out, hno]; rfl
            clear hno HV
            go_wp2
            rw [← hgg]
            refine rd_ret (W := w8) (x := x) (a := .slice none 0 0) (b := .slice none 0 0) (d := .slice none 0 0) (c := 81) (vf := .slice none 0 0) (vb := .slice none 0 0) (vp := .slice none 0 0) ?_ HT8.out ?_ (by omega) (.inr ⟨81, by rw [HV2.out], rfl, by decide, rfl, rfl, rfl⟩) (Below.refl _ _) rfl rfl rfl
            · rw [hgg]; exact HG8.out
            · rw [HV2.out]; exact HC8.out
          · have HV2 : Hid (x = gP f ct l (l.drop nm) ts) := by unfold Hid; rw [HV.out, hts]; rfl
            obtain ⟨bd, _, hbd⟩ := Option.bind_eq_some_iff.1 hts
            have hpos := betw_pos _ _ _ _ _ _ _ hbd
            have hcnt := betw_count hbd
            rw [List.length_drop, HL.out] at hcnt
            have HIN : Hid (∀ y ∈ ts, y.1 ≤ y.2 ∧ y.2 ≤ n - nm) := by
              unfold Hid
              have := betw_in hbd
              rw [List.length_drop, HL.out] at this
              exact this
            have HO8 : Hid (w8.ownsRow (B5 + 1) 22 1 v8 ts.length (ts.map (cutV a' (c - nm)))) := ho8
            clear hts hbd HV
            cases f with
            | zero =>
              have HV3 : Hid (x = (ct + 1, .error 80)) := HV2.out
              obtain rfl : d = 8 := by have := HD.out; simpa using this
              clear ho8
              go_wp2
              rw [← hgg]
              refine rd_ret (W := w8) (x := x) (a := .slice none 0 0) (b := .slice none 0 0) (d := .slice none 0 0) (c := 80) (vf := .slice none 0 0) (vb := .slice none 0 0) (vp := .slice none 0 0) ?_ HT8.out ?_ (by omega) (.inr ⟨80, by rw [HV3.out], rfl, by decide, rfl, rfl, rfl⟩) (Below.refl _ _) rfl rfl rfl
              · rw [hgg]; exact HG8.out
              · rw [HV3.out]; exact HC8.out
            | succ g =>
              have HV3 : Hid (x = prW fs (prL (prP g) (l.drop nm) (ct + 1) ts [])) := by unfold Hid; rw [HV2.out, gP, HFS.out]
              rcases ho8.2 with ⟨rfl, h0⟩ | ⟨g8, cap8, cur8, rfl, _⟩
              · omega
              clear ho8
              have HK0 : Hid (LK w C R G Z (B5 + 1) B8 (g + 1) (.slice fa fs.length fc) (.slice (some ⟨g8, 0, none⟩) ts.length cap8) fs ts.length (ts.map (cutV a' (c - nm))) (ct + 1) [] [] (.slice none 0 0) w8) :=
                ⟨HT8.out, HC8.out, HG8.out, HR8.out, HP8.out, World.ownsRow_nil _ _ _ _, rfl, fun i t x h1 _ => by simp at h1, HSF8.out, fun W hW => own_tgb HO8.out hW (fun b h1 h2 q => by rw [HB8.out] at h2; omega), by rw [HB8.out]; exact Nat.le_refl _⟩
              have hd8 : (d == 8) = false := by have := HD.out; rw [beq_eq_false_iff_ne]; omega
              have hd9 : d + 1 ≤ 8 := by have := HD.out; omega
              have htl : ts.length ≤ 2000000 := by omega
              clear g0 g1 g2 f0 f1 f2 HG8 HC8 HR8 HP8 HT8 HSF8 HO8
              go_wp2
              go_loopw [71] (fun i wr => ∃ (k ct1 : Nat) (acc : List Prt) (xs : List (Value × Value × Value)) (vp : Value), i = .int .i64 (k : Nat) ∧ k ≤ ts.length ∧ acc.length = k ∧ ct1 ≤ 64 ∧ x = prW fs (prL (prP g) (l.drop nm) ct1 (ts.drop k) acc) ∧ LK w C R G Z (B5 + 1) B8 (g + 1) (.slice fa fs.length fc) (.slice (some ⟨g8, 0, none⟩) ts.length cap8) fs ts.length (ts.map (cutV a' (c - nm))) ct1 acc xs vp wr) (fun i _ => ts.length - (intOf i).toNat)
              case atStart => exact ⟨0, ct + 1, [], [], .slice none 0 0, rfl, by omega, rfl, hct2, HV3.out, HK0.out⟩
              case round =>
                obtain ⟨k, ct1, acc, xs, vp, rfl, hk, hac, hct1, hxe, hlk⟩ := hrel
                obtain ⟨pa, pn, pc, rfl⟩ : ∃ pa pn pc, vp = .slice pa pn pc := by
                  rcases hlk.2.2.2.2.2.1.2 with ⟨rfl, _⟩ | ⟨_, _, _, rfl, _⟩ <;> exact ⟨_, _, _, rfl⟩
                have HAC : Hid (acc.length = k) := hac
                have hacl : acc.length ≤ 2000000 := by omega
                clear hac
                have HXE2 : Hid (x = prW fs (prL (prP g) (l.drop nm) ct1 (ts.drop k) acc)) := hxe
                have HLK : Hid (LK w C R G Z (B5 + 1) B8 (g + 1) (.slice fa fs.length fc) (.slice (some ⟨g8, 0, none⟩) ts.length cap8) fs ts.length (ts.map (cutV a' (c - nm))) ct1 acc xs (.slice pa pn pc) wr) := hlk
                clear hxe
                obtain ⟨k1, k2, k3, k4, k5, k6, k7, k8, k9, k10, k11⟩ := hlk
                by_cases hlt : k < ts.length
                · obtain ⟨y, hyk⟩ : ∃ y, ts[k]? = some y := ⟨_, List.getElem?_eq_getElem hlt⟩
                  have hy := HIN.out y (List.mem_of_getElem? hyk)
                  have cT := k10.now.cells (g := g8) rfl k (cutV a' (c - nm) y) (by rw [List.getElem?_map, hyk]; rfl)
                  rw [add_plain, Nat.zero_add] at cT
                  have hrV : Row wr (dropA a' (c - nm) y.1) (((l.drop nm).drop y.1).take (y.2 - y.1)) :=
                    row_take _ (row_drop (HRA.out wr (row_tg HR00.out k1 (row_ne HR00.out HCW.out))) (by rw [List.length_drop, HL.out]; omega))
                  have hmV : Mx wr := mx_set HM00.out HCW.out k2 k1
                  have hch := HIH.out g rfl (d + 1) (by have := HD.out; omega) ct1 C R (dropA a' (c - nm) y.1) (y.2 - y.1) (c - nm - y.1) (((l.drop nm).drop y.1).take (y.2 - y.1)) wr hct1 (by rw [List.length_take, List.length_drop, List.length_drop, HL.out]; omega) (by omega) (by unfold maxLen; omega)
                    (fun h => by
                      unfold dropA at h
                      split at h
                      · omega
                      · cases a' with
                        | none => have := HNA.out rfl; omega
                        | some z => simp at h) (by omega) (((HBY.out.drop _).drop _).take _) hrV hmV k2 k4 hne
                  unfold cutV at cT
                  obtain ⟨ta, hta⟩ : ∃ ta, dropA a' (c - nm) y.1 = ta := ⟨_, rfl⟩
                  obtain ⟨tn, htn⟩ : ∃ tn, y.2 - y.1 = tn := ⟨_, rfl⟩
                  obtain ⟨tc, htc⟩ : ∃ tc, c - nm - y.1 = tc := ⟨_, rfl⟩
                  obtain ⟨tx, htx⟩ : ∃ tx, ((l.drop nm).drop y.1).take (y.2 - y.1) = tx := ⟨_, rfl⟩
                  have HTX : Hid (((l.drop nm).drop y.1).take (y.2 - y.1) = tx) := htx
                  rw [htx, hta, htn, htc] at hch
                  rw [hta, htn, htc] at cT
                  have HYK : Hid (ts.drop k = y :: ts.drop (k + 1)) := by
                    unfold Hid
                    rw [List.drop_eq_getElem_cons hlt]
                    rw [List.getElem?_eq_getElem hlt] at hyk
                    simp only [Option.some.injEq] at hyk
                    rw [hyk]
                  have cR := cell1 k4
                  unfold rdF at cR
                  have HLT : Hid (wr.heap.size ≥ B8 ∧ True) := ⟨k11, trivial⟩
                  clear k1 k2 k3 k4 k5 k6 k7 k8 k9 k10 k11 hrV hmV hyk htx hta htn htc hd8
                  go_wp2_with fail
                  refine hch.mono ?_
                  rintro e V1 ⟨cf, cb, cp, cc, rfl, h1, hC1, hans⟩
                  clear hch cT cR
                  unfold partV
                  obtain ⟨k1, k2, k3, k4, k5, k6, k7, k8, k9, k10, k11⟩ := HLK.out
                  have h58 := HB58.out
                  have hG1 : Blk V1 G #[.slice none 0 0, .slice none 0 0, .slice none 0 0] 28 := h1.kept k3 (by omega)
                  have hP1 : Blk V1 (Z + 1) #[.slice fa fs.length fc, .slice none 0 0, .slice pa pn pc] 28 := h1.kept k5 (by omega)
                  have HG1 : Hid (Blk V1 G #[.slice none 0 0, .slice none 0 0, .slice none 0 0] 28) := hG1
                  have HP1 : Hid (Blk V1 (Z + 1) #[.slice fa fs.length fc, .slice none 0 0, .slice pa pn pc] 28) := hP1
                  have HT1 : Hid (Tg (fun b => b = C) w V1) := k1.trans h1
                  have H1 : Hid (Tg (fun b => b = C) wr V1) := h1
                  have hgz : G < V1.heap.size := hG1.lt
                  have hzz1 : Z + 1 < V1.heap.size := hP1.lt
                  have hB81 : B8 ≤ V1.heap.size := Nat.le_trans k11 h1.size
                  have HO1 : Hid (V1.ownsRow B8 28 3 (.slice pa pn pc) acc.length (xs.flatMap cell3)) := own_tg k6 h1 (fun b hb => by omega)
                  clear k1 k2 k3 k4 k5 k6 k7 k8 k9 k10 k11
                  have HXX : Hid (x = match prP g ct1 tx with
                    | (c, .error e) => prW fs (c, .error e)
                    | (c, .ok q) => prW fs (prL (prP g) (l.drop nm) c (ts.drop (k + 1)) (acc ++ [q]))) := by
                    unfold Hid
                    rw [HXE2.out, HYK.out, prL, HTX.out]
                    rcases prP g ct1 tx with ⟨c9, e9 | q9⟩ <;> rfl
                  obtain ⟨⟨c1, an⟩, hpp⟩ : ∃ y, prP g ct1 tx = y := ⟨_, rfl⟩
                  rw [hpp] at HXX hC1 hans
                  simp only at hC1 hans
                  rcases hans with ⟨q, rfl, rfl, hc64, hst⟩ | ⟨er, rfl, rfl, hern, rfl, rfl, rfl⟩
                  · have HX3 : Hid (x = prW fs (prL (prP g) (l.drop nm) c1 (ts.drop (k + 1)) (acc ++ [q]))) := HXX.out
                    have HST : Hid (Stay (fun b => b < wr.heap.size) V1 (fun W => PtAt (g + 1) W q cf cb cp)) := hst
                    have HC1 : Hid (Blk V1 C #[.int .i64 (c1 : Nat)] 3) := hC1
                    obtain ⟨o1, o2, o3⟩ := hst.now
                    obtain ⟨xa, xc, rfl, _⟩ := o1
                    obtain ⟨ya, yc, rfl, _⟩ := o2
                    obtain ⟨_, za, zc, rfl, _⟩ := o3
                    obtain ⟨xn, hxn⟩ : ∃ xn, q.fs.length = xn := ⟨_, rfl⟩
                    obtain ⟨yn, hyn⟩ : ∃ yn, q.body.length = yn := ⟨_, rfl⟩
                    obtain ⟨zn, hzn⟩ : ∃ zn, q.ps.length = zn := ⟨_, rfl⟩
                    rw [hxn, hyn, hzn] at HST ⊢
                    clear hxn hyn hzn
                    obtain ⟨j0, hi, hz0, hz1, hz2⟩ := info_parts Tryz.info28
                    have HO2 : Hid (((V1.alloc (.cells #[.slice xa xn xc, .slice ya yn yc, .slice za zn zc] 28)).alloc (.cells #[.slice xa xn xc, .slice ya yn yc, .slice za zn zc] 28)).ownsRow B8 28 3 (.slice pa pn pc) acc.length (xs.flatMap cell3)) := own_keep (own_keep HO1.out (keep _ _)) (keep _ _)
                    obtain ⟨p0, p1, p2⟩ := cells3 hP1
                    have q2 := free3 hP1 2
                    clear hst hC1 hpp HXX hG1 hP1 h1
                    go_wp2_with (at_builtin; refine wpList_append_lies _ rfl (.tmp 88) (.tmp 90) 26 rfl B8 28 j0 _ 3 72 Tryz.underlying26 hi hz0 hz1 hz2 rfl (by decide) (.slice pa pn pc) acc.length (xs.flatMap cell3) rfl HO2.out ⟨V1.heap.size + 1, 0, none⟩ 1 1 (cell3 (.slice xa xn xc, .slice ya yn yc, .slice za zn zc)) rfl rfl ?a0 ?a4 (by decide) ?a1 ?a2 ?a3 _ rfl ?_)
                    case a0 =>
                      intro j u hu
                      have hb := Blk.new (V1.alloc (.cells #[.slice xa xn xc, .slice ya yn yc, .slice za zn zc] 28)) #[.slice xa xn xc, .slice ya yn yc, .slice za zn zc] 28
                      rw [World.size_alloc] at hb
                      exact World.news_of_block hb j u hu
                    case a4 => intro u hu; simp [cell3] at hu; rcases hu with rfl | rfl | rfl <;> rfl
                    case a1 => unfold maxLen; omega
                    case a2 => omega
                    case a3 => simp; omega
                    intro g5 cap5 V4 hown4 hgrow4 hfr4 _
                    have hP4 : Blk V4 (Z + 1) #[.slice fa fs.length fc, .slice none 0 0, .slice pa pn pc] 28 := (hgrow4.block (Z + 1) (by simp; omega) (fun q => by have := (HO2.out.lt _ q.symm).1; omega)).trans ((HP1.out.alloc _).alloc _)
                    have HOW4 : Hid (V4.ownsRow B8 28 3 (.slice (some ⟨g5, 0, none⟩) (acc.length + 1) cap5) (acc.length + 1) (xs.flatMap cell3 ++ cell3 (.slice xa xn xc, .slice ya yn yc, .slice za zn zc))) := hown4
                    have HGR4 : Hid (((V1.alloc (.cells #[.slice xa xn xc, .slice ya yn yc, .slice za zn zc] 28)).alloc (.cells #[.slice xa xn xc, .slice ya yn yc, .slice za zn zc] 28)).grownBy V4 (Value.slice pa pn pc).ownBlock) := hgrow4
                    have HFR4 : Hid ((Value.slice pa pn pc).ownBlock = some g5 ∨ V1.heap.size ≤ g5) := hfr4.imp id (fun h => by rw [h]; omega)
                    clear p0 p1 p2 q2 hown4 hgrow4 hfr4
                    obtain ⟨p0, p1, p2⟩ := cells3 hP4
                    have q2 := free3 hP4 2
                    clear hP4
                    go_wp2
                    go_roundw
                    case rel => exact ⟨k + 1, c1, acc ++ [q], xs ++ [(.slice xa xn xc, .slice ya yn yc, .slice za zn zc)], _, by go_num, by omega, by rw [List.length_append, HAC.out]; rfl, hc64, HX3.out, HLK.out.next HG.out hClt hRlt hne (by omega) (by omega) (by omega) H1.out HC1.out HST.out ((keep V1 _).alloc (by simp) _) HGR4.out HFR4.out HOW4.out⟩
                    case measure => simp [intOf]; omega
                  · have HX3 : Hid (x = (c1, .error cc)) := HXX.out
                    have HC1 : Hid (Blk V1 C #[.int .i64 (c1 : Nat)] 3) := hC1
                    have he1 : (cc != 0) = true := by simpa using hern
                    have HER : Hid (cc ≠ 0) := hern
                    obtain ⟨g0, g1, g2⟩ := cells3 hG1
                    have f0 := free3 hG1 0
                    have f1 := free3 hG1 1
                    have f2 := free3 hG1 2
                    clear hC1 hpp HXX hG1 hP1 h1
                    go_wp2
                    (try simp only [Exit.inBlock, Exit.then])
                    rw [← hgg]
                    refine rd_ret (W := V1) (x := x) (a := .slice none 0 0) (b := .slice none 0 0) (d := .slice none 0 0) (c := cc) (vf := .slice none 0 0) (vb := .slice none 0 0) (vp := .slice none 0 0) ?_ HT1.out ?_ (by omega) (.inr ⟨cc, by rw [HX3.out], rfl, HER.out, rfl, rfl, rfl⟩) (keep _ _) rfl rfl rfl
                    · rw [hgg]; exact HG1.out
                    · rw [HX3.out]; exact HC1.out
                · obtain rfl : k = ts.length := by omega
                  have HX3 : Hid (x = (ct1, .ok ⟨fs, [], acc⟩)) := by
                    unfold Hid
                    rw [HXE2.out, List.drop_of_length_le (Nat.le_refl _)]
                    rfl
                  obtain ⟨g0, g1, g2⟩ := cells3 k3
                  have f0 := free3 k3 0
                  have f1 := free3 k3 1
                  have f2 := free3 k3 2
                  obtain ⟨p0, p1, p2⟩ := cells3 k5
                  have HK1 : Hid (Tg (fun b => b = C) w wr) := k1
                  have HK2 : Hid (Blk wr C #[.int .i64 (ct1 : Nat)] 3) := k2
                  have HK3 : Hid (Blk wr G #[.slice none 0 0, .slice none 0 0, .slice none 0 0] 28) := k3
                  have h58 := HB58.out
                  clear k1 k2 k3 k4 k5 k6 k7 k8 k9 k10 k11 hd8
                  go_wp2
                  (try simp only [Exit.inBlock, Exit.then])
                  rw [← hgg]
                  refine rd_ret (W := wr) (x := x) (a := .slice none 0 0) (b := .slice none 0 0) (d := .slice none 0 0) (c := 0) (vf := .slice fa fs.length fc) (vb := .slice none 0 0) (vp := .slice pa pn pc) ?_ HK1.out ?_ (by omega) (.inl ⟨⟨fs, [], acc⟩, by rw [HX3.out], rfl, by rw [HX3.out]; exact hct1, HLK.out.whole HG.out (by omega) (by omega) (by omega) (by unfold maxLen; omega)⟩) (Below.refl _ _) rfl rfl rfl
                  · rw [hgg]; exact HK3.out
                  · rw [HX3.out]; exact HK2.out
        · rw [decide_eq_false hty] at hmp
          have hmp2 : ¬ ty.toList = [109, 117, 108, 116, 105, 112, 97, 114, 116] := by rw [← mp_list]; simpa using hmp
          have hmp3 : (ty.toList == [109, 117, 108, 116, 105, 112, 97, 114, 116]) = false := by rw [← mp_list]; exact hmp
          have HV : Hid (x = (ct + 1, .ok ⟨fs, l.drop nm, []⟩)) := by
            unfold Hid
            rw [← HXE.out, prH, if_neg (by omega), if_neg (by rw [HOC.out]; simp), HFS.out, HKD.out]
            simp only
            rw [if_neg (show ¬ (knOf ty sub ks).1 = mpZ from hty), HON.out, Int.toNat_natCast]
          have hcl := clone_any (dropA a c nm) (n - nm) (c - nm) (l.drop nm) (w5.alloc (.cells #[.string ty, .string sub, .slice ka kn kc] 39)) (by rw [List.length_drop, HL.out]) (row_below (row_drop HRW5.out (by rw [HL.out]; exact hcap)) (keep _ _)) (by omega)
          unfold dropA at hcl
          obtain ⟨a', ha'⟩ : ∃ a', (if c = nm then a else Option.map (fun x => x.add nm) a) = a' := ⟨_, rfl⟩
          have ha2 : (if nm = c then a else Option.map (fun x => x.add nm) a) = a' := by rw [← ha']; by_cases h : c = nm <;> simp [h, eq_comm]
          rw [ha'] at hcl
          have hnc : nm ≤ c := by omega
          have hnn : nm ≤ n := by omega
          clear hty hmp
          go_wp2_with fail
          refine hcl.mono ?_
          rintro e w7 ⟨v, rfl, ho7, hb7⟩
          clear hcl ha' ha2 p0 p1 p2 q1 g0 g1 g2 f0 f1 f2
          have hb57 : Below w5.heap.size w5 w7 := (keep w5 _).trans (hb7.mono (by simp))
          have hP7 := HP5.out.below hb57 HP5.out.lt
          have hG7 := HG5.out.below hb57 HG5.out.lt
          have HP7 : Hid (Blk w7 (Z + 1) #[.slice fa fs.length fc, .slice none 0 0, .slice none 0 0] 28) := hP7
          have HG7 : Hid (Blk w7 G #[.slice none 0 0, .slice none 0 0, .slice none 0 0] 28) := hG7
          have HC7 : Hid (Blk w7 C #[.int .i64 ((ct + 1 : Nat) : Int)] 3) := HC5.out.below hb57 HC5.out.lt
          have HT7 : Hid (Tg (fun b => b = C) w w7) := HT5.out.trans (.of_below hb57)
          have HO7 : Hid (Own w7 (w5.heap.size + 1) v (l.drop nm)) := by unfold Hid; rw [World.size_alloc] at ho7; exact ho7
          have HSF7 : Hid (Stay (fun b => b ≤ G ∨ Z ≤ b) w7 (fun W => FAt W (.slice fa fs.length fc) fs)) := HSF.out.go (.of_below (O := fun _ => False) hb57) (fun _ _ q => q.elim) (fun _ _ q => q)
          obtain ⟨p0, p1, p2⟩ := cells3 hP7
          obtain ⟨g0, g1, g2⟩ := cells3 hG7
          have q1 := free3 hP7 1
          have f0 := free3 hG7 0
          have f1 := free3 hG7 1
          have f2 := free3 hG7 2
          have hv1 : v.oneCell' = true := by obtain ⟨_, _, rfl, _⟩ := own_row' HO7.out; rfl
          obtain ⟨va, vn, vc, rfl⟩ : ∃ va vn vc, v = .slice va vn vc := by obtain ⟨a1, c1, h1, _⟩ := own_row' HO7.out; exact ⟨a1, _, c1, h1⟩
          have hne1 : G ≠ Z + 1 := by omega
          clear ho7 hb7 hP7 hG7
          go_wp2
          rw [← hgg]
          refine rd_ret (W := w7.setCell ⟨Z + 1, 1, none⟩ (.slice va vn vc)) (x := x) (a := .slice none 0 0) (b := .slice none 0 0) (d := .slice none 0 0) (c := 0) (vf := .slice fa fs.length fc) (vb := .slice va vn vc) (vp := .slice none 0 0) ?_ ?_ ?_ (by omega) (.inl ⟨⟨fs, l.drop nm, []⟩, by rw [HV.out], rfl, by rw [HV.out]; exact hct2, ?_⟩) (Below.refl _ _) rfl rfl rfl
          · rw [hgg]; exact HG7.out.other (by omega) _
          · exact HT7.out.two (Tg.set (O := fun b => b = Z + 1) _ (Z + 1) 1 _ rfl) (fun _ _ q => q) (fun b hb q => by omega)
          · rw [HV.out]; exact HC7.out.other (by omega) _
          · have hts : Tg (fun b => b = Z + 1) w7 (w7.setCell ⟨Z + 1, 1, none⟩ (.slice va vn vc)) := Tg.set (O := fun b => b = Z + 1) _ (Z + 1) 1 _ rfl
            have h1 : Stay (fun b => b ≤ w.heap.size) (w7.setCell ⟨Z + 1, 1, none⟩ (.slice va vn vc)) (fun W => FAt W (.slice fa fs.length fc) fs) := HSF7.out.go hts (fun b _ q => by omega) (fun b _ q => by omega)
            have h2 : Stay (fun b => b ≤ Z + 1) w7 (fun W => BAt W (.slice va vn vc) (l.drop nm)) := stay_bat HO7.out (HBY.out.drop _) (by rw [List.length_drop, HL.out]; unfold maxLen; omega) (fun b h1 h2 q => by omega)
            have h3 : Stay (fun b => b ≤ w.heap.size) (w7.setCell ⟨Z + 1, 1, none⟩ (.slice va vn vc)) (fun W => BAt W (.slice va vn vc) (l.drop nm)) := h2.go hts (fun b _ q => by omega) (fun b _ q => by omega)
            exact fun W hW => ⟨h1 W hW, h3 W hW, by simp, none, 0, rfl, .inl rfl⟩
      · have HV : Hid (x = (ct + 1, .error kcd)) := by
          unfold Hid
          rw [← HXE.out, prH, if_neg (by omega), if_neg (by rw [HOC.out]; simp), HFS.out, hkd, hke]
        have hk1 : (kcd != 0) = true := by simpa using hk0
        have HK0 : Hid (kcd ≠ 0) := hk0
        clear hkd hke
        go_wp2
        rw [← hgg]
        refine rd_ret (x := x) (a := .slice none 0 0) (b := .slice none 0 0) (d := .slice none 0 0) (c := kcd) (vf := .slice none 0 0) (vb := .slice none 0 0) (vp := .slice none 0 0) ?_ HT5.out ?_ (by omega) (.inr ⟨kcd, by rw [HV.out], rfl, HK0.out, rfl, rfl, rfl⟩) (keep _ _) rfl rfl rfl
        · rw [hgg]; exact HG5.out
        · rw [HV.out]; exact HC5.out
    · have HV : Hid (x = (ct + 1, .error 50)) := by
        unfold Hid; rw [← HXE.out, prH, if_neg (by omega), if_pos (by rw [HOC.out]; exact hc0)]
      have hc1 : (oc != 0) = true := by simpa using hc0
      rw [← hZ] at hz2
      clear hZ
      have hzz : G < w2.heap.size := by omega
      go_wp2
      have hgg : w.heap.size = G := HG.out
      rw [← hgg]
      refine rd_ret (x := x) (a := .slice none 0 0) (b := .slice none 0 0) (d := .slice none 0 0) (c := 50) (vf := .slice none 0 0) (vb := .slice none 0 0) (vp := .slice none 0 0) ?_ HT2.out ?_ (by omega) (.inr ⟨50, by rw [HV.out], rfl, by decide, rfl, rfl, rfl⟩) (keep _ _) rfl rfl rfl
      · rw [hgg]; exact HG2.out
      · rw [HV.out]; exact HC2.out
end Go.Proofs.YtmdkmedlncfcbaaGreatDoor
