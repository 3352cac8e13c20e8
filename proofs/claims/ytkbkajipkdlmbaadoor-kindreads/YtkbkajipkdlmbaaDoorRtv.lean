/-
  The reference's value.
-/
import Derived.Test.YtkbkajipkdlmbaaDoorRtx
import Derived.Test.YtkbkajipkdlmbaaDoorRwrite
namespace Go.Proofs.YtkbkajipkdlmbaaDoor
open Go.RowKit
set_option linter.unusedVariables false

theorem drop_eq {s : ByteArray} {m n : Nat} (hm : m ≤ s.size) (hn : n ≤ s.size) (h : (nums s).drop m = (nums s).drop n) : m = n := by
  have := congrArg List.length h
  rw [List.length_drop, List.length_drop, nums_len] at this
  omega
set_option maxHeartbeats 8000000 in
set_option maxRecDepth 100000 in
theorem tvalue_any (g : Nat) (s : ByteArray) (k : Nat) (w : World) (h : Ts w g s k) (hk : k ≤ s.size) (hs : s.size ≤ 1000000) :
    Calls Tryd.prog 30 #[.pointer (some ⟨g, 0, none⟩)] w fun e w' => ∃ v m b, e = .returned (.tuple #[.string v, .bool b]) ∧ m ≤ s.size ∧ Ts w' g s m ∧ Kx g w w' ∧ v.size ≤ s.size ∧ Ans b (valueR ((nums s).drop k)) (nums v) ((nums s).drop m) := by
  have hgw := h.lt
  have hcall := tis_any g 34 s k w h hk hs
  go_enter Tryd.func30, Tryd.ntmps30
  go_wp2_with fail
  refine hcall.mono ?_
  clear hcall h
  rintro e w1 ⟨rfl, k1, hk1, ht1, hd1, hx1⟩
  have HT1 : Hid (Ts w1 g s k1) := ht1
  have HK1 : Hid (Kx g w w1) := hx1
  have HD1 : Hid ((nums s).drop k1 = signR 34 ((nums s).drop k)) := hd1
  have hg1 := ht1.lt
  clear ht1 hd1 hx1
  cases hb : signB 34 ((nums s).drop k) with
  | false =>
    have HE : Hid ((nums s).drop k1 = (nums s).drop k) := by unfold Hid; rw [HD1.out, signR, if_neg (by rw [hb]; simp)]
    have HV : Hid (valueR ((nums s).drop k) = if tokenZ (((nums s).drop k).takeWhile tokC) = true then some (((nums s).drop k).takeWhile tokC, ((nums s).drop k).dropWhile tokC) else none) := by
      unfold Hid valueR; rw [if_neg (by rw [hb]; simp)]
    have hcall := ttoken_any g s k1 w1 HT1.out hk1 hs
    rw [HE.out] at hcall
    go_wp2_with fail
    refine hcall.mono ?_
    clear hcall
    rintro e w2 ⟨x, m, rfl, hx, hm, ht2, hd2, hx2⟩
    have hxs : x.size ≤ s.size := by
      rw [← nums_len, hx]; have := takeWhile_le tokC ((nums s).drop k); rw [List.length_drop, nums_len] at this; omega
    have HX : Hid (nums x = ((nums s).drop k).takeWhile tokC) := hx
    have HT2 : Hid (Ts w2 g s m) := ht2
    have HD2 : Hid ((nums s).drop m = ((nums s).drop k).dropWhile tokC) := hd2
    have HK2 : Hid (Kx g w w2) := HK1.out.trans hx2
    have hg2 := ht2.lt
    clear hx ht2 hd2 hx2
    go_wp2_with (go_at_call 23; refine (rtoken_any x _ (by omega)).mono ?_; rintro e w3 ⟨rfl, hb3⟩)
    go_ret2
    refine ⟨x, m, _, rfl, hm, HT2.out.below hb3, HK2.out.trans (Kx.of hb3 hg2), hxs, ?_, ?_⟩
    · intro ht; rw [HX.out] at ht; rw [HV.out, if_pos ht, HX.out, HD2.out]
    · intro ht; rw [HX.out] at ht; rw [HV.out, if_neg (by rw [ht]; simp)]
  | true =>
    have HV : Hid (valueR ((nums s).drop k) = quotR ((nums s).drop k1)) := by unfold Hid valueR; rw [if_pos hb, HD1.out]
    go_wp2
    go_loopw [5] (fun v wr => ∃ (o : ByteArray) (m : Nat), v = .string o ∧ m ≤ s.size ∧ Ts wr g s m ∧ Kx g w wr ∧ o.size ≤ m ∧ quotR ((nums s).drop k1) = preO (nums o) (quotR ((nums s).drop m))) (fun _ wr => s.size - placeOf wr g)
    case atStart => exact ⟨_, k1, rfl, hk1, HT1.out, HK1.out, Nat.zero_le _, (preO_nil _).symm⟩
    case round =>
      obtain ⟨o, m, rfl, hm, ht, hkx, hom, hq⟩ := hrel
      have HTM : Hid (Ts wr g s m) := ht
      have HK : Hid (Kx g w wr) := hkx
      have HQ : Hid (quotR ((nums s).drop k1) = preO (nums o) (quotR ((nums s).drop m))) := hq
      have HP : Hid (placeOf wr g = m) := placeOf_of ht
      have x0 := ht.c0
      have x1 := ht.c1
      clear ht hkx hq
      by_cases hlt : m < s.size
      · have hd : decide ((m : Int) < (s.size : Int)) = true := by simp; omega
        have HD : Hid ((nums s).drop m = (s[m].toNat : Int) :: (nums s).drop (m + 1)) := nums_drop s m hlt
        obtain ⟨c, hcc⟩ : ∃ c : Int, ((s[m]'hlt).toNat : Int) = c := ⟨_, rfl⟩
        rw [hcc] at HD
        have HN : Hid ((nums s)[m]? = some c) := by rw [← hcc]; exact nums_at s m hlt
        clear hcc
        have hcall := fun q => tis_any g 34 s m (wr.drewN q) HTM.out hm hs
        by_cases h34 : c = 34
        · subst h34
          have HE : Hid (quotR ((nums s).drop k1) = some (nums o, (nums s).drop (m + 1))) := by
            unfold Hid; rw [HQ.out, HD.out, quot_34]; simp [preO]
          have hsb : signB 34 ((nums s).drop m) = true := by rw [HD.out]; simp [signB]
          have HR : Hid (signR 34 ((nums s).drop m) = (nums s).drop (m + 1)) := by unfold Hid signR; rw [if_pos hsb, HD.out]; rfl
          rw [hsb] at hcall
          go_wp2
          go_quiet (fail)
          go_wp2_with (go_at_call 29; refine (hcall _).mono ?_; rintro e w2 ⟨rfl, m2, hm2, ht2, hd2, hx2⟩)
          go_ret2
          exact ⟨o, m2, true, rfl, hm2, ht2, (HK.out.drew _).trans hx2, by omega, ans_t (by rw [HV.out, HE.out, hd2, HR.out])⟩
        · have hsb : signB 34 ((nums s).drop m) = false := by rw [HD.out]; simp [signB, h34]
          have HR : Hid (signR 34 ((nums s).drop m) = (nums s).drop m) := by unfold Hid signR; rw [if_neg (by rw [hsb]; simp)]
          rw [hsb] at hcall
          go_wp2
          go_quiet (fail)
          go_wp2_with fail
          refine (hcall _).mono ?_
          clear hcall x0 x1
          rintro e w2 ⟨rfl, m2, hm2, ht2, hd2, hx2⟩
          obtain rfl := drop_eq hm2 hm (hd2.trans HR.out)
          have HK2 : Hid (Kx g w w2) := (HK.out.drew _).trans hx2
          have hcall := tis_any g 92 s m2 w2 ht2 hm hs
          clear hd2 hx2 ht2 hsb
          by_cases h92 : c = 92
          · subst h92
            have hsb : signB 92 ((nums s).drop m2) = true := by rw [HD.out]; simp [signB]
            have HR2 : Hid (signR 92 ((nums s).drop m2) = (nums s).drop (m2 + 1)) := by unfold Hid signR; rw [if_pos hsb, HD.out]; rfl
            rw [hsb] at hcall
            go_wp2_with fail
            refine hcall.mono ?_
            clear hcall
            rintro e w3 ⟨rfl, m3, hm3, ht3, hd3, hx3⟩
            obtain rfl := drop_eq hm3 (show m2 + 1 ≤ s.size by omega) (hd3.trans HR2.out)
            have HT3 : Hid (Ts w3 g s (m2 + 1)) := ht3
            have HK3 : Hid (Kx g w w3) := HK2.out.trans hx3
            have HP3 : Hid (placeOf w3 g = m2 + 1) := placeOf_of ht3
            have y0 := ht3.c0
            have y1 := ht3.c1
            have f1 := ht3.frozen 1
            clear ht3 hd3 hx3 hsb
            rw [show ((m2 + 1 : Nat) : Int) = (m2 : Int) + 1 by omega] at y1
            by_cases hl2 : m2 + 1 < s.size
            · have hd2 : decide ((m2 : Int) + 1 < (s.size : Int)) = true := by simp; omega
              have HD2 : Hid ((nums s).drop (m2 + 1) = (s[m2 + 1].toNat : Int) :: (nums s).drop (m2 + 2)) := nums_drop s (m2 + 1) hl2
              have HN2 : Hid ((nums s)[m2 + 1]? = some (s[m2 + 1].toNat : Int)) := nums_at s (m2 + 1) hl2
              obtain ⟨d, hdd⟩ : ∃ d : Int, ((s[m2 + 1]'hl2).toNat : Int) = d := ⟨_, rfl⟩
              rw [hdd] at HD2 HN2
              have HX : Hid (nums (s.extract (m2 + 1) (m2 + 1 + 1)) = [d]) := extract_one s (m2 + 1) d HN2.out
              have hxs : (s.extract (m2 + 1) (m2 + 1 + 1)).size = 1 := by rw [← nums_len, HX.out]; rfl
              have HE : Hid (quotR ((nums s).drop k1) = preO (nums o ++ [d]) (quotR ((nums s).drop (m2 + 2)))) := by
                unfold Hid; rw [HQ.out, HD.out, HD2.out, ← preO_snoc, quot_esc]
              have e1 : ((m2 : Int) + 1).toNat = m2 + 1 := by omega
              have e2 : ((m2 : Int) + 1 + 1).toNat = m2 + 1 + 1 := by omega
              have i0 : (0 : Int) ≤ (m2 : Int) + 1 := by omega
              have i1 : (m2 : Int) + 1 + 1 ≤ (s.size : Int) := by omega
              have i2 : (m2 : Int) + 1 ≤ (m2 : Int) + 1 + 1 := by omega
              have HE2 : Hid (∀ q, Ts ((w3.drewN q).setCell ⟨g, 1, none⟩ (.int .i64 ((m2 : Int) + 1 + 1))) g s (m2 + 2)) := fun q => by
                have := (show Ts (w3.drewN q) g s (m2 + 1) from HT3.out).set (m2 + 2)
                rw [show ((m2 + 2 : Nat) : Int) = (m2 : Int) + 1 + 1 by omega] at this
                exact this
              clear hdd
              go_wp2
              go_quiet (fail)
              go_wp2
              go_quiet (fail)
              go_wp2
              go_roundw
              case rel => exact ⟨_, m2 + 2, rfl, by omega, HE2.out _, (HK3.out.drew _).trans (Kx.set _ _ _), by simp only [ByteArray.size_append]; omega, by rw [nums_append, HX.out]; exact HE.out⟩
              case measure => rw [placeOf_of (HE2.out _), HP.out]; omega
            · have hd2 : decide ((m2 : Int) + 1 < (s.size : Int)) = false := by simp; omega
              have HE : Hid (quotR ((nums s).drop k1) = preO (nums o) (quotR ((nums s).drop (m2 + 1)))) := by
                unfold Hid; rw [HQ.out, HD.out, List.drop_of_length_le (i := m2 + 1) (by rw [nums_len]; omega), quot_end]; rfl
              go_wp2
              go_quiet (fail)
              go_wp2
              go_roundw
              case rel => exact ⟨_, m2 + 1, rfl, by omega, HT3.out, HK3.out.drew _, by omega, HE.out⟩
              case measure => rw [show placeOf (w3.drewN _) g = m2 + 1 from HP3.out, HP.out]; omega
          · have hsb : signB 92 ((nums s).drop m2) = false := by rw [HD.out]; simp [signB, h92]
            have HR2 : Hid (signR 92 ((nums s).drop m2) = (nums s).drop m2) := by unfold Hid signR; rw [if_neg (by rw [hsb]; simp)]
            rw [hsb] at hcall
            go_wp2_with fail
            refine hcall.mono ?_
            clear hcall
            rintro e w3 ⟨rfl, m3, hm3, ht3, hd3, hx3⟩
            obtain rfl := drop_eq hm3 hm2 (hd3.trans HR2.out)
            have HT3 : Hid (Ts w3 g s m3) := ht3
            have HK3 : Hid (Kx g w w3) := HK2.out.trans hx3
            have y0 := ht3.c0
            have y1 := ht3.c1
            have f1 := ht3.frozen 1
            clear ht3 hd3 hx3 hsb
            have HX : Hid (nums (s.extract m3 (m3 + 1)) = [c]) := extract_one s m3 c HN.out
            have hxs : (s.extract m3 (m3 + 1)).size = 1 := by rw [← nums_len, HX.out]; rfl
            have HE : Hid (quotR ((nums s).drop k1) = preO (nums o ++ [c]) (quotR ((nums s).drop (m3 + 1)))) := by
              unfold Hid; rw [HQ.out, HD.out, ← preO_snoc, quot_oth h34 h92]
            have e1 : ((m3 : Int) + 1).toNat = m3 + 1 := by omega
            have i0 : (0 : Int) ≤ (m3 : Int) := by omega
            have i1 : (m3 : Int) + 1 ≤ (s.size : Int) := by omega
            have i2 : (m3 : Int) ≤ (m3 : Int) + 1 := by omega
            have HE2 : Hid (∀ q, Ts ((w3.drewN q).setCell ⟨g, 1, none⟩ (.int .i64 ((m3 : Int) + 1))) g s (m3 + 1)) := fun q => by
              have := (show Ts (w3.drewN q) g s m3 from HT3.out).set (m3 + 1)
              rw [show ((m3 + 1 : Nat) : Int) = (m3 : Int) + 1 by omega] at this
              exact this
            go_wp2
            go_quiet (fail)
            go_wp2
            go_quiet (fail)
            go_wp2
            go_roundw
            case rel => exact ⟨_, m3 + 1, rfl, by omega, HE2.out _, (HK3.out.drew _).trans (Kx.set _ _ _), by simp only [ByteArray.size_append]; omega, by rw [nums_append, HX.out]; exact HE.out⟩
            case measure => rw [placeOf_of (HE2.out _), HP.out]; omega
      · have hd : decide ((m : Int) < (s.size : Int)) = false := by simp; omega
        have HE : Hid (quotR ((nums s).drop k1) = none) := by
          unfold Hid; rw [HQ.out, List.drop_of_length_le (by rw [nums_len]; omega)]; rfl
        go_wp2
        go_quiet (fail)
        go_wp2
        go_ret2
        exact ⟨_, m, false, rfl, hm, HTM.out, HK.out.drew _, Nat.zero_le _, ans_f (by rw [HV.out, HE.out])⟩
end Go.Proofs.YtkbkajipkdlmbaaDoor
