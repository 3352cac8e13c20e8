/-
  DotsCuts: whatever the bytes, how many may be, and where they are cut: a reader tells and has the same as one that is handed them at once.
  No condition.
-/
import Derived.Test.YtlpbgfepneoajaaRows
import Derived.Test.YtlpbgfepneoajaaAlive
import Derived.Deep.RegionHeld
import Derived.WalkKit
import Derived.ProofKit
import Derived.OpenShut
import Derived.ShutString
import Derived.ChangeOld
import Derived.Below
import Derived.HandedShaped
namespace Go.Proofs.Ytlpbgfepneoajaa.dotsCuts
open Go.ChangeShapes Go.WideShapes Go.ChangeAt Go.RowKit
open Go.ChangeMaps (open_string shut_string)
set_option linter.unusedVariables false


theorem cuts_math (s : RS) (hs : s.over = false) : ∀ (l m : List Int), (runZ s l).1.over = false → runZ s (l ++ m) = ((runZ (runZ s l).1 m).1, (runZ s l).2 + (runZ (runZ s l).1 m).2)
  | [], m, _ => by simp [runZ]
  | c :: l, m, h => by
    unfold runZ at h
    have ht : ¬ (takeZ s c).over = true := by
      intro q; rw [if_pos q] at h; simp only at h; rw [q] at h; cases h
    rw [if_neg ht] at h
    have ih := cuts_math (takeZ s c) (by simpa using ht) l m h
    simp only [List.cons_append, runZ, if_neg ht]
    rw [ih]
    simp only [Prod.mk.injEq, true_and]
    omega
theorem cuts_over (s : RS) : ∀ (l m : List Int), (runZ s l).1.over = true → l ≠ [] → runZ s (l ++ m) = runZ s l
  | [], m, _, h => absurd rfl h
  | c :: l, m, h, _ => by
    unfold runZ at h
    by_cases ht : (takeZ s c).over = true
    · simp only [List.cons_append, runZ, if_pos ht]
    · rw [if_neg ht] at h
      simp only [List.cons_append, runZ, if_neg ht]
      by_cases hl : l = []
      · subst hl; simp only [runZ] at h; exact absurd h ht
      · rw [cuts_over (takeZ s c) l m h hl]

theorem rd_below {w w' : World} {B g : Nat} {s : RS} (h : Rd w B g s) (hb : Below w.heap.size w w') : Rd w' B g s := by
  obtain ⟨h1, h2, v, h3, h4⟩ := h
  exact ⟨h1, Nat.le_trans h2 hb.size, v, (hb.block g (by omega)).trans h3, own_keep h4 hb⟩
/-- Another reader's work leaves a reader as it is. -/
theorem rd_other {w w' : World} {B g g2 : Nat} {s : RS} (h : Rd w B g s) (hb : Bx w.heap.size g2 w w') (hne : g ≠ g2) (h2B : g2 < B) : Rd w' B g s := by
  obtain ⟨h1, h2, v, h3, h4⟩ := h
  have same : ∀ k, k < w.heap.size → k ≠ g2 → w'.heap[k]? = w.heap[k]? := fun k hk hkn => by
    rcases Nat.lt_or_ge k g2 with h | h
    · exact hb.1.block k h
    · exact hb.2 k (by omega) hk
  refine ⟨h1, Nat.le_trans h2 hb.1.size, v, (same g (by omega) hne).trans h3, h4.1, ?_⟩
  rcases h4.2 with h | ⟨k, cap, cur, e1, e2, e3, e4⟩
  · exact .inl h
  · exact .inr ⟨k, cap, cur, e1, e2, (same k (Array.getElem?_eq_some_iff.1 e3).1 (by omega)).trans e3, e4⟩

set_option maxRecDepth 100000 in
set_option maxHeartbeats 4000000 in
/-- What stands at the end: both readers tell the same. -/
theorem walk (a0 : Int) (a1 : Option Addr) (len1 cap1 : Nat) (z1 : List Int) (a2 : Int) (w : World) (w0 : (Lit.int .i64 a0).wf = true) (w1 : IsRow .u8 w a1 len1 cap1 z1) (w2 : (Lit.int .i64 a2).wf = true) (hm : Mx w) :
    Calls Try.prog 7 #[.int .i64 a0, .slice a1 len1 cap1, .int .i64 a2] w fun e w' => e = .returned (.bool true) ∧ Below w.heap.size w w' := by
  obtain ⟨l, hl, hcap, hmax, hbyt, hrow⟩ := byte_view w1
  clear w1 w0 w2
  have HM : Hid (Mx w) := hm
  clear hm
  by_cases h1 : 4000 < len1
  · have hd : decide ((len1 : Int) > 4000) = true := by simp; omega
    go_enter Try.func7, Try.ntmps7
    go_wp2_with (go_at_call 8; refine (alive_any _ HM.out).mono ?_; rintro e w' ⟨rfl, hb1⟩)
    go_ret
    exact ⟨rfl, by assumption⟩
  have hd1 : decide ((len1 : Int) > 4000) = false := by simp; omega
  by_cases h2 : a2 < 0
  · have hd : decide (a2 < 0) = true := by simpa using h2
    go_enter Try.func7, Try.ntmps7
    go_wp2_with (go_at_call 8; refine (alive_any _ HM.out).mono ?_; rintro e w' ⟨rfl, hb1⟩)
    go_ret
    exact ⟨rfl, by assumption⟩
  have hd2 : decide (a2 < 0) = false := by simpa using h2
  by_cases h3 : (len1 : Int) < a2
  · have hd : decide (a2 > (len1 : Int)) = true := by simpa using h3
    go_enter Try.func7, Try.ntmps7
    go_wp2_with (go_at_call 8; refine (alive_any _ HM.out).mono ?_; rintro e w' ⟨rfl, hb1⟩)
    go_ret
    exact ⟨rfl, by assumption⟩
  obtain ⟨cut, rfl⟩ : ∃ cut : Nat, a2 = cut := ⟨a2.toNat, by omega⟩
  have hd3 : decide ((cut : Int) > (len1 : Int)) = false := by simp; omega
  have hcut : cut ≤ len1 := by omega
  have h1' : len1 ≤ 4000 := by omega
  clear h1 h2 h3
  unfold maxLen at hmax
  have HROW : Hid (Row w a1 l) := hrow
  have HL : Hid (l.length = len1) := hl
  clear hrow hl
  go_enter Try.func7, Try.ntmps7
  go_wp2_with (go_at_call 17; refine (new_any _ _).mono ?_; rintro e w' ⟨rfl, rfl⟩)
  have hrd1 := rd_new w a0 (.cells (cellsR (.slice none 0 0) (new0 a0)) 33)
  have hrd2 : ((w.alloc (.cells (cellsR (.slice none 0 0) (new0 a0)) 33)).alloc (.cells (cellsR (.slice none 0 0) (new0 a0)) 33)).heap[w.heap.size + 1]? = some (.cells (cellsR (.slice none 0 0) (new0 a0)) 33 (0, 0)) := by
    have := heap_alloc_new (w.alloc (.cells (cellsR (.slice none 0 0) (new0 a0)) 33)) (.cells (cellsR (.slice none 0 0) (new0 a0)) 33)
    simp only [World.size_alloc] at this
    exact this
  have hB2 : Below w.heap.size w ((w.alloc (.cells (cellsR (.slice none 0 0) (new0 a0)) 33)).alloc (.cells (cellsR (.slice none 0 0) (new0 a0)) 33)) := (keep w _).trans ((keep _ _).mono (by simp))
  generalize (w.alloc (.cells (cellsR (.slice none 0 0) (new0 a0)) 33)).alloc (.cells (cellsR (.slice none 0 0) (new0 a0)) 33) = W2 at *
  have HRD2 : Hid (W2.heap[w.heap.size + 1]? = some (.cells (cellsR (.slice none 0 0) (new0 a0)) 33 (0, 0))) := hrd2
  have HB2 : Hid (Below w.heap.size w W2) := hB2
  clear hrd2 hB2
  refine (put_any (w.heap.size + 1 + 1) w.heap.size (new0 a0) W2 hrd1 rfl 0 (fit_new a0) a1 len1 cap1 l HL.out (fun w' hb => row_below HROW.out (HB2.out.trans (hb.below (Nat.le_refl _)))) (by omega)).mono ?_
  clear hrd1
  rintro e w3 ⟨rfl, hrd3, hbx3⟩
  have hfit3 := fit_run l (fit_new a0)
  rw [HL.out, Nat.zero_add] at hfit3
  obtain ⟨⟨rs, rn⟩, hr⟩ : ∃ r, runZ (new0 a0) l = r := ⟨_, rfl⟩
  have hrn : rn ≤ len1 := by have := run_len l (new0 a0); rw [hr, HL.out] at this; exact this
  rw [hr] at hrd3 hfit3 ⊢
  simp only [putV]
  have RD1 : Hid (Rd w3 (w.heap.size + 1 + 1) w.heap.size rs) := hrd3
  have FT1 : Hid (Fit rs len1) := hfit3
  have HR : Hid (runZ (new0 a0) l = (rs, rn)) := hr
  have HB3 : Hid (Below w.heap.size w w3) := HB2.out.trans hbx3.1
  have HRD3 : Hid (Rd w3 w3.heap.size (w.heap.size + 1) (new0 a0)) := ⟨by have := hrd3.2.1; omega, Nat.le_refl _, .slice none 0 0, (hbx3.2 (w.heap.size + 1) (by omega) (by omega)).trans HRD2.out, World.ownsRow_nil _ _ _ _⟩
  clear hrd3 hfit3 hr hbx3
  obtain ⟨re, hre⟩ : ∃ re, (if rs.over = true then faultZ rs else 0) = re := ⟨_, rfl⟩
  rw [hre]
  obtain ⟨ro, hro⟩ : ∃ ro, rs.over = ro := ⟨_, rfl⟩
  rw [hro]
  have HRO : Hid (rs.over = ro ∧ (if rs.over = true then faultZ rs else 0) = re) := ⟨hro, hre⟩
  clear hro hre
  obtain ⟨tx, htx⟩ : ∃ tx, textZ rs = tx := ⟨_, rfl⟩
  obtain ⟨tl, htl⟩ : ∃ tl, tx.length = tl := ⟨_, rfl⟩
  have HTX1 : Hid (textZ rs = tx) := htx
  have HTL : Hid (tx.length = tl) := htl
  clear htx htl
  go_wp2_with fail
  refine (put_any w3.heap.size (w.heap.size + 1) (new0 a0) w3 HRD3.out rfl 0 (fit_new a0) a1 cut cap1 (l.take cut) (by simp [HL.out]; omega) (fun w' hb => row_take cut (row_below HROW.out (HB3.out.trans (hb.below (by omega))))) (by omega)).mono ?_
  rintro e w4 ⟨rfl, hrd4, hbx4⟩
  have hfit4 := fit_run (l.take cut) (fit_new a0)
  rw [List.length_take, HL.out, Nat.zero_add] at hfit4
  obtain ⟨⟨ps, pn⟩, hp⟩ : ∃ r, runZ (new0 a0) (l.take cut) = r := ⟨_, rfl⟩
  have hpn : pn ≤ cut := by have := run_len (l.take cut) (new0 a0); rw [hp] at this; simp [HL.out] at this; omega
  rw [hp] at hrd4 hfit4 ⊢
  simp only [putV]
  have RD4 : Hid (Rd w4 (w.heap.size + 1 + 1) w.heap.size rs) := rd_other RD1.out hbx4 (by omega) (by omega)
  have RDP : Hid (Rd w4 w3.heap.size (w.heap.size + 1) ps) := hrd4
  have FTP : Hid (Fit ps cut) := hfit4.mono (by omega)
  have HP : Hid (runZ (new0 a0) (l.take cut) = (ps, pn)) := hp
  have HB4 : Hid (Below w.heap.size w w4) := HB3.out.trans (hbx4.below (by omega))
  have RD3 : Hid (Rd w3 (w.heap.size + 1 + 1) w.heap.size rs) := RD1
  have BX34 : Hid (Bx w3.heap.size (w.heap.size + 1) w3 w4) := hbx4
  clear hrd4 hfit4 hp hbx4 RD1
  obtain ⟨pe, hpe⟩ : ∃ pe, (if ps.over = true then faultZ ps else 0) = pe := ⟨_, rfl⟩
  rw [hpe]
  obtain ⟨po, hpo⟩ : ∃ po, ps.over = po := ⟨_, rfl⟩
  rw [hpo]
  have HPO : Hid (ps.over = po ∧ (if ps.over = true then faultZ ps else 0) = pe) := ⟨hpo, hpe⟩
  clear hpo hpe
  cases po with
  | true =>
    have hne : l.take cut ≠ [] := by
      intro h
      have h1 := HP.out
      rw [h] at h1
      simp only [runZ, Prod.mk.injEq] at h1
      have h2 := HPO.out.1
      rw [← h1.1] at h2
      simp [new0] at h2
    have heq : (rs, rn) = (ps, pn) := by
      have h1 := cuts_over (new0 a0) (l.take cut) (l.drop cut) (by rw [HP.out]; exact HPO.out.1) hne
      rw [List.take_append_drop, HR.out, HP.out] at h1
      exact h1
    obtain ⟨rfl, rfl⟩ : rs = ps ∧ rn = pn := by simpa using heq
    obtain rfl : ro = true := HRO.out.1.symm.trans HPO.out.1
    obtain rfl : re = pe := HRO.out.2.symm.trans HPO.out.2
    clear heq hne
    have RD1 := RD4
    have RD2 := RDP
    have HBW := HB4
    have HT1 : Hid (∀ X, Below w4.heap.size w4 X → Calls Try.prog 15 #[.pointer (some ⟨w.heap.size, 0, none⟩)] X fun e w' => ∃ a c, e = .returned (.slice a tl c) ∧ Row w' a tx ∧ Below X.heap.size X w') := by
      intro X hX
      have h := text_any _ _ rs X (rd_below RD1.out hX) len1 FT1.out (by omega)
      rw [HTX1.out, HTL.out] at h
      exact h
    have HT2 : Hid (∀ X, Below w4.heap.size w4 X → Calls Try.prog 15 #[.pointer (some ⟨w.heap.size + 1, 0, none⟩)] X fun e w' => ∃ a c, e = .returned (.slice a tl c) ∧ Row w' a tx ∧ Below X.heap.size X w') := by
      intro X hX
      have h := text_any _ _ rs X (rd_below RD2.out hX) len1 FT1.out (by omega)
      rw [HTX1.out, HTL.out] at h
      exact h
    have HA : Hid (∀ X, Below w4.heap.size w4 X → Calls Try.prog 8 #[] X fun e w' => e = .returned (.bool true) ∧ Below X.heap.size X w') := fun X hX => alive_any X ((HM.out.keep HBW.out).keep hX)
    go_wp2_with fail
    clear FTP HPO HRO HR HP HROW HL hcut hpn hrn hd1 hd2 hd3 hcap hmax hbyt h1' FT1 RD4 RDP HB4 HB3 HRD2 HRD3 HB2 RD1 RD2 HTX1
    go_region_held (fun _ => True) (trivial) (first
      | (go_at_call 8; refine (HA.out _ ?_).mono ?_; exact (Below.refl _ _).drew; rintro e x6 ⟨rfl, hb60⟩; have hb6 := ((Below.refl w4.heap.size w4).drew).trans (hb60.mono (Nat.le_refl _)); clear HA)
      | (go_at_call 15; refine (HT1.out _ hb6).mono ?_; rintro e x7 ⟨a7, c7, rfl, hr7, hb7⟩; have k7 := conv_row tl c7 HTL.out hr7; have hb67 := hb6.trans (hb7.mono hb6.size); clear HT1)
      | (go_at_call 15; refine (HT2.out _ hb67).mono ?_; rintro e x8 ⟨a8, c8, rfl, hr8, hb8⟩; have k8 := conv_row tl c8 HTL.out hr8; have k78 := conv_row tl c7 HTL.out (row_below hr7 hb8); have hb678 := hb67.trans (hb8.mono hb67.size); clear HT2))
    all_goals go_wp2
    all_goals go_ret
    all_goals exact ⟨rfl, HBW.out.trans (hb678.mono HBW.out.size)⟩
  | false =>
    have hrow5 : ∀ w', Bx w3.heap.size (w.heap.size + 1) w4 w' → Row w' (if cap1 = cut then a1 else Option.map (fun x => x.add cut) a1) (l.drop cut) := fun w' hb => row_drop (row_below HROW.out (HB4.out.trans (hb.below (by omega)))) (by rw [HL.out]; exact hcap)
    have HROW5 : Hid _ := hrow5
    clear hrow5
    have hrun5 : runZ (new0 a0) l = ((runZ ps (l.drop cut)).1, pn + (runZ ps (l.drop cut)).2) := by
      have h1 := cuts_math (new0 a0) rfl (l.take cut) (l.drop cut) (by rw [HP.out]; exact HPO.out.1)
      rw [List.take_append_drop, HP.out] at h1
      exact h1
    have hpnc : pn = cut := by
      have h1 := run_all (l.take cut) (new0 a0) (by rw [HP.out]; exact HPO.out.1)
      rw [HP.out] at h1
      simp [HL.out] at h1
      omega
    rw [HR.out] at hrun5
    obtain ⟨⟨qs, qn⟩, hq⟩ : ∃ r, runZ ps (l.drop cut) = r := ⟨_, rfl⟩
    rw [hq] at hrun5
    obtain ⟨hrq, hrnq⟩ : rs = qs ∧ rn = pn + qn := by simpa using hrun5
    subst hrq
    subst hrnq
    subst pn
    clear hrun5
    have HQ : Hid (runZ ps (l.drop cut) = (rs, qn)) := hq
    clear hq
    have hP5 := fun (a5 : Option Addr) (c5 : Nat) (h5 : ∀ w', Bx w3.heap.size (w.heap.size + 1) w4 w' → Row w' a5 (l.drop cut)) => put_any w3.heap.size (w.heap.size + 1) ps w4 RDP.out HPO.out.1 cut FTP.out a5 (len1 - cut) c5 (l.drop cut) (by rw [List.length_drop, HL.out]) h5 (by omega)
    rw [HQ.out] at hP5
    simp only [putV] at hP5
    rw [HRO.out.2, HRO.out.1] at hP5
    have HP5 : Hid _ := hP5
    clear hP5
    by_cases hcc : cap1 = cut
    · subst hcc
      have h5 := HP5.out a1 0 (fun w' hb => by have := HROW5.out w' hb; rw [if_pos rfl] at this; exact this)
      rw [show len1 - cap1 = 0 from by omega] at h5
      go_wp2_with fail
      refine h5.mono ?_
      clear h5
      rintro e w5 ⟨rfl, hrd5, hbx5⟩
      have RD1 : Hid (Rd w5 (w.heap.size + 1 + 1) w.heap.size rs) := rd_other RD3.out (BX34.out.trans hbx5) (by omega) (by omega)
      have RD2 : Hid (Rd w5 w3.heap.size (w.heap.size + 1) rs) := hrd5
      have HBW : Hid (Below w.heap.size w w5) := HB4.out.trans (hbx5.below (by omega))
      clear hrd5 hbx5
      have HT1 : Hid (∀ X, Below w5.heap.size w5 X → Calls Try.prog 15 #[.pointer (some ⟨w.heap.size, 0, none⟩)] X fun e w' => ∃ a c, e = .returned (.slice a tl c) ∧ Row w' a tx ∧ Below X.heap.size X w') := by
        intro X hX
        have h := text_any _ _ rs X (rd_below RD1.out hX) len1 FT1.out (by omega)
        rw [HTX1.out, HTL.out] at h
        exact h
      have HT2 : Hid (∀ X, Below w5.heap.size w5 X → Calls Try.prog 15 #[.pointer (some ⟨w.heap.size + 1, 0, none⟩)] X fun e w' => ∃ a c, e = .returned (.slice a tl c) ∧ Row w' a tx ∧ Below X.heap.size X w') := by
        intro X hX
        have h := text_any _ _ rs X (rd_below RD2.out hX) len1 FT1.out (by omega)
        rw [HTX1.out, HTL.out] at h
        exact h
      have HA : Hid (∀ X, Below w5.heap.size w5 X → Calls Try.prog 8 #[] X fun e w' => e = .returned (.bool true) ∧ Below X.heap.size X w') := fun X hX => alive_any X ((HM.out.keep HBW.out).keep hX)
      go_wp2_with fail
      clear FTP HPO HRO HR HP HROW HL hpn hd1 hd2 hd3 hmax hbyt FT1 RD4 RDP HB4 HB3 HRD2 HRD3 HB2 RD1 RD2 HTX1 HROW5 HP5 HQ RD3 BX34
      go_region_held (fun _ => True) (trivial) (first
        | (go_at_call 8; refine (HA.out _ ?_).mono ?_; exact (Below.refl _ _).drew; rintro e x6 ⟨rfl, hb60⟩; have hb6 := ((Below.refl w5.heap.size w5).drew).trans (hb60.mono (Nat.le_refl _)); clear HA)
        | (go_at_call 15; refine (HT1.out _ hb6).mono ?_; rintro e x7 ⟨a7, c7, rfl, hr7, hb7⟩; have k7 := conv_row tl c7 HTL.out hr7; have hb67 := hb6.trans (hb7.mono hb6.size); clear HT1)
        | (go_at_call 15; refine (HT2.out _ hb67).mono ?_; rintro e x8 ⟨a8, c8, rfl, hr8, hb8⟩; have k8 := conv_row tl c8 HTL.out hr8; have k78 := conv_row tl c7 HTL.out (row_below hr7 hb8); have hb678 := hb67.trans (hb8.mono hb67.size); clear HT2))
      all_goals go_wp2
      all_goals go_ret
      all_goals exact ⟨rfl, HBW.out.trans (hb678.mono HBW.out.size)⟩
    · have h5 := HP5.out (Option.map (fun x => x.add cut) a1) (cap1 - cut) (fun w' hb => by have := HROW5.out w' hb; rw [if_neg hcc] at this; exact this)
      go_wp2_with fail
      refine h5.mono ?_
      clear h5
      rintro e w5 ⟨rfl, hrd5, hbx5⟩
      have RD1 : Hid (Rd w5 (w.heap.size + 1 + 1) w.heap.size rs) := rd_other RD3.out (BX34.out.trans hbx5) (by omega) (by omega)
      have RD2 : Hid (Rd w5 w3.heap.size (w.heap.size + 1) rs) := hrd5
      have HBW : Hid (Below w.heap.size w w5) := HB4.out.trans (hbx5.below (by omega))
      clear hrd5 hbx5
      have HT1 : Hid (∀ X, Below w5.heap.size w5 X → Calls Try.prog 15 #[.pointer (some ⟨w.heap.size, 0, none⟩)] X fun e w' => ∃ a c, e = .returned (.slice a tl c) ∧ Row w' a tx ∧ Below X.heap.size X w') := by
        intro X hX
        have h := text_any _ _ rs X (rd_below RD1.out hX) len1 FT1.out (by omega)
        rw [HTX1.out, HTL.out] at h
        exact h
      have HT2 : Hid (∀ X, Below w5.heap.size w5 X → Calls Try.prog 15 #[.pointer (some ⟨w.heap.size + 1, 0, none⟩)] X fun e w' => ∃ a c, e = .returned (.slice a tl c) ∧ Row w' a tx ∧ Below X.heap.size X w') := by
        intro X hX
        have h := text_any _ _ rs X (rd_below RD2.out hX) len1 FT1.out (by omega)
        rw [HTX1.out, HTL.out] at h
        exact h
      have HA : Hid (∀ X, Below w5.heap.size w5 X → Calls Try.prog 8 #[] X fun e w' => e = .returned (.bool true) ∧ Below X.heap.size X w') := fun X hX => alive_any X ((HM.out.keep HBW.out).keep hX)
      go_wp2_with fail
      clear FTP HPO HRO HR HP HROW HL hpn hd1 hd2 hd3 hmax hbyt FT1 RD4 RDP HB4 HB3 HRD2 HRD3 HB2 RD1 RD2 HTX1 HROW5 HP5 HQ RD3 BX34
      go_region_held (fun _ => True) (trivial) (first
        | (go_at_call 8; refine (HA.out _ ?_).mono ?_; exact (Below.refl _ _).drew; rintro e x6 ⟨rfl, hb60⟩; have hb6 := ((Below.refl w5.heap.size w5).drew).trans (hb60.mono (Nat.le_refl _)); clear HA)
        | (go_at_call 15; refine (HT1.out _ hb6).mono ?_; rintro e x7 ⟨a7, c7, rfl, hr7, hb7⟩; have k7 := conv_row tl c7 HTL.out hr7; have hb67 := hb6.trans (hb7.mono hb6.size); clear HT1)
        | (go_at_call 15; refine (HT2.out _ hb67).mono ?_; rintro e x8 ⟨a8, c8, rfl, hr8, hb8⟩; have k8 := conv_row tl c8 HTL.out hr8; have k78 := conv_row tl c7 HTL.out (row_below hr7 hb8); have hb678 := hb67.trans (hb8.mono hb67.size); clear HT2))
      all_goals go_wp2
      all_goals go_ret
      all_goals exact ⟨rfl, HBW.out.trans (hb678.mono HBW.out.size)⟩

set_option maxRecDepth 100000 in
theorem lifted (os : Os) (started : os.Started) (H : Type) (enc : TypeId × Value → H) :
    ReturnsInHanded {} Try.checked os 7 .any (Rows.dotsCutsSpec.pre6 enc Try.prog Try.f7 Rows.dotsCutsRow.domain false) (Rows.dotsCutsSpec.post enc Try.prog Try.f7 false true false false) := by
  refine returnsInHanded_of_change_shaped (C := Try.checked) own started (by kernel_rfl) Try.func7
    (ChangeSpec.witness6 (enc := enc) (C := Try.checked) false ⟨#[], #[.int .i64 0, .slice none 0 0, .int .i64 0], []⟩ 8 (by kernel_rfl) (by kernel_rfl) (by kernel_rfl) (by kernel_rfl)) ?_
  intro W base args ds gs before hval0 hW hcnd _ hsh _
  have hval : ∀ (j : Nat) t v, Try.f7.params[j]? = some t → args[j]? = some v → Value.okWide Try.prog W .any base t v := hval0
  have hW' := hW
  obtain ⟨p, q, hA0, hV, rfl, hfz, hnd⟩ := hW
  have hA : DataW.TrodAll enc Try.prog W 0 (fun _ => true) true Try.f7.params.toList args.toList ds p := hA0
  rw [Try.params7] at hA hval
  obtain ⟨v0, vs0, d0, ds0, p0, q0, hargs, rfl, rfl, h0, r0⟩ := trodAll_cons hA
  obtain ⟨v1, vs1, d1, ds1, p1, q1, rfl, rfl, rfl, h1, r1⟩ := trodAll_cons r0
  obtain ⟨v2, vs2, d2, ds2, p2, q2, rfl, rfl, rfl, h2, r2⟩ := trodAll_cons r1
  obtain ⟨rfl, rfl, rfl⟩ := trodAll_nil r2
  obtain rfl : args = #[v0, v1, v2] := by cases args; simp_all
  obtain ⟨rfl, rfl⟩ := trodVars_none hV
  obtain ⟨a0, rfl, rfl, rfl, w0⟩ := open_int Try.underlying3 (hval 0 3 v0 rfl rfl) h0
  obtain ⟨a1, len1, cap1, rfl⟩ := okWide_slice Try.underlying22 (hval 1 22 v1 rfl rfl)
  have k1 := h1
  have lt1 : ∀ x ∈ p1, x.block < W.heap.size := by obtain ⟨m, hm⟩ := k1; exact DataW.trod_lt m _ _ _ hm
  obtain ⟨z1, w1⟩ : ∃ zs, IsRow .u8 W a1 len1 cap1 zs := by
    obtain ⟨fuel, hf⟩ := h1
    rcases open_ints Try.underlying22 Try.underlying5 (by kernel_rfl) hf with ⟨hcs, _⟩ | ⟨x, l, c, zs, hcs, _, hl, hm, hz, _, hcell, hwz⟩
    · simp [Value.cells] at hcs
      obtain ⟨rfl, rfl, rfl⟩ := hcs
      exact ⟨[], .inl ⟨rfl, rfl, rfl, rfl⟩⟩
    · simp [Value.cells] at hcs
      obtain ⟨rfl, rfl, rfl⟩ := hcs
      exact ⟨zs, .inr ⟨_, rfl, hl, hm, by simpa using hz, hcell, hwz⟩⟩
  obtain ⟨a2, rfl, rfl, rfl, w2⟩ := open_int Try.underlying3 (hval 2 3 v2 rfl rfl) h2
  clear hA0 hval0
  refine (walk a0 a1 len1 cap1 z1 a2 W w0 w1 w2 (laysM185.s1_3 W hsh)).mono fun e W' ⟨he, bel⟩ => ?_
  subst he
  exact ⟨_, rfl, _, _, _, [], _, [], hW', trodAll_mk1 (shut_bool Try.underlying4 _), (trodAll_cons_mk (shut_int Try.underlying3 w0) (trodAll_cons_mk (Below.trod laidOut (by kernel_rfl) (of_decide_eq_true (by kernel_rfl)) k1 bel lt1) (trodAll_cons_mk (shut_int Try.underlying3 w2) trodAll_mk0))), rfl, bel.frame _, fun h => by cases h⟩

theorem over : Rows.dotsCutsRow.holds Try.pinned (OpenSpec.ofChange Rows.dotsCutsSpec) :=
  OpenClaim.holds_of_wide 7 Try.f7 rfl rfl rfl rfl rfl rfl rfl ⟨rfl, rfl, rfl, rfl, rfl⟩ rfl rfl rfl rfl rfl (by kernel_rfl) Try.func7 (by kernel_rfl)
    (of_decide_eq_true (by kernel_rfl)) (by unfold Func.isWrapper; first | (rw [if_pos (by decide +kernel)]; kernel_rfl) | (rw [if_neg (by decide +kernel)]; exact ⟨rfl, rfl⟩))
    (fun os started H enc _ => lifted os started H enc)


end Go.Proofs.Ytlpbgfepneoajaa.dotsCuts
namespace Go.Proofs.Ytlpbgfepneoajaa
theorem dotsCuts_holds : Rows.DotsCutsSaid := dotsCuts.over
#print axioms dotsCuts_holds
end Go.Proofs.Ytlpbgfepneoajaa
