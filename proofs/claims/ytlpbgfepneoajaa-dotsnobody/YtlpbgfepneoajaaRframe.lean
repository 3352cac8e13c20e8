/-
  The reference's Frame, where no text is taken.
-/
import Derived.Test.YtlpbgfepneoajaaNmath
import Derived.Test.YtlpbgfepneoajaaRright
import Derived.Deep.CutRange
import Derived.Deep.CutBlock
namespace Go.Proofs.Ytlpbgfepneoajaa
open Go.RowKit
set_option linter.unusedVariables false

set_option maxHeartbeats 1000000 in
theorem fault_ref (c l f : Bool) (w : World) : Calls Try.prog 25 #[.bool c, .bool l, .bool f] w fun e w' => e = .returned (.int .i64 (faultB c l f)) ∧ w = w' := by
  cases c with
  | true =>
    go_enter Try.func25, Try.ntmps25
    go_wp2
    go_ret
    exact ⟨rfl, rfl⟩
  | false =>
    cases l with
    | true =>
      go_enter Try.func25, Try.ntmps25
      go_wp2
      go_ret
      exact ⟨rfl, rfl⟩
    | false =>
      cases f with
      | true =>
        go_enter Try.func25, Try.ntmps25
        go_wp2
        go_ret
        exact ⟨rfl, rfl⟩
      | false =>
        go_enter Try.func25, Try.ntmps25
        go_wp2
        go_ret
        exact ⟨rfl, rfl⟩

theorem hasB_bare : ∀ (l : List Int) (k : Nat), decide (bareAt k l ≥ 0) = hasB l
  | [], k => by simp [bareAt, hasB]
  | c :: l, k => by
    have ih := hasB_bare l (k + 1)
    unfold bareAt
    by_cases h : c = 13 ∨ c = 10
    · rw [if_pos h]; simp [hasB]; rcases h with rfl | rfl <;> simp
    · rw [if_neg h, ih]
      simp only [hasB, List.any_cons]
      have : (c == 13 || c == 10) = false := by rw [Bool.or_eq_false_iff, beq_eq_false_iff_ne, beq_eq_false_iff_ne]; exact ⟨fun e => h (.inl e), fun e => h (.inr e)⟩
      rw [this]; simp

theorem frL_cons (zs : List Int) (c l f : Bool) (x : Nat × Nat × Bool) (ls : List (Nat × Nat × Bool)) : frL zs c l f (x :: ls) = if x.2.2 = false then none else if pieceZ zs x = [46] then some (x.1 + 3, faultB c l f) else frL zs (c || hasB (pieceZ zs x)) (l || decide (999 < (pieceZ zs x).length) || decide (998 < (pieceZ zs x).length - (if (pieceZ zs x).head? = some 46 then 1 else 0))) true ls := rfl

def frameO (zs : List Int) (len : Nat) : Value := match frL zs false false false (linesZ 0 zs) with
  | some (k, e) => .tuple #[.int .i64 (k : Nat), .bool true, .int .i64 e, .slice none 0 0]
  | none => .tuple #[.int .i64 (len : Nat), .bool false, .int .i64 0, .slice none 0 0]

set_option maxRecDepth 100000 in
set_option maxHeartbeats 40000000 in
theorem frame_ref (a : Option Addr) (b off len cap : Nat) (zs : List Int) (w : World) (hl : zs.length = len) (hb : len ≤ 1000000) (hcap : len ≤ cap) (hmax : cap ≤ maxLen) (hr : Row w a zs) (ha : zs ≠ [] → a = some ⟨b, off, none⟩) :
    Calls Try.prog 14 #[.int .i64 0, .slice a len cap] w fun e w' => e = .returned (frameO zs len) ∧ Below w.heap.size w w' := by
  have HR : Hid (Row w a zs) := hr
  have HL : Hid (zs.length = len) := hl
  have HA : Hid (zs ≠ [] → a = some ⟨b, off, none⟩) := ha
  clear hr hl ha
  go_enter Try.func14, Try.ntmps14
  go_wp2_with fail
  refine (lines_ref a b off len cap zs _ HL.out hb hcap hmax HR.out HA.out).mono ?_
  rintro e w1 ⟨v, rfl, hO, hB⟩
  have HB1 : Hid (Below w.heap.size w w1) := hB
  obtain ⟨ls, hls⟩ : ∃ ls, linesZ 0 zs = ls := ⟨_, rfl⟩
  rw [hls] at hO
  have HLS : Hid (linesZ 0 zs = ls) := hls
  obtain ⟨av, cp, rfl⟩ := ownL_shape hO
  have hN : ls.length ≤ len := by have := linesZ_len zs.length 0 zs (Nat.le_refl _); rw [hls, HL.out] at this; exact this
  obtain ⟨N, hNN⟩ : ∃ N, ls.length = N := ⟨_, rfl⟩
  have HO : Hid (OwnL w1 w.heap.size (.slice av N cp) b off cap ls) := by rw [← hNN]; exact hO
  rw [hNN] at hN ⊢
  have HNN : Hid (ls.length = N) := hNN
  unfold maxLen at hmax
  clear hls hO hNN hB
  go_wp2_with fail
  go_loopw [9, 10, 11, 12, 13] (fun v9 v0 v1 v2 v3 wr => ∃ (k : Nat) (c lg f : Bool), v9 = .slice none 0 0 ∧ v0 = .bool c ∧ v1 = .bool lg ∧ v2 = .bool f ∧ v3 = .int .i64 k ∧ k ≤ N ∧ frL zs false false false ls = frL zs c lg f (ls.drop k) ∧ w1 = wr) (fun _ _ _ _ v3 _ => N - (intOf v3).toNat)
  case atStart => exact ⟨0, false, false, false, rfl, rfl, rfl, rfl, rfl, by omega, by simp, rfl⟩
  case round =>
    obtain ⟨k, c, lg, f, rfl, rfl, rfl, rfl, rfl, hk, hfr, rfl⟩ := hrel
    have HF : Hid (frL zs false false false ls = frL zs c lg f (ls.drop k)) := hfr
    clear hfr
    by_cases hlt : k < N
    · have hd : decide ((k : Int) < (N : Int)) = true := decide_eq_true (by omega)
      have hkl : k < ls.length := by rw [HNN.out]; exact hlt
      obtain ⟨g, cp', hv, hgb, hcl⟩ := lineAt HO.out (by intro h; rw [h] at hkl; simp at hkl)
      obtain ⟨rfl, hNl, rfl⟩ : av = some ⟨g, 0, none⟩ ∧ N = ls.length ∧ cp = cp' := by simpa using hv
      clear hNl hv
      have hin := linesZ_in zs.length 0 zs (Nat.le_refl _) ls[k] (by rw [HLS.out]; exact List.getElem_mem hkl)
      obtain ⟨q1, q2, q3⟩ := hcl k hkl
      obtain ⟨⟨p, n, ended⟩, hx⟩ : ∃ x, ls[k] = x := ⟨_, rfl⟩
      have HDR : Hid (ls.drop k = (p, n, ended) :: ls.drop (k + 1)) := by unfold Hid; rw [List.drop_eq_getElem_cons hkl, hx]
      rw [hx] at q1 q2 q3 hin
      simp only [Nat.zero_add] at q1 q2 q3 hin
      have hne : zs ≠ [] := by intro h; rw [h] at hin; simp at hin
      obtain rfl := HA.out hne
      obtain ⟨pc, hpc⟩ : ∃ pc, pieceZ zs (p, n, ended) = pc := ⟨_, rfl⟩
      have hrow : Row w1 (some ⟨b, off + p, none⟩) pc := by
        have hl := HL.out
        have h := row_take n (row_drop (n := p) (cap := cap) (row_below HR.out HB1.out) (by omega))
        rw [if_neg (by omega)] at h
        simp only [Option.map_some, add_plain] at h
        rw [← hpc]; exact h
      have hpl : pc.length = n := by rw [← hpc]; simp [pieceZ]; omega
      have hpn : p ≤ 1000000 ∧ n ≤ 1000000 ∧ n ≤ cap - p := by have := HL.out; omega
      have hadd : ∀ j, (⟨g, 0, none⟩ : Addr).add j = ⟨g, j, none⟩ := fun j => by rw [add_plain]; simp
      have hadd1 : (⟨g, k * 3, none⟩ : Addr).add 1 = ⟨g, k * 3 + 1, none⟩ := add_plain _ _ _
      have hadd2 : (⟨g, k * 3, none⟩ : Addr).add 2 = ⟨g, k * 3 + 2, none⟩ := add_plain _ _ _
      have HPC : Hid (pieceZ zs (p, n, ended) = pc) := hpc
      clear hcl hin hx hgb hpc
      cases ended with
      | false =>
        have HZ : Hid (frameO zs len = .tuple #[.int .i64 (len : Nat), .bool false, .int .i64 0, .slice none 0 0]) := by
          unfold Hid frameO
          rw [HLS.out, HF.out, HDR.out]
          simp [frL]
        obtain ⟨fe, hfe⟩ : ∃ fe, faultB c lg f = fe := ⟨_, rfl⟩
        have hfl := fault_ref c lg f w1
        rw [hfe] at hfl
        clear hfe
        go_wp2_with fail
        refine hfl.mono ?_
        rintro e w' ⟨rfl, rfl⟩
        by_cases hz : fe = 0
        · subst hz
          go_wp2
          refine bodyPost_ret (v := .tuple #[_, _, _, _]) (by simp [results, Try.results14, go_sem]; exact ⟨rfl, rfl, rfl, rfl⟩) rfl ?_
          rw [HZ.out]
          exact ⟨rfl, HB1.out⟩
        · have hz' : (fe != 0) = true := by simpa using hz
          go_wp2
          refine bodyPost_ret (v := .tuple #[_, _, _, _]) (by simp [results, Try.results14, go_sem]; exact ⟨rfl, rfl, rfl, rfl⟩) rfl ?_
          rw [HZ.out]
          exact ⟨rfl, HB1.out⟩
      | true =>
        have HPT : Hid (pieceZ zs (p, n, true) = pc) := HPC
        obtain ⟨q, hq⟩ : ∃ q, bareAt 0 pc = q := ⟨_, rfl⟩
        have hbare := bare_ref (some ⟨b, off + p, none⟩) n (cap - p) pc w1 hpl hrow (by omega)
        rw [hq] at hbare
        obtain ⟨hB, hhB⟩ : ∃ hB, hasB pc = hB := ⟨_, rfl⟩
        have hbq : decide (q ≥ 0) = hB := by rw [← hq, ← hhB]; exact hasB_bare pc 0
        have HHB : Hid (hasB pc = hB) := hhB
        have HNX : Hid (pc ≠ [46] → frL zs c lg f ((p, n, true) :: ls.drop (k + 1)) = frL zs (c || hB) (lg || decide (999 < n) || decide (998 < n - (if pc.head? = some 46 then 1 else 0))) true (ls.drop (k + 1))) := by
          intro h46
          rw [frL_cons]
          simp only [Bool.true_eq_false, if_false]
          rw [HPT.out, if_neg h46, hhB, hpl]
        have HOV : Hid (pc = [46] → frL zs c lg f ((p, n, true) :: ls.drop (k + 1)) = some (p + 3, faultB c lg f)) := by
          intro h46
          rw [frL_cons]
          simp only [Bool.true_eq_false, if_false]
          rw [HPT.out, if_pos h46]
        have HCELL : Hid (∀ x l', pc = x :: l' → w1.cell? ⟨b, off + p, none⟩ = some (.int .u8 x)) := by
          intro x l' e
          rcases hrow with h | ⟨b', o', h, hc⟩
          · rw [e] at h; cases h
          · cases h
            have := hc 0 (by rw [e]; simp)
            rw [e] at this
            simpa using this
        have hadd0 : (⟨b, off + p, none⟩ : Addr).add 0 = ⟨b, off + p, none⟩ := by rw [add_plain]; rfl
        clear hq hhB hrow
        by_cases h46 : pc = [46]
        · have hn1 : n = 1 := by rw [← hpl, h46]; rfl
          subst hn1
          have hc46 := HCELL.out 46 [] h46
          have hfl := fault_ref c lg f w1
          obtain ⟨fe, hfe⟩ : ∃ fe, faultB c lg f = fe := ⟨_, rfl⟩
          rw [hfe] at hfl
          have HZ : Hid (frameO zs len = .tuple #[.int .i64 ((p + 3 : Nat) : Int), .bool true, .int .i64 fe, .slice none 0 0]) := by
            unfold Hid frameO
            rw [HLS.out, HF.out, HDR.out, HOV.out h46, hfe]
          have e3 : ((p + 3 : Nat) : Int) = (p : Int) + 3 := by omega
          rw [e3] at HZ
          clear hfe h46 hbare hbq e3
          go_wp2_with fail
          refine hfl.mono ?_
          rintro e w' ⟨rfl, rfl⟩
          by_cases hz : fe = 0
          · subst hz
            go_wp2
            refine bodyPost_ret (v := .tuple #[_, _, _, _]) (by simp [results, Try.results14, go_sem]; exact ⟨rfl, rfl, rfl, rfl⟩) rfl ?_
            rw [HZ.out]
            exact ⟨rfl, HB1.out⟩
          · have hz' : (fe != 0) = true := by simpa using hz
            go_wp2
            refine bodyPost_ret (v := .tuple #[_, _, _, _]) (by simp [results, Try.results14, go_sem]; exact ⟨rfl, rfl, rfl, rfl⟩) rfl ?_
            rw [HZ.out]
            exact ⟨rfl, HB1.out⟩
        · have HNX := HNX.out h46
          have HNX : Hid _ := HNX
          have H46 : Hid (pc ≠ [46]) := h46
          clear h46
          go_upto_region 10 with (fail)
          go_cut [14, 46] from 20 to 108 (fun xv tv wx => xv = .slice (some ⟨b, off + p, none⟩) n (cap - p) ∧ tv = .bool false ∧ w1 = wx)
          case first =>
            by_cases hn1 : n = 1
            · obtain ⟨x, hx⟩ : ∃ x, pc = [x] := by
                cases pc with
                | nil => simp at hpl; omega
                | cons x r =>
                  have : r = [] := List.eq_nil_of_length_eq_zero (by simp at hpl; omega)
                  exact ⟨x, by rw [this]⟩
              have hcx := HCELL.out x [] hx
              have hx46 : (x == 46) = false := by rw [beq_eq_false_iff_ne]; intro e; exact H46.out (by rw [hx, e])
              have h1 : ((n : Int) == 1) = true := by rw [beq_iff_eq]; omega
              have hnn : (1 : Int) ≤ (n : Int) := by omega
              have hn0 : 0 < n := by omega
              clear hn1 hx
              go_wp2
              go_meet
              exact ⟨rfl, rfl, rfl⟩
            · have h1 : ((n : Int) == 1) = false := by rw [beq_eq_false_iff_ne]; omega
              go_wp2
              go_meet
              exact ⟨rfl, rfl, rfl⟩
          case rest =>
          obtain ⟨rfl, rfl, rfl⟩ := hcut
          go_upto_region 15 with (fail)
          go_cut [10] from 20 to 108 (fun cv wx => cv = .bool (c || hB) ∧ w1 = wx)
          case first =>
            cases c with
            | true =>
              go_wp2
              go_meet
              exact ⟨by simp, rfl⟩
            | false =>
              go_wp2_with (go_at_call 22; refine hbare.mono ?_; rintro e w' ⟨rfl, rfl⟩)
              go_meet
              exact ⟨by simp, rfl⟩
          case rest =>
          obtain ⟨rfl, rfl⟩ := hcut
          go_upto_region 16 with (fail)
          go_cut [11] from 20 to 108 (fun lv wx => lv = .bool (lg || decide (999 < n)) ∧ w1 = wx)
          case first =>
            cases lg with
            | true =>
              go_wp2
              go_meet
              exact ⟨by simp, rfl⟩
            | false =>
              have hd9 : decide ((n : Int) > 999) = decide (999 < n) := decide_eq_decide.2 (by omega)
              go_wp2
              go_meet
              exact ⟨by first | rfl | (rw [hd9]; simp) | simp, rfl⟩
          case rest =>
          obtain ⟨rfl, rfl⟩ := hcut
          obtain ⟨l1, hl1⟩ : ∃ l1, (lg || decide (999 < n)) = l1 := ⟨_, rfl⟩
          rw [hl1]
          have HL1 : Hid ((lg || decide (999 < n)) = l1) := hl1
          clear hl1
          obtain ⟨n2, hn2⟩ : ∃ n2, n - (if pc.head? = some 46 then 1 else 0) = n2 := ⟨_, rfl⟩
          have HN2 : Hid (n - (if pc.head? = some 46 then 1 else 0) = n2) := hn2
          have hn2b : n2 ≤ 1000000 := by rw [← hn2]; omega
          clear hn2
          go_upto_region 17 with (fail)
          obtain ⟨hd4, hhd4⟩ : ∃ hd4, decide (pc.head? = some 46) = hd4 := ⟨_, rfl⟩
          have HHD : Hid (decide (pc.head? = some 46) = hd4) := hhd4
          clear hhd4
          go_cut [81] from 20 to 108 (fun tv wx => tv = .bool hd4 ∧ w1 = wx)
          case first =>
            cases hpcc : pc with
            | nil =>
              have hn0 : n = 0 := by rw [← hpl, hpcc]; rfl
              have hd0 : decide ((n : Int) > 0) = false := decide_eq_false (by omega)
              have hd0' : ¬ 0 < n := by omega
              have hd0'' : decide (0 < n) = false := decide_eq_false (by omega)
              have E4 : Hid (hd4 = false) := by unfold Hid; rw [← HHD.out, hpcc]; simp
              clear hn0 hpcc
              go_wp2
              go_meet
              exact ⟨by rw [E4.out], rfl⟩
            | cons x r =>
              have hcx := HCELL.out x r hpcc
              have hn0 : 0 < n := by rw [← hpl, hpcc]; simp
              have hd0 : decide ((n : Int) > 0) = true := decide_eq_true (by omega)
              have E4 : Hid (hd4 = decide (x = 46)) := by unfold Hid; rw [← HHD.out, hpcc]; simp
              clear hpcc
              by_cases hx46 : x = 46
              · subst hx46
                go_wp2
                go_meet
                exact ⟨by rw [E4.out]; simp, rfl⟩
              · have hx' : (x == 46) = false := by rw [beq_eq_false_iff_ne]; exact hx46
                go_wp2
                go_meet
                exact ⟨by rw [E4.out]; simp [hx46], rfl⟩
          case rest =>
          obtain ⟨rfl, rfl⟩ := hcut
          go_upto_if 81 with (fail)
          go_cut [14] from 20 to 108 (fun xv wx => (∃ ax cx, xv = .slice ax n2 cx) ∧ w1 = wx)
          case first =>
            cases hd4 with
            | true =>
              have hh := HHD.out
              have hh' : pc.head? = some 46 := by simpa using hh
              have hn0 : 0 < n := by cases hq : pc with | nil => rw [hq] at hh'; simp at hh' | cons _ _ => rw [← hpl, hq]; simp
              have E2 : Hid (n2 = n - 1) := by unfold Hid; rw [← HN2.out, if_pos hh']
              clear hh hh'
              go_wp2
              all_goals go_meet
              all_goals exact ⟨⟨_, _, by rw [E2.out]⟩, rfl⟩
            | false =>
              have hh := HHD.out
              have hh' : ¬ pc.head? = some 46 := by simpa using hh
              have E2 : Hid (n2 = n) := by unfold Hid; rw [← HN2.out, if_neg hh']; rfl
              clear hh hh'
              go_wp2
              go_meet
              exact ⟨⟨_, _, by rw [E2.out]⟩, rfl⟩
          case rest =>
          obtain ⟨⟨ax, cx, rfl⟩, rfl⟩ := hcut
          go_upto_region 19 with (fail)
          go_cut [11] from 20 to 108 (fun lv wx => lv = .bool (l1 || decide (998 < n2)) ∧ w1 = wx)
          case first =>
            cases l1 with
            | true =>
              go_wp2
              go_meet
              exact ⟨by simp, rfl⟩
            | false =>
              have hd9 : decide ((n2 : Int) > 998) = decide (998 < n2) := decide_eq_decide.2 (by omega)
              go_wp2
              go_meet
              exact ⟨by first | rfl | (rw [hd9]; simp) | simp, rfl⟩
          case rest =>
          obtain ⟨rfl, rfl⟩ := hcut
          go_upto_region 20 with (fail)
          go_cut [12] from 20 to 108 (fun fv wx => fv = .bool true ∧ w1 = wx)
          case first =>
            have hd9 : decide ((n2 : Int) + 2 > 0) = true := decide_eq_true (by omega)
            cases f with
            | true =>
              go_wp2
              go_meet
              exact ⟨rfl, rfl⟩
            | false =>
              go_wp2
              go_meet
              exact ⟨by first | rfl | (rw [hd9]) | simp [hd9], rfl⟩
          case rest =>
          obtain ⟨rfl, rfl⟩ := hcut
          have HFN : Hid (frL zs false false false ls = frL zs (c || hB) (l1 || decide (998 < n2)) true (ls.drop (k + 1))) := by
            unfold Hid; rw [HF.out, HDR.out, HNX.out, HL1.out, HN2.out]
          clear HNX HL1 HN2
          go_wp2
          go_roundw
          case rel => exact ⟨k + 1, c || hB, l1 || decide (998 < n2), true, rfl, rfl, rfl, rfl, by rw [show ((k + 1 : Nat) : Int) = (k : Int) + 1 from by omega], by omega, HFN.out, trivial⟩
          case measure => (simp [intOf]; omega)
    · have hd : decide ((k : Int) < (N : Int)) = false := by simp; omega
      have HZ : Hid (frameO zs len = .tuple #[.int .i64 (len : Nat), .bool false, .int .i64 0, .slice none 0 0]) := by
        unfold Hid frameO
        rw [HLS.out, HF.out, List.drop_eq_nil_of_le (by rw [HNN.out]; omega)]
        simp [frL]
      obtain ⟨fe, hfe⟩ : ∃ fe, faultB c lg f = fe := ⟨_, rfl⟩
      have hfl := fault_ref c lg f w1
      rw [hfe] at hfl
      clear hfe
      go_wp2_with fail
      refine hfl.mono ?_
      rintro e w' ⟨rfl, rfl⟩
      by_cases hz : fe = 0
      · subst hz
        go_wp2
        refine bodyPost_ret (v := .tuple #[_, _, _, _]) (by simp [results, Try.results14, go_sem]; exact ⟨rfl, rfl, rfl, rfl⟩) rfl ?_
        rw [HZ.out]
        exact ⟨rfl, HB1.out⟩
      · have hz' : (fe != 0) = true := by simpa using hz
        go_wp2
        refine bodyPost_ret (v := .tuple #[_, _, _, _]) (by simp [results, Try.results14, go_sem]; exact ⟨rfl, rfl, rfl, rfl⟩) rfl ?_
        rw [HZ.out]
        exact ⟨rfl, HB1.out⟩
end Go.Proofs.Ytlpbgfepneoajaa
