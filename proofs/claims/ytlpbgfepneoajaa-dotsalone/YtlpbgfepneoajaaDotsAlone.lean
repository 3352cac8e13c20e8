/-
  DotsAlone: whatever the bytes: of a text's frame no line but the last one is a point alone, and each one else has a point more than the text's line, or is it.
  No condition.
-/
import Derived.Test.YtlpbgfepneoajaaRows
import Derived.Test.YtlpbgfepneoajaaBmath
import Derived.Test.YtlpbgfepneoajaaRstuff
import Derived.Deep.RegionHeld3
import Derived.WalkKit
import Derived.ProofKit
import Derived.OpenShut
import Derived.ShutString
import Derived.ChangeOld
import Derived.Below
import Derived.HandedShaped
namespace Go.Proofs.Ytlpbgfepneoajaa.dotsAlone
open Go.ChangeShapes Go.WideShapes Go.ChangeAt Go.RowKit
open Go.ChangeMaps (open_string shut_string)
set_option linter.unusedVariables false


theorem str_append (l m : List Int) : strOfNums l ++ strOfNums m = strOfNums (l ++ m) := by
  have e : (strOfNums l ++ strOfNums m).toList = (strOfNums (l ++ m)).toList := by
    rw [toList_str, ByteArray.toList_eq, ByteArray.data_append, Array.toList_append, ← ByteArray.toList_eq, ← ByteArray.toList_eq, toList_str, toList_str, List.map_append]
  rw [ByteArray.toList_eq, ByteArray.toList_eq] at e
  exact ByteArray.ext (Array.toList_inj.1 e)
theorem size_str (l : List Int) : (strOfNums l).size = l.length := by
  have := congrArg List.length (toList_str l)
  rw [ByteArray.toList_eq, List.length_map, Array.length_toList] at this
  exact this
theorem str_head (q : Int) (l : List Int) (hq : 0 ≤ q ∧ q < 256) (h : 0 < (strOfNums (q :: l)).size) : (((strOfNums (q :: l))[0]'h).toNat : Int) = q := by
  show (((UInt8.ofNat q.toNat).toNat : Nat) : Int) = q
  simp only [UInt8.toNat_ofNat']
  omega
set_option maxRecDepth 100000 in
set_option maxHeartbeats 8000000 in
theorem walk (a0 : Option Addr) (len0 cap0 : Nat) (z0 : List Int) (w : World) (w0 : IsRow .u8 w a0 len0 cap0 z0) (hm : Mx w) :
    Calls Try.prog 6 #[.slice a0 len0 cap0] w fun e w' => e = .returned (.bool true) ∧ Below w.heap.size w w' := by
  obtain ⟨zs, hl0, hcap0, hmax0, hbyt0, hrow0⟩ := byte_view w0
  have hnil0 := isRow_nil w0
  clear w0
  have HM : Hid (Mx w) := hm
  clear hm
  by_cases h1 : 4000 < len0
  · have hd : decide ((len0 : Int) > 4000) = true := by simp; omega
    go_enter Try.func6, Try.ntmps6
    go_wp2_with (go_at_call 8; refine (alive_any _ HM.out).mono ?_; rintro e w' ⟨rfl, hb1⟩)
    go_ret
    exact ⟨rfl, by assumption⟩
  have hd1 : decide ((len0 : Int) > 4000) = false := by simp; omega
  by_cases hbad : (rightZ zs).2 = 0
  rotate_left
  · have hS := stuff_bad a0 len0 cap0 zs w hl0 hcap0 hnil0 (by omega) hbyt0 hrow0 HM.out hbad
    obtain ⟨y, hy⟩ : ∃ y, (rightZ zs).2 = y := ⟨_, rfl⟩
    rw [hy] at hS hbad
    have hb' : (y != 0) = true := by simpa using hbad
    clear hrow0 hy
    go_enter Try.func6, Try.ntmps6
    go_wp2_with fail
    refine hS.mono ?_
    clear hS
    rintro e w1 ⟨rfl, hB1⟩
    have HB1 : Hid (Below w.heap.size w w1) := hB1
    clear hB1
    go_wp2_with fail
    refine (alive_any w1 (HM.out.keep HB1.out)).mono ?_
    rintro e w2 ⟨rfl, hB2⟩
    have HB2 : Hid (Below w.heap.size w w2) := HB1.out.trans (hB2.mono HB1.out.size)
    clear hB2
    go_wp2
    go_ret
    exact ⟨rfl, HB2.out⟩
  have hS := stuff_good a0 len0 cap0 zs w hl0 hcap0 hnil0 (by omega) hbyt0 hrow0 HM.out hbad
  have hfr2 := frame_len hbad
  rw [hl0] at hfr2
  have hne : frameZ zs ≠ [] := by unfold frameZ; simp
  obtain ⟨b, off, ha⟩ : ∃ b off, (zs ≠ [] → a0 = some ⟨b, off, none⟩) := by
    rcases hrow0 with rfl | ⟨b, off, rfl, _⟩
    · exact ⟨0, 0, fun h => absurd rfl h⟩
    · exact ⟨b, off, fun _ => rfl⟩
  have hlf := lines_flat zs (linesZ 0 zs) [] (fun x hx => (fault_none (right_zero hbad x hx)).1)
  simp only [List.length_nil, List.nil_append] at hlf
  have hlf' : (linesZ 0 (frameZ zs)).map (pieceZ (frameZ zs)) = (linesZ 0 zs).map (fun x => px (pieceZ zs x)) ++ [[46]] := hlf
  obtain ⟨FL, hFL⟩ : ∃ FL, linesZ 0 (frameZ zs) = FL := ⟨_, rfl⟩
  obtain ⟨LS, hLS⟩ : ∃ LS, linesZ 0 zs = LS := ⟨_, rfl⟩
  rw [hFL, hLS] at hlf'
  have hN : FL.length = LS.length + 1 := by have := congrArg List.length hlf'; simpa using this
  have HPX : Hid (∀ (k : Nat) (h1 : k < LS.length) (h2 : k < FL.length), pieceZ (frameZ zs) FL[k] = px (pieceZ zs LS[k])) := by
    intro k h1 h2
    have h := congrArg (fun l => l[k]?) hlf'
    simp only [List.getElem?_map, List.getElem?_eq_getElem h2, Option.map_some, List.getElem?_append_left (show k < (LS.map (fun x => px (pieceZ zs x))).length by simpa using h1), List.getElem?_eq_getElem h1, Option.some.injEq] at h
    exact h
  have HPL : Hid (∀ (h2 : LS.length < FL.length), pieceZ (frameZ zs) FL[LS.length] = [46]) := by
    intro h2
    have h := congrArg (fun l => l[LS.length]?) hlf'
    simp only [List.getElem?_map, List.getElem?_eq_getElem h2, Option.map_some] at h
    rw [List.getElem?_append_right (by simp)] at h
    simpa using h
  have hNl : LS.length ≤ len0 := by have := linesZ_len zs.length 0 zs (Nat.le_refl _); rw [hLS, hl0] at this; exact this
  have HR0 : Hid (Row w a0 zs) := hrow0
  have HL0 : Hid (zs.length = len0) := hl0
  have HBAD : Hid ((rightZ zs).2 = 0) := hbad
  have HBY : Hid (Byt zs) := hbyt0
  have HA : Hid (zs ≠ [] → a0 = some ⟨b, off, none⟩) := ha
  have HNE : Hid (frameZ zs ≠ []) := hne
  have HFLL : Hid (linesZ 0 (frameZ zs) = FL) := hFL
  have HLSL : Hid (linesZ 0 zs = LS) := hLS
  obtain ⟨fl, hfl⟩ : ∃ fl, (frameZ zs).length = fl := ⟨_, rfl⟩
  rw [hfl] at hfr2
  have HFL : Hid ((frameZ zs).length = fl) := hfl
  have hmax0' := hmax0
  unfold maxLen at hmax0
  clear hrow0 hl0 hbad hbyt0 hfl ha hne hlf hlf' hFL hLS
  go_enter Try.func6, Try.ntmps6
  go_wp2_with fail
  refine hS.mono ?_
  clear hS
  rintro e w1 ⟨v1, rfl, ho1, hB1⟩
  obtain ⟨af, cf, rfl, hfc, hfm, hrf, hfn⟩ := own_row' ho1
  rw [HFL.out] at hfc ⊢
  obtain ⟨bF, oF, rfl⟩ : ∃ bF oF, af = some ⟨bF, oF, none⟩ := by
    rcases hrf with h | ⟨bF, oF, rfl, _⟩
    · exact absurd h HNE.out
    · exact ⟨bF, oF, rfl⟩
  have HRF : Hid (Row w1 (some ⟨bF, oF, none⟩) (frameZ zs)) := hrf
  have HB1 : Hid (Below w.heap.size w w1) := hB1
  clear ho1 hB1 hrf
  go_wp2_with fail
  refine (lines_ref (some ⟨bF, oF, none⟩) bF oF fl cf (frameZ zs) w1 HFL.out (by omega) hfc hfm HRF.out (fun _ => rfl)).mono ?_
  rintro e w2 ⟨vL, rfl, hOL, hB2⟩
  rw [HFLL.out] at hOL
  obtain ⟨aL, cL, rfl⟩ := ownL_shape hOL
  have HB2 : Hid (Below w.heap.size w w2) := HB1.out.trans (hB2.mono HB1.out.size)
  have HRF2 : Hid (Row w2 (some ⟨bF, oF, none⟩) (frameZ zs)) := row_below HRF.out hB2
  go_wp2_with fail
  refine (lines_ref a0 b off len0 cap0 zs w2 HL0.out (by omega) hcap0 hmax0' (row_below HR0.out HB2.out) HA.out).mono ?_
  rintro e w3 ⟨vM, rfl, hOM, hB3⟩
  rw [HLSL.out] at hOM
  obtain ⟨aM, cM, rfl⟩ := ownL_shape hOM
  have HB3 : Hid (Below w.heap.size w w3) := HB2.out.trans (hB3.mono HB2.out.size)
  have HRF3 : Hid (Row w3 (some ⟨bF, oF, none⟩) (frameZ zs)) := row_below HRF2.out hB3
  have HR03 : Hid (Row w3 a0 zs) := row_below HR0.out HB3.out
  have HOL : Hid (OwnL w3 w1.heap.size (.slice aL FL.length cL) bF oF cf FL) := own_keep hOL hB3
  have HOM : Hid (OwnL w3 w2.heap.size (.slice aM LS.length cM) b off cap0 LS) := hOM
  clear hOL hOM hB2 hB3
  obtain ⟨gL, cL', hvL, _, hcL⟩ := lineAt HOL.out (by intro h; rw [h] at hN; simp at hN)
  obtain ⟨rfl, rfl⟩ : aL = some ⟨gL, 0, none⟩ ∧ cL = cL' := by simpa using hvL
  clear hvL
  have HCL : Hid _ := hcL
  clear hcL
  have hadd : ∀ j, (⟨gL, 0, none⟩ : Addr).add j = ⟨gL, j, none⟩ := fun j => by rw [add_plain]; simp
  have hpc : ∀ x ∈ FL, Row w3 (some ⟨bF, oF + x.1, none⟩) (pieceZ (frameZ zs) x) ∧ (pieceZ (frameZ zs) x).length = x.2.1 := by
    intro x hx
    have hin := linesZ_in (frameZ zs).length 0 (frameZ zs) (Nat.le_refl _) x (by rw [HFLL.out]; exact hx)
    have hfl := HFL.out
    have h := row_take x.2.1 (row_drop (n := x.1) (cap := cf) HRF3.out (by omega))
    rw [if_neg (by omega)] at h
    simp only [Option.map_some, add_plain] at h
    exact ⟨h, by simp [pieceZ]; omega⟩
  have HPC : Hid _ := hpc
  clear hpc
  obtain ⟨N, hNN⟩ : ∃ N, LS.length = N := ⟨_, rfl⟩
  have HNN : Hid (LS.length = N ∧ FL.length = N + 1) := ⟨hNN, by rw [hN, hNN]⟩
  rw [hN, hNN] at HOL
  rw [hNN] at HOM hNl
  rw [hNN]
  clear hN hNN
  have hNF : N < FL.length := by rw [HNN.out.2]; omega
  obtain ⟨xN, hxN⟩ : ∃ x, FL[N]'hNF = x := ⟨_, rfl⟩
  have hlast := HCL.out N hNF
  rw [hxN] at hlast
  obtain ⟨q1, q2, q3⟩ := hlast
  have hlp : pieceZ (frameZ zs) xN = [46] := by
    have h := HPL.out (by rw [HNN.out.1, HNN.out.2]; omega)
    simp only [HNN.out.1] at h
    rw [hxN] at h
    exact h
  obtain ⟨hrwN, hrlN⟩ := HPC.out xN (by rw [← hxN]; exact List.getElem_mem hNF)
  rw [hlp] at hrwN hrlN
  obtain ⟨pN, nN, eN⟩ := xN
  simp only at q1 q2 q3 hrwN hrlN
  obtain rfl : nN = 1 := by simpa using hrlN.symm
  have kN := conv_row 1 (cf - pN) rfl hrwN
  rw [show strOfNums [46] = ⟨#[46]⟩ from rfl] at kN
  clear hrwN hrlN hlp hxN
  go_wp2_with fail
  clear q1 q2 q3 kN
  go_loopw [7] (fun v wr => ∃ k : Nat, v = .int .i64 k ∧ k ≤ N ∧ Qt w3 wr) (fun v _ => N - (intOf v).toNat)
  case atStart => exact ⟨0, rfl, by omega, 0, rfl⟩
  case round =>
    obtain ⟨k, rfl, hk, dq, rfl⟩ := hrel
    by_cases hlt : k < N
    · have hd : decide ((k : Int) < (N : Int)) = true := by simp; omega
      have hkN1 : (k : Int) < (N : Int) + 1 := by omega
      have hkF : k < FL.length := by rw [HNN.out.2]; omega
      have hkL : k < LS.length := by rw [HNN.out.1]; omega
      obtain ⟨gM, cM', hvM, _, hcM⟩ := lineAt HOM.out (by intro h; rw [h] at hkL; simp at hkL)
      obtain ⟨rfl, hNl2, rfl⟩ : aM = some ⟨gM, 0, none⟩ ∧ N = LS.length ∧ cM = cM' := by simpa using hvM
      clear hvM hNl2
      have hpx := HPX.out k hkL hkF
      obtain ⟨xF, hxF⟩ : ∃ x, FL[k]'hkF = x := ⟨_, rfl⟩
      obtain ⟨xL, hxL⟩ : ∃ x, LS[k]'hkL = x := ⟨_, rfl⟩
      have hF := HCL.out k hkF
      have hL := hcM k hkL
      rw [hxF] at hF hpx
      rw [hxL] at hL hpx
      obtain ⟨_, q2, _⟩ := hF
      obtain ⟨_, r2, _⟩ := hL
      obtain ⟨hrwF, hrlF⟩ := HPC.out xF (by rw [← hxF]; exact List.getElem_mem hkF)
      have hin := linesZ_in zs.length 0 zs (Nat.le_refl _) xL (by rw [HLSL.out, ← hxL]; exact List.getElem_mem hkL)
      have hne : zs ≠ [] := by intro h; rw [h] at hin; simp at hin
      obtain rfl := HA.out hne
      have hrwL : Row w3 (some ⟨b, off + xL.1, none⟩) (pieceZ zs xL) := by
        have hl := HL0.out
        have h := row_take xL.2.1 (row_drop (n := xL.1) (cap := cap0) HR03.out (by omega))
        rw [if_neg (by omega)] at h
        simp only [Option.map_some, add_plain] at h
        exact h
      have hrlL : (pieceZ zs xL).length = xL.2.1 := by simp [pieceZ]; omega
      rw [hpx] at hrwF hrlF
      obtain ⟨pF, nF, eF⟩ := xF
      obtain ⟨pL, nL, eL⟩ := xL
      simp only at q2 r2 hrwF hrlF hrwL hrlL
      obtain ⟨pc, hpc⟩ : ∃ pc, pieceZ zs (pL, nL, eL) = pc := ⟨_, rfl⟩
      rw [hpc] at hrwF hrlF hrwL hrlL
      have kF := conv_row (w := (w3.drewN dq).drew) nF (cf - pF) hrlF hrwF
      have kL := conv_row (w := (w3.drewN dq).drew) nL (cap0 - pL) hrlL hrwL
      have hbyt : Byt pc := by rw [← hpc]; exact ((HBY.out.drop _).take _)
      have hadd1 : (⟨gL, k * 3, none⟩ : Addr).add 1 = ⟨gL, k * 3 + 1, none⟩ := add_plain _ _ _
      have hadd2 : ∀ j, (⟨gM, 0, none⟩ : Addr).add j = ⟨gM, j, none⟩ := fun j => by rw [add_plain]; simp
      have hadd3 : (⟨gM, k * 3, none⟩ : Addr).add 1 = ⟨gM, k * 3 + 1, none⟩ := add_plain _ _ _
      clear hcM hrwF hrwL hin hpx hxF hxL hrlF hrlL
      have hszb : pc.length ≤ 4000 := by rw [← hpc]; simp only [pieceZ, List.length_take, List.length_drop]; have := HL0.out; omega
      by_cases hd46 : pc.head? = some 46
      · have hX : px pc = 46 :: pc := by unfold px; rw [if_pos hd46]; rfl
        obtain ⟨pc', rfl⟩ : ∃ pc', pc = 46 :: pc' := by
          cases pc with
          | nil => simp at hd46
          | cons q pc' => simp at hd46; subst hd46; exact ⟨pc', rfl⟩
        rw [hX] at kF
        have t6 : ∀ h, (((strOfNums (46 :: pc'))[0]'h).toNat : Int) = 46 := fun h => str_head 46 pc' (by decide) h
        have t5 : 0 < (strOfNums (46 :: pc')).size := by rw [size_str]; simp
        have t4 : ¬ 9223372036854775807 < 1 + (strOfNums (46 :: pc')).size := by rw [size_str]; omega
        have t3 : (⟨#[46]⟩ : ByteArray) ++ strOfNums (46 :: pc') = strOfNums (46 :: 46 :: pc') := str_append [46] (46 :: pc')
        have t2 : ¬ (strOfNums (46 :: 46 :: pc')).toList = (strOfNums (46 :: pc')).toList := by
          intro h; have := congrArg List.length h; rw [toList_str, toList_str] at this; simp at this
        have t1 : ¬ (strOfNums (46 :: 46 :: pc')).toList = [46] := by
          intro h; have := congrArg List.length h; rw [toList_str] at this; simp at this
        have t0 : ¬ (strOfNums (46 :: pc')).toList = (strOfNums (46 :: 46 :: pc')).toList := fun h => t2 h.symm
        obtain ⟨sA, hsA⟩ : ∃ sA, strOfNums (46 :: 46 :: pc') = sA := ⟨_, rfl⟩
        obtain ⟨sB, hsB⟩ : ∃ sB, strOfNums (46 :: pc') = sB := ⟨_, rfl⟩
        rw [hsA] at t3 t2 t1 t0 kF
        rw [hsB] at t0 t2 t3 t4 t5 t6 kL
        have t1b : (sA.toList == [46]) = false := by rw [beq_eq_false_iff_ne]; exact t1
        have t2b : (sA.toList == sB.toList) = false := by rw [beq_eq_false_iff_ne]; exact t2
        clear hsA hsB hX hd46 hpc hbyt hszb
        go_wp2_with fail
        go_region_held3 (fun W => ((W.cell? ⟨gL, k * 3 + 1, none⟩ = some (.slice (some ⟨bF, oF + pF, none⟩) nF (cf - pF)) ∧ W.cell? ⟨gM, k * 3 + 1, none⟩ = some (.slice (some ⟨b, off + pL, none⟩) nL (cap0 - pL))) ∧ (convert 22 9 (.slice (some ⟨bF, oF + pF, none⟩) nF (cf - pF))).run Try.prog W = .ok (.string sA) W) ∧ (convert 22 9 (.slice (some ⟨b, off + pL, none⟩) nL (cap0 - pL))).run Try.prog W = .ok (.string sB) W) (exact ⟨⟨⟨q2, r2⟩, kF⟩, kL⟩) (fail)
        clear kF kL
        go_wp2
        refine ⟨⟨k + 1, by rw [show ((k + 1 : Nat) : Int) = (k : Int) + 1 from by omega], by omega, ⟨_, rfl⟩⟩, ?_⟩
        show N - ((k : Int) + 1).toNat < N - (k : Int).toNat
        omega
      · have hX : px pc = pc := by unfold px; rw [if_neg hd46]; rfl
        rw [hX] at kF
        have t1 : ¬ (strOfNums pc).toList = [46] := by
          intro h
          rw [toList_str] at h
          cases pc with
          | nil => simp at h
          | cons q pc' =>
            simp only [List.map_cons, List.cons.injEq] at h
            have hq := hbyt.head
            have := byte_inj (b := 46) hq.1 hq.2 (by decide) (by decide) h.1
            exact hd46 (by simp [this])
        have t4 : ¬ 9223372036854775807 < 1 + (strOfNums pc).size := by rw [size_str]; omega
        have tz : pc = [] ∨ ∃ q pc', pc = q :: pc' ∧ q ≠ 46 := by
          cases pc with
          | nil => exact .inl rfl
          | cons q pc' => exact .inr ⟨q, pc', rfl, fun e => hd46 (by simp [e])⟩
        rcases tz with rfl | ⟨q, pc', rfl, hq46⟩
        · have t5 : (strOfNums []).size = 0 := by rw [size_str]; rfl
          obtain ⟨sB, hsB⟩ : ∃ sB, strOfNums [] = sB := ⟨_, rfl⟩
          rw [hsB] at t1 t4 t5 kL kF
          have t1b : (sB.toList == [46]) = false := by rw [beq_eq_false_iff_ne]; exact t1
          clear hsB hX hd46 hpc hbyt hszb
          go_wp2_with fail
          go_region_held3 (fun W => ((W.cell? ⟨gL, k * 3 + 1, none⟩ = some (.slice (some ⟨bF, oF + pF, none⟩) nF (cf - pF)) ∧ W.cell? ⟨gM, k * 3 + 1, none⟩ = some (.slice (some ⟨b, off + pL, none⟩) nL (cap0 - pL))) ∧ (convert 22 9 (.slice (some ⟨bF, oF + pF, none⟩) nF (cf - pF))).run Try.prog W = .ok (.string sB) W) ∧ (convert 22 9 (.slice (some ⟨b, off + pL, none⟩) nL (cap0 - pL))).run Try.prog W = .ok (.string sB) W) (exact ⟨⟨⟨q2, r2⟩, kF⟩, kL⟩) (fail)
          clear kF kL
          go_wp2
          refine ⟨⟨k + 1, by rw [show ((k + 1 : Nat) : Int) = (k : Int) + 1 from by omega], by omega, ⟨_, rfl⟩⟩, ?_⟩
          show N - ((k : Int) + 1).toNat < N - (k : Int).toNat
          omega
        · have t5 : 0 < (strOfNums (q :: pc')).size := by rw [size_str]; simp
          have hqb := hbyt.head
          have t6 : ∀ h, ((((strOfNums (q :: pc'))[0]'h).toNat : Int) == 46) = false := fun h => by rw [str_head q pc' hqb h, beq_eq_false_iff_ne]; exact hq46
          obtain ⟨sB, hsB⟩ : ∃ sB, strOfNums (q :: pc') = sB := ⟨_, rfl⟩
          rw [hsB] at t1 t4 t5 t6 kL kF
          have t1b : (sB.toList == [46]) = false := by rw [beq_eq_false_iff_ne]; exact t1
          clear hsB hX hd46 hpc hbyt hszb
          go_wp2_with fail
          go_region_held3 (fun W => ((W.cell? ⟨gL, k * 3 + 1, none⟩ = some (.slice (some ⟨bF, oF + pF, none⟩) nF (cf - pF)) ∧ W.cell? ⟨gM, k * 3 + 1, none⟩ = some (.slice (some ⟨b, off + pL, none⟩) nL (cap0 - pL))) ∧ (convert 22 9 (.slice (some ⟨bF, oF + pF, none⟩) nF (cf - pF))).run Try.prog W = .ok (.string sB) W) ∧ (convert 22 9 (.slice (some ⟨b, off + pL, none⟩) nL (cap0 - pL))).run Try.prog W = .ok (.string sB) W) (exact ⟨⟨⟨q2, r2⟩, kF⟩, kL⟩) (fail)
          clear kF kL
          go_wp2
          refine ⟨⟨k + 1, by rw [show ((k + 1 : Nat) : Int) = (k : Int) + 1 from by omega], by omega, ⟨_, rfl⟩⟩, ?_⟩
          show N - ((k : Int) + 1).toNat < N - (k : Int).toNat
          omega
    · have hd : decide ((k : Int) < (N : Int)) = false := by simp; omega
      go_wp2_with (go_at_call 8; refine (alive_any (w3.drewN dq) (HM.out.keep (HB3.out.trans (Qt.below ⟨dq, rfl⟩ _)))).mono ?_; rintro e w4 ⟨rfl, hb4⟩)
      go_ret
      exact ⟨rfl, (HB3.out.trans (Qt.below ⟨dq, rfl⟩ _)).trans (hb4.mono HB3.out.size)⟩

set_option maxRecDepth 100000 in
theorem lifted (os : Os) (started : os.Started) (H : Type) (enc : TypeId × Value → H) :
    ReturnsInHanded {} Try.checked os 6 .any (Rows.dotsAloneSpec.pre6 enc Try.prog Try.f6 Rows.dotsAloneRow.domain false) (Rows.dotsAloneSpec.post enc Try.prog Try.f6 false true false false) := by
  refine returnsInHanded_of_change_shaped (C := Try.checked) own started (by kernel_rfl) Try.func6
    (ChangeSpec.witness6 (enc := enc) (C := Try.checked) false ⟨#[], #[.slice none 0 0], []⟩ 8 (by kernel_rfl) (by kernel_rfl) (by kernel_rfl) (by kernel_rfl)) ?_
  intro W base args ds gs before hval0 hW hcnd _ hsh _
  have hval : ∀ (j : Nat) t v, Try.f6.params[j]? = some t → args[j]? = some v → Value.okWide Try.prog W .any base t v := hval0
  have hW' := hW
  obtain ⟨p, q, hA0, hV, rfl, hfz, hnd⟩ := hW
  have hA : DataW.TrodAll enc Try.prog W 0 (fun _ => true) true Try.f6.params.toList args.toList ds p := hA0
  rw [Try.params6] at hA hval
  obtain ⟨v0, vs0, d0, ds0, p0, q0, hargs, rfl, rfl, h0, r0⟩ := trodAll_cons hA
  obtain ⟨rfl, rfl, rfl⟩ := trodAll_nil r0
  obtain rfl : args = #[v0] := by cases args; simp_all
  obtain ⟨rfl, rfl⟩ := trodVars_none hV
  obtain ⟨a0, len0, cap0, rfl⟩ := okWide_slice Try.underlying22 (hval 0 22 v0 rfl rfl)
  have k0 := h0
  have lt0 : ∀ x ∈ p0, x.block < W.heap.size := by obtain ⟨m, hm⟩ := k0; exact DataW.trod_lt m _ _ _ hm
  obtain ⟨z0, w0⟩ : ∃ zs, IsRow .u8 W a0 len0 cap0 zs := by
    obtain ⟨fuel, hf⟩ := h0
    rcases open_ints Try.underlying22 Try.underlying5 (by kernel_rfl) hf with ⟨hcs, _⟩ | ⟨x, l, c, zs, hcs, _, hl, hm, hz, _, hcell, hwz⟩
    · simp [Value.cells] at hcs
      obtain ⟨rfl, rfl, rfl⟩ := hcs
      exact ⟨[], .inl ⟨rfl, rfl, rfl, rfl⟩⟩
    · simp [Value.cells] at hcs
      obtain ⟨rfl, rfl, rfl⟩ := hcs
      exact ⟨zs, .inr ⟨_, rfl, hl, hm, by simpa using hz, hcell, hwz⟩⟩
  clear hA0 hval0
  refine (walk a0 len0 cap0 z0 W w0 (laysM185.s1_3 W hsh)).mono fun e W' ⟨he, bel⟩ => ?_
  subst he
  exact ⟨_, rfl, _, _, _, [], _, [], hW', trodAll_mk1 (shut_bool Try.underlying4 _), (trodAll_cons_mk (Below.trod laidOut (by kernel_rfl) (of_decide_eq_true (by kernel_rfl)) k0 bel lt0) trodAll_mk0), rfl, bel.frame _, fun h => by cases h⟩

theorem over : Rows.dotsAloneRow.holds Try.pinned (OpenSpec.ofChange Rows.dotsAloneSpec) :=
  OpenClaim.holds_of_wide 6 Try.f6 rfl rfl rfl rfl rfl rfl rfl ⟨rfl, rfl, rfl, rfl, rfl⟩ rfl rfl rfl rfl rfl (by kernel_rfl) Try.func6 (by kernel_rfl)
    (of_decide_eq_true (by kernel_rfl)) (by unfold Func.isWrapper; first | (rw [if_pos (by decide +kernel)]; kernel_rfl) | (rw [if_neg (by decide +kernel)]; exact ⟨rfl, rfl⟩))
    (fun os started H enc _ => lifted os started H enc)


end Go.Proofs.Ytlpbgfepneoajaa.dotsAlone
namespace Go.Proofs.Ytlpbgfepneoajaa
theorem dotsAlone_holds : Rows.DotsAloneSaid := dotsAlone.over
#print axioms dotsAlone_holds
end Go.Proofs.Ytlpbgfepneoajaa
