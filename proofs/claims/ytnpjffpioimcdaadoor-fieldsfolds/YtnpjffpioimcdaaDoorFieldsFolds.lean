/-
  No line of what is written has more than MaxFold bytes, but where there is no blank to fold at (P6.6): for every list of fields the statement FieldsFolds answers true, and leaves its argument as it was.
-/
import Derived.Test.YtnpjffpioimcdaaDoorCards
import Derived.Test.YtnpjffpioimcdaaDoorTie
import Derived.Test.YtnpjffpioimcdaaDoorArgs
import Derived.Test.YtnpjffpioimcdaaDoorAlive
import Derived.Test.YtnpjffpioimcdaaDoorFmath
import Derived.WalkKit
import Derived.ProofKit
import Derived.OpenShut
import Derived.ShutString
import Derived.ChangeOld
import Derived.Below
import Derived.LaidMore
import Derived.Lay
import Derived.SevenTiedAt
import Derived.Stop.Joined
namespace Go.Proofs.YtnpjffpioimcdaaDoor.fieldsFolds
open Go.ChangeShapes Go.WideShapes Go.ChangeAt Go.RowKit
open Go.ChangeMaps (open_string shut_string)
set_option linter.unusedVariables false

theorem colonI_spec : ∀ (l : List Int) (c : Nat), colonI l = c → l[c]? = some 58 ∧ ∀ i, i < c → l[i]? ≠ some 58
  | [], c, h => by simp [colonI] at h
  | x :: l, c, h => by
    have hg := colonI_ge l
    unfold colonI at h
    by_cases q : x = 58
    · rw [if_pos q] at h
      obtain rfl : c = 0 := by omega
      exact ⟨by simp [q], fun i hi => by omega⟩
    · rw [if_neg q] at h
      by_cases q2 : colonI l = -1
      · rw [if_pos q2] at h; omega
      · rw [if_neg q2] at h
        obtain ⟨d, rfl⟩ : ∃ d, c = d + 1 := ⟨c - 1, by omega⟩
        obtain ⟨h1, h2⟩ := colonI_spec l d (by omega)
        refine ⟨by simpa using h1, fun i hi => ?_⟩
        cases i with
        | zero => simpa using q
        | succ i => simpa using h2 i (by omega)
theorem linesZ_many : ∀ (k p : Nat) (l : List Int), l.length ≤ k → (linesZ p l).length ≤ l.length
  | 0, p, l, h => by
    obtain rfl : l = [] := List.eq_nil_of_length_eq_zero (by omega)
    simp [linesZ_nil]
  | k + 1, p, l, h => by
    by_cases hl : l = []
    · subst hl; simp [linesZ_nil]
    · have hp : 0 < l.length := List.length_pos_iff.2 hl
      by_cases hi : 0 ≤ pairI l
      · rw [linesZ_pair p l hi]
        have hr := pairI_room l hi
        have := linesZ_many k (p + (pairI l).toNat + 2) (l.drop ((pairI l).toNat + 2)) (by simp; omega)
        simp only [List.length_cons, List.length_drop] at this ⊢
        omega
      · rw [linesZ_last p l hl hi]; simp; omega
set_option maxRecDepth 100000 in
set_option maxHeartbeats 8000000 in
theorem walk (a0 : Option Addr) (len0 cap0 : Nat) (fs : List (ByteArray × ByteArray)) (w : World) (w0 : IsFs w a0 len0 cap0 fs) (hm : Mx w) :
    Calls Tryd.prog 7 #[.slice a0 len0 cap0] w fun e w' => e = .returned (.bool true) ∧ Below w.heap.size w w' := by
  obtain ⟨hn, hlc, hcm, hfr, hnil, _⟩ := w0
  unfold maxLen at hcm
  have HM : Hid (Mx w) := hm
  have HF : Hid (FRow w a0 fs) := hfr
  clear hm hfr
  go_enter Tryd.func7, Tryd.ntmps7
  go_wp2_with fail
  refine (great_any a0 len0 cap0 fs w hn (by omega) HF.out).mono ?_
  rintro e w' ⟨rfl, rfl⟩
  cases hg1 : greatZ fs with
  | true =>
    go_wp2_with fail
    refine (alive_any w HM.out).mono ?_
    rintro e w2 ⟨rfl, hb2⟩
    go_wp2
    go_ret
    exact ⟨rfl, hb2⟩
  | false =>
  obtain ⟨g1, g2⟩ := great_mem hg1
  have HG2 : Hid (∀ f ∈ fs, f.1.size ≤ 200 ∧ f.2.size ≤ 5000) := g2
  clear hg1 g2
  go_wp2_with fail
  refine (write_any a0 len0 cap0 fs w hn (by omega) HF.out (fun f hf => by have := HG2.out f hf; omega)).mono ?_
  rintro e w1 ⟨v, rfl, ho, hb1⟩
  obtain ⟨a2, cap2, rfl, hc2, hm2, hr2, hn2⟩ := own_row' ho
  have HB1 : Hid (Below w.heap.size w w1) := hb1
  have hsw : w.heap.size ≤ w1.heap.size := hb1.size
  clear ho hb1
  by_cases hC : writeC fs = 0
  · have HOK := write_lines hC
    have hlen := writeB_len hC
    have hpos : 2 ≤ (writeB fs).length := by unfold writeB; rw [if_pos hC]; simp
    rw [hC]
    obtain ⟨out, hout⟩ : ∃ out, writeB fs = out := ⟨_, rfl⟩
    rw [hout] at hlen hr2 hc2 HOK hpos ⊢
    clear hout hC
    obtain ⟨b0, off0, rfl⟩ : ∃ b0 off0, a2 = some ⟨b0, off0, none⟩ := by
      rcases hr2 with rfl | ⟨b, off, h, _⟩
      · simp at hpos
      · exact ⟨b, off, h⟩
    have hL := lines_ref (some ⟨b0, off0, none⟩) b0 off0 out.length cap2 out w1 rfl (by omega) hc2 hm2 hr2 (fun _ => rfl)
    have HR2 : Hid (Row w1 (some ⟨b0, off0, none⟩) out) := hr2
    have HLI : Hid (∀ x ∈ linesZ 0 out, 0 ≤ x.1 ∧ x.1 < 0 + out.length ∧ x.1 + x.2.1 ≤ 0 + out.length) := linesZ_in _ 0 out (Nat.le_refl _)
    have HOKL : Hid (∀ x ∈ linesZ 0 out, okLine (pieceZ out x)) := HOK
    have hne : linesZ 0 out ≠ [] := by
      have : out ≠ [] := by rintro rfl; simp at hpos
      by_cases hp : 0 ≤ pairI out
      · rw [linesZ_pair 0 out hp]; simp
      · rw [linesZ_last 0 out this hp]; simp
    obtain ⟨ls, hls⟩ : ∃ ls, linesZ 0 out = ls := ⟨_, rfl⟩
    have hlsn : ls.length ≤ 2000000 := by rw [← hls]; have := linesZ_many out.length 0 out (Nat.le_refl _); omega
    rw [hls] at hL HLI HOKL hne
    clear hls HOK hr2
    unfold maxLen at hm2
    go_wp2_with fail
    refine hL.mono ?_
    clear hL
    rintro e w2 ⟨vL, rfl, hoL, hb2⟩
    obtain ⟨gL, cL, rfl, hgb, hcl⟩ := lineAt hoL hne
    have HCL : Hid (_) := hcl
    have HB2 : Hid (Below w.heap.size w w2) := HB1.out.trans (hb2.mono hsw)
    have HR3 : Hid (Row w2 (some ⟨b0, off0, none⟩) out) := row_below HR2.out hb2
    have hsw2 : w.heap.size ≤ w2.heap.size := HB2.out.size
    clear hoL hb2 hgb hcl hne
    go_wp2
    go_loopw [6] (fun i wr => ∃ k : Nat, i = .int .i64 k ∧ k ≤ ls.length ∧ w2 = wr) (fun i _ => ls.length - (intOf i).toNat)
    case atStart => exact ⟨0, rfl, by omega, rfl⟩
    case round =>
      obtain ⟨k, rfl, hk, rfl⟩ := hrel
      by_cases hlt : k < ls.length
      · have hd1 : decide ((k : Int) < (ls.length : Int)) = true := by simp; omega
        obtain ⟨_, c1, _⟩ := HCL.out k hlt
        have hin := HLI.out ls[k] (List.getElem_mem hlt)
        have hok := HOKL.out ls[k] (List.getElem_mem hlt)
        obtain ⟨⟨p, n, en⟩, hx⟩ : ∃ x, ls[k] = x := ⟨_, rfl⟩
        rw [hx] at c1 hin hok
        simp only at c1 hin
        clear hx
        have HC : Hid (∀ j, j < n → ∃ y, (pieceZ out (p, n, en))[j]? = some y ∧ w2.cell? ⟨b0, off0 + p + j, none⟩ = some (.int .u8 y)) := by
          intro j hj
          have hrow : Row w2 (some ⟨b0, off0 + p, none⟩) (pieceZ out (p, n, en)) := by
            have h := row_take n (row_drop (n := p) (cap := cap2) HR3.out (by omega))
            rw [if_neg (by omega)] at h
            simp only [Option.map_some, add_plain] at h
            exact h
          have hpl : (pieceZ out (p, n, en)).length = n := by simp [pieceZ]; omega
          rcases hrow with h | ⟨b', off', h, hc⟩
          · rw [h] at hpl; simp at hpl; omega
          · cases h
            refine ⟨_, List.getElem?_eq_getElem (by omega), ?_⟩
            rw [hc j (by omega), List.getD_eq_getElem?_getD, List.getElem?_eq_getElem (by omega)]
            rfl
        have hadd : ∀ j, (⟨b0, off0 + p, none⟩ : Addr).add j = ⟨b0, off0 + p + j, none⟩ := fun j => add_plain _ _ _
        have hpl : (pieceZ out (p, n, en)).length = n := by simp [pieceZ]; omega
        obtain ⟨l, hl⟩ : ∃ l, pieceZ out (p, n, en) = l := ⟨_, rfl⟩
        rw [hl] at HC hok hpl
        clear hl
        by_cases h76 : n ≤ 76
        · have hd2 : decide ((n : Int) ≤ 76) = true := by simp; omega
          clear hok
          go_wp2
          go_roundw
          case rel => exact ⟨k + 1, by go_num, by omega, by first | trivial | rfl⟩
          case measure => simp [intOf]; omega
        have hd2 : decide ((n : Int) ≤ 76) = false := by simp; omega
        obtain ⟨y0, hy0, hcy0⟩ := HC.out 0 (by omega)
        rw [Nat.add_zero] at hcy0
        have hhead : l.head? = some y0 := by rw [List.head?_eq_getElem?]; exact hy0
        rcases hok with q | ⟨q1, q2⟩ | ⟨q1, c, q2, q3⟩
        · omega
        · obtain rfl : y0 = 32 := by rw [hhead] at q1; simpa using q1
          have HNB : Hid (∀ j, 1 ≤ j → j ≤ 76 → l[j]? ≠ some 32) := q2
          clear q1 q2 hhead hy0
          go_wp2
          go_loopw [9] (fun v wr => ∃ j : Nat, v = .int .i64 j ∧ 1 ≤ j ∧ j ≤ 77 + 1 ∧ w2 = wr) (fun v _ => 77 - (intOf v).toNat)
          case atStart => exact ⟨1, rfl, by omega, by omega, rfl⟩
          case round =>
            obtain ⟨j, rfl, hj1, hj2, rfl⟩ := hrel
            by_cases hj : j ≤ 76
            · have hdj : decide ((j : Int) ≤ 76) = true := by simp; omega
              obtain ⟨y, hy, hcy⟩ := HC.out j (by omega)
              have hy32 : (y == 32) = false := by rw [beq_eq_false_iff_ne]; intro h; subst h; exact HNB.out j (by omega) hj hy
              clear hy
              go_wp2
              go_roundw
              case rel => exact ⟨j + 1, by go_num, by omega, by omega, by first | trivial | rfl⟩
              case measure => simp [intOf]; omega
            · have hdj : decide ((j : Int) ≤ 76) = false := by simp; omega
              go_wp2
              go_roundw
              case rel => exact ⟨k + 1, by go_num, by omega, by first | trivial | rfl⟩
              case measure => simp [intOf]; omega
        · have hy32 : (y0 != 32) = true := by
            simp only [bne_iff_ne, ne_eq]
            rintro rfl
            exact q1 hhead
          obtain ⟨s1, s2⟩ := colonI_spec l c q2
          have hcn : c < n := by
            rcases Nat.lt_or_ge c n with h | h
            · exact h
            · rw [List.getElem?_eq_none (by omega)] at s1; simp at s1
          have HNB : Hid (∀ j, c + 3 ≤ j → j ≤ 76 → l[j]? ≠ some 32) := q3
          have HS1 : Hid (l[c]? = some 58) := s1
          have HS2 : Hid (∀ i, i < c → l[i]? ≠ some 58) := s2
          clear q1 q2 q3 s1 s2 hhead hy0
          go_wp2
          go_loopw [8] (fun v wr => ∃ q : Nat, v = .int .i64 q ∧ 1 ≤ q ∧ q ≤ c + 1 ∧ w2 = wr) (fun v _ => n - (intOf v).toNat)
          case atStart => exact ⟨1, rfl, by omega, by omega, rfl⟩
          case round =>
            obtain ⟨q, rfl, hq1, hq2, rfl⟩ := hrel
            by_cases hqc : q ≤ c
            · have hdq : decide ((q : Int) < (n : Int)) = true := by simp; omega
              obtain ⟨q', rfl⟩ : ∃ q', q = q' + 1 := ⟨q - 1, by omega⟩
              obtain ⟨y, hy, hcy⟩ := HC.out q' (by omega)
              have hy58 : (y != 58) = true := by
                simp only [bne_iff_ne, ne_eq]
                rintro rfl
                exact HS2.out q' (by omega) hy
              clear hy
              have hs1 : ((q' + 1 : Nat) : Int) - 1 = (q' : Int) := by omega
              go_wp2
              go_roundw
              case rel => exact ⟨q' + 1 + 1, by go_num, by omega, by omega, by first | trivial | rfl⟩
              case measure => simp [intOf]; omega
            · obtain rfl : q = c + 1 := by omega
              obtain ⟨y, hy, hcy⟩ := HC.out c (by omega)
              obtain rfl : y = 58 := by rw [HS1.out] at hy; simpa using hy.symm
              clear hy
              have hs1 : ((c + 1 : Nat) : Int) - 1 = (c : Int) := by omega
              by_cases hcl : c + 1 < n
              · have hdq : decide (((c + 1 : Nat) : Int) < (n : Int)) = true := by simp; omega
                go_wp2
                go_loopw [9] (fun v wr => ∃ j : Nat, v = .int .i64 j ∧ (c + 3) ≤ j ∧ j ≤ 77 + (c + 3) ∧ w2 = wr) (fun v _ => 77 - (intOf v).toNat)
                case atStart => exact ⟨(c + 3), by go_num, by omega, by omega, rfl⟩
                case round =>
                  obtain ⟨j, rfl, hj1, hj2, rfl⟩ := hrel
                  by_cases hj : j ≤ 76
                  · have hdj : decide ((j : Int) ≤ 76) = true := by simp; omega
                    obtain ⟨y, hy, hcy⟩ := HC.out j (by omega)
                    have hy32 : (y == 32) = false := by rw [beq_eq_false_iff_ne]; intro h; subst h; exact HNB.out j (by omega) hj hy
                    clear hy
                    go_wp2
                    go_roundw
                    case rel => exact ⟨j + 1, by go_num, by omega, by omega, by first | trivial | rfl⟩
                    case measure => simp [intOf]; omega
                  · have hdj : decide ((j : Int) ≤ 76) = false := by simp; omega
                    go_wp2
                    go_roundw
                    case rel => exact ⟨k + 1, by go_num, by omega, by first | trivial | rfl⟩
                    case measure => simp [intOf]; omega
              · have hdq : decide (((c + 1 : Nat) : Int) < (n : Int)) = false := by simp; omega
                go_wp2
                go_loopw [9] (fun v wr => ∃ j : Nat, v = .int .i64 j ∧ (c + 3) ≤ j ∧ j ≤ 77 + (c + 3) ∧ w2 = wr) (fun v _ => 77 - (intOf v).toNat)
                case atStart => exact ⟨(c + 3), by go_num, by omega, by omega, rfl⟩
                case round =>
                  obtain ⟨j, rfl, hj1, hj2, rfl⟩ := hrel
                  by_cases hj : j ≤ 76
                  · have hdj : decide ((j : Int) ≤ 76) = true := by simp; omega
                    obtain ⟨y, hy, hcy⟩ := HC.out j (by omega)
                    have hy32 : (y == 32) = false := by rw [beq_eq_false_iff_ne]; intro h; subst h; exact HNB.out j (by omega) hj hy
                    clear hy
                    go_wp2
                    go_roundw
                    case rel => exact ⟨j + 1, by go_num, by omega, by omega, by first | trivial | rfl⟩
                    case measure => simp [intOf]; omega
                  · have hdj : decide ((j : Int) ≤ 76) = false := by simp; omega
                    go_wp2
                    go_roundw
                    case rel => exact ⟨k + 1, by go_num, by omega, by first | trivial | rfl⟩
                    case measure => simp [intOf]; omega
      · have hd1 : decide ((k : Int) < (ls.length : Int)) = false := by simp; omega
        go_wp2_with fail
        refine (alive_any w2 (HM.out.keep HB2.out)).mono ?_
        rintro e w3 ⟨rfl, hb3⟩
        go_wp2
        go_ret
        exact ⟨rfl, HB2.out.trans (hb3.mono hsw2)⟩
  · have hCb : (writeC fs != 0) = true := by simpa using hC
    go_wp2_with fail
    refine (alive_any w1 (HM.out.keep HB1.out)).mono ?_
    rintro e w2 ⟨rfl, hb2⟩
    go_wp2
    go_ret
    exact ⟨rfl, HB1.out.trans (hb2.mono hsw)⟩

set_option maxRecDepth 100000 in
theorem lifted (os : Os) (started : os.Started) (H : Type) (enc : TypeId × Value → H) :
    ReturnsInHanded {} Tryd.checked os 7 .any (fun w args => (Rows.fieldsFoldsSpec.pre enc Tryd.prog Tryd.f7 Rows.fieldsFoldsRow.domain false w args ∧ laidMetH Tryd.prog Rows.fieldsFoldsRow.laid w) ∧ sizedMet enc Tryd.prog Tryd.f7 (OpenSpec.ofChange Rows.fieldsFoldsSpec) false w args)
      (Rows.fieldsFoldsSpec.post enc Tryd.prog Tryd.f7 false true false false) := by
  refine step_both (C := Tryd.checked) (X := fun w _ => laidMetH Tryd.prog Rows.fieldsFoldsRow.laid w) (fun _ _ _ hh h => h.of_heap hh) own started (by kernel_rfl) Tryd.func7
    (ChangeSpec.witness_shaped (enc := enc) (C := Tryd.checked) (os := os) (X := fun w _ => laidMetH Tryd.prog Rows.fieldsFoldsRow.laid w) false (World.laidAll Tryd.prog os Rows.fieldsFoldsRow.laid) #[.slice none 0 0] 8 (World.laidAll_os _ _ _)
      (World.shaped_of_ZipB (by kernel_rfl) (by kernel_rfl)) (by kernel_rfl) (by kernel_rfl) (by kernel_rfl)
      (by rw [MakeChecks.laidMetH_plain _ _ _ (by kernel_rfl)]; exact laidMet_laidAll _ (by kernel_rfl) (by kernel_rfl))) ?_
  intro W base args ds gs before hval0 hW hcnd hsh hL
  have hval : ∀ (j : Nat) t v, Tryd.f7.params[j]? = some t → args[j]? = some v → Value.okWide Tryd.prog W .any base t v := hval0
  have hW' := hW
  obtain ⟨p, q, hA0, hV, rfl, hfz, hnd⟩ := hW
  have hA : DataW.TrodAll enc Tryd.prog W 0 (fun _ => true) true Tryd.f7.params.toList args.toList ds p := hA0
  rw [Tryd.params7] at hA hval
  obtain ⟨v0, vs0, d0, ds0, p0, q0, hargs, rfl, rfl, h0, r0⟩ := trodAll_cons hA
  obtain ⟨rfl, rfl, rfl⟩ := trodAll_nil r0
  obtain rfl : args = #[v0] := by cases args; simp_all
  obtain ⟨rfl, rfl⟩ := trodVars_none hV
  have k0 := h0
  have lt0 : ∀ x ∈ p0, x.block < W.heap.size := by obtain ⟨m, hm⟩ := k0; exact DataW.trod_lt m _ _ _ hm
  obtain ⟨a0, len0, cap0, rfl⟩ := okWide_slice Tryd.underlying24 (hval 0 24 v0 rfl rfl)
  obtain ⟨z0, w0⟩ := fields_arg h0
  clear hA0 hval0
  refine (walk a0 len0 cap0 z0 W w0 (laysM185.s1_3 W hsh)).mono fun e W' ⟨he, bel⟩ => ?_
  subst he
  exact ⟨_, rfl, _, _, _, [], _, [], hW', trodAll_mk1 (shut_bool Tryd.underlying4 _), (trodAll_cons_mk (Below.trod laidOut (by kernel_rfl) (of_decide_eq_true (by kernel_rfl)) k0 bel lt0) trodAll_mk0), rfl, bel.frame _, fun h => by cases h⟩

theorem over : Rows.FieldsFoldsSaid :=
  OpenClaim.holds_of_wide 7 Tryd.f7 rfl rfl rfl rfl rfl rfl rfl ⟨rfl, rfl, rfl, rfl, rfl⟩ rfl rfl rfl rfl rfl (by kernel_rfl) Tryd.func7 (by kernel_rfl)
    (of_decide_eq_true (by kernel_rfl)) (by unfold Func.isWrapper; first | (rw [if_pos (by decide +kernel)]; kernel_rfl) | (rw [if_neg (by decide +kernel)]; exact ⟨rfl, rfl⟩))
    (fun os started H enc _ => lifted os started H enc)
end Go.Proofs.YtnpjffpioimcdaaDoor.fieldsFolds
namespace Go.Proofs.YtnpjffpioimcdaaDoor
theorem fieldsFolds_card : Rows.FieldsFoldsCardSaid :=
  Claim7.holds_tied_plain_at .later [] _ _ _ _ fieldsFolds.over (fun _ h => by cases h) (by kernel_rfl) (fun _ h => by cases h) fieldsFolds_row_tie rfl ⟨rfl, rfl⟩ (by kernel_rfl) rfl
    (fun f fn hf hfn => by
      obtain rfl : f = 7 := Option.some.inj ((show Tryd.prog.funcNamed Rows.fieldsFoldsRow.func = some 7 by kernel_rfl).symm.trans hf) |>.symm
      obtain rfl : fn = Tryd.f7 := (Option.some.inj (Tryd.func7.symm.trans hfn)).symm
      exact ⟨by kernel_rfl, fun j t ht => by
        rw [Tryd.params7] at ht
        have hm : t ∈ [24] := by simpa using Array.mem_of_getElem? ht
        have hall : ([24].all fun u => !Tryd.prog.wantsStandIn u) = true := by kernel_rfl
        exact (show Tryd.prog.wantsStandIn t = false by simpa using List.all_eq_true.1 hall t hm)⟩)
    (by kernel_rfl)
#print axioms fieldsFolds_card
end Go.Proofs.YtnpjffpioimcdaaDoor
