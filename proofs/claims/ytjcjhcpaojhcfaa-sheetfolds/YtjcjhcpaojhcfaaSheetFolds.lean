/-
  SheetFolds: whatever lines come, no line of what is written has more than 75 bytes, none parts the bytes of a point, and each one that is folded has more than 71.
-/
import Derived.Test.YtjcjhcpaojhcfaaRows
import Derived.Test.YtjcjhcpaojhcfaaFm
import Derived.Test.YtjcjhcpaojhcfaaAl
import Derived.WalkKit
import Derived.ProofKit
import Derived.OpenShut
import Derived.ShutString
import Derived.ChangeOld
import Derived.Below
import Derived.HandedShaped
namespace Go.Proofs.Ytjcjhcpaojhcfaa.sheetFolds
open Go.ChangeShapes Go.WideShapes Go.ChangeAt Go.RowKit
open Go.ChangeMaps (open_string shut_string)
set_option linter.unusedVariables false

theorem drop_take_at {zs x : List Int} {q : Nat} (h : (zs.drop q).take x.length = x) (i : Nat) (hi : i < x.length) : zs.getD (q + i) 0 = x.getD i 0 := by
  have : x[i]? = zs[q + i]? := by
    rw [← h, List.getElem?_take]
    simp [hi, List.getElem?_drop]
  rw [List.getD_eq_getElem?_getD, List.getD_eq_getElem?_getD, this]
theorem row_part {w : World} {b off q : Nat} {zs x : List Int} (h : Row w (some ⟨b, off, none⟩) zs) (hx : (zs.drop q).take x.length = x) (hq : q + x.length ≤ zs.length) : Row w (some ⟨b, off + q, none⟩) x := by
  rcases h with rfl | ⟨b', off', e, h⟩
  · left
    simpa using hx
  · simp at e
    obtain ⟨rfl, rfl⟩ := e
    refine .inr ⟨b, off + q, rfl, fun i hi => ?_⟩
    rw [Nat.add_assoc, h (q + i) (by omega), drop_take_at hx i hi]
theorem ownL_at {w : World} {B : Nat} {v : Value} {b off cap : Nat} {ls : List (Nat × Nat × Bool)} (h : OwnL w B v b off cap ls) (hne : ls ≠ []) :
    ∃ g c, v = .slice (some ⟨g, 0, none⟩) ls.length c ∧ ∀ i x, ls[i]? = some x → w.cell? ⟨g, i * 3 + 1, none⟩ = some (.slice (some ⟨b, off + x.1, none⟩) x.2.1 (cap - x.1)) ∧ w.cell? ⟨g, i * 3 + 2, none⟩ = some (.bool x.2.2) := by
  have h0 := h
  rcases h.2 with ⟨rfl, hn⟩ | ⟨g, c, cur, rfl, hb, hg, hn, hm, hs, ht⟩
  · exact absurd (List.eq_nil_of_length_eq_zero hn) hne
  · refine ⟨g, c, rfl, fun i x hx => ?_⟩
    have key : ∀ j, j < 3 → (ls.flatMap (cellL b off cap))[i * 3 + j]? = (cellL b off cap x)[j]? := by
      intro j hj
      clear h0 h hg hn hm hs ht hb hne
      induction ls generalizing i with
      | nil => simp at hx
      | cons y r ih =>
        cases i with
        | zero =>
          simp only [List.getElem?_cons_zero, Option.some.injEq] at hx
          subst hx
          rw [List.flatMap_cons, List.getElem?_append_left (by simp [cellL]; omega)]
          simp
        | succ i =>
          simp only [List.getElem?_cons_succ] at hx
          rw [List.flatMap_cons, List.getElem?_append_right (by simp [cellL]; omega)]
          rw [← ih i hx]
          congr 1
          simp [cellL]; omega
    have c1 := h0.cells (g := g) rfl (i * 3 + 1) _ (by rw [key 1 (by omega)]; rfl)
    have c2 := h0.cells (g := g) rfl (i * 3 + 2) _ (by rw [key 2 (by omega)]; rfl)
    rw [add_plain] at c1 c2
    exact ⟨by simpa using c1, by simpa using c2⟩
set_option maxHeartbeats 8000000 in
set_option maxRecDepth 100000 in
theorem walk (a : Option Addr) (len cap : Nat) (ls : List Lm) (w : World) (h : IsLs w a len ls) : Calls Try.prog 5 #[.slice a len cap] w fun e w' => e = .returned (.bool true) ∧ Below w.heap.size w w' := by
  have hgr := great_any a len cap ls w h
  obtain ⟨hn, hbig, hr, hwide⟩ := h
  have HR : Hid (LRow w a ls) := hr
  clear hr hwide
  go_enter Try.func5, Try.ntmps5
  go_wp2_with fail
  refine hgr.mono ?_
  rintro e w0 ⟨b0, q0, rfl, rfl, hgf⟩
  cases b0 with
  | true =>
    go_wp2_with (go_at_call 7; refine (alive_any _).mono ?_; rintro e w1 ⟨rfl, hb1⟩)
    go_ret
    exact ⟨rfl, (below_drewN (Below.refl _ _) q0).trans (hb1.mono (by simp))⟩
  | false =>
    obtain ⟨h60, hsm⟩ := hgf rfl
    have hwr := write_any a len cap ls (w.drewN q0) hn (by omega) HR.out (fun m hm => (hsm m hm).fit)
    unfold WPost at hwr
    clear hgf hgr hsm
    go_wp2_with fail
    refine hwr.mono ?_
    rintro e w1 ⟨v, rfl, hown, hb1⟩
    have HB1 : Hid (Below w.heap.size w w1) := (below_drewN (Below.refl _ _) q0).trans hb1
    clear hb1 hwr
    by_cases hc0 : writeC ls = 0
    case neg =>
      have hne : (writeC ls != 0) = true := by simp [hc0]
      obtain ⟨c, hc⟩ : ∃ c, writeC ls = c := ⟨_, rfl⟩
      rw [hc] at hne ⊢
      clear hown hc0 hc
      go_wp2_with (go_at_call 7; refine (alive_any _).mono ?_; rintro e w2 ⟨rfl, hb2⟩)
      go_ret
      exact ⟨rfl, HB1.out.trans (hb2.mono HB1.out.size)⟩
    have hok : ls.all okM = true := by
      unfold writeC at hc0
      split at hc0
      · cases hc0
      · split at hc0
        · cases hc0
        · rename_i h; simpa using h
    have hwb : writeB ls = outM ls := by unfold writeB; rw [if_pos hc0]
    obtain ⟨hgood, heach, hlen, _⟩ := all_good ls hok
    have HG : Hid (Good (ls.flatMap linesM)) := hgood
    have HE : Hid (∀ x ∈ ls.flatMap linesM, 1 ≤ x.length ∧ x.length ≤ 75 ∧ (∃ us, Ut.AllPt us ∧ x = Ut.flat us) ∧ ∀ c ∈ x, 32 ≤ c ∨ c = 9) := heach
    have HLN : Hid (linesZ 0 (outM ls) = placed 0 (ls.flatMap linesM)) := lines_end _ 0 (fun l hl h13 => by have := (heach l hl).2.2.2 13 h13; omega)
    rw [hwb] at hown
    rw [hc0]
    have hzl : (outM ls).length ≤ 630000 := by
      have : 10500 * ls.length ≤ 10500 * 60 := Nat.mul_le_mul_left _ (by omega)
      omega
    obtain ⟨zs, hzs⟩ : ∃ zs, outM ls = zs := ⟨_, rfl⟩
    have HZS : Hid (endW (ls.flatMap linesM) = zs) := hzs
    rw [hzs] at hown hzl HLN
    obtain ⟨L, hL⟩ : ∃ L, ls.flatMap linesM = L := ⟨_, rfl⟩
    rw [hL] at HG HE HLN HZS
    obtain ⟨a1, c1, rfl, hcl, hcm, hrow, _⟩ := own_row' hown
    clear hown hgood heach hlen hwb hc0 hok hzs hL
    obtain ⟨bb, oo, ha⟩ : ∃ bb oo, zs ≠ [] → a1 = some ⟨bb, oo, none⟩ := by
      rcases hrow with h | ⟨bb, oo, h, _⟩
      · exact ⟨0, 0, fun q => absurd h q⟩
      · exact ⟨bb, oo, fun _ => h⟩
    have HRW : Hid (Row w1 a1 zs) := hrow
    have HA : Hid (zs ≠ [] → a1 = some ⟨bb, oo, none⟩) := ha
    have hlr := lines_ref a1 bb oo zs.length c1 zs w1 rfl (by omega) hcl hcm hrow ha
    rw [HLN.out] at hlr
    clear hrow ha
    obtain ⟨nz, hnz⟩ : ∃ nz, zs.length = nz := ⟨_, rfl⟩
    have HNZ : Hid (zs.length = nz) := hnz
    rw [hnz] at hlr hcl ⊢
    clear hnz
    go_wp2_with fail
    refine hlr.mono ?_
    rintro e w2 ⟨v2, rfl, hol, hb2⟩
    have HB2 : Hid (Below w.heap.size w w2) := HB1.out.trans (hb2.mono HB1.out.size)
    have HRW2 : Hid (Row w2 a1 zs) := row_below HRW.out hb2
    have hpl : (placed 0 L).length = L.length := placed_len L 0
    obtain ⟨g, c2, av, rfl, hcells⟩ : ∃ g c2 av, v2 = .slice av L.length c2 ∧ (L ≠ [] → av = some ⟨g, 0, none⟩ ∧ ∀ i x, (placed 0 L)[i]? = some x → w2.cell? ⟨g, i * 3 + 1, none⟩ = some (.slice (some ⟨bb, oo + x.1, none⟩) x.2.1 (c1 - x.1)) ∧ w2.cell? ⟨g, i * 3 + 2, none⟩ = some (.bool x.2.2)) := by
      cases hLe : L with
      | nil =>
        rw [hLe] at hol
        rcases hol.2 with ⟨e, hn0⟩ | ⟨g, c, cur, e, hb, hg, hn0, hm, hs, ht⟩
        · exact ⟨0, 0, none, by rw [e]; rfl, fun q => absurd rfl q⟩
        · exact ⟨g, c, some ⟨g, 0, none⟩, by rw [e]; rfl, fun q => absurd rfl q⟩
      | cons l L' =>
        obtain ⟨g, c, e, hh⟩ := ownL_at hol (by rw [hLe]; simp [placed])
        rw [hpl, hLe] at e
        rw [hLe] at hh
        exact ⟨g, c, _, e, fun _ => ⟨rfl, hh⟩⟩
    have HC : Hid (L ≠ [] → av = some ⟨g, 0, none⟩ ∧ ∀ i x, (placed 0 L)[i]? = some x → w2.cell? ⟨g, i * 3 + 1, none⟩ = some (.slice (some ⟨bb, oo + x.1, none⟩) x.2.1 (c1 - x.1)) ∧ w2.cell? ⟨g, i * 3 + 2, none⟩ = some (.bool x.2.2)) := hcells
    have hLl : L.length ≤ 630000 := by
      have : ∀ M : List (List Int), M.length ≤ (endW M).length := by
        intro M
        induction M with
        | nil => simp
        | cons m M ih =>
          have e : endW (m :: M) = m ++ [13, 10] ++ endW M := by simp [endW]
          rw [e]; simp; omega
      have := this L
      rw [HZS.out] at this
      omega
    clear hol hb2 hcells hlr hpl HRW HB1
    go_wp2
    go_loopw [6, 7] (fun i _ wr => ∃ k : Nat, i = .int .i64 k ∧ k ≤ L.length ∧ w2 = wr) (fun i _ _ => L.length - (intOf i).toNat)
    case atStart => exact ⟨0, rfl, by omega, rfl⟩
    case round =>
      obtain ⟨k, rfl, hk, rfl⟩ := hrel
      by_cases hlt : k < L.length
      · have dl : decide ((k : Int) < (L.length : Int)) = true := by simp; omega
        obtain ⟨x, hxk⟩ : ∃ x, L[k]? = some x := ⟨_, List.getElem?_eq_getElem hlt⟩
        have hne : L ≠ [] := by intro h; rw [h] at hlt; simp at hlt
        obtain ⟨rfl, hcc⟩ := HC.out hne
        obtain ⟨q, hq1, hq2, hq3, hq4⟩ := placed_at L 0 k x hxk
        rw [HZS.out] at hq3 hq4
        simp only [Nat.sub_zero] at hq3 hq4
        obtain ⟨d1, d2⟩ := hcc k _ hq1
        simp only at d1 d2
        obtain ⟨x1, x2, ⟨us, hus, hxu⟩, x3⟩ := HE.out x (List.mem_of_getElem? hxk)
        have hzne : zs ≠ [] := by intro h; rw [h] at hq4; simp at hq4
        have hrow : Row w2 (some ⟨bb, oo + q, none⟩) x := row_part (by rw [← HA.out hzne]; exact HRW2.out) hq3 (by omega)
        have hxb : Byt x := by rw [hxu]; exact Ut.flat_byt hus
        have hvz : validZ x = true := by
          have := valid_flat us [] _ hus rfl (Nat.le_refl _)
          rw [List.append_nil, ← hxu] at this
          exact this
        have hval := valid_row (some ⟨bb, oo + q, none⟩) x.length (c1 - q) x w2 rfl hxb (by have := HNZ.out; omega) (by omega) hrow
        rw [hvz] at hval
        have hxg := HG.out k x
        have e1 : ((x.length : Int) == 0) = false := by rw [beq_eq_false_iff_ne]; omega
        have e2 : decide ((75 : Int) < (x.length : Int)) = false := by simp; omega
        have HXG : Hid (∀ y, L[k + 1]? = some y → y.head? = some 32 → 72 ≤ x.length) := fun y hy hh => hxg y hxk hy hh
        clear hxu hxb hvz x3 hus hxg hxk hq1 hq3
        obtain ⟨xl, hxl⟩ : ∃ xl, x.length = xl := ⟨_, rfl⟩
        rw [hxl] at d1 hval e1 e2 HXG x1 x2 hq4
        by_cases hlt2 : k + 1 < L.length
        · have dl2 : decide ((k : Int) + 1 < (L.length : Int)) = true := by simp; omega
          obtain ⟨y, hyk⟩ : ∃ y, L[k + 1]? = some y := ⟨_, List.getElem?_eq_getElem hlt2⟩
          obtain ⟨q', g1, g2, g3, g4⟩ := placed_at L 0 (k + 1) y hyk
          rw [HZS.out] at g3 g4
          simp only [Nat.sub_zero] at g3 g4
          obtain ⟨f1, f2⟩ := hcc (k + 1) _ g1
          simp only at f1 f2
          have hyr : Row w2 (some ⟨bb, oo + q', none⟩) y := row_part (by rw [← HA.out hzne]; exact HRW2.out) g3 (by omega)
          obtain ⟨y1, _, _, y3⟩ := HE.out y (List.mem_of_getElem? hyk)
          have e3 : decide ((0 : Int) < (y.length : Int)) = true := by simp; omega
          have hy0 : w2.cell? ⟨bb, oo + q', none⟩ = some (.int .u8 (y.getD 0 0)) := by
            rcases hyr with h | ⟨b', o', e, h⟩
            · rw [h] at y1; simp at y1
            · simp at e
              obtain ⟨rfl, rfl⟩ := e
              exact h 0 (by omega)
          have hhd : y.head? = some (y.getD 0 0) := by
            cases y with
            | nil => simp at y1
            | cons c y => rfl
          obtain ⟨yc, hyc⟩ : ∃ yc, y.getD 0 0 = yc := ⟨_, rfl⟩
          rw [hyc] at hy0 hhd
          have hsh := HXG.out y hyk
          rw [hhd] at hsh
          have kk1 : (k : Int) + 1 < (L.length : Int) := by omega
          have kk2 : (0 : Int) ≤ (k : Int) + 1 := by omega
          have kk3 : ((k : Int) + 1).toNat = k + 1 := by omega
          obtain ⟨yl, hyl⟩ : ∃ yl, y.length = yl := ⟨_, rfl⟩
          rw [hyl] at f1 e3
          have hy1 : 1 ≤ yl := by omega
          clear hcc g1 g3 hyk hyr y3 hyc
          by_cases h32 : yc = 32
          · have e4 : (yc == 32) = true := by simp [h32]
            have e5 : decide ((xl : Int) < 72) = false := by have := hsh (by rw [h32]); simp; omega
            clear hsh h32
            go_wp2_with (go_at_call 17; refine hval.mono ?_; rintro e w3 ⟨rfl, rfl⟩)
            go_roundw
            case rel => exact ⟨k + 1, by go_num, by omega, by first | rfl | trivial⟩
            case measure => simp [intOf]; omega
          · have e4 : (yc == 32) = false := by simp [h32]
            clear hsh
            go_wp2_with (go_at_call 17; refine hval.mono ?_; rintro e w3 ⟨rfl, rfl⟩)
            go_roundw
            case rel => exact ⟨k + 1, by go_num, by omega, by first | rfl | trivial⟩
            case measure => simp [intOf]; omega
        · have dl2 : decide ((k : Int) + 1 < (L.length : Int)) = false := by simp; omega
          clear hcc
          go_wp2_with (go_at_call 17; refine hval.mono ?_; rintro e w3 ⟨rfl, rfl⟩)
          go_roundw
          case rel => exact ⟨k + 1, by go_num, by omega, by first | rfl | trivial⟩
          case measure => simp [intOf]; omega
      · obtain rfl : k = L.length := by omega
        have dl : decide ((L.length : Int) < (L.length : Int)) = false := by simp
        go_wp2_with (go_at_call 7; refine (alive_any _).mono ?_; rintro e w3 ⟨rfl, hb3⟩)
        go_ret
        exact ⟨rfl, HB2.out.trans (hb3.mono HB2.out.size)⟩

set_option maxRecDepth 100000 in
theorem lifted (os : Os) (started : os.Started) (H : Type) (enc : TypeId × Value → H) :
    ReturnsInHanded {} Try.checked os 5 .any (Rows.sheetFoldsSpec.pre6 enc Try.prog Try.f5 Rows.sheetFoldsRow.domain false) (Rows.sheetFoldsSpec.post enc Try.prog Try.f5 false true false false) := by
  refine returnsInHanded_of_change_shaped (C := Try.checked) own started (by kernel_rfl) Try.func5
    (ChangeSpec.witness6 (enc := enc) (C := Try.checked) false ⟨#[], #[.slice none 0 0], []⟩ 8 (by kernel_rfl) (by kernel_rfl) (by kernel_rfl) (by kernel_rfl)) ?_
  intro W base args ds gs before hval0 hW hcnd hsz0 hsh _
  have hval : ∀ (j : Nat) t v, Try.f5.params[j]? = some t → args[j]? = some v → Value.okWide Try.prog W .any base t v := hval0
  have hsz : (DataW.weightsEach Try.prog (Try.f5.params.toList ++ Rows.sheetFoldsSpec.plain.varTypes Try.prog) (ds ++ gs)).all (· ≤ reachBytes) = true := hsz0
  have hW' := hW
  obtain ⟨p, q, hA0, hV, rfl, hfz, hnd⟩ := hW
  have hA : DataW.TrodAll enc Try.prog W 0 (fun _ => true) true Try.f5.params.toList args.toList ds p := hA0
  rw [Try.params5] at hA hval hsz
  obtain ⟨v0, vs0, d0, ds0, p0, q0, hargs, rfl, rfl, h0, r0⟩ := trodAll_cons hA
  obtain ⟨rfl, rfl, rfl⟩ := trodAll_nil r0
  obtain rfl : args = #[v0] := by cases args; simp_all
  obtain ⟨rfl, rfl⟩ := trodVars_none hV
  obtain ⟨a0, len0, cap0, rfl⟩ := okWide_slice Try.underlying22 (hval 0 22 v0 rfl rfl)
  have k0 := h0
  have lt0 : ∀ x ∈ p0, x.block < W.heap.size := by obtain ⟨m, hm⟩ := k0; exact DataW.trod_lt m _ _ _ hm
  obtain ⟨L0, g0⟩ := lines_arg h0 (fun n hn => by simpa using List.all_eq_true.1 hsz n (DataW.weights_mem_each (j := 0) rfl rfl n hn))
  clear hA0 hval0
  refine (walk a0 len0 cap0 L0 W g0).mono fun e W' ⟨he, bel⟩ => ?_
  subst he
  exact ⟨_, rfl, _, _, _, [], _, [], hW', trodAll_mk1 (shut_bool Try.underlying4 _), (trodAll_cons_mk (Below.trod laidOut (by kernel_rfl) (of_decide_eq_true (by kernel_rfl)) k0 bel lt0) trodAll_mk0), rfl, bel.frame _, fun h => by cases h⟩

theorem over : Rows.SheetFoldsSaid :=
  OpenClaim.holds_of_wide 5 Try.f5 rfl rfl rfl rfl rfl rfl rfl ⟨rfl, rfl, rfl, rfl, rfl⟩ rfl rfl rfl rfl rfl (by kernel_rfl) Try.func5 (by kernel_rfl)
    (of_decide_eq_true (by kernel_rfl)) (by unfold Func.isWrapper; first | (rw [if_pos (by decide +kernel)]; kernel_rfl) | (rw [if_neg (by decide +kernel)]; exact ⟨rfl, rfl⟩))
    (fun os started H enc _ => lifted os started H enc)
end Go.Proofs.Ytjcjhcpaojhcfaa.sheetFolds
namespace Go.Proofs.Ytjcjhcpaojhcfaa
theorem sheetFolds_holds : Rows.SheetFoldsSaid := sheetFolds.over
#print axioms sheetFolds_holds
end Go.Proofs.Ytjcjhcpaojhcfaa
