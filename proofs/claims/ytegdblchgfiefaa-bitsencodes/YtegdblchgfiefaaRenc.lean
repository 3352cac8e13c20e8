/-
  The contracts of Sign and of the reference's Encode.
-/
import Derived.Test.YtegdblchgfiefaaRmath
namespace Go.Proofs.Ytegdblchgfiefaa
open Go.RowKit
set_option linter.unusedVariables false

set_option maxHeartbeats 1000000 in
theorem sign_any (v : Int) (w : World) : Calls Try.prog 13 #[.int .i64 v] w fun e w' => e = .returned (.tuple #[.int .u8 (sgnZ v), .bool (decide (0 ≤ v ∧ v < 64))]) ∧ w = w' := by
  by_cases hv : 0 ≤ v ∧ v < 64
  · obtain ⟨n, rfl⟩ := Int.eq_ofNat_of_zero_le hv.1
    have hn : n < 64 := by omega
    have hn' : (n : Int) < 64 := hv.2
    rw [decide_eq_true hv, show sgnZ (n : Int) = sgn n from by unfold sgnZ; rw [if_pos hv]; rfl]
    clear hv
    go_enter Try.func13, Try.ntmps13
    go_wp2
    go_ret2
    refine ⟨?_, rfl⟩
    have := sgn_get n (by exact hn)
    rw [← this]
    rfl
  · rw [decide_eq_false hv, show sgnZ v = 0 from by unfold sgnZ; rw [if_neg hv]]
    rcases (show v < 0 ∨ (¬ v < 0 ∧ 64 ≤ v) from by omega) with h | ⟨h, h'⟩
    · clear hv
      go_enter Try.func13, Try.ntmps13
      go_wp2
      go_ret2
      exact ⟨rfl, rfl⟩
    · clear hv
      go_enter Try.func13, Try.ntmps13
      go_wp2
      go_ret2
      exact ⟨rfl, rfl⟩

theorem lenOf_sl (a : Option Addr) (n c : Nat) : lenOf (.slice a n c) = n := rfl
theorem intOf_i (k : IntKind) (x : Int) : intOf (.int k x) = x := rfl
/-- How long the loop still runs. -/
def muZ (ln : Int) (d : List Int) : Nat := d.length + (if d = [] then ((4 - ln % 4) % 4).toNat else 4)
theorem app_new {ops : Array Oper} {rest : List Oper} {o : Oper} {a : Act} {Q : Exit → Act → World → Prop} (W : World) (hgd : o.guard = none) (s x : Operand)
    (ho : o.op = .call { callee := .builtin .append, args := #[s, x], argTypes := #[22, 22] }) (B : Nat) (v : Value) (l : List Int) (hs : a.eval s = v) (hown : Own W B v l)
    (m : Nat) (r : List Int) (C : Array Value) (hC : (r.map (Value.int .u8)).toArray = C) (hx : a.eval x = .slice (some ⟨W.heap.size, 0, none⟩) m m) (hm : r.length = m) (hlen : l.length + m ≤ 100000000000000) (hB : B ≤ W.heap.size)
    (h : ∀ v' w', Own w' B v' (l ++ r) → Below B W w' → wpList Try.prog ops Q rest (a.put o.dst v') w') : wpList Try.prog ops Q (o :: rest) a (W.alloc (.cells C 5)) := by
  subst hC
  obtain ⟨j0, hi, hz0, hz1, hz2⟩ := info_parts Try.info5
  refine wpList_append_rowk hgd s x 22 ho B 5 j0 (.int .u8 0) 1 Try.underlying22 hi hz0 hz1 hz2 rfl .u8 v l.length _ hs (own_keep hown (keep W _)) _ m m r hx hm (by simp) (row_new W r) (by unfold maxLen; omega) (by omega) (by simp; omega) ?_
  intro v2 w2 hown2 hgrow2
  refine h v2 w2 (own_snoc (by rw [hm]; exact hown2)) (((keep W _).mono hB).trans ((Below.refl B _).grown hgrow2 (by simp; omega) ?_))
  intro k hk
  rcases hown.2 with ⟨rfl, _⟩ | ⟨b, cap, cur, rfl, h2, _⟩
  · simp [Value.ownBlock] at hk
  · simp [Value.ownBlock] at hk; omega
theorem rowK_drop {k : IntKind} {w : World} {b off : Nat} {l : List Int} (n : Nat) (h : RowK k w (some ⟨b, off, none⟩) l) : RowK k w (some ⟨b, off + n, none⟩) (l.drop n) := by
  rcases h with rfl | ⟨b', off', e, h⟩
  · exact .inl (by simp)
  · cases e
    refine .inr ⟨b, off + n, rfl, fun i hi => ?_⟩
    rw [List.length_drop] at hi
    rw [Nat.add_assoc, h (n + i) (by omega)]
    simp [List.getD_eq_getElem?_getD]

set_option maxRecDepth 100000 in
set_option maxHeartbeats 8000000 in
theorem rencode_ok (a : Option Addr) (len cap : Nat) (wd : Int) (l : List Int) (w : World) (hl : l.length = len) (hb : Byt l) (hcap : len ≤ cap) (hm : cap ≤ 9223372036854775807) (hs : len ≤ 10000) (h0 : 0 ≤ wd) (h1 : wd ≤ 76) (h2 : wd % 4 = 0) (hrow : Row w a l) :
    Calls Try.prog 11 #[.slice a len cap, .int .i64 wd] w fun e w' => e = .returned (.tuple #[.string (strOfNums (encW wd 0 l)), .int .i64 0]) ∧ Below w.heap.size w w' := by
  have hmay := may_any len wd w
  rw [show mayZ len wd = 0 from by unfold mayZ; rw [if_neg (by omega), if_neg (by omega)]] at hmay
  have hdg := digits_any a len cap l w hl hb hcap hm hs hrow
  have H2 : Hid (wd % 4 = 0) := h2
  have HT : Hid (gsF wd (16 * len + 8) 0 (binZ l) = encW wd 0 l) := gs_enc wd h2 l.length l _ 0 (Nat.le_refl _) hb (by omega) (by rw [hl]; omega)
  have hdl := bin_len l
  rw [hl] at hdl
  have HDG : Hid (Dig (binZ l)) := bin_dig l
  have hel : (encW wd 0 l).length ≤ 6 * len := by have := encW_len wd l.length 0 l (Nat.le_refl _); rw [hl] at this; exact this
  obtain ⟨T, hT⟩ : ∃ T, encW wd 0 l = T := ⟨_, rfl⟩
  obtain ⟨D, hD⟩ : ∃ D, binZ l = D := ⟨_, rfl⟩
  rw [hT] at HT hel ⊢
  rw [hD] at HT HDG hdl hdg
  clear hT hD h2 hl hb hrow
  go_enter Try.func11, Try.ntmps11
  go_wp2_with fail
  refine hmay.mono ?_
  clear hmay
  rintro e w0 ⟨rfl, rfl⟩
  go_wp2_with fail
  refine hdg.mono ?_
  clear hdg
  rintro e w1 ⟨v1, rfl, ho1, hB1⟩
  obtain ⟨a1, c1, rfl, hc1, hm1, hr1, hn1⟩ := own_row' ho1
  have HB1 : Hid (Below w.heap.size w w1) := hB1
  have HR1 : Hid (RowK .i64 w1 a1 D) := hr1
  unfold maxLen at hm1
  clear ho1 hB1 hr1
  go_wp2_with fail
  go_loopw [7, 8, 9] (fun vd vo vl wr => ∃ (ad : Option Addr) (cd n : Nat) (d out : List Int) (ln : Int), vd = .slice ad d.length cd ∧ vl = .int .i64 ln ∧ d.length ≤ cd ∧ cd ≤ 2 ^ 63 - 1 ∧ d.length ≤ 8 * len ∧ 0 ≤ ln ∧ ln ≤ out.length ∧ Dig d ∧ RowK .i64 w1 ad d ∧ T = out ++ gsF wd n ln d ∧ muZ ln d ≤ n ∧ Own wr w1.heap.size vo out ∧ Below w1.heap.size w1 wr) (fun vd _ vl _ => 2 * lenOf vd + (if lenOf vd = 0 then ((4 - intOf vl % 4) % 4).toNat else 4))
  case atStart => exact ⟨a1, c1, 16 * len + 8, D, [], 0, by rw [hdl], rfl, hc1, by omega, by omega, by omega, by simp, HDG.out, HR1.out, by rw [HT.out]; simp, by unfold muZ; split <;> simp <;> omega, World.ownsRow_nil _ _ _ _, Below.refl _ _⟩
  case round =>
    obtain ⟨ad, cd, n, d, out, ln, rfl, rfl, hcd, hcdm, hdl8, hln0, hln1, hdd, hrd, hgs, hmu, hown, hbel⟩ := hrel
    have HDD : Hid (Dig d) := hdd
    have HRD : Hid (RowK .i64 w1 ad d) := hrd
    have HMU : Hid (muZ ln d ≤ n) := hmu
    have HOW : Hid (Own wr w1.heap.size u8 out) := hown
    have HBW : Hid (Below w1.heap.size w1 wr) := hbel
    have hol : out.length ≤ 6 * len := by have := congrArg List.length hgs; rw [List.length_append] at this; omega
    have HGS0 : Hid (T = out ++ gsF wd n ln d) := hgs
    clear hdd hrd hmu hown hbel hgs
    by_cases hdn : d = []
    · subst hdn
      by_cases h4 : ln % 4 = 0
      · have h4' : ¬ 0 < ln % 4 := by omega
        have HTT : Hid (T = out) := by unfold Hid; rw [HGS0.out, gsF_end _ _ _ h4, List.append_nil]
        obtain ⟨ao, co, rfl, _, _, hro, _⟩ := own_row' HOW.out
        have kc := conv_row out.length co rfl hro
        clear h4
        go_wp2
        go_ret2
        exact ⟨by rw [HTT.out]; rfl, HB1.out.trans (HBW.out.mono HB1.out.size)⟩
      · have h4' : 0 < ln % 4 := by omega
        have hmu1 : 1 ≤ n := by have := HMU.out; unfold muZ at this; simp at this; omega
        obtain ⟨n', rfl⟩ : ∃ n', n = n' + 1 := ⟨n - 1, by omega⟩
        have hgp := gsF_pad wd n' ln H2.out h4
        have HGS : Hid (T = out ++ [61] ++ gsF wd n' (ln + 1) []) := by unfold Hid; rw [HGS0.out, hgp]; simp
        have hnw : ¬ ln = wd := by intro e; rw [e] at h4; exact h4 H2.out
        have hnb : (ln == wd) = false := by rw [beq_eq_false_iff_ne]; exact hnw
        clear hgp h4 hnw
        by_cases hw : 0 < wd
        · go_wp2_with (at_builtin; refine app_new wr rfl (.tmp 44) (.tmp 45) rfl w1.heap.size u8 out rfl HOW.out 1 [61] #[.int .u8 61] rfl rfl rfl (by omega) HBW.out.size ?_)
          intro v9 x9 hO9 hB9
          have OW9 : Hid (Own x9 w1.heap.size v9 (out ++ [61])) := hO9
          have BW9 : Hid (Below w1.heap.size w1 x9) := HBW.out.trans hB9
          clear hO9 hB9
          go_wp2
          go_roundw
          case rel => exact ⟨ad, cd, n', [], out ++ [61], ln + 1, rfl, rfl, hcd, by omega, by simp, by omega, by simp; omega, HDD.out, HRD.out, HGS.out, by have := HMU.out; unfold muZ at this ⊢; simp at this ⊢; omega, OW9.out, BW9.out⟩
          case measure => (simp only [lenOf_sl, intOf_i, List.length_nil, if_true]; omega)
        · go_wp2_with (at_builtin; refine app_new wr rfl (.tmp 44) (.tmp 45) rfl w1.heap.size u8 out rfl HOW.out 1 [61] #[.int .u8 61] rfl rfl rfl (by omega) HBW.out.size ?_)
          intro v9 x9 hO9 hB9
          have OW9 : Hid (Own x9 w1.heap.size v9 (out ++ [61])) := hO9
          have BW9 : Hid (Below w1.heap.size w1 x9) := HBW.out.trans hB9
          clear hO9 hB9
          go_wp2
          go_roundw
          case rel => exact ⟨ad, cd, n', [], out ++ [61], ln + 1, rfl, rfl, hcd, by omega, by simp, by omega, by simp; omega, HDD.out, HRD.out, HGS.out, by have := HMU.out; unfold muZ at this ⊢; simp at this ⊢; omega, OW9.out, BW9.out⟩
          case measure => (simp only [lenOf_sl, intOf_i, List.length_nil, if_true]; omega)
    · have hmu1 : 1 ≤ n := by have := HMU.out; unfold muZ at this; rw [if_neg hdn] at this; omega
      obtain ⟨n', rfl⟩ : ∃ n', n = n' + 1 := ⟨n - 1, by omega⟩
      have hgf := gsF_first wd n' ln d hdn
      obtain ⟨bD, oD, rfl, hcc⟩ : ∃ bD oD, ad = some ⟨bD, oD, none⟩ ∧ ∀ i, i < d.length → w1.cell? ⟨bD, oD + i, none⟩ = some (.int .i64 (d.getD i 0)) := by
        rcases HRD.out with h | ⟨bD, oD, h, hc⟩
        · exact absurd h hdn
        · exact ⟨bD, oD, h, hc⟩
      obtain ⟨nd, hnd⟩ : ∃ nd, d.length = nd := ⟨_, rfl⟩
      have HND : Hid (d.length = nd) := hnd
      have hnd0 : 0 < nd := by rw [← hnd]; exact List.length_pos_iff.2 hdn
      have HCEL : Hid (∀ X, Below w1.heap.size w1 X → ∀ i, i < nd → X.cell? ⟨bD, oD + i, none⟩ = some (.int .i64 (d.getD i 0))) := by
        intro X hX i hi
        have h := hcc i (by rw [hnd]; exact hi)
        rw [hX.cell (World.block_lt_of_cell? w1 _ h)]; exact h
      have HDN : Hid (d ≠ []) := hdn
      rw [hnd] at hcd hdl8 ⊢
      have hdp : decide ((nd : Int) > 0) = true := decide_eq_true (by omega)
      have hn0 : ((nd : Int) == 0) = false := by rw [beq_eq_false_iff_ne]; omega
      clear hdn hcc hnd
      by_cases hw : 0 < wd ∧ ln = wd
      · obtain ⟨hw1, rfl⟩ := hw
        have HGS : Hid (T = out ++ [13, 10] ++ [sgn (pvZ d 6).toNat] ++ gsF ln n' (0 + 1) (d.drop 6)) := by
          unfold Hid; rw [HGS0.out, hgf, show brk ln ln = [13, 10] from by unfold brk; rw [if_pos ⟨hw1, rfl⟩], show lnb ln ln = 0 from by unfold lnb; rw [if_pos ⟨hw1, rfl⟩]]; simp
        clear hgf
        go_wp2_with (at_builtin; refine app_new wr rfl (.tmp 38) (.tmp 39) rfl w1.heap.size u8 out rfl HOW.out 2 [13, 10] #[.int .u8 13, .int .u8 10] rfl rfl rfl (by omega) HBW.out.size ?_)
        intro v5 x5 hO5 hB5
        have OW5 : Hid (Own x5 w1.heap.size v5 (out ++ [13, 10])) := hO5
        have BW5 : Hid (Below w1.heap.size w1 x5) := HBW.out.trans hB5
        clear hO5 hB5
        go_wp2_with fail
        go_loopw [10, 11] (fun vv vi wi => ∃ i : Nat, i ≤ 6 ∧ vi = .int .i64 i ∧ vv = .int .i64 (pvZ d i) ∧ x5 = wi) (fun _ vi _ => 6 - (intOf vi).toNat)
        case atStart => exact ⟨0, by omega, rfl, rfl, rfl⟩
        case round =>
          obtain ⟨i, hi6, rfl, rfl, rfl⟩ := hrel
          have hpv := pv_range HDD.out i
          by_cases hi : i < 6
          · have hdi : decide ((i : Int) < 6) = true := decide_eq_true (by omega)
            have hpb : pvZ d i < 64 := by have h1 := hpv.2; rcases (show i = 0 ∨ i = 1 ∨ i = 2 ∨ i = 3 ∨ i = 4 ∨ i = 5 from by omega) with rfl | rfl | rfl | rfl | rfl | rfl <;> simp at h1 <;> omega
            by_cases hin : i < nd
            · have hdn : decide ((i : Int) < (nd : Int)) = true := decide_eq_true (by omega)
              have hcl := HCEL.out x5 BW5.out i hin
              have hadi : (⟨bD, oD, none⟩ : Addr).add i = ⟨bD, oD + i, none⟩ := add_plain _ _ _
              have hg := dig_getD HDD.out i
              have HPV : Hid (pvZ d (i + 1) = 2 * pvZ d i + d.getD i 0) := rfl
              have hgb : 0 ≤ d.getD i 0 ∧ d.getD i 0 ≤ 1 := by omega
              obtain ⟨dg, hdg⟩ : ∃ dg, d.getD i 0 = dg := ⟨_, rfl⟩
              rw [hdg] at hcl HPV hgb
              clear hg hdg
              go_wp2
              go_roundw
              case rel => exact ⟨i + 1, by omega, by rw [show ((i + 1 : Nat) : Int) = (i : Int) + 1 from by omega], by rw [HPV.out], trivial⟩
              case measure => (simp [intOf]; omega)
            · have hdn : decide ((i : Int) < (nd : Int)) = false := decide_eq_false (by omega)
              have HPV : Hid (pvZ d (i + 1) = 2 * pvZ d i) := by unfold Hid; show 2 * pvZ d i + d.getD i 0 = _; rw [List.getD_eq_getElem?_getD, List.getElem?_eq_none (by rw [HND.out]; omega)]; simp
              go_wp2
              go_roundw
              case rel => exact ⟨i + 1, by omega, by rw [show ((i + 1 : Nat) : Int) = (i : Int) + 1 from by omega], by rw [HPV.out], trivial⟩
              case measure => (simp [intOf]; omega)
          · have hdi : decide ((i : Int) < 6) = false := decide_eq_false (by omega)
            obtain rfl : i = 6 := by omega
            have hp6 : 0 ≤ pvZ d 6 ∧ pvZ d 6 < 64 := by have := hpv; simp at this; omega
            clear hpv
            by_cases hbig : 6 < nd
            · have hd6 : decide ((nd : Int) > 6) = true := decide_eq_true (by omega)
              have hcd6 : ¬ cd = 6 := by omega
              have hadd6 : (⟨bD, oD, none⟩ : Addr).add 6 = ⟨bD, oD + 6, none⟩ := add_plain _ _ _
              go_wp2_with fail
              refine (rsign_any (pvZ d 6) _ (by omega) (by omega)).mono ?_
              rw [show sgnZ (pvZ d 6) = sgn (pvZ d 6).toNat from by unfold sgnZ; rw [if_pos (by omega)]]
              rintro e wz ⟨rfl, rfl⟩
              go_wp2_with (at_builtin; refine app_new x5 rfl (.tmp 75) (.tmp 77) rfl w1.heap.size v5 (out ++ [13, 10]) rfl OW5.out 1 [sgn (pvZ d 6).toNat] #[.int .u8 (sgn (pvZ d 6).toNat)] rfl rfl rfl (by first | omega | (simp; omega)) BW5.out.size ?_)
              intro v9 x9 hO9 hB9
              have OW9 : Hid (Own x9 w1.heap.size v9 ((out ++ [13, 10]) ++ [sgn (pvZ d 6).toNat])) := by unfold Hid; simpa using hO9
              have BW9 : Hid (Below w1.heap.size w1 x9) := Below.trans BW5.out hB9
              clear hO9 hB9
              go_wp2
              go_roundw
              case rel => exact ⟨some ⟨bD, oD + 6, none⟩, cd - 6, n', d.drop 6, (out ++ [13, 10]) ++ [sgn (pvZ d 6).toNat], (0) + 1, by simp [HND.out], rfl, by rw [List.length_drop, HND.out]; omega, by omega, by rw [List.length_drop, HND.out]; omega, by omega, by first | omega | (simp; omega) | simp, fun x hx => HDD.out x (List.mem_of_mem_drop hx), rowK_drop 6 HRD.out, by exact HGS.out, by have := HMU.out; unfold muZ at this ⊢; rw [if_neg HDN.out] at this; rw [if_neg (by intro h; have := congrArg List.length h; simp [HND.out] at this; omega)]; simp [HND.out] at this ⊢ <;> omega, OW9.out, BW9.out⟩
              case measure => (have z1 : ¬ nd = 0 := (by omega); have z2 : ¬ nd - 6 = 0 := (by omega); simp only [lenOf_sl, intOf_i, z1, z2, if_false]; omega)
            · have hd6 : decide ((nd : Int) > 6) = false := decide_eq_false (by omega)
              go_wp2_with fail
              refine (rsign_any (pvZ d 6) _ (by omega) (by omega)).mono ?_
              rw [show sgnZ (pvZ d 6) = sgn (pvZ d 6).toNat from by unfold sgnZ; rw [if_pos (by omega)]]
              rintro e wz ⟨rfl, rfl⟩
              go_wp2_with (at_builtin; refine app_new x5 rfl (.tmp 75) (.tmp 77) rfl w1.heap.size v5 (out ++ [13, 10]) rfl OW5.out 1 [sgn (pvZ d 6).toNat] #[.int .u8 (sgn (pvZ d 6).toNat)] rfl rfl rfl (by first | omega | (simp; omega)) BW5.out.size ?_)
              intro v9 x9 hO9 hB9
              have OW9 : Hid (Own x9 w1.heap.size v9 ((out ++ [13, 10]) ++ [sgn (pvZ d 6).toNat])) := by unfold Hid; simpa using hO9
              have BW9 : Hid (Below w1.heap.size w1 x9) := Below.trans BW5.out hB9
              clear hO9 hB9
              go_wp2
              go_roundw
              case rel => exact ⟨none, 0, n', [], (out ++ [13, 10]) ++ [sgn (pvZ d 6).toNat], (0) + 1, rfl, rfl, by simp, by omega, by simp, by omega, by first | omega | (simp; omega) | simp, fun x hx => by simp at hx, .inl rfl, by have h := HGS.out; rw [List.drop_of_length_le (by rw [HND.out]; omega)] at h; exact h, by have := HMU.out; unfold muZ at this ⊢; rw [if_neg HDN.out] at this; simp [HND.out] at this ⊢ <;> omega, OW9.out, BW9.out⟩
              case measure => (have z1 : ¬ nd = 0 := (by omega); simp only [lenOf_sl, intOf_i, z1, if_false, if_true]; omega)
      · have hbr : brk wd ln = [] := by unfold brk; rw [if_neg hw]
        have hlb : lnb wd ln = ln := by unfold lnb; rw [if_neg hw]
        have HGS : Hid (T = out ++ [sgn (pvZ d 6).toNat] ++ gsF wd n' (ln + 1) (d.drop 6)) := by
          unfold Hid; rw [HGS0.out, hgf, hbr, hlb]; simp
        clear hgf hbr hlb
        by_cases hw0 : 0 < wd
        · have hnb : (ln == wd) = false := by rw [beq_eq_false_iff_ne]; exact fun e => hw ⟨hw0, e⟩
          clear hw
          go_wp2_with fail
          go_loopw [10, 11] (fun vv vi wi => ∃ i : Nat, i ≤ 6 ∧ vi = .int .i64 i ∧ vv = .int .i64 (pvZ d i) ∧ wr = wi) (fun _ vi _ => 6 - (intOf vi).toNat)
          case atStart => exact ⟨0, by omega, rfl, rfl, rfl⟩
          case round =>
            obtain ⟨i, hi6, rfl, rfl, rfl⟩ := hrel
            have hpv := pv_range HDD.out i
            by_cases hi : i < 6
            · have hdi : decide ((i : Int) < 6) = true := decide_eq_true (by omega)
              have hpb : pvZ d i < 64 := by have h1 := hpv.2; rcases (show i = 0 ∨ i = 1 ∨ i = 2 ∨ i = 3 ∨ i = 4 ∨ i = 5 from by omega) with rfl | rfl | rfl | rfl | rfl | rfl <;> simp at h1 <;> omega
              by_cases hin : i < nd
              · have hdn : decide ((i : Int) < (nd : Int)) = true := decide_eq_true (by omega)
                have hcl := HCEL.out wr HBW.out i hin
                have hadi : (⟨bD, oD, none⟩ : Addr).add i = ⟨bD, oD + i, none⟩ := add_plain _ _ _
                have hg := dig_getD HDD.out i
                have HPV : Hid (pvZ d (i + 1) = 2 * pvZ d i + d.getD i 0) := rfl
                have hgb : 0 ≤ d.getD i 0 ∧ d.getD i 0 ≤ 1 := by omega
                obtain ⟨dg, hdg⟩ : ∃ dg, d.getD i 0 = dg := ⟨_, rfl⟩
                rw [hdg] at hcl HPV hgb
                clear hg hdg
                go_wp2
                go_roundw
                case rel => exact ⟨i + 1, by omega, by rw [show ((i + 1 : Nat) : Int) = (i : Int) + 1 from by omega], by rw [HPV.out], trivial⟩
                case measure => (simp [intOf]; omega)
              · have hdn : decide ((i : Int) < (nd : Int)) = false := decide_eq_false (by omega)
                have HPV : Hid (pvZ d (i + 1) = 2 * pvZ d i) := by unfold Hid; show 2 * pvZ d i + d.getD i 0 = _; rw [List.getD_eq_getElem?_getD, List.getElem?_eq_none (by rw [HND.out]; omega)]; simp
                go_wp2
                go_roundw
                case rel => exact ⟨i + 1, by omega, by rw [show ((i + 1 : Nat) : Int) = (i : Int) + 1 from by omega], by rw [HPV.out], trivial⟩
                case measure => (simp [intOf]; omega)
            · have hdi : decide ((i : Int) < 6) = false := decide_eq_false (by omega)
              obtain rfl : i = 6 := by omega
              have hp6 : 0 ≤ pvZ d 6 ∧ pvZ d 6 < 64 := by have := hpv; simp at this; omega
              clear hpv
              by_cases hbig : 6 < nd
              · have hd6 : decide ((nd : Int) > 6) = true := decide_eq_true (by omega)
                have hcd6 : ¬ cd = 6 := by omega
                have hadd6 : (⟨bD, oD, none⟩ : Addr).add 6 = ⟨bD, oD + 6, none⟩ := add_plain _ _ _
                go_wp2_with fail
                refine (rsign_any (pvZ d 6) _ (by omega) (by omega)).mono ?_
                rw [show sgnZ (pvZ d 6) = sgn (pvZ d 6).toNat from by unfold sgnZ; rw [if_pos (by omega)]]
                rintro e wz ⟨rfl, rfl⟩
                go_wp2_with (at_builtin; refine app_new wr rfl (.tmp 75) (.tmp 77) rfl w1.heap.size u8 (out) rfl HOW.out 1 [sgn (pvZ d 6).toNat] #[.int .u8 (sgn (pvZ d 6).toNat)] rfl rfl rfl (by first | omega | (simp; omega)) HBW.out.size ?_)
                intro v9 x9 hO9 hB9
                have OW9 : Hid (Own x9 w1.heap.size v9 ((out) ++ [sgn (pvZ d 6).toNat])) := by unfold Hid; simpa using hO9
                have BW9 : Hid (Below w1.heap.size w1 x9) := Below.trans HBW.out hB9
                clear hO9 hB9
                go_wp2
                go_roundw
                case rel => exact ⟨some ⟨bD, oD + 6, none⟩, cd - 6, n', d.drop 6, (out) ++ [sgn (pvZ d 6).toNat], (ln) + 1, by simp [HND.out], rfl, by rw [List.length_drop, HND.out]; omega, by omega, by rw [List.length_drop, HND.out]; omega, by omega, by first | omega | (simp; omega) | simp, fun x hx => HDD.out x (List.mem_of_mem_drop hx), rowK_drop 6 HRD.out, by exact HGS.out, by have := HMU.out; unfold muZ at this ⊢; rw [if_neg HDN.out] at this; rw [if_neg (by intro h; have := congrArg List.length h; simp [HND.out] at this; omega)]; simp [HND.out] at this ⊢ <;> omega, OW9.out, BW9.out⟩
                case measure => (have z1 : ¬ nd = 0 := (by omega); have z2 : ¬ nd - 6 = 0 := (by omega); simp only [lenOf_sl, intOf_i, z1, z2, if_false]; omega)
              · have hd6 : decide ((nd : Int) > 6) = false := decide_eq_false (by omega)
                go_wp2_with fail
                refine (rsign_any (pvZ d 6) _ (by omega) (by omega)).mono ?_
                rw [show sgnZ (pvZ d 6) = sgn (pvZ d 6).toNat from by unfold sgnZ; rw [if_pos (by omega)]]
                rintro e wz ⟨rfl, rfl⟩
                go_wp2_with (at_builtin; refine app_new wr rfl (.tmp 75) (.tmp 77) rfl w1.heap.size u8 (out) rfl HOW.out 1 [sgn (pvZ d 6).toNat] #[.int .u8 (sgn (pvZ d 6).toNat)] rfl rfl rfl (by first | omega | (simp; omega)) HBW.out.size ?_)
                intro v9 x9 hO9 hB9
                have OW9 : Hid (Own x9 w1.heap.size v9 ((out) ++ [sgn (pvZ d 6).toNat])) := by unfold Hid; simpa using hO9
                have BW9 : Hid (Below w1.heap.size w1 x9) := Below.trans HBW.out hB9
                clear hO9 hB9
                go_wp2
                go_roundw
                case rel => exact ⟨none, 0, n', [], (out) ++ [sgn (pvZ d 6).toNat], (ln) + 1, rfl, rfl, by simp, by omega, by simp, by omega, by first | omega | (simp; omega) | simp, fun x hx => by simp at hx, .inl rfl, by have h := HGS.out; rw [List.drop_of_length_le (by rw [HND.out]; omega)] at h; exact h, by have := HMU.out; unfold muZ at this ⊢; rw [if_neg HDN.out] at this; simp [HND.out] at this ⊢ <;> omega, OW9.out, BW9.out⟩
                case measure => (have z1 : ¬ nd = 0 := (by omega); simp only [lenOf_sl, intOf_i, z1, if_false, if_true]; omega)
        · clear hw
          go_wp2_with fail
          go_loopw [10, 11] (fun vv vi wi => ∃ i : Nat, i ≤ 6 ∧ vi = .int .i64 i ∧ vv = .int .i64 (pvZ d i) ∧ wr = wi) (fun _ vi _ => 6 - (intOf vi).toNat)
          case atStart => exact ⟨0, by omega, rfl, rfl, rfl⟩
          case round =>
            obtain ⟨i, hi6, rfl, rfl, rfl⟩ := hrel
            have hpv := pv_range HDD.out i
            by_cases hi : i < 6
            · have hdi : decide ((i : Int) < 6) = true := decide_eq_true (by omega)
              have hpb : pvZ d i < 64 := by have h1 := hpv.2; rcases (show i = 0 ∨ i = 1 ∨ i = 2 ∨ i = 3 ∨ i = 4 ∨ i = 5 from by omega) with rfl | rfl | rfl | rfl | rfl | rfl <;> simp at h1 <;> omega
              by_cases hin : i < nd
              · have hdn : decide ((i : Int) < (nd : Int)) = true := decide_eq_true (by omega)
                have hcl := HCEL.out wr HBW.out i hin
                have hadi : (⟨bD, oD, none⟩ : Addr).add i = ⟨bD, oD + i, none⟩ := add_plain _ _ _
                have hg := dig_getD HDD.out i
                have HPV : Hid (pvZ d (i + 1) = 2 * pvZ d i + d.getD i 0) := rfl
                have hgb : 0 ≤ d.getD i 0 ∧ d.getD i 0 ≤ 1 := by omega
                obtain ⟨dg, hdg⟩ : ∃ dg, d.getD i 0 = dg := ⟨_, rfl⟩
                rw [hdg] at hcl HPV hgb
                clear hg hdg
                go_wp2
                go_roundw
                case rel => exact ⟨i + 1, by omega, by rw [show ((i + 1 : Nat) : Int) = (i : Int) + 1 from by omega], by rw [HPV.out], trivial⟩
                case measure => (simp [intOf]; omega)
              · have hdn : decide ((i : Int) < (nd : Int)) = false := decide_eq_false (by omega)
                have HPV : Hid (pvZ d (i + 1) = 2 * pvZ d i) := by unfold Hid; show 2 * pvZ d i + d.getD i 0 = _; rw [List.getD_eq_getElem?_getD, List.getElem?_eq_none (by rw [HND.out]; omega)]; simp
                go_wp2
                go_roundw
                case rel => exact ⟨i + 1, by omega, by rw [show ((i + 1 : Nat) : Int) = (i : Int) + 1 from by omega], by rw [HPV.out], trivial⟩
                case measure => (simp [intOf]; omega)
            · have hdi : decide ((i : Int) < 6) = false := decide_eq_false (by omega)
              obtain rfl : i = 6 := by omega
              have hp6 : 0 ≤ pvZ d 6 ∧ pvZ d 6 < 64 := by have := hpv; simp at this; omega
              clear hpv
              by_cases hbig : 6 < nd
              · have hd6 : decide ((nd : Int) > 6) = true := decide_eq_true (by omega)
                have hcd6 : ¬ cd = 6 := by omega
                have hadd6 : (⟨bD, oD, none⟩ : Addr).add 6 = ⟨bD, oD + 6, none⟩ := add_plain _ _ _
                go_wp2_with fail
                refine (rsign_any (pvZ d 6) _ (by omega) (by omega)).mono ?_
                rw [show sgnZ (pvZ d 6) = sgn (pvZ d 6).toNat from by unfold sgnZ; rw [if_pos (by omega)]]
                rintro e wz ⟨rfl, rfl⟩
                go_wp2_with (at_builtin; refine app_new wr rfl (.tmp 75) (.tmp 77) rfl w1.heap.size u8 (out) rfl HOW.out 1 [sgn (pvZ d 6).toNat] #[.int .u8 (sgn (pvZ d 6).toNat)] rfl rfl rfl (by first | omega | (simp; omega)) HBW.out.size ?_)
                intro v9 x9 hO9 hB9
                have OW9 : Hid (Own x9 w1.heap.size v9 ((out) ++ [sgn (pvZ d 6).toNat])) := by unfold Hid; simpa using hO9
                have BW9 : Hid (Below w1.heap.size w1 x9) := Below.trans HBW.out hB9
                clear hO9 hB9
                go_wp2
                go_roundw
                case rel => exact ⟨some ⟨bD, oD + 6, none⟩, cd - 6, n', d.drop 6, (out) ++ [sgn (pvZ d 6).toNat], (ln) + 1, by simp [HND.out], rfl, by rw [List.length_drop, HND.out]; omega, by omega, by rw [List.length_drop, HND.out]; omega, by omega, by first | omega | (simp; omega) | simp, fun x hx => HDD.out x (List.mem_of_mem_drop hx), rowK_drop 6 HRD.out, by exact HGS.out, by have := HMU.out; unfold muZ at this ⊢; rw [if_neg HDN.out] at this; rw [if_neg (by intro h; have := congrArg List.length h; simp [HND.out] at this; omega)]; simp [HND.out] at this ⊢ <;> omega, OW9.out, BW9.out⟩
                case measure => (have z1 : ¬ nd = 0 := (by omega); have z2 : ¬ nd - 6 = 0 := (by omega); simp only [lenOf_sl, intOf_i, z1, z2, if_false]; omega)
              · have hd6 : decide ((nd : Int) > 6) = false := decide_eq_false (by omega)
                go_wp2_with fail
                refine (rsign_any (pvZ d 6) _ (by omega) (by omega)).mono ?_
                rw [show sgnZ (pvZ d 6) = sgn (pvZ d 6).toNat from by unfold sgnZ; rw [if_pos (by omega)]]
                rintro e wz ⟨rfl, rfl⟩
                go_wp2_with (at_builtin; refine app_new wr rfl (.tmp 75) (.tmp 77) rfl w1.heap.size u8 (out) rfl HOW.out 1 [sgn (pvZ d 6).toNat] #[.int .u8 (sgn (pvZ d 6).toNat)] rfl rfl rfl (by first | omega | (simp; omega)) HBW.out.size ?_)
                intro v9 x9 hO9 hB9
                have OW9 : Hid (Own x9 w1.heap.size v9 ((out) ++ [sgn (pvZ d 6).toNat])) := by unfold Hid; simpa using hO9
                have BW9 : Hid (Below w1.heap.size w1 x9) := Below.trans HBW.out hB9
                clear hO9 hB9
                go_wp2
                go_roundw
                case rel => exact ⟨none, 0, n', [], (out) ++ [sgn (pvZ d 6).toNat], (ln) + 1, rfl, rfl, by simp, by omega, by simp, by omega, by first | omega | (simp; omega) | simp, fun x hx => by simp at hx, .inl rfl, by have h := HGS.out; rw [List.drop_of_length_le (by rw [HND.out]; omega)] at h; exact h, by have := HMU.out; unfold muZ at this ⊢; rw [if_neg HDN.out] at this; simp [HND.out] at this ⊢ <;> omega, OW9.out, BW9.out⟩
                case measure => (have z1 : ¬ nd = 0 := (by omega); simp only [lenOf_sl, intOf_i, z1, if_false, if_true]; omega)
end Go.Proofs.Ytegdblchgfiefaa
