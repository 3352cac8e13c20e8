/-
  The reference's lines.
-/
import Derived.Test.YtjcjhcpaojhcfaaDoorLmath
import Derived.Test.YtjcjhcpaojhcfaaDoorGr
namespace Go.Proofs.YtjcjhcpaojhcfaaDoor
open Go.RowKit
set_option linter.unusedVariables false

theorem Tryd.info57 : (Tryd.prog.info? 57).map (fun i => (i.zero, i.size, i.bytes)) = some (some (.agg #[.int .i64 0, .slice none 0 0, .bool false]), 3, 40) := by kernel_rfl

/-- Does a pair begin at a place? -/
def pairB (zs : List Int) (i : Nat) : Bool := decide (pairI (zs.drop i) = 0)

theorem pairB_iff (zs : List Int) (i : Nat) : pairB zs i = true ↔ (zs[i]? = some 13 ∧ zs[i + 1]? = some 10) := by
  unfold pairB
  rw [decide_eq_true_eq]
  have h1 : (zs.drop i)[0]? = zs[i]? := by simp
  have h2 : (zs.drop i)[1]? = zs[i + 1]? := by simp
  rw [← h1, ← h2]
  generalize zs.drop i = l
  cases l with
  | nil => simp [pairI]
  | cons c l =>
    have hg := pairI_ge l
    unfold pairI
    by_cases q : c = 13 ∧ l.head? = some 10
    · rw [if_pos q]
      obtain ⟨rfl, q2⟩ := q
      cases l with
      | nil => simp at q2
      | cons d l => simp at q2 ⊢; exact q2
    · rw [if_neg q]
      constructor
      · intro h; split at h <;> omega
      · rintro ⟨q1, q2⟩
        exact absurd ⟨by simpa using q1, by cases l with | nil => simp at q2 | cons d l => simpa using q2⟩ q

set_option maxRecDepth 100000 in
set_option maxHeartbeats 1000000 in
theorem pair_ref (a : Option Addr) (len cap i : Nat) (zs : List Int) (w : World) (hl : zs.length = len) (hb : len ≤ 20000000) (hr : Row w a zs) (hi : i < len) :
    Calls Tryd.prog 36 #[.slice a len cap, .int .i64 (i : Nat)] w fun e w' => e = .returned (.bool (pairB zs i)) ∧ w = w' := by
  rcases hr with rfl | ⟨b, off, rfl, hc⟩
  · simp at hl; omega
  have hi0 : i < zs.length := by omega
  have hadd : (⟨b, off, none⟩ : Addr).add i = ⟨b, off + i, none⟩ := add_plain b off i
  have hadd1 : (⟨b, off, none⟩ : Addr).add (i + 1) = ⟨b, off + (i + 1), none⟩ := add_plain b off (i + 1)
  obtain ⟨x, hx⟩ : ∃ x, zs[i]'hi0 = x := ⟨_, rfl⟩
  have c0 : w.cell? ⟨b, off + i, none⟩ = some (.int .u8 x) := by rw [hc i hi0]; simp [List.getD_eq_getElem?_getD, List.getElem?_eq_getElem hi0, hx]
  have hx' : zs[i]? = some x := by rw [List.getElem?_eq_getElem hi0, hx]
  by_cases h1 : i + 1 < len
  · have hi1 : i + 1 < zs.length := by omega
    obtain ⟨y, hy⟩ : ∃ y, zs[i + 1]'hi1 = y := ⟨_, rfl⟩
    have c1 : w.cell? ⟨b, off + (i + 1), none⟩ = some (.int .u8 y) := by rw [hc (i + 1) hi1]; simp [List.getD_eq_getElem?_getD, List.getElem?_eq_getElem hi1, hy]
    have hy' : zs[i + 1]? = some y := by rw [List.getElem?_eq_getElem hi1, hy]
    have HV : Hid (pairB zs i = (x == 13 && y == 10)) := by
      unfold Hid
      rw [Bool.eq_iff_iff, pairB_iff, hx', hy']
      simp
    have hd : decide ((i : Int) + 1 < (len : Int)) = true := by simp; omega
    rw [HV.out]
    clear hc hx hy hx' hy' hi0 hi1 hl
    by_cases hx13 : x = 13
    · subst hx13
      go_enter Tryd.func36, Tryd.ntmps36
      go_wp2
      go_ret
      exact ⟨by simp, rfl⟩
    · have hx' : (x == 13) = false := by rw [beq_eq_false_iff_ne]; exact hx13
      go_enter Tryd.func36, Tryd.ntmps36
      go_wp2
      go_ret
      exact ⟨by simp [hx'], rfl⟩
  · have hd : decide ((i : Int) + 1 < (len : Int)) = false := by simp; omega
    have HV : Hid (pairB zs i = false) := by
      unfold Hid
      rw [Bool.eq_false_iff]
      intro h
      rw [pairB_iff, List.getElem?_eq_none (i := i + 1) (by omega)] at h
      simp at h
    rw [HV.out]
    clear hc hx hx' hi0 hl
    go_enter Tryd.func36, Tryd.ntmps36
    go_wp2
    go_ret
    exact ⟨rfl, rfl⟩

/-- A line as it lies in a row of lines. -/
def cellL (b off cap : Nat) (x : Nat × Nat × Bool) : List Value := [.int .i64 (x.1 : Nat), .slice (some ⟨b, off + x.1, none⟩) x.2.1 (cap - x.1), .bool x.2.2]
def OwnL (w : World) (B : Nat) (v : Value) (b off cap : Nat) (ls : List (Nat × Nat × Bool)) : Prop := w.ownsRow B 57 3 v ls.length (ls.flatMap (cellL b off cap))

theorem pairI_cons (c : Int) (l : List Int) : pairI (c :: l) = if c = 13 ∧ l.head? = some 10 then 0 else if pairI l = -1 then -1 else pairI l + 1 := rfl
theorem noP_step {zs : List Int} {frm i : Nat} (hi : i < zs.length) (h : pairI (zs.drop frm) = if pairI (zs.drop i) = -1 then -1 else pairI (zs.drop i) + ((i : Int) - frm)) (hp : pairB zs i = false) :
    pairI (zs.drop frm) = if pairI (zs.drop (i + 1)) = -1 then -1 else pairI (zs.drop (i + 1)) + (((i + 1 : Nat) : Int) - frm) := by
  rw [h]
  have hp' : ¬ pairI (zs.drop i) = 0 := by unfold pairB at hp; simpa using hp
  rw [List.drop_eq_getElem_cons hi] at hp' ⊢
  have hg := pairI_ge (zs.drop (i + 1))
  rw [pairI_cons] at hp' ⊢
  by_cases q : zs[i] = 13 ∧ (zs.drop (i + 1)).head? = some 10
  · rw [if_pos q] at hp'; exact absurd rfl hp'
  · rw [if_neg q]
    by_cases q2 : pairI (zs.drop (i + 1)) = -1
    · simp [q2]
    · rw [if_neg q2, if_neg (by omega), if_neg q2]; omega

theorem cellL_one (b off cap : Nat) (x : Nat × Nat × Bool) : ∀ u ∈ cellL b off cap x, u.oneCell' = true := by
  intro u hu
  simp [cellL] at hu
  rcases hu with rfl | rfl | rfl <;> rfl
theorem ownL_snoc {w : World} {B : Nat} {v : Value} {b off cap : Nat} {ls : List (Nat × Nat × Bool)} {x : Nat × Nat × Bool} (h : w.ownsRow B 57 3 v (ls.length + 1) (ls.flatMap (cellL b off cap) ++ cellL b off cap x)) : OwnL w B v b off cap (ls ++ [x]) := by
  unfold OwnL
  rw [List.length_append, List.flatMap_append]
  simpa using h

theorem app_line {ops : Array Oper} {rest : List Oper} {o : Oper} {a : Act} {Q : Exit → Act → World → Prop} (W : World) (hgd : o.guard = none) (s x : Operand)
    (ho : o.op = .call { callee := .builtin .append, args := #[s, x], argTypes := #[54, 54] }) (B : Nat) (v : Value) (b off cap : Nat) (ls : List (Nat × Nat × Bool)) (hs : a.eval s = v) (hown : OwnL W B v b off cap ls)
    (p n : Nat) (t : Bool) (hx : a.eval x = .slice (some ⟨W.heap.size, 0, none⟩) 1 1) (hlen : ls.length ≤ 3000000) (hB : B ≤ W.heap.size)
    (h : ∀ v' w', OwnL w' B v' b off cap (ls ++ [(p, n, t)]) → Below B W w' → wpList Tryd.prog ops Q rest (a.put o.dst v') w') :
    wpList Tryd.prog ops Q (o :: rest) a (W.alloc (.cells #[.int .i64 (p : Nat), .slice (some ⟨b, off + p, none⟩) n (cap - p), .bool t] 57)) := by
  obtain ⟨j0, hi, hz0, hz1, hz2⟩ := info_parts Tryd.info57
  refine wpList_append_own _ hgd s x 54 ho B 57 j0 _ 3 40 Tryd.underlying54 hi hz0 hz1 hz2 rfl (by decide) v ls.length (ls.flatMap (cellL b off cap)) hs (own_keep hown (keep W _)) ⟨W.heap.size, 0, none⟩ 1 1 (cellL b off cap (p, n, t)) hx rfl ?_ (cellL_one _ _ _ _) (by unfold maxLen; omega) (by omega) (by simp; omega) ?_
  · intro j u hu
    have hadd' : (⟨W.heap.size, 0, none⟩ : Addr).add j = ⟨W.heap.size, j, none⟩ := by rw [add_plain]; simp
    rw [hadd', World.cell?_alloc_mark]
    simpa [cellL] using hu
  · intro v2 w2 hown2 hgrow2 _
    refine h v2 w2 (ownL_snoc hown2) (((keep W _).mono hB).trans ((Below.refl _ _).grown hgrow2 (by simp; omega) ?_))
    intro k hk
    rcases hown.2 with ⟨rfl, _⟩ | ⟨g, cp, cur, rfl, h2, _⟩
    · simp [Value.ownBlock] at hk
    · simp [Value.ownBlock] at hk; omega

set_option maxRecDepth 100000 in
set_option maxHeartbeats 4000000 in
theorem lines_ref (a : Option Addr) (b off len cap : Nat) (zs : List Int) (w : World) (hl : zs.length = len) (hb : len ≤ 2000000) (hcap : len ≤ cap) (hmax : cap ≤ maxLen) (hr : Row w a zs) (ha : zs ≠ [] → a = some ⟨b, off, none⟩) :
    Calls Tryd.prog 21 #[.slice a len cap] w fun e w' => ∃ v, e = .returned v ∧ OwnL w' w.heap.size v b off cap (linesZ 0 zs) ∧ Below w.heap.size w w' := by
  obtain ⟨j0, hi, hz0, hz1, hz2⟩ := info_parts Tryd.info57
  have HR : Hid (Row w a zs) := hr
  have HL : Hid (zs.length = len) := hl
  have HA : Hid (zs ≠ [] → a = some ⟨b, off, none⟩) := ha
  unfold maxLen at hmax
  clear hr hl ha
  go_enter Tryd.func21, Tryd.ntmps21
  go_wp2_with fail
  go_loopw [3, 4, 5] (fun v f j wr => ∃ (frm i : Nat) (ls : List (Nat × Nat × Bool)), f = .int .i64 frm ∧ j = .int .i64 i ∧ frm ≤ i ∧ i ≤ len ∧ ls.length ≤ frm ∧ wr.ownsRow w.heap.size 57 3 v ls.length (ls.flatMap (cellL b off cap)) ∧ linesZ 0 zs = ls ++ linesZ frm (zs.drop frm) ∧ (pairI (zs.drop frm) = if pairI (zs.drop i) = -1 then -1 else pairI (zs.drop i) + ((i : Int) - frm)) ∧ Below w.heap.size w wr) (fun _ _ j _ => len - (intOf j).toNat)
  case atStart => exact ⟨0, 0, [], rfl, rfl, by omega, by omega, by simp, World.ownsRow_nil _ _ _ _, by simp, by simp, Below.refl _ _⟩
  case round =>
    obtain ⟨frm, i, ls, rfl, rfl, h1, h2, h3, hown, hlin, hnp, hbel⟩ := hrel
    have HO : Hid (wr.ownsRow w.heap.size 57 3 u3 ls.length (ls.flatMap (cellL b off cap))) := hown
    have HLN : Hid (linesZ 0 zs = ls ++ linesZ frm (zs.drop frm)) := hlin
    have HNP : Hid (pairI (zs.drop frm) = if pairI (zs.drop i) = -1 then -1 else pairI (zs.drop i) + ((i : Int) - frm)) := hnp
    have HB : Hid (Below w.heap.size w wr) := hbel
    have hsz : w.heap.size ≤ wr.heap.size := hbel.size
    clear hown hlin hnp hbel
    by_cases hlt : i < len
    · have hd : decide ((i : Int) < (len : Int)) = true := by simp; omega
      have hne : zs ≠ [] := by intro h; have := HL.out; rw [h] at this; simp at this; omega
      obtain rfl := HA.out hne
      have hPr := pair_ref (some ⟨b, off, none⟩) len cap i zs wr HL.out (by omega) (row_below HR.out HB.out) hlt
      by_cases hp : pairB zs i = true
      · rw [hp] at hPr
        have hroom := pairI_room (zs.drop i) (by have := hp; unfold pairB at this; simp at this; omega)
        have hp0 : pairI (zs.drop i) = 0 := by have := hp; unfold pairB at this; simpa using this
        rw [List.length_drop, HL.out, hp0] at hroom
        have hfr : pairI (zs.drop frm) = (i : Int) - frm := by rw [HNP.out, hp0]; simp
        have HST : Hid (linesZ frm (zs.drop frm) = (frm, i - frm, true) :: linesZ (i + 2) (zs.drop (i + 2))) := by
          unfold Hid
          rw [linesZ_pair frm (zs.drop frm) (by omega), hfr, List.drop_drop]
          rw [show ((i : Int) - frm).toNat = i - frm from by omega, show frm + (i - frm) + 2 = i + 2 from by omega, show frm + (i - frm + 2) = i + 2 from by omega]
        have hi2 : i + 2 ≤ len := by omega
        clear hp hp0 hroom hfr
        have hadd : (⟨b, off, none⟩ : Addr).add frm = ⟨b, off + frm, none⟩ := add_plain b off frm
        have hfc : ¬ cap = frm := by omega
        go_wp2_with fail
        refine hPr.mono ?_
        clear hPr
        rintro e w' ⟨rfl, rfl⟩
        go_wp2_with (at_builtin; refine app_line wr rfl (.tmp 15) (.tmp 22) rfl w.heap.size u3 b off cap ls rfl HO.out frm (i - frm) true rfl (by omega) hsz ?_)
        intro v2 w2 hO2 hB2
        have HB2 : Hid (Below w.heap.size w w2) := HB.out.trans hB2
        have HO2 : Hid (OwnL w2 w.heap.size v2 b off cap (ls ++ [(frm, i - frm, true)])) := hO2
        clear hO2 hB2
        go_wp2
        go_roundw
        case rel => exact ⟨i + 2, i + 2, ls ++ [(frm, i - frm, true)], by rw [show ((i + 2 : Nat) : Int) = (i : Int) + 1 + 1 from by omega], by rw [show ((i + 2 : Nat) : Int) = (i : Int) + 1 + 1 from by omega], by omega, hi2, by simp; omega, HO2.out, by rw [HLN.out, HST.out]; simp, by simp, HB2.out⟩
        case measure => simp [intOf]; omega
      · have hp' : pairB zs i = false := by simpa using hp
        rw [hp'] at hPr
        have HN2 := noP_step (by have := HL.out; omega) HNP.out hp'
        have HNH : Hid _ := HN2
        clear HN2 hp hp'
        go_wp2_with fail
        refine hPr.mono ?_
        clear hPr
        rintro e w' ⟨rfl, rfl⟩
        go_wp2
        go_roundw
        case rel => exact ⟨frm, i + 1, ls, rfl, by rw [show ((i + 1 : Nat) : Int) = (i : Int) + 1 from by omega], by omega, by omega, h3, HO.out, HLN.out, HNH.out, HB.out⟩
        case measure => simp [intOf]; omega
    · have hd : decide ((i : Int) < (len : Int)) = false := by simp; omega
      have hno : pairI (zs.drop frm) = -1 := by
        rw [HNP.out, List.drop_eq_nil_of_le (by have := HL.out; omega)]; rfl
      by_cases hf : frm < len
      · have hd2 : decide ((frm : Int) < (len : Int)) = true := by simp; omega
        have hne : zs ≠ [] := by intro h; have := HL.out; rw [h] at this; simp at this; omega
        obtain rfl := HA.out hne
        have hadd : (⟨b, off, none⟩ : Addr).add frm = ⟨b, off + frm, none⟩ := add_plain b off frm
        have hfc : ¬ cap = frm := by omega
        have HST : Hid (linesZ frm (zs.drop frm) = [(frm, len - frm, false)]) := by
          unfold Hid
          have hl := HL.out
          rw [linesZ_last frm _ (by intro h; have := congrArg List.length h; simp at this; omega) (by omega), List.length_drop, hl]
        go_wp2_with (at_builtin; refine app_line wr rfl (.tmp 32) (.tmp 38) rfl w.heap.size u3 b off cap ls rfl HO.out frm (len - frm) false rfl (by omega) hsz ?_)
        intro v2 w2 hO2 hB2
        have HB2 : Hid (Below w.heap.size w w2) := HB.out.trans hB2
        have HO2 : Hid (OwnL w2 w.heap.size v2 b off cap (ls ++ [(frm, len - frm, false)])) := hO2
        clear hO2 hB2
        go_wp2
        go_ret
        exact ⟨v2, rfl, by rw [HLN.out, HST.out]; exact HO2.out, HB2.out⟩
      · have hd2 : decide ((frm : Int) < (len : Int)) = false := by simp; omega
        have HST : Hid (linesZ 0 zs = ls) := by
          unfold Hid
          rw [HLN.out, List.drop_eq_nil_of_le (by have := HL.out; omega), linesZ_nil, List.append_nil]
        go_wp2
        go_ret
        exact ⟨u3, rfl, by rw [HST.out]; exact HO.out, HB.out⟩
end Go.Proofs.YtjcjhcpaojhcfaaDoor
