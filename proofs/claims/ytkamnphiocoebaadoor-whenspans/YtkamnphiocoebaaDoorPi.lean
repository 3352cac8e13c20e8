/-
  The document's own lengths: the contract of its Pieces.
-/
import Derived.Test.YtkamnphiocoebaaDoorRv
import Derived.Test.YtkamnphiocoebaaDoorMd
namespace Go.Proofs.YtkamnphiocoebaaDoor
open Go.RowKit
set_option linter.unusedVariables false

theorem Tryd.info65 : (Tryd.prog.info? 65).map (fun i => (i.zero, i.size, i.bytes)) = some (some (.agg #[.int .i64 0, .int .u8 0]), 2, 16) := by kernel_rfl
theorem pinfo_parts {P : Program} {t : TypeId} {z : Value} {n b : Nat} (h : (P.info? t).map (fun i => (i.zero, i.size, i.bytes)) = some (some z, n, b)) : ∃ i, P.info? t = some i ∧ i.zero = some z ∧ i.size = n ∧ i.bytes = b := by
  obtain ⟨i, hi, e⟩ := Option.map_eq_some_iff.1 h
  simp only [Prod.mk.injEq] at e
  exact ⟨i, hi, e.1, e.2.1, e.2.2⟩
/-- A piece as it lies in a row of pieces. -/
def cellP (x : Int × Int) : List Value := [.int .i64 x.1, .int .u8 x.2]
def OwnP (w : World) (B : Nat) (v : Value) (ps : List (Int × Int)) : Prop := w.ownsRow B 65 2 v ps.length (ps.flatMap cellP)
theorem cellP_one (x : Int × Int) : ∀ u ∈ cellP x, u.oneCell' = true := by
  intro u hu
  simp [cellP] at hu
  rcases hu with rfl | rfl <;> rfl
theorem ownP_snoc {w : World} {B : Nat} {v : Value} {ps : List (Int × Int)} {x : Int × Int} (h : w.ownsRow B 65 2 v (ps.length + 1) (ps.flatMap cellP ++ cellP x)) : OwnP w B v (ps ++ [x]) := by
  unfold OwnP
  rw [List.length_append, List.flatMap_append]
  simpa using h
theorem app_piece {ops : Array Oper} {rest : List Oper} {o : Oper} {a : Act} {Q : Exit → Act → World → Prop} (W : World) (hgd : o.guard = none) (s x : Operand)
    (ho : o.op = .call { callee := .builtin .append, args := #[s, x], argTypes := #[56, 56] }) (B : Nat) (v : Value) (ps : List (Int × Int)) (hs : a.eval s = v) (hown : OwnP W B v ps)
    (n u : Int) (gg : Nat) (hgg : W.heap.size = gg) (hx : a.eval x = .slice (some ⟨gg, 0, none⟩) 1 1) (hlen : ps.length ≤ 1000000) (hB : B ≤ W.heap.size)
    (h : ∀ v' w', OwnP w' B v' (ps ++ [(n, u)]) → Below B W w' → wpList Tryd.prog ops Q rest (a.put o.dst v') w') :
    wpList Tryd.prog ops Q (o :: rest) a (W.alloc (.cells #[.int .i64 n, .int .u8 u] 65)) := by
  subst hgg
  obtain ⟨j0, hi, hz0, hz1, hz2⟩ := pinfo_parts Tryd.info65
  refine wpList_append_own _ hgd s x 56 ho B 65 j0 _ 2 16 Tryd.underlying56 hi hz0 hz1 hz2 rfl (by decide) v ps.length (ps.flatMap cellP) hs (own_keep hown (keep W _)) ⟨W.heap.size, 0, none⟩ 1 1 (cellP (n, u)) hx rfl ?_ (cellP_one _) (by unfold maxLen; omega) (by omega) (by simp; omega) ?_
  · intro j u hu
    have hadd' : (⟨W.heap.size, 0, none⟩ : Addr).add j = ⟨W.heap.size, j, none⟩ := by rw [add_plain]; simp
    rw [hadd', World.cell?_alloc_mark]
    simpa [cellP] using hu
  · intro v2 w2 hown2 hgrow2 _
    refine h v2 w2 (ownP_snoc hown2) (((keep W _).mono hB).trans ((Below.refl _ _).grown hgrow2 (by simp; omega) ?_))
    intro k hk
    rcases hown.2 with ⟨rfl, _⟩ | ⟨g, cp, cur, rfl, h2, _⟩
    · simp [Value.ownBlock] at hk
    · simp [Value.ownBlock] at hk; omega
/-- What is read so far. -/
structure YJ (l : List Int) (acc : List (Int × Int)) (frm i : Nat) : Prop where
  le : frm ≤ i
  top : i ≤ l.length
  len : acc.length ≤ i
  dig : ∀ c ∈ (l.drop frm).take (i - frm), isD c = true
  eq : pcs [] l = (pcs ((l.drop frm).take (i - frm)) (l.drop i)).map fun ps => acc ++ ps
  ok : ∀ p ∈ acc, (0 ≤ p.1 ∧ p.1 < 10000000000) ∧ (0 ≤ p.2 ∧ p.2 < 256)
theorem drop_at {l : List Int} {i : Nat} {c : Int} (h : l[i]? = some c) : l.drop i = c :: l.drop (i + 1) := by
  obtain ⟨hi, e⟩ := List.getElem?_eq_some_iff.1 h
  rw [List.drop_eq_getElem_cons hi, e]
theorem cur_next {l : List Int} {frm i : Nat} {c : Int} (hle : frm ≤ i) (h : l[i]? = some c) : (l.drop frm).take (i + 1 - frm) = (l.drop frm).take (i - frm) ++ [c] := by
  rw [show i + 1 - frm = (i - frm) + 1 by omega]
  exact take_snoc _ _ _ (by rw [List.getElem?_drop, show frm + (i - frm) = i by omega]; exact h)
theorem cur_len {l : List Int} {frm i : Nat} (hle : frm ≤ i) (ht : i ≤ l.length) : ((l.drop frm).take (i - frm)).length = i - frm := by
  rw [List.length_take, List.length_drop]; omega
theorem YJ.digit {l : List Int} {acc : List (Int × Int)} {frm i : Nat} {c : Int} (h : YJ l acc frm i) (hc : l[i]? = some c) (hd : isD c = true) : YJ l acc frm (i + 1) := by
  have hi := (List.getElem?_eq_some_iff.1 hc).1
  refine ⟨by have := h.le; omega, by omega, by have := h.len; omega, ?_, ?_, h.ok⟩
  · rw [cur_next h.le hc]
    intro x hx
    rcases List.mem_append.1 hx with q | q
    · exact h.dig x q
    · simp at q; subst q; exact hd
  · rw [h.eq, drop_at hc, cur_next h.le hc]
    conv => lhs; unfold pcs
    rw [if_pos hd]
theorem value_in {l : List Int} (h : ∀ c ∈ l, isD c = true) : -1 ≤ valueZ l ∧ valueZ l < 10000000000 := by
  unfold valueZ
  split
  · omega
  · rename_i q
    have hl : l.length ≤ 10 := by
      rcases Nat.lt_or_ge 10 l.length with r | r
      · exact absurd (.inr (.inl r)) q
      · exact r
    have := valL_lt l (all_dig h)
    have := pow_ten l.length hl
    omega
theorem YJ.none {l : List Int} {acc : List (Int × Int)} {frm i : Nat} {c : Int} (h : YJ l acc frm i) (hc : l[i]? = some c) (hd : isD c = false) (hb : ¬ (c = 84 ∧ frm = i)) (hv : valueZ ((l.drop frm).take (i - frm)) < 0 ∨ c = 84) : pcs [] l = none := by
  have hi := (List.getElem?_eq_some_iff.1 hc).1
  rw [h.eq, drop_at hc]
  conv => lhs; arg 2; unfold pcs
  rw [if_neg (by rw [hd]; simp), if_neg, if_pos hv]
  · rfl
  · rintro ⟨q1, q2⟩
    have := cur_len h.le (by omega : i ≤ l.length)
    rw [q2] at this
    exact hb ⟨q1, by simp at this; have := h.le; omega⟩
theorem YJ.bare {l : List Int} {acc : List (Int × Int)} {i : Nat} (h : YJ l acc i i) (hc : l[i]? = some 84) : YJ l (acc ++ [(0, 84)]) (i + 1) (i + 1) := by
  have hi := (List.getElem?_eq_some_iff.1 hc).1
  refine ⟨by omega, by omega, by have := h.len; simp; omega, by simp, ?_, ?_⟩
  · rw [h.eq, drop_at hc, Nat.sub_self, List.take_zero, Nat.sub_self, List.take_zero, pcs_T]
    cases pcs [] (l.drop (i + 1)) <;> simp
  · intro p hp
    rcases List.mem_append.1 hp with q | q
    · exact h.ok p q
    · simp at q; subst q; simp
theorem YJ.piece {l : List Int} {acc : List (Int × Int)} {frm i : Nat} {c : Int} (h : YJ l acc frm i) (hc : l[i]? = some c) (hd : isD c = false) (hb : c ≠ 84) (hv : ¬ valueZ ((l.drop frm).take (i - frm)) < 0) (hcb : 0 ≤ c ∧ c < 256) : YJ l (acc ++ [(valueZ ((l.drop frm).take (i - frm)), c)]) (i + 1) (i + 1) := by
  have hi := (List.getElem?_eq_some_iff.1 hc).1
  refine ⟨by omega, by omega, by have := h.len; simp; omega, by simp, ?_, ?_⟩
  · rw [h.eq, drop_at hc, Nat.sub_self, List.take_zero]
    conv => lhs; arg 2; unfold pcs
    rw [if_neg (by rw [hd]; simp), if_neg (fun q => hb q.1), if_neg (fun q => q.elim hv hb)]
    cases pcs [] (l.drop (i + 1)) <;> simp
  · intro p hp
    rcases List.mem_append.1 hp with q | q
    · exact h.ok p q
    · simp at q; subst q
      have := value_in h.dig
      exact ⟨⟨by omega, this.2⟩, hcb⟩
/-- What Pieces answers. -/
def YAns (l : List Int) (w : World) (B : Nat) (v : Value) (b : Bool) : Prop := ∃ ps, OwnP w B v ps ∧ ps.length ≤ l.length ∧ (∀ p ∈ ps, (0 ≤ p.1 ∧ p.1 < 10000000000) ∧ (0 ≤ p.2 ∧ p.2 < 256)) ∧ (b = true → pcs [] l = some ps) ∧ (b = false → pcs [] l = none)
theorem ownP_nil (w : World) (B : Nat) : OwnP w B (.slice none 0 0) [] := World.ownsRow_nil _ _ _ _
theorem yans_none {l : List Int} {w : World} {B : Nat} (h : pcs [] l = none) : YAns l w B (.slice none 0 0) false := ⟨[], ownP_nil _ _, by simp, by simp, fun q => (by cases q), fun _ => h⟩
set_option maxHeartbeats 8000000 in
theorem pieces_any (s : ByteArray) (w : World) (hs : s.size ≤ 1000) :
    Calls Tryd.prog 38 #[.string s] w fun e w' => ∃ v b, e = .returned (.tuple #[v, .bool b]) ∧ YAns (nums s) w' w.heap.size v b ∧ Below w.heap.size w w' := by
  have HL : Hid ((nums s).length = s.size) := nums_len s
  go_enter Tryd.func38, Tryd.ntmps38
  go_wp2
  go_loopw [4, 5, 6] (fun v f j wr => ∃ (frm i : Nat) (acc : List (Int × Int)), f = .int .i64 frm ∧ j = .int .i64 i ∧ YJ (nums s) acc frm i ∧ OwnP wr w.heap.size v acc ∧ Below w.heap.size w wr) (fun _ _ j _ => s.size - (intOf j).toNat)
  case atStart => exact ⟨0, 0, [], rfl, rfl, ⟨by omega, by omega, by simp, by simp, by simp, by simp⟩, ownP_nil _ _, Below.refl _ _⟩
  case round =>
    obtain ⟨frm, i, acc, rfl, rfl, hj, hown, hb⟩ := hrel
    have hle := hj.le
    have htop : i ≤ s.size := by have := hj.top; rw [HL.out] at this; exact this
    have hal : acc.length ≤ 1000 := by have := hj.len; omega
    have HJ : Hid (YJ (nums s) acc frm i) := hj
    have HO : Hid (OwnP wr w.heap.size u4 acc) := hown
    have HB : Hid (Below w.heap.size w wr) := hb
    have hsz : w.heap.size ≤ wr.heap.size := hb.size
    clear hj hown hb
    by_cases hlt : i < s.size
    · have HT : Hid ((nums s)[i]? = some (s[i].toNat : Int)) := nums_at s i hlt
      have hc1 : (s[i].toNat : Int) < 256 := by have := s[i].toNat_lt; omega
      have hc0 : (0 : Int) ≤ (s[i].toNat : Int) := by omega
      obtain ⟨c, hc⟩ : ∃ c : Int, ((s[i]'hlt).toNat : Int) = c := ⟨_, rfl⟩
      rw [hc] at HT hc1 hc0
      by_cases hd : 48 ≤ c ∧ c ≤ 57
      · have HN : Hid (YJ (nums s) acc frm (i + 1)) := HJ.out.digit HT.out ((isD_iff c).2 hd)
        obtain ⟨d1, d2⟩ := hd
        clear HJ HT
        go_wp2
        go_roundw
        case rel => exact ⟨frm, i + 1, acc, rfl, by go_num, HN.out, HO.out, HB.out⟩
        case measure => simp [intOf]; omega
      · have HD : Hid (isD c = false) := by unfold Hid; rw [← Bool.not_eq_true, isD_iff]; exact hd
        have hdd : (decide (48 ≤ c) && decide (c ≤ 57)) = false := by rw [← Bool.not_eq_true]; simp; omega
        have hcell := value_in HJ.out.dig
        have HV : Hid (∀ v, Calls Tryd.prog 32 #[.string (s.extract frm i)] v fun e w' => e = .returned (.int .i64 (valueZ (((nums s).drop frm).take (i - frm)))) ∧ v = w') := fun v => by
          have := rvalue_any (s.extract frm i) v (by rw [ByteArray.size_extract]; omega)
          rwa [nums_extract] at this
        by_cases h84 : c = 84
        · have tA : (c != 84) = false := by simp [h84]
          have tB : (c == 84) = true := by simp [h84]
          have d1 : 48 ≤ c := by omega
          have d2 : ¬ c ≤ 57 := by omega
          by_cases hfi : frm = i
          · have HN : Hid (YJ (nums s) (acc ++ [(0, c)]) (i + 1) (i + 1)) := by
              subst hfi; subst h84; exact HJ.out.bare HT.out
            have hgt : ¬ frm < i := by omega
            clear HV hcell h84 hfi HJ HT HD
            have HW : Hid (Below w.heap.size w (wr.alloc (.cells #[.int .i64 0, .int .u8 c] 65))) := HB.out.alloc hsz _
            have HOW : Hid (OwnP (wr.alloc (.cells #[.int .i64 0, .int .u8 c] 65)) w.heap.size u4 acc) := own_keep HO.out (keep wr _)
            go_wp2_with (at_builtin; refine app_piece (wr.alloc (.cells #[.int .i64 0, .int .u8 c] 65)) rfl (.tmp 52) (.tmp 54) rfl w.heap.size u4 acc rfl HOW.out 0 c (wr.heap.size + 1) (by simp) rfl (by omega) (by simp; omega) ?_)
            intro v2 w2 hO2 hB2
            have HB2 : Hid (Below w.heap.size w w2) := HW.out.trans hB2
            have HO2 : Hid (OwnP w2 w.heap.size v2 (acc ++ [(0, c)])) := hO2
            clear hO2 hB2 HW HOW
            go_wp2
            go_roundw
            case rel => exact ⟨i + 1, i + 1, acc ++ [(0, c)], rfl, by go_num, HN.out, HO2.out, HB2.out⟩
            case measure => simp [intOf]; omega
          · have hgt : frm < i := by omega
            have HX : Hid (pcs [] (nums s) = none) := HJ.out.none HT.out HD.out (fun q => hfi q.2) (.inr h84)
            generalize valueZ (((nums s).drop frm).take (i - frm)) = vv at *
            clear h84 hfi HJ HT HD
            by_cases hvn : vv < 0
            · go_wp2_with fail
              refine (HV.out _).mono ?_
              rintro e w1 ⟨rfl, rfl⟩
              go_wp2
              go_ret2
              exact ⟨_, _, rfl, yans_none HX.out, HB.out.alloc hsz _⟩
            · go_wp2_with fail
              refine (HV.out _).mono ?_
              rintro e w1 ⟨rfl, rfl⟩
              go_wp2
              go_ret2
              exact ⟨_, _, rfl, yans_none HX.out, HB.out.alloc hsz _⟩
        · have tA : (c != 84) = true := by simp [h84]
          have tB : (c == 84) = false := by simp [h84]
          by_cases d1 : 48 ≤ c
          · have d2 : ¬ c ≤ 57 := by omega
            by_cases hvn : valueZ (((nums s).drop frm).take (i - frm)) < 0
            · have HX : Hid (pcs [] (nums s) = none) := HJ.out.none HT.out HD.out (fun q => h84 q.1) (.inl hvn)
              generalize valueZ (((nums s).drop frm).take (i - frm)) = vv at *
              clear h84 HJ HT HD
              go_wp2_with fail
              refine (HV.out _).mono ?_
              rintro e w1 ⟨rfl, rfl⟩
              go_wp2
              go_ret2
              exact ⟨_, _, rfl, yans_none HX.out, HB.out.alloc hsz _⟩
            · have HN : Hid (YJ (nums s) (acc ++ [(valueZ (((nums s).drop frm).take (i - frm)), c)]) (i + 1) (i + 1)) := HJ.out.piece HT.out HD.out h84 hvn ⟨hc0, hc1⟩
              generalize valueZ (((nums s).drop frm).take (i - frm)) = vv at *
              clear h84 HJ HT HD
              go_wp2_with fail
              refine (HV.out _).mono ?_
              rintro e w1 ⟨rfl, rfl⟩
              have HW : Hid (Below w.heap.size w (wr.alloc (.cells #[.int .i64 vv, .int .u8 c] 65))) := HB.out.alloc hsz _
              have HOW : Hid (OwnP (wr.alloc (.cells #[.int .i64 vv, .int .u8 c] 65)) w.heap.size u4 acc) := own_keep HO.out (keep wr _)
              go_wp2_with (at_builtin; refine app_piece (wr.alloc (.cells #[.int .i64 vv, .int .u8 c] 65)) rfl (.tmp 52) (.tmp 54) rfl w.heap.size u4 acc rfl HOW.out vv c (wr.heap.size + 1) (by simp) rfl (by omega) (by simp; omega) ?_)
              intro v2 w2 hO2 hB2
              have HB2 : Hid (Below w.heap.size w w2) := HW.out.trans hB2
              have HO2 : Hid (OwnP w2 w.heap.size v2 (acc ++ [(vv, c)])) := hO2
              clear hO2 hB2 HW HOW
              go_wp2
              go_roundw
              case rel => exact ⟨i + 1, i + 1, acc ++ [(vv, c)], rfl, by go_num, HN.out, HO2.out, HB2.out⟩
              case measure => simp [intOf]; omega
          · skip
            by_cases hvn : valueZ (((nums s).drop frm).take (i - frm)) < 0
            · have HX : Hid (pcs [] (nums s) = none) := HJ.out.none HT.out HD.out (fun q => h84 q.1) (.inl hvn)
              generalize valueZ (((nums s).drop frm).take (i - frm)) = vv at *
              clear h84 HJ HT HD
              go_wp2_with fail
              refine (HV.out _).mono ?_
              rintro e w1 ⟨rfl, rfl⟩
              go_wp2
              go_ret2
              exact ⟨_, _, rfl, yans_none HX.out, HB.out.alloc hsz _⟩
            · have HN : Hid (YJ (nums s) (acc ++ [(valueZ (((nums s).drop frm).take (i - frm)), c)]) (i + 1) (i + 1)) := HJ.out.piece HT.out HD.out h84 hvn ⟨hc0, hc1⟩
              generalize valueZ (((nums s).drop frm).take (i - frm)) = vv at *
              clear h84 HJ HT HD
              go_wp2_with fail
              refine (HV.out _).mono ?_
              rintro e w1 ⟨rfl, rfl⟩
              have HW : Hid (Below w.heap.size w (wr.alloc (.cells #[.int .i64 vv, .int .u8 c] 65))) := HB.out.alloc hsz _
              have HOW : Hid (OwnP (wr.alloc (.cells #[.int .i64 vv, .int .u8 c] 65)) w.heap.size u4 acc) := own_keep HO.out (keep wr _)
              go_wp2_with (at_builtin; refine app_piece (wr.alloc (.cells #[.int .i64 vv, .int .u8 c] 65)) rfl (.tmp 52) (.tmp 54) rfl w.heap.size u4 acc rfl HOW.out vv c (wr.heap.size + 1) (by simp) rfl (by omega) (by simp; omega) ?_)
              intro v2 w2 hO2 hB2
              have HB2 : Hid (Below w.heap.size w w2) := HW.out.trans hB2
              have HO2 : Hid (OwnP w2 w.heap.size v2 (acc ++ [(vv, c)])) := hO2
              clear hO2 hB2 HW HOW
              go_wp2
              go_roundw
              case rel => exact ⟨i + 1, i + 1, acc ++ [(vv, c)], rfl, by go_num, HN.out, HO2.out, HB2.out⟩
              case measure => simp [intOf]; omega
    · obtain rfl : i = s.size := by omega
      have HX : Hid (frm = s.size → pcs [] (nums s) = some acc) := fun q => by
        rw [HJ.out.eq, q, Nat.sub_self, List.take_zero, List.drop_of_length_le (by rw [HL.out]; exact Nat.le_refl _)]
        simp [pcs]
      have HY : Hid (frm ≠ s.size → pcs [] (nums s) = none) := fun q => by
        rw [HJ.out.eq, List.drop_of_length_le (i := s.size) (by rw [HL.out]; exact Nat.le_refl _), pcs_end]
        · rfl
        · intro e
          have := cur_len HJ.out.le HJ.out.top
          rw [e] at this
          simp at this
          omega
      have HK : Hid (∀ p ∈ acc, (0 ≤ p.1 ∧ p.1 < 10000000000) ∧ (0 ≤ p.2 ∧ p.2 < 256)) := HJ.out.ok
      have HLE : Hid (acc.length ≤ (nums s).length) := by unfold Hid; rw [HL.out]; exact HJ.out.len
      clear HJ
      by_cases hfs : frm = s.size
      · have te : ((frm : Int) == (s.size : Int)) = true := by simp [hfs]
        go_wp2
        go_ret2
        exact ⟨_, _, rfl, ⟨acc, HO.out, HLE.out, HK.out, fun _ => HX.out hfs, fun q => (by cases q)⟩, HB.out⟩
      · have te : ((frm : Int) == (s.size : Int)) = false := by simp; omega
        go_wp2
        go_ret2
        exact ⟨_, _, rfl, ⟨acc, HO.out, HLE.out, HK.out, fun q => (by cases q), fun _ => HY.out hfs⟩, HB.out⟩
end Go.Proofs.YtkamnphiocoebaaDoor
