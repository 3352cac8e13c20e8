/-
  The contracts of the reference's units, pairs and wide.
-/
import Derived.Test.YtlhhbmolkiojfaaDoorCt
namespace Go.Proofs.YtlhhbmolkiojfaaDoor
open Go.RowKit
set_option linter.unusedVariables false

theorem step_append_own {P : Program} {ops : Array Oper} {o : Oper} {a : Act} {w : World} {K : Act → World → Prop} {Q : Exit → Act → World → Prop} {E : Prop}
    (hg : o.guard = none) (s x : Operand) (t : TypeId) (hop : o.op = Op.call { callee := Callee.builtin Builtin.append, args := #[s, x], argTypes := #[t, t] })
    (base : Nat) (e : TypeId) (i : TypeInfo) (z : Value) (size bytes : Nat) (h1 : P.underlying t = some (.slice e)) (h2 : P.info? e = some i) (h3 : i.zero = some z) (h4 : i.size = size) (h5 : i.bytes = bytes) (h6 : z.cells.size = size) (h7 : 0 < size)
    (v : Value) (n : Nat) (xs : List Value) (hs : a.eval s = v) (hown : w.ownsRow base e size v n xs)
    (ad : Addr) (m c : Nat) (news : List Value) (hx : a.eval x = .slice (some ad) m c) (hn : news.length = m * size) (hc : ∀ j u, news[j]? = some u → w.cell? (ad.add j) = some u) (h1c : ∀ u ∈ news, u.oneCell' = true)
    (b1 : n + m ≤ maxLen) (b2 : (n + m) * bytes ≤ 140737488355328) (hbase : base ≤ w.heap.size)
    (hK : ∀ v' w', w'.ownsRow base e size v' (n + m) (xs ++ news) → w.grownBy w' v.ownBlock → K (a.put o.dst v') w') :
    if Region.wanted o (yielded ops a.tmps) = true then Oper.wp P o a w K Q else E := by
  have hw : Region.wanted o (yielded ops a.tmps) = true := by simp [Region.wanted, hg]
  rw [if_pos hw]
  obtain ⟨v', w', hrun, r1, r2, _⟩ := run_append_own (P := P) w base t o.type e i z size bytes h1 h2 h3 h4 h5 h6 h7 v n xs hown ad m c news hn hc h1c b1 b2 hbase
  unfold Oper.wp
  simp [execOp, hop, resolve, invoke, builtin, hs, hx, hrun, Result.andThen]
  exact hK v' w' r1 r2
/-- Bytes as units. -/
def unitsZ (s : Int) : List Int → List Int
  | a :: b :: r => unitZ s a b :: unitsZ s r
  | _ => []
/-- A point's units. -/
def uOf (p : Int) : List Int := if p < 65536 then [p] else [55296 + (p - 65536) / 1024, 56320 + (p - 65536) % 1024]
def uF (ps : List Int) : List Int := ps.flatMap uOf
theorem uF_nil : uF [] = [] := rfl
theorem uF_cons (p : Int) (ps : List Int) : uF (p :: ps) = uOf p ++ uF ps := by simp [uF]
theorem uF_append (ps qs : List Int) : uF (ps ++ qs) = uF ps ++ uF qs := by simp [uF]
theorem uOf_len (p : Int) : 1 ≤ (uOf p).length ∧ (uOf p).length ≤ 2 := by unfold uOf; split <;> simp
theorem uF_ge : ∀ ps : List Int, ps.length ≤ (uF ps).length
  | [] => by simp
  | p :: ps => by have := uF_ge ps; have := uOf_len p; rw [uF_cons, List.length_append, List.length_cons]; omega
theorem units_two (s : Int) {u : Int} (h : 0 ≤ u ∧ u < 65536) (r : List Int) : unitsZ s (twoZ s u ++ r) = u :: unitsZ s r := by
  obtain ⟨a, b, e, _, _, hu⟩ := unit_two s h
  rw [e]
  show unitZ s a b :: unitsZ s r = _
  rw [hu]
theorem units_flat {s : Int} (hs : s = 7 ∨ s = 8) : ∀ {ps : List Int}, Ut.AllPt ps → ∀ r, unitsZ s (flatS s ps ++ r) = uF ps ++ unitsZ s r
  | [], _, r => rfl
  | p :: ps, h, r => by
    have hp := (Ut.ptB_iff p).1 h.head
    rw [flatS_cons, uF_cons, List.append_assoc, show encS s p = encU s p by unfold encS; rw [if_neg (by omega), if_pos hs]]
    unfold encU uOf
    split
    · rw [units_two s (by omega), units_flat hs h.tail r]; rfl
    · rw [List.append_assoc, units_two s (by omega), units_two s (by omega), units_flat hs h.tail r]; rfl
theorem units_len (s : Int) : ∀ l : List Int, (unitsZ s l).length = l.length / 2
  | [] => rfl
  | [_] => by simp [unitsZ]
  | a :: b :: r => by
    have := units_len s r
    rw [unitsZ, List.length_cons, this]; simp; omega
/-- Units that begin with one that may not stand so. -/
def badU : List Int → Prop
  | u :: r => 55296 ≤ u ∧ u ≤ 57343 ∧ (56319 < u ∨ r = [] ∨ ∃ v r', r = v :: r' ∧ (v < 56320 ∨ 57343 < v))
  | [] => False
theorem next_bad {s : Int} {r : List Int} (hl : ∀ x ∈ r, 0 ≤ x ∧ x < 256) (h : nextU s r = none) : unitsZ s r = [] ∧ r.length ≤ 1 ∨ badU (unitsZ s r) := by
  match r with
  | [] => exact .inl ⟨rfl, by simp⟩
  | [_] => exact .inl ⟨rfl, by simp⟩
  | a :: b :: r =>
    refine .inr ?_
    rw [nextU] at h
    show badU (unitZ s a b :: unitsZ s r)
    unfold badU
    by_cases c1 : unitZ s a b < 55296 ∨ 57343 < unitZ s a b
    · rw [if_pos c1] at h; cases h
    · rw [if_neg c1] at h
      refine ⟨by omega, by omega, ?_⟩
      by_cases c2 : 56320 ≤ unitZ s a b
      · exact .inl (by omega)
      · rw [if_neg c2] at h
        match r with
        | [] => exact .inr (.inl rfl)
        | [_] => exact .inr (.inl rfl)
        | c :: d :: r' =>
          refine .inr (.inr ⟨_, _, rfl, ?_⟩)
          rw [tailU] at h
          by_cases c3 : unitZ s c d < 56320 ∨ 57343 < unitZ s c d
          · exact c3
          · rw [if_neg c3] at h; cases h
set_option maxRecDepth 100000 in
set_option maxHeartbeats 8000000 in
theorem runits_le (a : Option Addr) (len cap : Nat) (l : List Int) (w : World) (hlen : l.length = len) (hl : Byt l) (hcap : len ≤ cap) (hm : cap ≤ maxLen) (hsmall : len ≤ 4000) (hrow : Row w a l) :
    Calls Tryd.prog 49 #[.slice a len cap, .bool true] w fun e w' => ∃ v, e = .returned v ∧ Ut.Own32 w' w.heap.size v (unitsZ 8 l) ∧ Below w.heap.size w w' := by
  obtain ⟨j0, hi, hz0, hz1, hz2⟩ := info_parts Ut.Tryd.info21
  unfold maxLen at hm
  have HL : Hid (l.length = len) := hlen
  have HR : Hid (Row w a l) := hrow
  clear hlen hrow
  go_enter Tryd.func49, Tryd.ntmps49
  go_wp2
  go_loopw [5, 6] (fun v i wr => ∃ (k : Nat) (qs : List Int), i = .int .i64 k ∧ k ≤ len ∧ qs.length ≤ k ∧ unitsZ 8 l = qs ++ unitsZ 8 (l.drop k) ∧ Ut.Own32 wr w.heap.size v qs ∧ Below w.heap.size w wr) (fun _ i _ => len - (intOf i).toNat)
  case atStart => exact ⟨0, [], rfl, by omega, by simp, rfl, World.ownsRow_nil _ _ _ _, Below.refl _ _⟩
  case round =>
    obtain ⟨k, qs, rfl, hk, hql, heq, hown, hb⟩ := hrel
    have HE : Hid (unitsZ 8 l = qs ++ unitsZ 8 (l.drop k)) := heq
    have HO : Hid (Ut.Own32 wr w.heap.size u5 qs) := hown
    have HB : Hid (Below w.heap.size w wr) := hb
    have hsz := hb.size
    have hwk : IntKind.i64.wrap ((k : Int) + 1) = (k : Int) + 1 := by rw [IntKind.wrap_i64]; omega
    clear heq hown hb
    by_cases hlt : k + 1 < len
    · obtain ⟨x, hx⟩ : ∃ x, l[k]? = some x := ⟨_, List.getElem?_eq_getElem (by rw [HL.out]; omega)⟩
      obtain ⟨y, hy⟩ : ∃ y, l[k + 1]? = some y := ⟨_, List.getElem?_eq_getElem (by rw [HL.out]; omega)⟩
      have hxb := hl x (List.mem_of_getElem? hx)
      have hyb := hl y (List.mem_of_getElem? hy)
      have HD : Hid (l.drop k = x :: y :: l.drop (k + 2)) := by
        unfold Hid
        rw [List.drop_eq_getElem_cons (by rw [HL.out]; omega), List.drop_eq_getElem_cons (by rw [HL.out]; omega)]
        rw [List.getElem?_eq_getElem (by rw [HL.out]; omega)] at hx hy
        rw [Option.some.inj hx, Option.some.inj hy]
      have HEQ : Hid (unitsZ 8 l = (qs ++ [256 * y + x]) ++ unitsZ 8 (l.drop (k + 2))) := by
        unfold Hid
        rw [HE.out, HD.out, List.append_assoc]
        show qs ++ (unitZ 8 x y :: _) = _
        rw [show unitZ 8 x y = 256 * y + x by unfold unitZ; simp; omega]
        rfl
      rcases row_below HR.out HB.out with h | ⟨b, off, hab, hcell⟩
      · rw [h] at hx; simp at hx
      · have c0 := hcell k (by rw [HL.out]; omega)
        have c1 := hcell (k + 1) (by rw [HL.out]; omega)
        rw [List.getD_eq_getElem?_getD, hx] at c0
        rw [List.getD_eq_getElem?_getD, hy] at c1
        simp only [Option.getD_some] at c0 c1
        have hblt : b < w.heap.size := by
          rcases HR.out with h | ⟨b', off', hab', hcell'⟩
          · rw [h] at hx; simp at hx
          · rw [hab'] at hab
            simp only [Option.some.injEq, Addr.mk.injEq] at hab
            obtain ⟨rfl, rfl, _⟩ := hab
            exact World.block_lt_of_cell? w _ (hcell' k (by rw [HL.out]; omega))
        have HNB : Hid (some b ≠ u5.ownBlock) := by
          intro e
          have := (HO.out.lt b e.symm).1
          omega
        subst hab
        clear hx hy hcell
        have hw1 : IntKind.i32.wrap (256 * y) = 256 * y := by rw [IntKind.wrap_i32]; omega
        have hw1' : IntKind.i32.wrap (256 * x) = 256 * x := by rw [IntKind.wrap_i32]; omega
        have hw2 : IntKind.i32.wrap (256 * y + x) = 256 * y + x := by rw [IntKind.wrap_i32]; omega
        have hwx : IntKind.i32.wrap x = x := by rw [IntKind.wrap_i32]; omega
        have hwy : IntKind.i32.wrap y = y := by rw [IntKind.wrap_i32]; omega
        have hn1 : ((k : Int) + 1).toNat = k + 1 := by omega
        have hk1 : (k : Int) + 1 < (len : Int) := by omega
        have hk0 : (k : Int) < (len : Int) := by omega
        have hk00 : (0 : Int) ≤ (k : Int) := by omega
        have hk01 : (0 : Int) ≤ (k : Int) + 1 := by omega
        have hkn : k < len := by omega
        have hkn1 : k + 1 < len := by omega
        go_wp2_with fail
        go_region_held3 (fun W => W.cell? ⟨b, off + k, none⟩ = some (.int .u8 x) ∧ W.cell? ⟨b, off + (k + 1), none⟩ = some (.int .u8 y)) (go_keep) (first | (refine step_append_own rfl (.tmp 15) (.tmp 29) 34 rfl w.heap.size 21 j0 (.int .i32 0) 1 4 Tryd.underlying34 hi hz0 hz1 hz2 rfl (by decide) u5 qs.length (qs.map (Value.int .i32)) rfl (HO.out.alloc _).drew ⟨wr.heap.size, 0, none⟩ 1 1 (([256 * y + x] : List Int).map (Value.int .i32)) rfl rfl (fun j u hu => cells_new wr _ 21 j u hu) (Ut.ints_one32 _) ?_ ?_ ?_ ?_; (unfold maxLen; omega); omega; (simp; omega); intro v4 w4 hown4 hgrow4; have hS1 : w4.cell? ⟨b, off + k, none⟩ = some (.int .u8 x) := hgrow4.cell (a := ⟨b, off + k, none⟩) (((keep wr (.cells #[.int .i32 (256 * y + x)] 21)).cell (by simp; omega)).trans c0) HNB.out; have hS2 : w4.cell? ⟨b, off + (k + 1), none⟩ = some (.int .u8 y) := hgrow4.cell (a := ⟨b, off + (k + 1), none⟩) (((keep wr (.cells #[.int .i32 (256 * y + x)] 21)).cell (by simp; omega)).trans c1) HNB.out))
        have HB4 : Hid (Below w.heap.size w w4) := ((HB.out.alloc hsz _).drew).grown hgrow4 (by simp; omega) (fun k hk => (HO.out.lt k hk).1)
        have HO4 : Hid (Ut.Own32 w4 w.heap.size v4 (qs ++ [256 * y + x])) := by
          unfold Hid Ut.Own32; rw [List.length_append, List.map_append]; exact hown4
        clear hown4 hgrow4 hS1 hS2
        go_wp2
        go_roundw
        case rel => exact ⟨k + 2, qs ++ [256 * y + x], by go_num, by omega, by rw [List.length_append]; simp; omega, HEQ.out, HO4.out, HB4.out⟩
        case measure => simp [intOf]; omega
    · have HF : Hid (unitsZ 8 l = qs) := by
        unfold Hid
        rw [HE.out]
        have h1 : (l.drop k).length ≤ 1 := by rw [List.length_drop, HL.out]; omega
        match hd : l.drop k with
        | [] => simp [unitsZ]
        | [_] => simp [unitsZ]
        | _ :: _ :: _ => rw [hd] at h1; simp at h1
      go_wp2
      go_ret
      exact ⟨_, rfl, by rw [HF.out]; exact HO.out, HB.out⟩
set_option maxRecDepth 100000 in
set_option maxHeartbeats 8000000 in
theorem runits_be (a : Option Addr) (len cap : Nat) (l : List Int) (w : World) (hlen : l.length = len) (hl : Byt l) (hcap : len ≤ cap) (hm : cap ≤ maxLen) (hsmall : len ≤ 4000) (hrow : Row w a l) :
    Calls Tryd.prog 49 #[.slice a len cap, .bool false] w fun e w' => ∃ v, e = .returned v ∧ Ut.Own32 w' w.heap.size v (unitsZ 7 l) ∧ Below w.heap.size w w' := by
  obtain ⟨j0, hi, hz0, hz1, hz2⟩ := info_parts Ut.Tryd.info21
  unfold maxLen at hm
  have HL : Hid (l.length = len) := hlen
  have HR : Hid (Row w a l) := hrow
  clear hlen hrow
  go_enter Tryd.func49, Tryd.ntmps49
  go_wp2
  go_loopw [5, 6] (fun v i wr => ∃ (k : Nat) (qs : List Int), i = .int .i64 k ∧ k ≤ len ∧ qs.length ≤ k ∧ unitsZ 7 l = qs ++ unitsZ 7 (l.drop k) ∧ Ut.Own32 wr w.heap.size v qs ∧ Below w.heap.size w wr) (fun _ i _ => len - (intOf i).toNat)
  case atStart => exact ⟨0, [], rfl, by omega, by simp, rfl, World.ownsRow_nil _ _ _ _, Below.refl _ _⟩
  case round =>
    obtain ⟨k, qs, rfl, hk, hql, heq, hown, hb⟩ := hrel
    have HE : Hid (unitsZ 7 l = qs ++ unitsZ 7 (l.drop k)) := heq
    have HO : Hid (Ut.Own32 wr w.heap.size u5 qs) := hown
    have HB : Hid (Below w.heap.size w wr) := hb
    have hsz := hb.size
    have hwk : IntKind.i64.wrap ((k : Int) + 1) = (k : Int) + 1 := by rw [IntKind.wrap_i64]; omega
    clear heq hown hb
    by_cases hlt : k + 1 < len
    · obtain ⟨x, hx⟩ : ∃ x, l[k]? = some x := ⟨_, List.getElem?_eq_getElem (by rw [HL.out]; omega)⟩
      obtain ⟨y, hy⟩ : ∃ y, l[k + 1]? = some y := ⟨_, List.getElem?_eq_getElem (by rw [HL.out]; omega)⟩
      have hxb := hl x (List.mem_of_getElem? hx)
      have hyb := hl y (List.mem_of_getElem? hy)
      have HD : Hid (l.drop k = x :: y :: l.drop (k + 2)) := by
        unfold Hid
        rw [List.drop_eq_getElem_cons (by rw [HL.out]; omega), List.drop_eq_getElem_cons (by rw [HL.out]; omega)]
        rw [List.getElem?_eq_getElem (by rw [HL.out]; omega)] at hx hy
        rw [Option.some.inj hx, Option.some.inj hy]
      have HEQ : Hid (unitsZ 7 l = (qs ++ [256 * x + y]) ++ unitsZ 7 (l.drop (k + 2))) := by
        unfold Hid
        rw [HE.out, HD.out, List.append_assoc]
        show qs ++ (unitZ 7 x y :: _) = _
        rw [show unitZ 7 x y = 256 * x + y by unfold unitZ; simp; omega]
        rfl
      rcases row_below HR.out HB.out with h | ⟨b, off, hab, hcell⟩
      · rw [h] at hx; simp at hx
      · have c0 := hcell k (by rw [HL.out]; omega)
        have c1 := hcell (k + 1) (by rw [HL.out]; omega)
        rw [List.getD_eq_getElem?_getD, hx] at c0
        rw [List.getD_eq_getElem?_getD, hy] at c1
        simp only [Option.getD_some] at c0 c1
        have hblt : b < w.heap.size := by
          rcases HR.out with h | ⟨b', off', hab', hcell'⟩
          · rw [h] at hx; simp at hx
          · rw [hab'] at hab
            simp only [Option.some.injEq, Addr.mk.injEq] at hab
            obtain ⟨rfl, rfl, _⟩ := hab
            exact World.block_lt_of_cell? w _ (hcell' k (by rw [HL.out]; omega))
        have HNB : Hid (some b ≠ u5.ownBlock) := by
          intro e
          have := (HO.out.lt b e.symm).1
          omega
        subst hab
        clear hx hy hcell
        have hw1 : IntKind.i32.wrap (256 * y) = 256 * y := by rw [IntKind.wrap_i32]; omega
        have hw1' : IntKind.i32.wrap (256 * x) = 256 * x := by rw [IntKind.wrap_i32]; omega
        have hw2 : IntKind.i32.wrap (256 * x + y) = 256 * x + y := by rw [IntKind.wrap_i32]; omega
        have hwx : IntKind.i32.wrap x = x := by rw [IntKind.wrap_i32]; omega
        have hwy : IntKind.i32.wrap y = y := by rw [IntKind.wrap_i32]; omega
        have hn1 : ((k : Int) + 1).toNat = k + 1 := by omega
        have hk1 : (k : Int) + 1 < (len : Int) := by omega
        have hk0 : (k : Int) < (len : Int) := by omega
        have hk00 : (0 : Int) ≤ (k : Int) := by omega
        have hk01 : (0 : Int) ≤ (k : Int) + 1 := by omega
        have hkn : k < len := by omega
        have hkn1 : k + 1 < len := by omega
        go_wp2_with fail
        go_region_held3 (fun W => W.cell? ⟨b, off + k, none⟩ = some (.int .u8 x) ∧ W.cell? ⟨b, off + (k + 1), none⟩ = some (.int .u8 y)) (go_keep) (first | (refine step_append_own rfl (.tmp 31) (.tmp 45) 34 rfl w.heap.size 21 j0 (.int .i32 0) 1 4 Tryd.underlying34 hi hz0 hz1 hz2 rfl (by decide) u5 qs.length (qs.map (Value.int .i32)) rfl (HO.out.alloc _).drew ⟨wr.heap.size, 0, none⟩ 1 1 (([256 * x + y] : List Int).map (Value.int .i32)) rfl rfl (fun j u hu => cells_new wr _ 21 j u hu) (Ut.ints_one32 _) ?_ ?_ ?_ ?_; (unfold maxLen; omega); omega; (simp; omega); intro v4 w4 hown4 hgrow4; have hS1 : w4.cell? ⟨b, off + k, none⟩ = some (.int .u8 x) := hgrow4.cell (a := ⟨b, off + k, none⟩) (((keep wr (.cells #[.int .i32 (256 * x + y)] 21)).cell (by simp; omega)).trans c0) HNB.out; have hS2 : w4.cell? ⟨b, off + (k + 1), none⟩ = some (.int .u8 y) := hgrow4.cell (a := ⟨b, off + (k + 1), none⟩) (((keep wr (.cells #[.int .i32 (256 * x + y)] 21)).cell (by simp; omega)).trans c1) HNB.out))
        have HB4 : Hid (Below w.heap.size w w4) := ((HB.out.alloc hsz _).drew).grown hgrow4 (by simp; omega) (fun k hk => (HO.out.lt k hk).1)
        have HO4 : Hid (Ut.Own32 w4 w.heap.size v4 (qs ++ [256 * x + y])) := by
          unfold Hid Ut.Own32; rw [List.length_append, List.map_append]; exact hown4
        clear hown4 hgrow4 hS1 hS2
        go_wp2
        go_roundw
        case rel => exact ⟨k + 2, qs ++ [256 * x + y], by go_num, by omega, by rw [List.length_append]; simp; omega, HEQ.out, HO4.out, HB4.out⟩
        case measure => simp [intOf]; omega
    · have HF : Hid (unitsZ 7 l = qs) := by
        unfold Hid
        rw [HE.out]
        have h1 : (l.drop k).length ≤ 1 := by rw [List.length_drop, HL.out]; omega
        match hd : l.drop k with
        | [] => simp [unitsZ]
        | [_] => simp [unitsZ]
        | _ :: _ :: _ => rw [hd] at h1; simp at h1
      go_wp2
      go_ret
      exact ⟨_, rfl, by rw [HF.out]; exact HO.out, HB.out⟩
end Go.Proofs.YtlhhbmolkiojfaaDoor
