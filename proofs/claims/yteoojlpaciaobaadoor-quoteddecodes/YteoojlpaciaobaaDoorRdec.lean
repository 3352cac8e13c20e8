/-
  The contracts of the reference's value, trailing and Decode.
-/
import Derived.Test.YteoojlpaciaobaaDoorPair
import Derived.Deep.RegionHeld3
namespace Go.Proofs.YteoojlpaciaobaaDoor
open Go.RowKit
set_option linter.unusedVariables false

theorem rvalue_any (c : Int) (w : World) (h0 : 0 ≤ c) (h1 : c < 256) : Calls Tryd.prog 24 #[.int .u8 c] w fun e w' => e = .returned (.int .i64 (valQ c)) ∧ w = w' := by
  have hcase : (48 ≤ c ∧ c ≤ 57 ∧ valQ c = c - 48) ∨ (65 ≤ c ∧ c ≤ 70 ∧ valQ c = c - 55) ∨ (97 ≤ c ∧ c ≤ 102 ∧ valQ c = c - 87) ∨ ((c < 48 ∨ (57 < c ∧ c < 65) ∨ (70 < c ∧ c < 97) ∨ 102 < c) ∧ valQ c = -1) := by
    unfold valQ
    split <;> (try split) <;> (try split) <;> omega
  rcases hcase with ⟨ha, hb, hv⟩ | ⟨ha, hb, hv⟩ | ⟨ha, hb, hv⟩ | ⟨ha, hv⟩
  · rw [hv]
    clear hv
    go_enter Tryd.func24, Tryd.ntmps24
    go_wp2
    go_ret
    exact ⟨rfl, rfl⟩
  · rw [hv]
    clear hv
    go_enter Tryd.func24, Tryd.ntmps24
    go_wp2
    go_ret
    exact ⟨rfl, rfl⟩
  · rw [hv]
    clear hv
    go_enter Tryd.func24, Tryd.ntmps24
    go_wp2
    go_ret
    exact ⟨rfl, rfl⟩
  · rw [hv]
    clear hv
    rcases ha with ha | ha | ha | ha
    all_goals
      go_enter Tryd.func24, Tryd.ntmps24
      go_wp2
      all_goals go_ret
      all_goals exact ⟨rfl, rfl⟩
set_option maxHeartbeats 2000000 in
theorem trailing_any (a : Option Addr) (len cap k0 : Nat) (l : List Int) (w : World) (hl : l.length = len) (hcap : len ≤ cap) (hm : cap ≤ 9223372036854775807) (hk : k0 ≤ len) (hs : len ≤ 100000000) (hrow : Row w a l) :
    Calls Tryd.prog 25 #[.slice a len cap, .int .i64 k0] w fun e w' => e = .returned (.bool (trailQ (l.drop k0))) ∧ w = w' := by
  have HR : Hid (Row w a l) := hrow
  have HL : Hid (l.length = len) := hl
  clear hrow hl
  go_enter Tryd.func25, Tryd.ntmps25
  go_wp2
  go_loopw [1] (fun i wr => ∃ k : Nat, i = .int .i64 k ∧ k ≤ len ∧ trailQ (l.drop k0) = trailQ (l.drop k) ∧ w = wr) (fun i _ => len - (intOf i).toNat)
  case atStart => exact ⟨k0, rfl, hk, rfl, rfl⟩
  case round =>
    obtain ⟨k, rfl, hk1, ht, rfl⟩ := hrel
    have HT : Hid (trailQ (l.drop k0) = trailQ (l.drop k)) := ht
    clear ht
    by_cases hlt : k < len
    · obtain ⟨c, r, hd⟩ : ∃ c r, l.drop k = c :: r := by
        match hx : l.drop k with
        | [] => have := congrArg List.length hx; rw [List.length_drop, HL.out] at this; simp at this; omega
        | c :: r => exact ⟨c, r, rfl⟩
      obtain ⟨b, off, rfl, hcell, _⟩ := row_at HR.out hd
      have e1 : l.drop (k + 1) = r := by rw [← List.drop_drop, hd]; rfl
      have HD : Hid (l.drop k = c :: r) := hd
      clear hd
      rcases (show c = 32 ∨ c = 9 ∨ (c ≠ 32 ∧ c ≠ 9) from by omega) with rfl | rfl | ⟨h1, h2⟩
      · have HN : Hid (trailQ (l.drop k0) = trailQ (l.drop (k + 1))) := by unfold Hid; rw [HT.out, HD.out, e1]; rfl
        clear e1
        go_wp2
        go_roundw
        case rel => exact ⟨k + 1, by go_num, by omega, HN.out, trivial⟩
        case measure => simp [intOf]; omega
      · have HN : Hid (trailQ (l.drop k0) = trailQ (l.drop (k + 1))) := by unfold Hid; rw [HT.out, HD.out, e1]; rfl
        clear e1
        go_wp2
        go_roundw
        case rel => exact ⟨k + 1, by go_num, by omega, HN.out, trivial⟩
        case measure => simp [intOf]; omega
      · have hb1 : (c == 32) = false := by rw [beq_eq_false_iff_ne]; exact h1
        have hb2 : (c == 9) = false := by rw [beq_eq_false_iff_ne]; exact h2
        have hne : ((k : Int) == (len : Int)) = false := by rw [beq_eq_false_iff_ne]; omega
        have HN : Hid (trailQ (l.drop k0) = pairQ (l.drop k)) := by
          unfold Hid; rw [HT.out, HD.out]; simp only [trailQ]; rw [if_neg (by omega)]
        clear h1 h2 e1
        go_wp2_with (go_at_call 16; refine (pair_any _ _ _ k l _ HL.out hcap hm (by omega) (by omega) HR.out).mono ?_; rintro e w' ⟨rfl, rfl⟩)
        all_goals go_ret
        all_goals exact ⟨by rw [HN.out]; rfl, rfl⟩
    · obtain rfl : k = len := by omega
      have HN : Hid (trailQ (l.drop k0) = true) := by unfold Hid; rw [HT.out, List.drop_of_length_le (by rw [HL.out]; omega)]; rfl
      go_wp2
      all_goals go_ret
      all_goals exact ⟨by rw [HN.out]; rfl, rfl⟩
/-- append onto an owned row, as one step of a region that draws. -/
theorem step_append_own {P : Program} {ops : Array Oper} {o : Oper} {a : Act} {w : World} {K : Act → World → Prop} {Q : Exit → Act → World → Prop} {E : Prop}
    (hg : o.guard = none) (s x : Operand) (t : TypeId) (hop : o.op = Op.call { callee := Callee.builtin Builtin.append, args := #[s, x], argTypes := #[t, t] })
    (base : Nat) (e : TypeId) (i : TypeInfo) (z : Value) (size bytes : Nat) (h1 : P.underlying t = some (.slice e)) (h2 : P.info? e = some i) (h3 : i.zero = some z) (h4 : i.size = size) (h5 : i.bytes = bytes) (h6 : z.cells.size = size) (h7 : 0 < size)
    (v : Value) (n : Nat) (xs : List Value) (hs : a.eval s = v) (hown : w.ownsRow base e size v n xs)
    (ad : Addr) (m c : Nat) (news : List Value) (hx : a.eval x = .slice (some ad) m c) (hn : news.length = m * size) (hc : ∀ j u, news[j]? = some u → w.cell? (ad.add j) = some u) (h1c : ∀ u ∈ news, u.oneCell' = true)
    (b1 : n + m ≤ maxLen) (b2 : (n + m) * bytes ≤ 140737488355328) (hbase : base ≤ w.heap.size)
    (hK : ∀ v' w', w'.ownsRow base e size v' (n + m) (xs ++ news) → w.grownBy w' v.ownBlock → K (a.put o.dst v') w') :
    if Region.wanted o (yielded ops a.tmps) = true then Oper.wp P o a w K Q else E := by
  have hw : Region.wanted o (yielded ops a.tmps) = true := by simp [Region.wanted, hg]
  rw [if_pos hw]
  obtain ⟨v', w', hrun, r1, r2, _⟩ := run_append_own (P := P) w base t o.type e i z size bytes h1 h2 h3 h4 h5 h6 h7 v n xs hown ad m c news hn hc h1c b1 b2 hbase
  unfold Oper.wp
  simp [execOp, hop, resolve, invoke, builtin, hs, hx, hrun, Result.andThen]
  exact hK v' w' r1 r2
set_option maxRecDepth 100000 in
set_option maxHeartbeats 8000000 in
theorem rdecode_any (s : ByteArray) (w : World) (hs : s.size ≤ 4194304) :
    Calls Tryd.prog 15 #[.string s] w fun e w' => ∃ v fa fc, e = .returned (.tuple #[v, .agg #[.int .i64 fa, .int .i64 fc]]) ∧ Below w.heap.size w w' ∧ DecR (decQ 0 0 (nums s)) v fa fc w' := by
  obtain ⟨j0, hi, hz0, hz1, hz2⟩ := info_parts Tryd.info5
  obtain ⟨cap, w1, hconv, hc1, hm1, hr1, hb1⟩ := conv_bytes s (w.alloc (.cells #[.int .i64 0, .int .i64 0] 30)) (by unfold maxLen; omega)
  have HF1 : Hid (w1.heap[w.heap.size]? = some (.cells #[.int .i64 0, .int .i64 0] 30 (0, 0))) := (hb1.block w.heap.size (by simp)).trans (heap_alloc_new _ _)
  have HB1 : Hid (Below w.heap.size w w1) := (keep w _).trans (hb1.mono (by simp))
  have hlt1 : w.heap.size < w1.heap.size := (Array.getElem?_eq_some_iff.1 HF1.out).1
  obtain ⟨B, hB⟩ : ∃ B, (w.alloc (.cells #[.int .i64 0, .int .i64 0] 30)).heap.size = B := ⟨_, rfl⟩
  rw [hB] at hr1 hconv
  have HR1 : Hid (Row w1 (some ⟨B, 0, none⟩) (nums s)) := hr1
  have HSL : Hid ((nums s).length = s.size) := nums_len s
  clear hr1 hb1 hB
  go_enter Tryd.func15, Tryd.ntmps15
  go_wp2
  go_loopw [5, 6] (fun v i wr => ∃ (k : Nat) (pre : List Int), i = .int .i64 k ∧ k ≤ s.size ∧ pre.length ≤ k ∧ decQ 0 0 (nums s) = preQ pre (decQ 0 k ((nums s).drop k)) ∧ wr.ownsRow w1.heap.size 5 1 v pre.length (pre.map (Value.int .u8)) ∧ Below w1.heap.size w1 wr) (fun _ i _ => s.size - (intOf i).toNat)
  case atStart => exact ⟨0, [], rfl, by omega, by simp, by rw [pre_nil]; rfl, World.ownsRow_nil _ _ _ _, Below.refl _ _⟩
  case round =>
    obtain ⟨k, pre, rfl, hk, hpl, hdec, hown, hbel⟩ := hrel
    have HDC : Hid (decQ 0 0 (nums s) = preQ pre (decQ 0 k ((nums s).drop k))) := hdec
    have HW : Hid (Below w1.heap.size w1 wr) := hbel
    have HO : Hid (wr.ownsRow w1.heap.size 5 1 u5 pre.length (pre.map (Value.int .u8))) := hown
    have hsz : w1.heap.size ≤ wr.heap.size := hbel.size
    have HRR : Hid (Row wr (some ⟨B, 0, none⟩) (nums s)) := row_below HR1.out hbel
    have hF2 : wr.heap[w.heap.size]? = some (.cells #[.int .i64 0, .int .i64 0] 30 (0, 0)) := (hbel.block w.heap.size hlt1).trans HF1.out
    have HBW : Hid (Below w.heap.size w wr) := HB1.out.trans (hbel.mono HB1.out.size)
    clear hdec hbel hown
    by_cases hlt : k < s.size
    · obtain ⟨c, r, hd⟩ : ∃ c r, (nums s).drop k = c :: r := ⟨_, _, nums_drop s k hlt⟩
      obtain ⟨b9, off9, hab, hcell, hcell1⟩ := row_at HRR.out hd
      simp only [Option.some.injEq, Addr.mk.injEq] at hab
      obtain ⟨rfl, rfl, _⟩ := hab
      rw [Nat.zero_add] at hcell hcell1
      have hcb : 0 ≤ c ∧ c < 256 := nums_byt s c (List.mem_of_mem_drop (by rw [hd]; simp))
      have hrl : r.length + 1 + k = s.size := by
        have := congrArg List.length hd
        rw [List.length_drop, nums_len] at this
        simp at this; omega
      have HD : Hid ((nums s).drop k = c :: r) := hd
      have HD1 : Hid ((nums s).drop (k + 1) = r) := by unfold Hid; rw [← List.drop_drop, hd]; rfl
      clear hd
      cases hp : pairQ (c :: r) with
      | true =>
        have hpx : pairQ ((nums s).drop k) = true := by rw [HD.out]; exact hp
        obtain ⟨r', hr⟩ := pairQ_two hp
        have hk2 : k + 2 ≤ s.size := by
          have := congrArg List.length HD.out
          rw [hr, List.length_drop, nums_len] at this
          simp at this; omega
        have HEQ : Hid (decQ 0 0 (nums s) = preQ (pre ++ [13, 10]) (decQ 0 (k + 2) ((nums s).drop (k + 2)))) := by
          have e2 : (nums s).drop (k + 2) = r' := by rw [← List.drop_drop, HD.out, hr]; rfl
          unfold Hid; rw [HDC.out, HD.out, hr, dec_pair, pre_pre, e2]
        clear hp hr hF2 hcell hcell1
        go_wp2_with (first
          | (go_at_call_of 16 (Value.int IntKind.i64 (k : Int)); refine (pair_any _ _ _ k (nums s) _ HSL.out hc1 hm1 (by omega) (by omega) HRR.out).mono ?_; rintro e w' ⟨rfl, rfl⟩; rw [hpx])
          | (at_builtin; refine wpList_append_own _ rfl (.tmp 22) (.tmp 23) 22 rfl w1.heap.size 5 j0 (.int .u8 0) 1 1 Tryd.underlying22 hi hz0 hz1 hz2 rfl (by decide) _ _ _ rfl (HO.out.alloc _) ⟨wr.heap.size, 0, none⟩ 2 2 ([13, 10].map (Value.int .u8)) rfl rfl (cells_new _ _ _) (ints_one _) ?p1 ?p2 ?p3 ?_))
        case p1 => unfold maxLen; omega
        case p2 => omega
        case p3 => first | omega | (simp; omega)
        intro v4 w4 hown4 hgrow4 _
        have HB4 : Hid (Below w1.heap.size w1 w4) := (HW.out.alloc hsz _).grown hgrow4 (by simp; omega) (fun k hk => (HO.out.lt k hk).1)
        have HO4 : Hid (w4.ownsRow w1.heap.size 5 1 v4 (pre ++ [13, 10]).length ((pre ++ [13, 10]).map (Value.int .u8))) := by
          unfold Hid; rw [List.length_append, List.map_append]; exact hown4
        clear hown4 hgrow4
        go_wp2
        go_roundw
        case rel => exact ⟨k + 2, pre ++ [13, 10], by go_num, by omega, by rw [List.length_append]; simp; omega, HEQ.out, HO4.out, HB4.out⟩
        case measure => simp [intOf]; omega
      | false =>
        have hpx : pairQ ((nums s).drop k) = false := by rw [HD.out]; exact hp
        by_cases h61 : c = 61
        · subst h61
          cases hp1 : pairQ r with
          | true =>
            have hpx1 : pairQ ((nums s).drop (k + 1)) = true := by rw [HD1.out]; exact hp1
            obtain ⟨r', hr⟩ := pairQ_two hp1
            have hk2 : k + 3 ≤ s.size := by
              rw [hr] at hrl
              simp at hrl; omega
            have HEQ : Hid (decQ 0 0 (nums s) = preQ pre (decQ 0 (k + 3) ((nums s).drop (k + 3)))) := by
              have e2 : (nums s).drop (k + 3) = r' := by rw [← List.drop_drop, HD.out, hr]; rfl
              unfold Hid; rw [HDC.out, HD.out, hr, dec_soft, e2]
            clear hp hp1 hr hF2 hcell1
            go_wp2_with (first
              | (go_at_call_of 16 (Value.int IntKind.i64 (k : Int)); refine (pair_any _ _ _ k (nums s) _ HSL.out hc1 hm1 (by omega) (by omega) HRR.out).mono ?_; rintro e w' ⟨rfl, rfl⟩; rw [hpx])
              | (go_at_call 16; refine (pair_next _ _ _ k (nums s) _ HSL.out hc1 hm1 (by omega) (by omega) HRR.out).mono ?_; rintro e w' ⟨rfl, rfl⟩; rw [hpx1]))
            go_roundw
            case rel => exact ⟨k + 3, pre, by go_num, by omega, by omega, HEQ.out, HO.out, HW.out⟩
            case measure => simp [intOf]; omega
          | false =>
            have hpx1 : pairQ ((nums s).drop (k + 1)) = false := by rw [HD1.out]; exact hp1
            by_cases hshort : r.length < 2
            · have HER : Hid (decQ 0 0 (nums s) = .error (k, 3)) := by unfold Hid; rw [HDC.out, HD.out, dec_form_short k r hshort]; rfl
              have c0 : wr.cell? ⟨w.heap.size, 0, none⟩ = some (.int .i64 0) := by rw [cell_of_row wr _ _ _ _ _ hF2]; rfl
              have c1 : wr.cell? ⟨w.heap.size, 1, none⟩ = some (.int .i64 0) := by rw [cell_of_row wr _ _ _ _ _ hF2]; rfl
              have z0 : wr.frozen? ⟨w.heap.size, 0, none⟩ = false := frozen_of_row wr _ _ _ _ hF2
              have z1 : wr.frozen? ⟨w.heap.size, 1, none⟩ = false := frozen_of_row wr _ _ _ _ hF2
              clear hF2
              clear hp hp1 hcell1
              go_wp2_with (first
                | (go_at_call_of 16 (Value.int IntKind.i64 (k : Int)); refine (pair_any _ _ _ k (nums s) _ HSL.out hc1 hm1 (by omega) (by omega) HRR.out).mono ?_; rintro e w' ⟨rfl, rfl⟩; rw [hpx])
                | (go_at_call 16; refine (pair_next _ _ _ k (nums s) _ HSL.out hc1 hm1 (by omega) (by omega) HRR.out).mono ?_; rintro e w' ⟨rfl, rfl⟩; rw [hpx1]))
              all_goals exact bodyPost_ret (v := .tuple #[.slice none 0 0, .agg #[.int .i64 k, .int .i64 3]]) (by simp [results, Tryd.results15, go_sem, c0, c1]) rfl ⟨_, _, _, rfl, (HBW.out.setCell (p := ⟨w.heap.size, 0, none⟩) (Nat.le_refl _) _).setCell (p := ⟨w.heap.size, 1, none⟩) (Nat.le_refl _) _, by rw [HER.out]; exact ⟨rfl, rfl, rfl⟩⟩
            · obtain ⟨x, y, t, rfl⟩ : ∃ x y t, r = x :: y :: t := by
                match r, hshort with
                | [], h => simp at h
                | [x], h => simp at h
                | x :: y :: t, _ => exact ⟨x, y, t, rfl⟩
              have hx1 := hcell1 x (y :: t) rfl
              obtain ⟨b8, off8, hab8, _, hcell2⟩ := row_at HRR.out HD1.out
              simp only [Option.some.injEq, Addr.mk.injEq] at hab8
              obtain ⟨rfl, rfl, _⟩ := hab8
              have hy1 := hcell2 y t rfl
              rw [Nat.zero_add] at hy1
              have hk3 : k + 3 ≤ s.size := by simp at hrl; omega
              have hxb : 0 ≤ x ∧ x < 256 := nums_byt s x (List.mem_of_mem_drop (i := k) (by rw [HD.out]; simp))
              have hyb : 0 ≤ y ∧ y < 256 := nums_byt s y (List.mem_of_mem_drop (i := k) (by rw [HD.out]; simp))
              have HVX : ∀ W : World, Calls Tryd.prog 24 #[.int .u8 x] W fun e w' => e = .returned (.int .i64 (valQ x)) ∧ W = w' := fun W => rvalue_any x W hxb.1 hxb.2
              have HVY : ∀ W : World, Calls Tryd.prog 24 #[.int .u8 y] W fun e w' => e = .returned (.int .i64 (valQ y)) ∧ W = w' := fun W => rvalue_any y W hyb.1 hyb.2
              have hbx := val_bd x
              have hby := val_bd y
              have HPP : Hid (¬ (x = 13 ∧ y = 10)) := by
                unfold Hid; rintro ⟨rfl, rfl⟩; simp [pairQ] at hp1
              clear hcell1 hcell2 hshort hp hp1 hrl
              by_cases hvx : valQ x < 0
              · have HER : Hid (decQ 0 0 (nums s) = .error (k, 3)) := by unfold Hid; rw [HDC.out, HD.out, dec_form k x y t HPP.out (.inl hvx)]; rfl
                have c0 : wr.cell? ⟨w.heap.size, 0, none⟩ = some (.int .i64 0) := by rw [cell_of_row wr _ _ _ _ _ hF2]; rfl
                have c1 : wr.cell? ⟨w.heap.size, 1, none⟩ = some (.int .i64 0) := by rw [cell_of_row wr _ _ _ _ _ hF2]; rfl
                have z0 : wr.frozen? ⟨w.heap.size, 0, none⟩ = false := frozen_of_row wr _ _ _ _ hF2
                have z1 : wr.frozen? ⟨w.heap.size, 1, none⟩ = false := frozen_of_row wr _ _ _ _ hF2
                clear hF2
                generalize valQ x = vx at HVX hbx hvx
                generalize valQ y = vy at HVY hby
                go_wp2_with (first
                  | (go_at_call_of 16 (Value.int IntKind.i64 (k : Int)); refine (pair_any _ _ _ k (nums s) _ HSL.out hc1 hm1 (by omega) (by omega) HRR.out).mono ?_; rintro e w' ⟨rfl, rfl⟩; rw [hpx])
                  | (go_at_call 16; refine (pair_next _ _ _ k (nums s) _ HSL.out hc1 hm1 (by omega) (by omega) HRR.out).mono ?_; rintro e w' ⟨rfl, rfl⟩; rw [hpx1])
                  | (go_at_call_of 24 (Value.int IntKind.u8 x); refine (HVX _).mono ?_; rintro e w' ⟨rfl, rfl⟩))
                all_goals exact bodyPost_ret (v := .tuple #[.slice none 0 0, .agg #[.int .i64 k, .int .i64 3]]) (by simp [results, Tryd.results15, go_sem, c0, c1]) rfl ⟨_, _, _, rfl, (HBW.out.setCell (p := ⟨w.heap.size, 0, none⟩) (Nat.le_refl _) _).setCell (p := ⟨w.heap.size, 1, none⟩) (Nat.le_refl _) _, by rw [HER.out]; exact ⟨rfl, rfl, rfl⟩⟩
              · by_cases hvy : valQ y < 0
                · have HER : Hid (decQ 0 0 (nums s) = .error (k, 3)) := by unfold Hid; rw [HDC.out, HD.out, dec_form k x y t HPP.out (.inr hvy)]; rfl
                  have c0 : wr.cell? ⟨w.heap.size, 0, none⟩ = some (.int .i64 0) := by rw [cell_of_row wr _ _ _ _ _ hF2]; rfl
                  have c1 : wr.cell? ⟨w.heap.size, 1, none⟩ = some (.int .i64 0) := by rw [cell_of_row wr _ _ _ _ _ hF2]; rfl
                  have z0 : wr.frozen? ⟨w.heap.size, 0, none⟩ = false := frozen_of_row wr _ _ _ _ hF2
                  have z1 : wr.frozen? ⟨w.heap.size, 1, none⟩ = false := frozen_of_row wr _ _ _ _ hF2
                  clear hF2
                  generalize valQ x = vx at HVX hbx hvx
                  generalize valQ y = vy at HVY hby hvy
                  · go_wp2_with (first
                      | (go_at_call_of 16 (Value.int IntKind.i64 (k : Int)); refine (pair_any _ _ _ k (nums s) _ HSL.out hc1 hm1 (by omega) (by omega) HRR.out).mono ?_; rintro e w' ⟨rfl, rfl⟩; rw [hpx])
                      | (go_at_call 16; refine (pair_next _ _ _ k (nums s) _ HSL.out hc1 hm1 (by omega) (by omega) HRR.out).mono ?_; rintro e w' ⟨rfl, rfl⟩; rw [hpx1])
                      | (go_at_call_of 24 (Value.int IntKind.u8 x); refine (HVX _).mono ?_; rintro e w' ⟨rfl, rfl⟩)
                      | (go_at_call_of 24 (Value.int IntKind.u8 y); refine (HVY _).mono ?_; rintro e w' ⟨rfl, rfl⟩))
                    all_goals exact bodyPost_ret (v := .tuple #[.slice none 0 0, .agg #[.int .i64 k, .int .i64 3]]) (by simp [results, Tryd.results15, go_sem, c0, c1]) rfl ⟨_, _, _, rfl, (HBW.out.setCell (p := ⟨w.heap.size, 0, none⟩) (Nat.le_refl _) _).setCell (p := ⟨w.heap.size, 1, none⟩) (Nat.le_refl _) _, by rw [HER.out]; exact ⟨rfl, rfl, rfl⟩⟩
                · have HEQ : Hid (decQ 0 0 (nums s) = preQ (pre ++ [16 * valQ x + valQ y]) (decQ 0 (k + 3) ((nums s).drop (k + 3)))) := by
                    have e2 : (nums s).drop (k + 3) = t := by rw [← List.drop_drop, HD.out]; rfl
                    unfold Hid; rw [HDC.out, HD.out, dec_esc k x y t (by omega) (by omega), pre_pre, e2]
                  generalize valQ x = vx at HVX hbx hvx HEQ
                  generalize valQ y = vy at HVY hby hvy HEQ
                  have hw1 : IntKind.i64.wrap ((k : Int) + 1) = (k : Int) + 1 := by simp [IntKind.wrap, IntKind.bits, IntKind.signed]; omega
                  have hw2 : IntKind.i64.wrap ((k : Int) + 2) = (k : Int) + 2 := by simp [IntKind.wrap, IntKind.bits, IntKind.signed]; omega
                  have hw3 : IntKind.i64.wrap (16 * vx) = 16 * vx := by simp [IntKind.wrap, IntKind.bits, IntKind.signed]; omega
                  have hw4 : IntKind.i64.wrap (16 * vx + vy) = 16 * vx + vy := by simp [IntKind.wrap, IntKind.bits, IntKind.signed]; omega
                  have hw5 : IntKind.u8.wrap (16 * vx + vy) = 16 * vx + vy := by simp [IntKind.wrap, IntKind.bits, IntKind.signed]; omega
                  have hn2 : ((k : Int) + 2).toNat = k + 2 := by omega
                  have hBlt : B < w1.heap.size := by
                    obtain ⟨b7, o7, hab7, hcl7, _⟩ := row_at HR1.out HD.out
                    simp only [Option.some.injEq, Addr.mk.injEq] at hab7
                    obtain ⟨rfl, rfl, _⟩ := hab7
                    exact World.block_lt_of_cell? w1 _ hcl7
                  have HNB : Hid (some B ≠ u5.ownBlock) := by
                    intro e
                    have := (HO.out.lt B e.symm).1
                    omega
                  have hk1 : (k : Int) + 1 < (s.size : Int) := by omega
                  have hk2 : (k : Int) + 2 < (s.size : Int) := by omega
                  clear hF2
                  go_wp2_with (first
                    | (go_at_call_of 16 (Value.int IntKind.i64 (k : Int)); refine (pair_any _ _ _ k (nums s) _ HSL.out hc1 hm1 (by omega) (by omega) HRR.out).mono ?_; rintro e w' ⟨rfl, rfl⟩; rw [hpx])
                    | (go_at_call 16; refine (pair_next _ _ _ k (nums s) _ HSL.out hc1 hm1 (by omega) (by omega) HRR.out).mono ?_; rintro e w' ⟨rfl, rfl⟩; rw [hpx1])
                    | (go_at_call_of 24 (Value.int IntKind.u8 x); refine (HVX _).mono ?_; rintro e w' ⟨rfl, rfl⟩)
                    | (go_at_call_of 24 (Value.int IntKind.u8 y); refine (HVY _).mono ?_; rintro e w' ⟨rfl, rfl⟩))
                  clear hpx hpx1 hcell
                  go_region_held3 (fun W => W.cell? ⟨B, k + 1, none⟩ = some (.int .u8 x) ∧ W.cell? ⟨B, k + 2, none⟩ = some (.int .u8 y)) (go_keep) (first
                    | (go_at_call_of 24 (Value.int IntKind.u8 x); refine (HVX _).mono ?_; rintro e w' ⟨rfl, rfl⟩)
                    | (go_at_call_of 24 (Value.int IntKind.u8 y); refine (HVY _).mono ?_; rintro e w' ⟨rfl, rfl⟩)
                    | (refine step_append_own rfl (.tmp 63) (.tmp 79) 22 rfl w1.heap.size 5 j0 (.int .u8 0) 1 1 Tryd.underlying22 hi hz0 hz1 hz2 rfl (by decide) u5 pre.length (pre.map (Value.int .u8)) rfl (HO.out.alloc _).drew ⟨wr.heap.size, 0, none⟩ 1 1 ([16 * vx + vy].map (Value.int .u8)) rfl rfl (fun j u hu => cells_new wr _ 5 j u hu) (ints_one _) ?_ ?_ ?_ ?_; (unfold maxLen; omega); omega; (simp; omega); intro v4 w4 hown4 hgrow4; have hS1 : w4.cell? ⟨B, k + 1, none⟩ = some (.int .u8 x) := hgrow4.cell (a := ⟨B, k + 1, none⟩) (((keep wr (.cells #[.int .u8 (16 * vx + vy)] 5)).cell (by simp; omega)).trans hx1) HNB.out; have hS2 : w4.cell? ⟨B, k + 2, none⟩ = some (.int .u8 y) := hgrow4.cell (a := ⟨B, k + 2, none⟩) (((keep wr (.cells #[.int .u8 (16 * vx + vy)] 5)).cell (by simp; omega)).trans hy1) HNB.out))
                  have HB4 : Hid (Below w1.heap.size w1 w4) := ((HW.out.alloc hsz _).drew).grown hgrow4 (by simp; omega) (fun k hk => (HO.out.lt k hk).1)
                  have HO4 : Hid (w4.ownsRow w1.heap.size 5 1 v4 (pre ++ [16 * vx + vy]).length ((pre ++ [16 * vx + vy]).map (Value.int .u8))) := by
                    unfold Hid; rw [List.length_append, List.map_append]; exact hown4
                  clear hown4 hgrow4 hS1 hS2
                  go_wp2
                  go_roundw
                  case rel => exact ⟨k + 3, pre ++ [16 * vx + vy], by go_num, by omega, by rw [List.length_append]; simp; omega, HEQ.out, HO4.out, HB4.out⟩
                  case measure => simp [intOf]; omega
        · have hb61 : (c == 61) = false := by rw [beq_eq_false_iff_ne]; exact h61
          rcases (show (c ≠ 9 ∧ c < 32) ∨ (c ≠ 9 ∧ 126 < c) ∨ (c = 9 ∨ (32 ≤ c ∧ c ≤ 126)) from by omega) with ⟨h9, hlo⟩ | ⟨h9, hhi⟩ | hok
          · have HER : Hid (decQ 0 0 (nums s) = .error (k, 10)) := by unfold Hid; rw [HDC.out, HD.out, dec_byte k c r hp h61 ⟨h9, .inl hlo⟩]; rfl
            have hb9 : (c != 9) = true := by simpa using h9
            have c0 : wr.cell? ⟨w.heap.size, 0, none⟩ = some (.int .i64 0) := by rw [cell_of_row wr _ _ _ _ _ hF2]; rfl
            have c1 : wr.cell? ⟨w.heap.size, 1, none⟩ = some (.int .i64 0) := by rw [cell_of_row wr _ _ _ _ _ hF2]; rfl
            have z0 : wr.frozen? ⟨w.heap.size, 0, none⟩ = false := frozen_of_row wr _ _ _ _ hF2
            have z1 : wr.frozen? ⟨w.heap.size, 1, none⟩ = false := frozen_of_row wr _ _ _ _ hF2
            clear hF2
            clear hp hcell1 h9 h61
            go_wp2_with (go_at_call_of 16 (Value.int IntKind.i64 (k : Int)); refine (pair_any _ _ _ k (nums s) _ HSL.out hc1 hm1 (by omega) (by omega) HRR.out).mono ?_; rintro e w' ⟨rfl, rfl⟩; rw [hpx])
            all_goals exact bodyPost_ret (v := .tuple #[.slice none 0 0, .agg #[.int .i64 k, .int .i64 10]]) (by simp [results, Tryd.results15, go_sem, c0, c1]) rfl ⟨_, _, _, rfl, (HBW.out.setCell (p := ⟨w.heap.size, 0, none⟩) (Nat.le_refl _) _).setCell (p := ⟨w.heap.size, 1, none⟩) (Nat.le_refl _) _, by rw [HER.out]; exact ⟨rfl, rfl, rfl⟩⟩
          · have HER : Hid (decQ 0 0 (nums s) = .error (k, 10)) := by unfold Hid; rw [HDC.out, HD.out, dec_byte k c r hp h61 ⟨h9, .inr hhi⟩]; rfl
            have hb9 : (c != 9) = true := by simpa using h9
            have c0 : wr.cell? ⟨w.heap.size, 0, none⟩ = some (.int .i64 0) := by rw [cell_of_row wr _ _ _ _ _ hF2]; rfl
            have c1 : wr.cell? ⟨w.heap.size, 1, none⟩ = some (.int .i64 0) := by rw [cell_of_row wr _ _ _ _ _ hF2]; rfl
            have z0 : wr.frozen? ⟨w.heap.size, 0, none⟩ = false := frozen_of_row wr _ _ _ _ hF2
            have z1 : wr.frozen? ⟨w.heap.size, 1, none⟩ = false := frozen_of_row wr _ _ _ _ hF2
            clear hF2
            clear hp hcell1 h9 h61
            go_wp2_with (go_at_call_of 16 (Value.int IntKind.i64 (k : Int)); refine (pair_any _ _ _ k (nums s) _ HSL.out hc1 hm1 (by omega) (by omega) HRR.out).mono ?_; rintro e w' ⟨rfl, rfl⟩; rw [hpx])
            all_goals exact bodyPost_ret (v := .tuple #[.slice none 0 0, .agg #[.int .i64 k, .int .i64 10]]) (by simp [results, Tryd.results15, go_sem, c0, c1]) rfl ⟨_, _, _, rfl, (HBW.out.setCell (p := ⟨w.heap.size, 0, none⟩) (Nat.le_refl _) _).setCell (p := ⟨w.heap.size, 1, none⟩) (Nat.le_refl _) _, by rw [HER.out]; exact ⟨rfl, rfl, rfl⟩⟩
          · have hst : decQ 0 k (c :: r) = preQ (if trailQ (c :: r) = true then [] else [c]) (decQ 0 (k + 1) r) := by
              by_cases hbl : c = 32 ∨ c = 9
              · rw [dec_blank hbl, show trailQ (c :: r) = trailQ r from by simp only [trailQ, if_pos hbl]]
                cases trailQ r <;> simp [pre_nil]
              · have htr : trailQ (c :: r) = false := by simp only [trailQ]; rw [if_neg hbl]; exact hp
                rw [htr, dec_char (by omega) (by omega) h61]; rfl
            cases htr : trailQ (c :: r) with
            | true =>
              have HEQ : Hid (decQ 0 0 (nums s) = preQ pre (decQ 0 (k + 1) ((nums s).drop (k + 1)))) := by
                unfold Hid; rw [HDC.out, HD.out, hst, htr, HD1.out]; simp [pre_nil]
              have htx : trailQ ((nums s).drop k) = true := by rw [HD.out]; exact htr
              clear hst htr hp hcell1 h61 hF2
              rcases hok with rfl | hok
              · go_wp2_with (first
                  | (go_at_call_of 16 (Value.int IntKind.i64 (k : Int)); refine (pair_any _ _ _ k (nums s) _ HSL.out hc1 hm1 (by omega) (by omega) HRR.out).mono ?_; rintro e w' ⟨rfl, rfl⟩; rw [hpx])
                  | (go_at_call 25; refine (trailing_any _ _ _ k (nums s) _ HSL.out hc1 hm1 (by omega) (by omega) HRR.out).mono ?_; rintro e w' ⟨rfl, rfl⟩; rw [htx]))
                go_roundw
                case rel => exact ⟨k + 1, pre, by go_num, by omega, by omega, HEQ.out, HO.out, HW.out⟩
                case measure => simp [intOf]; omega
              · have hb9 : (c != 9) = true := by rw [bne_iff_ne]; omega
                go_wp2_with (first
                  | (go_at_call_of 16 (Value.int IntKind.i64 (k : Int)); refine (pair_any _ _ _ k (nums s) _ HSL.out hc1 hm1 (by omega) (by omega) HRR.out).mono ?_; rintro e w' ⟨rfl, rfl⟩; rw [hpx])
                  | (go_at_call 25; refine (trailing_any _ _ _ k (nums s) _ HSL.out hc1 hm1 (by omega) (by omega) HRR.out).mono ?_; rintro e w' ⟨rfl, rfl⟩; rw [htx]))
                go_roundw
                case rel => exact ⟨k + 1, pre, by go_num, by omega, by omega, HEQ.out, HO.out, HW.out⟩
                case measure => simp [intOf]; omega
            | false =>
              have HEQ : Hid (decQ 0 0 (nums s) = preQ (pre ++ [c]) (decQ 0 (k + 1) ((nums s).drop (k + 1)))) := by
                unfold Hid; rw [HDC.out, HD.out, hst, htr, HD1.out]; simp [pre_pre]
              have htx : trailQ ((nums s).drop k) = false := by rw [HD.out]; exact htr
              clear hst htr hp hcell1 h61 hF2
              rcases hok with rfl | hok
              · go_wp2_with (first
                  | (go_at_call_of 16 (Value.int IntKind.i64 (k : Int)); refine (pair_any _ _ _ k (nums s) _ HSL.out hc1 hm1 (by omega) (by omega) HRR.out).mono ?_; rintro e w' ⟨rfl, rfl⟩; rw [hpx])
                  | (go_at_call 25; refine (trailing_any _ _ _ k (nums s) _ HSL.out hc1 hm1 (by omega) (by omega) HRR.out).mono ?_; rintro e w' ⟨rfl, rfl⟩; rw [htx])
                  | (at_builtin; refine wpList_append_own _ rfl (.tmp 108) (.tmp 113) 22 rfl w1.heap.size 5 j0 (.int .u8 0) 1 1 Tryd.underlying22 hi hz0 hz1 hz2 rfl (by decide) _ _ _ rfl (HO.out.alloc _) ⟨wr.heap.size, 0, none⟩ 1 1 ([9].map (Value.int .u8)) rfl rfl (cells_new _ _ _) (ints_one _) ?q1 ?q2 ?q3 ?_))
                case q1 => unfold maxLen; omega
                case q2 => omega
                case q3 => first | omega | (simp; omega)
                intro v4 w4 hown4 hgrow4 _
                have HB4 : Hid (Below w1.heap.size w1 w4) := (HW.out.alloc hsz _).grown hgrow4 (by simp; omega) (fun k hk => (HO.out.lt k hk).1)
                have HO4 : Hid (w4.ownsRow w1.heap.size 5 1 v4 (pre ++ [9]).length ((pre ++ [9]).map (Value.int .u8))) := by
                  unfold Hid; rw [List.length_append, List.map_append]; exact hown4
                clear hown4 hgrow4
                go_wp2
                go_roundw
                case rel => exact ⟨k + 1, pre ++ [9], by go_num, by omega, by rw [List.length_append]; simp; omega, HEQ.out, HO4.out, HB4.out⟩
                case measure => simp [intOf]; omega
              · have hb9 : (c != 9) = true := by rw [bne_iff_ne]; omega
                go_wp2_with (first
                  | (go_at_call_of 16 (Value.int IntKind.i64 (k : Int)); refine (pair_any _ _ _ k (nums s) _ HSL.out hc1 hm1 (by omega) (by omega) HRR.out).mono ?_; rintro e w' ⟨rfl, rfl⟩; rw [hpx])
                  | (go_at_call 25; refine (trailing_any _ _ _ k (nums s) _ HSL.out hc1 hm1 (by omega) (by omega) HRR.out).mono ?_; rintro e w' ⟨rfl, rfl⟩; rw [htx])
                  | (at_builtin; refine wpList_append_own _ rfl (.tmp 108) (.tmp 113) 22 rfl w1.heap.size 5 j0 (.int .u8 0) 1 1 Tryd.underlying22 hi hz0 hz1 hz2 rfl (by decide) _ _ _ rfl (HO.out.alloc _) ⟨wr.heap.size, 0, none⟩ 1 1 ([c].map (Value.int .u8)) rfl rfl (cells_new _ _ _) (ints_one _) ?r1 ?r2 ?r3 ?_))
                case r1 => unfold maxLen; omega
                case r2 => omega
                case r3 => first | omega | (simp; omega)
                intro v4 w4 hown4 hgrow4 _
                have HB4 : Hid (Below w1.heap.size w1 w4) := (HW.out.alloc hsz _).grown hgrow4 (by simp; omega) (fun k hk => (HO.out.lt k hk).1)
                have HO4 : Hid (w4.ownsRow w1.heap.size 5 1 v4 (pre ++ [c]).length ((pre ++ [c]).map (Value.int .u8))) := by
                  unfold Hid; rw [List.length_append, List.map_append]; exact hown4
                clear hown4 hgrow4
                go_wp2
                go_roundw
                case rel => exact ⟨k + 1, pre ++ [c], by go_num, by omega, by rw [List.length_append]; simp; omega, HEQ.out, HO4.out, HB4.out⟩
                case measure => simp [intOf]; omega
    · obtain rfl : k = s.size := by omega
      have HER : Hid (decQ 0 0 (nums s) = .ok pre) := by unfold Hid; rw [HDC.out, List.drop_of_length_le (by rw [nums_len]; omega)]; simp [decQ, preQ]
      have c0 : wr.cell? ⟨w.heap.size, 0, none⟩ = some (.int .i64 0) := by rw [cell_of_row wr _ _ _ _ _ hF2]; rfl
      have c1 : wr.cell? ⟨w.heap.size, 1, none⟩ = some (.int .i64 0) := by rw [cell_of_row wr _ _ _ _ _ hF2]; rfl
      have z0 : wr.frozen? ⟨w.heap.size, 0, none⟩ = false := frozen_of_row wr _ _ _ _ hF2
      have z1 : wr.frozen? ⟨w.heap.size, 1, none⟩ = false := frozen_of_row wr _ _ _ _ hF2
      clear hF2
      obtain ⟨a8, cap8, hv, hc8, hm8, hrow8, hn8⟩ := own_row' (own_other (f := w.heap.size) (o := 1) (u := .int .i64 0) hlt1 (own_other (f := w.heap.size) (o := 0) (u := .int .i64 0) hlt1 HO.out))
      subst hv
      have HR8 : Hid (Row ((wr.setCell ⟨w.heap.size, 0, none⟩ (.int .i64 0)).setCell ⟨w.heap.size, 1, none⟩ (.int .i64 0)) a8 pre) := hrow8
      clear hrow8
      go_wp2
      exact bodyPost_ret (v := .tuple #[.slice a8 pre.length cap8, .agg #[.int .i64 0, .int .i64 0]]) (by simp [results, Tryd.results15, go_sem, c0, c1]) rfl
        ⟨_, _, _, rfl, (HBW.out.setCell (p := ⟨w.heap.size, 0, none⟩) (Nat.le_refl _) _).setCell (p := ⟨w.heap.size, 1, none⟩) (Nat.le_refl _) _, by rw [HER.out]; exact ⟨a8, cap8, rfl, hc8, hm8, HR8.out, rfl, rfl⟩⟩
end Go.Proofs.YteoojlpaciaobaaDoor
