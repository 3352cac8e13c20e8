/-
  The contracts of escaped and marked.
-/
import Derived.Test.YtnhbmekhmkkccaaDoorSm
namespace Go.Proofs.YtnhbmekhmkkccaaDoor
open Go.RowKit
set_option linter.unusedVariables false

theorem nums_mid (s : ByteArray) : nums (s.extract 1 3) = ((nums s).drop 1).take 2 := by rw [nums_extract]
set_option maxHeartbeats 4000000 in
set_option maxRecDepth 100000 in
theorem escaped_any (s : ByteArray) (r : List Int) (w : World) (hn : nums s = 61 :: r) (hs : s.size ≤ 1000000) :
    Calls Tryd.prog 76 #[.string s] w fun e w' => ∃ v b, e = .returned (.tuple #[.int .u8 v, .bool b]) ∧ EAns r v b ∧ Below w.heap.size w w' := by
  have hl : s.size = r.length + 1 := by rw [← nums_len, hn]; rfl
  have hbr : Byt r := by have := nums_byt s; rw [hn] at this; exact this.tail
  rcases r with _ | ⟨a, _ | ⟨b, t⟩⟩
  ·
    have HA : Hid (EAns [] 0 false) := ⟨by omega, by omega, fun e => (by cases e), fun _ => rfl⟩
    have h3 : (s.size : Int) < 3 := by simp at hl; omega
    clear hn hl
    go_enter Tryd.func76, Tryd.ntmps76
    go_wp2
    go_ret2
    exact ⟨_, _, rfl, HA.out, Below.refl _ _⟩
  ·
    have HA : Hid (EAns [a] 0 false) := ⟨by omega, by omega, fun e => (by cases e), fun _ => rfl⟩
    have h3 : (s.size : Int) < 3 := by simp at hl; omega
    clear hn hl
    go_enter Tryd.func76, Tryd.ntmps76
    go_wp2
    go_ret2
    exact ⟨_, _, rfl, HA.out, Below.refl _ _⟩
  ·
    have h3 : 3 ≤ s.size := by simp at hl; omega
    have hn3 : nums (s.extract 0 3) = [61, a, b] := by rw [nums_to, hn]; rfl
    have HM : Hid (nums (s.extract 1 3) = [a, b]) := by unfold Hid; rw [nums_mid, hn]; rfl
    have hz3 : (s.extract 0 3).size = 3 := by rw [← nums_len, hn3]; rfl
    have hdec := Qu.decode_any (s.extract 0 3) w (by omega)
    rw [hn3] at hdec
    have HE : Hid (∀ v bo, EAns [a, b] v bo → EAns (a :: b :: t) v bo) := fun v bo h => h
    have hab := esc_dec (hbr a (by simp)).1 (hbr a (by simp)).2 (hbr b (by simp)).1 (hbr b (by simp)).2
    have hsl : decide ((s.size : Int) < 3) = false := decide_eq_false (by omega)
    have k3 : (3 : Int) ≤ (s.size : Int) := by omega
    clear hn hl hbr hn3 hz3
    go_enter Tryd.func76, Tryd.ntmps76
    go_wp2_with fail
    refine hdec.mono ?_
    clear hdec
    rintro e w1 ⟨v, fa, fc, rfl, hb1, hd⟩
    have HB1 : Hid (Below w.heap.size w w1) := hb1
    have hs1 := hb1.size
    clear hb1
    rcases hab with ⟨h1, h2⟩ | ⟨er, h1, h2, h4⟩ | ⟨x, hx0, hx1, h1, h2⟩
    · rw [h1] at hd
      obtain ⟨pa, cap, rfl, _, _, _, rfl, rfl⟩ := hd
      have HA : Hid (EAns [a, b] 0 false) := ⟨by omega, by omega, fun e => (by cases e), fun _ => h2⟩
      clear h1 h2
      simp only [List.length_nil]
      go_wp2
      go_ret2
      exact ⟨_, _, rfl, HE.out _ _ HA.out, HB1.out.alloc hs1 _⟩
    · rw [h1] at hd
      obtain ⟨rfl, _, hfc⟩ := hd
      rw [h2] at hfc
      subst hfc
      have HA : Hid (EAns [a, b] 0 false) := ⟨by omega, by omega, fun e => (by cases e), fun _ => h4⟩
      clear h1 h2 h4
      go_wp2
      go_ret2
      exact ⟨_, _, rfl, HE.out _ _ HA.out, HB1.out.alloc hs1 _⟩
    · rw [h1] at hd
      obtain ⟨pa, cap, rfl, hcap, hmx, hrow, rfl, rfl⟩ := hd
      simp only [List.length_cons, List.length_nil, Nat.zero_add] at hcap
      obtain ⟨g, off, rfl, hcell⟩ : ∃ g off, pa = some ⟨g, off, none⟩ ∧ w1.cell? ⟨g, off, none⟩ = some (.int .u8 x) := by
        rcases hrow with h | ⟨g, off, e, h⟩
        · cases h
        · exact ⟨g, off, e, by simpa using h 0 (by simp)⟩
      have HG : Hid (w1.cell? ⟨g, off, none⟩ = some (.int .u8 x)) := hcell
      have hglt := World.block_lt_of_cell? w1 _ hcell
      have hgne : g ≠ w1.heap.size := by simp at hglt; omega
      clear h1 hrow
      simp only [List.length_cons, List.length_nil, Nat.zero_add]
      have heq := eq_nums (strOfNums (Qu.digQ x)) (s.extract 1 3)
      have hdb : Byt (Qu.digQ x) := by
        intro y hy
        simp only [Qu.digQ, List.mem_cons, List.not_mem_nil, or_false] at hy
        unfold Qu.hexQ at hy
        rcases hy with rfl | rfl <;> (split <;> omega)
      rw [nums_str hdb, HM.out] at heq
      have hdig := fun V => Qu.digits_any x V hx0 hx1
      have HA : Hid (EAns [a, b] x (decide (Qu.digQ x = [a, b]))) := by
        rcases h2 with ⟨q1, q2⟩ | ⟨q1, q2⟩
        · exact ⟨hx0, hx1, fun _ => q2, fun e => absurd e (by rw [decide_eq_true q1]; simp)⟩
        · exact ⟨hx0, hx1, fun e => absurd e (by rw [decide_eq_false q1]; simp), fun _ => q2⟩
      generalize decide (Qu.digQ x = [a, b]) = bo at HA heq
      generalize strOfNums (Qu.digQ x) = ds at heq hdig
      clear h2 hdb HM
      go_wp2_with fail
      generalize hW : w1.alloc (.cells #[.int .i64 0, .int .i64 0] 48) = W
      have HBW : Hid (Below w.heap.size w W) := by rw [← hW]; exact HB1.out.alloc hs1 _
      have hcW : W.cell? ⟨g, off, none⟩ = some (.int .u8 x) := by rw [← hW]; exact cell_keep (keep w1 _) HG.out
      have hltW : g < W.heap.size := World.block_lt_of_cell? W _ hcW
      have k13 : (1 : Int) ≤ 3 := by omega
      clear hW HG hcell hglt hgne HB1 hs1
      go_region_held3 (fun V => Below W.heap.size W V ∧ V.cell? ⟨g, off, none⟩ = some (.int .u8 x)) (refine ⟨?_, ?_⟩ <;> first | assumption | exact below_drew (Below.refl _ _) | simp [*]) (first | (go_at_call 91; refine (hdig _).mono ?_; rintro e w3 ⟨rfl, hb3⟩; have hB3 : Below W.heap.size W w3 := (show Below W.heap.size W _ by first | assumption | exact below_drew (Below.refl _ _)).trans (hb3.mono (show Below W.heap.size W _ by first | assumption | exact below_drew (Below.refl _ _)).size); have hS1 : w3.cell? ⟨g, off, none⟩ = some (.int .u8 x) := (hB3.cell (p := ⟨g, off, none⟩) hltW).trans hcW; clear hb3))
      have HB3 : Hid (Below W.heap.size W w3) := hB3
      clear hB3 hS1
      go_wp2
      go_ret2
      exact ⟨_, _, rfl, HE.out _ _ HA.out, HBW.out.trans (HB3.out.mono HBW.out.size)⟩
/-- What a content of Q says. -/
def markR : Nat → List Int → Option (List Int)
  | _, [] => some []
  | k + 1, _ :: r => markR k r
  | 0, c :: r => if c < 33 ∨ 126 < c then none else if c = 95 then (markR 0 r).map (fun y => 32 :: y) else if c = 61 then match escU r with | some v => (markR 2 r).map (fun y => v :: y) | none => none else (markR 0 r).map (fun y => c :: y)
def preU (p : List Int) (x : Option (List Int)) : Option (List Int) := x.map fun y => p ++ y
theorem preU_nil (x : Option (List Int)) : preU [] x = x := by cases x <;> rfl
theorem preU_snoc (p : List Int) (c : Int) (x : Option (List Int)) : preU p (x.map fun y => c :: y) = preU (p ++ [c]) x := by cases x <;> simp [preU]
theorem preU_none (p : List Int) : preU p none = none := rfl
/-- A row of bytes that is answered, or none. -/
def BAns (b : Bool) (v : Value) (x : Option (List Int)) (W : World) : Prop := (b = true → ∃ l a cap, x = some l ∧ v = .slice a l.length cap ∧ l.length ≤ cap ∧ cap ≤ maxLen ∧ Row W a l ∧ Byt l) ∧ (b = false → x = none ∧ ∃ a n c, v = .slice a n c)
theorem BAns.yes {v : Value} {x : Option (List Int)} {W : World} {l : List Int} {a : Option Addr} {cap : Nat} (h1 : x = some l) (h2 : v = .slice a l.length cap) (h3 : l.length ≤ cap) (h4 : cap ≤ maxLen) (h5 : Row W a l) (h6 : Byt l) : BAns true v x W := ⟨fun _ => ⟨l, a, cap, h1, h2, h3, h4, h5, h6⟩, fun e => (by cases e)⟩
set_option maxHeartbeats 4000000 in
set_option maxRecDepth 100000 in
theorem marked_any (s : ByteArray) (w : World) (hs : s.size ≤ 1000000) :
    Calls Tryd.prog 59 #[.string s] w fun e w' => ∃ v b, e = .returned (.tuple #[v, .bool b]) ∧ BAns b v (markR 0 (nums s)) w' ∧ Below w.heap.size w w' := by
  obtain ⟨j0, hi, hz0, hz1, hz2⟩ := info_parts Tryd.info5
  go_enter Tryd.func59, Tryd.ntmps59
  go_wp2
  go_loopw [4, 5] (fun v i wr => ∃ (k : Nat) (pre : List Int), i = .int .i64 k ∧ k ≤ s.size ∧ pre.length ≤ k ∧ preU pre (markR 0 ((nums s).drop k)) = markR 0 (nums s) ∧ Byt pre ∧ wr.ownsRow w.heap.size 5 1 v pre.length (pre.map (Value.int .u8)) ∧ Below w.heap.size w wr) (fun _ i _ => s.size - (intOf i).toNat)
  case atStart => exact ⟨0, [], rfl, by omega, by simp, by rw [List.drop_zero, preU_nil], (by intro x hx; cases hx), World.ownsRow_nil _ _ _ _, Below.refl _ _⟩
  case round =>
    obtain ⟨k, pre, rfl, hk, hpl, hpre, hpb, hown, hb⟩ := hrel
    have HP : Hid (preU pre (markR 0 ((nums s).drop k)) = markR 0 (nums s)) := hpre
    have HPB : Hid (Byt pre) := hpb
    have HO : Hid (wr.ownsRow w.heap.size 5 1 u4 pre.length (pre.map (Value.int .u8))) := hown
    have HB : Hid (Below w.heap.size w wr) := hb
    have hsz := hb.size
    clear hpre hown hb hpb
    by_cases hlt : k < s.size
    · have HD : Hid ((nums s).drop k = (s[k].toNat : Int) :: (nums s).drop (k + 1)) := nums_drop s k hlt
      have hc1 : (s[k].toNat : Int) < 256 := by have := s[k].toNat_lt; omega
      have hc0 : (0 : Int) ≤ (s[k].toNat : Int) := by omega
      obtain ⟨c, hcc⟩ : ∃ c : Int, ((s[k]'hlt).toNat : Int) = c := ⟨_, rfl⟩
      rw [hcc] at HD hc1 hc0
      rw [HD.out] at HP
      by_cases hq : c < 33 ∨ 126 < c
      · have HN : Hid (markR 0 (nums s) = none) := by
          unfold Hid; rw [← HP.out, markR, if_pos hq, preU_none]
        have hbad : (decide (c < 33) = true) ∨ (decide (c < 33) = false ∧ decide (c > 126) = true) := by
          simp only [decide_eq_true_eq, decide_eq_false_iff_not]; omega
        clear hq
        rcases hbad with h1 | ⟨h1, h2⟩
        all_goals (
          go_wp2
          go_ret2
          exact ⟨_, false, rfl, ⟨fun e => (by cases e), fun _ => ⟨HN.out, _, _, _, rfl⟩⟩, HB.out⟩)
      · have h1 : decide (c < 33) = false := decide_eq_false (by omega)
        have h2 : decide (c > 126) = false := decide_eq_false (by omega)
        rw [markR, if_neg hq] at HP
        by_cases h95 : c = 95
        · subst h95
          rw [if_pos rfl, preU_snoc] at HP
          go_wp2_with (at_builtin; refine wpList_append_own _ rfl (.tmp 43) (.tmp 45) 31 rfl w.heap.size 5 j0 (.int .u8 0) 1 1 Tryd.underlying31 hi hz0 hz1 hz2 rfl (by decide) _ _ _ rfl (HO.out.alloc _) ⟨wr.heap.size, 0, none⟩ 1 1 (([32] : List Int).map (Value.int .u8)) rfl rfl (cells_new _ _ _) (ints_one _) (by unfold maxLen; omega) (by omega) (by simp; omega) ?_)
          intro v4 w4 hown4 hgrow4 _
          have HB4 : Hid (Below w.heap.size w w4) := (HB.out.alloc hsz _).grown hgrow4 (by simp; omega) (fun k hk => (HO.out.lt k hk).1)
          have HO4 : Hid (w4.ownsRow w.heap.size 5 1 v4 (pre ++ [32]).length ((pre ++ [32]).map (Value.int .u8))) := by unfold Hid; rw [List.length_append, List.map_append]; exact hown4
          clear hown4 hgrow4
          go_wp2
          go_roundw
          case rel => exact ⟨k + 1, pre ++ [32], by go_num, by omega, by simp; omega, HP.out, HPB.out.append (by intro x hx; simp at hx; omega), HO4.out, HB4.out⟩
          case measure => simp [intOf]; omega
        · have b95 : (c == 95) = false := by rw [beq_eq_false_iff_ne]; exact h95
          rw [if_neg h95] at HP
          by_cases h61 : c = 61
          · subst h61
            rw [if_pos rfl] at HP
            have hze : (s.extract k s.size).size ≤ s.size := by rw [← nums_len, nums_from, List.length_drop, nums_len]; omega
            have hesc := escaped_any (s.extract k s.size) ((nums s).drop (k + 1)) wr (by rw [nums_from, HD.out]) (by omega)
            have k2 : (k : Int) ≤ (s.size : Int) := by omega
            have k3 : (0 : Int) ≤ (k : Int) := by omega
            clear hze h95 hq
            go_wp2_with fail
            refine hesc.mono ?_
            clear hesc
            rintro e w2 ⟨v, bo, rfl, ⟨hv0, hv1, ht, hf⟩, hb2⟩
            have HO2 : Hid (w2.ownsRow w.heap.size 5 1 u4 pre.length (pre.map (Value.int .u8))) := own_keep HO.out hb2
            have HB2 : Hid (Below w.heap.size w w2) := HB.out.trans (hb2.mono hsz)
            clear hb2 HO HB hsz
            cases bo with
            | false =>
              have HN : Hid (markR 0 (nums s) = none) := by
                unfold Hid; rw [← HP.out, hf rfl]; rfl
              clear ht hf
              go_wp2
              go_ret2
              exact ⟨_, false, rfl, ⟨fun e => (by cases e), fun _ => ⟨HN.out, _, _, _, rfl⟩⟩, HB2.out⟩
            | true =>
              have he := ht rfl
              rw [he] at HP
              obtain ⟨x, y, t, hxy⟩ : ∃ x y t, (nums s).drop (k + 1) = x :: y :: t := by
                match h : (nums s).drop (k + 1) with
                | [] => rw [h] at he; cases he
                | [x] => rw [h] at he; cases he
                | x :: y :: t => exact ⟨x, y, t, rfl⟩
              have h3 : k + 3 ≤ s.size := by
                have := congrArg List.length hxy
                rw [List.length_drop, nums_len] at this
                simp at this; omega
              have HP3 : Hid (preU (pre ++ [v]) (markR 0 ((nums s).drop (k + 3))) = markR 0 (nums s)) := by
                unfold Hid
                have : (nums s).drop (k + 3) = t := by rw [show k + 3 = (k + 1) + 2 by omega, ← List.drop_drop, hxy]; rfl
                rw [this, ← preU_snoc, ← HP.out, hxy]; rfl
              have hsz := HB2.out.size
              clear ht hf he hxy HP
              rename_i _
              have HO : Hid (w2.ownsRow w.heap.size 5 1 u4 pre.length (pre.map (Value.int .u8))) := HO2.out
              go_wp2_with (at_builtin; refine wpList_append_own _ rfl (.tmp 43) (.tmp 45) 31 rfl w.heap.size 5 j0 (.int .u8 0) 1 1 Tryd.underlying31 hi hz0 hz1 hz2 rfl (by decide) _ _ _ rfl (HO.out.alloc _) ⟨w2.heap.size, 0, none⟩ 1 1 (([v] : List Int).map (Value.int .u8)) rfl rfl (cells_new _ _ _) (ints_one _) (by unfold maxLen; omega) (by omega) (by simp; omega) ?_)
              intro v4 w4 hown4 hgrow4 _
              have HB4 : Hid (Below w.heap.size w w4) := (HB2.out.alloc hsz _).grown hgrow4 (by simp; omega) (fun k hk => (HO.out.lt k hk).1)
              have HO4 : Hid (w4.ownsRow w.heap.size 5 1 v4 (pre ++ [v]).length ((pre ++ [v]).map (Value.int .u8))) := by unfold Hid; rw [List.length_append, List.map_append]; exact hown4
              clear hown4 hgrow4
              go_wp2
              go_roundw
              case rel => exact ⟨k + 3, pre ++ [v], by first | go_num | rfl, by omega, by simp; omega, HP3.out, HPB.out.append (by intro x hx; simp at hx; subst hx; exact ⟨hv0, hv1⟩), HO4.out, HB4.out⟩
              case measure => simp [intOf]; omega
          · have b61 : (c == 61) = false := by rw [beq_eq_false_iff_ne]; exact h61
            rw [if_neg h61, preU_snoc] at HP
            go_wp2_with (at_builtin; refine wpList_append_own _ rfl (.tmp 43) (.tmp 45) 31 rfl w.heap.size 5 j0 (.int .u8 0) 1 1 Tryd.underlying31 hi hz0 hz1 hz2 rfl (by decide) _ _ _ rfl (HO.out.alloc _) ⟨wr.heap.size, 0, none⟩ 1 1 (([c] : List Int).map (Value.int .u8)) rfl rfl (cells_new _ _ _) (ints_one _) (by unfold maxLen; omega) (by omega) (by simp; omega) ?_)
            intro v4 w4 hown4 hgrow4 _
            have HB4 : Hid (Below w.heap.size w w4) := (HB.out.alloc hsz _).grown hgrow4 (by simp; omega) (fun k hk => (HO.out.lt k hk).1)
            have HO4 : Hid (w4.ownsRow w.heap.size 5 1 v4 (pre ++ [c]).length ((pre ++ [c]).map (Value.int .u8))) := by unfold Hid; rw [List.length_append, List.map_append]; exact hown4
            clear hown4 hgrow4
            go_wp2
            go_roundw
            case rel => exact ⟨k + 1, pre ++ [c], by go_num, by omega, by simp; omega, HP.out, HPB.out.append (by intro x hx; simp at hx; subst hx; exact ⟨hc0, hc1⟩), HO4.out, HB4.out⟩
            case measure => simp [intOf]; omega
    · obtain rfl : k = s.size := by omega
      have HF : Hid (markR 0 (nums s) = some pre) := by
        unfold Hid
        rw [← HP.out, List.drop_of_length_le (by rw [nums_len]; exact Nat.le_refl _)]
        simp [markR, preU]
      obtain ⟨a8, cap8, hv, hc8, hm8, hrow8, hn8⟩ := own_row' HO.out
      subst hv
      clear HO
      go_wp2
      go_ret2
      exact ⟨_, true, rfl, BAns.yes HF.out rfl hc8 hm8 hrow8 HPB.out, HB.out⟩
end Go.Proofs.YtnhbmekhmkkccaaDoor
