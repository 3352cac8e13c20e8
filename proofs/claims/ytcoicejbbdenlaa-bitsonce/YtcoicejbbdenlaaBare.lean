/-
  The contract of the reference's Bare.
-/
import Derived.Test.YtcoicejbbdenlaaBackMath
namespace Go.Proofs.Ytcoicejbbdenlaa
open Go.RowKit
set_option linter.unusedVariables false

theorem Try.info3 : (Try.prog.info? 3).map (fun i => (i.zero, i.size, i.bytes)) = some (some (.int .i64 0), 1, 8) := by kernel_rfl
/-- A text without its pairs. -/
def bareU : List UInt8 → List Int
  | [] => []
  | c :: r =>
    if crlf (c :: r) = true then
      match r with
      | _ :: r' => bareU r'
      | [] => []
    else (c.toNat : Int) :: bareU r
theorem bare_yes (r : List UInt8) : bareU (13 :: 10 :: r) = bareU r := by
  rw [bareU.eq_def]; simp [crlf]
theorem bare_no {c : UInt8} {r : List UInt8} (h : crlf (c :: r) = false) : bareU (c :: r) = (c.toNat : Int) :: bareU r := by
  rw [bareU.eq_def]; simp [h]
theorem bare_len : ∀ (n : Nat) (l : List UInt8), l.length ≤ n → (bareU l).length ≤ l.length
  | n, [], _ => by simp [bareU]
  | 0, c :: r, h => by simp at h
  | n + 1, c :: r, h => by
    cases hc : crlf (c :: r) with
    | false => rw [bare_no hc]; have := bare_len n r (by simp at h; omega); simp; omega
    | true =>
      obtain ⟨r', hr⟩ := crlf_two hc
      rw [hr, bare_yes]
      have hr2 : r = 10 :: r' := by simp at hr; exact hr.2
      have := bare_len n r' (by rw [hr2] at h; simp at h; omega)
      simp; omega
/-- Rows of unlike elements lie in unlike blocks. -/
theorem own_apart {w : World} {B B' : Nat} {v u : Value} {n m : Nat} {xs ys : List Value} (h : w.ownsRow B 5 1 v n xs) (k : w.ownsRow B' 3 1 u m ys) : v.ownBlock = none ∨ v.ownBlock ≠ u.ownBlock := by
  rcases h.2 with ⟨rfl, _⟩ | ⟨g, cap, cur, rfl, _, hg, _⟩
  · exact .inl rfl
  · rcases k.2 with ⟨rfl, _⟩ | ⟨g', cap', cur', rfl, _, hg', _⟩
    · exact .inr (by simp [Value.ownBlock])
    · refine .inr ?_
      intro e
      simp [Value.ownBlock] at e
      subst e
      rw [hg] at hg'
      simp at hg'

theorem own_apart' {w : World} {B B' : Nat} {v u : Value} {n m : Nat} {xs ys : List Value} (h : w.ownsRow B 5 1 v n xs) (k : w.ownsRow B' 3 1 u m ys) : u.ownBlock = none ∨ u.ownBlock ≠ v.ownBlock := by
  rcases k.2 with ⟨rfl, _⟩ | ⟨g, cap, cur, rfl, _, hg, _⟩
  · exact .inl rfl
  · rcases h.2 with ⟨rfl, _⟩ | ⟨g', cap', cur', rfl, _, hg', _⟩
    · exact .inr (by simp [Value.ownBlock])
    · refine .inr ?_
      intro e
      simp [Value.ownBlock] at e
      subst e
      rw [hg] at hg'
      simp at hg'

set_option maxHeartbeats 4000000 in
theorem bare_any (s : ByteArray) (w : World) (hs : s.size ≤ 20000) :
    Calls Try.prog 18 #[.string s] w fun e w' => ∃ v u, e = .returned (.tuple #[v, u]) ∧ Own w' w.heap.size v (bareU s.data.toList) ∧ Below w.heap.size w w' := by
  obtain ⟨j0, hi, hz0, hz1, hz2⟩ := info_parts Try.info5
  obtain ⟨j1, ki, kz0, kz1, kz2⟩ := info_parts Try.info3
  have HBL : Hid ((bareU s.data.toList).length ≤ 20000) := by
    have := bare_len _ s.data.toList (Nat.le_refl _)
    unfold Hid; simp at this; omega
  go_enter Try.func18, Try.ntmps18
  go_wp2
  go_loopw [4, 5, 6] (fun v u i wr => ∃ (k : Nat) (pre at0 : List Int), i = .int .i64 k ∧ k ≤ s.size ∧ at0.length ≤ k ∧ bareU s.data.toList = pre ++ bareU (s.data.toList.drop k) ∧ wr.ownsRow w.heap.size 5 1 v pre.length (pre.map (Value.int .u8)) ∧ wr.ownsRow w.heap.size 3 1 u at0.length (at0.map (Value.int .i64)) ∧ Below w.heap.size w wr) (fun _ _ i _ => s.size - (intOf i).toNat)
  case atStart => exact ⟨0, [], [], rfl, by omega, by simp, by simp, World.ownsRow_nil _ _ _ _, World.ownsRow_nil _ _ _ _, Below.refl _ _⟩
  case round =>
    obtain ⟨k, pre, at0, rfl, hk, hat, hpre, hown, hou, hbel⟩ := hrel
    have HPR : Hid (bareU s.data.toList = pre ++ bareU (s.data.toList.drop k)) := hpre
    have HO : Hid (wr.ownsRow w.heap.size 5 1 u4 pre.length (pre.map (Value.int .u8))) := hown
    have HU : Hid (wr.ownsRow w.heap.size 3 1 u5 at0.length (at0.map (Value.int .i64))) := hou
    have HB : Hid (Below w.heap.size w wr) := hbel
    have hpl : pre.length ≤ 20000 := by have := HBL.out; rw [hpre, List.length_append] at this; omega
    have hsz := hbel.size
    by_cases hlt : k < s.size
    · have hd := drop_one s k hlt
      cases hcr : crlf (s.data.toList.drop k) with
      | true =>
        obtain ⟨r, hr⟩ := crlf_two hcr
        have hk2 : k + 2 ≤ s.size := by
          have := congrArg List.length hr
          simp at this; omega
        have hk1 : k + 1 < s.size := by omega
        have hd1 := drop_one s (k + 1) hk1
        have hc0 : (s[k].toNat : Int) = 13 := by rw [hr] at hd; simp at hd; rw [← hd.1]; rfl
        have hr1 : s.data.toList.drop (k + 1) = 10 :: r := by rw [← List.drop_drop, hr]; rfl
        have hc1 : (s[k + 1].toNat : Int) = 10 := by rw [hr1] at hd1; simp at hd1; rw [← hd1.1]; rfl
        have HNX : Hid (bareU s.data.toList = pre ++ bareU (s.data.toList.drop (k + 2))) := by
          have e2 : s.data.toList.drop (k + 2) = r := by rw [← List.drop_drop, hr]; rfl
          unfold Hid; rw [hpre, hr, bare_yes, e2]
        clear hpre hown hou hbel hd hcr hr hd1 hr1
        go_wp2
        go_roundw
        case rel => exact ⟨k + 2, pre, at0, by go_num, by omega, by omega, HNX.out, HO.out, HU.out, HB.out⟩
        case measure => simp [intOf]; omega
      | false =>
        obtain ⟨c, hc⟩ : ∃ c : Int, (s[k].toNat : Int) = c := ⟨_, rfl⟩
        have hcb : 0 ≤ c ∧ c < 256 := by have := s[k].toNat_lt; omega
        have HNX : Hid (bareU s.data.toList = (pre ++ [c]) ++ bareU (s.data.toList.drop (k + 1))) := by
          unfold Hid
          rw [hd] at hpre hcr
          rw [hpre, bare_no hcr, hc]; simp
        have hcase : c ≠ 13 ∨ (c = 13 ∧ s.size ≤ k + 1) ∨ (c = 13 ∧ ∃ h : k + 1 < s.size, ((s[k + 1]'h).toNat : Int) ≠ 10) := by
          by_cases h13 : c = 13
          · rcases Nat.lt_or_ge (k + 1) s.size with h | h
            · refine .inr (.inr ⟨h13, h, fun h10 => ?_⟩)
              have hd1 := drop_one s (k + 1) h
              rw [hd, hd1] at hcr
              have e1 : s[k] = 13 := UInt8.toNat_inj.1 (by have : (13 : UInt8).toNat = 13 := rfl; omega)
              have e2 : s[k + 1] = 10 := UInt8.toNat_inj.1 (by have : (10 : UInt8).toNat = 10 := rfl; omega)
              rw [e1, e2] at hcr
              cases hcr
            · exact .inr (.inl ⟨h13, h⟩)
          · exact .inl h13
        clear hpre hown hou hbel hd hcr
        rcases hcase with h13 | ⟨h13, hend⟩ | ⟨h13, h1s, h10⟩
        · have hb : (c == 13) = false := by rw [beq_eq_false_iff_ne]; exact h13
          clear h13
          go_wp2_with (at_builtin; refine wpList_append_own _ rfl (.tmp 33) (.tmp 37) 22 rfl w.heap.size 5 j0 (.int .u8 0) 1 1 Try.underlying22 hi hz0 hz1 hz2 rfl (by decide) _ _ _ rfl (HO.out.alloc _) ⟨wr.heap.size, 0, none⟩ 1 1 ([c].map (Value.int .u8)) rfl rfl (cells_new _ _ _) (ints_one _) ?a1 ?a2 ?a3 ?_)
          case a1 => unfold maxLen; omega
          case a2 => omega
          case a3 => first | omega | (simp; omega)
          intro v1 w1 hown1 hgrow1 _
          have HB1 : Hid (Below w.heap.size w w1) := (HB.out.alloc hsz _).grown hgrow1 (by simp; omega) (fun k hk => (HO.out.lt k hk).1)
          have HU1 : Hid (w1.ownsRow w.heap.size 3 1 u5 at0.length (at0.map (Value.int .i64))) := (HU.out.alloc _).kept hgrow1 (own_apart' HO.out HU.out)
          have HO1 : Hid (w1.ownsRow w.heap.size 5 1 v1 (pre ++ [c]).length ((pre ++ [c]).map (Value.int .u8))) := by unfold Hid; rw [List.length_append, List.map_append]; exact hown1
          have hs1 : w.heap.size ≤ w1.heap.size := HB1.out.size
          clear hown1 hgrow1
          go_wp2_with (at_builtin; refine wpList_append_own _ rfl (.tmp 39) (.tmp 41) 39 rfl w.heap.size 3 j1 (.int .i64 0) 1 8 Try.underlying39 ki kz0 kz1 kz2 rfl (by decide) _ _ _ rfl (HU1.out.alloc _) ⟨w1.heap.size, 0, none⟩ 1 1 ([(k : Int)].map (Value.int .i64)) rfl rfl (cells_new _ _ _) (by intro x hx; simp at hx; subst hx; rfl) ?b1 ?b2 ?b3 ?_)
          case b1 => unfold maxLen; omega
          case b2 => omega
          case b3 => first | omega | (simp; omega)
          intro v2 w2 hown2 hgrow2 _
          have HB2 : Hid (Below w.heap.size w w2) := (HB1.out.alloc hs1 _).grown hgrow2 (by simp; omega) (fun k hk => (HU1.out.lt k hk).1)
          have HO2 : Hid (w2.ownsRow w.heap.size 5 1 v1 (pre ++ [c]).length ((pre ++ [c]).map (Value.int .u8))) := (HO1.out.alloc _).kept hgrow2 (own_apart HO1.out HU1.out)
          have HU2 : Hid (w2.ownsRow w.heap.size 3 1 v2 (at0 ++ [(k : Int)]).length ((at0 ++ [(k : Int)]).map (Value.int .i64))) := by unfold Hid; rw [List.length_append, List.map_append]; exact hown2
          clear hown2 hgrow2
          go_wp2
          go_roundw
          case rel => exact ⟨k + 1, pre ++ [c], at0 ++ [(k : Int)], by go_num, by omega, by first | omega | (simp; omega), HNX.out, HO2.out, HU2.out, HB2.out⟩
          case measure => simp [intOf]; omega
        · subst h13
          go_wp2_with (at_builtin; refine wpList_append_own _ rfl (.tmp 33) (.tmp 37) 22 rfl w.heap.size 5 j0 (.int .u8 0) 1 1 Try.underlying22 hi hz0 hz1 hz2 rfl (by decide) _ _ _ rfl (HO.out.alloc _) ⟨wr.heap.size, 0, none⟩ 1 1 ([13].map (Value.int .u8)) rfl rfl (cells_new _ _ _) (ints_one _) ?a1 ?a2 ?a3 ?_)
          case a1 => unfold maxLen; omega
          case a2 => omega
          case a3 => first | omega | (simp; omega)
          intro v1 w1 hown1 hgrow1 _
          have HB1 : Hid (Below w.heap.size w w1) := (HB.out.alloc hsz _).grown hgrow1 (by simp; omega) (fun k hk => (HO.out.lt k hk).1)
          have HU1 : Hid (w1.ownsRow w.heap.size 3 1 u5 at0.length (at0.map (Value.int .i64))) := (HU.out.alloc _).kept hgrow1 (own_apart' HO.out HU.out)
          have HO1 : Hid (w1.ownsRow w.heap.size 5 1 v1 (pre ++ [13]).length ((pre ++ [13]).map (Value.int .u8))) := by unfold Hid; rw [List.length_append, List.map_append]; exact hown1
          have hs1 : w.heap.size ≤ w1.heap.size := HB1.out.size
          clear hown1 hgrow1
          go_wp2_with (at_builtin; refine wpList_append_own _ rfl (.tmp 39) (.tmp 41) 39 rfl w.heap.size 3 j1 (.int .i64 0) 1 8 Try.underlying39 ki kz0 kz1 kz2 rfl (by decide) _ _ _ rfl (HU1.out.alloc _) ⟨w1.heap.size, 0, none⟩ 1 1 ([(k : Int)].map (Value.int .i64)) rfl rfl (cells_new _ _ _) (by intro x hx; simp at hx; subst hx; rfl) ?b1 ?b2 ?b3 ?_)
          case b1 => unfold maxLen; omega
          case b2 => omega
          case b3 => first | omega | (simp; omega)
          intro v2 w2 hown2 hgrow2 _
          have HB2 : Hid (Below w.heap.size w w2) := (HB1.out.alloc hs1 _).grown hgrow2 (by simp; omega) (fun k hk => (HU1.out.lt k hk).1)
          have HO2 : Hid (w2.ownsRow w.heap.size 5 1 v1 (pre ++ [13]).length ((pre ++ [13]).map (Value.int .u8))) := (HO1.out.alloc _).kept hgrow2 (own_apart HO1.out HU1.out)
          have HU2 : Hid (w2.ownsRow w.heap.size 3 1 v2 (at0 ++ [(k : Int)]).length ((at0 ++ [(k : Int)]).map (Value.int .i64))) := by unfold Hid; rw [List.length_append, List.map_append]; exact hown2
          clear hown2 hgrow2
          go_wp2
          go_roundw
          case rel => exact ⟨k + 1, pre ++ [13], at0 ++ [(k : Int)], by go_num, by omega, by first | omega | (simp; omega), HNX.out, HO2.out, HU2.out, HB2.out⟩
          case measure => simp [intOf]; omega
        · subst h13
          obtain ⟨d, hdd⟩ : ∃ d : Int, ((s[k + 1]'h1s).toNat : Int) = d := ⟨_, rfl⟩
          have hb2 : (d == 10) = false := by rw [beq_eq_false_iff_ne, ← hdd]; exact h10
          clear h10
          go_wp2_with (at_builtin; refine wpList_append_own _ rfl (.tmp 33) (.tmp 37) 22 rfl w.heap.size 5 j0 (.int .u8 0) 1 1 Try.underlying22 hi hz0 hz1 hz2 rfl (by decide) _ _ _ rfl (HO.out.alloc _) ⟨wr.heap.size, 0, none⟩ 1 1 ([13].map (Value.int .u8)) rfl rfl (cells_new _ _ _) (ints_one _) ?a1 ?a2 ?a3 ?_)
          case a1 => unfold maxLen; omega
          case a2 => omega
          case a3 => first | omega | (simp; omega)
          intro v1 w1 hown1 hgrow1 _
          have HB1 : Hid (Below w.heap.size w w1) := (HB.out.alloc hsz _).grown hgrow1 (by simp; omega) (fun k hk => (HO.out.lt k hk).1)
          have HU1 : Hid (w1.ownsRow w.heap.size 3 1 u5 at0.length (at0.map (Value.int .i64))) := (HU.out.alloc _).kept hgrow1 (own_apart' HO.out HU.out)
          have HO1 : Hid (w1.ownsRow w.heap.size 5 1 v1 (pre ++ [13]).length ((pre ++ [13]).map (Value.int .u8))) := by unfold Hid; rw [List.length_append, List.map_append]; exact hown1
          have hs1 : w.heap.size ≤ w1.heap.size := HB1.out.size
          clear hown1 hgrow1
          go_wp2_with (at_builtin; refine wpList_append_own _ rfl (.tmp 39) (.tmp 41) 39 rfl w.heap.size 3 j1 (.int .i64 0) 1 8 Try.underlying39 ki kz0 kz1 kz2 rfl (by decide) _ _ _ rfl (HU1.out.alloc _) ⟨w1.heap.size, 0, none⟩ 1 1 ([(k : Int)].map (Value.int .i64)) rfl rfl (cells_new _ _ _) (by intro x hx; simp at hx; subst hx; rfl) ?b1 ?b2 ?b3 ?_)
          case b1 => unfold maxLen; omega
          case b2 => omega
          case b3 => first | omega | (simp; omega)
          intro v2 w2 hown2 hgrow2 _
          have HB2 : Hid (Below w.heap.size w w2) := (HB1.out.alloc hs1 _).grown hgrow2 (by simp; omega) (fun k hk => (HU1.out.lt k hk).1)
          have HO2 : Hid (w2.ownsRow w.heap.size 5 1 v1 (pre ++ [13]).length ((pre ++ [13]).map (Value.int .u8))) := (HO1.out.alloc _).kept hgrow2 (own_apart HO1.out HU1.out)
          have HU2 : Hid (w2.ownsRow w.heap.size 3 1 v2 (at0 ++ [(k : Int)]).length ((at0 ++ [(k : Int)]).map (Value.int .i64))) := by unfold Hid; rw [List.length_append, List.map_append]; exact hown2
          clear hown2 hgrow2
          go_wp2
          go_roundw
          case rel => exact ⟨k + 1, pre ++ [13], at0 ++ [(k : Int)], by go_num, by omega, by first | omega | (simp; omega), HNX.out, HO2.out, HU2.out, HB2.out⟩
          case measure => simp [intOf]; omega
    · obtain rfl : k = s.size := by omega
      have HX : Hid (Own wr w.heap.size u4 (bareU s.data.toList)) := by
        unfold Hid; rw [HPR.out, List.drop_of_length_le (by simp), show bareU [] = [] from rfl, List.append_nil]; exact HO.out
      clear hpre hown hou hbel
      go_wp2
      go_ret2
      exact ⟨_, _, rfl, HX.out, HB.out⟩
end Go.Proofs.Ytcoicejbbdenlaa
