/-
  What a base's pieces say together: the contract of text, at utf-8.
-/
import Derived.Test.YtfhgkkdbkbbpkaaDoorEh
import Derived.Test.YtfhgkkdbkbbpkaaDoorEc
namespace Go.Proofs.YtfhgkkdbkbbpkaaDoor
open Go.RowKit Go.Maps
set_option linter.unusedVariables false
set_option linter.unusedSimpArgs false

theorem str_cells (s : ByteArray) : Lib.strCells s = (nums s).map (Value.int .u8) := by
  rw [nums, List.map_map]; rfl
def stripZ (v : List Int) : Option (List Int) := if v.take 7 = utfP then some (v.drop 7) else none
def oneZ (first i0 : Bool) (p : List Int × Bool) : Option (List Int) :=
  if p.2 = true then (if i0 = true then (stripZ p.1).bind decZ else if first = true then decZ p.1 else none) else some p.1
def restZ (first : Bool) : List (List Int × Bool) → Option (List Int)
  | [] => some []
  | p :: r => (oneZ first false p).bind fun a => (restZ first r).map fun b => a ++ b
def allZ : List (List Int × Bool) → Option (List Int)
  | [] => some []
  | p :: r => (oneZ p.2 true p).bind fun a => (restZ p.2 r).map fun b => a ++ b
theorem look_mem : ∀ {L : List Pc} {b : List Int} {n : Int} {x : List Int × Bool}, lookZ L b n = some x → ∃ p ∈ L, p.2.2 = x
  | [], _, _, _, h => by cases h
  | p :: r, b, n, x, h => by
    simp only [lookZ] at h
    split at h
    · simp at h; exact ⟨p, by simp, h⟩
    · obtain ⟨q, hq, e⟩ := look_mem h; exact ⟨q, by simp [hq], e⟩
theorem rowF_mem {L : List Pc} {b : List Int} : ∀ {f n : Nat} {x : List Int × Bool}, x ∈ rowF L b f n → ∃ p ∈ L, p.2.2 = x
  | 0, _, _, h => by cases h
  | f + 1, n, x, h => by
    simp only [rowF] at h
    split at h
    · cases h
    · rename_i q hq
      rcases List.mem_cons.1 h with rfl | h
      · exact look_mem hq
      · exact rowF_mem h
theorem row_mem {L : List Pc} {b : List Int} {x : List Int × Bool} (h : x ∈ rowZ L b) : ∃ p ∈ L, p.2.2 = x := by
  unfold rowZ at h
  split at h
  · rename_i q hq
    simp at h; subst h
    exact look_mem hq
  · exact rowF_mem h
theorem own_bytes {w : World} {B : Nat} {v : Value} {pre l : List Int} (h : w.ownsRow B 5 1 v (pre.length + l.length) (pre.map (Value.int .u8) ++ l.map (Value.int .u8))) : Own w B v (pre ++ l) := by
  unfold Own; rw [List.length_append, List.map_append]; exact h
theorem step_all {l : List (List Int × Bool)} {k : Nat} {p d : List Int × Bool} {rest : List Int} (hd : l.drop k = p :: l.drop (k + 1)) (h : if k = 0 then allZ l = some rest else restZ (l.getD 0 d).2 (l.drop k) = some rest) :
    ∃ a r, oneZ (l.getD 0 d).2 (decide (k = 0)) p = some a ∧ rest = a ++ r ∧ restZ (l.getD 0 d).2 (l.drop (k + 1)) = some r ∧ (k = 0 → (l.getD 0 d).2 = p.2) := by
  by_cases hk : k = 0
  · subst hk
    rw [if_pos rfl] at h
    rw [List.drop_zero] at hd
    have e : (l.getD 0 d).2 = p.2 := by rw [hd]; rfl
    rw [hd] at h
    simp only [allZ] at h
    rw [Option.bind_eq_some_iff] at h
    obtain ⟨a, h1, h2⟩ := h
    rw [Option.map_eq_some_iff] at h2
    obtain ⟨r, h3, h4⟩ := h2
    exact ⟨a, r, by rw [e]; exact h1, h4.symm, by rw [e]; exact h3, fun _ => e⟩
  · rw [if_neg hk, hd] at h
    simp only [restZ] at h
    rw [Option.bind_eq_some_iff] at h
    obtain ⟨a, h1, h2⟩ := h
    rw [Option.map_eq_some_iff] at h2
    obtain ⟨r, h3, h4⟩ := h2
    exact ⟨a, r, by rw [decide_eq_false hk]; exact h1, h4.symm, h3, fun q => absurd q hk⟩
theorem strip_some {v t : List Int} (h : stripZ v = some t) : v = utfP ++ t := by
  unfold stripZ at h
  split at h
  · rename_i e
    simp at h
    rw [← e, ← h, List.take_append_drop]
  · cases h
set_option maxRecDepth 100000 in
set_option maxHeartbeats 16000000 in
theorem text_ok (m1 m2 n n2 : Nat) (L : List Pc) (F : List Int → Nat) (s : ByteArray) (all pts : List Int) (w : World) (hs : s.size ≤ 1000000000) (hp : PMap w m1 n L) (hcm : CMap w m2 n2 F)
    (hL : ∀ p ∈ L, p.2.2.1.length ≤ 10000) (hF : F (nums s) = (rowZ L (nums s)).length) (hall : allZ (rowZ L (nums s)) = some all) (hpts : Cs.Ut.AllPt pts) (hflat : all = Cs.Ut.flat pts) (hbig : all.length ≤ 4000) :
    Calls Tryd.prog 39 #[.agg #[.map (some m1), .map (some m2)], .string s] w fun e w' => e = .returned (.tuple #[.string (strOfNums all), .bool true]) ∧ Below w.heap.size w w' := by
  obtain ⟨j0, hi, hz0, hz1, hz2⟩ := info_parts Tryd.info5
  have hmb : s.size ≤ maxLen := by unfold maxLen; omega
  have HA : Hid (allZ (rowZ L (nums s)) = some all) := hall
  have HC : Hid (CMap w m2 n2 F) := hcm
  have HLL : Hid (∀ p ∈ L, p.2.2.1.length ≤ 10000) := hL
  have HFL : Hid (all = Cs.Ut.flat pts) := hflat
  clear hall hcm hL hflat
  go_enter Tryd.func39, Tryd.ntmps39
  go_wp2_with fail
  refine (row_any m1 m2 n L s _ hs (hp.alloc _)).mono ?_
  rintro e w1 ⟨v, ps, rfl, hown, hps, hpl, hb1⟩
  rw [← hps] at hF
  have HPS : Hid (psZ ps = rowZ L (nums s)) := hps
  have hs1 := hb1.size
  have s1 : w.heap.size < w1.heap.size := by simp at hs1; omega
  have HB1 : Hid (Below w.heap.size w w1) := (keep w _).trans (hb1.mono (by simp))
  have g1 : w1.cell? ⟨w.heap.size, 1, none⟩ = some (.map (some m2)) := by rw [hb1.cell (p := ⟨w.heap.size, 1, none⟩) (by simp)]; rw [World.cell?_alloc_mark]; rfl
  obtain ⟨ra, rc, rfl, hrow⟩ := ownP_view hown
  have hlk := (HC.out.below HB1.out).look s hmb
  have hF2 : F (nums s) = ps.length := by rw [hF]; simp [psZ]
  rw [hF2] at hlk
  have HR : Hid (PRow w1 ra ps) := hrow
  clear hown hb1 hp hrow hF hF2 hps
  have hne : ((ps.length : Int) != (ps.length : Int)) = false := by simp
  go_wp2_with (at_lookup; refine wpList_look_miss rfl _ _ _ _ rfl _ hlk ?_)
  clear hlk g1
  obtain ⟨us, hus⟩ : ∃ us, Cs.utfS = us := ⟨_, rfl⟩
  have HU : Hid (Cs.utfS = us) := hus
  clear hus
  go_loopw [7, 8, 29] (fun u v i wr => ∃ (k : Nat) (pre rest : List Int), i = .int .i64 k ∧ u = .string us ∧ k ≤ ps.length ∧ Own wr w1.heap.size v pre ∧ Hid (if k = 0 then allZ (psZ ps) = some rest else restZ ((psZ ps).getD 0 ([], false)).2 ((psZ ps).drop k) = some rest) ∧ Hid (pre ++ rest = all) ∧ Hid (Below w.heap.size w wr) ∧ Hid (Below w1.heap.size w1 wr)) (fun _ _ i _ => ps.length - (intOf i).toNat)
  case atStart => exact ⟨0, [], all, rfl, by rw [← HU.out]; rfl, by omega, World.ownsRow_nil _ _ _ _, by unfold Hid; rw [if_pos rfl, HPS.out]; exact HA.out, rfl, HB1, Below.refl _ _⟩
  case round =>
    obtain ⟨k, pre, rest, rfl, rfl, hk, hown, HRE, HPR, HB, HBw⟩ := hrel
    have HO : Hid (Own wr w1.heap.size u8 pre) := hown
    have hsw := HBw.out.size
    have hprl : pre.length ≤ 4000 := by have := congrArg List.length HPR.out; rw [List.length_append] at this; omega
    by_cases hlt : k < ps.length
    · have dl : decide ((k : Int) < (ps.length : Int)) = true := decide_eq_true (by omega)
      obtain ⟨⟨vs, cd⟩, hpk⟩ : ∃ p, ps[k]? = some p := ⟨_, List.getElem?_eq_getElem hlt⟩
      obtain ⟨⟨fv, fc⟩, hp0⟩ : ∃ p, ps[0]? = some p := ⟨_, List.getElem?_eq_getElem (by omega)⟩
      have hrw := HR.out.below HBw.out
      rcases hrw with h | ⟨b, rfl, h⟩
      · rw [h] at hlt; simp at hlt
      obtain ⟨hc1, hc2⟩ := h k _ hpk
      have hc3 := (h 0 _ hp0).2
      rw [Nat.zero_mul, Nat.zero_add] at hc3
      clear h
      simp only at hc1 hc2 hc3
      have hbl : b < wr.heap.size := World.block_lt_of_cell? wr _ hc1
      have hd : (psZ ps).drop k = (nums vs, cd) :: (psZ ps).drop (k + 1) := by
        have hl2 : k < (psZ ps).length := by simp [psZ]; omega
        rw [List.drop_eq_getElem_cons hl2]
        congr 1
        simp only [psZ, List.getElem_map]
        rw [List.getElem?_eq_getElem hlt] at hpk
        simp at hpk
        rw [hpk]
      have hf0 : ((psZ ps).getD 0 ([], false)).2 = fc := by
        have : (psZ ps)[0]? = some (nums fv, fc) := by simp [psZ, hp0]
        rw [List.getD_eq_getElem?_getD, this]; rfl
      obtain ⟨a, r, h1, rfl, h3, h4⟩ := step_all hd HRE.out
      rw [hf0] at h1 h4
      have HRE2 : Hid (if k + 1 = 0 then allZ (psZ ps) = some r else restZ ((psZ ps).getD 0 ([], false)).2 ((psZ ps).drop (k + 1)) = some r) := by
        unfold Hid; rw [if_neg (by omega)]; exact h3
      have HPR2 : Hid ((pre ++ a) ++ r = all) := by unfold Hid; rw [List.append_assoc]; exact HPR.out
      have hal : (pre ++ a).length ≤ 4000 := by have := congrArg List.length HPR2.out; rw [List.length_append] at this; omega
      rw [List.length_append] at hal
      have hvs : vs.size ≤ 10000 := by
        have : (nums vs, cd) ∈ rowZ L (nums s) := by
          rw [← HPS.out]
          unfold psZ
          exact List.mem_map.2 ⟨(vs, cd), List.mem_of_getElem? hpk, rfl⟩
        obtain ⟨p, hp, e⟩ := row_mem this
        have := HLL.out p hp
        rw [e] at this
        rw [← nums_len]; exact this
      clear hd HRE HPR h3 hf0 hpk hp0 hown
      cases cd with
      | false =>
        have ha : a = nums vs := by simpa [oneZ] using h1.symm
        subst ha
        rw [nums_len] at hal
        clear h1 h4
        have HOa : Hid (Own (wr.alloc (.cells #[.string vs, .bool false] 83)) w1.heap.size u8 pre) := World.ownsRow.alloc (w := wr) HO.out _
        go_wp2_with (at_builtin; refine Lib.wpList_append_own_string _ rfl _ _ 31 9 rfl w1.heap.size 5 j0 Tryd.underlying31 Tryd.underlying9 hi hz0 hz1 hz2 _ pre.length _ rfl HOa.out vs rfl ?c3 ?c4 ?c5 ?_)
        case c3 => unfold maxLen; omega
        case c4 => omega
        case c5 => have : (wr.alloc (.cells #[.string vs, .bool false] 83)).heap.size = wr.heap.size + 1 := (by simp); omega
        intro v' w4 hown4 hgrow4 _
        have HO4 : Hid (Own w4 w1.heap.size v' (pre ++ nums vs)) := by
          refine own_bytes ?_
          rw [nums_len, ← str_cells]; exact hown4
        have HB4 : Hid (Below w1.heap.size w1 w4) := (HBw.out.alloc hsw _).grown hgrow4 (by simp; omega) (fun q hq => by have := (HO.out.lt q hq).1; omega)
        clear hown4 hgrow4 HOa HO
        go_wp2
        go_roundw
        case rel => exact ⟨k + 1, _, r, by go_num, rfl, by omega, HO4.out, HRE2, HPR2, HB1.out.trans (HB4.out.mono (by omega)), HB4⟩
        case measure => simp [intOf]; omega
      | true =>
        have hfc : fc = true := by
          by_cases hk0 : k = 0
          · exact h4 hk0
          · rw [decide_eq_false hk0] at h1
            cases fc with
            | true => rfl
            | false => simp [oneZ] at h1
        subst hfc
        clear h4
        have a3 : (wr.alloc (.cells #[.string vs, .bool true] 83)).cell? ⟨b, 1, none⟩ = some (.bool true) := ((keep wr _).cell hbl).trans hc3
        by_cases hk0 : k = 0
        · subst hk0
          have h5 : (stripZ (nums vs)).bind decZ = some a := by simpa [oneZ] using h1
          rw [Option.bind_eq_some_iff] at h5
          obtain ⟨t, h6, h7⟩ := h5
          have h8 := strip_some h6
          have KN := fun V : World => named_utf vs t V (by omega) h8
          rw [HU.out] at KN
          clear h1 h6 h8
          go_wp2_with fail
          refine (KN _).mono ?_
          rintro e w2 ⟨x, rfl, hx, hx1, hb2⟩
          clear KN
          have hs2 := hb2.size
          have s2 : wr.heap.size < w2.heap.size := by simp at hs2; omega
          have HB2 : Hid (Below wr.heap.size wr w2) := (keep wr _).trans (hb2.mono (by simp))
          rw [← hx] at h7
          have KD := fun V : World => decode_any x V (by omega)
          rw [h7] at KD
          clear hb2 hs2 hx
          go_wp2_with fail
          refine (KD _).mono ?_
          rintro e w3 ⟨_, hd3, hb3⟩
          obtain ⟨v3, rfl, hown3⟩ := hd3 _ rfl
          clear KD hd3
          have HB3 : Hid (Below wr.heap.size wr w3) := HB2.out.trans (hb3.mono (by omega))
          have hs3 := hb3.size
          obtain ⟨a5, c5, rfl, hc5, hm5, hr5, hn5⟩ := own_row' hown3
          have HO3 : Hid (Own w3 w1.heap.size u8 pre) := own_keep HO.out HB3.out
          clear hown3 hb3
          go_wp2_with (at_builtin; refine wpList_append_rowk rfl _ _ 31 rfl w1.heap.size 5 j0 (.int .u8 0) 1 Tryd.underlying31 hi hz0 hz1 hz2 rfl .u8 _ pre.length _ rfl HO3.out a5 a.length c5 a rfl rfl hn5 hr5 ?c3 ?c4 ?c5 ?_)
          case c3 => unfold maxLen; omega
          case c4 => omega
          case c5 => omega
          intro v' w4 hown4 hgrow4
          have HO4 : Hid (Own w4 w1.heap.size v' (pre ++ a)) := own_bytes hown4
          have HB4 : Hid (Below w1.heap.size w1 w4) := (HBw.out.trans (HB3.out.mono hsw)).grown hgrow4 (by omega) (fun q hq => by have := (HO3.out.lt q hq).1; omega)
          clear hown4 hgrow4 HO HO3 hr5 hm5 hn5
          go_wp2
          go_roundw
          case rel => exact ⟨0 + 1, _, r, by go_num, rfl, by omega, HO4.out, HRE2, HPR2, HB1.out.trans (HB4.out.mono (by omega)), HB4⟩
          case measure => simp [intOf]; omega
        · have h5 : decZ (nums vs) = some a := by rw [decide_eq_false hk0] at h1; simpa [oneZ] using h1
          have dk : ((k : Int) == 0) = false := by simp; omega
          have KD := fun V : World => decode_any vs V (by omega)
          rw [h5] at KD
          clear h1 h5
          go_wp2_with fail
          refine (KD _).mono ?_
          rintro e w3 ⟨_, hd3, hb3⟩
          obtain ⟨v3, rfl, hown3⟩ := hd3 _ rfl
          clear KD hd3
          have hs3 := hb3.size
          have s3 : wr.heap.size < w3.heap.size := by simp at hs3; omega
          have HB3 : Hid (Below wr.heap.size wr w3) := (keep wr _).trans (hb3.mono (by simp))
          obtain ⟨a5, c5, rfl, hc5, hm5, hr5, hn5⟩ := own_row' hown3
          have HO3 : Hid (Own w3 w1.heap.size u8 pre) := own_keep HO.out HB3.out
          clear hown3 hb3
          go_wp2_with (at_builtin; refine wpList_append_rowk rfl _ _ 31 rfl w1.heap.size 5 j0 (.int .u8 0) 1 Tryd.underlying31 hi hz0 hz1 hz2 rfl .u8 _ pre.length _ rfl HO3.out a5 a.length c5 a rfl rfl hn5 hr5 ?c3 ?c4 ?c5 ?_)
          case c3 => unfold maxLen; omega
          case c4 => omega
          case c5 => omega
          intro v' w4 hown4 hgrow4
          have HO4 : Hid (Own w4 w1.heap.size v' (pre ++ a)) := own_bytes hown4
          have HB4 : Hid (Below w1.heap.size w1 w4) := (HBw.out.trans (HB3.out.mono hsw)).grown hgrow4 (by omega) (fun q hq => by have := (HO3.out.lt q hq).1; omega)
          clear hown4 hgrow4 HO HO3 hr5 hm5 hn5
          go_wp2
          go_roundw
          case rel => exact ⟨k + 1, _, r, by go_num, rfl, by omega, HO4.out, HRE2, HPR2, HB1.out.trans (HB4.out.mono (by omega)), HB4⟩
          case measure => simp [intOf]; omega
    · obtain rfl : k = ps.length := by omega
      have dl : decide ((ps.length : Int) < (ps.length : Int)) = false := by simp
      have hre := HRE.out
      have hlz : (psZ ps).length = ps.length := by simp [psZ]
      have hr : rest = [] := by
        by_cases h0 : ps.length = 0
        · rw [if_pos h0, List.eq_nil_of_length_eq_zero (hlz.trans h0)] at hre
          simpa [allZ] using hre.symm
        · rw [if_neg h0, List.drop_of_length_le (by omega)] at hre
          simpa [restZ] using hre.symm
      subst hr
      have hpa : pre = all := by have := HPR.out; rwa [List.append_nil] at this
      subst hpa
      have HF2 : Hid (pre = Cs.Ut.flat pts) := HFL.out
      obtain ⟨a5, c5, rfl, hc5, hm5, hr5, hn5⟩ := own_row' hown
      have KD : ∀ V, Below wr.heap.size wr V → Calls Tryd.prog 60 #[.string us, .slice a5 pre.length c5] V fun e w' => ∃ v, e = .returned (.tuple #[v, .agg #[.int .i64 0, .int .i64 0]]) ∧ Own w' V.heap.size v pre ∧ Below V.heap.size V w' := fun V hV => by
        have hr6 : RowK .u8 V a5 pre := row_below hr5 hV
        have := Cs.decode_utf a5 pre.length c5 pts V hpts (by rw [← HF2.out]) hc5 hm5 (by omega) (by rw [← HF2.out]; exact hr6)
        rw [HU.out, ← HF2.out] at this
        exact this
      clear hre HRE HPR hown hr5 hlz hlt HFL
      go_wp2_with fail
      refine (KD _ (Below.refl _ _)).mono ?_
      rintro e w3 ⟨v3, rfl, hown3, hb3⟩
      clear KD
      have HB3 : Hid (Below w.heap.size w w3) := HB.out.trans (hb3.mono (by have := HB.out.size; omega))
      obtain ⟨a6, c6, rfl, hc6, hm6, hr6, hn6⟩ := own_row' hown3
      have kc := conv_row (w := (w3.alloc (.cells #[.int .i64 0, .int .i64 0] 75)).drew) pre.length c6 rfl (row_below hr6 (keep w3 (.cells #[.int .i64 0, .int .i64 0] 75)).drew)
      have hs3 := HB3.out.size
      clear hown3 hb3 hr6
      go_wp2
      go_region
      all_goals
        go_wp2
        go_ret2
        exact ⟨rfl, (HB3.out.alloc hs3 _).drew⟩
end Go.Proofs.YtfhgkkdbkbbpkaaDoor
