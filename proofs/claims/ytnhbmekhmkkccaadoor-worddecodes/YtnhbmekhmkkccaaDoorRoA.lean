/-
  The contracts of the reference's One and Decode.
-/
import Derived.Test.YtnhbmekhmkkccaaDoorBvA
import Derived.Test.YtnhbmekhmkkccaaDoorBx
import Derived.Test.YtnhbmekhmkkccaaDoorRsA
import Derived.Test.YtnhbmekhmkkccaaDoorRw
namespace Go.Proofs.YtnhbmekhmkkccaaDoor
open Go.RowKit
set_option linter.unusedVariables false

theorem map_nums_inj : ∀ {xs ys : List ByteArray}, xs.map nums = ys.map nums → xs = ys
  | [], [], _ => rfl
  | [], y :: ys, h => by simp at h
  | x :: xs, [], h => by simp at h
  | x :: xs, y :: ys, h => by
    simp only [List.map_cons, List.cons.injEq] at h
    rw [nums_inj h.1, map_nums_inj h.2]
theorem ne_lit (s t : ByteArray) (h : nums s ≠ nums t) : ¬ s.toList = t.toList ∧ (s.toList == t.toList) = false := by
  have := eq_nums s t
  rw [decide_eq_false h] at this
  exact ⟨by simpa using this, this⟩
theorem decB_len {l x : List Int} (h : decB l = some x) : x.length ≤ 3 * l.length := by
  unfold decB at h
  split at h
  · rename_i st hst
    split at h
    · simp only [Option.some.injEq] at h
      subst h
      have := scan_len _ _ _ _ _ (Nat.le_refl _) hst
      simp [Bt.B, Bt.fresh] at this
      omega
    · cases h
  · cases h
set_option maxHeartbeats 16000000 in
set_option maxRecDepth 100000 in
theorem rone_B (s set txt : ByteArray) (w : World) (h75 : s.size ≤ 75) (hp : pieces 63 (nums s) = [[61], nums set, [66], nums txt, [61]]) (h32 : (32 : Int) ∉ nums s) (hsz : set.size ≤ 75) (htz : txt.size ≤ 75) :
    Calls Tryd.prog 15 #[.string s] w fun e w' => ∃ x b, e = .returned (.tuple #[.string x, .bool b]) ∧ OAns b x (saidR (nums set) [66] (nums txt)) ∧ Below w.heap.size w w' := by
  have hparts := rparts_any s 63 w (by omega)
  have hhas := fun V => has_any s ⟨#[32]⟩ V (by omega) (by decide) (by decide)
  rw [show nums (⟨#[32]⟩ : ByteArray) = [32] from rfl, has_one, decide_eq_false h32] at hhas
  have hlow := fun V => lower_any set V (by omega)
  have hss : nums (strOfNums ((nums set).map smallZ)) = (nums set).map smallZ := nums_str (map_small_byt (nums_byt set))
  generalize strOfNums ((nums set).map smallZ) = ss at hlow hss
  have HSS : Hid (nums ss = (nums set).map smallZ) := hss
  have hd75 : decide ((s.size : Int) > 75) = false := decide_eq_false (by omega)
  clear hss h32
  go_enter Tryd.func15, Tryd.ntmps15
  go_wp2_with fail
  refine hparts.mono ?_
  clear hparts
  rintro e w1 ⟨v, xs, rfl, hown, hxp, hb1⟩
  obtain rfl : xs = [⟨#[61]⟩, set, ⟨#[66]⟩, txt, ⟨#[61]⟩] := map_nums_inj (hxp.trans hp)
  obtain ⟨a, cap, rfl, hcap, hr⟩ := ownS_view hown
  rcases hr with h | ⟨g, rfl, hg, hcells⟩
  · cases h
  have q0 : w1.cell? ⟨g, 0, none⟩ = some (.string ⟨#[61]⟩) := hcells 0 _ rfl
  have q1 : w1.cell? ⟨g, 1, none⟩ = some (.string set) := hcells 1 _ rfl
  have q2 : w1.cell? ⟨g, 2, none⟩ = some (.string ⟨#[66]⟩) := hcells 2 _ rfl
  have q3 : w1.cell? ⟨g, 3, none⟩ = some (.string txt) := hcells 3 _ rfl
  have q4 : w1.cell? ⟨g, 4, none⟩ = some (.string ⟨#[61]⟩) := hcells 4 _ rfl
  have HB1 : Hid (Below w.heap.size w w1) := hb1
  simp only [List.length_cons, List.length_nil, Nat.zero_add, Nat.reduceAdd] at hcap ⊢
  clear hcells hown hxp hp hb1
  have hdec := rbdec_any txt w1 (by omega)
  unfold DPost at hdec
  go_wp2_with (go_at_call 28; refine (hhas _).mono ?_; rintro e w' ⟨rfl, rfl⟩)
  refine hdec.mono ?_
  clear hdec hhas
  rintro e w2 ⟨v2, fa, fc, rfl, hb2, hd⟩
  have HB2 : Hid (Below w.heap.size w w2) := HB1.out.trans (hb2.mono HB1.out.size)
  have hs2 := HB2.out.size
  have r1 := cell_keep hb2 q1
  have r2 := cell_keep hb2 q2
  have hglt : g < w2.heap.size := World.block_lt_of_cell? w2 _ r1
  have hgne : g ≠ w2.heap.size := by omega
  clear q0 q1 q2 q3 q4 hb2 HB1
  rcases hd with ⟨rfl, hba⟩ | ⟨hfc, rfl, hdn⟩
  · obtain ⟨l, a2, cap2, hx, rfl, hcap2, hmx2, hrow2, hby⟩ := hba.1 rfl
    have kc := fun (V : World) (hb : Below w2.heap.size w2 V) => conv_row l.length cap2 rfl (row_below hrow2 hb)
    have hno : nums (strOfNums l) = l := nums_str hby
    have hol : l.length ≤ 225 := by have := decB_len hx; rw [nums_len] at this; omega
    have hoz : (strOfNums l).size ≤ 225 := by rw [← nums_len, hno]; exact hol
    have HX : Hid (contR [66] (nums txt) = some (nums (strOfNums l))) := by unfold Hid contR; rw [hno, if_pos (by simp), hx]
    generalize strOfNums l = o at kc hoz HX
    have k1 := kc _ (below_drew (keep w2 (.cells #[.int .i64 fa, .int .i64 0] 48)))
    clear kc hno hrow2 hby hba hx hol
    go_wp2
    go_region
    have HBW : Hid (Below w.heap.size w (w2.alloc (.cells #[.int .i64 fa, .int .i64 0] 48)).drew) := below_drew (HB2.out.alloc hs2 _)
    have r3 : (w2.alloc (.cells #[.int .i64 fa, .int .i64 0] 48)).drew.cell? ⟨g, 1, none⟩ = some (.string set) := cell_keep (below_drew (keep w2 _)) r1
    have r4 : (w2.alloc (.cells #[.int .i64 fa, .int .i64 0] 48)).drew.cell? ⟨g, 2, none⟩ = some (.string ⟨#[66]⟩) := cell_keep (below_drew (keep w2 _)) r2
    generalize (w2.alloc (.cells #[.int .i64 fa, .int .i64 0] 48)).drew = W at HBW r3 r4 ⊢
    clear r1 r2 k1 HB2 hs2 hglt hgne
    have hl2 := hlow W
    go_wp2_with fail
    refine hl2.mono ?_
    clear hl2
    rintro e w5 ⟨rfl, hb5⟩
    have HB5 : Hid (Below w.heap.size w w5) := HBW.out.trans (hb5.mono HBW.out.size)
    clear hb5
    obtain ⟨cap5, w6, kc6, hcap6, hmx6, hrow6, hb6, _⟩ := conv_bytes o w5 (by unfold maxLen; omega)
    have hval := rvalid_row _ o.size cap5 (nums o) w6 (nums_len o) (nums_byt o) hcap6 (by unfold maxLen; omega) (by omega) hrow6
    have HB6 : Hid (Below w.heap.size w w6) := HB5.out.trans (hb6.mono HB5.out.size)
    clear hb6 hrow6
    by_cases hu : nums ss = [117, 116, 102, 45, 56]
    · have HSR : Hid (saidR (nums set) [66] (nums txt) = if validZ (nums o) = true then some (nums o) else none) := by unfold Hid saidR; rw [HX.out]; simp only; unfold setR; rw [← HSS.out, if_pos hu]
      obtain rfl : ss = ⟨#[117, 116, 102, 45, 56]⟩ := nums_inj (hu.trans rfl)
      clear hu
      cases hvz : validZ (nums o) with
      | false =>
        have HSN : Hid (saidR (nums set) [66] (nums txt) = none) := by unfold Hid; rw [HSR.out, hvz]; rfl
        rw [hvz] at hval
        go_wp2_with (go_at_call 22; refine hval.mono ?_; rintro e w7 ⟨rfl, hb7⟩)
        go_ret2
        exact ⟨_, false, rfl, ⟨fun e => (by cases e), fun _ => ⟨HSN.out, rfl⟩⟩, HB6.out.trans (hb7.mono HB6.out.size)⟩
      | true =>
        have HSN : Hid (saidR (nums set) [66] (nums txt) = some (nums o)) := by unfold Hid; rw [HSR.out, hvz]; rfl
        rw [hvz] at hval
        go_wp2_with fail
        refine hval.mono ?_
        clear hval kc6
        rintro e w7 ⟨rfl, hb7⟩
        have HB7 : Hid (Below w.heap.size w w7) := HB6.out.trans (hb7.mono HB6.out.size)
        clear hb7
        go_wp2
        go_loopw [10] (fun i wr => ∃ k : Nat, i = .int .i64 k ∧ k ≤ o.size ∧ w7 = wr) (fun i _ => o.size - (intOf i).toNat)
        case atStart => exact ⟨0, rfl, by omega, rfl⟩
        case round =>
          obtain ⟨k, rfl, hk, rfl⟩ := hrel
          by_cases hlt : k < o.size
          · have hl1 : decide ((k : Int) < (o.size : Int)) = true := decide_eq_true (by omega)
            obtain ⟨c, hc⟩ : ∃ c : Int, ((o[k]'hlt).toNat : Int) = c := ⟨_, rfl⟩
            by_cases hc8 : c ≥ 128
            · have hd : decide (c ≥ 128) = true := decide_eq_true hc8
              go_wp2
              all_goals exact ⟨⟨k + 1, by first | go_num | rfl, by omega, by first | trivial | rfl⟩, by simp [intOf]; omega⟩
            · have hd : decide (c ≥ 128) = false := decide_eq_false hc8
              go_wp2
              all_goals exact ⟨⟨k + 1, by first | go_num | rfl, by omega, by first | trivial | rfl⟩, by simp [intOf]; omega⟩
          · obtain rfl : k = o.size := by omega
            have hl1 : decide ((o.size : Int) < (o.size : Int)) = false := by simp
            go_wp2
            go_ret2
            exact ⟨_, true, rfl, ⟨fun _ => HSN.out, fun e => (by cases e)⟩, HB7.out⟩
    · by_cases ha : nums ss = [117, 115, 45, 97, 115, 99, 105, 105]
      · have HSR : Hid (saidR (nums set) [66] (nums txt) = if (nums o).all (fun c => decide (c < 128)) = true then some (nums o) else none) := by unfold Hid saidR; rw [HX.out]; simp only; unfold setR; rw [← HSS.out, if_neg hu, if_pos ha]
        obtain rfl : ss = ⟨#[117, 115, 45, 97, 115, 99, 105, 105]⟩ := nums_inj (ha.trans rfl)
        clear hu ha
        cases hvz : validZ (nums o) with
        | false =>
          have HSN : Hid (saidR (nums set) [66] (nums txt) = none) := by
            unfold Hid; rw [HSR.out, if_neg]
            intro hh; rw [valid_ascii (nums_byt o) hh] at hvz; cases hvz
          rw [hvz] at hval
          go_wp2_with (go_at_call 22; refine hval.mono ?_; rintro e w7 ⟨rfl, hb7⟩)
          go_ret2
          exact ⟨_, false, rfl, ⟨fun e => (by cases e), fun _ => ⟨HSN.out, rfl⟩⟩, HB6.out.trans (hb7.mono HB6.out.size)⟩
        | true =>
          rw [hvz] at hval
          go_wp2_with fail
          refine hval.mono ?_
          clear hval kc6
          rintro e w7 ⟨rfl, hb7⟩
          have HB7 : Hid (Below w.heap.size w w7) := HB6.out.trans (hb7.mono HB6.out.size)
          clear hb7
          go_wp2
          go_loopw [10] (fun i wr => ∃ k : Nat, i = .int .i64 k ∧ k ≤ o.size ∧ ((nums o).take k).all (fun c => decide (c < 128)) = true ∧ w7 = wr) (fun i _ => o.size - (intOf i).toNat)
          case atStart => exact ⟨0, rfl, by omega, by simp, rfl⟩
          case round =>
            obtain ⟨k, rfl, hk, hal, rfl⟩ := hrel
            have HA : Hid (((nums o).take k).all (fun c => decide (c < 128)) = true) := hal
            clear hal
            by_cases hlt : k < o.size
            · have hl1 : decide ((k : Int) < (o.size : Int)) = true := decide_eq_true (by omega)
              have HN : Hid ((nums o)[k]? = some (o[k].toNat : Int)) := nums_at o k hlt
              obtain ⟨c, hc⟩ : ∃ c : Int, ((o[k]'hlt).toNat : Int) = c := ⟨_, rfl⟩
              rw [hc] at HN
              by_cases hc8 : c ≥ 128
              · have hd : decide (c ≥ 128) = true := decide_eq_true hc8
                have HSN : Hid (saidR (nums set) [66] (nums txt) = none) := by unfold Hid; rw [HSR.out, all_bad _ _ _ _ HN.out (by simp; omega)]; rfl
                go_wp2
                go_ret2
                exact ⟨_, false, rfl, ⟨fun e => (by cases e), fun _ => ⟨HSN.out, rfl⟩⟩, HB7.out⟩
              · have hd : decide (c ≥ 128) = false := decide_eq_false hc8
                have HA2 : Hid (((nums o).take (k + 1)).all (fun c => decide (c < 128)) = true) := by unfold Hid; rw [all_take _ _ _ _ HN.out, HA.out]; simp; omega
                go_wp2
                all_goals exact ⟨⟨k + 1, by first | go_num | rfl, by omega, HA2.out, by first | trivial | rfl⟩, by simp [intOf]; omega⟩
            · obtain rfl : k = o.size := by omega
              have hl1 : decide ((o.size : Int) < (o.size : Int)) = false := by simp
              have HSN : Hid (saidR (nums set) [66] (nums txt) = some (nums o)) := by
                have := HA.out
                rw [List.take_of_length_le (by rw [nums_len]; exact Nat.le_refl _)] at this
                unfold Hid; rw [HSR.out, if_pos this]
              go_wp2
              go_ret2
              exact ⟨_, true, rfl, ⟨fun _ => HSN.out, fun e => (by cases e)⟩, HB7.out⟩
      · have HSN : Hid (saidR (nums set) [66] (nums txt) = none) := by unfold Hid saidR; rw [HX.out]; simp only; unfold setR; rw [← HSS.out, if_neg hu, if_neg ha]; rfl
        obtain ⟨n1, n2⟩ := ne_lit ss ⟨#[117, 116, 102, 45, 56]⟩ hu
        obtain ⟨n3, n4⟩ := ne_lit ss ⟨#[117, 115, 45, 97, 115, 99, 105, 105]⟩ ha
        rw [ByteArray.toList_eq ⟨#[117, 116, 102, 45, 56]⟩] at n1 n2
        rw [ByteArray.toList_eq ⟨#[117, 115, 45, 97, 115, 99, 105, 105]⟩] at n3 n4
        simp only at n1 n2 n3 n4
        have HBZ : Hid (Below w.heap.size w w5) := HB5.out
        clear hu ha hval kc6
        go_wp2
        go_ret2
        exact ⟨_, false, rfl, ⟨fun e => (by cases e), fun _ => ⟨HSN.out, rfl⟩⟩, HBZ.out⟩
  · have HSN : Hid (saidR (nums set) [66] (nums txt) = none) := by unfold Hid saidR contR; rw [if_pos (by simp), hdn]
    have k1 : (convert 31 9 (.slice none 0 0)).run Tryd.prog (w2.alloc (.cells #[.int .i64 fa, .int .i64 fc] 48)).drew = .ok (.string ⟨#[]⟩) (w2.alloc (.cells #[.int .i64 fa, .int .i64 fc] 48)).drew := conv_row (l := []) 0 0 rfl (.inl rfl)
    have hfb : (fc == 0) = false := by rw [beq_eq_false_iff_ne]; exact hfc
    clear hdn hfc
    go_wp2
    go_region
    have HBW : Hid (Below w.heap.size w (w2.alloc (.cells #[.int .i64 fa, .int .i64 fc] 48)).drew) := below_drew (HB2.out.alloc hs2 _)
    have r3 : (w2.alloc (.cells #[.int .i64 fa, .int .i64 fc] 48)).drew.cell? ⟨g, 1, none⟩ = some (.string set) := cell_keep (below_drew (keep w2 _)) r1
    have r4 : (w2.alloc (.cells #[.int .i64 fa, .int .i64 fc] 48)).drew.cell? ⟨g, 2, none⟩ = some (.string ⟨#[66]⟩) := cell_keep (below_drew (keep w2 _)) r2
    generalize (w2.alloc (.cells #[.int .i64 fa, .int .i64 fc] 48)).drew = W at HBW r3 r4 ⊢
    clear r1 r2 k1 HB2 hs2 hglt hgne
    have hl2 := hlow W
    go_wp2_with (go_at_call 37; refine hl2.mono ?_; rintro e w5 ⟨rfl, hb5⟩)
    go_ret2
    exact ⟨_, false, rfl, ⟨fun e => (by cases e), fun _ => ⟨HSN.out, rfl⟩⟩, HBW.out.trans (hb5.mono HBW.out.size)⟩
set_option maxHeartbeats 16000000 in
set_option maxRecDepth 100000 in
theorem rone_b (s set txt : ByteArray) (w : World) (h75 : s.size ≤ 75) (hp : pieces 63 (nums s) = [[61], nums set, [98], nums txt, [61]]) (h32 : (32 : Int) ∉ nums s) (hsz : set.size ≤ 75) (htz : txt.size ≤ 75) :
    Calls Tryd.prog 15 #[.string s] w fun e w' => ∃ x b, e = .returned (.tuple #[.string x, .bool b]) ∧ OAns b x (saidR (nums set) [98] (nums txt)) ∧ Below w.heap.size w w' := by
  have hparts := rparts_any s 63 w (by omega)
  have hhas := fun V => has_any s ⟨#[32]⟩ V (by omega) (by decide) (by decide)
  rw [show nums (⟨#[32]⟩ : ByteArray) = [32] from rfl, has_one, decide_eq_false h32] at hhas
  have hlow := fun V => lower_any set V (by omega)
  have hss : nums (strOfNums ((nums set).map smallZ)) = (nums set).map smallZ := nums_str (map_small_byt (nums_byt set))
  generalize strOfNums ((nums set).map smallZ) = ss at hlow hss
  have HSS : Hid (nums ss = (nums set).map smallZ) := hss
  have hd75 : decide ((s.size : Int) > 75) = false := decide_eq_false (by omega)
  clear hss h32
  go_enter Tryd.func15, Tryd.ntmps15
  go_wp2_with fail
  refine hparts.mono ?_
  clear hparts
  rintro e w1 ⟨v, xs, rfl, hown, hxp, hb1⟩
  obtain rfl : xs = [⟨#[61]⟩, set, ⟨#[98]⟩, txt, ⟨#[61]⟩] := map_nums_inj (hxp.trans hp)
  obtain ⟨a, cap, rfl, hcap, hr⟩ := ownS_view hown
  rcases hr with h | ⟨g, rfl, hg, hcells⟩
  · cases h
  have q0 : w1.cell? ⟨g, 0, none⟩ = some (.string ⟨#[61]⟩) := hcells 0 _ rfl
  have q1 : w1.cell? ⟨g, 1, none⟩ = some (.string set) := hcells 1 _ rfl
  have q2 : w1.cell? ⟨g, 2, none⟩ = some (.string ⟨#[98]⟩) := hcells 2 _ rfl
  have q3 : w1.cell? ⟨g, 3, none⟩ = some (.string txt) := hcells 3 _ rfl
  have q4 : w1.cell? ⟨g, 4, none⟩ = some (.string ⟨#[61]⟩) := hcells 4 _ rfl
  have HB1 : Hid (Below w.heap.size w w1) := hb1
  simp only [List.length_cons, List.length_nil, Nat.zero_add, Nat.reduceAdd] at hcap ⊢
  clear hcells hown hxp hp hb1
  have hdec := rbdec_any txt w1 (by omega)
  unfold DPost at hdec
  go_wp2_with (go_at_call 28; refine (hhas _).mono ?_; rintro e w' ⟨rfl, rfl⟩)
  refine hdec.mono ?_
  clear hdec hhas
  rintro e w2 ⟨v2, fa, fc, rfl, hb2, hd⟩
  have HB2 : Hid (Below w.heap.size w w2) := HB1.out.trans (hb2.mono HB1.out.size)
  have hs2 := HB2.out.size
  have r1 := cell_keep hb2 q1
  have r2 := cell_keep hb2 q2
  have hglt : g < w2.heap.size := World.block_lt_of_cell? w2 _ r1
  have hgne : g ≠ w2.heap.size := by omega
  clear q0 q1 q2 q3 q4 hb2 HB1
  rcases hd with ⟨rfl, hba⟩ | ⟨hfc, rfl, hdn⟩
  · obtain ⟨l, a2, cap2, hx, rfl, hcap2, hmx2, hrow2, hby⟩ := hba.1 rfl
    have kc := fun (V : World) (hb : Below w2.heap.size w2 V) => conv_row l.length cap2 rfl (row_below hrow2 hb)
    have hno : nums (strOfNums l) = l := nums_str hby
    have hol : l.length ≤ 225 := by have := decB_len hx; rw [nums_len] at this; omega
    have hoz : (strOfNums l).size ≤ 225 := by rw [← nums_len, hno]; exact hol
    have HX : Hid (contR [98] (nums txt) = some (nums (strOfNums l))) := by unfold Hid contR; rw [hno, if_pos (by simp), hx]
    generalize strOfNums l = o at kc hoz HX
    have k1 := kc _ (below_drew (keep w2 (.cells #[.int .i64 fa, .int .i64 0] 48)))
    clear kc hno hrow2 hby hba hx hol
    go_wp2
    go_region
    have HBW : Hid (Below w.heap.size w (w2.alloc (.cells #[.int .i64 fa, .int .i64 0] 48)).drew) := below_drew (HB2.out.alloc hs2 _)
    have r3 : (w2.alloc (.cells #[.int .i64 fa, .int .i64 0] 48)).drew.cell? ⟨g, 1, none⟩ = some (.string set) := cell_keep (below_drew (keep w2 _)) r1
    have r4 : (w2.alloc (.cells #[.int .i64 fa, .int .i64 0] 48)).drew.cell? ⟨g, 2, none⟩ = some (.string ⟨#[98]⟩) := cell_keep (below_drew (keep w2 _)) r2
    generalize (w2.alloc (.cells #[.int .i64 fa, .int .i64 0] 48)).drew = W at HBW r3 r4 ⊢
    clear r1 r2 k1 HB2 hs2 hglt hgne
    have hl2 := hlow W
    go_wp2_with fail
    refine hl2.mono ?_
    clear hl2
    rintro e w5 ⟨rfl, hb5⟩
    have HB5 : Hid (Below w.heap.size w w5) := HBW.out.trans (hb5.mono HBW.out.size)
    clear hb5
    obtain ⟨cap5, w6, kc6, hcap6, hmx6, hrow6, hb6, _⟩ := conv_bytes o w5 (by unfold maxLen; omega)
    have hval := rvalid_row _ o.size cap5 (nums o) w6 (nums_len o) (nums_byt o) hcap6 (by unfold maxLen; omega) (by omega) hrow6
    have HB6 : Hid (Below w.heap.size w w6) := HB5.out.trans (hb6.mono HB5.out.size)
    clear hb6 hrow6
    by_cases hu : nums ss = [117, 116, 102, 45, 56]
    · have HSR : Hid (saidR (nums set) [98] (nums txt) = if validZ (nums o) = true then some (nums o) else none) := by unfold Hid saidR; rw [HX.out]; simp only; unfold setR; rw [← HSS.out, if_pos hu]
      obtain rfl : ss = ⟨#[117, 116, 102, 45, 56]⟩ := nums_inj (hu.trans rfl)
      clear hu
      cases hvz : validZ (nums o) with
      | false =>
        have HSN : Hid (saidR (nums set) [98] (nums txt) = none) := by unfold Hid; rw [HSR.out, hvz]; rfl
        rw [hvz] at hval
        go_wp2_with (go_at_call 22; refine hval.mono ?_; rintro e w7 ⟨rfl, hb7⟩)
        go_ret2
        exact ⟨_, false, rfl, ⟨fun e => (by cases e), fun _ => ⟨HSN.out, rfl⟩⟩, HB6.out.trans (hb7.mono HB6.out.size)⟩
      | true =>
        have HSN : Hid (saidR (nums set) [98] (nums txt) = some (nums o)) := by unfold Hid; rw [HSR.out, hvz]; rfl
        rw [hvz] at hval
        go_wp2_with fail
        refine hval.mono ?_
        clear hval kc6
        rintro e w7 ⟨rfl, hb7⟩
        have HB7 : Hid (Below w.heap.size w w7) := HB6.out.trans (hb7.mono HB6.out.size)
        clear hb7
        go_wp2
        go_loopw [10] (fun i wr => ∃ k : Nat, i = .int .i64 k ∧ k ≤ o.size ∧ w7 = wr) (fun i _ => o.size - (intOf i).toNat)
        case atStart => exact ⟨0, rfl, by omega, rfl⟩
        case round =>
          obtain ⟨k, rfl, hk, rfl⟩ := hrel
          by_cases hlt : k < o.size
          · have hl1 : decide ((k : Int) < (o.size : Int)) = true := decide_eq_true (by omega)
            obtain ⟨c, hc⟩ : ∃ c : Int, ((o[k]'hlt).toNat : Int) = c := ⟨_, rfl⟩
            by_cases hc8 : c ≥ 128
            · have hd : decide (c ≥ 128) = true := decide_eq_true hc8
              go_wp2
              all_goals exact ⟨⟨k + 1, by first | go_num | rfl, by omega, by first | trivial | rfl⟩, by simp [intOf]; omega⟩
            · have hd : decide (c ≥ 128) = false := decide_eq_false hc8
              go_wp2
              all_goals exact ⟨⟨k + 1, by first | go_num | rfl, by omega, by first | trivial | rfl⟩, by simp [intOf]; omega⟩
          · obtain rfl : k = o.size := by omega
            have hl1 : decide ((o.size : Int) < (o.size : Int)) = false := by simp
            go_wp2
            go_ret2
            exact ⟨_, true, rfl, ⟨fun _ => HSN.out, fun e => (by cases e)⟩, HB7.out⟩
    · by_cases ha : nums ss = [117, 115, 45, 97, 115, 99, 105, 105]
      · have HSR : Hid (saidR (nums set) [98] (nums txt) = if (nums o).all (fun c => decide (c < 128)) = true then some (nums o) else none) := by unfold Hid saidR; rw [HX.out]; simp only; unfold setR; rw [← HSS.out, if_neg hu, if_pos ha]
        obtain rfl : ss = ⟨#[117, 115, 45, 97, 115, 99, 105, 105]⟩ := nums_inj (ha.trans rfl)
        clear hu ha
        cases hvz : validZ (nums o) with
        | false =>
          have HSN : Hid (saidR (nums set) [98] (nums txt) = none) := by
            unfold Hid; rw [HSR.out, if_neg]
            intro hh; rw [valid_ascii (nums_byt o) hh] at hvz; cases hvz
          rw [hvz] at hval
          go_wp2_with (go_at_call 22; refine hval.mono ?_; rintro e w7 ⟨rfl, hb7⟩)
          go_ret2
          exact ⟨_, false, rfl, ⟨fun e => (by cases e), fun _ => ⟨HSN.out, rfl⟩⟩, HB6.out.trans (hb7.mono HB6.out.size)⟩
        | true =>
          rw [hvz] at hval
          go_wp2_with fail
          refine hval.mono ?_
          clear hval kc6
          rintro e w7 ⟨rfl, hb7⟩
          have HB7 : Hid (Below w.heap.size w w7) := HB6.out.trans (hb7.mono HB6.out.size)
          clear hb7
          go_wp2
          go_loopw [10] (fun i wr => ∃ k : Nat, i = .int .i64 k ∧ k ≤ o.size ∧ ((nums o).take k).all (fun c => decide (c < 128)) = true ∧ w7 = wr) (fun i _ => o.size - (intOf i).toNat)
          case atStart => exact ⟨0, rfl, by omega, by simp, rfl⟩
          case round =>
            obtain ⟨k, rfl, hk, hal, rfl⟩ := hrel
            have HA : Hid (((nums o).take k).all (fun c => decide (c < 128)) = true) := hal
            clear hal
            by_cases hlt : k < o.size
            · have hl1 : decide ((k : Int) < (o.size : Int)) = true := decide_eq_true (by omega)
              have HN : Hid ((nums o)[k]? = some (o[k].toNat : Int)) := nums_at o k hlt
              obtain ⟨c, hc⟩ : ∃ c : Int, ((o[k]'hlt).toNat : Int) = c := ⟨_, rfl⟩
              rw [hc] at HN
              by_cases hc8 : c ≥ 128
              · have hd : decide (c ≥ 128) = true := decide_eq_true hc8
                have HSN : Hid (saidR (nums set) [98] (nums txt) = none) := by unfold Hid; rw [HSR.out, all_bad _ _ _ _ HN.out (by simp; omega)]; rfl
                go_wp2
                go_ret2
                exact ⟨_, false, rfl, ⟨fun e => (by cases e), fun _ => ⟨HSN.out, rfl⟩⟩, HB7.out⟩
              · have hd : decide (c ≥ 128) = false := decide_eq_false hc8
                have HA2 : Hid (((nums o).take (k + 1)).all (fun c => decide (c < 128)) = true) := by unfold Hid; rw [all_take _ _ _ _ HN.out, HA.out]; simp; omega
                go_wp2
                all_goals exact ⟨⟨k + 1, by first | go_num | rfl, by omega, HA2.out, by first | trivial | rfl⟩, by simp [intOf]; omega⟩
            · obtain rfl : k = o.size := by omega
              have hl1 : decide ((o.size : Int) < (o.size : Int)) = false := by simp
              have HSN : Hid (saidR (nums set) [98] (nums txt) = some (nums o)) := by
                have := HA.out
                rw [List.take_of_length_le (by rw [nums_len]; exact Nat.le_refl _)] at this
                unfold Hid; rw [HSR.out, if_pos this]
              go_wp2
              go_ret2
              exact ⟨_, true, rfl, ⟨fun _ => HSN.out, fun e => (by cases e)⟩, HB7.out⟩
      · have HSN : Hid (saidR (nums set) [98] (nums txt) = none) := by unfold Hid saidR; rw [HX.out]; simp only; unfold setR; rw [← HSS.out, if_neg hu, if_neg ha]; rfl
        obtain ⟨n1, n2⟩ := ne_lit ss ⟨#[117, 116, 102, 45, 56]⟩ hu
        obtain ⟨n3, n4⟩ := ne_lit ss ⟨#[117, 115, 45, 97, 115, 99, 105, 105]⟩ ha
        rw [ByteArray.toList_eq ⟨#[117, 116, 102, 45, 56]⟩] at n1 n2
        rw [ByteArray.toList_eq ⟨#[117, 115, 45, 97, 115, 99, 105, 105]⟩] at n3 n4
        simp only at n1 n2 n3 n4
        have HBZ : Hid (Below w.heap.size w w5) := HB5.out
        clear hu ha hval kc6
        go_wp2
        go_ret2
        exact ⟨_, false, rfl, ⟨fun e => (by cases e), fun _ => ⟨HSN.out, rfl⟩⟩, HBZ.out⟩
  · have HSN : Hid (saidR (nums set) [98] (nums txt) = none) := by unfold Hid saidR contR; rw [if_pos (by simp), hdn]
    have k1 : (convert 31 9 (.slice none 0 0)).run Tryd.prog (w2.alloc (.cells #[.int .i64 fa, .int .i64 fc] 48)).drew = .ok (.string ⟨#[]⟩) (w2.alloc (.cells #[.int .i64 fa, .int .i64 fc] 48)).drew := conv_row (l := []) 0 0 rfl (.inl rfl)
    have hfb : (fc == 0) = false := by rw [beq_eq_false_iff_ne]; exact hfc
    clear hdn hfc
    go_wp2
    go_region
    have HBW : Hid (Below w.heap.size w (w2.alloc (.cells #[.int .i64 fa, .int .i64 fc] 48)).drew) := below_drew (HB2.out.alloc hs2 _)
    have r3 : (w2.alloc (.cells #[.int .i64 fa, .int .i64 fc] 48)).drew.cell? ⟨g, 1, none⟩ = some (.string set) := cell_keep (below_drew (keep w2 _)) r1
    have r4 : (w2.alloc (.cells #[.int .i64 fa, .int .i64 fc] 48)).drew.cell? ⟨g, 2, none⟩ = some (.string ⟨#[98]⟩) := cell_keep (below_drew (keep w2 _)) r2
    generalize (w2.alloc (.cells #[.int .i64 fa, .int .i64 fc] 48)).drew = W at HBW r3 r4 ⊢
    clear r1 r2 k1 HB2 hs2 hglt hgne
    have hl2 := hlow W
    go_wp2_with (go_at_call 37; refine hl2.mono ?_; rintro e w5 ⟨rfl, hb5⟩)
    go_ret2
    exact ⟨_, false, rfl, ⟨fun e => (by cases e), fun _ => ⟨HSN.out, rfl⟩⟩, HBW.out.trans (hb5.mono HBW.out.size)⟩
set_option maxHeartbeats 16000000 in
set_option maxRecDepth 100000 in
theorem rone_Q (s set txt : ByteArray) (w : World) (h75 : s.size ≤ 75) (hp : pieces 63 (nums s) = [[61], nums set, [81], nums txt, [61]]) (h32 : (32 : Int) ∉ nums s) (hsz : set.size ≤ 75) (htz : txt.size ≤ 75) :
    Calls Tryd.prog 15 #[.string s] w fun e w' => ∃ x b, e = .returned (.tuple #[.string x, .bool b]) ∧ OAns b x (saidR (nums set) [81] (nums txt)) ∧ Below w.heap.size w w' := by
  have hparts := rparts_any s 63 w (by omega)
  have hhas := fun V => has_any s ⟨#[32]⟩ V (by omega) (by decide) (by decide)
  rw [show nums (⟨#[32]⟩ : ByteArray) = [32] from rfl, has_one, decide_eq_false h32] at hhas
  have hlow := fun V => lower_any set V (by omega)
  have hss : nums (strOfNums ((nums set).map smallZ)) = (nums set).map smallZ := nums_str (map_small_byt (nums_byt set))
  generalize strOfNums ((nums set).map smallZ) = ss at hlow hss
  have HSS : Hid (nums ss = (nums set).map smallZ) := hss
  have hd75 : decide ((s.size : Int) > 75) = false := decide_eq_false (by omega)
  clear hss h32
  go_enter Tryd.func15, Tryd.ntmps15
  go_wp2_with fail
  refine hparts.mono ?_
  clear hparts
  rintro e w1 ⟨v, xs, rfl, hown, hxp, hb1⟩
  obtain rfl : xs = [⟨#[61]⟩, set, ⟨#[81]⟩, txt, ⟨#[61]⟩] := map_nums_inj (hxp.trans hp)
  obtain ⟨a, cap, rfl, hcap, hr⟩ := ownS_view hown
  rcases hr with h | ⟨g, rfl, hg, hcells⟩
  · cases h
  have q0 : w1.cell? ⟨g, 0, none⟩ = some (.string ⟨#[61]⟩) := hcells 0 _ rfl
  have q1 : w1.cell? ⟨g, 1, none⟩ = some (.string set) := hcells 1 _ rfl
  have q2 : w1.cell? ⟨g, 2, none⟩ = some (.string ⟨#[81]⟩) := hcells 2 _ rfl
  have q3 : w1.cell? ⟨g, 3, none⟩ = some (.string txt) := hcells 3 _ rfl
  have q4 : w1.cell? ⟨g, 4, none⟩ = some (.string ⟨#[61]⟩) := hcells 4 _ rfl
  have HB1 : Hid (Below w.heap.size w w1) := hb1
  simp only [List.length_cons, List.length_nil, Nat.zero_add, Nat.reduceAdd] at hcap ⊢
  clear hcells hown hxp hp hb1
  have hsh := short_any txt w1 (by omega)
  go_wp2_with (go_at_call 28; refine (hhas _).mono ?_; rintro e w' ⟨rfl, rfl⟩)
  refine hsh.mono ?_
  clear hsh hhas
  rintro e W ⟨o, b, rfl, hans, hb2⟩
  have HBW : Hid (Below w.heap.size w W) := HB1.out.trans (hb2.mono HB1.out.size)
  have r3 := cell_keep hb2 q1
  clear q0 q1 q2 q3 q4 hb2 HB1
  cases b with
  | false =>
    have HSN : Hid (saidR (nums set) [81] (nums txt) = none) := by unfold Hid saidR contR; rw [if_neg (by simp), if_pos (by simp), (hans.2 rfl).1]
    have hl2 := hlow W
    go_wp2_with (go_at_call 37; refine hl2.mono ?_; rintro e w5 ⟨rfl, hb5⟩)
    go_ret2
    exact ⟨_, false, rfl, ⟨fun e => (by cases e), fun _ => ⟨HSN.out, rfl⟩⟩, HBW.out.trans (hb5.mono HBW.out.size)⟩
  | true =>
    have hm := hans.1 rfl
    have hoz : o.size ≤ 225 := by have := mark_len _ _ _ hm; rw [nums_len, nums_len] at this; omega
    have HX : Hid (contR [81] (nums txt) = some (nums o)) := by unfold Hid contR; rw [if_neg (by simp), if_pos (by simp)]; exact hm
    clear hans hm
    have hl2 := hlow W
    go_wp2_with fail
    refine hl2.mono ?_
    clear hl2
    rintro e w5 ⟨rfl, hb5⟩
    have HB5 : Hid (Below w.heap.size w w5) := HBW.out.trans (hb5.mono HBW.out.size)
    clear hb5
    obtain ⟨cap5, w6, kc6, hcap6, hmx6, hrow6, hb6, _⟩ := conv_bytes o w5 (by unfold maxLen; omega)
    have hval := rvalid_row _ o.size cap5 (nums o) w6 (nums_len o) (nums_byt o) hcap6 (by unfold maxLen; omega) (by omega) hrow6
    have HB6 : Hid (Below w.heap.size w w6) := HB5.out.trans (hb6.mono HB5.out.size)
    clear hb6 hrow6
    by_cases hu : nums ss = [117, 116, 102, 45, 56]
    · have HSR : Hid (saidR (nums set) [81] (nums txt) = if validZ (nums o) = true then some (nums o) else none) := by unfold Hid saidR; rw [HX.out]; simp only; unfold setR; rw [← HSS.out, if_pos hu]
      obtain rfl : ss = ⟨#[117, 116, 102, 45, 56]⟩ := nums_inj (hu.trans rfl)
      clear hu
      cases hvz : validZ (nums o) with
      | false =>
        have HSN : Hid (saidR (nums set) [81] (nums txt) = none) := by unfold Hid; rw [HSR.out, hvz]; rfl
        rw [hvz] at hval
        go_wp2_with (go_at_call 22; refine hval.mono ?_; rintro e w7 ⟨rfl, hb7⟩)
        go_ret2
        exact ⟨_, false, rfl, ⟨fun e => (by cases e), fun _ => ⟨HSN.out, rfl⟩⟩, HB6.out.trans (hb7.mono HB6.out.size)⟩
      | true =>
        have HSN : Hid (saidR (nums set) [81] (nums txt) = some (nums o)) := by unfold Hid; rw [HSR.out, hvz]; rfl
        rw [hvz] at hval
        go_wp2_with fail
        refine hval.mono ?_
        clear hval kc6
        rintro e w7 ⟨rfl, hb7⟩
        have HB7 : Hid (Below w.heap.size w w7) := HB6.out.trans (hb7.mono HB6.out.size)
        clear hb7
        go_wp2
        go_loopw [10] (fun i wr => ∃ k : Nat, i = .int .i64 k ∧ k ≤ o.size ∧ w7 = wr) (fun i _ => o.size - (intOf i).toNat)
        case atStart => exact ⟨0, rfl, by omega, rfl⟩
        case round =>
          obtain ⟨k, rfl, hk, rfl⟩ := hrel
          by_cases hlt : k < o.size
          · have hl1 : decide ((k : Int) < (o.size : Int)) = true := decide_eq_true (by omega)
            obtain ⟨c, hc⟩ : ∃ c : Int, ((o[k]'hlt).toNat : Int) = c := ⟨_, rfl⟩
            by_cases hc8 : c ≥ 128
            · have hd : decide (c ≥ 128) = true := decide_eq_true hc8
              go_wp2
              all_goals exact ⟨⟨k + 1, by first | go_num | rfl, by omega, by first | trivial | rfl⟩, by simp [intOf]; omega⟩
            · have hd : decide (c ≥ 128) = false := decide_eq_false hc8
              go_wp2
              all_goals exact ⟨⟨k + 1, by first | go_num | rfl, by omega, by first | trivial | rfl⟩, by simp [intOf]; omega⟩
          · obtain rfl : k = o.size := by omega
            have hl1 : decide ((o.size : Int) < (o.size : Int)) = false := by simp
            go_wp2
            go_ret2
            exact ⟨_, true, rfl, ⟨fun _ => HSN.out, fun e => (by cases e)⟩, HB7.out⟩
    · by_cases ha : nums ss = [117, 115, 45, 97, 115, 99, 105, 105]
      · have HSR : Hid (saidR (nums set) [81] (nums txt) = if (nums o).all (fun c => decide (c < 128)) = true then some (nums o) else none) := by unfold Hid saidR; rw [HX.out]; simp only; unfold setR; rw [← HSS.out, if_neg hu, if_pos ha]
        obtain rfl : ss = ⟨#[117, 115, 45, 97, 115, 99, 105, 105]⟩ := nums_inj (ha.trans rfl)
        clear hu ha
        cases hvz : validZ (nums o) with
        | false =>
          have HSN : Hid (saidR (nums set) [81] (nums txt) = none) := by
            unfold Hid; rw [HSR.out, if_neg]
            intro hh; rw [valid_ascii (nums_byt o) hh] at hvz; cases hvz
          rw [hvz] at hval
          go_wp2_with (go_at_call 22; refine hval.mono ?_; rintro e w7 ⟨rfl, hb7⟩)
          go_ret2
          exact ⟨_, false, rfl, ⟨fun e => (by cases e), fun _ => ⟨HSN.out, rfl⟩⟩, HB6.out.trans (hb7.mono HB6.out.size)⟩
        | true =>
          rw [hvz] at hval
          go_wp2_with fail
          refine hval.mono ?_
          clear hval kc6
          rintro e w7 ⟨rfl, hb7⟩
          have HB7 : Hid (Below w.heap.size w w7) := HB6.out.trans (hb7.mono HB6.out.size)
          clear hb7
          go_wp2
          go_loopw [10] (fun i wr => ∃ k : Nat, i = .int .i64 k ∧ k ≤ o.size ∧ ((nums o).take k).all (fun c => decide (c < 128)) = true ∧ w7 = wr) (fun i _ => o.size - (intOf i).toNat)
          case atStart => exact ⟨0, rfl, by omega, by simp, rfl⟩
          case round =>
            obtain ⟨k, rfl, hk, hal, rfl⟩ := hrel
            have HA : Hid (((nums o).take k).all (fun c => decide (c < 128)) = true) := hal
            clear hal
            by_cases hlt : k < o.size
            · have hl1 : decide ((k : Int) < (o.size : Int)) = true := decide_eq_true (by omega)
              have HN : Hid ((nums o)[k]? = some (o[k].toNat : Int)) := nums_at o k hlt
              obtain ⟨c, hc⟩ : ∃ c : Int, ((o[k]'hlt).toNat : Int) = c := ⟨_, rfl⟩
              rw [hc] at HN
              by_cases hc8 : c ≥ 128
              · have hd : decide (c ≥ 128) = true := decide_eq_true hc8
                have HSN : Hid (saidR (nums set) [81] (nums txt) = none) := by unfold Hid; rw [HSR.out, all_bad _ _ _ _ HN.out (by simp; omega)]; rfl
                go_wp2
                go_ret2
                exact ⟨_, false, rfl, ⟨fun e => (by cases e), fun _ => ⟨HSN.out, rfl⟩⟩, HB7.out⟩
              · have hd : decide (c ≥ 128) = false := decide_eq_false hc8
                have HA2 : Hid (((nums o).take (k + 1)).all (fun c => decide (c < 128)) = true) := by unfold Hid; rw [all_take _ _ _ _ HN.out, HA.out]; simp; omega
                go_wp2
                all_goals exact ⟨⟨k + 1, by first | go_num | rfl, by omega, HA2.out, by first | trivial | rfl⟩, by simp [intOf]; omega⟩
            · obtain rfl : k = o.size := by omega
              have hl1 : decide ((o.size : Int) < (o.size : Int)) = false := by simp
              have HSN : Hid (saidR (nums set) [81] (nums txt) = some (nums o)) := by
                have := HA.out
                rw [List.take_of_length_le (by rw [nums_len]; exact Nat.le_refl _)] at this
                unfold Hid; rw [HSR.out, if_pos this]
              go_wp2
              go_ret2
              exact ⟨_, true, rfl, ⟨fun _ => HSN.out, fun e => (by cases e)⟩, HB7.out⟩
      · have HSN : Hid (saidR (nums set) [81] (nums txt) = none) := by unfold Hid saidR; rw [HX.out]; simp only; unfold setR; rw [← HSS.out, if_neg hu, if_neg ha]; rfl
        obtain ⟨n1, n2⟩ := ne_lit ss ⟨#[117, 116, 102, 45, 56]⟩ hu
        obtain ⟨n3, n4⟩ := ne_lit ss ⟨#[117, 115, 45, 97, 115, 99, 105, 105]⟩ ha
        rw [ByteArray.toList_eq ⟨#[117, 116, 102, 45, 56]⟩] at n1 n2
        rw [ByteArray.toList_eq ⟨#[117, 115, 45, 97, 115, 99, 105, 105]⟩] at n3 n4
        simp only at n1 n2 n3 n4
        have HBZ : Hid (Below w.heap.size w w5) := HB5.out
        clear hu ha hval kc6
        go_wp2
        go_ret2
        exact ⟨_, false, rfl, ⟨fun e => (by cases e), fun _ => ⟨HSN.out, rfl⟩⟩, HBZ.out⟩
set_option maxHeartbeats 16000000 in
set_option maxRecDepth 100000 in
theorem rone_q (s set txt : ByteArray) (w : World) (h75 : s.size ≤ 75) (hp : pieces 63 (nums s) = [[61], nums set, [113], nums txt, [61]]) (h32 : (32 : Int) ∉ nums s) (hsz : set.size ≤ 75) (htz : txt.size ≤ 75) :
    Calls Tryd.prog 15 #[.string s] w fun e w' => ∃ x b, e = .returned (.tuple #[.string x, .bool b]) ∧ OAns b x (saidR (nums set) [113] (nums txt)) ∧ Below w.heap.size w w' := by
  have hparts := rparts_any s 63 w (by omega)
  have hhas := fun V => has_any s ⟨#[32]⟩ V (by omega) (by decide) (by decide)
  rw [show nums (⟨#[32]⟩ : ByteArray) = [32] from rfl, has_one, decide_eq_false h32] at hhas
  have hlow := fun V => lower_any set V (by omega)
  have hss : nums (strOfNums ((nums set).map smallZ)) = (nums set).map smallZ := nums_str (map_small_byt (nums_byt set))
  generalize strOfNums ((nums set).map smallZ) = ss at hlow hss
  have HSS : Hid (nums ss = (nums set).map smallZ) := hss
  have hd75 : decide ((s.size : Int) > 75) = false := decide_eq_false (by omega)
  clear hss h32
  go_enter Tryd.func15, Tryd.ntmps15
  go_wp2_with fail
  refine hparts.mono ?_
  clear hparts
  rintro e w1 ⟨v, xs, rfl, hown, hxp, hb1⟩
  obtain rfl : xs = [⟨#[61]⟩, set, ⟨#[113]⟩, txt, ⟨#[61]⟩] := map_nums_inj (hxp.trans hp)
  obtain ⟨a, cap, rfl, hcap, hr⟩ := ownS_view hown
  rcases hr with h | ⟨g, rfl, hg, hcells⟩
  · cases h
  have q0 : w1.cell? ⟨g, 0, none⟩ = some (.string ⟨#[61]⟩) := hcells 0 _ rfl
  have q1 : w1.cell? ⟨g, 1, none⟩ = some (.string set) := hcells 1 _ rfl
  have q2 : w1.cell? ⟨g, 2, none⟩ = some (.string ⟨#[113]⟩) := hcells 2 _ rfl
  have q3 : w1.cell? ⟨g, 3, none⟩ = some (.string txt) := hcells 3 _ rfl
  have q4 : w1.cell? ⟨g, 4, none⟩ = some (.string ⟨#[61]⟩) := hcells 4 _ rfl
  have HB1 : Hid (Below w.heap.size w w1) := hb1
  simp only [List.length_cons, List.length_nil, Nat.zero_add, Nat.reduceAdd] at hcap ⊢
  clear hcells hown hxp hp hb1
  have hsh := short_any txt w1 (by omega)
  go_wp2_with (go_at_call 28; refine (hhas _).mono ?_; rintro e w' ⟨rfl, rfl⟩)
  refine hsh.mono ?_
  clear hsh hhas
  rintro e W ⟨o, b, rfl, hans, hb2⟩
  have HBW : Hid (Below w.heap.size w W) := HB1.out.trans (hb2.mono HB1.out.size)
  have r3 := cell_keep hb2 q1
  clear q0 q1 q2 q3 q4 hb2 HB1
  cases b with
  | false =>
    have HSN : Hid (saidR (nums set) [113] (nums txt) = none) := by unfold Hid saidR contR; rw [if_neg (by simp), if_pos (by simp), (hans.2 rfl).1]
    have hl2 := hlow W
    go_wp2_with (go_at_call 37; refine hl2.mono ?_; rintro e w5 ⟨rfl, hb5⟩)
    go_ret2
    exact ⟨_, false, rfl, ⟨fun e => (by cases e), fun _ => ⟨HSN.out, rfl⟩⟩, HBW.out.trans (hb5.mono HBW.out.size)⟩
  | true =>
    have hm := hans.1 rfl
    have hoz : o.size ≤ 225 := by have := mark_len _ _ _ hm; rw [nums_len, nums_len] at this; omega
    have HX : Hid (contR [113] (nums txt) = some (nums o)) := by unfold Hid contR; rw [if_neg (by simp), if_pos (by simp)]; exact hm
    clear hans hm
    have hl2 := hlow W
    go_wp2_with fail
    refine hl2.mono ?_
    clear hl2
    rintro e w5 ⟨rfl, hb5⟩
    have HB5 : Hid (Below w.heap.size w w5) := HBW.out.trans (hb5.mono HBW.out.size)
    clear hb5
    obtain ⟨cap5, w6, kc6, hcap6, hmx6, hrow6, hb6, _⟩ := conv_bytes o w5 (by unfold maxLen; omega)
    have hval := rvalid_row _ o.size cap5 (nums o) w6 (nums_len o) (nums_byt o) hcap6 (by unfold maxLen; omega) (by omega) hrow6
    have HB6 : Hid (Below w.heap.size w w6) := HB5.out.trans (hb6.mono HB5.out.size)
    clear hb6 hrow6
    by_cases hu : nums ss = [117, 116, 102, 45, 56]
    · have HSR : Hid (saidR (nums set) [113] (nums txt) = if validZ (nums o) = true then some (nums o) else none) := by unfold Hid saidR; rw [HX.out]; simp only; unfold setR; rw [← HSS.out, if_pos hu]
      obtain rfl : ss = ⟨#[117, 116, 102, 45, 56]⟩ := nums_inj (hu.trans rfl)
      clear hu
      cases hvz : validZ (nums o) with
      | false =>
        have HSN : Hid (saidR (nums set) [113] (nums txt) = none) := by unfold Hid; rw [HSR.out, hvz]; rfl
        rw [hvz] at hval
        go_wp2_with (go_at_call 22; refine hval.mono ?_; rintro e w7 ⟨rfl, hb7⟩)
        go_ret2
        exact ⟨_, false, rfl, ⟨fun e => (by cases e), fun _ => ⟨HSN.out, rfl⟩⟩, HB6.out.trans (hb7.mono HB6.out.size)⟩
      | true =>
        have HSN : Hid (saidR (nums set) [113] (nums txt) = some (nums o)) := by unfold Hid; rw [HSR.out, hvz]; rfl
        rw [hvz] at hval
        go_wp2_with fail
        refine hval.mono ?_
        clear hval kc6
        rintro e w7 ⟨rfl, hb7⟩
        have HB7 : Hid (Below w.heap.size w w7) := HB6.out.trans (hb7.mono HB6.out.size)
        clear hb7
        go_wp2
        go_loopw [10] (fun i wr => ∃ k : Nat, i = .int .i64 k ∧ k ≤ o.size ∧ w7 = wr) (fun i _ => o.size - (intOf i).toNat)
        case atStart => exact ⟨0, rfl, by omega, rfl⟩
        case round =>
          obtain ⟨k, rfl, hk, rfl⟩ := hrel
          by_cases hlt : k < o.size
          · have hl1 : decide ((k : Int) < (o.size : Int)) = true := decide_eq_true (by omega)
            obtain ⟨c, hc⟩ : ∃ c : Int, ((o[k]'hlt).toNat : Int) = c := ⟨_, rfl⟩
            by_cases hc8 : c ≥ 128
            · have hd : decide (c ≥ 128) = true := decide_eq_true hc8
              go_wp2
              all_goals exact ⟨⟨k + 1, by first | go_num | rfl, by omega, by first | trivial | rfl⟩, by simp [intOf]; omega⟩
            · have hd : decide (c ≥ 128) = false := decide_eq_false hc8
              go_wp2
              all_goals exact ⟨⟨k + 1, by first | go_num | rfl, by omega, by first | trivial | rfl⟩, by simp [intOf]; omega⟩
          · obtain rfl : k = o.size := by omega
            have hl1 : decide ((o.size : Int) < (o.size : Int)) = false := by simp
            go_wp2
            go_ret2
            exact ⟨_, true, rfl, ⟨fun _ => HSN.out, fun e => (by cases e)⟩, HB7.out⟩
    · by_cases ha : nums ss = [117, 115, 45, 97, 115, 99, 105, 105]
      · have HSR : Hid (saidR (nums set) [113] (nums txt) = if (nums o).all (fun c => decide (c < 128)) = true then some (nums o) else none) := by unfold Hid saidR; rw [HX.out]; simp only; unfold setR; rw [← HSS.out, if_neg hu, if_pos ha]
        obtain rfl : ss = ⟨#[117, 115, 45, 97, 115, 99, 105, 105]⟩ := nums_inj (ha.trans rfl)
        clear hu ha
        cases hvz : validZ (nums o) with
        | false =>
          have HSN : Hid (saidR (nums set) [113] (nums txt) = none) := by
            unfold Hid; rw [HSR.out, if_neg]
            intro hh; rw [valid_ascii (nums_byt o) hh] at hvz; cases hvz
          rw [hvz] at hval
          go_wp2_with (go_at_call 22; refine hval.mono ?_; rintro e w7 ⟨rfl, hb7⟩)
          go_ret2
          exact ⟨_, false, rfl, ⟨fun e => (by cases e), fun _ => ⟨HSN.out, rfl⟩⟩, HB6.out.trans (hb7.mono HB6.out.size)⟩
        | true =>
          rw [hvz] at hval
          go_wp2_with fail
          refine hval.mono ?_
          clear hval kc6
          rintro e w7 ⟨rfl, hb7⟩
          have HB7 : Hid (Below w.heap.size w w7) := HB6.out.trans (hb7.mono HB6.out.size)
          clear hb7
          go_wp2
          go_loopw [10] (fun i wr => ∃ k : Nat, i = .int .i64 k ∧ k ≤ o.size ∧ ((nums o).take k).all (fun c => decide (c < 128)) = true ∧ w7 = wr) (fun i _ => o.size - (intOf i).toNat)
          case atStart => exact ⟨0, rfl, by omega, by simp, rfl⟩
          case round =>
            obtain ⟨k, rfl, hk, hal, rfl⟩ := hrel
            have HA : Hid (((nums o).take k).all (fun c => decide (c < 128)) = true) := hal
            clear hal
            by_cases hlt : k < o.size
            · have hl1 : decide ((k : Int) < (o.size : Int)) = true := decide_eq_true (by omega)
              have HN : Hid ((nums o)[k]? = some (o[k].toNat : Int)) := nums_at o k hlt
              obtain ⟨c, hc⟩ : ∃ c : Int, ((o[k]'hlt).toNat : Int) = c := ⟨_, rfl⟩
              rw [hc] at HN
              by_cases hc8 : c ≥ 128
              · have hd : decide (c ≥ 128) = true := decide_eq_true hc8
                have HSN : Hid (saidR (nums set) [113] (nums txt) = none) := by unfold Hid; rw [HSR.out, all_bad _ _ _ _ HN.out (by simp; omega)]; rfl
                go_wp2
                go_ret2
                exact ⟨_, false, rfl, ⟨fun e => (by cases e), fun _ => ⟨HSN.out, rfl⟩⟩, HB7.out⟩
              · have hd : decide (c ≥ 128) = false := decide_eq_false hc8
                have HA2 : Hid (((nums o).take (k + 1)).all (fun c => decide (c < 128)) = true) := by unfold Hid; rw [all_take _ _ _ _ HN.out, HA.out]; simp; omega
                go_wp2
                all_goals exact ⟨⟨k + 1, by first | go_num | rfl, by omega, HA2.out, by first | trivial | rfl⟩, by simp [intOf]; omega⟩
            · obtain rfl : k = o.size := by omega
              have hl1 : decide ((o.size : Int) < (o.size : Int)) = false := by simp
              have HSN : Hid (saidR (nums set) [113] (nums txt) = some (nums o)) := by
                have := HA.out
                rw [List.take_of_length_le (by rw [nums_len]; exact Nat.le_refl _)] at this
                unfold Hid; rw [HSR.out, if_pos this]
              go_wp2
              go_ret2
              exact ⟨_, true, rfl, ⟨fun _ => HSN.out, fun e => (by cases e)⟩, HB7.out⟩
      · have HSN : Hid (saidR (nums set) [113] (nums txt) = none) := by unfold Hid saidR; rw [HX.out]; simp only; unfold setR; rw [← HSS.out, if_neg hu, if_neg ha]; rfl
        obtain ⟨n1, n2⟩ := ne_lit ss ⟨#[117, 116, 102, 45, 56]⟩ hu
        obtain ⟨n3, n4⟩ := ne_lit ss ⟨#[117, 115, 45, 97, 115, 99, 105, 105]⟩ ha
        rw [ByteArray.toList_eq ⟨#[117, 116, 102, 45, 56]⟩] at n1 n2
        rw [ByteArray.toList_eq ⟨#[117, 115, 45, 97, 115, 99, 105, 105]⟩] at n3 n4
        simp only at n1 n2 n3 n4
        have HBZ : Hid (Below w.heap.size w w5) := HB5.out
        clear hu ha hval kc6
        go_wp2
        go_ret2
        exact ⟨_, false, rfl, ⟨fun e => (by cases e), fun _ => ⟨HSN.out, rfl⟩⟩, HBZ.out⟩
end Go.Proofs.YtnhbmekhmkkccaaDoor
namespace Go.Proofs.YtnhbmekhmkkccaaDoor
open Go.RowKit
set_option linter.unusedVariables false

set_option maxHeartbeats 8000000 in
set_option maxRecDepth 100000 in
theorem rone_else (s set way txt : ByteArray) (w : World) (h75 : s.size ≤ 75) (hp : pieces 63 (nums s) = [[61], nums set, nums way, nums txt, [61]]) (h32 : (32 : Int) ∉ nums s) (hsz : set.size ≤ 75) (hB : nums way ≠ [66]) (hb : nums way ≠ [98]) (hQ : nums way ≠ [81]) (hq : nums way ≠ [113]) :
    Calls Tryd.prog 15 #[.string s] w fun e w' => ∃ x b, e = .returned (.tuple #[.string x, .bool b]) ∧ OAns b x (saidR (nums set) (nums way) (nums txt)) ∧ Below w.heap.size w w' := by
  have hparts := rparts_any s 63 w (by omega)
  have hhas := fun V => has_any s ⟨#[32]⟩ V (by omega) (by decide) (by decide)
  rw [show nums (⟨#[32]⟩ : ByteArray) = [32] from rfl, has_one, decide_eq_false h32] at hhas
  have hlow := fun V => lower_any set V (by omega)
  generalize strOfNums ((nums set).map smallZ) = ss at hlow
  have hd75 : decide ((s.size : Int) > 75) = false := decide_eq_false (by omega)
  have HSN : Hid (saidR (nums set) (nums way) (nums txt) = none) := by
    unfold Hid saidR contR; rw [if_neg (by simp [hB, hb]), if_neg (by simp [hQ, hq])]
  obtain ⟨n1, m1⟩ := ne_lit way ⟨#[66]⟩ hB
  obtain ⟨n2, m2⟩ := ne_lit way ⟨#[98]⟩ hb
  obtain ⟨n3, m3⟩ := ne_lit way ⟨#[81]⟩ hQ
  obtain ⟨n4, m4⟩ := ne_lit way ⟨#[113]⟩ hq
  rw [ByteArray.toList_eq ⟨#[66]⟩] at n1 m1
  rw [ByteArray.toList_eq ⟨#[98]⟩] at n2 m2
  rw [ByteArray.toList_eq ⟨#[81]⟩] at n3 m3
  rw [ByteArray.toList_eq ⟨#[113]⟩] at n4 m4
  simp only at n1 n2 n3 n4 m1 m2 m3 m4
  clear h32 hB hb hQ hq
  go_enter Tryd.func15, Tryd.ntmps15
  go_wp2_with fail
  refine hparts.mono ?_
  clear hparts
  rintro e w1 ⟨v, xs, rfl, hown, hxp, hb1⟩
  obtain rfl : xs = [⟨#[61]⟩, set, way, txt, ⟨#[61]⟩] := map_nums_inj (hxp.trans hp)
  obtain ⟨a, cap, rfl, hcap, hr⟩ := ownS_view hown
  rcases hr with h | ⟨g, rfl, hg, hcells⟩
  · cases h
  have q0 : w1.cell? ⟨g, 0, none⟩ = some (.string ⟨#[61]⟩) := hcells 0 _ rfl
  have q1 : w1.cell? ⟨g, 1, none⟩ = some (.string set) := hcells 1 _ rfl
  have q2 : w1.cell? ⟨g, 2, none⟩ = some (.string way) := hcells 2 _ rfl
  have q4 : w1.cell? ⟨g, 4, none⟩ = some (.string ⟨#[61]⟩) := hcells 4 _ rfl
  have HB1 : Hid (Below w.heap.size w w1) := hb1
  simp only [List.length_cons, List.length_nil, Nat.zero_add, Nat.reduceAdd] at hcap ⊢
  clear hcells hown hxp hp hb1
  have hl2 := hlow w1
  go_wp2_with (first
    | (go_at_call 28; refine (hhas _).mono ?_; rintro e w' ⟨rfl, rfl⟩)
    | (go_at_call 37; refine hl2.mono ?_; rintro e w5 ⟨rfl, hb5⟩))
  go_ret2
  exact ⟨_, false, rfl, ⟨fun e => (by cases e), fun _ => ⟨HSN.out, rfl⟩⟩, HB1.out.trans (hb5.mono HB1.out.size)⟩
theorem OAns.none {x : Option (List Int)} (h : x = Option.none) : OAns false ⟨#[]⟩ x := ⟨fun e => (by cases e), fun _ => ⟨h, rfl⟩⟩
set_option maxHeartbeats 8000000 in
set_option maxRecDepth 100000 in
theorem rone_bad (s : ByteArray) (w : World) (hs : s.size ≤ 100000) (hn : oneR (nums s) = none)
    (hbad : 75 < s.size ∨ (s.size ≤ 75 ∧ (pieces 63 (nums s)).length ≠ 5) ∨ (s.size ≤ 75 ∧ ∃ p0 p1 p2 p3 p4 : List Int, pieces 63 (nums s) = [p0, p1, p2, p3, p4] ∧ (p0 ≠ [61] ∨ (p0 = [61] ∧ p4 ≠ [61]) ∨ (p0 = [61] ∧ p4 = [61] ∧ (32 : Int) ∈ nums s)))) :
    Calls Tryd.prog 15 #[.string s] w fun e w' => ∃ x b, e = .returned (.tuple #[.string x, .bool b]) ∧ OAns b x (oneR (nums s)) ∧ Below w.heap.size w w' := by
  have hparts := rparts_any s 63 w (by omega)
  have HN : Hid (oneR (nums s) = none) := hn
  clear hn
  rcases hbad with h75 | ⟨h75, h5⟩ | ⟨h75, p0, p1, p2, p3, p4, hp, hc⟩
  · have hd75 : decide ((s.size : Int) > 75) = true := decide_eq_true (by omega)
    go_enter Tryd.func15, Tryd.ntmps15
    go_wp2_with fail
    refine hparts.mono ?_
    clear hparts
    rintro e w1 ⟨v, xs, rfl, hown, hxp, hb1⟩
    have HB1 : Hid (Below w.heap.size w w1) := hb1
    clear hb1 hown hxp
    go_wp2
    go_ret2
    exact ⟨_, false, rfl, OAns.none HN.out, HB1.out⟩
  · have hd75 : decide ((s.size : Int) > 75) = false := decide_eq_false (by omega)
    go_enter Tryd.func15, Tryd.ntmps15
    go_wp2_with fail
    refine hparts.mono ?_
    clear hparts
    rintro e w1 ⟨v, xs, rfl, hown, hxp, hb1⟩
    obtain ⟨a, cap, rfl, hcap, hr⟩ := ownS_view hown
    have HB1 : Hid (Below w.heap.size w w1) := hb1
    have hx5 : xs.length ≠ 5 := by rw [← hxp, List.length_map] at h5; exact h5
    obtain ⟨n, hn⟩ : ∃ n, xs.length = n := ⟨_, rfl⟩
    rw [hn] at hx5 ⊢
    have hb5 : ((n : Int) != 5) = true := by simp; omega
    clear hb1 hown hxp h5 hr hcap hn
    go_wp2
    go_ret2
    exact ⟨_, false, rfl, OAns.none HN.out, HB1.out⟩
  · have hd75 : decide ((s.size : Int) > 75) = false := decide_eq_false (by omega)
    have hhas := fun V => has_any s ⟨#[32]⟩ V (by omega) (by decide) (by decide)
    rw [show nums (⟨#[32]⟩ : ByteArray) = [32] from rfl, has_one] at hhas
    go_enter Tryd.func15, Tryd.ntmps15
    go_wp2_with fail
    refine hparts.mono ?_
    clear hparts
    rintro e w1 ⟨v, xs, rfl, hown, hxp, hb1⟩
    rw [hp] at hxp
    obtain ⟨x0, x1, x2, x3, x4, rfl⟩ : ∃ x0 x1 x2 x3 x4, xs = [x0, x1, x2, x3, x4] := by
      have hl := congrArg List.length hxp
      rw [List.length_map] at hl
      match xs, hl with
      | [a, b, c, d, e], _ => exact ⟨a, b, c, d, e, rfl⟩
    simp only [List.map_cons, List.map_nil, List.cons.injEq, and_true] at hxp
    obtain ⟨rfl, rfl, rfl, rfl, rfl⟩ := hxp
    obtain ⟨a, cap, rfl, hcap, hr⟩ := ownS_view hown
    rcases hr with h | ⟨g, rfl, hg, hcells⟩
    · cases h
    have q0 : w1.cell? ⟨g, 0, none⟩ = some (.string x0) := hcells 0 _ rfl
    have q4 : w1.cell? ⟨g, 4, none⟩ = some (.string x4) := hcells 4 _ rfl
    have HB1 : Hid (Below w.heap.size w w1) := hb1
    simp only [List.length_cons, List.length_nil, Nat.zero_add, Nat.reduceAdd] at hcap ⊢
    clear hcells hown hp hb1
    rcases hc with h0 | ⟨h0, h4⟩ | ⟨h0, h4, h32⟩
    · obtain ⟨n1, m1⟩ := ne_lit x0 ⟨#[61]⟩ h0
      rw [ByteArray.toList_eq ⟨#[61]⟩] at n1 m1
      simp only at n1 m1
      clear h0
      go_wp2
      go_ret2
      exact ⟨_, false, rfl, OAns.none HN.out, HB1.out⟩
    · obtain rfl : x0 = ⟨#[61]⟩ := nums_inj (h0.trans rfl)
      obtain ⟨n1, m1⟩ := ne_lit x4 ⟨#[61]⟩ h4
      rw [ByteArray.toList_eq ⟨#[61]⟩] at n1 m1
      simp only at n1 m1
      clear h0 h4
      go_wp2
      go_ret2
      exact ⟨_, false, rfl, OAns.none HN.out, HB1.out⟩
    · obtain rfl : x0 = ⟨#[61]⟩ := nums_inj (h0.trans rfl)
      obtain rfl : x4 = ⟨#[61]⟩ := nums_inj (h4.trans rfl)
      rw [decide_eq_true h32] at hhas
      clear h0 h4 h32
      go_wp2_with (go_at_call 28; refine (hhas _).mono ?_; rintro e w' ⟨rfl, rfl⟩)
      go_ret2
      exact ⟨_, false, rfl, OAns.none HN.out, HB1.out⟩
theorem rone_any (s : ByteArray) (w : World) (hs : s.size ≤ 100000) :
    Calls Tryd.prog 15 #[.string s] w fun e w' => ∃ x b, e = .returned (.tuple #[.string x, .bool b]) ∧ OAns b x (oneR (nums s)) ∧ Below w.heap.size w w' := by
  by_cases h75 : 75 < s.size
  · refine rone_bad s w hs ?_ (.inl h75)
    unfold oneR; rw [if_pos (by rw [nums_len]; exact h75)]
  have h75' : s.size ≤ 75 := by omega
  by_cases h5 : (pieces 63 (nums s)).length = 5
  case neg =>
    refine rone_bad s w hs ?_ (.inr (.inl ⟨h75', h5⟩))
    cases ho : oneR (nums s) with
    | none => rfl
    | some x => obtain ⟨_, _, _, h, _⟩ := one_shape ho; rw [h] at h5; exact absurd rfl h5
  obtain ⟨p0, p1, p2, p3, p4, hp⟩ : ∃ p0 p1 p2 p3 p4, pieces 63 (nums s) = [p0, p1, p2, p3, p4] := by
    match h : pieces 63 (nums s), h5 with
    | [a, b, c, d, e], _ => exact ⟨a, b, c, d, e, rfl⟩
  by_cases h0 : p0 = [61]
  case neg =>
    refine rone_bad s w hs ?_ (.inr (.inr ⟨h75', p0, p1, p2, p3, p4, hp, .inl h0⟩))
    cases ho : oneR (nums s) with
    | none => rfl
    | some x => obtain ⟨_, _, _, h, _⟩ := one_shape ho; rw [hp] at h; simp at h; exact absurd h.1 h0
  by_cases h4 : p4 = [61]
  case neg =>
    refine rone_bad s w hs ?_ (.inr (.inr ⟨h75', p0, p1, p2, p3, p4, hp, .inr (.inl ⟨h0, h4⟩)⟩))
    cases ho : oneR (nums s) with
    | none => rfl
    | some x => obtain ⟨_, _, _, h, _⟩ := one_shape ho; rw [hp] at h; simp at h; exact absurd h.2.2.2.2 h4
  by_cases h32 : (32 : Int) ∈ nums s
  · exact rone_bad s w hs (one_blank (nums_byt s) h32) (.inr (.inr ⟨h75', p0, p1, p2, p3, p4, hp, .inr (.inr ⟨h0, h4, h32⟩)⟩))
  subst h0
  subst h4
  rw [one_parts (by rw [nums_len]; exact h75) hp]
  have hpc : ∀ p ∈ pieces 63 (nums s), Byt p ∧ p.length ≤ 75 := by
    intro p hpm
    obtain ⟨x, y, e⟩ := piece_in _ p hpm
    refine ⟨fun z hz => nums_byt s z (by rw [e]; simp [hz]), ?_⟩
    have := piece_len _ p hpm
    rw [nums_len] at this; omega
  rw [hp] at hpc
  obtain ⟨b1, l1⟩ := hpc p1 (by simp)
  obtain ⟨b2, l2⟩ := hpc p2 (by simp)
  obtain ⟨b3, l3⟩ := hpc p3 (by simp)
  obtain ⟨set, rfl⟩ : ∃ set : ByteArray, nums set = p1 := ⟨strOfNums p1, nums_str b1⟩
  obtain ⟨way, rfl⟩ : ∃ way : ByteArray, nums way = p2 := ⟨strOfNums p2, nums_str b2⟩
  obtain ⟨txt, rfl⟩ : ∃ txt : ByteArray, nums txt = p3 := ⟨strOfNums p3, nums_str b3⟩
  rw [nums_len] at l1 l3
  by_cases wB : nums way = [66]
  · rw [wB] at hp ⊢; exact rone_B s set txt w h75' hp h32 l1 l3
  by_cases wb : nums way = [98]
  · rw [wb] at hp ⊢; exact rone_b s set txt w h75' hp h32 l1 l3
  by_cases wQ : nums way = [81]
  · rw [wQ] at hp ⊢; exact rone_Q s set txt w h75' hp h32 l1 l3
  by_cases wq : nums way = [113]
  · rw [wq] at hp ⊢; exact rone_q s set txt w h75' hp h32 l1 l3
  exact rone_else s set way txt w h75' hp h32 l1 wB wb wQ wq
end Go.Proofs.YtnhbmekhmkkccaaDoor
namespace Go.Proofs.YtnhbmekhmkkccaaDoor
open Go.RowKit
set_option linter.unusedVariables false

/-- Was the part ahead a word? -/
def wasB (P : List (List Int)) : Nat → Bool
  | 0 => false
  | k + 1 => (oneR (P.getD k [])).isSome
set_option maxHeartbeats 8000000 in
set_option maxRecDepth 100000 in
theorem rdecode_any (s : ByteArray) (w : World) (hs : s.size ≤ 2000) :
    Calls Tryd.prog 17 #[.string s] w fun e w' => e = .returned (.string (strOfNums (decodeL (nums s)))) ∧ Below w.heap.size w w' := by
  have hparts := rparts_any s 32 w (by omega)
  go_enter Tryd.func17, Tryd.ntmps17
  go_wp2_with fail
  refine hparts.mono ?_
  clear hparts
  rintro e w1 ⟨v, xs, rfl, hown, hxp, hb1⟩
  obtain ⟨a, cap, rfl, hcap, hr⟩ := ownS_view hown
  have HB1 : Hid (Below w.heap.size w w1) := hb1
  have HXP : Hid (xs.map nums = pieces 32 (nums s)) := hxp
  have hcnt := pieces_count (c := 32) (nums s)
  rw [nums_len, ← hxp, List.length_map] at hcnt
  have HXZ : Hid (∀ (k : Nat) (x : ByteArray), xs[k]? = some x → x.size ≤ 2000) := fun k x hx => by
    have := piece_len (c := 32) (nums s) (nums x) (by rw [← hxp]; exact List.mem_map_of_mem (List.mem_of_getElem? hx))
    rw [nums_len, nums_len] at this; omega
  have HR : Hid (xs = [] ∨ ∃ g, a = some ⟨g, 0, none⟩ ∧ g < w1.heap.size ∧ ∀ i x, xs[i]? = some x → w1.cell? ⟨g, i, none⟩ = some (.string x)) := hr
  obtain ⟨n, hn⟩ : ∃ n, xs.length = n := ⟨_, rfl⟩
  have HN : Hid (xs.length = n) := hn
  rw [hn] at hcap hcnt ⊢
  clear hown hxp hb1 hr hn
  go_wp2
  go_loopw [4, 5, 6, 7, 8, 9] (fun vo vi _ _ _ _ wr => ∃ (k : Nat) (o : ByteArray), vi = .int .i64 k ∧ vo = .string o ∧ k ≤ n ∧ o.size ≤ 2301 * k ∧ nums o ++ decP (decide (k = 0)) (wasB (pieces 32 (nums s)) k) ((pieces 32 (nums s)).drop k) = decodeL (nums s) ∧ Below w1.heap.size w1 wr) (fun _ vi _ _ _ _ _ => n - (intOf vi).toNat)
  case atStart => exact ⟨0, ⟨#[]⟩, rfl, rfl, by omega, by decide, rfl, Below.refl _ _⟩
  case round =>
    obtain ⟨k, o, rfl, rfl, hk, hoz, hdc, hb⟩ := hrel
    have HDC : Hid (nums o ++ decP (decide (k = 0)) (wasB (pieces 32 (nums s)) k) ((pieces 32 (nums s)).drop k) = decodeL (nums s)) := hdc
    have HW : Hid (Below w1.heap.size w1 wr) := hb
    have hsz := hb.size
    clear hdc hb
    by_cases hlt : k < n
    · have hl1 : decide ((k : Int) < (n : Int)) = true := decide_eq_true (by omega)
      obtain ⟨x, hx⟩ : ∃ x, xs[k]? = some x := ⟨_, List.getElem?_eq_getElem (by rw [HN.out]; exact hlt)⟩
      have hxz := HXZ.out k x hx
      have HP : Hid ((pieces 32 (nums s))[k]? = some (nums x)) := by unfold Hid; rw [← HXP.out, List.getElem?_map, hx]; rfl
      have HW2 : Hid (wasB (pieces 32 (nums s)) (k + 1) = (oneR (nums x)).isSome) := by
        show (oneR ((pieces 32 (nums s)).getD k [])).isSome = _
        rw [List.getD_eq_getElem?_getD, HP.out]; rfl
      rcases HR.out with h | ⟨g, rfl, hg, hcells⟩
      · rw [h] at hx; simp at hx
      have hck : wr.cell? ⟨g, k, none⟩ = some (.string x) := cell_keep HW.out (hcells k x hx)
      have hone := rone_any x wr (by omega)
      have m0 : (0 : Int) ≤ (k : Int) := by omega
      have m1 : (k : Int) < (n : Int) := by omega
      have HCE : Hid (∀ i x, xs[i]? = some x → w1.cell? ⟨g, i, none⟩ = some (.string x)) := hcells
      have HX : Hid (xs[k]? = some x) := hx
      have HSTEP : Hid (decodeL (nums s) = nums o ++ ((if decide (k = 0) = false ∧ (wasB (pieces 32 (nums s)) k && (oneR (nums x)).isSome) = false then [32] else []) ++ (oneR (nums x)).getD (nums x) ++ decP false (oneR (nums x)).isSome ((pieces 32 (nums s)).drop (k + 1)))) := by
        unfold Hid; rw [← HDC.out, dec_step _ _ HP.out]
      clear hcells hx HDC HP
      go_wp2_with fail
      refine hone.mono ?_
      clear hone
      rintro e wa ⟨tx, ok, rfl, hans, hba⟩
      have HBa : Hid (Below w1.heap.size w1 wa) := HW.out.trans (hba.mono hsz)
      have hsza := HBa.out.size
      have hcka : wa.cell? ⟨g, k, none⟩ = some (.string x) := cell_keep hba hck
      clear hba hck
      have htz : ok = true → tx.size ≤ 300 := fun e => by have := one_len (hans.1 e); rwa [nums_len] at this
      have HANS : Hid (OAns ok tx (oneR (nums x))) := hans
      clear hans
      by_cases hk0 : k = 0
      · subst hk0
        have m2 : (0 : Int) < (n : Int) := by omega
        have m3 : decide ((0 : Int) < (n : Int)) = true := decide_eq_true m2
        clear m0 m1 hl1
        rcases ok with _ | _
        · have hr := (HANS.out.2 rfl).1
          have HD2 : Hid (nums (o ++ x) ++ decP (decide (0 + 1 = 0)) (wasB (pieces 32 (nums s)) (0 + 1)) ((pieces 32 (nums s)).drop (0 + 1)) = decodeL (nums s)) := by
            unfold Hid; rw [HSTEP.out, HW2.out, hr]
            rw [nums_append]
            simp [nums]
          have HZ : Hid ((o ++ x).size ≤ 2301 * (0 + 1)) := by
            unfold Hid; simp only [ByteArray.size_append]; omega
          have z1 : ¬ 9223372036854775807 < o.size + x.size := by omega
          clear hr htz
          go_wp2
          all_goals exact ⟨⟨0 + 1, _, by first | go_num | rfl, rfl, by omega, HZ.out, HD2.out, HBa.out⟩, by simp [intOf]; omega⟩
        · have htz2 := htz rfl
          have hr := HANS.out.1 rfl
          have HD2 : Hid (nums (o ++ tx) ++ decP (decide (0 + 1 = 0)) (wasB (pieces 32 (nums s)) (0 + 1)) ((pieces 32 (nums s)).drop (0 + 1)) = decodeL (nums s)) := by
            unfold Hid; rw [HSTEP.out, HW2.out, hr]
            rw [nums_append]
            simp [nums]
          have HZ : Hid ((o ++ tx).size ≤ 2301 * (0 + 1)) := by
            unfold Hid; simp only [ByteArray.size_append]; omega
          have z1 : ¬ 9223372036854775807 < o.size + tx.size := by omega
          clear hr htz
          go_wp2
          all_goals exact ⟨⟨0 + 1, _, by first | go_num | rfl, rfl, by omega, HZ.out, HD2.out, HBa.out⟩, by simp [intOf]; omega⟩
      · have hd0 : decide ((k : Int) > 0) = true := decide_eq_true (by omega)
        obtain ⟨y, hy⟩ : ∃ y, xs[k - 1]? = some y := ⟨_, List.getElem?_eq_getElem (by rw [HN.out]; omega)⟩
        have hyz := HXZ.out (k - 1) y hy
        have hcy : wa.cell? ⟨g, k - 1, none⟩ = some (.string y) := cell_keep HBa.out (HCE.out (k - 1) y hy)
        have HWK : Hid (wasB (pieces 32 (nums s)) k = (oneR (nums y)).isSome) := by
          obtain ⟨q, rfl⟩ : ∃ q, k = q + 1 := ⟨k - 1, by omega⟩
          show (oneR ((pieces 32 (nums s)).getD q [])).isSome = _
          rw [List.getD_eq_getElem?_getD, ← HXP.out, List.getElem?_map, show xs[q]? = some y from hy]; rfl
        have hone2 := rone_any y wa (by omega)
        have i0 : (0 : Int) ≤ (k : Int) - 1 := by omega
        have i1 : (k : Int) - 1 < (n : Int) := by omega
        have i2 : ((k : Int) - 1).toNat = k - 1 := by omega
        clear hy
        go_wp2_with fail
        refine hone2.mono ?_
        clear hone2
        rintro e wb ⟨ty, was, rfl, hans2, hbb⟩
        have HBb : Hid (Below w1.heap.size w1 wb) := HBa.out.trans (hbb.mono hsza)
        have hckb : wb.cell? ⟨g, k, none⟩ = some (.string x) := cell_keep hbb hcka
        have HANS2 : Hid (OAns was ty (oneR (nums y))) := hans2
        clear hans2 hbb hcka hcy
        rcases was with _ | _
        · rcases ok with _ | _
          · have hr := (HANS.out.2 rfl).1
            have hw : wasB (pieces 32 (nums s)) k = false := by rw [HWK.out, (HANS2.out.2 rfl).1]; rfl
            have HD2 : Hid (nums (o ++ ⟨#[32]⟩ ++ x) ++ decP (decide (k + 1 = 0)) (wasB (pieces 32 (nums s)) (k + 1)) ((pieces 32 (nums s)).drop (k + 1)) = decodeL (nums s)) := by
              unfold Hid; rw [HSTEP.out, HW2.out, hr, decide_eq_false hk0, hw]
              rw [nums_append, nums_append]
              simp [nums]
            have HZ : Hid ((o ++ ⟨#[32]⟩ ++ x).size ≤ 2301 * (k + 1)) := by
              unfold Hid; simp only [ByteArray.size_append, show (⟨#[32]⟩ : ByteArray).size = 1 from rfl]; omega
            have z0 : ¬ 9223372036854775807 < o.size + 1 := by omega
            have z1 : ¬ 9223372036854775807 < o.size + 1 + x.size := by omega
            clear hr htz hw
            go_wp2
            all_goals exact ⟨⟨k + 1, _, by first | go_num | rfl, rfl, by omega, HZ.out, HD2.out, HBb.out⟩, by simp [intOf]; omega⟩
          · have htz2 := htz rfl
            have hr := HANS.out.1 rfl
            have hw : wasB (pieces 32 (nums s)) k = false := by rw [HWK.out, (HANS2.out.2 rfl).1]; rfl
            have HD2 : Hid (nums (o ++ ⟨#[32]⟩ ++ tx) ++ decP (decide (k + 1 = 0)) (wasB (pieces 32 (nums s)) (k + 1)) ((pieces 32 (nums s)).drop (k + 1)) = decodeL (nums s)) := by
              unfold Hid; rw [HSTEP.out, HW2.out, hr, decide_eq_false hk0, hw]
              rw [nums_append, nums_append]
              simp [nums]
            have HZ : Hid ((o ++ ⟨#[32]⟩ ++ tx).size ≤ 2301 * (k + 1)) := by
              unfold Hid; simp only [ByteArray.size_append, show (⟨#[32]⟩ : ByteArray).size = 1 from rfl]; omega
            have z0 : ¬ 9223372036854775807 < o.size + 1 := by omega
            have z1 : ¬ 9223372036854775807 < o.size + 1 + tx.size := by omega
            clear hr htz hw
            go_wp2
            all_goals exact ⟨⟨k + 1, _, by first | go_num | rfl, rfl, by omega, HZ.out, HD2.out, HBb.out⟩, by simp [intOf]; omega⟩
        · rcases ok with _ | _
          · have hr := (HANS.out.2 rfl).1
            have hw : wasB (pieces 32 (nums s)) k = true := by rw [HWK.out, HANS2.out.1 rfl]; rfl
            have HD2 : Hid (nums (o ++ ⟨#[32]⟩ ++ x) ++ decP (decide (k + 1 = 0)) (wasB (pieces 32 (nums s)) (k + 1)) ((pieces 32 (nums s)).drop (k + 1)) = decodeL (nums s)) := by
              unfold Hid; rw [HSTEP.out, HW2.out, hr, decide_eq_false hk0, hw]
              rw [nums_append, nums_append]
              simp [nums]
            have HZ : Hid ((o ++ ⟨#[32]⟩ ++ x).size ≤ 2301 * (k + 1)) := by
              unfold Hid; simp only [ByteArray.size_append, show (⟨#[32]⟩ : ByteArray).size = 1 from rfl]; omega
            have z0 : ¬ 9223372036854775807 < o.size + 1 := by omega
            have z1 : ¬ 9223372036854775807 < o.size + 1 + x.size := by omega
            clear hr htz hw
            go_wp2
            all_goals exact ⟨⟨k + 1, _, by first | go_num | rfl, rfl, by omega, HZ.out, HD2.out, HBb.out⟩, by simp [intOf]; omega⟩
          · have htz2 := htz rfl
            have hr := HANS.out.1 rfl
            have hw : wasB (pieces 32 (nums s)) k = true := by rw [HWK.out, HANS2.out.1 rfl]; rfl
            have HD2 : Hid (nums (o ++ tx) ++ decP (decide (k + 1 = 0)) (wasB (pieces 32 (nums s)) (k + 1)) ((pieces 32 (nums s)).drop (k + 1)) = decodeL (nums s)) := by
              unfold Hid; rw [HSTEP.out, HW2.out, hr, decide_eq_false hk0, hw]
              rw [nums_append]
              simp [nums]
            have HZ : Hid ((o ++ tx).size ≤ 2301 * (k + 1)) := by
              unfold Hid; simp only [ByteArray.size_append]; omega
            have z1 : ¬ 9223372036854775807 < o.size + tx.size := by omega
            clear hr htz hw
            go_wp2
            all_goals exact ⟨⟨k + 1, _, by first | go_num | rfl, rfl, by omega, HZ.out, HD2.out, HBb.out⟩, by simp [intOf]; omega⟩
    · obtain rfl : k = n := by omega
      have hl1 : decide ((k : Int) < (k : Int)) = false := by simp
      have HE : Hid (nums o = decodeL (nums s)) := by
        have := HDC.out
        rw [List.drop_of_length_le (by rw [← HXP.out, List.length_map, HN.out]; exact Nat.le_refl _), decP, List.append_nil] at this
        exact this
      go_wp2
      go_ret
      exact ⟨by rw [← HE.out, str_nums]; rfl, HB1.out.trans (HW.out.mono HB1.out.size)⟩
end Go.Proofs.YtnhbmekhmkkccaaDoor
