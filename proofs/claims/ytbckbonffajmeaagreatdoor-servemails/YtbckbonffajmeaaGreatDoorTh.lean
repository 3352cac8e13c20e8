/-
  One session under way; ServeReplies: the contract of the law.
-/
import Derived.Test.YtbckbonffajmeaaGreatDoorTe
import Derived.Test.YtbckbonffajmeaaGreatDoorTg
namespace Go.Proofs.YtbckbonffajmeaaGreatDoor
open Go.RowKit Go.Shelf Go.Maps
set_option linter.unusedVariables false
set_option linter.unusedSimpArgs false

/-- One session under way, since a world w0. -/
structure Solo (mx : Int) (w0 : World) (N : Nat) (W : World) (m : Sm) (s : SS) : Prop where
  a : SG N mx W m s
  la : ∀ k, sO m W k → w0.heap.size ≤ k
  bel : Below w0.heap.size w0 W
theorem Solo.step {mx : Int} {w0 W W' : World} {N N' : Nat} {m m' : Sm} {s s' : SS} (h : Solo mx w0 N W m s) (hs : SvAt N' W' m' s') (hm : Mv m m' W W') : Solo mx w0 N' W' m' s' := by
  obtain ⟨b1, b2⟩ := mv_below hm h.la h.bel.size
  obtain ⟨c1, c2⟩ := mv_below hm h.a.lo h.a.gl.size
  exact ⟨⟨hs, h.a.gl.keep hm.tk.size (fun k hk => c1.block k hk), c2⟩, b2, h.bel.trans b1⟩
theorem Solo.below {mx : Int} {w0 W W' : World} {N : Nat} {m : Sm} {s : SS} (h : Solo mx w0 N W m s) (hb : Below W.heap.size W W') : Solo mx w0 N W' m s := by
  obtain ⟨h1, h2⟩ := h.a.below hb
  exact h.step h1.at' h2
theorem Solo.any {mx : Int} {w0 W : World} {N N' : Nat} {m : Sm} {s : SS} (h : Solo mx w0 N W m s) (ht : s.text = none) : Solo mx w0 N' W m s := ⟨h.a.any ht, h.la, h.bel⟩
theorem so_nil : strOfNums [] = ⟨#[]⟩ := rfl
theorem cell_keep {w V : World} {a : Addr} {v : Value} (hb : Below w.heap.size w V) (h : w.cell? a = some v) : V.cell? a = some v := (hb.cell (World.block_lt_of_cell? w _ h)).trans h
theorem last_at {o : ByteArray} {z : Nat} (h : o.size = z + 1) (hz : z < o.size) : (nums o).getLast? = some ((o[z]'hz).toNat : Int) := by
  rw [List.getLast?_eq_getElem?, nums_len, h, Nat.add_sub_cancel, nums_at o z hz]
set_option maxHeartbeats 16000000 in
set_option maxRecDepth 100000 in
theorem replies_any (mx : Int) (a0 : Option Addr) (n0 c0 : Nat) (os : List ByteArray) (a1 : Option Addr) (n1 c1 : Nat) (ls : List ByteArray) (w : World)
    (hn : os.length = n0) (hr : SRow w a0 os) (hn1 : ls.length = n1) (hr1 : SRow w a1 ls) (hgl : Gl mx w) :
    Calls Tryz.prog 6 #[.slice a0 n0 c0, .slice a1 n1 c1] w fun e w' => e = .returned (.bool true) ∧ Below w.heap.size w w' := by
  have HG : Hid (Gl mx w) := hgl
  have hal := fun (V : World) (hb : Below w.heap.size w V) => alive_any mx V (HG.out.below hb)
  have hlong := long_any a0 n0 c0 os w hn hr
  have HR : Hid (SRow w a0 os ∧ os.length = n0) := ⟨hr, hn⟩
  have HL : Hid (SRow w a1 ls ∧ ls.length = n1) := ⟨hr1, hn1⟩
  clear hgl hr hn hr1 hn1
  obtain ⟨lg, hlg⟩ : ∃ b, longZ os = b := ⟨_, rfl⟩
  rw [hlg] at hlong
  have HLG : Hid (longZ os = lg) := hlg
  clear hlg
  cases lg with
  | true =>
    go_enter Tryz.func6, Tryz.ntmps6
    go_wp2_with fail
    refine hlong.mono ?_
    rintro e w1 ⟨rfl, hw1⟩
    rw [hw1]
    clear hlong hw1 w1
    go_wp2_with (go_at_call 9; refine (hal _ (Below.refl _ _)).mono ?_; rintro e w2 ⟨rfl, hb2⟩)
    go_ret
    exact ⟨rfl, by assumption⟩
  | false =>
  by_cases p1 : 40 < n1
  · have hd1 : decide ((n1 : Int) > 40) = true := by simp; omega
    go_enter Tryz.func6, Tryz.ntmps6
    go_wp2_with fail
    refine hlong.mono ?_
    rintro e w1 ⟨rfl, hw1⟩
    rw [hw1]
    clear hlong hw1 w1
    go_wp2_with (go_at_call 9; refine (hal _ (Below.refl _ _)).mono ?_; rintro e w2 ⟨rfl, hb2⟩)
    go_ret
    exact ⟨rfl, by assumption⟩
  have hd1 : decide ((n1 : Int) > 40) = false := by simp; omega
  have hz : ∀ o ∈ os, o.size ≤ 100000000 := by
    have h := HLG.out
    unfold longZ at h
    rw [Bool.or_eq_false_iff] at h
    intro o ho
    have := List.any_eq_false.1 h.2 o ho
    simp at this
    omega
  have hnew := new_any ⟨#[120]⟩ 1000 a0 n0 c0 os w HR.out.2 HR.out.1 (by decide) hz
  clear hz
  obtain ⟨ok, hok⟩ : ∃ b, newOk ⟨#[120]⟩ os 1000 = b := ⟨_, rfl⟩
  have HOK : Hid (newOk ⟨#[120]⟩ os 1000 = ok) := hok
  clear hok
  go_enter Tryz.func6, Tryz.ntmps6
  go_wp2_with fail
  refine hlong.mono ?_
  rintro e w1 ⟨rfl, hw1⟩
  rw [hw1]
  clear hlong hw1 w1
  go_wp2_with fail
  refine hnew.mono ?_
  clear hnew
  rintro e w1 hans1
  have hb1 := hans1.bel
  cases ok with
  | false =>
    obtain rfl := hans1.no HOK.out
    clear hans1
    have hal1 := hal w1 hb1
    go_wp2_with fail
    refine hal1.mono ?_
    rintro e w3 ⟨rfl, hb3⟩
    have hb4 := hb1.trans (hb3.mono hb1.size)
    go_wp2
    go_ret
    exact ⟨rfl, hb4⟩
  | true =>
  obtain ⟨g, o1, rfl, hat1, hg1, hp1⟩ := hans1.yes HOK.out
  clear hans1
  have S1 : Hid (Solo mx w 0 w1 (newM g o1) (cutS os 1000)) := ⟨⟨hat1, HG.out.below hb1, fun k q => by have := newM_own q; have := HG.out.size; omega⟩, fun k q => by have := newM_own q; omega, hb1⟩
  have hrs0 : Rst (cutS os 1000) := ⟨rfl, rfl, rfl, newS_wf _ _ _⟩
  have htk0 : (cutS os 1000).takes = 0 := rfl
  clear hat1 hb1 hg1 hp1
  go_wp2
  go_loopw [7, 8, 9, 10, 11, 12] (fun v7 _ _ _ _ _ wr => ∃ (k : Nat) (m : Sm) (s : SS), v7 = .int .i64 k ∧ k ≤ n1 ∧ m.g = g ∧ Hid (Solo mx w 0 wr m s ∧ Rst s ∧ (s.takes = 0 ∨ s.takes = 3))) (fun v7 _ _ _ _ _ _ => n1 - (intOf v7).toNat)
  case atStart => exact ⟨0, _, _, rfl, by omega, rfl, S1.out, hrs0, .inl htk0⟩
  case round =>
    clear htk0 hrs0 S1
    obtain ⟨k, m, s, rfl, hk, hg, HS⟩ := hrel
    by_cases hlt : k < n1
    rotate_left
    · have hk2 : ¬ (k : Int) < (n1 : Int) := by omega
      have hal1 := hal wr HS.out.1.bel
      go_wp2_with fail
      refine hal1.mono ?_
      rintro e w3 ⟨rfl, hb3⟩
      have hb4 := HS.out.1.bel.trans (hb3.mono HS.out.1.bel.size)
      go_wp2
      go_ret
      exact ⟨rfl, hb4⟩
    obtain ⟨o, ho⟩ : ∃ o, ls[k]? = some o := ⟨_, List.getElem?_eq_getElem (by rw [HL.out.2]; exact hlt)⟩
    obtain ⟨b, off, rfl, hc0⟩ : ∃ b off, a1 = some ⟨b, off, none⟩ ∧ w.cell? ⟨b, off + k, none⟩ = some (.string o) := by
      rcases HL.out.1 with h | ⟨b, off, h1, h2⟩
      · rw [h] at ho; simp at ho
      · exact ⟨b, off, h1, h2 k o ho⟩
    have HC : Hid (∀ V, Below w.heap.size w V → V.cell? ⟨b, off + k, none⟩ = some (.string o)) := fun V hb => cell_keep hb hc0
    clear ho hc0
    have k0 : (0 : Int) ≤ (k : Int) := by omega
    have k1 : (k : Int) < (n1 : Int) := by omega
    have hc := HC.out wr HS.out.1.bel
    obtain ⟨n, hon⟩ : ∃ n, o.size = n := ⟨_, rfl⟩
    by_cases p6 : 600 < n
    · have hd6 : decide ((n : Int) > 600) = true := by simp; omega
      have hal1 := hal wr HS.out.1.bel
      go_wp2_with fail
      refine hal1.mono ?_
      rintro e w3 ⟨rfl, hb3⟩
      have hb4 := HS.out.1.bel.trans (hb3.mono HS.out.1.bel.size)
      go_wp2
      go_ret
      exact ⟨rfl, hb4⟩
    have hd6 : decide ((n : Int) > 600) = false := by simp; omega
    have HON : Hid ((nums o).length = n) := by unfold Hid; rw [nums_len]; exact hon
    go_wp2
    go_loopw [8] (fun j w2 => ∃ q : Nat, j = .int .i64 ((q : Int) + 1) ∧ (q = 0 ∨ q + 1 ≤ n) ∧ w2 = wr ∧ Hid (∀ i, i < q → ¬ ((nums o)[i]? = some 13 ∧ (nums o)[i + 1]? = some 10))) (fun j _ => n - (intOf j).toNat)
    case atStart => exact ⟨0, rfl, .inl rfl, rfl, fun i hi => by omega⟩
    case round =>
      obtain ⟨q, rfl, hq, rfl, HQ⟩ := hrel
      by_cases hlq : q + 1 < n
      · have ha : q < o.size := by omega
        have hb : q + 1 < o.size := by omega
        have i0 : (0 : Int) ≤ (q : Int) := by omega
        have i1 : (q : Int) < (o.size : Int) := by omega
        have i2 : (q : Int) + 1 < (o.size : Int) := by omega
        have hl1 : (q : Int) + 1 < (n : Int) := by omega
        obtain ⟨x1, hx1⟩ : ∃ c : Int, ((o[q]'ha).toNat : Int) = c := ⟨_, rfl⟩
        obtain ⟨x2, hx2⟩ : ∃ c : Int, ((o[q + 1]'hb).toNat : Int) = c := ⟨_, rfl⟩
        have HX : Hid ((nums o)[q]? = some x1 ∧ (nums o)[q + 1]? = some x2) := ⟨by rw [nums_at o q ha, hx1], by rw [nums_at o (q + 1) hb, hx2]⟩
        have nxt : Hid (¬ (x1 = 13 ∧ x2 = 10) → ∀ i, i < q + 1 → ¬ ((nums o)[i]? = some 13 ∧ (nums o)[i + 1]? = some 10)) := fun hne i hi h => by
          by_cases e : i = q
          · subst e
            rw [HX.out.1, HX.out.2] at h
            exact hne ⟨by simpa using h.1, by simpa using h.2⟩
          · exact HQ.out i (by omega) h
        by_cases q1 : x1 = 13
        rotate_left
        · have HN : Hid (∀ i, i < q + 1 → ¬ ((nums o)[i]? = some 13 ∧ (nums o)[i + 1]? = some 10)) := nxt.out (fun h => q1 h.1)
          have d1 : (x1 == 13) = false := by simpa using q1
          clear hx2 nxt
          go_wp2
          go_roundw
          case rel => exact ⟨q + 1, by go_num, .inr (by omega), trivial, HN⟩
          case measure => simp [intOf]; omega
        by_cases q2 : x2 = 10
        rotate_left
        · have HN : Hid (∀ i, i < q + 1 → ¬ ((nums o)[i]? = some 13 ∧ (nums o)[i + 1]? = some 10)) := nxt.out (fun h => q2 h.2)
          have d1 : (x1 == 13) = true := by simpa using q1
          have d2 : (x2 == 10) = false := by simpa using q2
          clear nxt
          go_wp2
          go_roundw
          case rel => exact ⟨q + 1, by go_num, .inr (by omega), trivial, HN⟩
          case measure => simp [intOf]; omega
        have d1 : (x1 == 13) = true := by simpa using q1
        have d2 : (x2 == 10) = true := by simpa using q2
        have hal1 := hal wr HS.out.1.bel
        clear nxt
        go_wp2_with fail
        refine hal1.mono ?_
        rintro e w3 ⟨rfl, hb3⟩
        have hb4 := HS.out.1.bel.trans (hb3.mono HS.out.1.bel.size)
        go_wp2
        go_ret
        exact ⟨rfl, hb4⟩
      · have hl1 : ¬ (q : Int) + 1 < (n : Int) := by omega
        have HNP : Hid (noPr (nums o)) := by
          intro i h
          by_cases e : i < q
          · exact HQ.out i e h
          · have : (nums o)[i + 1]? = none := List.getElem?_eq_none (by rw [HON.out]; omega)
            rw [this] at h
            cases h.2
        have hov := fun (j : Nat) => over_any 0 m s (wr.drewN j) (HS.out.1.below (below_drewN (Below.refl _ _) j)).a.at' (by rw [HS.out.2.1.host]; decide)
        have HOV0 : Hid (∀ j, Calls Tryz.prog 19 #[.pointer (some ⟨g, 0, none⟩)] (wr.drewN j) fun e w' => e = .returned (.bool (s.takes == 3)) ∧ w' = wr.drewN j) := fun j => by
          have := hov j
          rw [hg] at this
          exact this
        clear hov
        by_cases pz : n = 0
        · have HLA : Hid ((nums o).getLast? ≠ some 13) := by
            unfold Hid
            rw [List.eq_nil_of_length_eq_zero (HON.out.trans pz)]
            simp
          have z3 : decide ((n : Int) > 0) = false := by simp; omega
          rcases HS.out.2.2 with h0 | h3
          · have HOV : Hid (∀ j, Calls Tryz.prog 19 #[.pointer (some ⟨g, 0, none⟩)] (wr.drewN j) fun e w' => e = .returned (.bool false) ∧ w' = wr.drewN j) := by
              have := HOV0.out
              rw [h0] at this
              exact this
            go_wp2_with fail
            go_quiet (exact (HOV.out _).mono (fun e w' h => ⟨h.1, _, h.2⟩))
            clear pz z3
            have S2 : Hid (Solo mx w 0 (wr.drewN nq) m s) := HS.out.1.below (below_drewN (Below.refl _ _) nq)
            have hc2 := HC.out _ S2.out.bel
            obtain ⟨cap, w1, kc, hcap, hmx, hrow, hb1, _⟩ := conv_bytes o (wr.drewN nq) (by rw [hon]; unfold maxLen; omega)
            have S3 : Hid (Solo mx w 0 w1 m s) := S2.out.below hb1
            have hput := sput_any 0 mx m s w1 S3.out.a HS.out.2.1.wf (by rw [HS.out.2.1.host]; decide) _ n cap (nums o) HON.out (by omega) (nums_byt o) hrow (fun _ b off e q => by
              cases e
              have q1 := (S2.out.a.at'.keep hb1.size (fun k hk => hb1.block k (sO_lt S2.out.a.at' hk))).2 _ q
              have := sO_lt S2.out.a.at' (.inl q1)
              omega) (by omega)
            obtain ⟨s1, s2, r, e1, e2, e3, e4, e5, e6⟩ := line_pair HS.out.2.1 h0 HNP.out HLA.out
            rw [e1] at hput
            have hput : Calls Tryz.prog 13 #[.pointer (some ⟨m.g, 0, none⟩), .slice (some ⟨(wr.drewN nq).heap.size, 0, none⟩) n cap] w1 fun e w' => e = .returned (.tuple #[.int .i64 ((nums o).length : Nat), .string (strOfNums [])]) ∧ ∃ m', SvAt (0 + n) w' m' s1 ∧ Mv m m' w1 w' := hput
            rw [HON.out, so_nil, hg] at hput
            have HE : Hid (s1.text = none ∧ Rst s1 ∧ runS s1 [13, 10] = (s2, nums r, 2) ∧ Rst s2) := ⟨e2, e3, e4, e5⟩
            clear e1 e2 e3 e4 e5 hrow hb1
            rw [show (wr.drewN nq).heap.size = wr.heap.size from rfl] at hput
            go_wp2_with fail
            refine hput.mono ?_
            clear hput kc hc2
            rintro e w2 ⟨rfl, m2, h2, v2⟩
            have hg2 : m2.g = g := v2.g.trans hg
            have S4 : Hid (Solo mx w 0 w2 m2 s1) := (S3.out.step h2 v2).any HE.out.1
            clear h2 v2
            have kcc := fun (W : World) (C : Array Value) (n c : Nat) => Lib.run_convert_bytes_const (P := Tryz.prog) W 33 5 C n c Tryz.underlying33 Tryz.underlying5
            have hb3 := keep w2 (.cells (intsA [13, 10]) 5 (2, 3))
            have hr3 := row_alloc w2 [13, 10] (2, 3)
            have S5 : Hid (Solo mx w 0 (w2.alloc (.cells (intsA [13, 10]) 5 (2, 3))) m2 s1) := S4.out.below hb3
            have hput2 := sput_any 0 mx m2 s1 _ S5.out.a HE.out.2.1.wf (by rw [HE.out.2.1.host]; decide) (some ⟨w2.heap.size, 0, none⟩) 2 2 [13, 10] rfl (Nat.le_refl _) (by unfold Byt; decide) hr3 (fun _ b off e q => by
              cases e
              have q1 := (S4.out.a.at'.keep hb3.size (fun k hk => hb3.block k (sO_lt S4.out.a.at' hk))).2 _ q
              have := sO_lt S4.out.a.at' (.inl q1)
              omega) (by omega)
            rw [HE.out.2.2.1] at hput2
            have hput2 : Calls Tryz.prog 13 #[.pointer (some ⟨m2.g, 0, none⟩), .slice (some ⟨w2.heap.size, 0, none⟩) 2 2] (w2.alloc (.cells (intsA [13, 10]) 5 (2, 3))) fun e w' => e = .returned (.tuple #[.int .i64 2, .string (strOfNums (nums r))]) ∧ ∃ m', SvAt (0 + 2) w' m' s2 ∧ Mv m2 m' _ w' := hput2
            rw [str_nums, hg2] at hput2
            clear hb3 hr3
            go_wp2_with fail
            refine hput2.mono ?_
            clear hput2 kcc
            rintro e w4 ⟨rfl, m4, h4, v4⟩
            have hg4 : m4.g = g := v4.g.trans hg2
            have S6 : Hid (Solo mx w (0 + 2) w4 m4 s2) := S5.out.step h4 v4
            have hc4 := HC.out w4 S6.out.bel
            clear h4 v4
            rcases e6 with ⟨ht, hrL⟩ | ⟨ht, hr4⟩
            · have hok := List.all_eq_true.1 repL_ok r hrL
              simp only [Bool.and_eq_true, decide_eq_true_eq, Bool.not_eq_true', decide_eq_false_iff_not] at hok
              obtain ⟨⟨⟨hk1, hk2⟩, hk3⟩, hk4⟩ := hok
              have hli := lines_any r w4 (by omega)
              rw [hk1] at hli
              clear hk1 hrL
              have hk5 : ((r.extract 0 3).toList == [51, 53, 52]) = false := by simpa using hk4
              have S7 : Hid (Solo mx w 0 w4 m4 s2) := S6.out.any (HE.out.2.2.2.text ht)
              go_wp2_with fail
              refine hli.mono ?_
              clear hli
              rintro e w5 ⟨rfl, rfl⟩
              by_cases p8 : r.size = 8
              · have hp8 : ((r.size : Int) == 8) = true := by simp; omega
                go_wp2
                go_roundw
                case rel => exact ⟨k + 1, m4, s2, by go_num, by omega, hg4, S7.out, HE.out.2.2.2, ht⟩
                case measure => simp [intOf]; omega
              · have hp8 : ((r.size : Int) == 8) = false := by rw [beq_eq_false_iff_ne]; omega
                go_wp2
                go_roundw
                case rel => exact ⟨k + 1, m4, s2, by go_num, by omega, hg4, S7.out, HE.out.2.2.2, ht⟩
                case measure => simp [intOf]; omega
            · have hli := lines_any r w4 (by rw [hr4, rep354.2]; decide)
              rw [hr4, rep354.1, rep354.2] at hli
              rw [hr4, rep354.2]
              have hal1 := hal w4 S6.out.bel
              have hk5 : (((⟨#[51, 53, 52, 32, 111, 107, 13, 10]⟩ : ByteArray).extract 0 3).toList == [51, 53, 52]) = true := by rw [ByteArray.toList_eq]; rfl
              go_wp2_with fail
              refine hli.mono ?_
              clear hli
              rintro e w5 ⟨rfl, rfl⟩
              go_wp2_with fail
              refine hal1.mono ?_
              rintro e w6 ⟨rfl, hb6⟩
              have hb7 := S6.out.bel.trans (hb6.mono S6.out.bel.size)
              go_wp2
              go_ret
              exact ⟨rfl, hb7⟩
          · have HOV : Hid (∀ j, Calls Tryz.prog 19 #[.pointer (some ⟨g, 0, none⟩)] (wr.drewN j) fun e w' => e = .returned (.bool true) ∧ w' = wr.drewN j) := by
              have := HOV0.out
              rw [h3] at this
              exact this
            go_wp2_with fail
            go_quiet (exact (HOV.out _).mono (fun e w' h => ⟨h.1, _, h.2⟩))
            have S2 := HS.out.1.below (below_drewN (Below.refl _ _) nq)
            have hal1 := hal _ S2.bel
            go_wp2_with fail
            refine hal1.mono ?_
            rintro e w3 ⟨rfl, hb3⟩
            have hb4 := S2.bel.trans (hb3.mono S2.bel.size)
            go_wp2
            go_ret
            exact ⟨rfl, hb4⟩
        obtain ⟨z, hz⟩ : ∃ z, n = z + 1 := ⟨n - 1, by omega⟩
        have hzl : z < o.size := by omega
        have z0 : (0 : Int) ≤ (z : Int) := by omega
        have z1 : (z : Int) < (o.size : Int) := by omega
        have z2 : (n : Int) - 1 = (z : Int) := by omega
        have z3 : decide ((n : Int) > 0) = true := by simp; omega
        have hla := last_at (hon.trans hz) hzl
        obtain ⟨x, hx⟩ : ∃ c : Int, ((o[z]'hzl).toNat : Int) = c := ⟨_, rfl⟩
        rw [hx] at hla
        by_cases px : x = 13
        · have d1 : (x == 13) = true := by simpa using px
          clear hla
          go_wp2_with fail
          go_quiet (fail)
          have S2 := HS.out.1.below (below_drewN (Below.refl _ _) nq)
          have hal1 := hal _ S2.bel
          go_wp2_with fail
          refine hal1.mono ?_
          rintro e w3 ⟨rfl, hb3⟩
          have hb4 := S2.bel.trans (hb3.mono S2.bel.size)
          go_wp2
          go_ret
          exact ⟨rfl, hb4⟩
        have d1 : (x == 13) = false := by simpa using px
        have HLA : Hid ((nums o).getLast? ≠ some 13) := by unfold Hid; rw [hla]; simpa using px
        clear hla
        rcases HS.out.2.2 with h0 | h3
        · have HOV : Hid (∀ j, Calls Tryz.prog 19 #[.pointer (some ⟨g, 0, none⟩)] (wr.drewN j) fun e w' => e = .returned (.bool false) ∧ w' = wr.drewN j) := by
            have := HOV0.out
            rw [h0] at this
            exact this
          go_wp2_with fail
          go_quiet (exact (HOV.out _).mono (fun e w' h => ⟨h.1, _, h.2⟩))
          clear hz z1 z2 z3 hx d1 z0
          have S2 : Hid (Solo mx w 0 (wr.drewN nq) m s) := HS.out.1.below (below_drewN (Below.refl _ _) nq)
          have hc2 := HC.out _ S2.out.bel
          obtain ⟨cap, w1, kc, hcap, hmx, hrow, hb1, _⟩ := conv_bytes o (wr.drewN nq) (by rw [hon]; unfold maxLen; omega)
          have S3 : Hid (Solo mx w 0 w1 m s) := S2.out.below hb1
          have hput := sput_any 0 mx m s w1 S3.out.a HS.out.2.1.wf (by rw [HS.out.2.1.host]; decide) _ n cap (nums o) HON.out (by omega) (nums_byt o) hrow (fun _ b off e q => by
            cases e
            have q1 := (S2.out.a.at'.keep hb1.size (fun k hk => hb1.block k (sO_lt S2.out.a.at' hk))).2 _ q
            have := sO_lt S2.out.a.at' (.inl q1)
            omega) (by omega)
          obtain ⟨s1, s2, r, e1, e2, e3, e4, e5, e6⟩ := line_pair HS.out.2.1 h0 HNP.out HLA.out
          rw [e1] at hput
          have hput : Calls Tryz.prog 13 #[.pointer (some ⟨m.g, 0, none⟩), .slice (some ⟨(wr.drewN nq).heap.size, 0, none⟩) n cap] w1 fun e w' => e = .returned (.tuple #[.int .i64 ((nums o).length : Nat), .string (strOfNums [])]) ∧ ∃ m', SvAt (0 + n) w' m' s1 ∧ Mv m m' w1 w' := hput
          rw [HON.out, so_nil, hg] at hput
          have HE : Hid (s1.text = none ∧ Rst s1 ∧ runS s1 [13, 10] = (s2, nums r, 2) ∧ Rst s2) := ⟨e2, e3, e4, e5⟩
          clear e1 e2 e3 e4 e5 hrow hb1
          rw [show (wr.drewN nq).heap.size = wr.heap.size from rfl] at hput
          go_wp2_with fail
          refine hput.mono ?_
          clear hput kc hc2
          rintro e w2 ⟨rfl, m2, h2, v2⟩
          have hg2 : m2.g = g := v2.g.trans hg
          have S4 : Hid (Solo mx w 0 w2 m2 s1) := (S3.out.step h2 v2).any HE.out.1
          clear h2 v2
          have kcc := fun (W : World) (C : Array Value) (n c : Nat) => Lib.run_convert_bytes_const (P := Tryz.prog) W 33 5 C n c Tryz.underlying33 Tryz.underlying5
          have hb3 := keep w2 (.cells (intsA [13, 10]) 5 (2, 3))
          have hr3 := row_alloc w2 [13, 10] (2, 3)
          have S5 : Hid (Solo mx w 0 (w2.alloc (.cells (intsA [13, 10]) 5 (2, 3))) m2 s1) := S4.out.below hb3
          have hput2 := sput_any 0 mx m2 s1 _ S5.out.a HE.out.2.1.wf (by rw [HE.out.2.1.host]; decide) (some ⟨w2.heap.size, 0, none⟩) 2 2 [13, 10] rfl (Nat.le_refl _) (by unfold Byt; decide) hr3 (fun _ b off e q => by
            cases e
            have q1 := (S4.out.a.at'.keep hb3.size (fun k hk => hb3.block k (sO_lt S4.out.a.at' hk))).2 _ q
            have := sO_lt S4.out.a.at' (.inl q1)
            omega) (by omega)
          rw [HE.out.2.2.1] at hput2
          have hput2 : Calls Tryz.prog 13 #[.pointer (some ⟨m2.g, 0, none⟩), .slice (some ⟨w2.heap.size, 0, none⟩) 2 2] (w2.alloc (.cells (intsA [13, 10]) 5 (2, 3))) fun e w' => e = .returned (.tuple #[.int .i64 2, .string (strOfNums (nums r))]) ∧ ∃ m', SvAt (0 + 2) w' m' s2 ∧ Mv m2 m' _ w' := hput2
          rw [str_nums, hg2] at hput2
          clear hb3 hr3
          go_wp2_with fail
          refine hput2.mono ?_
          clear hput2 kcc
          rintro e w4 ⟨rfl, m4, h4, v4⟩
          have hg4 : m4.g = g := v4.g.trans hg2
          have S6 : Hid (Solo mx w (0 + 2) w4 m4 s2) := S5.out.step h4 v4
          have hc4 := HC.out w4 S6.out.bel
          clear h4 v4
          rcases e6 with ⟨ht, hrL⟩ | ⟨ht, hr4⟩
          · have hok := List.all_eq_true.1 repL_ok r hrL
            simp only [Bool.and_eq_true, decide_eq_true_eq, Bool.not_eq_true', decide_eq_false_iff_not] at hok
            obtain ⟨⟨⟨hk1, hk2⟩, hk3⟩, hk4⟩ := hok
            have hli := lines_any r w4 (by omega)
            rw [hk1] at hli
            clear hk1 hrL
            have hk5 : ((r.extract 0 3).toList == [51, 53, 52]) = false := by simpa using hk4
            have S7 : Hid (Solo mx w 0 w4 m4 s2) := S6.out.any (HE.out.2.2.2.text ht)
            go_wp2_with fail
            refine hli.mono ?_
            clear hli
            rintro e w5 ⟨rfl, rfl⟩
            by_cases p8 : r.size = 8
            · have hp8 : ((r.size : Int) == 8) = true := by simp; omega
              go_wp2
              go_roundw
              case rel => exact ⟨k + 1, m4, s2, by go_num, by omega, hg4, S7.out, HE.out.2.2.2, ht⟩
              case measure => simp [intOf]; omega
            · have hp8 : ((r.size : Int) == 8) = false := by rw [beq_eq_false_iff_ne]; omega
              go_wp2
              go_roundw
              case rel => exact ⟨k + 1, m4, s2, by go_num, by omega, hg4, S7.out, HE.out.2.2.2, ht⟩
              case measure => simp [intOf]; omega
          · have hli := lines_any r w4 (by rw [hr4, rep354.2]; decide)
            rw [hr4, rep354.1, rep354.2] at hli
            rw [hr4, rep354.2]
            have hal1 := hal w4 S6.out.bel
            have hk5 : (((⟨#[51, 53, 52, 32, 111, 107, 13, 10]⟩ : ByteArray).extract 0 3).toList == [51, 53, 52]) = true := by rw [ByteArray.toList_eq]; rfl
            go_wp2_with fail
            refine hli.mono ?_
            clear hli
            rintro e w5 ⟨rfl, rfl⟩
            go_wp2_with fail
            refine hal1.mono ?_
            rintro e w6 ⟨rfl, hb6⟩
            have hb7 := S6.out.bel.trans (hb6.mono S6.out.bel.size)
            go_wp2
            go_ret
            exact ⟨rfl, hb7⟩
        · have HOV : Hid (∀ j, Calls Tryz.prog 19 #[.pointer (some ⟨g, 0, none⟩)] (wr.drewN j) fun e w' => e = .returned (.bool true) ∧ w' = wr.drewN j) := by
            have := HOV0.out
            rw [h3] at this
            exact this
          go_wp2_with fail
          go_quiet (exact (HOV.out _).mono (fun e w' h => ⟨h.1, _, h.2⟩))
          have S2 := HS.out.1.below (below_drewN (Below.refl _ _) nq)
          have hal1 := hal _ S2.bel
          go_wp2_with fail
          refine hal1.mono ?_
          rintro e w3 ⟨rfl, hb3⟩
          have hb4 := S2.bel.trans (hb3.mono S2.bel.size)
          go_wp2
          go_ret
          exact ⟨rfl, hb4⟩
end Go.Proofs.YtbckbonffajmeaaGreatDoor
