/-
  The fixed talk: the contracts of Script and alive.
-/
import Derived.Test.YtbckbonffajmeaaGreatDoorSy
import Derived.Lib.SlBytesConst
namespace Go.Proofs.YtbckbonffajmeaaGreatDoor
open Go.RowKit Go.Shelf Go.Maps
set_option linter.unusedVariables false
set_option linter.unusedSimpArgs false

def intsA (l : List Int) : Array Value := (l.map (Value.int .u8)).toArray
theorem row_alloc (w : World) (l : List Int) (z : Nat × Nat) : Row (w.alloc (.cells (intsA l) 5 z)) (some ⟨w.heap.size, 0, none⟩) l := by
  have h := World.alloc_heap_new w (.cells (intsA l) 5 z)
  refine .inr ⟨_, 0, rfl, fun i hi => ?_⟩
  rw [cell_of_row _ _ _ _ _ _ h, Nat.zero_add]
  simp [intsA, List.getD_eq_getElem?_getD, List.getElem?_eq_getElem hi]
set_option maxHeartbeats 8000000 in
set_option maxRecDepth 100000 in
theorem script_any (w : World) : Calls Tryz.prog 24 #[] w fun e w' => e = .returned (.slice (some ⟨w.heap.size, 0, none⟩) 46 46) ∧ w' = w.alloc (.cells (intsA scriptL) 5 (46, 47)) := by
  have kcc := fun (W : World) (C : Array Value) (n c : Nat) => Lib.run_convert_bytes_const (P := Tryz.prog) W 33 5 C n c Tryz.underlying33 Tryz.underlying5
  go_enter Tryz.func24, Tryz.ntmps24
  go_wp2_with fail
  go_ret
  exact ⟨rfl, rfl⟩
set_option maxRecDepth 100000 in
theorem al_outL : (runS al0 scriptL).2.1 = [50, 53, 48, 45, 120, 13, 10, 50, 53, 48, 45, 83, 73, 90, 69, 32, 49, 48, 48, 13, 10, 50, 53, 48, 45, 56, 66, 73, 84, 77, 73, 77, 69, 13, 10, 50, 53, 48, 32, 80, 73, 80, 69, 76, 73, 78, 73, 78, 71, 13, 10, 50, 53, 48, 32, 111, 107, 13, 10, 50, 53, 48, 32, 111, 107, 13, 10, 51, 53, 52, 32, 111, 107, 13, 10] := by kernel_rfl
theorem al_str : strOfNums (runS al0 scriptL).2.1 = ⟨#[50, 53, 48, 45, 120, 13, 10, 50, 53, 48, 45, 83, 73, 90, 69, 32, 49, 48, 48, 13, 10, 50, 53, 48, 45, 56, 66, 73, 84, 77, 73, 77, 69, 13, 10, 50, 53, 48, 32, 80, 73, 80, 69, 76, 73, 78, 73, 78, 71, 13, 10, 50, 53, 48, 32, 111, 107, 13, 10, 50, 53, 48, 32, 111, 107, 13, 10, 51, 53, 52, 32, 111, 107, 13, 10]⟩ := by rw [al_outL]; rfl
theorem al_end : ((⟨#[50, 53, 48, 45, 120, 13, 10, 50, 53, 48, 45, 83, 73, 90, 69, 32, 49, 48, 48, 13, 10, 50, 53, 48, 45, 56, 66, 73, 84, 77, 73, 77, 69, 13, 10, 50, 53, 48, 32, 80, 73, 80, 69, 76, 73, 78, 73, 78, 71, 13, 10, 50, 53, 48, 32, 111, 107, 13, 10, 50, 53, 48, 32, 111, 107, 13, 10, 51, 53, 52, 32, 111, 107, 13, 10]⟩ : ByteArray).extract 67 75).toList = [51, 53, 52, 32, 111, 107, 13, 10] := by rw [ByteArray.toList_eq]; rfl
theorem nil_end : (strOfNums []).toList = [] := by rw [toList_str]; rfl
theorem rp250 : replyZ ⟨#[120]⟩ 250 = ⟨#[50, 53, 48, 32, 111, 107, 13, 10]⟩ := by kernel_rfl
theorem rp220 : replyZ ⟨#[120]⟩ 220 = ⟨#[50, 50, 48, 32, 120, 13, 10]⟩ := by kernel_rfl
theorem script_byt : Byt scriptL := by unfold Byt; decide
theorem tail_byt : Byt tailL := by unfold Byt; decide
theorem mv_below {B : Nat} {m m' : Sm} {w w' : World} (h : Mv m m' w w') (hlo : ∀ k, sO m w k → B ≤ k) (hB : B ≤ w.heap.size) : Below B w w' ∧ ∀ k, sO m' w' k → B ≤ k :=
  ⟨⟨h.tk.1, h.tk.2.1, h.tk.2.2.1, h.tk.size, fun k hk => h.tk.2.2.2.2 k (by omega) (fun q => by have := hlo k q; omega)⟩, fun k q => by
    rcases h.fresh k q with q | q
    · exact hlo k q
    · omega⟩
theorem row_one {w : World} {B : Nat} {v o : Value} (h : w.ownsRow B 9 1 v 1 [o]) : ∃ b c, v = .slice (some ⟨b, 0, none⟩) 1 c ∧ w.cell? ⟨b, 0, none⟩ = some o ∧ B ≤ b := by
  rcases h.2 with ⟨_, q⟩ | ⟨b, c, cur, h1, h2, h3, h4, h5, h6, h7⟩
  · cases q
  · refine ⟨b, c, h1, ?_, h2⟩
    rw [cell_of_row _ _ _ _ _ _ h3]
    have : cur.toList[0]? = some o := by
      have e : (cur.toList.take (1 * 1))[0]? = some o := by rw [h7]; rfl
      rwa [List.getElem?_take_of_lt (by decide)] at e
    rwa [Array.getElem?_toList] at this
set_option maxHeartbeats 16000000 in
set_option maxRecDepth 100000 in
theorem alive_any (mx : Int) (w : World) (h : Gl mx w) : Calls Tryz.prog 9 #[] w fun e w' => e = .returned (.bool true) ∧ Below w.heap.size w w' := by
  have h9 := h.size
  have HG : Hid (Gl mx w) := h
  have hrow : SRow (w.alloc (.cells #[.string ⟨#[111, 64, 120]⟩] 9)) (some ⟨w.heap.size, 0, none⟩) [⟨#[111, 64, 120]⟩] := by
    have h := World.alloc_heap_new w (.cells #[.string ⟨#[111, 64, 120]⟩] 9)
    refine .inr ⟨_, 0, rfl, fun i o hi => ?_⟩
    rw [cell_of_row _ _ _ _ _ _ h, Nat.zero_add]
    rcases i with _ | i
    · simp at hi ⊢; exact hi
    · simp at hi
  have hnew := new_any ⟨#[120]⟩ 100 (some ⟨w.heap.size, 0, none⟩) 1 1 [⟨#[111, 64, 120]⟩] _ rfl hrow (by decide) (fun o ho => by simp at ho; subst ho; decide)
  clear h hrow
  go_enter Tryz.func9, Tryz.ntmps9
  go_wp2_with fail
  refine hnew.mono ?_
  rintro e w1 hans
  obtain ⟨g, ob, rfl, hat, hgl, hol⟩ := hans.yes al_new
  have hb1 : Below w.heap.size w w1 := (keep w _).trans (hans.bel.mono (by simp))
  have hg1 : SG 0 mx w1 (newM g ob) al0 := ⟨hat, HG.out.below hb1, fun k q => by have := newM_own q; simp at hgl; omega⟩
  have hgl' : w.heap.size ≤ g := by simp at hgl; omega
  have H1 : Hid (SG 0 mx w1 (newM g ob) al0 ∧ Below w.heap.size w w1) := ⟨hg1, hb1⟩
  clear hnew hans hat hgl hol hb1 hg1
  go_wp2_with fail
  refine (script_any w1).mono ?_
  rintro e w2 ⟨rfl, hw2⟩
  have hb2 := keep w1 (.cells (intsA scriptL) 5 (46, 47))
  have hr2 := row_alloc w1 scriptL (46, 47)
  rw [← hw2] at hb2 hr2
  obtain ⟨g2, v2⟩ := H1.out.1.below hb2
  have hput := sput_any 0 mx (newM g ob) al0 w2 g2 (newS_wf _ _ _) (by decide) (some ⟨w1.heap.size, 0, none⟩) 46 46 scriptL rfl (Nat.le_refl _) script_byt hr2 (fun _ b off e q => by
    cases e
    have q1 := newM_own q
    have q2 : g < w1.heap.size := H1.out.1.at'.blk.lt
    omega) (by decide)
  rw [al_n, al_str] at hput
  have hput : Calls Tryz.prog 13 #[.pointer (some ⟨g, 0, none⟩), .slice (some ⟨w1.heap.size, 0, none⟩) 46 46] w2 _ := hput
  have hwf := runS_wf scriptL (newS_wf ⟨#[120]⟩ [[111, 64, 120]] 100)
  have hho := runS_host scriptL al0
  have hal : runS (runS al0 scriptL).1 tailL = al2 := rfl
  have HB2 : Hid (Below w.heap.size w w2) := H1.out.2.trans (hb2.mono H1.out.2.size)
  have HW : Hid (WfS (runS al0 scriptL).1 ∧ (runS al0 scriptL).1.host = al0.host) := ⟨hwf, hho⟩
  have HG2 : Hid (SG 0 mx w2 (newM g ob) al0) := g2
  clear hwf hho hr2 hb2 v2 g2 hw2
  go_wp2_with fail
  refine hput.mono ?_
  rintro e w3 ⟨rfl, m3, h3, v3⟩
  have kcc := fun (W : World) (C : Array Value) (n c : Nat) => Lib.run_convert_bytes_const (P := Tryz.prog) W 33 5 C n c Tryz.underlying33 Tryz.underlying5
  have hg3 : m3.g = g := v3.g
  have HS3 : Hid (SvAt 46 w3 m3 (runS al0 scriptL).1 ∧ Mv (newM g ob) m3 w2 w3) := ⟨h3, v3⟩
  have g3 := (HG2.out.mono (N' := 46) (by decide)).step h3 v3
  have hb4 := keep w3 (.cells (intsA tailL) 5 (9, 10))
  have hr4 := row_alloc w3 tailL (9, 10)
  obtain ⟨g4, v4⟩ := g3.below hb4
  have hput2 := sput_any 46 mx m3 _ _ g4 HW.out.1 (by rw [HW.out.2]; decide) (some ⟨w3.heap.size, 0, none⟩) 9 9 tailL rfl (Nat.le_refl _) tail_byt hr4 (fun _ b off e q => by
    cases e
    have q1 := (g3.at'.keep hb4.size (fun k hk => hb4.block k (sO_lt g3.at' hk))).2 _ q
    have := sO_lt g3.at' (.inl q1)
    omega) (by decide)
  rw [hal, hg3] at hput2
  have hwf2 := runS_wf tailL HW.out.1
  have hho2 := (runS_host tailL (runS al0 scriptL).1).trans HW.out.2
  rw [hal] at hwf2 hho2
  have t := al_tail
  simp only [Prod.mk.injEq] at t
  obtain ⟨t1, t2, t3, t4, t5, t6⟩ := t
  rw [t1, t2] at hput2
  obtain ⟨rs, hrs, hrf⟩ := hwf2.t2 t3
  have HW2 : Hid (al2.1.host = al0.host ∧ al2.1.text = some rs ∧ al2.1.takes = 2) := ⟨hho2, hrs, t3⟩
  have HB4 : Hid (SG 46 mx (w3.alloc (.cells (intsA tailL) 5 (9, 10))) m3 (runS al0 scriptL).1 ∧ Below w.heap.size w (w3.alloc (.cells (intsA tailL) 5 (9, 10)))) := ⟨g4, (HB2.out.trans (mv_below v3 (fun k q => (by have := newM_own q; omega)) HB2.out.size).1).trans (hb4.mono (Nat.le_trans HB2.out.size v3.tk.size))⟩
  have HLO : Hid (∀ k, sO m3 (w3.alloc (.cells (intsA tailL) 5 (9, 10))) k → w.heap.size ≤ k) := (mv_below (v3.trans v4) (fun k q => (by have := newM_own q; omega)) HB2.out.size).2
  have hs4 : al2.1.sender = ⟨#[97, 64, 98]⟩ := nums_inj (t4.trans rfl)
  obtain ⟨o, ho⟩ : ∃ o, al2.1.tos = [o] ∧ nums o = [111, 64, 120] := by
    cases e : al2.1.tos with
    | nil => rw [e] at t5; cases t5
    | cons o r =>
      cases r with
      | nil => rw [e] at t5; simp at t5; exact ⟨o, rfl, t5⟩
      | cons o2 r => rw [e] at t5; simp at t5
  have HTO : Hid (al2.1.tos = [⟨#[111, 64, 120]⟩]) := by
    unfold Hid
    rw [ho.1, show o = ⟨#[111, 64, 120]⟩ from nums_inj (ho.2.trans rfl)]
  clear hput h3 v3 g3 hr4 g4 v4 hb4 hwf2 hho2 t1 t2 t3 t4 t5 t6 hrs hrf ho
  go_wp2_with fail
  refine hput2.mono ?_
  rintro e w5 ⟨rfl, m5, h5, v5⟩
  have hg5 : m5.g = g := v5.g.trans hg3
  have g5 := (HB4.out.1.mono (N' := 55) (by decide)).step h5 v5
  have hwt := waits_yes 55 m5 al2.1 w5 rs h5 (by rw [HW2.out.1]; decide) HW2.out.2.2 HW2.out.2.1 (by decide)
  rw [hg5, hs4] at hwt
  have HG5 : Hid (SG 55 mx w5 m5 al2.1 ∧ Mv m3 m5 (w3.alloc (.cells (intsA tailL) 5 (9, 10))) w5) := ⟨g5, v5⟩
  clear hput2 h5 v5 g5 kcc
  go_wp2_with fail
  refine hwt.mono ?_
  rintro e w6 ⟨v, a6, c6, rfl, hown, hrow, hb6⟩
  rw [HTO.out] at hown
  obtain ⟨bo, co, rfl, hco, hbo⟩ := row_one hown
  obtain ⟨g6, v6⟩ := HG5.out.1.below hb6
  have HG6 : Hid (SG 55 mx w6 m5 al2.1 ∧ Mv m3 m5 (w3.alloc (.cells (intsA tailL) 5 (9, 10))) w6) := ⟨g6, HG5.out.2.trans v6⟩
  have hlt6 : ∀ k, sO m5 w6 k → k < w5.heap.size := fun k q => sO_lt HG5.out.1.at' (.inl ((HG5.out.1.at'.keep hb6.size (fun k hk => hb6.block k (sO_lt HG5.out.1.at' hk))).2 k q))
  have hb7 := keep w6 (.cells #[.string ⟨#[97, 64, 98]⟩, .slice (some ⟨bo, 0, none⟩) 1 co, .slice a6 (Dt.textZ rs).length c6] 48)
  have hbl7 : Blk (w6.alloc (.cells #[.string ⟨#[97, 64, 98]⟩, .slice (some ⟨bo, 0, none⟩) 1 co, .slice a6 (Dt.textZ rs).length c6] 48)) w6.heap.size #[.string ⟨#[97, 64, 98]⟩, .slice (some ⟨bo, 0, none⟩) 1 co, .slice a6 (Dt.textZ rs).length c6] 48 := World.alloc_heap_new w6 _
  have hco7 := (hb7.cell (World.block_lt_of_cell? w6 _ hco)).trans hco
  have hz7 := hb7.size
  obtain ⟨g7, v7⟩ := HG6.out.1.below hb7
  have hlt7 : ∀ k, sO m5 (w6.alloc (.cells #[.string ⟨#[97, 64, 98]⟩, .slice (some ⟨bo, 0, none⟩) 1 co, .slice a6 (Dt.textZ rs).length c6] 48)) k → k < w5.heap.size := fun k q => hlt6 k ((HG6.out.1.at'.keep hb7.size (fun k hk => hb7.block k (sO_lt HG6.out.1.at' hk))).2 k q)
  have hz56 := hb6.size
  have HB7 : Hid (Below w.heap.size w (w6.alloc (.cells #[.string ⟨#[97, 64, 98]⟩, .slice (some ⟨bo, 0, none⟩) 1 co, .slice a6 (Dt.textZ rs).length c6] 48))) := by
    have lo4 : ∀ k, sO m3 (w3.alloc (.cells (intsA tailL) 5 (9, 10))) k → w.heap.size ≤ k := HLO.out
    have x := mv_below HG6.out.2 lo4 HB4.out.2.size
    exact (HB4.out.2.trans x.1).trans (hb7.mono (Nat.le_trans HB4.out.2.size x.1.size))
  have HLO7 : Hid (∀ k, sO m5 (w6.alloc (.cells #[.string ⟨#[97, 64, 98]⟩, .slice (some ⟨bo, 0, none⟩) 1 co, .slice a6 (Dt.textZ rs).length c6] 48)) k → w.heap.size ≤ k) := by
    exact (mv_below (HG6.out.2.trans v7) HLO.out HB4.out.2.size).2
  have hz1 : ansZ al2.1 250 = (leaveZ al2.1, replyZ al2.1.host 250, 0) := by
    unfold ansZ; rw [if_neg (by rw [HW2.out.2.2]; decide), if_neg (by decide)]
  have han := answer_any 55 mx m5 al2.1 _ 250 g7 (by rw [HW2.out.1]; decide)
  rw [hz1, hg5, HW2.out.1, show replyZ al0.host 250 = _ from rp250] at han
  have HG7 : Hid (SG 55 mx (w6.alloc (.cells #[.string ⟨#[97, 64, 98]⟩, .slice (some ⟨bo, 0, none⟩) 1 co, .slice a6 (Dt.textZ rs).length c6] 48)) m5 al2.1) := g7
  clear hwt hown hrow hb6 v6 g6 hb7 g7 v7 hlt6 hz1
  go_wp2_with fail
  generalize w6.alloc (.cells #[.string ⟨#[97, 64, 98]⟩, .slice (some ⟨bo, 0, none⟩) 1 co, .slice a6 (Dt.textZ rs).length c6] 48) = w7 at han hbl7 hco7 hz7 hlt7 HB7 HLO7 HG7
  refine han.mono ?_
  rintro e w8 ⟨rfl, m8, h8, v8⟩
  have hbl8 : Blk w8 w6.heap.size #[.string ⟨#[97, 64, 98]⟩, .slice (some ⟨bo, 0, none⟩) 1 co, .slice a6 (Dt.textZ rs).length c6] 48 := (v8.tk.2.2.2.2 _ hbl7.lt (fun q => by have := hlt7 _ q; omega)).trans hbl7
  have hco8 : w8.cell? ⟨bo, 0, none⟩ = some (.string ⟨#[111, 64, 120]⟩) := (World.cell?_of_block (v8.tk.2.2.2.2 bo (World.block_lt_of_cell? w7 _ hco7) (fun q => by have := hlt7 _ q; omega))).trans hco7
  have hg8 : m8.g = g := v8.g.trans hg5
  have g8 := HG7.out.step h8 v8
  have hz2 : ansZ (leaveZ al2.1) 250 = (leaveZ al2.1, ⟨#[]⟩, 7) := by
    unfold ansZ; rw [if_pos (by decide)]
  have han2 := answer_any 55 mx m8 (leaveZ al2.1) _ 250 g8 (by rw [show (leaveZ al2.1).host = al2.1.host from rfl, HW2.out.1]; decide)
  rw [hz2, hg8] at han2
  have hx8 := mv_below v8 HLO7.out HB7.out.size
  have H8 : Hid (SG 55 mx w8 m8 (leaveZ al2.1) ∧ Below w.heap.size w w8 ∧ ∀ k, sO m8 w8 k → w.heap.size ≤ k) := ⟨g8, HB7.out.trans hx8.1, hx8.2⟩
  have hn8 : ∀ k, w5.heap.size ≤ k → k < w7.heap.size → ¬ sO m8 w8 k := fun k q1 q2 q => by
    rcases v8.fresh k q with r | r
    · have := hlt7 k r; omega
    · omega
  have hl7 := hbl7.lt
  have hb7l := World.block_lt_of_cell? w7 _ hco7
  have hb7l : bo < w7.heap.size := hb7l
  clear han h8 v8 g8 hx8 hz2 hbl7 hco7
  go_wp2_with fail
  refine han2.mono ?_
  rintro e w9 ⟨rfl, m9, h9', v9⟩
  have hbl9 : Blk w9 w6.heap.size #[.string ⟨#[97, 64, 98]⟩, .slice (some ⟨bo, 0, none⟩) 1 co, .slice a6 (Dt.textZ rs).length c6] 48 := (v9.tk.2.2.2.2 _ hbl8.lt (hn8 _ (by omega) hl7)).trans hbl8
  have hco9 : w9.cell? ⟨bo, 0, none⟩ = some (.string ⟨#[111, 64, 120]⟩) := (World.cell?_of_block (v9.tk.2.2.2.2 bo (World.block_lt_of_cell? w8 _ hco8) (hn8 _ hbo hb7l))).trans hco8
  have hg9 : m9.g = g := v9.g.trans hg8
  have g9 := H8.out.1.step h9' v9
  have hhe := hello_any 55 mx m9 (leaveZ al2.1) w9 g9 (by rw [show (leaveZ al2.1).host = al2.1.host from rfl, HW2.out.1]; decide)
  rw [hg9, show (leaveZ al2.1).host = al2.1.host from rfl, HW2.out.1, show replyZ al0.host 220 = _ from rp220] at hhe
  have HB9 : Hid (Below w.heap.size w w9) := H8.out.2.1.trans (mv_below v9 H8.out.2.2 H8.out.2.1.size).1
  have z0 : w9.cell? ⟨w6.heap.size, 0, none⟩ = some (.string ⟨#[97, 64, 98]⟩) := by rw [hbl9.cell]; rfl
  have z1 : w9.cell? ⟨w6.heap.size, 1, none⟩ = some (.slice (some ⟨bo, 0, none⟩) 1 co) := by rw [hbl9.cell]; rfl
  clear han2 h9' v9 g9 hbl8 hco8 hbl9 hn8
  have e1 := al_end
  have e2 := nil_end
  go_wp2_with (go_at_call 20; refine hhe.mono ?_; rintro e wA ⟨rfl, hbA⟩)
  go_ret
  exact ⟨rfl, HB9.out.trans (hbA.mono HB9.out.size)⟩
end Go.Proofs.YtbckbonffajmeaaGreatDoor
