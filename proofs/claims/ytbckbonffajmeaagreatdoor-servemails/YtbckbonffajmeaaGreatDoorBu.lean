/-
  A builder and the blocks that are its own: the contracts of WriteString and String, with a frame that tells them alone.
-/
import Derived.Test.YtbckbonffajmeaaGreatDoorSg
import Derived.Shelf.Strings.Builder1
namespace Go.Proofs.YtbckbonffajmeaaGreatDoor
open Go.RowKit Go.Shelf
set_option linter.unusedVariables false
set_option linter.unusedSimpArgs false

/-- A string put behind a row of one's own; where the new row lies. -/
theorem wpList_append_str_at {P : Program} {w : World} {ops : Array Oper} {rest : List Oper} {o : Oper} {a : Act} {Q : Exit → Act → World → Prop} (hgd : o.guard = none) (sl x : Operand) (t u : TypeId)
    (ho : o.op = .call { callee := .builtin .append, args := #[sl, x], argTypes := #[t, u] })
    (e : TypeId) (i : TypeInfo) (ht : P.underlying t = some (.slice e)) (hu : P.underlying u = some .string) (hi : P.info? e = some i) (hz : i.zero = some (.int .u8 0)) (hsize : i.size = 1) (hby : i.bytes = 1)
    (v : Value) (n : Nat) (xs : List Value) (hs : a.eval sl = v) (hown : w.ownsRow 0 e 1 v n xs) (s : ByteArray) (hx : a.eval x = .string s) (h63 : n + s.size ≤ 100000000000000)
    (h : ∀ v' w', w'.ownsRow 0 e 1 v' (n + s.size) (xs ++ Lib.strCells s) → w.grownBy w' v.ownBlock → (v' = .slice none 0 0 ↔ v = .slice none 0 0 ∧ s.size = 0) → (v'.ownBlock = v.ownBlock ∨ v'.ownBlock = some w.heap.size) → wpList P ops Q rest (a.put o.dst v') w') : wpList P ops Q (o :: rest) a w := by
  refine wpList_plain hgd fun K hK => ?_
  obtain ⟨v', w', hr, h2, h3, h4⟩ := Lib.run_append_own_string (P := P) w 0 t u o.type e i ht hu hi hz hsize hby v n xs hown s (by unfold maxLen; omega) (by omega) (Nat.zero_le _)
  have hat : v'.ownBlock = v.ownBlock ∨ v'.ownBlock = some w.heap.size := by
    rcases hown.2 with ⟨rfl, rfl⟩ | ⟨g, cap, cur, rfl, hbg, hg, hnc, hcm, hcs, htake⟩
    · by_cases hm : s.size = 0
      · rw [h4.2 ⟨rfl, hm⟩]; exact .inl rfl
      · have hr2 := run_append_nil_string (P := P) w t u o.type e i (.int .u8 0) ht hu hi hz s (by omega) (by omega) (by rw [hby]; omega)
        rw [hr] at hr2
        injection hr2 with q _
        rw [q]; exact .inr rfl
    · by_cases hroom : n + s.size ≤ cap
      · have hr2 := Lib.run_append_room_string (P := P) w t u o.type e i ht hu hi hsize g n cap cur hg s hroom (by rw [hcs]; omega)
        rw [hr] at hr2
        injection hr2 with q _
        rw [q]; exact .inl rfl
      · have hr2 := Lib.run_append_grow_string (P := P) w t u o.type e i (.int .u8 0) ht hu hi hz ⟨g, 0, none⟩ n cap xs (by rw [hsize]; exact hown.1) (hown.cells (g := g) rfl) s (by omega) (by omega) (by rw [hby]; exact growslice_fits (by omega) (by omega))
        rw [hr] at hr2
        injection hr2 with q _
        rw [q]; exact .inr rfl
  unfold Oper.wp execOp
  simp only [ho, resolve, invoke, builtin, Sem.run_bind, Sem.run_pure, Result.andThen_ok, List.map_toArray, List.map_cons, List.map_nil, hs, hx, hr]
  exact hK _ _ (h v' w' h2 h3 h4 hat)
theorem bcells (s : ByteArray) : Lib.strCells s = (nums s).map (Value.int .u8) := by
  rw [nums, List.map_map]; rfl
def cellsB (p v : Value) : Array Value := #[p, v]
/-- A builder in block b that holds bytes. -/
def Bd (w : World) (b : Nat) (l : List Int) : Prop := ∃ p v, (p = .pointer none ∨ p = .pointer (some ⟨b, 0, none⟩)) ∧ Blk w b (cellsB p v) 68 ∧ Own w 0 v l ∧ (l = [] → v = .slice none 0 0)
/-- The blocks that are a builder's own. -/
def bO (b : Nat) (w : World) (k : Nat) : Prop := k = b ∨ ∃ v, w.cell? ⟨b, 1, none⟩ = some v ∧ v.ownBlock = some k
structure Bm (b : Nat) (w w' : World) : Prop where
  tk : Tk (bO b w) w w'
  fresh : ∀ k, bO b w' k → bO b w k ∨ w.heap.size ≤ k
theorem Bm.refl (b : Nat) (w : World) : Bm b w w := ⟨Tk.refl _ _, fun _ h => .inl h⟩
theorem Bm.trans {b : Nat} {w1 w2 w3 : World} (h : Bm b w1 w2) (k : Bm b w2 w3) : Bm b w1 w3 := by
  refine ⟨⟨k.tk.1.trans h.tk.1, k.tk.2.1.trans h.tk.2.1, k.tk.2.2.1.trans h.tk.2.2.1, Nat.le_trans h.tk.size k.tk.size, fun b hb hO => ?_⟩, fun b hb => ?_⟩
  · refine (k.tk.2.2.2.2 b (by have := h.tk.size; omega) (fun q => ?_)).trans (h.tk.2.2.2.2 b hb hO)
    rcases h.fresh b q with q | q
    · exact hO q
    · omega
  · rcases k.fresh b hb with q | q
    · exact h.fresh b q
    · exact .inr (by have := h.tk.size; omega)
theorem bO_cells {w : World} {b : Nat} {l : List Int} (h : Bd w b l) {k : Nat} (hk : bO b w k) : (k = b ∧ ∃ cs, Blk w k cs 68) ∨ ∃ cs, Blk w k cs 5 := by
  obtain ⟨p, v, _, h1, h2, _⟩ := h
  rcases hk with rfl | ⟨u, q1, q2⟩
  · exact .inl ⟨rfl, _, h1⟩
  · rw [h1.cell] at q1
    cases q1
    exact .inr (row_block h2 q2)
theorem bO_lt {w : World} {b : Nat} {l : List Int} (h : Bd w b l) {k : Nat} (hk : bO b w k) : k < w.heap.size := by
  rcases bO_cells h hk with ⟨_, _, q⟩ | ⟨_, q⟩
  · exact q.lt
  · exact q.lt
theorem Bd.keep {w w' : World} {b : Nat} {l : List Int} (h : Bd w b l) (hk : ∀ k, bO b w k → w'.heap[k]? = w.heap[k]?) : Bd w' b l ∧ ∀ k, bO b w' k → bO b w k := by
  obtain ⟨p, v, h0, h1, h2, h3⟩ := h
  have hb := hk b (.inl rfl)
  have c1 : w.cell? ⟨b, 1, none⟩ = some v := by rw [h1.cell]; rfl
  refine ⟨⟨p, v, h0, hb.trans h1, row_keep h2 (fun g hg => hk g (.inr ⟨v, c1, hg⟩)), h3⟩, fun k q => ?_⟩
  rcases q with q | ⟨u, q1, q2⟩
  · exact .inl q
  · rw [World.cell?_of_block hb] at q1
    exact .inr ⟨u, q1, q2⟩
theorem Bd.below {w w' : World} {b : Nat} {l : List Int} (h : Bd w b l) (hb : Below w.heap.size w w') : Bd w' b l ∧ Bm b w w' := by
  obtain ⟨h1, h2⟩ := h.keep (fun k hk => hb.block k (bO_lt h hk))
  exact ⟨h1, .of_below hb, fun k hk => .inl (h2 k hk)⟩
theorem Bm.set0 {b : Nat} (w : World) (u : Value) : Bm b w (w.setCell ⟨b, 0, none⟩ u) :=
  ⟨Tk.set w b 0 u (.inl rfl), fun k q => by
    rcases q with q | ⟨v, q1, q2⟩
    · exact .inl (.inl q)
    · rw [World.cell?_setCell_other w (a := ⟨b, 0, none⟩) (b := ⟨b, 1, none⟩) u (by intro e; injection e with _ e _; cases e)] at q1
      exact .inl (.inr ⟨v, q1, q2⟩)⟩
theorem Bm.grow {b : Nat} {w w2 : World} {p v v' : Value} (hb : Blk w b (cellsB p v) 68) (hne : v.ownBlock ≠ some b) (hg : w.grownBy w2 v.ownBlock) (hat : v'.ownBlock = v.ownBlock ∨ v'.ownBlock = some w.heap.size) : Bm b w (w2.setCell ⟨b, 1, none⟩ v') := by
  have c1 : w.cell? ⟨b, 1, none⟩ = some v := by rw [hb.cell]; rfl
  have hb2 : Blk w2 b (cellsB p v) 68 := (hg.block b hb.lt (fun e => hne e.symm)).trans hb
  have c2 : w2.cell? ⟨b, 1, none⟩ = some v := by rw [hb2.cell]; rfl
  have hz := (Below.refl 0 w2).setCell (p := ⟨b, 1, none⟩) (Nat.zero_le _) v'
  have h0 := (Below.refl 0 w).grown hg (Nat.zero_le _) (fun k _ => Nat.zero_le _)
  refine ⟨⟨hz.os.trans h0.os, hz.tape.trans h0.tape, hz.output.trans h0.output, Nat.le_trans h0.size hz.size, fun k h1 h2 => ?_⟩, fun k q => ?_⟩
  · rw [heap_setCell_other _ _ _ _ (by simp; exact fun e => h2 (.inl e))]
    exact hg.block k h1 (fun e => h2 (.inr ⟨v, c1, e.symm⟩))
  · rcases q with q | ⟨u, q1, q2⟩
    · exact .inl (.inl q)
    · rw [World.cell?_setCell_same w2 _ _ c2] at q1
      cases q1
      rcases hat with e | e
      · rw [e] at q2; exact .inl (.inr ⟨v, c1, q2⟩)
      · rw [e] at q2; cases q2; exact .inr (Nat.le_refl _)
def selfP (b : Nat) : Value := .pointer (some ⟨b, 0, none⟩)
/-- A builder that was used. -/
def BdU (w : World) (b : Nat) (l : List Int) : Prop := ∃ v, Blk w b (cellsB (selfP b) v) 68 ∧ Own w 0 v l ∧ (l = [] → v = .slice none 0 0)
theorem BdU.bd {w : World} {b : Nat} {l : List Int} (h : BdU w b l) : Bd w b l := by
  obtain ⟨v, h1, h2, h3⟩ := h
  exact ⟨_, v, .inr rfl, h1, h2, h3⟩
theorem row_not {w : World} {b n : Nat} {v : Value} {xs : List Value} {C : Array Value} (hb : Blk w b C 68) (h : w.ownsRow 0 5 1 v n xs) : v.ownBlock ≠ some b := fun e => by
  obtain ⟨cs, q⟩ := row_block h e
  unfold Blk at q hb
  rw [q] at hb
  cases hb
theorem bd_used {w : World} {b : Nat} {l : List Int} {p v : Value} (h1 : Blk w b (cellsB p v) 68) (h2 : Own w 0 v l) (h3 : l = [] → v = .slice none 0 0) : BdU (w.setCell ⟨b, 0, none⟩ (selfP b)) b l := by
  refine ⟨v, heap_setCell_same w b 0 _ 68 _ h1, row_keep h2 (fun g hg => heap_setCell_other _ _ _ _ ?_), h3⟩
  have := row_not h1 h2
  rintro e
  exact this (by rw [hg]; simpa using e)
set_option maxHeartbeats 1000000 in
set_option maxRecDepth 100000 in
theorem copyCheck_any (b : Nat) (l : List Int) (w : World) (h : Bd w b l) : Calls Tryz.prog 53 #[.pointer (some ⟨b, 0, none⟩)] w fun e w' => e = .returned (.tuple #[]) ∧ BdU w' b l ∧ Bm b w w' := by
  have sz : (Tryz.prog.info? 68).map (·.size) = some 2 := by kernel_rfl
  obtain ⟨j, hj, hjs⟩ := Option.map_eq_some_iff.1 sz
  obtain ⟨p, v, rfl | rfl, h1, h2, h3⟩ := h
  · have h0 : w.cell? ⟨b, 0, none⟩ = some (.pointer none) := by rw [h1.cell]; rfl
    have hsh : w.shape? b = some (68, 2) := by
      have : w.heap[b]? = _ := h1
      simp [World.shape?, this, cellsB]
    have hfz := h1.frozen 0
    have HH : Hid (BdU (w.setCell ⟨b, 0, none⟩ (selfP b)) b l) := bd_used h1 h2 h3
    clear h1 h2 h3
    go_enter Tryz.func53, Tryz.ntmps53
    go_wp2
    have hto : (convert 66 118 (.pointer (some ⟨b, 0, none⟩))).run Tryz.prog w = .ok (.pointer (some ⟨b, 0, none⟩)) w := by
      have hj0 : ¬ j.size = 0 := by rw [hjs]; decide
      simp [convert, run_underlying Tryz.underlying66, run_underlying Tryz.underlying118, Conv.unsafePointer, Conv.seenAt, viewAt, cellsIn, hsh, sizeOf, typeInfo, hj, hj0]
    rw [hto]
    simp only [Result.andThen]
    rw [Oper.upon_value]
    go_wp2
    rw [run_callFunc_extern Tryz.func79 (by kernel_rfl) (by kernel_rfl) (by kernel_rfl) (e := Extern.AbiNoEscape.same) (by kernel_rfl)]
    rw [Lib.run_noEscape]
    simp only [Result.andThen]
    rw [Oper.upon_value]
    go_wp2
    have hlies : liesAt Tryz.prog Tryz.prog.depth 68 (2 / Tryz.prog.cellsOf 68) 0 68 1 = true := by kernel_rfl
    have hfr : (convert 118 66 (.pointer (some ⟨b, 0, none⟩))).run Tryz.prog w = .ok (.pointer (some ⟨b, 0, none⟩)) w := by
      simp [convert, run_underlying Tryz.underlying66, run_underlying Tryz.underlying118, Conv.unsafePointer, Conv.seenAt, viewAt, hsh, variablesAt, hlies, sizeOf, typeInfo, hj]
    rw [hfr]
    simp only [Result.andThen]
    rw [Oper.upon_value]
    go_wp2
    go_end0
    exact ⟨rfl, HH.out, Bm.set0 _ _⟩
  · have h0 : w.cell? ⟨b, 0, none⟩ = some (.pointer (some ⟨b, 0, none⟩)) := by rw [h1.cell]; rfl
    have HH : Hid (BdU w b l) := ⟨v, h1, h2, h3⟩
    clear h1 h2 h3
    go_enter Tryz.func53, Tryz.ntmps53
    go_wp2
    rw [Lib.run_neq_ptr_same w _ Tryz.underlying66 hj]
    go_wp2
    go_end0
    exact ⟨rfl, HH.out, Bm.refl _ _⟩
set_option maxHeartbeats 2000000 in
set_option maxRecDepth 100000 in
theorem ws_any (b : Nat) (l : List Int) (s : ByteArray) (w : World) (h : Bd w b l) (hlen : l.length + s.size ≤ 10000000000000) :
    Calls Tryz.prog 30 #[.pointer (some ⟨b, 0, none⟩), .string s] w fun e w' => e = .returned (.tuple #[.int .i64 s.size, .nilIface]) ∧ Bd w' b (l ++ nums s) ∧ Bm b w w' := by
  obtain ⟨i0, hi, hz0, hz1, hz2⟩ := info_parts Tryz.info5
  go_enter Tryz.func30, Tryz.ntmps30
  go_wp2_with (go_at_call 53; refine (copyCheck_any b l _ h).mono ?_)
  rintro e w1 ⟨rfl, ⟨v, hbk, hown, hnl⟩, hm1⟩
  have c0 : w1.cell? ⟨b, 0, none⟩ = some (.pointer (some ⟨b, 0, none⟩)) := by rw [hbk.cell]; rfl
  have c1 : w1.cell? ⟨b, 1, none⟩ = some v := by rw [hbk.cell]; rfl
  have hne := row_not hbk hown
  unfold Own at hown
  go_wp2_with (at_builtin; refine wpList_append_str_at rfl _ _ 33 9 rfl 5 i0 Tryz.underlying33 Tryz.underlying9 hi hz0 hz1 hz2 _ _ _ rfl hown s rfl ?c3 ?_)
  case c3 => omega
  intro v' w2 hown' hgrow hnil hat
  have hb2 : Blk w2 b (cellsB (selfP b) v) 68 := (hgrow.block b hbk.lt (fun e => hne e.symm)).trans hbk
  have d0 : w2.cell? ⟨b, 0, none⟩ = some (.pointer (some ⟨b, 0, none⟩)) := by rw [hb2.cell]; rfl
  have d1 : w2.cell? ⟨b, 1, none⟩ = some v := by rw [hb2.cell]; rfl
  have f1 : w2.frozen? ⟨b, 1, none⟩ = false := hb2.frozen 1
  have HM : Hid (Bm b w (w2.setCell ⟨b, 1, none⟩ v')) := hm1.trans (Bm.grow hbk hne hgrow hat)
  have HP : Hid (BdU (w2.setCell ⟨b, 1, none⟩ v') b (l ++ nums s)) := by
    have ho : w2.ownsRow 0 5 1 v' (l ++ nums s).length ((l ++ nums s).map (Value.int .u8)) := by
      rw [List.map_append, List.length_append, nums_len, ← bcells]
      exact hown'
    refine ⟨v', heap_setCell_same w2 b 1 _ 68 _ hb2, row_keep ho (fun g hg => heap_setCell_other _ _ _ _ ?_), fun e => ?_⟩
    · have := row_not hb2 ho
      rintro e
      exact this (by rw [hg]; simpa using e)
    · have e1 : l = [] := by simp at e; exact e.1
      have e2 : s.size = 0 := by
        have : nums s = [] := by simp at e; exact e.2
        rw [← nums_len, this]; rfl
      exact hnil.2 ⟨hnl e1, by first | exact e2 | exact ByteArray.size_eq_zero_iff.1 e2⟩
  obtain ⟨ao, n', cap, rfl⟩ : ∃ ao n' cap, v' = .slice ao n' cap := by
    rcases hown'.2 with ⟨hv, _⟩ | ⟨g, cap, cur, hv, _⟩
    · exact ⟨_, _, _, hv⟩
    · exact ⟨_, _, _, hv⟩
  clear hown' hgrow hm1
  go_wp2
  go_ret2
  exact ⟨rfl, HP.out.bd, HM.out⟩
theorem freeze_tk {O : Nat → Prop} (w : World) (g n : Nat) (hO : O g) : Tk O w (w.freeze ⟨g, 0, none⟩ n) := by
  unfold World.freeze
  split
  · exact Tk.refl _ _
  · exact ⟨rfl, rfl, rfl, by simp, fun k hk q => by
      simp only [Array.getElem?_modify]
      rw [if_neg (by rintro rfl; exact q hO)]⟩
theorem str_list (l : List Int) (hl : Byt l) : l.map (Value.int .u8) = Lib.byteCells (strOfNums l).data.toList := by
  have := bcells (strOfNums l)
  rw [nums_str hl] at this
  rw [← this]; rfl
set_option maxHeartbeats 2000000 in
set_option maxRecDepth 100000 in
theorem bstr_any (b : Nat) (l : List Int) (w : World) (h : Bd w b l) (hl : Byt l) (hn : l.length ≤ 10000000000000) : Calls Tryz.prog 33 #[.pointer (some ⟨b, 0, none⟩)] w fun e w' => e = .returned (.string (strOfNums l)) ∧ Tk (bO b w) w w' := by
  obtain ⟨p, v, hp, h1, h2, h3⟩ := h
  have c0 : w.cell? ⟨b, 1, none⟩ = some v := by rw [h1.cell]; rfl
  by_cases h0 : l = []
  · subst h0
    rw [h3 rfl] at c0
    have c1 : w.drew.cell? ⟨b, 1, none⟩ = some (.slice none 0 0) := c0
    have hSD : (Builtin.unsafeSliceData_ #[33] 99 #[.slice none 0 0]).run Tryz.prog w.drew = .ok (.pointer none) w.drew := rfl
    have hUS : (Builtin.unsafeString_ #[99, 3] 9 #[.pointer none, .int .i64 0]).run Tryz.prog w.drew = .ok (.string .empty) w.drew := Lib.run_unsafeString_none w.drew 99 3 9 none
    clear h1 h2 h3 hp
    have mixed : Tryz.prog.follows Departure.mixedOrders = true := by kernel_rfl
    go_enter Tryz.func33, Tryz.ntmps33
    go_wp2
    go_region_o
    all_goals (go_wp2; go_ret; exact ⟨rfl, Tk.refl _ _⟩)
  have h2' : w.ownsRow 0 5 1 v l.length (l.map (Value.int .u8)) := h2
  obtain ⟨g, cap, cur, rfl, hbg, hg, hnc, hcm, hcs, htake⟩ : ∃ g cap cur, v = .slice (some ⟨g, 0, none⟩) l.length cap ∧ 0 ≤ g ∧ w.heap[g]? = some (.cells cur 5 (0, 0)) ∧ l.length ≤ cap ∧ cap ≤ maxLen ∧ cur.size = cap * 1 ∧ cur.toList.take (l.length * 1) = l.map (Value.int .u8) := by
    rcases h2'.2 with ⟨_, hz⟩ | ⟨g, cap, cur, hv, r⟩
    · exact absurd (List.eq_nil_of_length_eq_zero hz) h0
    · exact ⟨g, cap, cur, hv, r⟩
  have hlen : (strOfNums l).data.toList.length = l.length := by
    have := congrArg List.length (str_list l hl)
    simpa [Lib.byteCells_length] using this.symm
  have c1 : w.drew.cell? ⟨b, 1, none⟩ = some (.slice (some ⟨g, 0, none⟩) l.length cap) := c0
  have hSD : (Builtin.unsafeSliceData_ #[33] 99 #[.slice (some ⟨g, 0, none⟩) l.length cap]).run Tryz.prog w.drew = .ok (.pointer (some ⟨g, 0, none⟩)) w.drew :=
    Lib.run_unsafeSliceData_row _ _ _ _ _ _ (by have := List.length_pos_iff.2 h0; omega)
  have hUS : (Builtin.unsafeString_ #[99, 3] 9 #[.pointer (some ⟨g, 0, none⟩), .int .i64 l.length]).run Tryz.prog w.drew = .ok (.string (strOfNums l)) (w.drew.freeze ⟨g, 0, none⟩ l.length) := by
    have := Lib.run_unsafeString_row (P := Tryz.prog) w.drew 99 3 9 5 Tryz.underlying99 (by kernel_rfl) g cur.size (by have hg' : w.drew.heap[g]? = some (.cells cur 5 (0, 0)) := hg; simp [World.shape?, hg']) (strOfNums l).data.toList (by intro e; rw [e] at hlen; exact h0 (List.eq_nil_of_length_eq_zero hlen.symm)) (by rw [hlen, hcs]; omega) (by rw [hlen]; omega) (by
      intro j x hx
      have := h2'.cells (g := g) rfl j (.int .u8 x.toNat) (by rw [str_list l hl]; simp [Lib.byteCells, hx])
      exact this)
    rw [hlen] at this
    exact this
  have HT : Hid (Tk (bO b w) w (w.drew.freeze ⟨g, 0, none⟩ l.length)) := by
    have : bO b w g := .inr ⟨_, c0, rfl⟩
    have q := freeze_tk (O := bO b w) w.drew g l.length this
    exact q
  clear h1 h2 h2' h3 hp hg hcs htake hlen
  have mixed : Tryz.prog.follows Departure.mixedOrders = true := by kernel_rfl
  go_enter Tryz.func33, Tryz.ntmps33
  go_wp2
  go_region_o
  all_goals (go_wp2; go_ret; exact ⟨rfl, HT.out⟩)
end Go.Proofs.YtbckbonffajmeaaGreatDoor
