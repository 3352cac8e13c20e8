/-
  Commands: the contracts of begin, leave and from.
-/
import Derived.Test.YtbckbonffajmeaaGreatDoorSh
namespace Go.Proofs.YtbckbonffajmeaaGreatDoor
open Go.RowKit Go.Shelf Go.Maps
set_option linter.unusedVariables false
set_option linter.unusedSimpArgs false

theorem cut_sub (s p : List UInt8) : (∀ b ∈ (Lib.cut s p).1, b ∈ s) ∧ (∀ b ∈ (Lib.cut s p).2.1, b ∈ s) ∧ (Lib.cut s p).1.length ≤ s.length ∧ (Lib.cut s p).2.1.length ≤ s.length := by
  unfold Lib.cut
  split
  · exact ⟨fun b hb => List.mem_of_mem_take hb, fun b hb => List.mem_of_mem_drop hb, by simp; omega, by simp⟩
  · exact ⟨fun b hb => hb, fun b hb => by simp at hb, Nat.le_refl _, Nat.zero_le _⟩
theorem trim_sub (s p : List UInt8) : (∀ b ∈ Lib.trimPrefix s p, b ∈ s) ∧ (Lib.trimPrefix s p).length ≤ s.length := by
  unfold Lib.trimPrefix
  split
  · exact ⟨fun b hb => List.mem_of_mem_drop hb, by simp⟩
  · exact ⟨fun b hb => hb, Nat.le_refl _⟩
theorem path_sub (rest name : ByteArray) (ha : Asc rest) : Asc (pathZ rest name).1 ∧ Asc (pathZ rest name).2.1 ∧ (pathZ rest name).1.size ≤ rest.size ∧ (pathZ rest name).2.1.size ≤ rest.size := by
  unfold pathZ
  split
  · exact ⟨fun j b h => by simp at h, fun j b h => by simp at h, Nat.zero_le _, Nat.zero_le _⟩
  · have hr := Asc.mem.1 (asc_extract ha name.size rest.size)
    have hz : (rest.extract name.size rest.size).data.toList.length ≤ rest.size := by
      rw [Array.length_toList]
      have : (rest.extract name.size rest.size).size ≤ rest.size := by simp
      exact this
    obtain ⟨t1, t2⟩ := trim_sub (rest.extract name.size rest.size).data.toList [60]
    obtain ⟨c1, c2, c3, c4⟩ := cut_sub (Lib.trimPrefix (rest.extract name.size rest.size).data.toList [60]) [62]
    refine ⟨Asc.mem.2 (fun b hb => hr b (t1 b (c1 b hb))), Asc.mem.2 (fun b hb => hr b (t1 b (c2 b hb))), ?_, ?_⟩
    · simp only [strL_size]; omega
    · simp only [strL_size]; omega
theorem per_len {z x : List Int} (h : perZ z = some x) : x.length = z.length := by
  unfold perZ at h
  split at h
  · rename_i hq
    simp only [Option.some.injEq] at h
    subst h
    have := congrArg List.length (split_at z hq.1)
    unfold normL
    rw [List.length_map]
    exact this.symm
  · cases h
/-- DATA. -/
def beginZ (s : SS) (rest : ByteArray) : SS × Int :=
  if s.tos = [] then (s, 503) else if rest.size ≠ 0 then (s, 501) else ({ s with takes := 1, text := some (Dt.new0 s.size) }, 354)
def putTx (m : Sm) (gr : Nat) : Sm := { m with tx := some (gr, gr + 1) }
theorem sv_newText {N : Nat} {w : World} {m : Sm} {s : SS} (h : SvAt N w m s) (ht : s.text = none) (hl : s.line = []) (hv : m.vl = .slice none 0 0) :
    SvAt N ((w.alloc (.cells (Dt.cellsR (.slice none 0 0) (Dt.new0 s.size)) 111)).setCell ⟨m.g, 11, none⟩ (.pointer (some ⟨w.heap.size, 0, none⟩))) (putTx m w.heap.size) { s with text := some (Dt.new0 s.size) } ∧ Mv m (putTx m w.heap.size) w ((w.alloc (.cells (Dt.cellsR (.slice none 0 0) (Dt.new0 s.size)) 111)).setCell ⟨m.g, 11, none⟩ (.pointer (some ⟨w.heap.size, 0, none⟩))) := by
  obtain ⟨a1, a2⟩ := h.below (keep w (.cells (Dt.cellsR (.slice none 0 0) (Dt.new0 s.size)) 111))
  have hgr : (w.alloc (.cells (Dt.cellsR (.slice none 0 0) (Dt.new0 s.size)) 111)).heap[w.heap.size]? = some (.cells (Dt.cellsR (.slice none 0 0) (Dt.new0 s.size)) 111 (0, 0)) := World.alloc_heap_new w _
  have hR : SvR N (w.alloc (.cells (Dt.cellsR (.slice none 0 0) (Dt.new0 s.size)) 111)) (putTx m w.heap.size) { s with text := some (Dt.new0 s.size) } :=
    ⟨a1.tos, a1.line, a1.map, ⟨⟨Nat.lt_succ_self _, by rw [World.size_alloc]; exact Nat.le_refl _, _, hgr, World.ownsRow_nil _ _ _ _⟩, 0, Nat.zero_le _, Dt.fit_new _⟩, fun _ => hv, a1.ok.host, a1.ok.size0, a1.ok.size1, a1.ok.takes0, a1.ok.takes1, a1.ok.sender, a1.ok.tos, a1.ok.tosz, a1.ok.line, a1.ok.len⟩
  obtain ⟨h1, h2⟩ := sv_set (i := 11) (u := .pointer (some ⟨w.heap.size, 0, none⟩)) a1.blk hR rfl rfl
  refine ⟨h1, ⟨a2.tk.trans ?_, fun k q => ?_, rfl, rfl⟩⟩
  · exact (Tk.set (O := fun b => b = m.g) _ m.g 11 _ rfl).mono (fun b e => .inl e)
  · rcases h2 k q with q | q | q | ⟨gr, Br, e, q | q⟩
    · exact .inl (.inl q)
    · exact .inl (.inr (.inl q))
    · exact .inl (.inr (.inr (.inl q)))
    · cases e; exact .inr (by omega)
    · cases e
      obtain ⟨v, q1, q2⟩ := q
      rw [cell_of_row _ _ 1 _ _ _ hgr] at q1
      have : v = .slice none 0 0 := by
        have e : (Dt.cellsR (.slice none 0 0) (Dt.new0 s.size))[1]? = some (.slice none 0 0) := rfl
        rw [e] at q1; cases q1; rfl
      subst this
      simp [Value.ownBlock] at q2
set_option maxHeartbeats 8000000 in
set_option maxRecDepth 100000 in
theorem begin_any (N : Nat) (mx : Int) (m : Sm) (s : SS) (w : World) (rest : ByteArray) (h : SG N mx w m s) (ht : s.text = none) (hl : s.line = []) (hv : m.vl = .slice none 0 0) :
    Calls Tryz.prog 99 #[.pointer (some ⟨m.g, 0, none⟩), .string rest] w fun e w' => e = .returned (.int .i64 (beginZ s rest).2) ∧ ∃ m', SvAt N w' m' (beginZ s rest).1 ∧ Mv m m' w w' := by
  obtain ⟨c0, c1, c2, c3, c4, c5, c6, c7, c8, c9, c10, c11⟩ := sv_cells h.at'
  have f3 := h.at'.blk.frozen 3
  obtain ⟨va, vc, hvt⟩ : ∃ a c, m.vt = .slice a s.tos.length c := by
    rcases h.at'.tos.2 with ⟨e, e2⟩ | ⟨g, cap, cur, e, _⟩
    · exact ⟨none, 0, by rw [e, e2]⟩
    · exact ⟨_, _, e⟩
  rw [hvt] at c7
  obtain ⟨n, hn⟩ : ∃ n, s.tos.length = n := ⟨_, rfl⟩
  have hn16 : n ≤ 16 := by rw [← hn]; exact h.at'.ok.tos
  rw [hn] at c7
  have HS : Hid (SvAt N w m s) := h.at'
  by_cases p1 : n = 0
  · have HZ : Hid (beginZ s rest = (s, 503)) := by unfold Hid beginZ; rw [if_pos (List.eq_nil_of_length_eq_zero (by omega))]
    subst p1
    clear h hvt hn
    go_enter Tryz.func99, Tryz.ntmps99
    go_wp2
    go_ret
    exact ⟨by rw [HZ.out]; rfl, m, by rw [HZ.out]; exact HS.out, Mv.refl _ _⟩
  have p1' : ((n : Int) == 0) = false := by rw [beq_eq_false_iff_ne]; omega
  have hne : ¬ s.tos = [] := fun e => p1 (by rw [← hn, e]; rfl)
  by_cases p2 : rest.size = 0
  · have he : rest = ⟨#[]⟩ := nums_inj (List.eq_nil_of_length_eq_zero (by rw [nums_len]; exact p2))
    subst he
    have HZ : Hid (beginZ s ⟨#[]⟩ = ({ s with takes := 1, text := some (Dt.new0 s.size) }, 354)) := by unfold Hid beginZ; rw [if_neg hne, if_neg (by decide)]
    obtain ⟨a1, a2⟩ := h.at'.put (s' := { s with takes := 1 }) 3 (.int .i64 1) rfl rfl rfl rfl rfl ⟨h.at'.ok.host, h.at'.ok.size0, h.at'.ok.size1, (by decide : (0 : Int) ≤ 1), (by decide : (1 : Int) ≤ 3), h.at'.ok.sender, h.at'.ok.tos, h.at'.ok.tosz, h.at'.ok.line, h.at'.ok.len⟩
    obtain ⟨b1, b2⟩ := sv_newText a1 ht hl hv
    have hnw := Dt.new_any s.size (w.setCell ⟨m.g, 3, none⟩ (.int .i64 1))
    obtain ⟨W, hW⟩ : ∃ W, w.setCell ⟨m.g, 3, none⟩ (.int .i64 1) = W := ⟨_, rfl⟩
    rw [hW] at a1 a2 b1 b2 hnw
    have HX : Hid (SvAt N ((W.alloc (.cells (Dt.cellsR (.slice none 0 0) (Dt.new0 s.size)) 111)).setCell ⟨m.g, 11, none⟩ (.pointer (some ⟨W.heap.size, 0, none⟩))) (putTx m W.heap.size) { s with takes := 1, text := some (Dt.new0 s.size) } ∧ Mv m (putTx m W.heap.size) w ((W.alloc (.cells (Dt.cellsR (.slice none 0 0) (Dt.new0 s.size)) 111)).setCell ⟨m.g, 11, none⟩ (.pointer (some ⟨W.heap.size, 0, none⟩)))) := ⟨b1, a2.trans b2⟩
    have hk := keep W (.cells (Dt.cellsR (.slice none 0 0) (Dt.new0 s.size)) 111)
    have hB2 : Blk (W.alloc (.cells (Dt.cellsR (.slice none 0 0) (Dt.new0 s.size)) 111)) m.g (cellsS m { s with takes := 1 }) 46 := (hk.block _ a1.blk.lt).trans a1.blk
    have e11 : (W.alloc (.cells (Dt.cellsR (.slice none 0 0) (Dt.new0 s.size)) 111)).cell? ⟨m.g, 11, none⟩ = some (txV m.tx) := by rw [hB2.cell]; rfl
    have ef11 := hB2.frozen 11
    obtain ⟨_, _, e2, _⟩ := sv_cells a1
    clear h hvt hn a1 a2 b1 b2 hk hB2
    go_enter Tryz.func99, Tryz.ntmps99
    go_wp2_with fail
    refine hnw.mono ?_
    rintro e w1 ⟨rfl, rfl⟩
    clear hnw
    go_wp2
    go_ret
    exact ⟨by rw [HZ.out]; rfl, _, by rw [HZ.out]; exact HX.out.1, HX.out.2⟩
  · have he : rest.toList.isEmpty = false := by rw [toList_emp]; simp [p2]
    have HZ : Hid (beginZ s rest = (s, 501)) := by unfold Hid beginZ; rw [if_neg hne, if_pos p2]
    clear h hvt hn
    go_enter Tryz.func99, Tryz.ntmps99
    go_wp2
    go_ret
    exact ⟨by rw [HZ.out]; rfl, m, by rw [HZ.out]; exact HS.out, Mv.refl _ _⟩
/-- RSET, QUIT. -/
def leaveC (s : SS) (verb rest : ByteArray) : SS × Int :=
  if rest.size ≠ 0 then (s, 501) else if verb.toList = [81, 85, 73, 84] then ({ resetZ s with takes := 3 }, 221) else (resetZ s, 250)
set_option maxHeartbeats 8000000 in
set_option maxRecDepth 100000 in
theorem leave_any (N : Nat) (mx : Int) (m : Sm) (s : SS) (w : World) (verb rest : ByteArray) (h : SG N mx w m s) :
    Calls Tryz.prog 100 #[.pointer (some ⟨m.g, 0, none⟩), .string verb, .string rest] w fun e w' => e = .returned (.int .i64 (leaveC s verb rest).2) ∧ ∃ m', SvAt N w' m' (leaveC s verb rest).1 ∧ Mv m m' w w' := by
  have HS : Hid (SvAt N w m s) := h.at'
  by_cases p2 : rest.size = 0
  rotate_left
  · have he : rest.toList.isEmpty = false := by rw [toList_emp]; simp [p2]
    have HZ : Hid (leaveC s verb rest = (s, 501)) := by unfold Hid leaveC; rw [if_pos p2]
    clear h
    go_enter Tryz.func100, Tryz.ntmps100
    go_wp2
    go_ret
    exact ⟨by rw [HZ.out]; rfl, m, by rw [HZ.out]; exact HS.out, Mv.refl _ _⟩
  have he : rest = ⟨#[]⟩ := nums_inj (List.eq_nil_of_length_eq_zero (by rw [nums_len]; exact p2))
  subst he
  have hre := reset_any N m s w h.at'
  by_cases p1 : verb.toList = [81, 85, 73, 84]
  · have HZ : Hid (leaveC s verb ⟨#[]⟩ = ({ resetZ s with takes := 3 }, 221)) := by unfold Hid leaveC; rw [if_neg (by decide), if_pos p1]
    have p1' : (verb.toList == [81, 85, 73, 84]) = true := by rw [p1]; rfl
    clear h
    go_enter Tryz.func100, Tryz.ntmps100
    go_wp2_with fail
    refine hre.mono ?_
    rintro e w1 ⟨⟨v, rfl⟩, h1, h2⟩
    clear hre
    obtain ⟨c0, c1, c2, c3, c4, c5, c6, c7, c8, c9, c10, c11⟩ := sv_cells h1
    have f3 : w1.frozen? ⟨m.g, 3, none⟩ = false := h1.blk.frozen 3
    have c3 : w1.cell? ⟨m.g, 3, none⟩ = some (.int .i64 s.takes) := c3
    obtain ⟨a1, a2⟩ := h1.put (s' := { resetZ s with takes := 3 }) 3 (.int .i64 3) rfl rfl rfl rfl rfl ⟨h1.ok.host, h1.ok.size0, h1.ok.size1, (by decide : (0 : Int) ≤ 3), (by decide : (3 : Int) ≤ 3), h1.ok.sender, h1.ok.tos, h1.ok.tosz, h1.ok.line, h1.ok.len⟩
    have HX : Hid (SvAt N (w1.setCell ⟨m.g, 3, none⟩ (.int .i64 3)) (noTos m) { resetZ s with takes := 3 } ∧ Mv m (noTos m) w (w1.setCell ⟨m.g, 3, none⟩ (.int .i64 3))) := ⟨a1, h2.trans a2⟩
    clear h1 h2 a1 a2 c0 c1 c2 c4 c5 c6 c7 c8 c9 c10 c11
    go_wp2
    go_ret
    exact ⟨by rw [HZ.out]; rfl, _, by rw [HZ.out]; exact HX.out.1, HX.out.2⟩
  · have HZ : Hid (leaveC s verb ⟨#[]⟩ = (resetZ s, 250)) := by unfold Hid leaveC; rw [if_neg (by decide), if_neg p1]
    have p1' : (verb.toList == [81, 85, 73, 84]) = false := by simpa using p1
    clear h
    go_enter Tryz.func100, Tryz.ntmps100
    go_wp2_with fail
    refine hre.mono ?_
    rintro e w1 ⟨⟨v, rfl⟩, h1, h2⟩
    have HX : Hid (SvAt N w1 (noTos m) (resetZ s) ∧ Mv m (noTos m) w w1) := ⟨h1, h2⟩
    clear hre h1 h2
    go_wp2
    go_ret
    exact ⟨by rw [HZ.out]; rfl, _, by rw [HZ.out]; exact HX.out.1, HX.out.2⟩
end Go.Proofs.YtbckbonffajmeaaGreatDoor
