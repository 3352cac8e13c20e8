/-
  A session takes bytes: the contract of Put.
-/
import Derived.Test.YtbckbonffajmeaaGreatDoorSt
import Derived.Test.YtbckbonffajmeaaGreatDoorBu
namespace Go.Proofs.YtbckbonffajmeaaGreatDoor
open Go.RowKit Go.Shelf Go.Maps
set_option linter.unusedVariables false
set_option linter.unusedSimpArgs false

/-- A builder beside a session. -/
structure Bs (w0 : World) (b : Nat) (m : Sm) (w : World) (out : List Int) : Prop where
  bd : Bd w b out
  dis : ∀ k, bO b w k → w0.heap.size ≤ k ∧ ¬ sO m w k
theorem step_tk {N : Nat} {mx : Int} {w0 w1 w2 : World} {b : Nat} {m0 m : Sm} {s : SS} {out : List Int} (hg : SG N mx w1 m s) (hm : Mv m0 m w0 w1) (hob : m0.ob < w0.heap.size) (h9 : 9 ≤ w0.heap.size) (hb : Bs w0 b m w1 out) (hT : Tk (bO b w1) w1 w2) :
    SG N mx w2 m s ∧ Mv m0 m w0 w2 ∧ ∀ k, sO m w2 k → sO m w1 k := by
  have hn : ∀ k, sO m w1 k ∨ k = m.ob → w2.heap[k]? = w1.heap[k]? := fun k hk => by
    refine hT.2.2.2.2 k (sO_lt hg.at' hk) (fun q => ?_)
    obtain ⟨q1, q2⟩ := hb.dis k q
    rcases hk with hk | rfl
    · exact q2 hk
    · rw [hm.ob] at q1; omega
  obtain ⟨h1, h2⟩ := hg.at'.keep hT.size hn
  exact ⟨⟨h1, hg.gl.keep hT.size (fun k hk => hT.2.2.2.2 k (by have := hg.gl.size; omega) (fun q => by have := (hb.dis k q).1; omega)), fun k q => hg.lo k (h2 k q)⟩,
    ⟨⟨hT.1.trans hm.tk.1, hT.2.1.trans hm.tk.2.1, hT.2.2.1.trans hm.tk.2.2.1, Nat.le_trans hm.tk.size hT.size, fun k hk hO => (hT.2.2.2.2 k (by have := hm.tk.size; omega) (fun q => by have := (hb.dis k q).1; omega)).trans (hm.tk.2.2.2.2 k hk hO)⟩, fun k q => hm.fresh k (h2 k q), hm.g, hm.ob⟩, h2⟩
theorem step_b {N : Nat} {mx : Int} {w0 w1 w2 : World} {b : Nat} {m0 m : Sm} {s : SS} {out out' : List Int} (hg : SG N mx w1 m s) (hm : Mv m0 m w0 w1) (hob : m0.ob < w0.heap.size) (h9 : 9 ≤ w0.heap.size) (hb : Bs w0 b m w1 out) (hbd : Bd w2 b out') (hbm : Bm b w1 w2) :
    SG N mx w2 m s ∧ Mv m0 m w0 w2 ∧ Bs w0 b m w2 out' := by
  obtain ⟨h1, h2, h3⟩ := step_tk hg hm hob h9 hb hbm.tk
  refine ⟨h1, h2, hbd, fun k q => ?_⟩
  rcases hbm.fresh k q with q | q
  · exact ⟨(hb.dis k q).1, fun r => (hb.dis k q).2 (h3 k r)⟩
  · exact ⟨by have := hm.tk.size; omega, fun r => by have := sO_lt hg.at' (.inl (h3 k r)); omega⟩
theorem step_s {w0 w1 w2 : World} {b : Nat} {m0 m m' : Sm} {out : List Int} (hm : Mv m0 m w0 w1) (hb : Bs w0 b m w1 out) (hv : Mv m m' w1 w2) : Mv m0 m' w0 w2 ∧ Bs w0 b m' w2 out := by
  obtain ⟨h1, h2⟩ := hb.bd.keep (w' := w2) (fun k hk => hv.tk.2.2.2.2 k (bO_lt hb.bd hk) (hb.dis k hk).2)
  refine ⟨hm.trans hv, h1, fun k q => ⟨(hb.dis k (h2 k q)).1, fun r => ?_⟩⟩
  rcases hv.fresh k r with r | r
  · exact (hb.dis k (h2 k q)).2 r
  · have := bO_lt hb.bd (h2 k q); omega
theorem row_mv {w0 w : World} {m0 m : Sm} {a : Option Addr} {l : List Int} (h : Row w0 a l) (hs : ∀ b off, a = some ⟨b, off, none⟩ → ¬ sO m0 w0 b) (hm : Mv m0 m w0 w) (hl : l ≠ []) : Row w a l ∧ ∀ b off, a = some ⟨b, off, none⟩ → ¬ sO m w b := by
  rcases h with q | ⟨b, off, rfl, h⟩
  · exact absurd q hl
  have h0 : 0 < l.length := List.length_pos_iff.2 hl
  have hlt := World.block_lt_of_cell? w0 _ (h 0 h0)
  have hn := hs b off rfl
  have hlt : b < w0.heap.size := hlt
  refine ⟨.inr ⟨b, off, rfl, fun i hi => ?_⟩, fun b' off' e q => ?_⟩
  · rw [World.cell?_of_block (hm.tk.2.2.2.2 b hlt hn)]
    exact h i hi
  · cases e
    rcases hm.fresh b q with q | q
    · exact hn q
    · omega
theorem run_pos (rs : Dt.RS) {l : List Int} (h : l ≠ []) : 1 ≤ (Dt.runZ rs l).2 := by
  cases l with
  | nil => exact absurd rfl h
  | cons c l =>
    rw [Dt.runZ]
    split
    · exact Nat.le_refl _
    · exact Nat.le_add_left _ _
theorem textS_n (s : SS) (r : Dt.RS × Nat) : (textS s r).2.2 = r.2 := by
  unfold textS
  split
  · split <;> rfl
  · rfl
theorem SvAt.any {N N' : Nat} {w : World} {m : Sm} {s : SS} (h : SvAt N w m s) (ht : s.text = none) : SvAt N' w m s := by
  refine ⟨h.blk, h.tos, h.line, h.map, ?_, h.nol, h.ok⟩
  have hx := h.tx
  rw [ht] at hx ⊢
  cases e : m.tx with
  | none => trivial
  | some p => rw [e] at hx; exact hx.elim
theorem SG.any {N N' : Nat} {mx : Int} {w : World} {m : Sm} {s : SS} (h : SG N mx w m s) (ht : s.text = none) : SG N' mx w m s := ⟨h.at'.any ht, h.gl, h.lo⟩
theorem text_all {s : SS} {rs : Dt.RS} {l : List Int} (h : (textS s (Dt.runZ rs l)).1.takes = 1) : (Dt.runZ rs l).2 = l.length := by
  refine Dt.run_all l rs ?_
  cases e : (Dt.runZ rs l).1.over with
  | false => rfl
  | true =>
    unfold textS at h
    rw [if_pos e] at h
    split at h
    · cases h
    · cases h
set_option maxHeartbeats 16000000 in
set_option maxRecDepth 100000 in
theorem sputL_any (N : Nat) (mx : Int) (m : Sm) (s : SS) (w : World) (h : SG N mx w m s) (hw : WfS s) (hh : s.host.size ≠ 0) (a : Option Addr) (n c : Nat) (l : List Int) (hl : l.length = n) (hc : n ≤ c) (hb : Byt l) (hrow : Row w a l) (hsep : l ≠ [] → ∀ b off, a = some ⟨b, off, none⟩ → ¬ sO m w b) (hN : N + n ≤ 800000000) :
    Calls Tryz.prog 13 #[.pointer (some ⟨m.g, 0, none⟩), .slice a n c] w fun e w' => e = .returned (.tuple #[.int .i64 ((runS s l).2.2 : Nat), .string (strOfNums (runS s l).2.1)]) ∧ ∃ m', SvAt (N + n) w' m' (runS s l).1 ∧ Mv m m' w w' ∧ (runS s l).2.1.length ≤ 1200 * n := by
  have hm := made_yes N m s w h.at' hh
  have HS : Hid (SG N mx w m s ∧ WfS s) := ⟨h, hw⟩
  have HL : Hid (l.length = n ∧ n ≤ c ∧ Byt l ∧ N + n ≤ 800000000) := ⟨hl, hc, hb, hN⟩
  have HROW : Hid (Row w a l ∧ (l ≠ [] → ∀ b off, a = some ⟨b, off, none⟩ → ¬ sO m w b)) := ⟨hrow, hsep⟩
  have HOB : Hid (m.ob < w.heap.size ∧ 9 ≤ w.heap.size) := ⟨sO_lt h.at' (.inr rfl), h.gl.size⟩
  clear h hw hh hb hrow hsep
  go_enter Tryz.func13, Tryz.ntmps13
  go_wp2_with fail
  refine hm.mono ?_
  rintro e w1 ⟨rfl, rfl⟩
  clear hm
  go_wp2_with fail
  go_loopw [7, 8, 9] (fun v v8 v9 wr => ∃ (k M : Nat) (m' : Sm) (s' : SS) (out : List Int), v = .int .i64 k ∧ k ≤ n ∧ (M ≤ N + n ∧ (s'.takes = 1 → M ≤ N + k)) ∧ SG M mx wr m' s' ∧ WfS s' ∧ Mv m m' w1 wr ∧ Bs w1 w1.heap.size m' wr out ∧ (out.length ≤ 1200 * k ∧ runS s l = ((runS s' (l.drop k)).1, out ++ (runS s' (l.drop k)).2.1, (runS s' (l.drop k)).2.2 + k))) (fun v v8 v9 _ => n - (intOf v).toNat)
  case atStart =>
    obtain ⟨g1, v1⟩ := HS.out.1.below (keep w1 (.cells #[.pointer none, .slice none 0 0] 68))
    have hbk : Blk (w1.alloc (.cells #[.pointer none, .slice none 0 0] 68)) w1.heap.size (cellsB (.pointer none) (.slice none 0 0)) 68 := World.alloc_heap_new w1 _
    refine ⟨0, N, m, s, [], rfl, Nat.zero_le _, ⟨Nat.le_add_right _ _, fun _ => Nat.le_refl _⟩, g1, HS.out.2, v1, ⟨⟨_, _, .inl rfl, hbk, World.ownsRow_nil _ _ _ _, fun _ => rfl⟩, fun k q => ?_⟩, Nat.zero_le _, by simp⟩
    have e : k = w1.heap.size := by
      rcases q with q | ⟨u, q1, q2⟩
      · exact q
      · rw [hbk.cell] at q1
        have q1 : some (Value.slice none 0 0) = some u := q1
        injection q1 with q1
        subst q1
        simp [Value.ownBlock] at q2
    subst e
    refine ⟨Nat.le_refl _, fun r => ?_⟩
    have hk := keep w1 (.cells #[.pointer none, .slice none 0 0] 68)
    have := (HS.out.1.at'.keep hk.size (fun k q => hk.block k (sO_lt HS.out.1.at' q))).2 _ r
    have := sO_lt HS.out.1.at' (.inl this)
    omega
  case round =>
    obtain ⟨k, M, m', s', out, rfl, hk, hM, hg, hwf, hmv, hbs, hol, hrun⟩ := hrel
    have HM : Hid (M ≤ N + n ∧ (s'.takes = 1 → M ≤ N + k)) := hM
    have HG : Hid (SG M mx wr m' s' ∧ WfS s' ∧ Mv m m' w1 wr ∧ Bs w1 w1.heap.size m' wr out) := ⟨hg, hwf, hmv, hbs⟩
    have HR : Hid (out.length ≤ 1200 * k ∧ runS s l = ((runS s' (l.drop k)).1, out ++ (runS s' (l.drop k)).2.1, (runS s' (l.drop k)).2.2 + k)) := ⟨hol, hrun⟩
    have y3 : wr.cell? ⟨m.g, 3, none⟩ = some (.int .i64 s'.takes) := by
      rw [← hmv.g]
      obtain ⟨_, _, _, z, _⟩ := sv_cells hg.at'
      exact z
    clear hM hg hwf hmv hbs hol hrun
    have fin : ∀ (k' : Nat), (runS s l).2.2 = k' → (runS s l).2.1 = out → Calls Tryz.prog 33 #[.pointer (some ⟨w1.heap.size, 0, none⟩)] wr fun e w' => e = .returned (.string (strOfNums (runS s l).2.1)) ∧ SG M mx w' m' s' ∧ Mv m m' w1 w' := fun k' e1 e2 => by
      obtain ⟨g1, g2, g3, g4⟩ := HG.out
      rw [e2]
      refine (bstr_any w1.heap.size out wr g4.bd (by rw [← e2]; exact runS_byt l s) (by have := HR.out.1; have := HL.out.2.2.2; omega)).mono ?_
      rintro e w' ⟨rfl, hT⟩
      obtain ⟨x1, x2, _⟩ := step_tk g1 g3 HOB.out.1 HOB.out.2 g4 hT
      exact ⟨rfl, x1, x2⟩
    obtain ⟨tk, htk⟩ : ∃ x, s'.takes = x := ⟨_, rfl⟩
    rw [htk] at y3
    by_cases hlt : k < n
    rotate_left
    · have hd : decide ((k : Int) < (n : Int)) = false := by simp; omega
      have hz : runS s l = (s', out, k) := by
        rw [HR.out.2, List.drop_eq_nil_of_le (by rw [HL.out.1]; omega)]; simp [runS]
      have hf := fin k (by rw [hz]) (by rw [hz])
      rw [hz] at hf
      have HZ : Hid (runS s l = (s', out, k)) := hz
      clear hz
      have hkn : k = n := by omega
      subst hkn
      go_wp2_with fail
      refine hf.mono ?_
      rintro e w2 ⟨rfl, g1, v1⟩
      have HF : Hid (SvAt (N + k) w2 m' s' ∧ Mv m m' w1 w2) := ⟨g1.at'.mono HM.out.1, v1⟩
      clear hf g1 v1
      go_wp2
      go_ret2
      exact ⟨by rw [HZ.out] <;> rfl, m', by rw [HZ.out]; exact HF.out.1, HF.out.2, by rw [HZ.out]; have := HR.out.1; show out.length ≤ _; omega⟩
    have hd : decide ((k : Int) < (n : Int)) = true := by simp; omega
    have hlt' : k < l.length := by rw [HL.out.1]; exact hlt
    obtain ⟨x, hx⟩ : ∃ x, l[k]'hlt' = x := ⟨_, rfl⟩
    have HD : Hid (l.drop k = x :: l.drop (k + 1)) := by unfold Hid; rw [List.drop_eq_getElem_cons hlt', hx]
    have hl0 : l ≠ [] := fun e => by rw [e] at hlt'; simp at hlt'
    have hxb : 0 ≤ x ∧ x < 256 := HL.out.2.2.1 x (by rw [← hx]; exact List.getElem_mem hlt')
    obtain ⟨rw1, rw2⟩ := row_mv HROW.out.1 (HROW.out.2 hl0) HG.out.2.2.1 hl0
    rcases rw1 with q | ⟨bb, off, rfl, hcell⟩
    · exact absurd q hl0
    by_cases p0 : tk = 0
    · subst p0
      have hck : wr.cell? ⟨bb, off + k, none⟩ = some (.int .u8 x) := by rw [hcell k hlt']; simp [List.getD_eq_getElem?_getD, List.getElem?_eq_getElem hlt', hx]
      have hadd : (⟨bb, off, none⟩ : Addr).add k = ⟨bb, off + k, none⟩ := add_plain bb off k
      have htn := HG.out.2.1.t0 htk
      have GA : Hid (SG (N + k) mx wr m' s') := HG.out.1.any htn
      have htake := take_any (N + k) mx m' s' wr x GA.out (HG.out.2.1.t0 htk) hxb.1 hxb.2
      rw [HG.out.2.2.1.g] at htake
      clear hcell rw2 fin
      go_wp2_with fail
      refine htake.mono ?_
      rintro e w2 ⟨rfl, m2, h2, v2⟩
      obtain ⟨n1, n2⟩ := step_s HG.out.2.2.1 HG.out.2.2.2 v2
      have g2 := GA.out.step h2 v2
      have hsz := byteZ_size HG.out.1.at'.ok x
      have hws := ws_any w1.heap.size out (byteZ s' x).2 w2 n2.bd (by have := HR.out.1; have := HL.out.2.2.2; omega)
      have H2 : Hid (SG (N + k) mx w2 m2 (byteZ s' x).1 ∧ Mv m m2 w1 w2 ∧ Bs w1 w1.heap.size m2 w2 out ∧ (byteZ s' x).2.size ≤ 1200) := ⟨g2, n1, n2, hsz⟩
      clear htake h2 v2 n1 n2 g2 hsz
      go_wp2_with fail
      refine hws.mono ?_
      rintro e w3 ⟨rfl, hbd, hbm⟩
      obtain ⟨x1, x2, x3⟩ := step_b H2.out.1 H2.out.2.1 HOB.out.1 HOB.out.2 H2.out.2.2.1 hbd hbm
      have H3 : Hid (SG (N + k) mx w3 m2 (byteZ s' x).1 ∧ Mv m m2 w1 w3 ∧ Bs w1 w1.heap.size m2 w3 (out ++ nums (byteZ s' x).2)) := ⟨x1, x2, x3⟩
      clear hws hbd hbm x1 x2 x3
      go_wp2_with fail
      go_roundw
      case rel =>
        refine ⟨k + 1, N + k, m2, (byteZ s' x).1, out ++ nums (byteZ s' x).2, by rw [show ((k + 1 : Nat) : Int) = (k : Int) + 1 from by omega], by omega, ⟨by omega, fun _ => by omega⟩, H3.out.1, (byteZ_out htk (HG.out.2.1.t0 htk) x).wf, H3.out.2.1, H3.out.2.2, ?_, ?_⟩
        · rw [List.length_append, nums_len]
          have := HR.out.1
          have := H2.out.2.2.2
          omega
        · rw [HR.out.2, HD.out, runS_byte htk]
          refine Prod.ext rfl (Prod.ext ?_ ?_)
          · simp
          · simp; omega
      case measure => simp [intOf]; omega
    by_cases p1 : tk = 1
    · subst p1
      obtain ⟨rs, hrs, hro⟩ := HG.out.2.1.t1 htk
      have hne : l.drop k ≠ [] := by rw [HD.out]; simp
      have hlk : (l.drop k).length = n - k := by rw [List.length_drop, HL.out.1]
      have GA : Hid (SG (N + k) mx wr m' s') := HG.out.1.mono (HM.out.2 htk)
      have hrk : Row wr (some ⟨bb, off + k, none⟩) (l.drop k) := .inr ⟨bb, off + k, rfl, fun i hi => by
        have := hcell (k + i) (by rw [List.length_drop] at hi; omega)
        rw [show off + k + i = off + (k + i) by omega, this]
        simp [List.getD_eq_getElem?_getD]⟩
      have htt := takeText_any (N + k) mx m' s' wr rs GA.out hrs hro (some ⟨bb, off + k, none⟩) (n - k) (c - k) (l.drop k) hlk hrk (fun b' o' e => by cases e; exact rw2 bb off rfl) (by have := HL.out.2.2.2; omega)
      rw [HG.out.2.2.1.g, show N + k + (n - k) = N + n by omega] at htt
      have hwf := textS_wf htk (Dt.runZ rs (l.drop k))
      have hsz := textS_size HG.out.1.at'.ok (Dt.runZ rs (l.drop k))
      have hpos := run_pos rs hne
      have hle := Dt.run_len (l.drop k) rs
      have hrt := runS_text (l.drop k) s' rs htk hrs hro
      have hall := @text_all s' rs (l.drop k)
      rw [← textS_n s' (Dt.runZ rs (l.drop k))] at hpos hle hrt hall
      rw [hlk] at hle hall
      generalize textS s' (Dt.runZ rs (l.drop k)) = t at htt hwf hsz hpos hle hrt hall
      obtain ⟨t1, t2, t3⟩ := t
      dsimp only at htt hwf hsz hpos hle hrt hall
      have HT : Hid (WfS t1 ∧ t2.size ≤ 1200 ∧ 1 ≤ t3 ∧ t3 ≤ n - k ∧ (t1.takes = 1 → t3 = n - k)) := ⟨hwf, hsz, hpos, hle, hall⟩
      have HRT : Hid (runS s' (l.drop k) = ((runS t1 ((l.drop k).drop t3)).1, nums t2 ++ (runS t1 ((l.drop k).drop t3)).2.1, (runS t1 ((l.drop k).drop t3)).2.2 + t3)) := hrt
      clear fin hrk rw2 hcell hwf hsz hpos hle hrt hall hne hlk hrs hro
      go_wp2_with fail
      refine htt.mono ?_
      rintro e w2 ⟨rfl, m2, h2, v2⟩
      obtain ⟨n1, n2⟩ := step_s HG.out.2.2.1 HG.out.2.2.2 v2
      have g2 := (GA.out.mono (N' := N + n) (by omega)).step h2 v2
      have hws := ws_any w1.heap.size out t2 w2 n2.bd (by have := HT.out.2.1; have := HR.out.1; have := HL.out.2.2.2; omega)
      have H2 : Hid (SG (N + n) mx w2 m2 t1 ∧ Mv m m2 w1 w2 ∧ Bs w1 w1.heap.size m2 w2 out) := ⟨g2, n1, n2⟩
      clear htt h2 v2 n1 n2 g2
      go_wp2_with fail
      refine hws.mono ?_
      rintro e w3 ⟨rfl, hbd, hbm⟩
      obtain ⟨x1, x2, x3⟩ := step_b H2.out.1 H2.out.2.1 HOB.out.1 HOB.out.2 H2.out.2.2 hbd hbm
      have H3 : Hid (SG (N + n) mx w3 m2 t1 ∧ Mv m m2 w1 w3 ∧ Bs w1 w1.heap.size m2 w3 (out ++ nums t2)) := ⟨x1, x2, x3⟩
      clear hws hbd hbm x1 x2 x3
      have ht3 : t3 ≤ 1000000000 := by have := HT.out.2.2.2.1; have := HL.out.2.2.2; omega
      go_wp2_with fail
      go_roundw
      case rel =>
        obtain ⟨q1, q2, q3, q4, q5⟩ := HT.out
        refine ⟨k + t3, N + n, m2, t1, out ++ nums t2, by rw [show ((k + t3 : Nat) : Int) = (k : Int) + (t3 : Int) from by omega], by omega, ⟨Nat.le_refl _, fun e => by have := q5 e; omega⟩, H3.out.1, q1, H3.out.2.1, H3.out.2.2, ?_, ?_⟩
        · rw [List.length_append, nums_len]
          have := HR.out.1
          omega
        · rw [HR.out.2, HRT.out, List.drop_drop]
          refine Prod.ext rfl (Prod.ext ?_ ?_)
          · simp
          · simp; omega
      case measure =>
        obtain ⟨q1, q2, q3, q4, q5⟩ := HT.out
        simp [intOf]; omega
    · have p0' : (tk == 0) = false := by simpa using p0
      have p1' : (tk == 1) = false := by simpa using p1
      have hz : runS s l = (s', out, k) := by
        rw [HR.out.2, runS_stop (by rw [htk]; exact fun q => q.elim p0 p1)]; simp
      have hf := fin k (by rw [hz]) (by rw [hz])
      rw [hz] at hf
      have HZ : Hid (runS s l = (s', out, k)) := hz
      clear hz
      clear fin rw2 hcell
      go_wp2_with fail
      refine hf.mono ?_
      rintro e w2 ⟨rfl, g1, v1⟩
      have HF : Hid (SvAt (N + n) w2 m' s' ∧ Mv m m' w1 w2) := ⟨g1.at'.mono HM.out.1, v1⟩
      clear hf g1 v1
      go_wp2
      go_ret2
      exact ⟨by rw [HZ.out] <;> rfl, m', by rw [HZ.out]; exact HF.out.1, HF.out.2, by rw [HZ.out]; have := HR.out.1; show out.length ≤ _; omega⟩
theorem sput_any (N : Nat) (mx : Int) (m : Sm) (s : SS) (w : World) (h : SG N mx w m s) (hw : WfS s) (hh : s.host.size ≠ 0) (a : Option Addr) (n c : Nat) (l : List Int) (hl : l.length = n) (hc : n ≤ c) (hb : Byt l) (hrow : Row w a l) (hsep : l ≠ [] → ∀ b off, a = some ⟨b, off, none⟩ → ¬ sO m w b) (hN : N + n ≤ 800000000) :
    Calls Tryz.prog 13 #[.pointer (some ⟨m.g, 0, none⟩), .slice a n c] w fun e w' => e = .returned (.tuple #[.int .i64 ((runS s l).2.2 : Nat), .string (strOfNums (runS s l).2.1)]) ∧ ∃ m', SvAt (N + n) w' m' (runS s l).1 ∧ Mv m m' w w' := by
  refine (sputL_any N mx m s w h hw hh a n c l hl hc hb hrow hsep hN).mono ?_
  rintro e w' ⟨h1, m', h2, h3, _⟩
  exact ⟨h1, m', h2, h3⟩
end Go.Proofs.YtbckbonffajmeaaGreatDoor
