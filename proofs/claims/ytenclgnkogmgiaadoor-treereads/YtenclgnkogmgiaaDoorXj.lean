/-
  Read.
-/
import Derived.Test.YtenclgnkogmgiaaDoorXb
import Derived.Deep.RegionLaw
namespace Go.Proofs.YtenclgnkogmgiaaDoor
open Go.RowKit Go.Shelf
set_option linter.unusedVariables false
set_option linter.unusedSimpArgs false

def TrAns (l : List Int) (W : World) (x y z : Value) (c : Int) : Prop :=
  (∃ p, RF l p c ∧ x = .string ⟨#[]⟩ ∧ y = .slice none 0 0 ∧ z = .slice none 0 0) ∨
  (∃ ms, ROk l ms ∧ ((rdM [] (ms.map Lm.ln) = none ∧ c = 100 ∧ x = .string ⟨#[]⟩ ∧ y = .slice none 0 0 ∧ z = .slice none 0 0) ∨
    (∃ t, rdM [] (ms.map Lm.ln) = some t ∧ c = 0 ∧ (∀ k, FitC k t) ∧ CpAt 4097 W t x y z)))
def TrPost (w : World) (l : List Int) (e : Ending) (w' : World) : Prop :=
  ∃ x y z c, e = .returned (.tuple #[compV x y z, .int .i64 c]) ∧ Below w.heap.size w w' ∧ TrAns l w' x y z c
theorem tr_fin {w W : World} {l : List Int} {x y z : Value} {c : Int} {A : Act} {R : Nat} (hR : Blk W R #[x, y, z] 25) (hb : Below w.heap.size w W) (hans : TrAns l W x y z c) (hd : A.defers = [])
    (h2 : A.tmps[2]?.getD undef = .pointer (some ⟨R, 0, none⟩)) (h3 : A.tmps[3]?.getD undef = .int .i64 c) : bodyPost Tryd.prog Tryd.f16 (TrPost w l) .ret A W := by
  obtain ⟨c0, c1, c2⟩ := cells3 hR
  refine bodyPost_ret (v := .tuple #[compV x y z, .int .i64 c]) ?_ hd ⟨x, y, z, c, rfl, hb, hans⟩
  simp [results, Tryd.results16, go_sem, c0, c1, c2, h2, h3, compV]
theorem Tryd.info25 : (Tryd.prog.info? 25).map (fun i => (i.zero, i.size, i.bytes)) = some (some (.agg #[.string ⟨#[]⟩, .slice none 0 0, .slice none 0 0]), 3, 64) := by kernel_rfl
theorem large_byte : ∀ c : Nat, c < 256 → (largeZ (c : Int)).toNat < 256 ∧ 0 ≤ largeZ (c : Int) := by
  intro c hc
  unfold largeZ
  split <;> omega
theorem nums_large (s : ByteArray) : nums (strOfNums ((nums s).map largeZ)) = (nums s).map largeZ := nums_str (fun x hx => by
  obtain ⟨y, hy, rfl⟩ := List.mem_map.1 hx
  have := nums_byt s y hy
  unfold largeZ
  split <;> omega)
theorem rdM_bad {st : List Cp} {l : Ln} {r : List Ln} (h1 : (frZ l.name && decide (l.pars ≠ [])) = true) : rdM st (l :: r) = none := by
  rw [rdM.eq_def]; simp only; rw [if_pos h1]
theorem rdM_bg {st : List Cp} {l : Ln} {r : List Ln} (h1 : (frZ l.name && decide (l.pars ≠ [])) = false) (h2 : l.name = bgZ) : rdM st (l :: r) = rdM (⟨l.value.map largeZ, [], []⟩ :: st) r := by
  rw [rdM.eq_def]; simp only; rw [if_neg (by rw [h1]; decide), if_pos h2]
theorem rdM_empty {l : Ln} {r : List Ln} (h1 : (frZ l.name && decide (l.pars ≠ [])) = false) (h2 : ¬ l.name = bgZ) : rdM [] (l :: r) = none := by
  rw [rdM.eq_def]; simp only; rw [if_neg (by rw [h1]; decide), if_neg h2]
theorem rdM_own {f : Cp} {st : List Cp} {l : Ln} {r : List Ln} (h1 : (frZ l.name && decide (l.pars ≠ [])) = false) (h2 : ¬ l.name = bgZ) (h3 : ¬ l.name = enZ) : rdM (f :: st) (l :: r) = rdM (⟨f.nm, f.ls ++ [l], f.cs⟩ :: st) r := by
  rw [rdM.eq_def]; simp only; rw [if_neg (by rw [h1]; decide), if_neg h2, if_pos h3]
theorem rdM_end {f : Cp} {st : List Cp} {l : Ln} {r : List Ln} (h1 : (frZ l.name && decide (l.pars ≠ [])) = false) (h2 : ¬ l.name = bgZ) (h3 : l.name = enZ) (h4 : l.value.map largeZ ≠ f.nm) : rdM (f :: st) (l :: r) = none := by
  rw [rdM.eq_def]; simp only; rw [if_neg (by rw [h1]; decide), if_neg h2, if_neg (by rw [h3]; simp), if_pos h4]
theorem rdM_close {f g : Cp} {st : List Cp} {l : Ln} {r : List Ln} (h1 : (frZ l.name && decide (l.pars ≠ [])) = false) (h2 : ¬ l.name = bgZ) (h3 : l.name = enZ) (h4 : l.value.map largeZ = f.nm) : rdM (f :: g :: st) (l :: r) = rdM (⟨g.nm, g.ls, g.cs ++ [f]⟩ :: st) r := by
  rw [rdM.eq_def]; simp only; rw [if_neg (by rw [h1]; decide), if_neg h2, if_neg (by rw [h3]; simp), if_neg (by rw [h4]; simp)]
theorem rdM_last {f : Cp} {l : Ln} {r : List Ln} (h1 : (frZ l.name && decide (l.pars ≠ [])) = false) (h2 : ¬ l.name = bgZ) (h3 : l.name = enZ) (h4 : l.value.map largeZ = f.nm) : rdM [f] (l :: r) = if r = [] ∧ rightT f = true then some f else none := by
  rw [rdM.eq_def]; simp only; rw [if_neg (by rw [h1]; decide), if_neg h2, if_neg (by rw [h3]; simp), if_neg (by rw [h4]; simp)]
theorem orow_kept {N : Nat} {V V' : World} {vo : Value} {f : Fm} {fr : List Fm} (h : Fo N V (rows vo (f :: fr))) (hg : V.grownBy V' f.vl.ownBlock) : V'.ownsRow N 25 3 vo (fr.length + 1) (fr.reverse.flatMap cellC ++ cellC f) := by
  have e0 : rows vo (f :: fr) = ⟨vo, 25, fr.length + 1, fr.reverse.flatMap cellC ++ cellC f⟩ :: f.rl :: f.rc :: fr.flatMap fun f => [f.rl, f.rc] := by unfold rows; simp
  rw [e0] at h
  exact (h.1 _ (List.mem_cons_self ..)).kept hg ((h.perm (List.Perm.swap _ _ _)).head (List.mem_cons_self ..))
theorem orow_kept2 {N : Nat} {V V' : World} {vo : Value} {f g : Fm} {fr : List Fm} (h : Fo N V (rows vo (f :: g :: fr))) (hg : V.grownBy V' g.vc.ownBlock) : V'.ownsRow N 25 3 vo (fr.length + 1 + 1) (fr.reverse.flatMap cellC ++ cellC g ++ cellC f) := by
  have e0 : rows vo (f :: g :: fr) = ⟨vo, 25, fr.length + 1 + 1, (fr.reverse.flatMap cellC ++ cellC g) ++ cellC f⟩ :: f.rl :: f.rc :: g.rl :: g.rc :: fr.flatMap fun f => [f.rl, f.rc] := by unfold rows; simp
  rw [e0] at h
  exact (h.1 _ (List.mem_cons_self ..)).kept hg ((h.perm mid_perm).head (List.mem_cons_self ..))
theorem row_form {W : World} {N e n : Nat} {v : Value} {cs : List Value} (h : W.ownsRow N e 3 v n cs) : ∃ a c, v = .slice a n c := by
  rcases h.2 with ⟨q, q2⟩ | ⟨g, cap, cur, q, _⟩
  · exact ⟨none, 0, by rw [q, q2]⟩
  · exact ⟨_, _, q⟩
theorem SJ.rows_at {R N j : Nat} {vo : Value} {f : Fm} {fr : List Fm} {V : World} (h : SJ R N j vo (f :: fr) V) : V.ownsRow N 25 3 vo (fr.length + 1) (fr.reverse.flatMap cellC ++ cellC f) ∧ V.ownsRow N 39 3 f.vl f.ms.length (f.ms.flatMap cellM) ∧ V.ownsRow N 25 3 f.vc f.ts.length (f.xs.flatMap cell3) := by
  have e0 : rows vo (f :: fr) = ⟨vo, 25, fr.length + 1, fr.reverse.flatMap cellC ++ cellC f⟩ :: f.rl :: f.rc :: fr.flatMap fun f => [f.rl, f.rc] := by unfold rows; simp
  have h1 := h.1
  rw [e0] at h1
  exact ⟨h1.1 _ (List.mem_cons_self ..), h1.1 f.rl (by simp), h1.1 f.rc (by simp)⟩
theorem cell_other {W : World} {o i j : Nat} (v : Value) (h0 : True) (h : j ≠ i) : (W.setCell ⟨o, i, none⟩ v).cell? ⟨o, j, none⟩ = W.cell? ⟨o, j, none⟩ := by
  exact World.cell?_setCell_other W ⟨o, i, none⟩ ⟨o, j, none⟩ v (fun q => h (by injection q with _ q2 _; exact q2.symm))
/-- Nothing is read: the answer's place is made empty, and that is told. -/
theorem tr_none {w W : World} {l : List Int} {A : Act} {ms : List Lm} (hR : Blk W w.heap.size #[.string ⟨#[]⟩, .slice none 0 0, .slice none 0 0] 25) (hb : Below w.heap.size w W) (hok : ROk l ms) (hn : rdM [] (ms.map Lm.ln) = none) (hd : A.defers = [])
    (h2 : A.tmps[2]?.getD undef = .pointer (some ⟨w.heap.size, 0, none⟩)) (h3 : A.tmps[3]?.getD undef = .int .i64 100) : bodyPost Tryd.prog Tryd.f16 (TrPost w l) .ret A (fin3 W w.heap.size (.string ⟨#[]⟩) (.slice none 0 0) (.slice none 0 0)) :=
  tr_fin (fin3_blk hR _ _ _) (fin3_below _ _ _ hb (Nat.le_refl _)) (.inr ⟨ms, hok, .inl ⟨hn, rfl, rfl, rfl, rfl⟩⟩) hd h2 h3
theorem own_cell {W : World} {B o on oc n : Nat} {pre : List Value} {a b c : Value} {r : List Value} (h : W.ownsRow B 25 3 (.slice (some ⟨o, 0, none⟩) on oc) n (pre ++ a :: b :: c :: r)) :
    W.cell? ⟨o, pre.length, none⟩ = some a ∧ W.cell? ⟨o, pre.length + 1, none⟩ = some b ∧ W.cell? ⟨o, pre.length + 2, none⟩ = some c := by
  have h0 := h.cells (g := o) rfl pre.length a (by rw [List.getElem?_append_right (Nat.le_refl _), Nat.sub_self]; rfl)
  have h1 := h.cells (g := o) rfl (pre.length + 1) b (by rw [List.getElem?_append_right (by omega), Nat.add_sub_cancel_left]; rfl)
  have h2 := h.cells (g := o) rfl (pre.length + 2) c (by rw [List.getElem?_append_right (by omega), Nat.add_sub_cancel_left]; rfl)
  rw [add_plain, Nat.zero_add] at h0 h1 h2
  exact ⟨h0, h1, h2⟩
theorem own_frozen {W : World} {B e o on oc n : Nat} {xs : List Value} (h : W.ownsRow B e 3 (.slice (some ⟨o, 0, none⟩) on oc) n xs) (i : Nat) : W.frozen? ⟨o, i, none⟩ = false := by
  rcases h.2 with ⟨q, _⟩ | ⟨g, cap, cur, q1, _, q3, _⟩
  · cases q
  · cases q1; exact frozen_of_row W _ _ _ _ q3
set_option maxHeartbeats 32000000 in
set_option maxRecDepth 100000 in
theorem read_tree (a : Option Addr) (len cap : Nat) (l : List Int) (w : World) (hl : l.length = len) (hb : Byt l) (hcap : len ≤ cap) (hcm : cap ≤ maxLen) (hr : Row w a l) (mx : Int) (hm : w.cell? ⟨0, 0, none⟩ = some (.int .i64 mx)) :
    Calls Tryd.prog 16 #[.slice a len cap] w (TrPost w l) := by
  have hkA := keep w (.cells #[.string ⟨#[]⟩, .slice none 0 0, .slice none 0 0] 25)
  have hrd := read_any a len cap l (w.alloc (.cells #[.string ⟨#[]⟩, .slice none 0 0, .slice none 0 0] 25)) hl hb hcap hcm (row_below hr hkA) mx (cell_keep hkA hm)
  have HKA : Hid (Below w.heap.size w (w.alloc (.cells #[.string ⟨#[]⟩, .slice none 0 0, .slice none 0 0] 25))) := hkA
  have HRA : Hid (Blk (w.alloc (.cells #[.string ⟨#[]⟩, .slice none 0 0, .slice none 0 0] 25)) w.heap.size #[.string ⟨#[]⟩, .slice none 0 0, .slice none 0 0] 25) := Blk.new _ _ _
  clear hkA hr hb hm hl
  go_enter Tryd.func16, Tryd.ntmps16
  go_wp2
  refine wp_scope_straight ?_
  go_wp2_with fail
  refine hrd.mono ?_
  rintro e w1 ⟨v, p, code, rfl, hb1, hans⟩
  clear hrd
  have HB1 : Hid (Below w.heap.size w w1) := HKA.out.trans (hb1.mono HKA.out.size)
  have hR1 : Blk w1 w.heap.size #[.string ⟨#[]⟩, .slice none 0 0, .slice none 0 0] 25 := HRA.out.below hb1 HRA.out.lt
  clear hb1
  rcases hans with ⟨hrf, rfl⟩ | ⟨rfl, rfl, la, lc, ls, rfl, hlr, hok⟩
  · have hne := (read_wrong hrf).2
    have HRF : Hid (RF l p code) := hrf
    have HR1 : Hid (Blk w1 w.heap.size #[.string ⟨#[]⟩, .slice none 0 0, .slice none 0 0] 25) := hR1
    obtain ⟨c0, c1, c2⟩ := cells3 hR1
    have f0 := hR1.frozen 0
    have f1 := hR1.frozen 1
    have f2 := hR1.frozen 2
    have hlt : w.heap.size < w1.heap.size := hR1.lt
    have hne2 : ¬ w.heap.size = w1.heap.size := by omega
    clear hrf hR1
    go_wp2
    go_region
    all_goals go_wp2
    all_goals
      simp only [Exit.noGoto]
      exact tr_fin (c := code) (R := w.heap.size) (show Blk _ _ #[.string ⟨#[]⟩, .slice none 0 0, .slice none 0 0] _ from (fin3_blk HR1.out (.string ⟨#[]⟩) (.slice none 0 0) (.slice none 0 0)).alloc (.cells #[.int .i64 p, .int .i64 code] 56)) (below_drew ((fin3_below (.string ⟨#[]⟩) (.slice none 0 0) (.slice none 0 0) HB1.out (Nat.le_refl _)).alloc (by simp [fin3]; exact HB1.out.size) _)) (.inl ⟨p, HRF.out, rfl, rfl, rfl⟩) rfl rfl rfl
  · have HOK : Hid (ROk l ls) := hok
    have hn4 : ls.length ≤ 4096 := hok.2.2.2.1
    obtain ⟨n, hn⟩ : ∃ n, ls.length = n := ⟨_, rfl⟩
    have HN : Hid (ls.length = n) := hn
    obtain ⟨w2, hw2⟩ : ∃ w2, w1.alloc (.cells #[.int .i64 0, .int .i64 0] 56) = w2 := ⟨_, rfl⟩
    have hk2 : Below w1.heap.size w1 w2 := by rw [← hw2]; exact keep w1 _
    have HB2 : Hid (Below w.heap.size w w2) := HB1.out.trans (hk2.mono HB1.out.size)
    have hR2 : Blk w2 w.heap.size #[.string ⟨#[]⟩, .slice none 0 0, .slice none 0 0] 25 := hR1.below hk2 hR1.lt
    have HR2 : Hid (Blk w2 w.heap.size #[.string ⟨#[]⟩, .slice none 0 0, .slice none 0 0] 25) := hR2
    have HLR : Hid (LRow w2 la ls) := hlr.below hk2
    have HRT : Hid (∀ m ∈ ls, rightZ m.ln = true) := fun m hm => by
      obtain ⟨i, hi⟩ := List.getElem?_of_mem hm
      obtain ⟨q, _, hq⟩ := hok.2.2.2.2 i m hi
      exact (good_wlen hq).1
    have e1 : w2.cell? ⟨w1.heap.size, 1, none⟩ = some (.int .i64 0) := by rw [← hw2, World.cell?_alloc_mark]; rfl
    obtain ⟨X, hX⟩ : ∃ X, rdM [] (ls.map Lm.ln) = X := ⟨_, rfl⟩
    have HX : Hid (rdM [] (ls.map Lm.ln) = X) := hX
    have hR0 : w.heap.size < w2.heap.size := hR2.lt
    rw [hn] at hn4 ⊢
    have HW2 : Hid (w1.alloc (.cells #[.int .i64 0, .int .i64 0] 56) = w2) := hw2
    clear hlr hok hR1 hk2 hX hR2 hw2 e1
    go_wp2
    refine wp_label ?_
    go_wp2
    go_loopw [23, 6] (fun i o wr => ∃ (k : Nat) (fr : List Fm), i = .int .i64 (k : Nat) ∧ k ≤ n ∧ SJ w.heap.size w2.heap.size k o fr wr ∧ Below w2.heap.size w2 wr ∧ rdM (fr.map Fm.cp) ((ls.map Lm.ln).drop k) = X) (fun i _ _ => n - (intOf i).toNat)
    case atStart =>
      rw [HW2.out]
      exact ⟨0, [], rfl, by omega, ⟨⟨fun r hr => by simp [rows] at hr; subst hr; exact World.ownsRow_nil _ _ _ _, by simp [bks, rows, Value.ownBlock]⟩, Nat.zero_le _, fun f hf => by simp at hf⟩, Below.refl _ _, HX.out⟩
    case round =>
      obtain ⟨k, fr, rfl, hk, hsj, hbw, hrd⟩ := hrel
      have HSJ : Hid (SJ w.heap.size w2.heap.size k u6 fr wr) := hsj
      have HBW : Hid (Below w2.heap.size w2 wr) := hbw
      have HRD : Hid (rdM (fr.map Fm.cp) ((ls.map Lm.ln).drop k) = X) := hrd
      have HB : Hid (Below w.heap.size w wr) := HB2.out.trans (hbw.mono HB2.out.size)
      have HR : Hid (Blk wr w.heap.size #[.string ⟨#[]⟩, .slice none 0 0, .slice none 0 0] 25) := HR2.out.below hbw HR2.out.lt
      have hlrw := HLR.out.below hbw
      have hszw := hbw.size
      have hfl := hsj.2.1
      obtain ⟨oa, on, oc, hvo⟩ : ∃ oa on oc, u6 = .slice oa on oc := by
        have := hsj.1.1 _ (List.mem_cons_self ..)
        rcases this.2 with ⟨q, _⟩ | ⟨g, cap, cur, q, _⟩
        · exact ⟨_, _, _, q⟩
        · exact ⟨_, _, _, q⟩
      subst hvo
      have hon : fr.length = on := by
        have := hsj.1.1 _ (List.mem_cons_self ..)
        rcases this.2 with ⟨q, q2⟩ | ⟨g, cap, cur, q, _⟩
        · cases q; exact q2
        · simp only at q
          injection q with _ q2 _
          exact q2.symm
      have HON : Hid (fr.length = on) := hon
      rw [hon] at hfl
      clear hsj hbw hrd hon
      by_cases hlt : k < n
      · obtain ⟨m, hmk⟩ : ∃ m, ls[k]? = some m := ⟨_, List.getElem?_eq_getElem (by have := HN.out; omega)⟩
        rcases hlrw with h | ⟨b, off, rfl, h⟩
        · rw [h] at hmk; simp at hmk
        obtain ⟨⟨c0, c1, c2⟩, hfrow⟩ := h k m hmk
        have hrm := HRT.out m (List.mem_of_getElem? hmk)
        have hstf : Stay (fun x => x = w.heap.size ∨ x ∈ bks (rows (.slice oa on oc) fr)) wr (fun W => FRow W m.a m.fs) := by
          rcases HLR.out with q | ⟨b', off', q, h'⟩
          · rw [q] at hmk; simp at hmk
          · exact frow_stay (h' k m hmk).2 HR2.out rfl HBW.out HSJ.out.1
        obtain ⟨nm, vl, ma, mc, fs⟩ := m
        simp only at c0 c1 c2 hfrow hstf
        have HM : Hid (ls[k]? = some ⟨nm, vl, ma, mc, fs⟩) := hmk
        have hfit := right_fit hrm
        have HFIT : Hid (FitN (Lm.ln ⟨nm, vl, ma, mc, fs⟩)) := hfit
        obtain ⟨z1, z2, z3, z4⟩ := fit_ln hfit
        simp only at z1 z2 z3
        have HST : Hid (Stay (fun x => x = w.heap.size ∨ x ∈ bks (rows (.slice oa on oc) fr)) wr (fun W => FRow W ma fs)) := hstf
        have HDR : Hid ((ls.map Lm.ln).drop k = ⟨nums nm, numsP fs, nums vl⟩ :: (ls.map Lm.ln).drop (k + 1)) := by
          unfold Hid
          have hkl : k < (ls.map Lm.ln).length := by rw [List.length_map, HN.out]; exact hlt
          rw [List.drop_eq_getElem_cons hkl]
          congr 1
          have : (ls.map Lm.ln)[k]? = some (Lm.ln ⟨nm, vl, ma, mc, fs⟩) := by rw [List.getElem?_map, HM.out]; rfl
          rw [List.getElem?_eq_getElem hkl] at this
          simp only [Option.some.injEq] at this
          exact this
        have HRD2 : Hid (rdM (fr.map Fm.cp) (⟨nums nm, numsP fs, nums vl⟩ :: (ls.map Lm.ln).drop (k + 1)) = X) := by unfold Hid; rw [← HDR.out]; exact HRD.out
        obtain ⟨fn, hfn⟩ : ∃ n, fs.length = n := ⟨_, rfl⟩
        have HFN : Hid (fs.length = fn) := hfn
        rw [hfn] at c1 z3
        have hfc := frames_any nm vl ma fn mc (wr.alloc (.cells #[.string nm, .slice ma fn mc, .string vl] 39))
        obtain ⟨fb, hfb⟩ : ∃ b, frZ (nums nm) = b := ⟨_, rfl⟩
        have HFB : Hid (frZ (nums nm) = fb) := hfb
        rw [hfb] at hfc
        unfold lineV at hfc
        obtain ⟨PB, hPB⟩ : ∃ PB, wr.heap.size = PB := ⟨_, rfl⟩
        have hbx : Blk (wr.alloc (.cells #[.string nm, .slice ma fn mc, .string vl] 39)) wr.heap.size #[.string nm, .slice ma fn mc, .string vl] 39 := Blk.new _ _ _
        have HBX : Hid (Blk (wr.alloc (.cells #[.string nm, .slice ma fn mc, .string vl] 39)) wr.heap.size #[.string nm, .slice ma fn mc, .string vl] 39) := hbx
        clear h hmk hfrow hstf hfit hrm hbx hfn hfb
        go_wp2_with fail
        refine hfc.mono ?_
        rintro e w3 ⟨rfl, hb3⟩
        clear hfc c0 c1 c2
        have hb3w : Below wr.heap.size wr w3 := (keep wr _).trans (hb3.mono (by simp))
        have HSJ3 : Hid (SJ w.heap.size w2.heap.size k (.slice oa on oc) fr w3) := HSJ.out.keep hb3w
        have HBW3 : Hid (Below w2.heap.size w2 w3) := HBW.out.trans (hb3w.mono hszw)
        have HB3 : Hid (Below w.heap.size w w3) := HB.out.trans (hb3w.mono HB.out.size)
        have HR3 : Hid (Blk w3 w.heap.size #[.string ⟨#[]⟩, .slice none 0 0, .slice none 0 0] 25) := HR.out.below hb3w HR.out.lt
        have HBX3 : Hid (Blk w3 wr.heap.size #[.string nm, .slice ma fn mc, .string vl] 39) := HBX.out.below hb3 HBX.out.lt
        have HST3 : Hid (Stay (fun x => x = w.heap.size ∨ x ∈ bks (rows (.slice oa on oc) fr)) w3 (fun W => FRow W ma fs)) := stay_tr HST.out (.of_below hb3w) (fun b q => .inl q)
        obtain ⟨d0, d1, d2⟩ := cells3 HBX3.out
        obtain ⟨r0, r1, r2⟩ := cells3 HR3.out
        have f0 := HR3.out.frozen 0
        have f1 := HR3.out.frozen 1
        have f2 := HR3.out.frozen 2
        have hsz3 := hb3w.size
        clear hb3 hb3w HSJ HBW HB HR HBX HST
        rw [hPB] at d0 d1 d2 hsz3 hszw HBX3
        by_cases hbad : fb = true ∧ 0 < fn
        · obtain ⟨rfl, hfp⟩ := hbad
          have HX0 : Hid (rdM [] (ls.map Lm.ln) = none) := by
            unfold Hid; rw [HX.out, ← HRD2.out]
            have hne : numsP fs ≠ [] := by
              intro q
              have := congrArg List.length q
              rw [numsP, List.length_map, HFN.out] at this
              simp at this; omega
            have hc : (frZ (nums nm) && decide (numsP fs ≠ [])) = true := by rw [HFB.out, decide_eq_true hne]; rfl
            exact rdM_bad hc
          go_wp2
          simp only [Exit.noGoto]
          exact tr_none HR3.out HB3.out HOK.out HX0.out rfl rfl rfl
        have HGO : Hid ((frZ (nums nm) && decide (numsP fs ≠ [])) = false) := by
          unfold Hid
          cases fb with
          | false => rw [HFB.out]; rfl
          | true =>
            have h0 : fs = [] := List.eq_nil_of_length_eq_zero (by rw [HFN.out]; have : ¬ 0 < fn := fun q => hbad ⟨rfl, q⟩; omega)
            rw [h0]; simp [numsP]
        by_cases hbg : nm.toList = [66, 69, 71, 73, 78]
        · have HNB : Hid (nums nm = bgZ) := (bg_iff nm).1 hbg
          obtain rfl : fb = true := by rw [← HFB.out, HNB.out]; rfl
          have hf0 : ¬ 0 < fn := fun q => hbad ⟨rfl, q⟩
          have HXB : Hid (rdM (⟨(nums vl).map largeZ, [], []⟩ :: fr.map Fm.cp) ((ls.map Lm.ln).drop (k + 1)) = X) := by
            unfold Hid; rw [← HRD2.out]; exact (rdM_bg (l := ⟨nums nm, numsP fs, nums vl⟩) HGO.out HNB.out).symm
          have hlc := tlarge_any vl w3 (by omega)
          obtain ⟨s5, hs5⟩ : ∃ s, strOfNums ((nums vl).map largeZ) = s := ⟨_, rfl⟩
          have HS5 : Hid (nums s5 = (nums vl).map largeZ) := by
            unfold Hid; rw [← hs5]; exact nums_large vl
          have hs5z : s5.size ≤ 100000 := by rw [← nums_len, HS5.out, List.length_map, nums_len]; omega
          rw [hs5] at hlc
          obtain ⟨j0, hi, hz0, hz1, hz2⟩ := info_parts Tryd.info25
          go_wp2_with fail
          refine hlc.mono ?_
          rintro e w5 ⟨rfl, hb5⟩
          clear hlc d0 d1 d2 r0 r1 r2 f0 f1 f2
          have hb6 := hb5.trans ((keep w5 (.cells #[.string s5, .slice none 0 0, .slice none 0 0] 25)).mono hb5.size)
          have HSJ6 : Hid (SJ w.heap.size w2.heap.size k (.slice oa on oc) fr (w5.alloc (.cells #[.string s5, .slice none 0 0, .slice none 0 0] 25))) := HSJ3.out.keep hb6
          have HBW6 : Hid (Below w2.heap.size w2 (w5.alloc (.cells #[.string s5, .slice none 0 0, .slice none 0 0] 25))) := HBW3.out.trans (hb6.mono HBW3.out.size)
          have HO6 : Hid ((w5.alloc (.cells #[.string s5, .slice none 0 0, .slice none 0 0] 25)).ownsRow w2.heap.size 25 3 (.slice oa on oc) on (fr.reverse.flatMap cellC)) := by
            have := HSJ6.out.1.1 _ (List.mem_cons_self ..)
            simp only at this
            rw [HON.out] at this
            exact this
          have hsz6 := HBW6.out.size
          have hsz5 := hb5.size
          clear hb6
          go_wp2_with (at_builtin; refine wpList_append_lies _ rfl (.tmp 44) (.tmp 49) 23 rfl w2.heap.size 25 j0 _ 3 64 Tryd.underlying23 hi hz0 hz1 hz2 rfl (by decide) _ on _ rfl HO6.out ⟨w5.heap.size, 0, none⟩ 1 1 [.string s5, .slice none 0 0, .slice none 0 0] rfl rfl (cells_new w5 _ 25) ?a4 (by decide) ?a1 ?a2 hsz6 _ rfl ?_)
          case a4 => intro u hu; simp at hu; rcases hu with rfl | rfl <;> rfl
          case a1 => unfold maxLen; omega
          case a2 => omega
          intro g7 cap7 w7 hown7 hgrow7 hfr7 hlt7
          have hbeg := SJ.begin (s := s5) (g := g7) (vo' := .slice (some ⟨g7, 0, none⟩) (on + 1) cap7) HSJ6.out hs5z hgrow7 (by rw [HON.out]; exact hown7) rfl (hfr7.imp id (fun q => by rw [q, World.size_alloc]; exact Nat.le_refl _))
          have HSJ7 : Hid (SJ w.heap.size w2.heap.size (k + 1) (.slice (some ⟨g7, 0, none⟩) (on + 1) cap7) (⟨s5, .slice none 0 0, [], .slice none 0 0, [], []⟩ :: fr) w7) := hbeg.1
          have HBW7 : Hid (Below w2.heap.size w2 w7) := tk_below hbeg.2 HSJ6.out.1 HBW6.out hsz6
          have HX7 : Hid (rdM ((⟨s5, .slice none 0 0, [], .slice none 0 0, [], []⟩ :: fr : List Fm).map Fm.cp) ((ls.map Lm.ln).drop (k + 1)) = X) := by
            unfold Hid; rw [← HXB.out, List.map_cons]; unfold Fm.cp; rw [HS5.out]; rfl
          clear hbeg hown7 hgrow7 hfr7 hlt7 hb5
          go_wp2
          go_roundw
          case rel => exact ⟨k + 1, _, by go_num, by omega, HSJ7.out, HBW7.out, HX7.out⟩
          case measure => simp [intOf]; omega
        have HNB : Hid (¬ nums nm = bgZ) := fun q => hbg ((bg_iff nm).2 q)
        have hbgB : (nm.toList == [66, 69, 71, 73, 78]) = false := by simpa using hbg
        obtain ⟨f, fr', rfl⟩ | rfl : (∃ f fr', fr = f :: fr') ∨ fr = [] := by cases fr with | nil => exact .inr rfl | cons f fr' => exact .inl ⟨f, fr', rfl⟩
        rotate_left
        · obtain rfl : on = 0 := HON.out.symm
          have hfbc : fb = false ∨ (fb = true ∧ ¬ 0 < fn) := by cases fb with | false => exact .inl rfl | true => exact .inr ⟨rfl, fun q => hbad ⟨rfl, q⟩⟩
          rcases hfbc with rfl | ⟨rfl, hf0⟩
          · have HX0 : Hid (rdM [] (ls.map Lm.ln) = none) := by
              unfold Hid; rw [HX.out, ← HRD2.out]
              exact rdM_empty (l := ⟨nums nm, numsP fs, nums vl⟩) HGO.out HNB.out
            go_wp2
            simp only [Exit.noGoto]
            exact tr_none HR3.out HB3.out HOK.out HX0.out rfl rfl rfl
          · have HX0 : Hid (rdM [] (ls.map Lm.ln) = none) := by
              unfold Hid; rw [HX.out, ← HRD2.out]
              exact rdM_empty (l := ⟨nums nm, numsP fs, nums vl⟩) HGO.out HNB.out
            go_wp2
            simp only [Exit.noGoto]
            exact tr_none HR3.out HB3.out HOK.out HX0.out rfl rfl rfl
        have HON2 := HON.out
        obtain ⟨d, hd⟩ : ∃ d, fr'.length = d := ⟨_, rfl⟩
        have HD : Hid (fr'.length = d) := hd
        obtain rfl : on = d + 1 := by rw [← HON2, List.length_cons, hd]
        clear HON2 hd
        obtain ⟨o, rfl⟩ : ∃ o, oa = some ⟨o, 0, none⟩ := by
          have := HSJ3.out.rows_at.1
          rcases this.2 with ⟨q, q2⟩ | ⟨g, cap, cur, q, _⟩
          · omega
          · cases q; exact ⟨g, rfl⟩
        obtain ⟨nf, vlf, msf, vcf, tsf, xsf⟩ := f
        obtain ⟨ra, rc, hvlf⟩ := row_form HSJ3.out.rows_at.2.1
        simp only at hvlf
        subst hvlf
        obtain ⟨ml, hml⟩ : ∃ n, msf.length = n := ⟨_, rfl⟩
        have HML : Hid (msf.length = ml) := hml
        rw [hml] at HSJ3 HST3 HRD2
        have hmlk : ml ≤ k := by have := (HSJ3.out.2.2 _ (List.mem_cons_self ..)).2.2.1; simp only at this; rw [hml] at this; exact this
        have HPL : Hid ((fr'.reverse.flatMap cellC).length = d * 3) := by unfold Hid; rw [flatC_len, List.length_reverse, HD.out]
        obtain ⟨o0, o1, o2⟩ := own_cell (a := .string nf) (b := .slice ra ml rc) (c := vcf) (r := []) HSJ3.out.rows_at.1
        rw [HPL.out] at o0 o1 o2
        have hof := own_frozen HSJ3.out.rows_at.1 (d * 3 + 1)
        have hdl : ¬ ((d : Int) + 1 ≤ (d : Int)) := by omega
        clear hml
        by_cases hen : ¬ nm.toList = [69, 78, 68]
        · have HNE : Hid (¬ nums nm = enZ) := fun q => hen ((en_iff nm).2 q)
          have henB : (nm.toList == [69, 78, 68]) = false := by simpa using hen
          obtain rfl : fb = false := by rw [← HFB.out]; unfold frZ; rw [decide_eq_false HNB.out, decide_eq_false HNE.out]; rfl
          have HX8 : Hid (rdM (⟨nums nf, msf.map Lm.ln ++ [⟨nums nm, numsP fs, nums vl⟩], tsf⟩ :: fr'.map Fm.cp) ((ls.map Lm.ln).drop (k + 1)) = X) := by
            unfold Hid; rw [← HRD2.out, List.map_cons]; exact (rdM_own (l := ⟨nums nm, numsP fs, nums vl⟩) (f := ⟨nums nf, msf.map Lm.ln, tsf⟩) HGO.out HNB.out HNE.out).symm
          obtain ⟨j0, hi, hz0, hz1, hz2⟩ := info_parts Tryd.info39
          have hk4 : Below w3.heap.size w3 (w3.alloc (.cells #[.string nm, .slice ma fn mc, .string vl] 39)).drew := below_drew (keep w3 (.cells #[.string nm, .slice ma fn mc, .string vl] 39))
          have o1a := cell_keep (keep w3 (.cells #[.string nm, .slice ma fn mc, .string vl] 39)) o1
          have HSJ4 : Hid (SJ w.heap.size w2.heap.size k (.slice (some ⟨o, 0, none⟩) (d + 1) oc) (⟨nf, .slice ra ml rc, msf, vcf, tsf, xsf⟩ :: fr') ((w3.alloc (.cells #[.string nm, .slice ma fn mc, .string vl] 39)).drew)) := HSJ3.out.keep hk4
          have HBW4 : Hid (Below w2.heap.size w2 ((w3.alloc (.cells #[.string nm, .slice ma fn mc, .string vl] 39)).drew)) := HBW3.out.trans (hk4.mono HBW3.out.size)
          have HST4 : Hid (Stay (fun x => x = w.heap.size ∨ x ∈ bks (rows (.slice (some ⟨o, 0, none⟩) (d + 1) oc) (⟨nf, .slice ra ml rc, msf, vcf, tsf, xsf⟩ :: fr'))) ((w3.alloc (.cells #[.string nm, .slice ma fn mc, .string vl] 39)).drew) (fun W => FRow W ma fs)) := stay_tr HST3.out (.of_below hk4) (fun b q => .inl q)
          have HO4 : Hid (((w3.alloc (.cells #[.string nm, .slice ma fn mc, .string vl] 39)).drew).ownsRow w2.heap.size 39 3 (.slice ra ml rc) ml (msf.flatMap cellM)) := by
            have := HSJ4.out.rows_at.2.1
            simp only at this
            rw [HML.out] at this
            exact this
          have HNEW : Hid (∀ j u, [Value.string nm, Value.slice ma fn mc, Value.string vl][j]? = some u → ((w3.alloc (.cells #[.string nm, .slice ma fn mc, .string vl] 39)).drew).cell? ((⟨w3.heap.size, 0, none⟩ : Addr).add j) = some u) := cells_new w3 [Value.string nm, Value.slice ma fn mc, Value.string vl] 39
          have HSZ4 : Hid (w2.heap.size ≤ ((w3.alloc (.cells #[.string nm, .slice ma fn mc, .string vl] 39)).drew).heap.size) := HBW4.out.size
          clear hk4 r0 r1 r2 f0 f1 f2
          go_wp2
          go_region_law (refine step_append_lies _ rfl (.tmp 64) (.tmp 66) 22 rfl w2.heap.size 39 j0 _ 3 56 Tryd.underlying22 hi hz0 hz1 hz2 rfl (by decide) (.slice ra ml rc) ml (msf.flatMap cellM) (by simp [Act.eval]) HO4.out ⟨w3.heap.size, 0, none⟩ 1 1 [Value.string nm, Value.slice ma fn mc, Value.string vl] (by simp [Act.eval]) rfl HNEW.out (by intro u hu; simp at hu; rcases hu with rfl | rfl | rfl <;> rfl) (by decide) (by unfold maxLen; omega) (by omega) HSZ4.out _ rfl ?_; intro g7 cap7 w7 hown7 hgrow7 hfr7 hlt7; have hk7 := orow_kept HSJ4.out.1 hgrow7; have hc7 := own_cell (a := .string nf) (b := .slice ra ml rc) (c := vcf) (r := []) hk7; rw [HPL.out] at hc7; have hc8 := hc7.2.1; have hf7 := own_frozen hk7 (d * 3 + 1); have HOWN7 : Hid (w7.ownsRow w2.heap.size 39 3 (.slice (some ⟨g7, 0, none⟩) (ml + 1) cap7) (ml + 1) (msf.flatMap cellM ++ [Value.string nm, Value.slice ma fn mc, Value.string vl])) := hown7; have HGROW7 := hgrow7; have HFR7 := hfr7; clear hk7 hc7 hown7)
          all_goals
            have hln := SJ.line (g := g7) (m := ⟨nm, vl, ma, mc, fs⟩) (v' := .slice (some ⟨g7, 0, none⟩) (ml + 1) cap7) HSJ4.out (by rw [HD.out]) HFIT.out (by simp only; rw [HFN.out]; omega) HST4.out HGROW7 (by simp only [cellM]; rw [HML.out, HFN.out]; exact HOWN7.out) rfl (HFR7.imp id (fun q => by rw [q]; exact Nat.le_refl _))
            rw [HD.out] at hln
            have HSJ8 : Hid (SJ w.heap.size w2.heap.size (k + 1) (.slice (some ⟨o, 0, none⟩) (d + 1) oc) (⟨nf, .slice (some ⟨g7, 0, none⟩) (ml + 1) cap7, msf ++ [⟨nm, vl, ma, mc, fs⟩], vcf, tsf, xsf⟩ :: fr') (w7.setCell ⟨o, d * 3 + 1, none⟩ (.slice (some ⟨g7, 0, none⟩) (ml + 1) cap7))) := hln.1
            have HBW8 : Hid (Below w2.heap.size w2 (w7.setCell ⟨o, d * 3 + 1, none⟩ (.slice (some ⟨g7, 0, none⟩) (ml + 1) cap7))) := tk_below hln.2 HSJ4.out.1 HBW4.out HSZ4.out
            clear hln HGROW7 HFR7 hc8 hf7 hgrow7 hfr7 hlt7
            go_wp2
            go_roundw
            case rel => exact ⟨k + 1, _, by go_num, by omega, HSJ8.out, HBW8.out, by rw [← HX8.out, List.map_cons]; unfold Fm.cp; simp only [List.map_append, List.map_cons, List.map_nil]; rfl⟩
            case measure => simp [intOf]; omega
        have hen : nm.toList = [69, 78, 68] := Classical.not_not.1 hen
        have HNE : Hid (nums nm = enZ) := (en_iff nm).1 hen
        obtain rfl : fb = true := by rw [← HFB.out, HNE.out]; rfl
        have hf0 : ¬ 0 < fn := fun q => hbad ⟨rfl, q⟩
        have hlc := fun V => tlarge_any vl V (by omega)
        obtain ⟨s5, hs5⟩ : ∃ s, strOfNums ((nums vl).map largeZ) = s := ⟨_, rfl⟩
        have HS5 : Hid (nums s5 = (nums vl).map largeZ) := by unfold Hid; rw [← hs5]; exact nums_large vl
        rw [hs5] at hlc
        have heq := eq_nums s5 nf
        rw [HS5.out] at heq
        obtain ⟨eb, heb⟩ : ∃ b, decide ((nums vl).map largeZ = nums nf) = b := ⟨_, rfl⟩
        have HEB : Hid (decide ((nums vl).map largeZ = nums nf) = eb) := heb
        rw [heb] at heq
        clear heb hs5
        go_wp2
        go_region_held3 (fun V => Below w3.heap.size w3 V ∧ V.cell? ⟨o, d * 3, none⟩ = some (.string nf) ∧ V.cell? ⟨PB, 2, none⟩ = some (.string vl)) (refine ⟨?_, ?_, ?_⟩ <;> first | assumption | exact below_drew (Below.refl _ _) | simp [*]) (first
          | (go_at_call 38; refine (hlc _).mono ?_; rintro e w5 ⟨rfl, hb5⟩; have hB5 : Below w3.heap.size w3 w5 := (show Below w3.heap.size w3 _ by first | assumption | exact below_drew (Below.refl _ _)).trans (hb5.mono (show Below w3.heap.size w3 _ by first | assumption | exact below_drew (Below.refl _ _)).size); have hS1 : w5.cell? ⟨o, d * 3, none⟩ = some (.string nf) := cell_keep hB5 o0; have hS2 : w5.cell? ⟨PB, 2, none⟩ = some (.string vl) := cell_keep hB5 d2; clear hb5))
        have HSJ5 : Hid (SJ w.heap.size w2.heap.size k (.slice (some ⟨o, 0, none⟩) (d + 1) oc) (⟨nf, .slice ra ml rc, msf, vcf, tsf, xsf⟩ :: fr') w5) := HSJ3.out.keep hB5
        have HBW5 : Hid (Below w2.heap.size w2 w5) := HBW3.out.trans (hB5.mono HBW3.out.size)
        have HB5 : Hid (Below w.heap.size w w5) := HB3.out.trans (hB5.mono HB3.out.size)
        have HR5 : Hid (Blk w5 w.heap.size #[.string ⟨#[]⟩, .slice none 0 0, .slice none 0 0] 25) := HR3.out.below hB5 HR3.out.lt
        have HST5 : Hid (Stay (fun x => x = w.heap.size ∨ x ∈ bks (rows (.slice (some ⟨o, 0, none⟩) (d + 1) oc) (⟨nf, .slice ra ml rc, msf, vcf, tsf, xsf⟩ :: fr'))) w5 (fun W => FRow W ma fs)) := stay_tr HST3.out (.of_below hB5) (fun b q => .inl q)
        clear hB5 hS1 hS2 hlc o0 o1 o2 d0 d1 d2 r0 r1 r2 f0 f1 f2 hof HSJ3 HBW3 HB3 HR3 HST3 HBX3
        obtain ⟨r0, r1, r2⟩ := cells3 HR5.out
        have f0 := HR5.out.frozen 0
        have f1 := HR5.out.frozen 1
        have f2 := HR5.out.frozen 2
        cases eb with
        | false =>
          have HX0 : Hid (rdM [] (ls.map Lm.ln) = none) := by
            unfold Hid; rw [HX.out, ← HRD2.out]
            exact rdM_end (l := ⟨nums nm, numsP fs, nums vl⟩) (f := ⟨nums nf, msf.map Lm.ln, tsf⟩) HGO.out HNB.out HNE.out (of_decide_eq_false HEB.out)
          go_wp2
          simp only [Exit.noGoto]
          exact tr_none HR5.out HB5.out HOK.out HX0.out rfl rfl rfl
        | true =>
          have HVE : Hid ((nums vl).map largeZ = nums nf) := by unfold Hid; exact of_decide_eq_true HEB.out
          obtain ⟨g, fr2, rfl⟩ | rfl : (∃ g fr2, fr' = g :: fr2) ∨ fr' = [] := by cases fr' with | nil => exact .inr rfl | cons f fr' => exact .inl ⟨f, fr', rfl⟩
          rotate_left
          · obtain rfl : d = 0 := HD.out.symm
            have hC5 : CpAt (k + 1) w5 ⟨nums nf, msf.map Lm.ln, tsf⟩ (.string nf) (.slice ra ml rc) vcf := by
              have hq := HSJ5.out.rows_at
              exact (fm_tree (l' := []) (by omega) hR0 (HSJ5.out.2.2 _ (List.mem_cons_self ..)) hq.2.1 hq.2.2 (fun b _ => by simp [bks]) (fun b _ => by simp [bks]) (fun b q => by simp [bks] at q)).now
            have hF5 := fm_fit (HSJ5.out.2.2 _ (List.mem_cons_self ..))
            obtain ⟨o0, o1, o2⟩ := own_cell (pre := []) (a := .string nf) (b := .slice ra ml rc) (c := vcf) (r := []) HSJ5.out.rows_at.1
            simp only [List.length_nil] at o0 o1 o2
            obtain ⟨ca, cc, hvcf⟩ := row_form HSJ5.out.rows_at.2.2
            simp only at hvcf
            subst hvcf
            have hrt := right_tree (k + 1) ⟨nums nf, msf.map Lm.ln, tsf⟩ _ _ _ w5 hC5 (hF5 _)
            obtain ⟨rb, hrb⟩ : ∃ b, rightT ⟨nums nf, msf.map Lm.ln, tsf⟩ = b := ⟨_, rfl⟩
            have HRB : Hid (rightT ⟨nums nf, msf.map Lm.ln, tsf⟩ = rb) := hrb
            rw [hrb] at hrt
            have HC5 : Hid (CpAt (k + 1) w5 ⟨nums nf, msf.map Lm.ln, tsf⟩ (.string nf) (.slice ra ml rc) (.slice ca tsf.length cc)) := hC5
            have HCS : Hid (Stay (fun b => b = w.heap.size ∨ b ∈ bks []) w5 (fun W => CpAt (k + 1) W ⟨nums nf, msf.map Lm.ln, tsf⟩ (.string nf) (.slice ra ml rc) (.slice ca tsf.length cc))) := by
              have hq := HSJ5.out.rows_at
              exact fm_tree (l' := []) (by omega) hR0 (HSJ5.out.2.2 _ (List.mem_cons_self ..)) hq.2.1 hq.2.2 (fun b _ => by simp [bks]) (fun b _ => by simp [bks]) (fun b q => by simp [bks] at q)
            have HF5 : Hid (∀ q, FitC q ⟨nums nf, msf.map Lm.ln, tsf⟩) := hF5
            have HLL : Hid (rdM [] (ls.map Lm.ln) = if (ls.map Lm.ln).drop (k + 1) = [] ∧ rb = true then some ⟨nums nf, msf.map Lm.ln, tsf⟩ else none) := by
              unfold Hid; rw [HX.out, ← HRD2.out]
              have := rdM_last (l := ⟨nums nm, numsP fs, nums vl⟩) (f := ⟨nums nf, msf.map Lm.ln, tsf⟩) (r := (ls.map Lm.ln).drop (k + 1)) HGO.out HNB.out HNE.out HVE.out
              rw [HRB.out] at this
              exact this
            unfold compV at hrt
            obtain ⟨tl, htl⟩ : ∃ n, tsf.length = n := ⟨_, rfl⟩
            rw [htl] at hrt o2 HC5 HCS
            clear hC5 hF5 hrb
            have hn1 : IntKind.i64.wrap ((n : Int) - 1) = (n : Int) - 1 := by rw [IntKind.wrap_i64]; omega
            by_cases hkn : k + 1 = n
            · have hkn2 : (k : Int) = (n : Int) - 1 := by omega
              have hkn3 : ((k : Int) == (n : Int) - 1) = true := by simp; omega
              have HD0 : Hid ((ls.map Lm.ln).drop (k + 1) = []) := by unfold Hid; rw [List.drop_of_length_le (by rw [List.length_map, HN.out]; omega)]
              go_wp2_with fail
              refine hrt.mono ?_
              rintro e w6 ⟨rfl, hb6⟩
              have HB6 : Hid (Below w.heap.size w w6) := HB5.out.trans (hb6.mono HB5.out.size)
              have HR6 : Hid (Blk w6 w.heap.size #[.string ⟨#[]⟩, .slice none 0 0, .slice none 0 0] 25) := HR5.out.below hb6 HR5.out.lt
              have p0 := cell_keep hb6 o0
              have p1 := cell_keep hb6 o1
              have p2 := cell_keep hb6 o2
              have HCS6 : Hid (Stay (fun b => b = w.heap.size ∨ b ∈ bks []) w6 (fun W => CpAt (k + 1) W ⟨nums nf, msf.map Lm.ln, tsf⟩ (.string nf) (.slice ra ml rc) (.slice ca tl cc))) := stay_tr HCS.out (.of_below hb6) (fun b q => .inl q)
              clear r0 r1 r2 f0 f1 f2 o0 o1 o2 hb6 hrt
              obtain ⟨r0, r1, r2⟩ := cells3 HR6.out
              have f0 := HR6.out.frozen 0
              have f1 := HR6.out.frozen 1
              have f2 := HR6.out.frozen 2
              cases rb with
              | true =>
                have HX0 : Hid (rdM [] (ls.map Lm.ln) = some ⟨nums nf, msf.map Lm.ln, tsf⟩) := by unfold Hid; rw [HLL.out, if_pos ⟨HD0.out, rfl⟩]
                go_wp2
                simp only [Exit.noGoto]
                exact tr_fin (c := 0) (R := w.heap.size) (fin3_blk HR6.out (.string nf) (.slice ra ml rc) (.slice ca tl cc)) (fin3_below _ _ _ HB6.out (Nat.le_refl _)) (.inr ⟨ls, HOK.out, .inr ⟨_, HX0.out, rfl, HF5.out, CpAt.up (k + 1) 4097 _ _ _ _ (by omega) (HCS6.out _ (fin3_tk w6 w.heap.size _ _ _ (.inl rfl)))⟩⟩) rfl rfl rfl
              | false =>
                have HX0 : Hid (rdM [] (ls.map Lm.ln) = none) := by unfold Hid; rw [HLL.out, if_neg (by simp)]
                go_wp2
                simp only [Exit.noGoto]
                exact tr_none HR6.out HB6.out HOK.out HX0.out rfl rfl rfl
            · have hkn2 : ¬ (k : Int) = (n : Int) - 1 := by omega
              have hkn3 : ((k : Int) == (n : Int) - 1) = false := by simp; omega
              have HX0 : Hid (rdM [] (ls.map Lm.ln) = none) := by
                unfold Hid; rw [HLL.out, if_neg]
                rintro ⟨q, _⟩
                have := congrArg List.length q
                rw [List.length_drop, List.length_map, HN.out] at this
                simp at this; omega
              go_wp2
              simp only [Exit.noGoto]
              exact tr_none HR5.out HB5.out HOK.out HX0.out rfl rfl rfl
          obtain ⟨e, he⟩ : ∃ e, fr2.length = e := ⟨_, rfl⟩
          have HE : Hid (fr2.length = e) := he
          obtain rfl : d = e + 1 := by rw [← HD.out, List.length_cons, he]
          clear he
          obtain ⟨ng, vlg, msg, vcg, tsg, xsg⟩ := g
          have hrows : w5.ownsRow w2.heap.size 25 3 (.slice (some ⟨o, 0, none⟩) (e + 1 + 1) oc) (e + 1 + 1) (fr2.reverse.flatMap cellC ++ .string ng :: vlg :: vcg :: [.string nf, .slice ra ml rc, vcf]) := by
            have := HSJ5.out.rows_at.1
            simp only [List.length_cons, List.reverse_cons, List.flatMap_append, List.flatMap_cons, List.flatMap_nil, List.append_nil, HE.out] at this
            simpa [cellC] using this
          have hrg : w5.ownsRow w2.heap.size 25 3 vcg tsg.length (xsg.flatMap cell3) := by
            have := HSJ5.out.1.1 (Fm.rc ⟨ng, vlg, msg, vcg, tsg, xsg⟩) (by simp [rows])
            exact this
          have hrl : w5.ownsRow w2.heap.size 39 3 vlg msg.length (msg.flatMap cellM) := by
            have := HSJ5.out.1.1 (Fm.rl ⟨ng, vlg, msg, vcg, tsg, xsg⟩) (by simp [rows])
            exact this
          obtain ⟨ga, gc, hvg⟩ := row_form hrg
          subst hvg
          obtain ⟨gla, glc, hvg⟩ := row_form hrl
          subst hvg
          obtain ⟨ca, cc, hvcf⟩ := row_form HSJ5.out.rows_at.2.2
          simp only at hvcf
          subst hvcf
          obtain ⟨tl, htl⟩ : ∃ n, tsg.length = n := ⟨_, rfl⟩
          have HTL : Hid (tsg.length = tl) := htl
          obtain ⟨tf, htf⟩ : ∃ n, tsf.length = n := ⟨_, rfl⟩
          obtain ⟨mg, hmg⟩ : ∃ n, msg.length = n := ⟨_, rfl⟩
          rw [htl, htf, hmg] at HSJ5 hrows
          have HPL2 : Hid ((fr2.reverse.flatMap cellC).length = e * 3) := by unfold Hid; rw [flatC_len, List.length_reverse, HE.out]
          obtain ⟨g0, g1, g2⟩ := own_cell hrows
          rw [HPL2.out] at g0 g1 g2
          have hrows2 := hrows
          rw [show fr2.reverse.flatMap cellC ++ .string ng :: .slice gla mg glc :: .slice ga tl gc :: [.string nf, .slice ra ml rc, .slice ca tf cc] = (fr2.reverse.flatMap cellC ++ [.string ng, .slice gla mg glc, .slice ga tl gc]) ++ .string nf :: .slice ra ml rc :: .slice ca tf cc :: [] by simp] at hrows2
          obtain ⟨o0, o1, o2⟩ := own_cell hrows2
          have hpl3 : (fr2.reverse.flatMap cellC ++ [Value.string ng, .slice gla mg glc, .slice ga tl gc]).length = (e + 1) * 3 := by rw [List.length_append, HPL2.out]; simp; omega
          rw [hpl3] at o0 o1 o2
          have HPL3 : Hid ((fr2.reverse.flatMap cellC ++ cellC ⟨ng, .slice gla mg glc, msg, .slice ga tl gc, tsg, xsg⟩).length = (e + 1) * 3) := hpl3
          have HX8 : Hid (rdM (⟨nums ng, msg.map Lm.ln, tsg ++ [⟨nums nf, msf.map Lm.ln, tsf⟩]⟩ :: fr2.map Fm.cp) ((ls.map Lm.ln).drop (k + 1)) = X) := by
            unfold Hid; rw [← HRD2.out, List.map_cons, List.map_cons]; exact (rdM_close (l := ⟨nums nm, numsP fs, nums vl⟩) (f := ⟨nums nf, msf.map Lm.ln, tsf⟩) (g := ⟨nums ng, msg.map Lm.ln, tsg⟩) HGO.out HNB.out HNE.out HVE.out).symm
          have htk : tl ≤ k := by have := (HSJ5.out.2.2 _ (List.mem_cons_of_mem _ (List.mem_cons_self ..))).2.2.2.1; simp only at this; rw [htl] at this; exact this
          have HRW : Hid (w5.ownsRow w2.heap.size 25 3 (.slice (some ⟨o, 0, none⟩) (e + 1 + 1) oc) (e + 1 + 1) (fr2.reverse.flatMap cellC ++ .string ng :: .slice gla mg glc :: .slice ga tl gc :: [.string nf, .slice ra ml rc, .slice ca tf cc])) := hrows
          have hgf := own_frozen hrows (e * 3 + 2)
          obtain ⟨j0, hi, hz0, hz1, hz2⟩ := info_parts Tryd.info25
          have he1 : ¬ ((e : Int) + 1 + 1 ≤ (e : Int) + 1) := by omega
          have he2 : ¬ ((e : Int) + 1 + 1 ≤ (e : Int)) := by omega
          have he3 : (0 : Int) < (e : Int) + 1 := by omega
          have he4 : IntKind.i64.wrap (e : Int) = (e : Int) := by rw [IntKind.wrap_i64]; omega
          have he5 : (e : Int) < (e : Int) + 1 + 1 := by omega
          have he6 : (0 : Int) ≤ (e : Int) := by omega
          have he8 : (0 : Int) ≤ (e : Int) + 1 := by omega
          have he7 : (e : Int) + 1 < (e : Int) + 1 + 1 := by omega
          clear hrows hrows2 hpl3 hrg hrl htl htf hmg r0 r1 r2 f0 f1 f2 hdl
          go_wp2
          go_region
          all_goals go_wp2
          · obtain ⟨w6, hw6⟩ : ∃ w6, (w5.alloc (.cells #[.bool false] 4)).drew = w6 := ⟨_, rfl⟩
            rw [hw6]
            have hk6 : Below w5.heap.size w5 w6 := by rw [← hw6]; exact below_drew (keep w5 _)
            have HSJ6 : Hid (SJ w.heap.size w2.heap.size k (.slice (some ⟨o, 0, none⟩) (e + 1 + 1) oc) (⟨nf, .slice ra ml rc, msf, .slice ca tf cc, tsf, xsf⟩ :: ⟨ng, .slice gla mg glc, msg, .slice ga tl gc, tsg, xsg⟩ :: fr2) w6) := HSJ5.out.keep hk6
            have HBW6 : Hid (Below w2.heap.size w2 w6) := HBW5.out.trans (hk6.mono HBW5.out.size)
            have g2' := cell_keep hk6 g2
            have p0 := cell_keep hk6 o0
            have p1 := cell_keep hk6 o1
            have p2 := cell_keep hk6 o2
            have hoc : e + 1 + 1 ≤ oc := by
              rcases HRW.out.2 with ⟨q, _⟩ | ⟨g, cap, cur, q, _, _, q2, _⟩
              · cases q
              · cases q; exact q2
            clear hw6 hk6 g0 g1 g2 o0 o1 o2 hgf
            have hk7 : Below w6.heap.size w6 (w6.alloc (.cells #[.string nf, .slice ra ml rc, .slice ca tf cc] 25)).drew := below_drew (keep w6 _)
            have g2a := cell_keep (keep w6 (.cells #[.string nf, .slice ra ml rc, .slice ca tf cc] 25)) g2'
            have HSJ7 : Hid (SJ w.heap.size w2.heap.size k (.slice (some ⟨o, 0, none⟩) (e + 1 + 1) oc) (⟨nf, .slice ra ml rc, msf, .slice ca tf cc, tsf, xsf⟩ :: ⟨ng, .slice gla mg glc, msg, .slice ga tl gc, tsg, xsg⟩ :: fr2) ((w6.alloc (.cells #[.string nf, .slice ra ml rc, .slice ca tf cc] 25)).drew)) := HSJ6.out.keep hk7
            have HBW7 : Hid (Below w2.heap.size w2 ((w6.alloc (.cells #[.string nf, .slice ra ml rc, .slice ca tf cc] 25)).drew)) := HBW6.out.trans (hk7.mono HBW6.out.size)
            have HO7 : Hid (((w6.alloc (.cells #[.string nf, .slice ra ml rc, .slice ca tf cc] 25)).drew).ownsRow w2.heap.size 25 3 (.slice ga tl gc) tl (xsg.flatMap cell3)) := by
              have := HSJ7.out.1.1 (Fm.rc ⟨ng, .slice gla mg glc, msg, .slice ga tl gc, tsg, xsg⟩) (by simp [rows])
              simp only [Fm.rc, HTL.out] at this
              exact this
            have HNEW : Hid (∀ j u, [Value.string nf, Value.slice ra ml rc, Value.slice ca tf cc][j]? = some u → ((w6.alloc (.cells #[.string nf, .slice ra ml rc, .slice ca tf cc] 25)).drew).cell? ((⟨w6.heap.size, 0, none⟩ : Addr).add j) = some u) := cells_new w6 [Value.string nf, Value.slice ra ml rc, Value.slice ca tf cc] 25
            have HSZ7 : Hid (w2.heap.size ≤ ((w6.alloc (.cells #[.string nf, .slice ra ml rc, .slice ca tf cc] 25)).drew).heap.size) := HBW7.out.size
            clear hk7
            go_region_law (refine step_append_lies _ rfl (.tmp 112) (.tmp 117) 23 rfl w2.heap.size 25 j0 _ 3 64 Tryd.underlying23 hi hz0 hz1 hz2 rfl (by decide) (.slice ga tl gc) tl (xsg.flatMap cell3) (by simp [Act.eval]) HO7.out ⟨w6.heap.size, 0, none⟩ 1 1 [Value.string nf, Value.slice ra ml rc, Value.slice ca tf cc] (by simp [Act.eval]) rfl HNEW.out (by intro u hu; simp at hu; rcases hu with rfl | rfl | rfl <;> rfl) (by decide) (by unfold maxLen; omega) (by omega) HSZ7.out _ rfl ?_; intro g8 cap8 w8 hown8 hgrow8 hfr8 hlt8; have hk8 := orow_kept2 HSJ7.out.1 hgrow8; rw [List.append_assoc] at hk8; have hc8 := own_cell (a := .string ng) (b := .slice gla mg glc) (c := .slice ga tl gc) (r := [.string nf, .slice ra ml rc, .slice ca tf cc]) hk8; rw [HPL2.out] at hc8; have hc9 := hc8.2.2; have hf8 := own_frozen hk8 (e * 3 + 2); have HOWN8 : Hid (w8.ownsRow w2.heap.size 25 3 (.slice (some ⟨g8, 0, none⟩) (tl + 1) cap8) (tl + 1) (xsg.flatMap cell3 ++ [Value.string nf, Value.slice ra ml rc, Value.slice ca tf cc])) := hown8; have HGROW8 := hgrow8; have HFR8 := hfr8; clear hk8 hc8 hown8)
            all_goals
              have hln := SJ.closeA (gb := g8) (vn := tl + 1) (vc := cap8) HSJ7.out (by omega) hR0 (by rw [HE.out]) HGROW8 (by simp only [HTL.out]; exact HOWN8.out) (HFR8.imp id (fun q => by rw [q]; exact Nat.le_refl _))
              rw [HE.out] at hln
              have HSJ8 := hln.1
              have HBW8 : Hid (Below w2.heap.size w2 (w8.setCell ⟨o, e * 3 + 2, none⟩ (.slice (some ⟨g8, 0, none⟩) (tl + 1) cap8))) := tk_below hln.2 HSJ7.out.1 HBW7.out HSZ7.out
              have HSJ9 : Hid (SJ w.heap.size w2.heap.size (k + 1) (.slice (some ⟨o, 0, none⟩) (e + 1) oc) (⟨ng, .slice gla mg glc, msg, .slice (some ⟨g8, 0, none⟩) (tl + 1) cap8, tsg ++ [Fm.cp ⟨nf, .slice ra ml rc, msf, .slice ca tf cc, tsf, xsf⟩], xsg ++ [(Value.string nf, .slice ra ml rc, .slice ca tf cc)]⟩ :: fr2) (w8.setCell ⟨o, e * 3 + 2, none⟩ (.slice (some ⟨g8, 0, none⟩) (tl + 1) cap8))) := HSJ8
              clear hln HGROW8 HFR8 hc9 hf8 hgrow8 hfr8 hlt8 HSJ8
              go_wp2
              go_roundw
              case rel => exact ⟨k + 1, _, by go_num, by omega, HSJ9.out, HBW8.out, by rw [← HX8.out, List.map_cons]; rfl⟩
              case measure => simp [intOf]; omega
          · obtain ⟨w6, hw6⟩ : ∃ w6, (w5.alloc (.cells #[.bool true] 4)).drew = w6 := ⟨_, rfl⟩
            rw [hw6]
            have hk6 : Below w5.heap.size w5 w6 := by rw [← hw6]; exact below_drew (keep w5 _)
            have HSJ6 : Hid (SJ w.heap.size w2.heap.size k (.slice (some ⟨o, 0, none⟩) (e + 1 + 1) oc) (⟨nf, .slice ra ml rc, msf, .slice ca tf cc, tsf, xsf⟩ :: ⟨ng, .slice gla mg glc, msg, .slice ga tl gc, tsg, xsg⟩ :: fr2) w6) := HSJ5.out.keep hk6
            have HBW6 : Hid (Below w2.heap.size w2 w6) := HBW5.out.trans (hk6.mono HBW5.out.size)
            have g2' := cell_keep hk6 g2
            have p0 := cell_keep hk6 o0
            have p1 := cell_keep hk6 o1
            have p2 := cell_keep hk6 o2
            have hoc : e + 1 + 1 ≤ oc := by
              rcases HRW.out.2 with ⟨q, _⟩ | ⟨g, cap, cur, q, _, _, q2, _⟩
              · cases q
              · cases q; exact q2
            clear hw6 hk6 g0 g1 g2 o0 o1 o2 hgf
            have hk7 : Below w6.heap.size w6 (w6.alloc (.cells #[.string ⟨#[]⟩, .slice none 0 0, .slice none 0 0] 25)).drew := below_drew (keep w6 _)
            have g2a := cell_keep (keep w6 (.cells #[.string ⟨#[]⟩, .slice none 0 0, .slice none 0 0] 25)) g2'
            have p0a := cell_keep (keep w6 (.cells #[.string ⟨#[]⟩, .slice none 0 0, .slice none 0 0] 25)) p0
            have p1a := cell_keep (keep w6 (.cells #[.string ⟨#[]⟩, .slice none 0 0, .slice none 0 0] 25)) p1
            have p2a := cell_keep (keep w6 (.cells #[.string ⟨#[]⟩, .slice none 0 0, .slice none 0 0] 25)) p2
            have HSJ7 : Hid (SJ w.heap.size w2.heap.size k (.slice (some ⟨o, 0, none⟩) (e + 1 + 1) oc) (⟨nf, .slice ra ml rc, msf, .slice ca tf cc, tsf, xsf⟩ :: ⟨ng, .slice gla mg glc, msg, .slice ga tl gc, tsg, xsg⟩ :: fr2) ((w6.alloc (.cells #[.string ⟨#[]⟩, .slice none 0 0, .slice none 0 0] 25)).drew)) := HSJ6.out.keep hk7
            have HBW7 : Hid (Below w2.heap.size w2 ((w6.alloc (.cells #[.string ⟨#[]⟩, .slice none 0 0, .slice none 0 0] 25)).drew)) := HBW6.out.trans (hk7.mono HBW6.out.size)
            have HO7 : Hid (((w6.alloc (.cells #[.string ⟨#[]⟩, .slice none 0 0, .slice none 0 0] 25)).drew).ownsRow w2.heap.size 25 3 (.slice ga tl gc) tl (xsg.flatMap cell3)) := by
              have := HSJ7.out.1.1 (Fm.rc ⟨ng, .slice gla mg glc, msg, .slice ga tl gc, tsg, xsg⟩) (by simp [rows])
              simp only [Fm.rc, HTL.out] at this
              exact this
            have HNEW : Hid (∀ j u, [Value.string ⟨#[]⟩, Value.slice none 0 0, Value.slice none 0 0][j]? = some u → ((w6.alloc (.cells #[.string ⟨#[]⟩, .slice none 0 0, .slice none 0 0] 25)).drew).cell? ((⟨w6.heap.size, 0, none⟩ : Addr).add j) = some u) := cells_new w6 [Value.string ⟨#[]⟩, Value.slice none 0 0, Value.slice none 0 0] 25
            have HSZ7 : Hid (w2.heap.size ≤ ((w6.alloc (.cells #[.string ⟨#[]⟩, .slice none 0 0, .slice none 0 0] 25)).drew).heap.size) := HBW7.out.size
            clear hk7
            go_region_law (refine step_append_lies _ rfl (.tmp 93) (.tmp 99) 23 rfl w2.heap.size 25 j0 _ 3 64 Tryd.underlying23 hi hz0 hz1 hz2 rfl (by decide) (.slice ga tl gc) tl (xsg.flatMap cell3) rfl HO7.out ⟨w6.heap.size, 0, none⟩ 1 1 [Value.string ⟨#[]⟩, Value.slice none 0 0, Value.slice none 0 0] rfl rfl HNEW.out (by intro u hu; simp at hu; rcases hu with rfl | rfl <;> rfl) (by decide) (by unfold maxLen; omega) (by omega) HSZ7.out _ rfl ?_; intro g8 cap8 w8 hown8 hgrow8 hfr8 hlt8; have hk8 := orow_kept2 HSJ7.out.1 hgrow8; have hk8b := hk8; rw [List.append_assoc] at hk8; have hc8 := own_cell (a := .string ng) (b := .slice gla mg glc) (c := .slice ga tl gc) (r := [.string nf, .slice ra ml rc, .slice ca tf cc]) hk8; rw [HPL2.out] at hc8; have hc9 := hc8.2.2; have hf8 := own_frozen hk8 (e * 3 + 2); have hcf := own_cell (a := .string nf) (b := .slice ra ml rc) (c := .slice ca tf cc) (r := []) hk8b; rw [HPL3.out] at hcf; have k0 := hcf.1; have k1 := hcf.2.1; have k2 := hcf.2.2; have l0 : (w8.setCell ⟨o, e * 3 + 2, none⟩ (.slice (some ⟨g8, 0, none⟩) (tl + 1) cap8)).cell? ⟨o, (e + 1) * 3, none⟩ = some (.string nf) := (cell_other _ trivial (by omega)).trans k0; have l1 : (w8.setCell ⟨o, e * 3 + 2, none⟩ (.slice (some ⟨g8, 0, none⟩) (tl + 1) cap8)).cell? ⟨o, (e + 1) * 3 + 1, none⟩ = some (.slice ra ml rc) := (cell_other _ trivial (by omega)).trans k1; have l2 : (w8.setCell ⟨o, e * 3 + 2, none⟩ (.slice (some ⟨g8, 0, none⟩) (tl + 1) cap8)).cell? ⟨o, (e + 1) * 3 + 2, none⟩ = some (.slice ca tf cc) := (cell_other _ trivial (by omega)).trans k2; have HOWN8 : Hid (w8.ownsRow w2.heap.size 25 3 (.slice (some ⟨g8, 0, none⟩) (tl + 1) cap8) (tl + 1) (xsg.flatMap cell3 ++ [Value.string ⟨#[]⟩, Value.slice none 0 0, Value.slice none 0 0])) := hown8; have HGROW8 := hgrow8; have HFR8 := hfr8; clear hk8 hk8b hc8 hown8 hcf)
            all_goals
              have hln := SJ.closeB (gb := g8) (vn := tl + 1) (vc := cap8) HSJ7.out (by omega) hR0 (by rw [HE.out]) HGROW8 (by show tl + 1 = tsg.length + 1; rw [HTL.out]) (by show w8.ownsRow _ 25 3 _ (tsg.length + 1) _; rw [HTL.out]; exact HOWN8.out) (HFR8.imp id (fun q => by rw [q]; exact Nat.le_refl _))
              simp only [HE.out, HTL.out] at hln
              obtain ⟨hln1, ⟨_, l0', hln2⟩, hln3⟩ := hln
              have hrow9 := hln2.1 _ (List.mem_cons_self ..)
              have hcc := own_cell (a := .string ⟨#[]⟩) (b := .slice none 0 0) (c := .slice none 0 0) (r := []) hrow9
              have hxl : (xsg.flatMap cell3).length = tl * 3 := by rw [flat3_len]; have := (HSJ7.out.2.2 _ (List.mem_cons_of_mem _ (List.mem_cons_self ..))).1; simp only at this; rw [this, HTL.out]
              rw [hxl] at hcc
              obtain ⟨m0, m1, m2⟩ := hcc
              have n0 := own_frozen hrow9 (tl * 3)
              have n1 := own_frozen hrow9 (tl * 3 + 1)
              have n2 := own_frozen hrow9 (tl * 3 + 2)
              have HSJ9 : Hid (SJ w.heap.size w2.heap.size (k + 1) (.slice (some ⟨o, 0, none⟩) (e + 1) oc) (⟨ng, .slice gla mg glc, msg, .slice (some ⟨g8, 0, none⟩) (tl + 1) cap8, tsg ++ [Fm.cp ⟨nf, .slice ra ml rc, msf, .slice ca tf cc, tsf, xsf⟩], xsg ++ [(Value.string nf, .slice ra ml rc, .slice ca tf cc)]⟩ :: fr2) ((((w8.setCell ⟨o, e * 3 + 2, none⟩ (.slice (some ⟨g8, 0, none⟩) (tl + 1) cap8)).setCell ⟨g8, tl * 3, none⟩ (.string nf)).setCell ⟨g8, tl * 3 + 1, none⟩ (.slice ra ml rc)).setCell ⟨g8, tl * 3 + 2, none⟩ (.slice ca tf cc))) := hln1
              have HBW9 : Hid (Below w2.heap.size w2 ((((w8.setCell ⟨o, e * 3 + 2, none⟩ (.slice (some ⟨g8, 0, none⟩) (tl + 1) cap8)).setCell ⟨g8, tl * 3, none⟩ (.string nf)).setCell ⟨g8, tl * 3 + 1, none⟩ (.slice ra ml rc)).setCell ⟨g8, tl * 3 + 2, none⟩ (.slice ca tf cc))) := by
                have hb := HBW7.out
                have hz := HSZ7.out
                exact ⟨hln3.1.trans hb.os, hln3.2.1.trans hb.tape, hln3.2.2.1.trans hb.output, Nat.le_trans hb.size hln3.size, fun b hlt => (hln3.2.2.2.2 b (by omega) (fun q => by
                  rcases q with q | q
                  · have := (HSJ7.out.1.lt q).1; omega
                  · omega)).trans (hb.block b hlt)⟩
              have htl1 : ¬ ((tl : Int) + 1 ≤ (tl : Int)) := by omega
              have htl2 : (tl : Int) < (tl : Int) + 1 := by omega
              clear hln1 hln2 hln3 hrow9 HGROW8 HFR8 hc9 hf8 hgrow8 hfr8 hlt8 k0 k1 k2 l0 l1 l2
              go_wp2
              go_roundw
              case rel => exact ⟨k + 1, _, by go_num, by omega, HSJ9.out, HBW9.out, by rw [← HX8.out, List.map_cons]; rfl⟩
              case measure => simp [intOf]; omega
      · have HX0 : Hid (rdM [] (ls.map Lm.ln) = none) := by
          unfold Hid; rw [HX.out, ← HRD.out, List.drop_of_length_le (by rw [List.length_map, HN.out]; omega)]
          cases fr <;> rfl
        obtain ⟨r0, r1, r2⟩ := cells3 HR.out
        have f0 := HR.out.frozen 0
        have f1 := HR.out.frozen 1
        have f2 := HR.out.frozen 2
        clear hlrw
        go_wp2
        simp only [Exit.noGoto]
        exact tr_none HR.out HB.out HOK.out HX0.out rfl rfl rfl
end Go.Proofs.YtenclgnkogmgiaaDoor
