/-
  What must come of fixed calls; what is written is read as it was.
-/
import Derived.Test.YtenclgnkogmgiaaDoorXj
import Derived.Test.YtenclgnkogmgiaaDoorXc
import Derived.Lib.SlBytesConst
import Derived.Test.YtenclgnkogmgiaaDoorSb
import Derived.Test.YtenclgnkogmgiaaDoorSt
namespace Go.Proofs.YtenclgnkogmgiaaDoor
open Go.RowKit Go.Shelf
set_option linter.unusedVariables false
set_option linter.unusedSimpArgs false

theorem conv_const (X : World) (C : Array Value) (n c g : Nat) (hg : X.heap.size = g) :
    (convert 29 29 (.slice (some ⟨g, 0, none⟩) n c)).run Tryd.prog (X.alloc (.cells C 5)) = .ok (.slice (some ⟨g, 0, none⟩) n c) (X.alloc (.cells C 5 (C.size, C.size + 1))) := by
  subst hg; exact Lib.run_convert_bytes_const X 29 5 C n c Tryd.underlying29 Tryd.underlying5
theorem row_const (w : World) (l : List Int) (k : Nat × Nat) : Row (w.alloc (.cells (l.map (Value.int .u8)).toArray 5 k)) (some ⟨w.heap.size, 0, none⟩) l := by
  refine .inr ⟨w.heap.size, 0, rfl, fun i hi => ?_⟩
  rw [Nat.zero_add]
  have hb : (w.alloc (.cells (l.map (Value.int .u8)).toArray 5 k)).heap[w.heap.size]? = some (.cells (l.map (Value.int .u8)).toArray 5 k) := World.alloc_heap_new _ _
  rw [cell_of_row _ _ _ _ _ _ hb]
  simp [List.getD_eq_getElem?_getD, List.getElem?_eq_getElem hi]
theorem a_byt : Byt aB := by
  intro x hx
  simp [aB] at hx
  omega
set_option maxHeartbeats 8000000 in
set_option maxRecDepth 100000 in
theorem alive_any (w : World) (mx : Int) (hm : w.cell? ⟨0, 0, none⟩ = some (.int .i64 mx)) : Calls Tryd.prog 11 #[] w fun e w' => e = .returned (.bool true) ∧ Below w.heap.size w w' := by
  have hcv := conv_const w (aB.map (Value.int .u8)).toArray 21 21 w.heap.size rfl
  have hk0 : Below w.heap.size w (w.alloc (.cells (aB.map (Value.int .u8)).toArray 5 ((aB.map (Value.int .u8)).toArray.size, (aB.map (Value.int .u8)).toArray.size + 1))) := keep w _
  have hrd := read_tree (some ⟨w.heap.size, 0, none⟩) 21 21 aB _ rfl a_byt (Nat.le_refl _) (by unfold maxLen; omega) (row_const w aB ((aB.map (Value.int .u8)).toArray.size, (aB.map (Value.int .u8)).toArray.size + 1)) mx (cell_keep hk0 hm)
  have HK0 : Hid (Below w.heap.size w (w.alloc (.cells (aB.map (Value.int .u8)).toArray 5 ((aB.map (Value.int .u8)).toArray.size, (aB.map (Value.int .u8)).toArray.size + 1)))) := hk0
  have HM : Hid (w.cell? ⟨0, 0, none⟩ = some (.int .i64 mx)) := hm
  simp only [aB, List.map_cons, List.map_nil, List.size_toArray, List.length_cons, List.length_nil, Nat.reduceAdd] at hcv
  clear hk0 hm
  go_enter Tryd.func11, Tryd.ntmps11
  go_wp2_with fail
  refine hrd.mono ?_
  rintro e w1 ⟨x1, y1, z1, c1, rfl, hb1, hans⟩
  clear hrd hcv
  have hB1 : Below w.heap.size w w1 := HK0.out.trans (hb1.mono HK0.out.size)
  clear hb1
  rcases hans with ⟨p, hrf, _⟩ | ⟨ms, hok, ⟨hno, _⟩ | ⟨t, hsome, rfl, hfit, hcp⟩⟩
  · exact absurd hrf (a_good p c1)
  · rw [a_lines hok, a_rd] at hno; cases hno
  rw [a_lines hok, a_rd] at hsome
  obtain rfl : aT = t := by simpa using hsome
  obtain ⟨⟨nm1, rfl, _⟩, ⟨ya, yn, yc, rfl⟩, ⟨za, zn, zc, rfl⟩⟩ := cp_form hcp
  have HB1 : Hid (Below w.heap.size w w1) := hB1
  have HCP : Hid (CpAt 4097 w1 aT (.string nm1) (.slice ya yn yc) (.slice za zn zc)) := hcp
  have hk1 := keep w1 (.cells #[.string nm1, .slice ya yn yc, .slice za zn zc] 25)
  have hwr := write_tree 4097 aT _ _ _ (w1.alloc (.cells #[.string nm1, .slice ya yn yc, .slice za zn zc] 25)) (CpAt.below hk1 _ _ _ _ _ hcp) (hfit _)
  have HK1 : Hid (Below w1.heap.size w1 (w1.alloc (.cells #[.string nm1, .slice ya yn yc, .slice za zn zc] 25))) := hk1
  have HG1 : Hid (Blk (w1.alloc (.cells #[.string nm1, .slice ya yn yc, .slice za zn zc] 25)) w1.heap.size #[.string nm1, .slice ya yn yc, .slice za zn zc] 25) := Blk.new _ _ _
  unfold compV at hwr ⊢
  clear hk1 hcp hB1 hsome hok hfit
  go_wp2_with fail
  refine hwr.mono ?_
  rintro e w2 ⟨v2, c2, rfl, hb2, hans⟩
  clear hwr
  rcases hans with ⟨rfl, _, _, _, hown⟩ | ⟨_, ⟨hno, _⟩ | ⟨_, _, hno⟩⟩
  rotate_left
  · rw [a_right] at hno; cases hno
  · rw [a_wl, a_out] at hno
    rcases hno with q | q
    · exact absurd q (by decide)
    · exact absurd q (by decide)
  rw [a_wl, a_out] at hown
  have hbb : Below w1.heap.size w1 w2 := HK1.out.trans (hb2.mono HK1.out.size)
  have HB2 : Hid (Below w.heap.size w w2) := HB1.out.trans (hbb.mono HB1.out.size)
  have HG2 : Hid (Blk w2 w1.heap.size #[.string nm1, .slice ya yn yc, .slice za zn zc] 25) := HG1.out.below hb2 HG1.out.lt
  have HCP2 : Hid (CpAt 4097 w2 aT (.string nm1) (.slice ya yn yc) (.slice za zn zc)) := CpAt.below hbb _ _ _ _ _ HCP.out
  obtain ⟨a2, cap2, rfl, _, _, hr2, _⟩ := row_of_own hown
  have HR2 : Hid (Row w2 a2 aW) := hr2
  have hrn := read_tree none 0 0 [] w2 rfl (fun x hx => by simp at hx) (Nat.le_refl _) (Nat.zero_le _) (.inl rfl) mx (cell_keep HB2.out HM.out)
  clear hown hb2 hbb hr2
  go_wp2_with fail
  refine hrn.mono ?_
  rintro e w3 ⟨x3, y3, z3, c3, rfl, hb3, hans⟩
  clear hrn
  have hans2 : c3 = 100 ∧ x3 = .string ⟨#[]⟩ ∧ y3 = .slice none 0 0 ∧ z3 = .slice none 0 0 := by
    rcases hans with ⟨p, hrf, _⟩ | ⟨ms, hok, ⟨_, h1, h2, h3, h4⟩ | ⟨t, hsome, _⟩⟩
    · exact absurd hrf (n_good p c3)
    · exact ⟨h1, h2, h3, h4⟩
    · rw [n_lines hok] at hsome; cases hsome
  obtain ⟨rfl, rfl, rfl, rfl⟩ := hans2
  have HB3 : Hid (Below w.heap.size w w3) := HB2.out.trans (hb3.mono HB2.out.size)
  have HG3 : Hid (Blk w3 w1.heap.size #[.string nm1, .slice ya yn yc, .slice za zn zc] 25) := HG2.out.below hb3 HG2.out.lt
  have HCP3 : Hid (CpAt 4097 w3 aT (.string nm1) (.slice ya yn yc) (.slice za zn zc)) := CpAt.below hb3 _ _ _ _ _ HCP2.out
  have HR3 : Hid (Row w3 a2 aW) := row_below HR2.out hb3
  have hk3 := keep w3 (.cells #[.string ⟨#[]⟩, .slice none 0 0, .slice none 0 0] 25)
  obtain ⟨g0, g1, g2⟩ := cells3 (HG3.out.below hk3 HG3.out.lt)
  obtain ⟨g0', g1', g2'⟩ := cells3 HG3.out
  have hgt := get_tree nm1 ⟨#[88]⟩ ya za yn yc zn zc aT.ls (w3.alloc (.cells #[.string ⟨#[]⟩, .slice none 0 0, .slice none 0 0] 25)) ((HCP3.out.2.1).below hk3) (fun x hx => by simp [aT] at hx; subst hx; exact ⟨by decide, by decide, by decide, by simp⟩) (by decide)
  have HK3 : Hid (Below w3.heap.size w3 (w3.alloc (.cells #[.string ⟨#[]⟩, .slice none 0 0, .slice none 0 0] 25))) := hk3
  unfold compV at hgt ⊢
  clear hb3 hans hk3
  go_wp2_with fail
  refine hgt.mono ?_
  rintro e w4 ⟨nm4, vl4, a4, c4, fs4, n4, rfl, _, hb4, hn4, hfi4⟩
  clear hgt
  have hv4 : nums vl4 = [49] := congrArg Ln.value hfi4
  obtain rfl : vl4 = ⟨#[49]⟩ := nums_inj (hv4.trans (by decide))
  obtain rfl : n4 = 1 := hn4
  have hbb : Below w3.heap.size w3 w4 := HK3.out.trans (hb4.mono HK3.out.size)
  have HB4 : Hid (Below w.heap.size w w4) := HB3.out.trans (hbb.mono HB3.out.size)
  have HR4 : Hid (Row w4 a2 aW) := row_below HR3.out hbb
  obtain ⟨m4, hm4⟩ : ∃ m, fs4.length = m := ⟨_, rfl⟩
  unfold lineV
  rw [hm4]
  clear hb4 hbb hfi4 hv4
  have hkk := conv_row (w := w4.alloc (.cells #[.string nm4, .slice a4 m4 c4, .string ⟨#[49]⟩] 39)) aW.length cap2 rfl (row_below HR4.out (keep w4 _))
  have e1 : strOfNums aW = ⟨#[66, 69, 71, 73, 78, 58, 65, 13, 10, 88, 58, 49, 13, 10, 69, 78, 68, 58, 65, 13, 10]⟩ := by decide +kernel
  rw [e1] at hkk
  go_wp2
  go_ret
  exact ⟨by first | rfl | (simp; done), HB4.out.alloc HB4.out.size _⟩
end Go.Proofs.YtenclgnkogmgiaaDoor
namespace Go.Proofs.YtenclgnkogmgiaaDoor
open Go.RowKit Go.Shelf
set_option linter.unusedVariables false
set_option linter.unusedSimpArgs false

/-- At most so many storeys. -/
def dep : Nat → Cp → Prop
  | 0, _ => False
  | h + 1, t => ∀ q ∈ t.cs, dep h q
theorem dep_mono : ∀ (a b : Nat) (t : Cp), a ≤ b → dep a t → dep b t
  | 0, _, _, _, h => h.elim
  | a + 1, 0, _, hab, _ => by omega
  | a + 1, b + 1, t, hab, h => fun q hq => dep_mono a b q (by omega) (h q hq)
theorem dep_cp {w : World} : ∀ (h : Nat) (t : Cp) (x y z : Value), CpAt h w t x y z → dep h t
  | 0, _, _, _, _, hp => hp.elim
  | h + 1, t, x, y, z, ⟨_, _, _, a, c, _, hr⟩ => fun q hq => by
    obtain ⟨i, hi⟩ := List.getElem?_of_mem hq
    rcases hr with h0 | ⟨b, off, _, hc⟩
    · rw [h0] at hq; simp at hq
    · obtain ⟨x, y, z, _, _, _, hp⟩ := hc i q hi
      exact dep_cp h q x y z hp
theorem dep_rt : ∀ (f : Nat) (s : Nat × Nat) (t : Cp), (rtP f s t).1 = true → dep f t
  | 0, s, t, h => by simp [rtP] at h
  | f + 1, s, t, h => fun q hq => by
    obtain ⟨_, _, h3⟩ := rt_inv h
    obtain ⟨s', hs'⟩ := h3 q hq
    exact dep_rt f s' q hs'
theorem wl_dep : ∀ (a b : Nat) (t : Cp), dep a t → dep b t → wlP a t = wlP b t
  | 0, _, _, h, _ => h.elim
  | a + 1, 0, _, _, h => h.elim
  | a + 1, b + 1, t, h1, h2 => by
    have : t.cs.flatMap (wlP a) = t.cs.flatMap (wlP b) := by
      rw [List.flatMap_def, List.flatMap_def]
      congr 1
      exact List.map_congr_left (fun q hq => wl_dep a b q (h1 q hq) (h2 q hq))
    simp only [wlP, this]
theorem up_large : ∀ l : List Int, l.all upC = true → l.map largeZ = l
  | [], _ => rfl
  | c :: l, h => by
    rw [List.all_cons, Bool.and_eq_true] at h
    rw [List.map_cons, up_large l h.2]
    congr 1
    have := h.1
    unfold upC at this
    simp only [Bool.or_eq_true, decide_eq_true_eq] at this
    unfold largeZ
    rw [if_neg (by omega)]
theorem name_large {l : List Int} (h : nameZ l = true) : l.map largeZ = l := by
  unfold nameZ at h
  simp only [Bool.and_eq_true] at h
  exact up_large l h.2
theorem cp_eta (t : Cp) : (⟨t.nm, t.ls, t.cs⟩ : Cp) = t := by cases t; rfl
theorem rd_lines : ∀ (ls : List Ln) (f : Cp) (st : List Cp) (r : List Ln), ls.all ownZ = true → rdM (f :: st) (ls ++ r) = rdM (⟨f.nm, f.ls ++ ls, f.cs⟩ :: st) r
  | [], f, st, r, _ => by rw [List.nil_append, List.append_nil, cp_eta]
  | l :: ls, f, st, r, h => by
    rw [List.all_cons, Bool.and_eq_true] at h
    have ho := h.1
    unfold ownZ at ho
    simp only [Bool.and_eq_true, Bool.not_eq_true', Bool.or_eq_false_iff, decide_eq_false_iff_not] at ho
    have hf : frZ l.name = false := by unfold frZ; rw [decide_eq_false ho.1.1, decide_eq_false ho.1.2]; rfl
    rw [List.cons_append, rdM_own (by rw [hf]; rfl) ho.1.1 ho.1.2, rd_lines ls _ st r h.2]
    simp
theorem en_ne : ¬ enZ = bgZ := by decide
theorem rd_in : ∀ (f : Nat) (s : Nat × Nat) (t g : Cp) (st : List Cp) (r : List Ln), (rtP f s t).1 = true → rdM (g :: st) (wlP f t ++ r) = rdM (⟨g.nm, g.ls, g.cs ++ [t]⟩ :: st) r
  | 0, s, t, g, st, r, h => by simp [rtP] at h
  | f + 1, s, t, g, st, r, h => by
    obtain ⟨h1, h2, h3⟩ := rt_inv h
    have comps : ∀ (cs : List Cp), (∀ q ∈ cs, ∃ s', (rtP f s' q).1 = true) → ∀ (k : Cp) (r : List Ln), rdM (k :: g :: st) (cs.flatMap (wlP f) ++ r) = rdM (⟨k.nm, k.ls, k.cs ++ cs⟩ :: g :: st) r := by
      intro cs
      induction cs with
      | nil => intro _ k r; rw [List.flatMap_nil, List.nil_append, List.append_nil, cp_eta]
      | cons q cs ih =>
        intro hq k r
        obtain ⟨s', hs'⟩ := hq q (List.mem_cons_self ..)
        rw [List.flatMap_cons, List.append_assoc, rd_in f s' q k (g :: st) _ hs', ih (fun x hx => hq x (List.mem_cons_of_mem _ hx))]
        simp
    simp only [wlP, List.append_assoc, List.cons_append, List.nil_append]
    rw [rdM_bg (by rfl) rfl]
    simp only [name_large h1]
    rw [rd_lines t.ls _ _ _ h2, comps t.cs h3, rdM_close (by rfl) en_ne rfl (by simp only; exact name_large h1)]
    simp only [List.nil_append, cp_eta]
theorem rd_all (f : Nat) (t : Cp) (h : (rtP (f + 1) (0, 0) t).1 = true) (hr : rightT t = true) : rdM [] (wlP (f + 1) t) = some t := by
  obtain ⟨h1, h2, h3⟩ := rt_inv h
  have comps : ∀ (cs : List Cp), (∀ q ∈ cs, ∃ s', (rtP f s' q).1 = true) → ∀ (k : Cp) (r : List Ln), rdM [k] (cs.flatMap (wlP f) ++ r) = rdM [⟨k.nm, k.ls, k.cs ++ cs⟩] r := by
    intro cs
    induction cs with
    | nil => intro _ k r; rw [List.flatMap_nil, List.nil_append, List.append_nil, cp_eta]
    | cons q cs ih =>
      intro hq k r
      obtain ⟨s', hs'⟩ := hq q (List.mem_cons_self ..)
      rw [List.flatMap_cons, List.append_assoc, rd_in f s' q k [] _ hs', ih (fun x hx => hq x (List.mem_cons_of_mem _ hx))]
      simp
  simp only [wlP, List.append_assoc, List.cons_append, List.nil_append]
  rw [rdM_bg (by rfl) rfl]
  simp only [name_large h1]
  rw [rd_lines t.ls _ _ _ h2, comps t.cs h3, rdM_last (by rfl) en_ne rfl (by simp only; exact name_large h1)]
  simp only [List.nil_append, cp_eta]
  simp [hr]
theorem rd_top {t : Cp} (h : rightT t = true) : rdM [] (wlP 8 t) = some t := rd_all 7 t h h
/-- How long lines are, written, without folds. -/
def lenW (l : Ln) : Nat := (writtenZ l).length + 2
def sumW (l : List Ln) : Nat := (l.map lenW).sum
theorem sumW_append (a b : List Ln) : sumW (a ++ b) = sumW a + sumW b := by unfold sumW; rw [List.map_append, List.sum_append]
theorem sumW_cons (a : Ln) (b : List Ln) : sumW (a :: b) = lenW a + sumW b := by unfold sumW; rw [List.map_cons, List.sum_cons]
theorem sumW_nil : sumW [] = 0 := rfl
theorem lenW_large (n v : List Int) : lenW ⟨n, [], v.map largeZ⟩ = lenW ⟨n, [], v⟩ := by
  unfold lenW writtenZ; simp
def openW (N : Nat) : List Cp → Nat
  | [] => 0
  | f :: st => openW N st + (lenW ⟨bgZ, [], f.nm⟩ + sumW f.ls + sumW (f.cs.flatMap (wlP N)))
theorem wl_succ {N : Nat} {t : Cp} (h : ∀ q ∈ t.cs, dep N q) : sumW (wlP (N + 1) t) = lenW ⟨bgZ, [], t.nm⟩ + sumW t.ls + sumW (t.cs.flatMap (wlP N)) + lenW ⟨enZ, [], t.nm⟩ := by
  simp only [wlP, sumW_append, sumW_cons, sumW_nil, List.cons_append]; omega
theorem rd_sum (N : Nat) : ∀ (L : List Ln) (st : List Cp) (k : Nat) (c : Cp), (∀ f ∈ st, ∀ q ∈ f.cs, dep k q) → k + L.length ≤ N → rdM st L = some c → dep (N + 1) c ∧ rightT c = true ∧ sumW (wlP (N + 1) c) = openW N st + sumW L
  | [], st, k, c, _, _, h => by cases st <;> simp [rdM] at h
  | l :: L, st, k, c, hd, hk, h => by
    rw [List.length_cons] at hk
    have up : ∀ f ∈ st, ∀ q ∈ f.cs, dep (k + 1) q := fun f hf q hq => dep_mono k (k + 1) q (by omega) (hd f hf q hq)
    cases h1 : (frZ l.name && decide (l.pars ≠ [])) with
    | true => rw [rdM_bad h1] at h; cases h
    | false =>
      have hpars : frZ l.name = true → l.pars = [] := fun q => by
        rw [q, Bool.true_and, decide_eq_false_iff_not] at h1
        exact Classical.not_not.1 h1
      by_cases h2 : l.name = bgZ
      · rw [rdM_bg h1 h2] at h
        obtain ⟨i1, i2, i3⟩ := rd_sum N L _ (k + 1) c (fun f hf => by
          rcases List.mem_cons.1 hf with rfl | hf
          · intro q hq; simp at hq
          · exact up f hf) (by omega) h
        refine ⟨i1, i2, ?_⟩
        rw [i3, sumW_cons]
        simp only [openW, List.flatMap_nil, sumW_nil]
        have e : l = ⟨bgZ, [], l.value⟩ := by
          have := hpars (by rw [h2]; rfl)
          obtain ⟨a, b, v⟩ := l
          simp only at h2 this ⊢
          rw [h2, this]
        rw [lenW_large]
        have e2 : lenW l = lenW ⟨bgZ, [], l.value⟩ := by conv => lhs; rw [e]
        rw [e2]; omega
      · cases st with
        | nil => rw [rdM_empty h1 h2] at h; cases h
        | cons f st =>
          by_cases h3 : l.name = enZ
          · by_cases h4 : l.value.map largeZ = f.nm
            · have e2 : lenW l = lenW ⟨enZ, [], f.nm⟩ := by
                have hp := hpars (by rw [h3]; rfl)
                rw [← h4, lenW_large]
                obtain ⟨a, b, v⟩ := l
                simp only at h3 hp ⊢
                rw [h3, hp]
              have hfd : ∀ q ∈ f.cs, dep k q := hd f (List.mem_cons_self ..)
              have hfN : dep (k + 1) f := hfd
              cases st with
              | nil =>
                rw [rdM_last h1 h2 h3 h4] at h
                split at h
                · rename_i hr
                  simp only [Option.some.injEq] at h
                  subst h
                  refine ⟨dep_mono (k + 1) (N + 1) f (by omega) hfN, hr.2, ?_⟩
                  rw [wl_succ (fun q hq => dep_mono k N q (by omega) (hfd q hq)), hr.1, sumW_cons, sumW_nil, e2]
                  simp only [openW]; omega
                · cases h
              | cons g st =>
                rw [rdM_close h1 h2 h3 h4] at h
                obtain ⟨i1, i2, i3⟩ := rd_sum N L _ (k + 1) c (fun x hx => by
                  rcases List.mem_cons.1 hx with rfl | hx
                  · intro q hq
                    rcases List.mem_append.1 hq with hq | hq
                    · exact up g (by simp) q hq
                    · simp at hq; subst hq; exact hfN
                  · exact up x (by simp [hx])) (by omega) h
                refine ⟨i1, i2, ?_⟩
                rw [i3, sumW_cons, e2]
                have hN : N = (N - 1) + 1 := by omega
                have ew : sumW (wlP N f) = lenW ⟨bgZ, [], f.nm⟩ + sumW f.ls + sumW (f.cs.flatMap (wlP N)) + lenW ⟨enZ, [], f.nm⟩ := by
                  have e3 : wlP N f = wlP (N + 1) f := wl_dep N (N + 1) f (dep_mono (k + 1) N f (by omega) hfN) (dep_mono (k + 1) (N + 1) f (by omega) hfN)
                  rw [e3]
                  exact wl_succ (fun q hq => dep_mono k N q (by omega) (hfd q hq))
                simp only [openW, List.flatMap_append, List.flatMap_cons, List.flatMap_nil, List.append_nil, sumW_append, ew]
                omega
            · rw [rdM_end h1 h2 h3 h4] at h; cases h
          · rw [rdM_own h1 h2 h3] at h
            obtain ⟨i1, i2, i3⟩ := rd_sum N L _ (k + 1) c (fun x hx => by
              rcases List.mem_cons.1 hx with rfl | hx
              · exact up f (by simp)
              · exact up x (by simp [hx])) (by omega) h
            refine ⟨i1, i2, ?_⟩
            rw [i3, sumW_cons]
            simp only [openW, sumW_append, sumW_cons, sumW_nil]
            omega
theorem out_sum : ∀ l : List Ln, (outN l).length ≤ 4 * sumW l
  | [] => by simp [outN, endW]
  | n :: l => by
    have ih := out_sum l
    have e : outN (n :: l) = endW (foldL (writtenZ n)) ++ outN l := by simp [outN, endW]
    have h3 := fold_sum (writtenZ n).length [] (writtenZ n)
    rw [e, List.length_append, sumW_cons]
    unfold lenW foldL
    simp only [List.length_nil] at h3
    omega
theorem len_sum : ∀ l : List Ln, 2 * l.length ≤ sumW l
  | [] => by simp
  | n :: l => by have := len_sum l; rw [List.length_cons, sumW_cons]; unfold lenW; omega
theorem read_sumW : ∀ (ls : List Lm) (S : List (List Int)), (∀ (i : Nat) (m : Lm), ls[i]? = some m → ∃ q, S[i]? = some q ∧ goodP q = some m.ln) → sumW (ls.map Lm.ln) ≤ S.flatten.length
  | [], S, _ => by simp [sumW]
  | m :: ls, S, h => by
    obtain ⟨q, hq, hg⟩ := h 0 m rfl
    cases S with
    | nil => simp at hq
    | cons s S =>
      simp only [List.getElem?_cons_zero, Option.some.injEq] at hq
      subst hq
      have ih := read_sumW ls S (fun i m' hm => h (i + 1) m' hm)
      obtain ⟨g1, g2⟩ := good_wlen hg
      rw [List.map_cons, sumW_cons, List.flatten_cons, List.length_append]
      unfold lenW
      omega
theorem ok_sumW {l : List Int} {ls : List Lm} (h : ROk l ls) : sumW (ls.map Lm.ln) ≤ l.length := by
  obtain ⟨_, _, _, _, h⟩ := h
  have := read_sumW ls _ h
  rw [split_flat] at this
  have := unf_len l
  omega
end Go.Proofs.YtenclgnkogmgiaaDoor
namespace Go.Proofs.YtenclgnkogmgiaaDoor
open Go.RowKit Go.Shelf
set_option linter.unusedVariables false
set_option linter.unusedSimpArgs false

theorem out_byt (ls : List Lm) : Byt (outM ls) := by
  intro x hx
  unfold outM endW at hx
  obtain ⟨p, hp, hx⟩ := List.mem_flatMap.1 hx
  obtain ⟨m, hm, hp⟩ := List.mem_flatMap.1 hp
  have hpb : Byt p := fold_byt _ _ _ (by intro y hy; cases hy) (written_byt m.nm m.vl m.fs) p hp
  rcases List.mem_append.1 hx with h | h
  · exact hpb x h
  · simp at h; omega
theorem cp_ms {w : World} : ∀ (h : Nat) (t : Cp) (x y z : Value), CpAt h w t x y z → ∃ ms : List Lm, ms.map Lm.ln = wlP h t
  | 0, _, _, _, _, hp => hp.elim
  | h + 1, t, x, y, z, ⟨⟨s, _, hs⟩, ⟨_, _, ms, _, _, hms, _⟩, _, _, _, _, hr⟩ => by
    have comps : ∀ cs : List Cp, (∀ q ∈ cs, ∃ ks : List Lm, ks.map Lm.ln = wlP h q) → ∃ ks : List Lm, ks.map Lm.ln = cs.flatMap (wlP h) := by
      intro cs
      induction cs with
      | nil => intro _; exact ⟨[], rfl⟩
      | cons q cs ih =>
        intro hq
        obtain ⟨k1, h1⟩ := hq q (List.mem_cons_self ..)
        obtain ⟨k2, h2⟩ := ih (fun x hx => hq x (List.mem_cons_of_mem _ hx))
        exact ⟨k1 ++ k2, by rw [List.map_append, h1, h2, List.flatMap_cons]⟩
    obtain ⟨ks, hks⟩ := comps t.cs (fun q hq => by
      obtain ⟨i, hi⟩ := List.getElem?_of_mem hq
      rcases hr with h0 | ⟨b, off, _, hc⟩
      · rw [h0] at hq; simp at hq
      · obtain ⟨x, y, z, _, _, _, hp⟩ := hc i q hi
        exact cp_ms h q x y z hp)
    refine ⟨(⟨⟨#[66, 69, 71, 73, 78]⟩, s, none, 0, []⟩ :: (ms ++ ks)) ++ [⟨⟨#[69, 78, 68]⟩, s, none, 0, []⟩], ?_⟩
    simp only [List.map_append, List.map_cons, List.map_nil, hms, hks, wlP]
    rw [← hs]; rfl
set_option maxRecDepth 100000 in
theorem read_written {t : Cp} {h : Nat} {ms : List Lm} (hms : ms.map Lm.ln = wlP h t) (hr : rightT t = true) (hd : dep h t) (hn : (wlP h t).length < 4096) (hl : (outN (wlP h t)).length ≤ 1048576)
    (v : Value) (B : Nat) (w : World) (ho : Own w B v (outN (wlP h t))) (mx : Int) (hm : w.cell? ⟨0, 0, none⟩ = some (.int .i64 mx)) :
    Calls Tryd.prog 16 #[v] w fun e w' => ∃ x y z, e = .returned (.tuple #[compV x y z, .int .i64 0]) ∧ Below w.heap.size w w' ∧ (∀ k, FitC k t) ∧ CpAt 4097 w' t x y z := by
  obtain ⟨a, cap, rfl, hcl, hcm, hrow, _⟩ := row_of_own ho
  have e0 : outN (wlP h t) = outM ms := by rw [outN_M, hms]
  have hall : ms.all okM = true := by
    rw [List.all_eq_true]
    intro m hm
    exact wl_right 8 h (0, 0) t hr m.ln (by rw [← hms]; exact List.mem_map.2 ⟨m, hm, rfl⟩)
  have hml : ms.length = (wlP h t).length := by rw [← hms, List.length_map]
  rw [e0] at hl hcl hrow ⊢
  obtain ⟨hno, hyes⟩ := read_back ms hall hl (by omega)
  refine (read_tree a _ cap (outM ms) w rfl (out_byt ms) hcl hcm hrow mx hm).mono ?_
  rintro e w' ⟨x, y, z, c, rfl, hb, hans⟩
  have hw8 : wlP h t = wlP 8 t := wl_dep h 8 t hd (dep_rt 8 (0, 0) t hr)
  have hrd : ∀ ks : List Lm, ROk (outM ms) ks → rdM [] (ks.map Lm.ln) = some t := fun ks hk => by
    have hs := hyes ks hk
    have : ks.map Lm.ln = ms.map Lm.ln := by
      apply List.ext_getElem?
      intro i
      rw [List.getElem?_map, List.getElem?_map]
      cases h1 : ms[i]? with
      | none =>
        have : ms.length ≤ i := by simpa using h1
        rw [List.getElem?_eq_none (by have := hs.1; omega)]
      | some m =>
        have hi := (List.getElem?_eq_some_iff.1 h1).1
        obtain ⟨m', h2⟩ : ∃ m', ks[i]? = some m' := ⟨_, List.getElem?_eq_getElem (by have := hs.1; omega)⟩
        obtain ⟨q1, q2, q3⟩ := hs.2 i m m' h1 h2
        rw [h2]
        simp only [Option.map_some, Option.some.injEq]
        unfold Lm.ln; rw [q1, q2, q3]
    rw [this, hms, hw8]; exact rd_top hr
  rcases hans with ⟨p, hrf, _⟩ | ⟨ks, hok, ⟨hnone, _⟩ | ⟨t', hsome, rfl, hfit, hcp⟩⟩
  · exact absurd hrf (hno p c)
  · rw [hrd ks hok] at hnone; cases hnone
  · rw [hrd ks hok] at hsome
    cases hsome
    exact ⟨x, y, z, rfl, hb, hfit, hcp⟩
theorem zero_at (w : World) : CpAt 1 w ⟨[], [], []⟩ (.string ⟨#[]⟩) (.slice none 0 0) (.slice none 0 0) :=
  ⟨⟨_, rfl, rfl⟩, ⟨none, 0, [], rfl, .inl rfl, rfl, Nat.zero_le _, fun _ => rfl, fun m hm => by simp at hm⟩, Nat.zero_le _, none, 0, rfl, .inl rfl⟩
end Go.Proofs.YtenclgnkogmgiaaDoor
