/-
  Same, Great, Count, Get; what is read of fixed texts.
-/
import Derived.Test.YtenclgnkogmgiaaDoorXb
import Derived.Test.YtenclgnkogmgiaaDoorSa
import Derived.Deep.RegionHeld
namespace Go.Proofs.YtenclgnkogmgiaaDoor
open Go.RowKit Go.Shelf
set_option linter.unusedVariables false
set_option linter.unusedSimpArgs false

theorem takeD {P : Program} {ops : Array Oper} {Q : Exit → Act → World → Prop} {md : Region.Mode} {S : World → Prop} (d : Option Tmp) {i : Nat} {oi : Oper} {v : Value} {fuel : Nat} {listed : Array Bool} {a : Act} {w : World} (hi : ops[i]? = some oi) (hd : oi.dst = d)
    (hs : Region.noSelect ops = true) (hf : Region.free md ops listed i = true) (hr : (Region.ready md ops listed).contains i = true)
    (hQ : ∀ c a w, Q (.panic c) (a.put oi.dst v) w → Q (.panic c) a w) (hy : YieldsIf P ops S oi v a) (hS : S w)
    (h : wpAnyH P md ops Q S fuel (listed.setIfInBounds i true) (a.put d v) w) : wpAnyH P md ops Q S (fuel + 1) listed a w := by
  subst hd
  exact wpAnyH_take hi hs hf hr hQ hy hS h
theorem same_ln {ms ks : List Lm} (h : ms.map Lm.ln = ks.map Lm.ln) : SameL ms ks := by
  have hl : ms.length = ks.length := by have := congrArg List.length h; simpa using this
  refine ⟨hl, fun i m m' hm hm' => ?_⟩
  have : (ms.map Lm.ln)[i]? = (ks.map Lm.ln)[i]? := by rw [h]
  rw [List.getElem?_map, List.getElem?_map, hm, hm'] at this
  obtain ⟨h1, h2, h3⟩ := lm_inj (show m'.ln = m.ln by simpa using this.symm)
  exact ⟨h1, h2, h3⟩
def SmC (h : Nat) : Prop := ∀ (t : Cp) (x y z x' y' z' : Value) (w : World), CpAt h w t x y z → CpAt h w t x' y' z' → Calls Tryd.prog 18 #[compV x y z, compV x' y' z'] w fun e w' => e = .returned (.bool true) ∧ Below w.heap.size w w'
def SmL (h : Nat) : Prop := ∀ (ts : List Cp) (v v' : Value) (w : World), TRow w v ts (CpAt h w) → TRow w v' ts (CpAt h w) → Calls Tryd.prog 23 #[v, v'] w fun e w' => e = .returned (.bool true) ∧ Below w.heap.size w w'
set_option maxHeartbeats 8000000 in
set_option maxRecDepth 100000 in
theorem same_list (h : Nat) (ih : SmC h) : SmL h := by
  intro ts v v' w h1 h2
  obtain ⟨hl, a1, c1, rfl, h1⟩ := h1
  obtain ⟨_, a2, c2, rfl, h2⟩ := h2
  have hmx : ts.length ≤ 9223372036854775807 := hl
  have HIH : Hid (SmC h) := ih
  have H1 : Hid (ts = [] ∨ ∃ b off, a1 = some ⟨b, off, none⟩ ∧ ∀ (i : Nat) (t : Cp), ts[i]? = some t → ∃ x y z, w.cell? ⟨b, off + i * 3, none⟩ = some x ∧ w.cell? ⟨b, off + i * 3 + 1, none⟩ = some y ∧ w.cell? ⟨b, off + i * 3 + 2, none⟩ = some z ∧ CpAt h w t x y z) := h1
  have H2 : Hid (ts = [] ∨ ∃ b off, a2 = some ⟨b, off, none⟩ ∧ ∀ (i : Nat) (t : Cp), ts[i]? = some t → ∃ x y z, w.cell? ⟨b, off + i * 3, none⟩ = some x ∧ w.cell? ⟨b, off + i * 3 + 1, none⟩ = some y ∧ w.cell? ⟨b, off + i * 3 + 2, none⟩ = some z ∧ CpAt h w t x y z) := h2
  clear ih h1 h2
  go_enter Tryd.func23, Tryd.ntmps23
  go_wp2
  go_loopw [5] (fun i wr => ∃ k : Nat, i = .int .i64 (k : Nat) ∧ k ≤ ts.length ∧ Below w.heap.size w wr) (fun i _ => ts.length - (intOf i).toNat)
  case atStart => exact ⟨0, rfl, by omega, Below.refl _ _⟩
  case round =>
    obtain ⟨k, rfl, hk, hb⟩ := hrel
    have HB : Hid (Below w.heap.size w wr) := hb
    by_cases hlt : k < ts.length
    · obtain ⟨t, ht⟩ : ∃ t, ts[k]? = some t := ⟨_, List.getElem?_eq_getElem hlt⟩
      rcases H1.out with h0 | ⟨b1, o1, rfl, g1⟩
      · rw [h0] at hlt; simp at hlt
      rcases H2.out with h0 | ⟨b2, o2, rfl, g2⟩
      · rw [h0] at hlt; simp at hlt
      obtain ⟨x, y, z, e1, e2, e3, e4⟩ := g1 k t ht
      obtain ⟨x', y', z', d1, d2, d3, d4⟩ := g2 k t ht
      have e5 := CpAt.below hb h t x y z e4
      have d5 := CpAt.below hb h t x' y' z' d4
      obtain ⟨h', rfl⟩ : ∃ h', h = h' + 1 := by cases h with | zero => exact e4.elim | succ h => exact ⟨h, rfl⟩
      obtain ⟨⟨sx, rfl, _⟩, ⟨y1, y2, y3, rfl⟩, ⟨z1, z2, z3, rfl⟩⟩ := cp_form e4
      obtain ⟨⟨su, rfl, _⟩, ⟨v1, v2, v3, rfl⟩, ⟨p1, p2, p3, rfl⟩⟩ := cp_form d4
      have m1 := cell_keep hb e1
      have m2 := cell_keep hb e2
      have m3 := cell_keep hb e3
      have n1 := cell_keep hb d1
      have n2 := cell_keep hb d2
      have n3 := cell_keep hb d3
      have hsm := fun V (hV : Below wr.heap.size wr V) => HIH.out t _ _ _ _ _ _ V (CpAt.below hV _ _ _ _ _ e5) (CpAt.below hV _ _ _ _ _ d5)
      unfold compV at hsm
      clear e1 e2 e3 e4 d1 d2 d3 d4 e5 d5 g1 g2 hb ht
      go_wp2_with fail
      refine wp_region_held_drew (S := (fun V => Below wr.heap.size wr V ∧ V.cell? ⟨b1, o1 + k * 3, none⟩ = some (.string sx) ∧ V.cell? ⟨b1, o1 + k * 3 + 1, none⟩ = some (.slice y1 y2 y3) ∧ V.cell? ⟨b1, o1 + k * 3 + 2, none⟩ = some (.slice z1 z2 z3) ∧ V.cell? ⟨b2, o2 + k * 3, none⟩ = some (.string su) ∧ V.cell? ⟨b2, o2 + k * 3 + 1, none⟩ = some (.slice v1 v2 v3) ∧ V.cell? ⟨b2, o2 + k * 3 + 2, none⟩ = some (.slice p1 p2 p3))) (by kernel_rfl) (by (refine ⟨?_, ?_, ?_, ?_, ?_, ?_, ?_⟩ <;> first | assumption | exact below_drew (Below.refl _ _) | exact hHeld.1.trans (hb8.mono hHeld.1.size) | exact cell_keep hb8 hHeld.2.1 | exact cell_keep hb8 hHeld.2.2.1 | exact cell_keep hb8 hHeld.2.2.2.1 | exact cell_keep hb8 hHeld.2.2.2.2.1 | exact cell_keep hb8 hHeld.2.2.2.2.2.1 | exact cell_keep hb8 hHeld.2.2.2.2.2.2 | simp [*])) (fun hHeld => ?_)
      refine takeD (some 17) (i := 0) (v := .slice (some ⟨b1, o1, none⟩) ts.length c1) rfl rfl (by kernel_rfl) (by kernel_rfl) (by kernel_rfl) (fun _ _ _ h => h) (Or.inl ⟨by kernel_rfl, ?_⟩) (by assumption) ?_
      · (intro w hSw; (try dsimp only at hSw); go_simp)
      (try simp only [Act.put, List.setIfInBounds_toArray, List.set_cons_zero, List.set_cons_succ])
      refine takeD (some 18) (i := 1) (v := .int .i64 (k : Nat)) rfl rfl (by kernel_rfl) (by kernel_rfl) (by kernel_rfl) (fun _ _ _ h => h) (Or.inl ⟨by kernel_rfl, ?_⟩) (by assumption) ?_
      · (intro w hSw; (try dsimp only at hSw); go_simp)
      (try simp only [Act.put, List.setIfInBounds_toArray, List.set_cons_zero, List.set_cons_succ])
      refine takeD (some 19) (i := 2) (v := .pointer (some ⟨b1, o1 + k * 3, none⟩)) rfl rfl (by kernel_rfl) (by kernel_rfl) (by kernel_rfl) (fun _ _ _ h => h) (Or.inl ⟨by kernel_rfl, ?_⟩) (by assumption) ?_
      · (intro w hSw; (try dsimp only at hSw); go_simp)
      (try simp only [Act.put, List.setIfInBounds_toArray, List.set_cons_zero, List.set_cons_succ])
      refine takeD (some 20) (i := 3) (v := .agg #[.string sx, .slice y1 y2 y3, .slice z1 z2 z3]) rfl rfl (by kernel_rfl) (by kernel_rfl) (by kernel_rfl) (fun _ _ _ h => h) (Or.inl ⟨by kernel_rfl, ?_⟩) (by assumption) ?_
      · (intro w hSw; (try dsimp only at hSw); go_simp)
      (try simp only [Act.put, List.setIfInBounds_toArray, List.set_cons_zero, List.set_cons_succ])
      refine takeD (some 21) (i := 4) (v := .slice (some ⟨b2, o2, none⟩) ts.length c2) rfl rfl (by kernel_rfl) (by kernel_rfl) (by kernel_rfl) (fun _ _ _ h => h) (Or.inl ⟨by kernel_rfl, ?_⟩) (by assumption) ?_
      · (intro w hSw; (try dsimp only at hSw); go_simp)
      (try simp only [Act.put, List.setIfInBounds_toArray, List.set_cons_zero, List.set_cons_succ])
      refine takeD (some 22) (i := 5) (v := .int .i64 (k : Nat)) rfl rfl (by kernel_rfl) (by kernel_rfl) (by kernel_rfl) (fun _ _ _ h => h) (Or.inl ⟨by kernel_rfl, ?_⟩) (by assumption) ?_
      · (intro w hSw; (try dsimp only at hSw); go_simp)
      (try simp only [Act.put, List.setIfInBounds_toArray, List.set_cons_zero, List.set_cons_succ])
      refine takeD (some 23) (i := 6) (v := .pointer (some ⟨b2, o2 + k * 3, none⟩)) rfl rfl (by kernel_rfl) (by kernel_rfl) (by kernel_rfl) (fun _ _ _ h => h) (Or.inl ⟨by kernel_rfl, ?_⟩) (by assumption) ?_
      · (intro w hSw; (try dsimp only at hSw); go_simp)
      (try simp only [Act.put, List.setIfInBounds_toArray, List.set_cons_zero, List.set_cons_succ])
      refine takeD (some 24) (i := 7) (v := .agg #[.string su, .slice v1 v2 v3, .slice p1 p2 p3]) rfl rfl (by kernel_rfl) (by kernel_rfl) (by kernel_rfl) (fun _ _ _ h => h) (Or.inl ⟨by kernel_rfl, ?_⟩) (by assumption) ?_
      · (intro w hSw; (try dsimp only at hSw); go_simp)
      (try simp only [Act.put, List.setIfInBounds_toArray, List.set_cons_zero, List.set_cons_succ])
      refine wpAnyH_ready (rs := [8]) (by kernel_rfl) (by simp) ?_
      refine AllReadyH.cons rfl (fun K hK => ?_) AllReadyH.nil
      go_simp
      refine (hsm _ hHeld.1).mono ?_
      rintro e w8 ⟨rfl, hb8⟩
      refine hK.out _ _ (by (refine ⟨?_, ?_, ?_, ?_, ?_, ?_, ?_⟩ <;> first | assumption | exact below_drew (Below.refl _ _) | exact hHeld.1.trans (hb8.mono hHeld.1.size) | exact cell_keep hb8 hHeld.2.1 | exact cell_keep hb8 hHeld.2.2.1 | exact cell_keep hb8 hHeld.2.2.2.1 | exact cell_keep hb8 hHeld.2.2.2.2.1 | exact cell_keep hb8 hHeld.2.2.2.2.2.1 | exact cell_keep hb8 hHeld.2.2.2.2.2.2 | simp [*])) (fun hHeld => ?_)
      clear hK K
      refine takeD (some 26) (i := 9) (v := .bool false) rfl rfl (by kernel_rfl) (by kernel_rfl) (by kernel_rfl) (fun _ _ _ h => h) (Or.inl ⟨by kernel_rfl, ?_⟩) (by assumption) ?_
      · (intro w hSw; (try dsimp only at hSw); go_simp)
      (try simp only [Act.put, List.setIfInBounds_toArray, List.set_cons_zero, List.set_cons_succ])
      refine wpAnyH_done (by kernel_rfl) ?_ _
      have HX : Hid (Below w.heap.size w w8) := HB.out.trans (hHeld.1.mono HB.out.size)
      clear hHeld hb8 hsm
      go_wp2
      go_roundw
      case rel => exact ⟨k + 1, by go_num, by omega, HX.out⟩
      case measure => simp [intOf]; omega
    · have hk2 : ¬ (k : Int) < (ts.length : Int) := by omega
      clear hb
      go_wp2
      go_ret
      exact ⟨rfl, HB.out⟩
set_option maxHeartbeats 8000000 in
set_option maxRecDepth 100000 in
theorem same_part (h : Nat) (ih : SmL h) : SmC (h + 1) := by
  intro t x y z x' y' z' w h1 h2
  obtain ⟨⟨s1, rfl, hs1⟩, ⟨la, lc, ms, rfl, lr, hms, ml, _, mf⟩, h13⟩ := h1
  obtain ⟨⟨s2, rfl, hs2⟩, ⟨ka, kc, ks, rfl, kr, hks, kl, _, kf⟩, h23⟩ := h2
  obtain rfl : s1 = s2 := nums_inj (hs1.trans hs2.symm)
  have HX1 := h13
  have HX2 := h23
  obtain ⟨_, pa, pc, rfl, _⟩ := HX1
  obtain ⟨_, qa, qc, rfl, _⟩ := HX2
  have hsl : SameL ms ks := same_ln (hms.trans hks.symm)
  obtain ⟨n1, hn1⟩ : ∃ n, ms.length = n := ⟨_, rfl⟩
  have hn2 : ks.length = n1 := by rw [← hn1]; exact hsl.1.symm
  obtain ⟨pn, hpn⟩ : ∃ n, t.cs.length = n := ⟨_, rfl⟩
  have HFA := fun V (hV : Below w.heap.size w V) => same_any la ka n1 n1 lc kc ms ks V hn1 hn2 (by rw [← hn1]; exact ml) mf (lr.below hV) (kr.below hV) hsl
  have HL := fun V (hV : Below w.heap.size w V) => ih t.cs _ _ V (h13.mono hV (fun t x y z q => CpAt.below hV h t x y z q)) (h23.mono hV (fun t x y z q => CpAt.below hV h t x y z q))
  rw [hpn] at HL
  rw [hn1, hn2, hpn]
  have hk : Below w.heap.size w ((w.alloc (.cells #[.string s1, .slice la n1 lc, .slice pa pn pc] 25)).alloc (.cells #[.string s1, .slice ka n1 kc, .slice qa pn qc] 25)) := (keep w _).alloc (by simp) _
  have HK : Hid (Below w.heap.size w ((w.alloc (.cells #[.string s1, .slice la n1 lc, .slice pa pn pc] 25)).alloc (.cells #[.string s1, .slice ka n1 kc, .slice qa pn qc] 25))) := hk
  have HA : Hid (Blk ((w.alloc (.cells #[.string s1, .slice la n1 lc, .slice pa pn pc] 25)).alloc (.cells #[.string s1, .slice ka n1 kc, .slice qa pn qc] 25)) w.heap.size #[.string s1, .slice la n1 lc, .slice pa pn pc] 25) := (Blk.new _ _ _).alloc _
  have HB : Hid (Blk ((w.alloc (.cells #[.string s1, .slice la n1 lc, .slice pa pn pc] 25)).alloc (.cells #[.string s1, .slice ka n1 kc, .slice qa pn qc] 25)) (w.heap.size + 1) #[.string s1, .slice ka n1 kc, .slice qa pn qc] 25) := by
    have := Blk.new (w.alloc (.cells #[.string s1, .slice la n1 lc, .slice pa pn pc] 25)) #[.string s1, .slice ka n1 kc, .slice qa pn qc] 25
    rw [World.size_alloc] at this; exact this
  have hfa := HFA _ hk
  have HLL : Hid (∀ V, Below w.heap.size w V → Calls Tryd.prog 23 #[.slice pa pn pc, .slice qa pn qc] V fun e w' => e = .returned (.bool true) ∧ Below V.heap.size V w') := HL
  clear hk HFA HL h13 h23 lr kr hsl hn1 hn2 hms hks mf kf hs1 hs2
  unfold compV
  go_enter Tryd.func18, Tryd.ntmps18
  go_wp2_with fail
  refine hfa.mono ?_
  rintro e w1 ⟨rfl, hb1⟩
  clear hfa
  obtain ⟨a0, a1, a2⟩ := cells3 (HA.out.below hb1 HA.out.lt)
  obtain ⟨b0, b1, b2⟩ := cells3 (HB.out.below hb1 HB.out.lt)
  have HB1 : Hid (Below w.heap.size w w1) := HK.out.trans (hb1.mono HK.out.size)
  have hll := HLL.out w1 HB1.out
  clear hb1
  go_wp2_with fail
  refine hll.mono ?_
  rintro e w2 ⟨rfl, hb2⟩
  clear hll
  go_wp2
  go_ret
  exact ⟨rfl, HB1.out.trans (hb2.mono HB1.out.size)⟩
theorem same_all : ∀ h, SmC h
  | 0 => fun t x y z x' y' z' w h1 _ => h1.elim
  | h + 1 => same_part h (same_list h (same_all h))
end Go.Proofs.YtenclgnkogmgiaaDoor
namespace Go.Proofs.YtenclgnkogmgiaaDoor
open Go.RowKit Go.Shelf
set_option linter.unusedVariables false
set_option linter.unusedSimpArgs false

/-- Sizes that can be. -/
def WdN (l : Ln) : Prop := l.name.length ≤ 140737488355328 ∧ l.value.length ≤ 140737488355328 ∧ ∀ f ∈ l.pars, f.1.length ≤ 140737488355328 ∧ f.2.length ≤ 140737488355328
def WdC : Nat → Cp → Prop
  | 0, _ => True
  | h + 1, t => t.nm.length ≤ 140737488355328 ∧ (∀ l ∈ t.ls, WdN l) ∧ ∀ q ∈ t.cs, WdC h q
theorem wd_ln {m : Lm} (h : WdN m.ln) (hf : m.fs.length ≤ 9223372036854775807) : Wide m := by
  obtain ⟨h1, h2, h4⟩ := h
  unfold Lm.ln at h1 h2 h4
  simp only [nums_len] at h1 h2
  refine ⟨h1, h2, hf, fun f hf => ?_⟩
  have := h4 (nums f.1, nums f.2) (List.mem_map.2 ⟨f, hf, rfl⟩)
  simpa only [nums_len] using this
/-- Sizes at which the statements ask. -/
def smallT : Nat → Cp → Prop
  | 0, _ => False
  | k + 1, t => t.nm.length ≤ 200 ∧ t.ls.length ≤ 60 ∧ (∀ l ∈ t.ls, FitN l) ∧ t.cs.length ≤ 70 ∧ ∀ q ∈ t.cs, smallT k q
theorem small_fit : ∀ (k h : Nat) (t : Cp), smallT k t → FitC h t
  | 0, _, _, h => h.elim
  | k + 1, 0, _, _ => trivial
  | k + 1, h + 1, t, ⟨h1, h2, h3, h4, h5⟩ => ⟨by omega, h3, fun q hq => small_fit k h q (h5 q hq)⟩
theorem smally_fit {m : Lm} (h : Smally m) : FitN m.ln := by
  obtain ⟨h1, h2, h3, h4⟩ := h
  refine ⟨by show (nums m.nm).length ≤ _; rw [nums_len]; omega, by show (nums m.vl).length ≤ _; rw [nums_len]; omega, by show (numsP m.fs).length ≤ _; rw [numsP, List.length_map]; omega, fun f hf => ?_⟩
  obtain ⟨g, hg, rfl⟩ := List.mem_map.1 hf
  have := h4 g hg
  simp only [nums_len]; omega
def GrPost (w : World) (left : Nat) (t : Cp) (e : Ending) (w' : World) : Prop := ∃ b, e = .returned (.bool b) ∧ Below w.heap.size w w' ∧ (b = false → smallT left t)
theorem GrPost.yes {w w' : World} {left : Nat} {t : Cp} {e : Ending} (h : e = .returned (.bool true)) (hb : Below w.heap.size w w') : GrPost w left t e w' := ⟨true, h, hb, fun q => by cases q⟩
theorem GrPost.no {w w' : World} {left : Nat} {t : Cp} {e : Ending} (h : e = .returned (.bool false)) (hb : Below w.heap.size w w') (hs : smallT left t) : GrPost w left t e w' := ⟨false, h, hb, fun _ => hs⟩
def GrC (left : Nat) : Prop := ∀ (h : Nat) (t : Cp) (x y z : Value) (w : World), CpAt h w t x y z → WdC h t → Calls Tryd.prog 9 #[compV x y z, .int .i64 (left : Nat)] w (GrPost w left t)
set_option maxHeartbeats 4000000 in
set_option maxRecDepth 100000 in
theorem great_zero : GrC 0 := by
  intro h t x y z w hp _
  obtain ⟨⟨nm, rfl, _⟩, ⟨ya, yn, yc, rfl⟩, ⟨za, zn, zc, rfl⟩⟩ := cp_form hp
  unfold compV
  clear hp
  go_enter Tryd.func9, Tryd.ntmps9
  go_wp2
  go_ret
  exact GrPost.yes rfl (keep w _)
set_option maxHeartbeats 8000000 in
set_option maxRecDepth 100000 in
theorem great_step (k : Nat) (hk12 : k ≤ 100) (ih : GrC k) : GrC (k + 1) := by
  intro h t x y z w hp hwd
  obtain ⟨h', rfl⟩ : ∃ h', h = h' + 1 := by cases h with | zero => exact hp.elim | succ h => exact ⟨h, rfl⟩
  obtain ⟨hw1, hw2, hw3⟩ := hwd
  obtain ⟨⟨nm, rfl, hnm⟩, ⟨la, lc, ms, rfl, lr, hms, lm, _, mf⟩, ⟨pl, pa, pc, rfl, prow⟩⟩ := hp
  obtain ⟨pn, hpn⟩ : ∃ n, t.cs.length = n := ⟨_, rfl⟩
  obtain ⟨ln, hln⟩ : ∃ n, ms.length = n := ⟨_, rfl⟩
  have hk0 := keep w (.cells #[.string nm, .slice la ln lc, .slice pa pn pc] 25)
  have hgr := great_any la ln lc ms (w.alloc (.cells #[.string nm, .slice la ln lc, .slice pa pn pc] 25)) ⟨hln, by omega, lr.below hk0, fun m hm => wd_ln (hw2 _ (by rw [← hms]; exact List.mem_map.2 ⟨m, hm, rfl⟩)) (mf m hm)⟩
  have hG0 := Blk.new w #[.string nm, .slice la ln lc, .slice pa pn pc] 25
  rw [hln, hpn]
  have hle : ¬ ((k : Int) + 1 ≤ 0) := by omega
  have HPL : Hid (t.cs.length = pn) := hpn
  have HNM : Hid (nums nm = t.nm) := hnm
  have HMS : Hid (ms.map Lm.ln = t.ls) := hms
  have HLN : Hid (ms.length = ln) := hln
  have hnz : nm.size ≤ 140737488355328 := by rw [← nums_len, hnm]; exact hw1
  have hpm : pn ≤ 9223372036854775807 := by unfold maxLen at pl; omega
  have HPR : Hid (t.cs = [] ∨ ∃ b off, pa = some ⟨b, off, none⟩ ∧ ∀ (i : Nat) (t_1 : Cp), t.cs[i]? = some t_1 → ∃ x y z, w.cell? ⟨b, off + i * 3, none⟩ = some x ∧ w.cell? ⟨b, off + i * 3 + 1, none⟩ = some y ∧ w.cell? ⟨b, off + i * 3 + 2, none⟩ = some z ∧ CpAt h' w t_1 x y z) := prow
  have HK0 : Hid (Below w.heap.size w (w.alloc (.cells #[.string nm, .slice la ln lc, .slice pa pn pc] 25))) := hk0
  have HG0 : Hid (Blk (w.alloc (.cells #[.string nm, .slice la ln lc, .slice pa pn pc] 25)) w.heap.size #[.string nm, .slice la ln lc, .slice pa pn pc] 25) := hG0
  have HIH : Hid (GrC k) := ih
  have HW3 : Hid (∀ q ∈ t.cs, WdC h' q) := hw3
  unfold compV
  clear hk0 hG0 pl prow hpn ih hw1 hw2 hw3 hnm hms lr mf hln lm
  go_enter Tryd.func9, Tryd.ntmps9
  go_wp2_with fail
  refine hgr.mono ?_
  rintro e w1 ⟨gb, q, rfl, rfl, hsm⟩
  have HSM : Hid (gb = false → ln ≤ 60 ∧ ∀ m ∈ ms, Smally m) := hsm
  clear hgr hsm
  obtain ⟨w0, hw0⟩ : ∃ w0, (w.alloc (.cells #[.string nm, .slice la ln lc, .slice pa pn pc] 25)).drewN q = w0 := ⟨_, rfl⟩
  have HKK : Hid (Below w.heap.size w w0) := by unfold Hid; rw [← hw0]; exact below_drewN HK0.out q
  have HGG : Hid (Blk w0 w.heap.size #[.string nm, .slice la ln lc, .slice pa pn pc] 25) := by unfold Hid; rw [← hw0]; exact HG0.out
  rw [hw0]
  clear hw0 HK0 HG0
  obtain ⟨q0, q1, q2⟩ := cells3 HGG.out
  cases gb with
  | true =>
    go_wp2
    go_ret
    exact GrPost.yes rfl HKK.out
  | false =>
    obtain ⟨hl60, hsm⟩ := HSM.out rfl
    have HS : Hid (∀ m ∈ ms, Smally m) := hsm
    clear HSM hsm
    by_cases hq : 70 < pn
    · have hq1 : decide ((pn : Int) > 70) = true := by simp; omega
      go_wp2
      go_ret
      exact GrPost.yes rfl HKK.out
    · have hq1 : decide ((pn : Int) > 70) = false := by simp; omega
      by_cases hn : 200 < nm.size
      · have hn1 : decide ((nm.size : Int) > 200) = true := by simp; omega
        go_wp2
        go_ret
        exact GrPost.yes rfl HKK.out
      · have hn1 : decide ((nm.size : Int) > 200) = false := by simp; omega
        have HSMT : Hid ((∀ q ∈ t.cs, smallT k q) → smallT (k + 1) t) := fun hh => ⟨by rw [← HNM.out, nums_len]; omega, by rw [← HMS.out, List.length_map, HLN.out]; exact hl60, fun l hl => by
          rw [← HMS.out] at hl
          obtain ⟨m, hm, rfl⟩ := List.mem_map.1 hl
          exact smally_fit (HS.out m hm), by rw [HPL.out]; omega, hh⟩
        go_wp2_with fail
        go_loopw [5] (fun i wr => ∃ j : Nat, i = .int .i64 (j : Nat) ∧ j ≤ pn ∧ Below w0.heap.size w0 wr ∧ ∀ (m : Nat) u, m < j → t.cs[m]? = some u → smallT k u) (fun i _ => pn - (intOf i).toNat)
        case atStart => exact ⟨0, rfl, by omega, Below.refl _ _, fun m u hm => by omega⟩
        case round =>
          obtain ⟨j, rfl, hj, hbr, hno⟩ := hrel
          have HBR : Hid (Below w0.heap.size w0 wr) := hbr
          have HNO : Hid (∀ (m : Nat) u, m < j → t.cs[m]? = some u → smallT k u) := hno
          have HBW : Hid (Below w.heap.size w wr) := HKK.out.trans (hbr.mono HKK.out.size)
          obtain ⟨r0, r1, r2⟩ := cells3 (HGG.out.below hbr HGG.out.lt)
          clear q0 q1 q2 hbr hno
          by_cases hlt : j < pn
          · obtain ⟨u, hu⟩ : ∃ u, t.cs[j]? = some u := ⟨_, List.getElem?_eq_getElem (by have := HPL.out; omega)⟩
            rcases HPR.out with h0 | ⟨b1, o1, rfl, g1⟩
            · rw [h0] at hu; simp at hu
            obtain ⟨x1, y1, z1, e1, e2, e3, e4⟩ := g1 j u hu
            have e5 := CpAt.below HBW.out _ _ _ _ _ e4
            have e1 := cell_keep HBW.out e1
            have e2 := cell_keep HBW.out e2
            have e3 := cell_keep HBW.out e3
            have hch := HIH.out h' u x1 y1 z1 wr e5 (HW3.out u (List.mem_of_getElem? hu))
            obtain ⟨⟨un, rfl, _⟩, ⟨ya, yn, yc, rfl⟩, ⟨za, zn, zc, rfl⟩⟩ := cp_form e5
            have HU : Hid (t.cs[j]? = some u) := hu
            unfold compV at hch
            have hjp : ¬ (pn : Int) ≤ j := by omega
            have hs1 : IntKind.i64.wrap ((k : Int) + 1 - 1) = k := by rw [IntKind.wrap_i64]; omega
            clear e4 e5 g1 hu
            go_wp2_with fail
            refine hch.mono ?_
            rintro e w2 ⟨bu, rfl, hb2, hbu⟩
            clear hch e1 e2 e3
            have HBU : Hid (bu = false → smallT k u) := hbu
            have HB2 : Hid (Below w0.heap.size w0 w2) := HBR.out.trans (hb2.mono HBR.out.size)
            have HBW2 : Hid (Below w.heap.size w w2) := HBW.out.trans (hb2.mono HBW.out.size)
            clear hb2 r0 r1 r2 hbu
            cases bu with
            | true =>
              go_wp2
              go_ret
              exact GrPost.yes rfl HBW2.out
            | false =>
              go_wp2
              go_roundw
              case rel => exact ⟨j + 1, by go_num, by omega, HB2.out, fun m v hm hv => by
                by_cases hmj : m < j
                · exact HNO.out m v hmj hv
                · obtain rfl : m = j := by omega
                  rw [HU.out] at hv; cases hv; exact HBU.out (by first | rfl | trivial)⟩
              case measure => simp [intOf]; omega
          · go_wp2
            go_ret
            exact GrPost.no rfl HBW.out (HSMT.out (fun q hq => by
              obtain ⟨m, hm⟩ := List.getElem?_of_mem hq
              exact HNO.out m q (by have := (List.getElem?_eq_some_iff.1 hm).1; have := HPL.out; omega) hm))
theorem great_tree : ∀ left, left ≤ 100 → GrC left
  | 0, _ => great_zero
  | k + 1, h => great_step k (by omega) (great_tree k (by omega))
def CtC (h : Nat) : Prop := ∀ (t : Cp) (x y z : Value) (w : World), CpAt h w t x y z → Calls Tryd.prog 26 #[compV x y z] w fun e w' => ∃ n l d, e = .returned (.tuple #[.int .i64 n, .int .i64 l, .int .i64 d]) ∧ Below w.heap.size w w'
set_option maxHeartbeats 8000000 in
set_option maxRecDepth 100000 in
theorem count_step (h' : Nat) (ih : CtC h') : CtC (h' + 1) := by
  intro t x y z w hp
  obtain ⟨⟨nm, rfl, _⟩, ⟨y1, y2, y3, rfl⟩, _⟩ := cp_form hp
  have hy2 : y2 ≤ 9223372036854775807 := by obtain ⟨_, ⟨a, c, ms, e, _, _, hl, _⟩, _⟩ := hp; cases e; exact hl
  obtain ⟨_, _, ⟨pl, pa, pc, rfl, prow⟩⟩ := hp
  obtain ⟨pn, hpn⟩ : ∃ n, t.cs.length = n := ⟨_, rfl⟩
  have hpm : pn ≤ 9223372036854775807 := by unfold maxLen at pl; omega
  have HPL : Hid (t.cs.length = pn) := hpn
  have HPR : Hid (t.cs = [] ∨ ∃ b off, pa = some ⟨b, off, none⟩ ∧ ∀ (i : Nat) (t_1 : Cp), t.cs[i]? = some t_1 → ∃ x y z, w.cell? ⟨b, off + i * 3, none⟩ = some x ∧ w.cell? ⟨b, off + i * 3 + 1, none⟩ = some y ∧ w.cell? ⟨b, off + i * 3 + 2, none⟩ = some z ∧ CpAt h' w t_1 x y z) := prow
  rw [hpn]
  have hk0 := keep w (.cells #[.string nm, .slice y1 y2 y3, .slice pa pn pc] 25)
  have hG0 := Blk.new w #[.string nm, .slice y1 y2 y3, .slice pa pn pc] 25
  obtain ⟨w0, hw0⟩ : ∃ w0, w.alloc (.cells #[.string nm, .slice y1 y2 y3, .slice pa pn pc] 25) = w0 := ⟨_, rfl⟩
  rw [hw0] at hk0 hG0
  have HK0 : Hid (Below w.heap.size w w0) := hk0
  have HG0 : Hid (Blk w0 w.heap.size #[.string nm, .slice y1 y2 y3, .slice pa pn pc] 25) := hG0
  have HIH : Hid (CtC h') := ih
  obtain ⟨q0, q1, q2⟩ := cells3 hG0
  unfold compV
  clear hk0 hG0 pl prow hpn ih
  go_enter Tryd.func26, Tryd.ntmps26
  go_wp2
  go_region
  all_goals
    go_wp2
    go_loopw [5, 6, 7, 8] (fun c l d i wr => ∃ (j : Nat) (cn ln dn : Int), c = .int .i64 cn ∧ l = .int .i64 ln ∧ d = .int .i64 dn ∧ i = .int .i64 (j : Nat) ∧ j ≤ pn ∧ Below w0.heap.size w0 wr) (fun _ _ _ i _ => pn - (intOf i).toNat)
    case atStart => exact ⟨0, 1, _, 1, rfl, rfl, rfl, rfl, by omega, below_drew (Below.refl _ _)⟩
    case round =>
      obtain ⟨j, cn, ln, dn, rfl, rfl, rfl, rfl, hj, hbr⟩ := hrel
      have HBR : Hid (Below w0.heap.size w0 wr) := hbr
      have HBW : Hid (Below w.heap.size w wr) := HK0.out.trans (hbr.mono HK0.out.size)
      obtain ⟨r0, r1, r2⟩ := cells3 (HG0.out.below hbr HG0.out.lt)
      clear hbr hw0 q0 q1 q2
      by_cases hlt : j < pn
      · obtain ⟨u, hu⟩ : ∃ u, t.cs[j]? = some u := ⟨_, List.getElem?_eq_getElem (by have := HPL.out; omega)⟩
        rcases HPR.out with h0 | ⟨b1, o1, rfl, g1⟩
        · rw [h0] at hu; simp at hu
        obtain ⟨a1, a2, a3, e1, e2, e3, e4⟩ := g1 j u hu
        have e5 := CpAt.below HBW.out _ _ _ _ _ e4
        have e1 := cell_keep HBW.out e1
        have e2 := cell_keep HBW.out e2
        have e3 := cell_keep HBW.out e3
        have hch := HIH.out u a1 a2 a3 wr e5
        obtain ⟨⟨un, rfl, _⟩, ⟨ya, yn, yc, rfl⟩, ⟨za, zn, zc, rfl⟩⟩ := cp_form e5
        unfold compV at hch
        have hjp : ¬ (pn : Int) ≤ j := by omega
        clear e4 e5 g1 hu
        go_wp2_with fail
        refine hch.mono ?_
        rintro e w2 ⟨m, l2, d2, rfl, hb2⟩
        clear hch e1 e2 e3
        have HB2 : Hid (Below w0.heap.size w0 w2) := HBR.out.trans (hb2.mono HBR.out.size)
        clear hb2 r0 r1 r2
        go_wp2
        all_goals
          refine ⟨⟨j + 1, _, _, _, rfl, rfl, rfl, ?_, by omega, HB2.out⟩, ?_⟩
          · go_num
          · simp [intOf]; omega
      · go_wp2
        refine bodyPost_ret (v := .tuple #[.int .i64 cn, .int .i64 ln, .int .i64 dn]) ?_ rfl ⟨_, _, _, rfl, HBW.out⟩
        simp [results, Tryd.results26, go_sem]
theorem count_any : ∀ h, CtC h
  | 0 => fun t x y z w hp => hp.elim
  | h + 1 => count_step h (count_any h)
set_option maxHeartbeats 4000000 in
set_option maxRecDepth 100000 in
theorem few_any (h : Nat) (t : Cp) (x y z : Value) (w : World) (hp : CpAt h w t x y z) : Calls Tryd.prog 10 #[compV x y z] w fun e w' => ∃ n : Int, e = .returned (.bool (decide (n ≤ 80))) ∧ Below w.heap.size w w' := by
  have hk0 := keep w (.cells #[x, y, z] 25)
  have hch := count_any h t x y z (w.alloc (.cells #[x, y, z] 25)) (CpAt.below hk0 _ _ _ _ _ hp)
  obtain ⟨⟨nm, rfl, _⟩, ⟨y1, y2, y3, rfl⟩, ⟨z1, z2, z3, rfl⟩⟩ := cp_form hp
  have HK0 : Hid (Below w.heap.size w (w.alloc (.cells #[.string nm, .slice y1 y2 y3, .slice z1 z2 z3] 25))) := hk0
  unfold compV at hch ⊢
  clear hk0 hp
  go_enter Tryd.func10, Tryd.ntmps10
  go_wp2_with fail
  refine hch.mono ?_
  rintro e w2 ⟨n, l, d, rfl, hb2⟩
  have HB2 : Hid (Below w.heap.size w w2) := HK0.out.trans (hb2.mono HK0.out.size)
  clear hch hb2
  go_wp2
  go_ret
  exact ⟨n, rfl, HB2.out⟩
end Go.Proofs.YtenclgnkogmgiaaDoor
namespace Go.Proofs.YtenclgnkogmgiaaDoor
open Go.RowKit Go.Shelf
set_option linter.unusedVariables false
set_option linter.unusedSimpArgs false

theorem flatF_len : ∀ l : List (ByteArray × ByteArray), (l.flatMap cellF).length = l.length * 2
  | [] => rfl
  | m :: l => by rw [List.flatMap_cons, List.length_append, flatF_len l, List.length_cons]; simp [cellF]; omega
theorem cellF_at : ∀ (ls : List (ByteArray × ByteArray)) (i : Nat) (m : ByteArray × ByteArray) (j : Nat), ls[i]? = some m → j < 2 → (ls.flatMap cellF)[i * 2 + j]? = (cellF m)[j]?
  | [], i, m, j, h, _ => by simp at h
  | x :: ls, 0, m, j, h, hj => by
    simp only [List.getElem?_cons_zero, Option.some.injEq] at h
    subst h
    rw [List.flatMap_cons, List.getElem?_append_left (by simp [cellF]; omega)]
    simp
  | x :: ls, i + 1, m, j, h, hj => by
    simp only [List.getElem?_cons_succ] at h
    rw [List.flatMap_cons, List.getElem?_append_right (by simp [cellF]; omega), ← cellF_at ls i m j h hj]
    congr 1
    simp [cellF]; omega
theorem frow_cells {w : World} {ad : Addr} {fs : List (ByteArray × ByteArray)} (h : FRow w (some ad) fs) : ∀ j u, (fs.flatMap cellF)[j]? = some u → w.cell? (ad.add j) = some u := by
  intro j u hu
  rcases h with rfl | ⟨b, off, e, h⟩
  · simp at hu
  · cases e
    rw [add_plain]
    have hj := (List.getElem?_eq_some_iff.1 hu).1
    rw [flatF_len] at hj
    obtain ⟨m, hm⟩ : ∃ m, fs[j / 2]? = some m := ⟨_, List.getElem?_eq_getElem (by omega)⟩
    obtain ⟨c0, c1⟩ := h _ m hm
    have hr : j % 2 < 2 := Nat.mod_lt _ (by omega)
    have hq := cellF_at fs (j / 2) m (j % 2) hm hr
    rw [show j / 2 * 2 + j % 2 = j by omega, hu] at hq
    have hjj : off + j = off + j / 2 * 2 + j % 2 := by omega
    rw [hjj]
    have h3 : j % 2 = 0 ∨ j % 2 = 1 := by omega
    rcases h3 with e | e
    · rw [e] at hq ⊢; simp [cellF] at hq; rw [hq]; exact c0
    · rw [e] at hq ⊢; simp [cellF] at hq; rw [hq]; exact c1
theorem flatF_one (l : List (ByteArray × ByteArray)) : ∀ u ∈ l.flatMap cellF, u.oneCell' = true := by
  intro u hu
  obtain ⟨m, _, hm⟩ := List.mem_flatMap.1 hu
  simp [cellF] at hm
  rcases hm with rfl | rfl <;> rfl
set_option maxHeartbeats 4000000 in
set_option maxRecDepth 100000 in
theorem sclone_any (a : Option Addr) (n c : Nat) (fs : List (ByteArray × ByteArray)) (w : World) (hn : fs.length = n) (hr : FRow w a fs) (hb : n ≤ 1000) : Calls Tryd.prog 60 #[.slice a n c] w fun e w' => ∃ v, e = .returned v ∧ OwnF w' w.heap.size v fs ∧ Below w.heap.size w w' := by
  cases a with
  | none =>
    obtain rfl : fs = [] := by
      rcases hr with h | ⟨b, off, e, _⟩
      · exact h
      · cases e
    obtain rfl : n = 0 := hn.symm
    have he : ∀ w : World, (binOp .eql 37 (.slice none 0 c) (.slice none 0 0)).run Tryd.prog w = .ok (.bool true) w := fun _ => by kernel_rfl
    go_enter Tryd.func60, Tryd.ntmps60
    go_wp2
    go_ret
    exact ⟨_, rfl, World.ownsRow_nil _ _ _ _, Below.refl _ _⟩
  | some ad =>
    have he : ∀ w : World, (binOp .eql 37 (.slice (some ad) n c) (.slice none 0 0)).run Tryd.prog w = .ok (.bool false) w := fun _ => by kernel_rfl
    obtain ⟨j0, hi, hz0, hz1, hz2⟩ := info_parts Tryd.info65
    have HR : Hid (FRow w (some ad) fs) := hr
    have HN : Hid (fs.length = n) := hn
    have HO : Hid ((w.alloc (.cells #[] 65)).ownsRow w.heap.size 65 2 (.slice (some ⟨w.heap.size, 0, none⟩) 0 0) 0 []) := ⟨rfl, .inr ⟨w.heap.size, 0, #[], rfl, Nat.le_refl _, World.alloc_heap_new _ _, Nat.le_refl _, Nat.zero_le _, rfl, rfl⟩⟩
    clear hr hn
    go_enter Tryd.func60, Tryd.ntmps60
    go_wp2_with (at_builtin; refine wpList_append_own _ rfl (.tmp 5) (.tmp 6) 37 rfl w.heap.size 65 j0 _ 2 32 Tryd.underlying37 hi hz0 hz1 hz2 rfl (by decide) _ 0 [] rfl HO.out ad n c (fs.flatMap cellF) rfl ?a5 ?a0 (flatF_one fs) ?a1 ?a2 ?a3 ?_)
    case a5 => rw [flatF_len, HN.out]
    case a0 => exact frow_cells (HR.out.below (keep w _))
    case a1 => unfold maxLen; omega
    case a2 => omega
    case a3 => rw [World.size_alloc]; omega
    intro v1 w1 hown1 hgrow1 _
    have HB1 : Hid (Below w.heap.size w w1) := (keep w _).grown hgrow1 (by rw [World.size_alloc]; omega) (fun j hj => by simp [Value.ownBlock] at hj; omega)
    have HO1 : Hid (OwnF w1 w.heap.size v1 fs) := by unfold Hid OwnF; rw [HN.out]; simpa using hown1
    clear hown1 hgrow1
    go_wp2
    go_ret
    exact ⟨_, rfl, HO1.out, HB1.out⟩
theorem FRow.tk2 {O : Nat → Prop} {V V' : World} {a : Option Addr} {fs : List (ByteArray × ByteArray)} (h : FRow V a fs) (ht : Tk O V V') (hO : ∀ x, a = some x → ¬ O x.block) : FRow V' a fs := by
  rcases h with h | ⟨b, off, rfl, h⟩
  · exact .inl h
  · refine .inr ⟨b, off, rfl, fun i f hf => ?_⟩
    obtain ⟨h1, h2⟩ := h i f hf
    have e : V'.heap[b]? = V.heap[b]? := ht.2.2.2.2 b (World.block_lt_of_cell? V _ h1) (hO _ rfl)
    exact ⟨(World.cell?_of_block (w := V) e).trans h1, (World.cell?_of_block (w := V) e).trans h2⟩
def ClPost (w : World) (nm vl : ByteArray) (fs : List (ByteArray × ByteArray)) (e : Ending) (w' : World) : Prop :=
  ∃ a c, e = .returned (lineV nm vl a fs.length c) ∧ FRow w' a fs ∧ Below w.heap.size w w' ∧ ∀ x, a = some x → w.heap.size ≤ x.block
theorem cl_fin {w W : World} {nm vl : ByteArray} {fs : List (ByteArray × ByteArray)} {a : Option Addr} {n c R : Nat} {A : Act} (hn : fs.length = n) (hR : Blk W R #[.string nm, .slice a n c, .string vl] 39) (hf : FRow W a fs) (hb : Below w.heap.size w W) (hx : ∀ x, a = some x → w.heap.size ≤ x.block) (hd : A.defers = [])
    (h2 : A.tmps[2]?.getD undef = .pointer (some ⟨R, 0, none⟩)) : bodyPost Tryd.prog Tryd.f41 (ClPost w nm vl fs) .ret A W := by
  obtain ⟨c0, c1, c2⟩ := cells3 hR
  refine bodyPost_ret (v := lineV nm vl a n c) ?_ hd ⟨a, c, by rw [hn], hf, hb, hx⟩
  simp [results, Tryd.results41, go_sem, c0, c1, c2, h2, lineV]
set_option maxHeartbeats 4000000 in
set_option maxRecDepth 100000 in
theorem clone_line (nm vl : ByteArray) (a : Option Addr) (n c : Nat) (fs : List (ByteArray × ByteArray)) (w : World) (hn : fs.length = n) (hr : FRow w a fs) (hb : n ≤ 1000) : Calls Tryd.prog 41 #[lineV nm vl a n c] w (ClPost w nm vl fs) := by
  have hk0 : Below w.heap.size w ((w.alloc (.cells #[.string nm, .slice a n c, .string vl] 39)).alloc (.cells #[.string ⟨#[]⟩, .slice none 0 0, .string ⟨#[]⟩] 39)) := (keep w _).alloc (by simp) _
  have hP0 : Blk ((w.alloc (.cells #[.string nm, .slice a n c, .string vl] 39)).alloc (.cells #[.string ⟨#[]⟩, .slice none 0 0, .string ⟨#[]⟩] 39)) w.heap.size #[.string nm, .slice a n c, .string vl] 39 := (Blk.new w _ _).alloc _
  have hR0 : Blk ((w.alloc (.cells #[.string nm, .slice a n c, .string vl] 39)).alloc (.cells #[.string ⟨#[]⟩, .slice none 0 0, .string ⟨#[]⟩] 39)) (w.heap.size + 1) #[.string ⟨#[]⟩, .slice none 0 0, .string ⟨#[]⟩] 39 := by
    have := Blk.new (w.alloc (.cells #[.string nm, .slice a n c, .string vl] 39)) #[.string ⟨#[]⟩, .slice none 0 0, .string ⟨#[]⟩] 39
    rwa [World.size_alloc] at this
  have hsz : ((w.alloc (.cells #[.string nm, .slice a n c, .string vl] 39)).alloc (.cells #[.string ⟨#[]⟩, .slice none 0 0, .string ⟨#[]⟩] 39)).heap.size = w.heap.size + 2 := by rw [World.size_alloc, World.size_alloc]
  have hcl := sclone_any a n c fs ((w.alloc (.cells #[.string nm, .slice a n c, .string vl] 39)).alloc (.cells #[.string ⟨#[]⟩, .slice none 0 0, .string ⟨#[]⟩] 39)) hn (hr.below hk0) hb
  have HN : Hid (fs.length = n) := hn
  unfold lineV
  clear hr hn
  go_enter Tryd.func41, Tryd.ntmps41
  go_wp2_with fail
  generalize ((w.alloc (.cells #[.string nm, .slice a n c, .string vl] 39)).alloc (.cells #[.string ⟨#[]⟩, .slice none 0 0, .string ⟨#[]⟩] 39)) = W0 at *
  refine hcl.mono ?_
  rintro e w1 ⟨v1, rfl, ho1, hb1⟩
  clear hcl
  obtain ⟨a1, c1, rfl, hf1⟩ := ownF_view ho1
  have HX : Hid (∀ x, a1 = some x → w.heap.size + 2 ≤ x.block) := fun x hx => by
    rcases ho1.2 with ⟨q, _⟩ | ⟨g, cap, cur, q, q2, _⟩
    · injection q with q; rw [hx] at q; cases q
    · injection q with q; rw [hx] at q; cases q; rw [hsz] at q2; exact q2
  have HF1 : Hid (FRow w1 a1 fs) := hf1
  have HP1 : Hid (Blk w1 w.heap.size #[.string nm, .slice a n c, .string vl] 39) := hP0.below hb1 hP0.lt
  have HR1 : Hid (Blk w1 (w.heap.size + 1) #[.string ⟨#[]⟩, .slice none 0 0, .string ⟨#[]⟩] 39) := hR0.below hb1 hR0.lt
  have HB1 : Hid (Below w.heap.size w w1) := hk0.trans (hb1.mono hk0.size)
  obtain ⟨p0, p1, p2⟩ := cells3 HP1.out
  have q1 := HP1.out.frozen 1
  obtain ⟨r0, r1, r2⟩ := cells3 HR1.out
  have s0 := HR1.out.frozen 0
  have s1 := HR1.out.frozen 1
  have s2 := HR1.out.frozen 2
  rw [HN.out]
  clear ho1 hf1 hb1 hk0 hP0 hR0 hsz
  have hV : Blk (w1.setCell ⟨w.heap.size, 1, none⟩ (.slice a1 n c1)) w.heap.size #[.string nm, .slice a1 n c1, .string vl] 39 := heap_setCell_same _ _ 1 _ 39 _ HP1.out
  obtain ⟨v0, v1, v2⟩ := cells3 hV
  have HRV : Hid (Blk (w1.setCell ⟨w.heap.size, 1, none⟩ (.slice a1 n c1)) (w.heap.size + 1) #[.string ⟨#[]⟩, .slice none 0 0, .string ⟨#[]⟩] 39) := HR1.out.other (by omega) _
  obtain ⟨x0, x1, x2⟩ := cells3 HRV.out
  have y0 := HRV.out.frozen 0
  have y1 := HRV.out.frozen 1
  have y2 := HRV.out.frozen 2
  clear hV
  go_wp2
  refine cl_fin HN.out (fin3_blk HRV.out (.string nm) (.slice a1 n c1) (.string vl)) ?_ (fin3_below _ _ _ (HB1.out.setCell (p := ⟨w.heap.size, 1, none⟩) (Nat.le_refl _) _) (by omega)) (fun x hx => by have := HX.out x hx; omega) rfl rfl
  exact HF1.out.tk2 ((Tk.set (O := fun b => b ≤ w.heap.size + 1) w1 w.heap.size 1 _ (by omega)).trans (fin3_tk (O := fun b => b ≤ w.heap.size + 1) _ _ _ _ _ (Nat.le_refl _))) (fun x hx => by have := HX.out x hx; omega)
/-- The lines of a name. -/
def getL (nm : List Int) (l : List Ln) : List Ln := l.filter fun x => decide (x.name = nm)
def zeroL : Ln := ⟨[], [], []⟩
def firstL (l : List Ln) : Ln := l.head?.getD zeroL
theorem getL_take (nm : List Int) (l : List Ln) (k : Nat) (x : Ln) (h : l[k]? = some x) : getL nm (l.take (k + 1)) = if x.name = nm then getL nm (l.take k) ++ [x] else getL nm (l.take k) := by
  unfold getL; rw [List.take_add_one, h, List.filter_append]
  by_cases e : x.name = nm
  · simp [e]
  · simp [e]
theorem getL_len (nm : List Int) (l : List Ln) : (getL nm l).length ≤ l.length := List.length_filter_le _ _
def GtPost (w : World) (name : List Int) (l : List Ln) (e : Ending) (w' : World) : Prop :=
  ∃ nm vl a c fs n, e = .returned (.tuple #[lineV nm vl a fs.length c, .int .i64 (n : Nat)]) ∧ FRow w' a fs ∧ Below w.heap.size w w' ∧ n = (getL name l).length ∧ (⟨nums nm, numsP fs, nums vl⟩ : Ln) = firstL (getL name l)
theorem gt_fin {w W : World} {nm vl : ByteArray} {fs : List (ByteArray × ByteArray)} {a : Option Addr} {m n c R : Nat} {name : List Int} {l : List Ln} {A : Act} (hm : fs.length = m) (hR : Blk W R #[.string nm, .slice a m c, .string vl] 39) (hf : FRow W a fs) (hb : Below w.heap.size w W) (hn : n = (getL name l).length) (hx : (⟨nums nm, numsP fs, nums vl⟩ : Ln) = firstL (getL name l)) (hd : A.defers = [])
    (h2 : A.tmps[4]?.getD undef = .pointer (some ⟨R, 0, none⟩)) (h3 : A.tmps[5]?.getD undef = .int .i64 (n : Nat)) : bodyPost Tryd.prog Tryd.f19 (GtPost w name l) .ret A W := by
  obtain ⟨c0, c1, c2⟩ := cells3 hR
  refine bodyPost_ret (v := .tuple #[lineV nm vl a m c, .int .i64 (n : Nat)]) ?_ hd ⟨nm, vl, a, c, fs, n, by rw [hm], hf, hb, hn, hx⟩
  simp [results, Tryd.results19, go_sem, c0, c1, c2, h2, h3, lineV]
set_option maxHeartbeats 16000000 in
set_option maxRecDepth 100000 in
theorem get_tree (cn name : ByteArray) (la pa : Option Addr) (ln lc pn pc : Nat) (l : List Ln) (w : World) (hls : LsAt w (.slice la ln lc) l) (hfit : ∀ x ∈ l, FitN x) (hnz : name.size ≤ 1000000000) :
    Calls Tryd.prog 19 #[compV (.string cn) (.slice la ln lc) (.slice pa pn pc), .string name] w (GtPost w (nums name) l) := by
  obtain ⟨a0, c0, ms, e0, lr, hms, lm, _, mf⟩ := hls
  have hln : ms.length = ln := by injection e0 with _ q _; exact q.symm
  obtain rfl : la = a0 := by injection e0
  clear e0
  have HLN : Hid (ms.length = ln) := hln
  have HMS : Hid (ms.map Lm.ln = l) := hms
  have HLR : Hid (LRow w la ms) := lr
  have HFIT : Hid (∀ m ∈ ms, FitN m.ln) := fun m hm => hfit _ (by rw [← hms]; exact List.mem_map.2 ⟨m, hm, rfl⟩)
  rw [hln] at lm
  obtain ⟨W0, hW0⟩ : ∃ W0, ((w.alloc (.cells #[.string cn, .slice la ln lc, .slice pa pn pc] 25)).alloc (.cells #[.string ⟨#[]⟩, .slice none 0 0, .string ⟨#[]⟩] 39)).alloc (.cells #[.string ⟨#[]⟩, .slice none 0 0, .string ⟨#[]⟩] 39) = W0 := ⟨_, rfl⟩
  have hs0 : W0.heap.size = w.heap.size + 3 := by rw [← hW0, World.size_alloc, World.size_alloc, World.size_alloc]
  have hk0 : Below w.heap.size w W0 := by rw [← hW0]; exact ((keep w _).alloc (by simp) _).alloc (by simp; omega) _
  have hG0 : Blk W0 w.heap.size #[.string cn, .slice la ln lc, .slice pa pn pc] 25 := by rw [← hW0]; exact ((Blk.new w _ _).alloc _).alloc _
  have hR0 : Blk W0 (w.heap.size + 1) #[.string ⟨#[]⟩, .slice none 0 0, .string ⟨#[]⟩] 39 := by
    have := Blk.new (w.alloc (.cells #[.string cn, .slice la ln lc, .slice pa pn pc] 25)) #[.string ⟨#[]⟩, .slice none 0 0, .string ⟨#[]⟩] 39
    rw [World.size_alloc] at this
    rw [← hW0]; exact this.alloc _
  have hF0 : Blk W0 (w.heap.size + 1 + 1) #[.string ⟨#[]⟩, .slice none 0 0, .string ⟨#[]⟩] 39 := by
    have := Blk.new ((w.alloc (.cells #[.string cn, .slice la ln lc, .slice pa pn pc] 25)).alloc (.cells #[.string ⟨#[]⟩, .slice none 0 0, .string ⟨#[]⟩] 39)) #[.string ⟨#[]⟩, .slice none 0 0, .string ⟨#[]⟩] 39
    rw [World.size_alloc, World.size_alloc] at this
    rw [← hW0]; exact this
  have HK0 : Hid (Below w.heap.size w W0) := hk0
  have HG0 : Hid (Blk W0 w.heap.size #[.string cn, .slice la ln lc, .slice pa pn pc] 25) := hG0
  have HR0 : Hid (Blk W0 (w.heap.size + 1) #[.string ⟨#[]⟩, .slice none 0 0, .string ⟨#[]⟩] 39) := hR0
  have HF0 : Hid (Blk W0 (w.heap.size + 1 + 1) #[.string ⟨#[]⟩, .slice none 0 0, .string ⟨#[]⟩] 39) := hF0
  obtain ⟨q0, q1, q2⟩ := cells3 hG0
  have HW0 : Hid (((w.alloc (.cells #[.string cn, .slice la ln lc, .slice pa pn pc] 25)).alloc (.cells #[.string ⟨#[]⟩, .slice none 0 0, .string ⟨#[]⟩] 39)).alloc (.cells #[.string ⟨#[]⟩, .slice none 0 0, .string ⟨#[]⟩] 39) = W0) := hW0
  unfold compV
  clear hms lr hln hk0 hG0 hR0 hF0 hfit mf hW0 q0 q1 q2
  go_enter Tryd.func19, Tryd.ntmps19
  go_wp2_with fail
  go_loopw [13, 7] (fun i cnt wr => ∃ (k n : Nat) (fa fb : ByteArray) (pa' : Option Addr) (m c : Nat) (fs : List (ByteArray × ByteArray)), i = .int .i64 (k : Nat) ∧ cnt = .int .i64 (n : Nat) ∧ k ≤ ln ∧ n ≤ k ∧ Tk (fun b => b = w.heap.size + 1 + 1) W0 wr ∧ Blk wr (w.heap.size + 1 + 1) #[.string fa, .slice pa' m c, .string fb] 39 ∧ fs.length = m ∧ FRow wr pa' fs ∧ (∀ x, pa' = some x → w.heap.size + 3 ≤ x.block) ∧ n = (getL (nums name) (l.take k)).length ∧ (⟨nums fa, numsP fs, nums fb⟩ : Ln) = firstL (getL (nums name) (l.take k))) (fun i _ _ => ln - (intOf i).toNat)
  case atStart =>
    rw [HW0.out]
    exact ⟨0, 0, ⟨#[]⟩, ⟨#[]⟩, none, 0, 0, [], rfl, rfl, by omega, Nat.le_refl _, Tk.refl _ _, HF0.out, rfl, .inl rfl, (fun x hx => by cases hx), by simp [getL], rfl⟩
  case round =>
    obtain ⟨k, n, fa, fb, pa', m, c, fs, rfl, rfl, hk, hnk, ht, hF, hm, hfr, hx, hn, hfi⟩ := hrel
    have hbw : Below w.heap.size w wr := ⟨ht.1.trans HK0.out.os, ht.2.1.trans HK0.out.tape, ht.2.2.1.trans HK0.out.output, Nat.le_trans HK0.out.size ht.size, fun b hb => (ht.2.2.2.2 b (by omega) (by omega)).trans (HK0.out.block b hb)⟩
    have HBW : Hid (Below w.heap.size w wr) := hbw
    have HT : Hid (Tk (fun b => b = w.heap.size + 1 + 1) W0 wr) := ht
    have HF : Hid (Blk wr (w.heap.size + 1 + 1) #[.string fa, .slice pa' m c, .string fb] 39) := hF
    have HM : Hid (fs.length = m) := hm
    have HFR : Hid (FRow wr pa' fs) := hfr
    have HX : Hid (∀ x, pa' = some x → w.heap.size + 3 ≤ x.block) := hx
    have HNN : Hid (n = (getL (nums name) (l.take k)).length) := hn
    have HFI : Hid ((⟨nums fa, numsP fs, nums fb⟩ : Ln) = firstL (getL (nums name) (l.take k))) := hfi
    have HG : Hid (Blk wr w.heap.size #[.string cn, .slice la ln lc, .slice pa pn pc] 25) := ht.kept HG0.out (by omega)
    have HR : Hid (Blk wr (w.heap.size + 1) #[.string ⟨#[]⟩, .slice none 0 0, .string ⟨#[]⟩] 39) := ht.kept HR0.out (by omega)
    have hlrw := HLR.out.below hbw
    have hszw : w.heap.size + 3 ≤ wr.heap.size := by have := ht.size; omega
    clear ht hF hm hfr hx hn hfi hbw
    by_cases hlt : k < ln
    · obtain ⟨mm, hmk⟩ : ∃ mm, ms[k]? = some mm := ⟨_, List.getElem?_eq_getElem (by have := HLN.out; omega)⟩
      rcases hlrw with h | ⟨b, off, rfl, h⟩
      · rw [h] at hmk; simp at hmk
      obtain ⟨⟨c0, c1, c2⟩, hfrow⟩ := h k mm hmk
      have hft := fit_ln (HFIT.out mm (List.mem_of_getElem? hmk))
      have HLK : Hid (l[k]? = some mm.ln) := by unfold Hid; rw [← HMS.out, List.getElem?_map, hmk]; rfl
      obtain ⟨nm, vl, ma, mc, gs⟩ := mm
      simp only at c0 c1 c2 hfrow
      obtain ⟨z1, z2, z3, z4⟩ := hft
      simp only at z1 z2 z3
      obtain ⟨gn, hgn⟩ : ∃ n, gs.length = n := ⟨_, rfl⟩
      have HGN : Hid (gs.length = gn) := hgn
      rw [hgn] at c1 z3
      have HGT := getL_take (nums name) l k _ HLK.out
      have HFW : Hid (FRow wr ma gs) := hfrow
      have heq := eq_nums nm name
      obtain ⟨eb, heb⟩ : ∃ b, decide (nums nm = nums name) = b := ⟨_, rfl⟩
      rw [heb] at heq
      have HGT : Hid (getL (nums name) (l.take (k + 1)) = if nums nm = nums name then getL (nums name) (l.take k) ++ [⟨nums nm, numsP gs, nums vl⟩] else getL (nums name) (l.take k)) := HGT
      have HEB : Hid (decide (nums nm = nums name) = eb) := heb
      clear h hmk hfrow z4 hgn heb
      cases eb with
      | false =>
        have HG2 : Hid (getL (nums name) (l.take (k + 1)) = getL (nums name) (l.take k)) := by unfold Hid; rw [HGT.out, if_neg (of_decide_eq_false HEB.out)]
        have HT2 : Hid (Tk (fun b => b = w.heap.size + 1 + 1) W0 (wr.alloc (.cells #[.string nm, .slice ma gn mc, .string vl] 39))) := HT.out.trans (.of_below (keep wr _))
        go_wp2
        go_roundw
        case rel => exact ⟨k + 1, n, fa, fb, pa', m, c, fs, by go_num, rfl, by omega, by omega, HT2.out, HF.out.alloc _, HM.out, HFR.out.below (keep wr _), HX.out, by rw [HG2.out]; exact HNN.out, by rw [HG2.out]; exact HFI.out⟩
        case measure => simp [intOf]; omega
      | true =>
        have HG2 : Hid (getL (nums name) (l.take (k + 1)) = getL (nums name) (l.take k) ++ [⟨nums nm, numsP gs, nums vl⟩]) := by unfold Hid; rw [HGT.out, if_pos (of_decide_eq_true HEB.out)]
        by_cases hn0 : n = 0
        · subst hn0
          have HNIL : Hid (getL (nums name) (l.take k) = []) := List.eq_nil_of_length_eq_zero HNN.out.symm
          have hcl := clone_line nm vl ma gn mc gs (wr.alloc (.cells #[.string nm, .slice ma gn mc, .string vl] 39)) HGN.out (HFW.out.below (keep wr _)) z3
          unfold lineV at hcl
          go_wp2_with fail
          refine hcl.mono ?_
          rintro e w1 ⟨a1, c1', rfl, hf1, hb1, hx1⟩
          unfold lineV
          clear hcl c0 c1 c2
          have hb1w : Below wr.heap.size wr w1 := (keep wr _).trans (hb1.mono (by simp))
          have HT1 : Hid (Tk (fun b => b = w.heap.size + 1 + 1) W0 w1) := HT.out.trans (.of_below hb1w)
          have HF1 : Hid (Blk w1 (w.heap.size + 1 + 1) #[.string fa, .slice pa' m c, .string fb] 39) := HF.out.below hb1w HF.out.lt
          have HFR1 : Hid (FRow w1 a1 gs) := hf1
          have HX1 : Hid (∀ x, a1 = some x → w.heap.size + 3 ≤ x.block) := fun x q => by have := hx1 x q; rw [World.size_alloc] at this; omega
          obtain ⟨r0, r1, r2⟩ := cells3 HF1.out
          have s0 := HF1.out.frozen 0
          have s1 := HF1.out.frozen 1
          have s2 := HF1.out.frozen 2
          rw [HGN.out]
          clear hf1 hb1 hx1 hb1w
          have HT3 : Hid (Tk (fun b => b = w.heap.size + 1 + 1) W0 (fin3 w1 (w.heap.size + 1 + 1) (.string nm) (.slice a1 gn c1') (.string vl))) := HT1.out.trans (fin3_tk w1 _ _ _ _ rfl)
          have HFR3 : Hid (FRow (fin3 w1 (w.heap.size + 1 + 1) (.string nm) (.slice a1 gn c1') (.string vl)) a1 gs) := HFR1.out.tk2 (fin3_tk (O := fun b => b = w.heap.size + 1 + 1) w1 _ _ _ _ rfl) (fun x q => by have := HX1.out x q; omega)
          have HF3 : Hid (Blk (fin3 w1 (w.heap.size + 1 + 1) (.string nm) (.slice a1 gn c1') (.string vl)) (w.heap.size + 1 + 1) #[.string nm, .slice a1 gn c1', .string vl] 39) := fin3_blk HF1.out _ _ _
          unfold fin3 at HT3 HFR3 HF3
          go_wp2
          go_roundw
          case rel => exact ⟨k + 1, 1, nm, vl, a1, gn, c1', gs, by go_num, rfl, by omega, by omega, HT3.out, HF3.out, HGN.out, HFR3.out, HX1.out, by rw [HG2.out, HNIL.out]; rfl, by rw [HG2.out, HNIL.out]; rfl⟩
          case measure => simp [intOf]; omega
        · have hn1 : ¬ (n : Int) = 0 := by omega
          have HT2 : Hid (Tk (fun b => b = w.heap.size + 1 + 1) W0 (wr.alloc (.cells #[.string nm, .slice ma gn mc, .string vl] 39))) := HT.out.trans (.of_below (keep wr _))
          have HFI2 : Hid ((⟨nums fa, numsP fs, nums fb⟩ : Ln) = firstL (getL (nums name) (l.take (k + 1)))) := by
            unfold Hid; rw [HG2.out, HFI.out]
            have : getL (nums name) (l.take k) ≠ [] := fun q => hn0 (by rw [HNN.out, q]; rfl)
            unfold firstL
            cases hq : getL (nums name) (l.take k) with
            | nil => exact absurd hq this
            | cons y r => rfl
          go_wp2
          go_roundw
          case rel => exact ⟨k + 1, n + 1, fa, fb, pa', m, c, fs, by go_num, by go_num, by omega, by omega, HT2.out, HF.out.alloc _, HM.out, HFR.out.below (keep wr _), HX.out, by rw [HG2.out, List.length_append, ← HNN.out]; rfl, HFI2.out⟩
          case measure => simp [intOf]; omega
    · have HE : Hid (l.take k = l) := by unfold Hid; rw [List.take_of_length_le]; rw [← HMS.out, List.length_map, HLN.out]; omega
      have HNN2 : Hid (n = (getL (nums name) l).length) := by have := HNN.out; rwa [HE.out] at this
      have HFI2 : Hid ((⟨nums fa, numsP fs, nums fb⟩ : Ln) = firstL (getL (nums name) l)) := by have := HFI.out; rwa [HE.out] at this
      obtain ⟨r0, r1, r2⟩ := cells3 HF.out
      obtain ⟨t0, t1, t2⟩ := cells3 HR.out
      have s0 := HR.out.frozen 0
      have s1 := HR.out.frozen 1
      have s2 := HR.out.frozen 2
      clear hlrw
      go_wp2
      exact gt_fin HM.out (fin3_blk HR.out (.string fa) (.slice pa' m c) (.string fb)) (HFR.out.tk2 (fin3_tk (O := fun b => b = w.heap.size + 1) wr _ _ _ _ rfl) (fun x q => by have := HX.out x q; omega)) (fin3_below _ _ _ HBW.out (by omega)) HNN2.out HFI2.out rfl rfl rfl
end Go.Proofs.YtenclgnkogmgiaaDoor
namespace Go.Proofs.YtenclgnkogmgiaaDoor
open Go.RowKit Go.Shelf
set_option linter.unusedVariables false
set_option linter.unusedSimpArgs false

/-- A text in which nothing is wrong. -/
theorem no_fault {l : List Int} (hl : l.length ≤ 1048576) (hv : validZ (unfoldZ l) = true) (S : List (List Int)) (hS : splitP (unfoldZ l).length (unfoldZ l) = S) (hn : S.length ≤ 4096) (hg : S.all (fun q => q.isEmpty || (goodP q).isSome) = true) (p : Nat) (code : Int) : ¬ RF l p code := by
  rintro (⟨h, _⟩ | ⟨_, ps, r, h1, h2, h3, h4, h5, _⟩ | ⟨_, _, k, q, h1, h2, _, _, _, h6⟩)
  · omega
  · have := valid_flat ps r (unfoldZ l).length h1 h4 (by rw [h3]; exact Nat.le_refl _)
    rw [← h3] at this
    unfold validZ at hv
    rw [hv] at this
    cases r with
    | nil => exact h5 rfl
    | cons c r => cases this
  · rw [hS] at h1
    have hq := List.all_eq_true.1 hg q (List.mem_of_getElem? h1)
    simp only [Bool.or_eq_true] at hq
    have hk := (List.getElem?_eq_some_iff.1 h1).1
    rcases hq with hq | hq
    · exact h2 (List.isEmpty_iff.1 hq)
    · rcases h6 with ⟨h6, _⟩ | ⟨_, h6, _⟩
      · rw [h6] at hq; cases hq
      · omega
/-- What is read of a text. -/
theorem ok_lines {l : List Int} (S : List (List Int)) (hS : splitP (unfoldZ l).length (unfoldZ l) = S) (L : List Ln) (hn : (linesV 0 S).length = L.length) (hL : ∀ (i : Nat) x q, L[i]? = some x → S[i]? = some q → goodP q = some x) {ms : List Lm} (h : ROk l ms) : ms.map Lm.ln = L := by
  obtain ⟨_, _, h3, _, h5⟩ := h
  rw [hS] at h3 h5
  apply List.ext_getElem?
  intro i
  rw [List.getElem?_map]
  cases hm : ms[i]? with
  | none =>
    have : ms.length ≤ i := by simpa using hm
    rw [List.getElem?_eq_none (by omega)]; rfl
  | some m =>
    have hi := (List.getElem?_eq_some_iff.1 hm).1
    obtain ⟨q, hq, hgq⟩ := h5 i m hm
    obtain ⟨x, hx⟩ : ∃ x, L[i]? = some x := ⟨_, List.getElem?_eq_getElem (by omega)⟩
    have := hL i x q hx hq
    rw [hgq] at this
    rw [hx]; simpa using this
def aB : List Int := [98, 101, 103, 105, 110, 58, 97, 13, 10, 88, 58, 49, 13, 10, 69, 78, 68, 58, 65, 13, 10]
def aS : List (List Int) := [[98, 101, 103, 105, 110, 58, 97, 13, 10], [88, 58, 49, 13, 10], [69, 78, 68, 58, 65, 13, 10], []]
def aL : List Ln := [⟨bgZ, [], [97]⟩, ⟨[88], [], [49]⟩, ⟨enZ, [], [65]⟩]
def aT : Cp := ⟨[65], [⟨[88], [], [49]⟩], []⟩
def aW : List Int := [66, 69, 71, 73, 78, 58, 65, 13, 10, 88, 58, 49, 13, 10, 69, 78, 68, 58, 65, 13, 10]
theorem a_split : splitP (unfoldZ aB).length (unfoldZ aB) = aS := by decide +kernel
theorem a_good (p : Nat) (code : Int) : ¬ RF aB p code := no_fault (by decide) (by decide +kernel) aS a_split (by decide) (by decide +kernel) p code
theorem a_g0 : goodP [98, 101, 103, 105, 110, 58, 97, 13, 10] = some ⟨bgZ, [], [97]⟩ := by kernel_rfl
theorem a_g1 : goodP [88, 58, 49, 13, 10] = some ⟨[88], [], [49]⟩ := by kernel_rfl
theorem a_g2 : goodP [69, 78, 68, 58, 65, 13, 10] = some ⟨enZ, [], [65]⟩ := by kernel_rfl
theorem a_lines {ms : List Lm} (h : ROk aB ms) : ms.map Lm.ln = aL := by
  refine ok_lines aS a_split aL (by decide +kernel) (fun i x q hx hq => ?_) h
  match i with
  | 0 => simp [aL] at hx; simp [aS] at hq; subst hx; subst hq; exact a_g0
  | 1 => simp [aL] at hx; simp [aS] at hq; subst hx; subst hq; exact a_g1
  | 2 => simp [aL] at hx; simp [aS] at hq; subst hx; subst hq; exact a_g2
  | n + 3 => simp [aL] at hx
theorem a_rd : rdM [] aL = some aT := by kernel_rfl
theorem a_right : rightT aT = true := by kernel_rfl
theorem a_wl (h : Nat) : wlP (h + 1) aT = [⟨bgZ, [], [65]⟩, ⟨[88], [], [49]⟩, ⟨enZ, [], [65]⟩] := rfl
theorem a_out : outN [⟨bgZ, [], [65]⟩, ⟨[88], [], [49]⟩, ⟨enZ, [], [65]⟩] = aW := by kernel_rfl
theorem n_good (p : Nat) (code : Int) : ¬ RF [] p code := no_fault (by decide) (by decide +kernel) [[]] (by decide +kernel) (by decide) (by decide +kernel) p code
theorem n_lines {ms : List Lm} (h : ROk [] ms) : ms.map Lm.ln = [] := ok_lines [[]] (by decide +kernel) [] (by decide +kernel) (fun i x q hx => by simp at hx) h
end Go.Proofs.YtenclgnkogmgiaaDoor
