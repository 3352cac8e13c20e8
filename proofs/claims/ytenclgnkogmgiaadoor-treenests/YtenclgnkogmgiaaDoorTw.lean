/-
  All and Find: the contracts, of the program's and of the document's.
-/
import Derived.Test.YtenclgnkogmgiaaDoorTv
namespace Go.Proofs.YtenclgnkogmgiaaDoor
open Go.RowKit Go.Shelf
set_option linter.unusedVariables false
set_option linter.unusedSimpArgs false

/-- Lines that are gathered. -/
def LJ (N : Nat) (v : Value) (ms : List Lm) (V : World) : Prop :=
  V.ownsRow N 39 3 v ms.length (ms.flatMap cellM) ∧ N ≤ V.heap.size ∧ ∀ m ∈ ms, m.fs.length ≤ 9223372036854775807 ∧ Stay (fun b => v.ownBlock = some b) V (fun W => FRow W m.a m.fs)
/-- Components that are gathered. -/
def TJ (N h : Nat) (v : Value) (ts : List Cp) (xs : List (Value × Value × Value)) (V : World) : Prop :=
  V.ownsRow N 25 3 v ts.length (xs.flatMap cell3) ∧ N ≤ V.heap.size ∧ xs.length = ts.length ∧ ∀ (i : Nat) (t : Cp) (x : Value × Value × Value), ts[i]? = some t → xs[i]? = some x → Stay (fun b => v.ownBlock = some b) V (fun W => CpAt h W t x.1 x.2.1 x.2.2)
theorem LJ.keep {N : Nat} {v : Value} {ms : List Lm} {V V' : World} (h : LJ N v ms V) (hb : Below V.heap.size V V') : LJ N v ms V' :=
  ⟨own_keep h.1 hb, Nat.le_trans h.2.1 hb.size, fun m hm => ⟨(h.2.2 m hm).1, (h.2.2 m hm).2.go (Tk.of_below (O := fun _ => False) hb) (fun _ _ q => q.elim) (fun _ _ q => q)⟩⟩
theorem TJ.keep {N h : Nat} {v : Value} {ts : List Cp} {xs : List (Value × Value × Value)} {V V' : World} (hj : TJ N h v ts xs V) (hb : Below V.heap.size V V') : TJ N h v ts xs V' :=
  ⟨own_keep hj.1 hb, Nat.le_trans hj.2.1 hb.size, hj.2.2.1, fun i t x ht hx => (hj.2.2.2 i t x ht hx).go (Tk.of_below (O := fun _ => False) hb) (fun _ _ q => q.elim) (fun _ _ q => q)⟩
theorem stay_own {v v' : Value} {g : Nat} {V V' : World} {Q : World → Prop} (hs : Stay (fun b => v.ownBlock = some b) V Q) (hg : V.grownBy V' v.ownBlock) (hv : v'.ownBlock = some g) (hfr : v.ownBlock = some g ∨ V.heap.size ≤ g) : Stay (fun b => v'.ownBlock = some b) V' Q :=
  hs.go (Tk.grown hg (fun _ q => q)) (fun _ _ q => q) (fun b hb q => by
    rw [hv] at q
    cases q
    rcases hfr with e | e
    · exact e
    · omega)
theorem LJ.add {N g : Nat} {v v' : Value} {ms : List Lm} {m : Lm} {V V' : World} (h : LJ N v ms V) (hfs : m.fs.length ≤ 9223372036854775807) (hm : Stay (fun b => v.ownBlock = some b) V (fun W => FRow W m.a m.fs)) (hg : V.grownBy V' v.ownBlock) (ho : V'.ownsRow N 39 3 v' (ms.length + 1) (ms.flatMap cellM ++ cellM m)) (hv : v'.ownBlock = some g) (hfr : v.ownBlock = some g ∨ V.heap.size ≤ g) : LJ N v' (ms ++ [m]) V' := by
  refine ⟨by simpa using ho, Nat.le_trans h.2.1 hg.size, fun x hx => ?_⟩
  rcases List.mem_append.1 hx with hx | hx
  · exact ⟨(h.2.2 x hx).1, stay_own (h.2.2 x hx).2 hg hv hfr⟩
  · simp at hx; subst hx; exact ⟨hfs, stay_own hm hg hv hfr⟩
theorem TJ.add {N h g : Nat} {v v' : Value} {ts : List Cp} {xs : List (Value × Value × Value)} {t : Cp} {x : Value × Value × Value} {V V' : World} (hj : TJ N h v ts xs V) (hm : Stay (fun b => v.ownBlock = some b) V (fun W => CpAt h W t x.1 x.2.1 x.2.2)) (hg : V.grownBy V' v.ownBlock) (ho : V'.ownsRow N 25 3 v' (ts.length + 1) (xs.flatMap cell3 ++ cell3 x)) (hv : v'.ownBlock = some g) (hfr : v.ownBlock = some g ∨ V.heap.size ≤ g) : TJ N h v' (ts ++ [t]) (xs ++ [x]) V' := by
  obtain ⟨h1, h2, h3, h4⟩ := hj
  refine ⟨by simpa using ho, Nat.le_trans h2 hg.size, by simp; exact h3, fun i u y hu hy => ?_⟩
  by_cases hi : i < ts.length
  · rw [List.getElem?_append_left hi] at hu
    rw [List.getElem?_append_left (by rw [h3]; exact hi)] at hy
    exact stay_own (h4 i u y hu hy) hg hv hfr
  · have hi2 : i = ts.length := by have := (List.getElem?_eq_some_iff.1 hu).1; rw [List.length_append] at this; simp at this; omega
    subst hi2
    have e1 : u = t := by simpa using hu.symm
    have e2 : y = x := by rw [← h3] at hy; simpa using hy.symm
    subst e1; subst e2
    exact stay_own hm hg hv hfr
theorem LJ.lies {N : Nat} {v : Value} {ms : List Lm} {V : World} (h : LJ N v ms V) (hl : ms.length ≤ 9223372036854775807) : LsAt V v (ms.map Lm.ln) := own_lsat h.1 hl (fun m hm => ⟨(h.2.2 m hm).1, (h.2.2 m hm).2.now⟩)
theorem TJ.lies {N h : Nat} {v : Value} {ts : List Cp} {xs : List (Value × Value × Value)} {V : World} (hj : TJ N h v ts xs V) (hl : ts.length ≤ maxLen) : TRow V v ts (CpAt h V) := own_trow hj.1 hl hj.2.2.1 (fun i t x ht hx => (hj.2.2.2 i t x ht hx).now)
def findC (nm : List Int) (l : List Cp) : List Cp := l.filter fun x => decide (x.nm = nm)
theorem findC_take (nm : List Int) (l : List Cp) (k : Nat) (x : Cp) (h : l[k]? = some x) : findC nm (l.take (k + 1)) = if x.nm = nm then findC nm (l.take k) ++ [x] else findC nm (l.take k) := by
  unfold findC; rw [List.take_add_one, h, List.filter_append]
  by_cases e : x.nm = nm
  · simp [e]
  · simp [e]
theorem findC_len (nm : List Int) (l : List Cp) : (findC nm l).length ≤ l.length := List.length_filter_le _ _
set_option maxHeartbeats 16000000 in
set_option maxRecDepth 100000 in
theorem all_tree (cn name : ByteArray) (la pa : Option Addr) (ln lc pn pc : Nat) (l : List Ln) (w : World) (hls : LsAt w (.slice la ln lc) l) (hfit : ∀ x ∈ l, FitN x) (hl60 : l.length ≤ 60) :
    Calls Tryd.prog 22 #[compV (.string cn) (.slice la ln lc) (.slice pa pn pc), .string name] w fun e w' => ∃ v, e = .returned v ∧ LsAt w' v (getL (nums name) l) ∧ Below w.heap.size w w' := by
  obtain ⟨a0, c0, ms, e0, lr, hms, lm, _, mf⟩ := hls
  have hln : ms.length = ln := by injection e0 with _ q _; exact q.symm
  obtain rfl : la = a0 := by injection e0
  clear e0
  have HLN : Hid (ms.length = ln) := hln
  have HMS : Hid (ms.map Lm.ln = l) := hms
  have HLR : Hid (LRow w la ms) := lr
  have HFIT : Hid (∀ m ∈ ms, FitN m.ln) := fun m hm => hfit _ (by rw [← hms]; exact List.mem_map.2 ⟨m, hm, rfl⟩)
  have hl6 : ln ≤ 60 := by rw [← hln, ← List.length_map (f := Lm.ln), hms]; exact hl60
  obtain ⟨W0, hW0⟩ : ∃ W0, w.alloc (.cells #[.string cn, .slice la ln lc, .slice pa pn pc] 25) = W0 := ⟨_, rfl⟩
  have hk0 : Below w.heap.size w W0 := by rw [← hW0]; exact keep w _
  have HK0 : Hid (Below w.heap.size w W0) := hk0
  have HG0 : Hid (Blk W0 w.heap.size #[.string cn, .slice la ln lc, .slice pa pn pc] 25) := by unfold Hid; rw [← hW0]; exact Blk.new _ _ _
  obtain ⟨q0, q1, q2⟩ := cells3 HG0.out
  obtain ⟨j0, hi, hz0, hz1, hz2⟩ := info_parts Tryd.info39
  unfold compV
  clear hms lr hln hk0 hfit mf hl60
  go_enter Tryd.func22, Tryd.ntmps22
  go_wp2_with fail
  go_loopw [11, 5] (fun i o wr => ∃ (k : Nat) (ks : List Lm), i = .int .i64 (k : Nat) ∧ k ≤ ln ∧ LJ W0.heap.size o ks wr ∧ ks.map Lm.ln = getL (nums name) (l.take k) ∧ Below W0.heap.size W0 wr) (fun i _ _ => ln - (intOf i).toNat)
  case atStart => exact ⟨0, [], rfl, by omega, ⟨World.ownsRow_nil _ _ _ _, Nat.le_refl _, fun m hm => by simp at hm⟩, by simp [getL], Below.refl _ _⟩
  case round =>
    obtain ⟨k, ks, rfl, hk, hlj, hks, hb0⟩ := hrel
    have HLJ : Hid (LJ W0.heap.size u5 ks wr) := hlj
    have HKS : Hid (ks.map Lm.ln = getL (nums name) (l.take k)) := hks
    have HB0 : Hid (Below W0.heap.size W0 wr) := hb0
    have HBW : Hid (Below w.heap.size w wr) := HK0.out.trans (hb0.mono HK0.out.size)
    have hlrw := HLR.out.below HBW.out
    have hkl : ks.length ≤ k := by
      rw [← List.length_map (f := Lm.ln), hks]
      have := getL_len (nums name) (l.take k)
      rw [List.length_take] at this
      omega
    obtain ⟨r0, r1, r2⟩ := cells3 (HG0.out.below hb0 HG0.out.lt)
    obtain ⟨oa, oc, hvo⟩ := row_form hlj.1
    obtain ⟨on, hon⟩ : ∃ n, ks.length = n := ⟨_, rfl⟩
    have HON : Hid (ks.length = on) := hon
    rw [hon] at hvo hkl
    subst hvo
    have hsw := hb0.size
    clear hlj hks hb0 hon q0 q1 q2
    by_cases hlt : k < ln
    · obtain ⟨mm, hmk⟩ : ∃ mm, ms[k]? = some mm := ⟨_, List.getElem?_eq_getElem (by have := HLN.out; omega)⟩
      rcases hlrw with h | ⟨b, off, rfl, h⟩
      · rw [h] at hmk; simp at hmk
      obtain ⟨⟨c0, c1, c2⟩, hfrow⟩ := h k mm hmk
      have hft := fit_ln (HFIT.out mm (List.mem_of_getElem? hmk))
      have HLK : Hid (l[k]? = some mm.ln) := by unfold Hid; rw [← HMS.out, List.getElem?_map, hmk]; rfl
      have HFW0 : Hid (FRow w mm.a mm.fs) := by
        rcases HLR.out with q | ⟨b', off', q, h'⟩
        · rw [q] at hmk; simp at hmk
        · exact (h' k mm hmk).2
      obtain ⟨nm, vl, ma, mc, gs⟩ := mm
      simp only at c0 c1 c2 hfrow HFW0
      obtain ⟨z1, z2, z3, z4⟩ := hft
      simp only at z1 z2 z3
      obtain ⟨gn, hgn⟩ : ∃ n, gs.length = n := ⟨_, rfl⟩
      have HGN : Hid (gs.length = gn) := hgn
      rw [hgn] at c1 z3
      have HGT : Hid (getL (nums name) (l.take (k + 1)) = if nums nm = nums name then getL (nums name) (l.take k) ++ [⟨nums nm, numsP gs, nums vl⟩] else getL (nums name) (l.take k)) := getL_take (nums name) l k _ HLK.out
      have HFW : Hid (FRow wr ma gs) := hfrow
      have heq := eq_nums nm name
      obtain ⟨eb, heb⟩ : ∃ b, decide (nums nm = nums name) = b := ⟨_, rfl⟩
      rw [heb] at heq
      have HEB : Hid (decide (nums nm = nums name) = eb) := heb
      have hkk : ¬ (ln : Int) ≤ k := by omega
      clear h hmk hfrow z4 hgn heb
      cases eb with
      | false =>
        have HG2 : Hid (getL (nums name) (l.take (k + 1)) = getL (nums name) (l.take k)) := by unfold Hid; rw [HGT.out, if_neg (of_decide_eq_false HEB.out)]
        have HB2 : Hid (Below W0.heap.size W0 (wr.alloc (.cells #[.string nm, .slice ma gn mc, .string vl] 39))) := HB0.out.alloc HB0.out.size _
        go_wp2
        go_roundw
        case rel => exact ⟨k + 1, ks, by go_num, by omega, HLJ.out.keep (keep wr _), by rw [HG2.out]; exact HKS.out, HB2.out⟩
        case measure => simp [intOf]; omega
      | true =>
        have HG2 : Hid (getL (nums name) (l.take (k + 1)) = getL (nums name) (l.take k) ++ [⟨nums nm, numsP gs, nums vl⟩]) := by unfold Hid; rw [HGT.out, if_pos (of_decide_eq_true HEB.out)]
        have hcl := clone_line nm vl ma gn mc gs (wr.alloc (.cells #[.string nm, .slice ma gn mc, .string vl] 39)) HGN.out (HFW.out.below (keep wr _)) z3
        unfold lineV at hcl
        go_wp2_with fail
        refine hcl.mono ?_
        rintro e w1 ⟨a1, c1', rfl, hf1, hb1, hx1⟩
        unfold lineV
        clear hcl c0 c1 c2
        have hb1w : Below wr.heap.size wr w1 := (keep wr _).trans (hb1.mono (by simp))
        have HF1 : Hid (FRow w1 a1 gs) := hf1
        have HX1 : Hid (∀ x, a1 = some x → wr.heap.size ≤ x.block) := fun x q => by have := hx1 x q; rw [World.size_alloc] at this; omega
        have HB1 : Hid (Below wr.heap.size wr w1) := hb1w
        rw [HGN.out]
        clear hf1 hb1 hx1 hb1w
        have hk5 : Below wr.heap.size wr (w1.alloc (.cells #[.string nm, .slice a1 gn c1', .string vl] 39)) := HB1.out.trans ((keep w1 _).mono HB1.out.size)
        have HLJ5 : Hid (LJ W0.heap.size (.slice oa on oc) ks (w1.alloc (.cells #[.string nm, .slice a1 gn c1', .string vl] 39))) := HLJ.out.keep hk5
        have HO5 : Hid ((w1.alloc (.cells #[.string nm, .slice a1 gn c1', .string vl] 39)).ownsRow W0.heap.size 39 3 (.slice oa on oc) on (ks.flatMap cellM)) := by have := HLJ5.out.1; rw [HON.out] at this; exact this
        have HB5 : Hid (Below W0.heap.size W0 (w1.alloc (.cells #[.string nm, .slice a1 gn c1', .string vl] 39))) := HB0.out.trans (hk5.mono HB0.out.size)
        have hsz5 := HB5.out.size
        have hzz : wr.heap.size ≤ w1.heap.size := HB1.out.size
        have hol := fun g (q : (Value.slice oa on oc).ownBlock = some g) => HLJ.out.1.lt g q
        have HOL : Hid (∀ g, (Value.slice oa on oc).ownBlock = some g → W0.heap.size ≤ g ∧ g < wr.heap.size) := hol
        clear hk5 hol
        go_wp2_with (at_builtin; refine wpList_append_lies _ rfl (.tmp 19) (.tmp 22) 22 rfl W0.heap.size 39 j0 _ 3 56 Tryd.underlying22 hi hz0 hz1 hz2 rfl (by decide) _ on _ rfl HO5.out ⟨w1.heap.size, 0, none⟩ 1 1 [.string nm, .slice a1 gn c1', .string vl] rfl rfl (cells_new w1 _ 39) ?a4 (by decide) ?a1 ?a2 hsz5 _ rfl ?_)
        case a4 => first | (intro u hu; simp at hu; rcases hu with rfl | rfl | rfl <;> rfl) | exact ⟨rfl, rfl, rfl⟩
        case a1 => unfold maxLen; omega
        case a2 => omega
        intro g7 cap7 w7 hown7 hgrow7 hfr7 hlt7
        have hadd := LJ.add (g := g7) (v' := .slice (some ⟨g7, 0, none⟩) (on + 1) cap7) (m := ⟨nm, vl, a1, c1', gs⟩) HLJ5.out (by simp only; have := HGN.out; omega) (fun X hX => (HF1.out.below (keep w1 _)).tk2 hX (fun x q r => by have h1 := HX1.out x q; have h2 := (HOL.out _ r).2; omega)) hgrow7 (by simp only [cellM]; rw [HON.out, HGN.out]; exact hown7) rfl (hfr7.imp id (fun q => by rw [q, World.size_alloc]; exact Nat.le_refl _))
        have HLJ7 : Hid (LJ W0.heap.size (.slice (some ⟨g7, 0, none⟩) (on + 1) cap7) (ks ++ [⟨nm, vl, a1, c1', gs⟩]) w7) := hadd
        have HB7 : Hid (Below W0.heap.size W0 w7) := HB5.out.grown hgrow7 hsz5 (fun j hj => (HOL.out j hj).1)
        clear hadd hown7 hgrow7 hfr7 hlt7
        go_wp2
        go_roundw
        case rel => exact ⟨k + 1, _, by go_num, by omega, HLJ7.out, by rw [List.map_append, HKS.out, HG2.out]; rfl, HB7.out⟩
        case measure => simp [intOf]; omega
    · have HE : Hid (l.take k = l) := by unfold Hid; rw [List.take_of_length_le]; rw [← HMS.out, List.length_map, HLN.out]; omega
      have HA : Hid (LsAt wr (.slice oa on oc) (getL (nums name) l)) := by
        have h1 := HLJ.out.lies (by rw [HON.out]; omega)
        rw [HKS.out, HE.out] at h1
        exact h1
      clear hlrw
      go_wp2
      go_ret
      exact ⟨_, rfl, HA.out, HBW.out⟩
set_option maxHeartbeats 16000000 in
set_option maxRecDepth 100000 in
theorem rall_tree (cn name : ByteArray) (la pa : Option Addr) (ln lc pn pc : Nat) (l : List Ln) (w : World) (hls : LsAt w (.slice la ln lc) l) (hfit : ∀ x ∈ l, FitN x) (hl60 : l.length ≤ 60) :
    Calls Tryd.prog 20 #[compV (.string cn) (.slice la ln lc) (.slice pa pn pc), .string name] w fun e w' => ∃ v, e = .returned v ∧ LsAt w' v (getL (nums name) l) ∧ Below w.heap.size w w' := by
  obtain ⟨a0, c0, ms, e0, lr, hms, lm, _, mf⟩ := hls
  have hln : ms.length = ln := by injection e0 with _ q _; exact q.symm
  obtain rfl : la = a0 := by injection e0
  clear e0
  have HLN : Hid (ms.length = ln) := hln
  have HMS : Hid (ms.map Lm.ln = l) := hms
  have HLR : Hid (LRow w la ms) := lr
  have HFIT : Hid (∀ m ∈ ms, FitN m.ln) := fun m hm => hfit _ (by rw [← hms]; exact List.mem_map.2 ⟨m, hm, rfl⟩)
  have hl6 : ln ≤ 60 := by rw [← hln, ← List.length_map (f := Lm.ln), hms]; exact hl60
  obtain ⟨W0, hW0⟩ : ∃ W0, w.alloc (.cells #[.string cn, .slice la ln lc, .slice pa pn pc] 25) = W0 := ⟨_, rfl⟩
  have hk0 : Below w.heap.size w W0 := by rw [← hW0]; exact keep w _
  have HK0 : Hid (Below w.heap.size w W0) := hk0
  have HG0 : Hid (Blk W0 w.heap.size #[.string cn, .slice la ln lc, .slice pa pn pc] 25) := by unfold Hid; rw [← hW0]; exact Blk.new _ _ _
  obtain ⟨q0, q1, q2⟩ := cells3 HG0.out
  obtain ⟨j0, hi, hz0, hz1, hz2⟩ := info_parts Tryd.info39
  unfold compV
  clear hms lr hln hk0 hfit mf hl60
  go_enter Tryd.func20, Tryd.ntmps20
  go_wp2_with fail
  go_loopw [6, 5] (fun i o wr => ∃ (k : Nat) (ks : List Lm), i = .int .i64 (k : Nat) ∧ k ≤ ln ∧ LJ W0.heap.size o ks wr ∧ ks.map Lm.ln = getL (nums name) (l.take k) ∧ Below W0.heap.size W0 wr) (fun i _ _ => ln - (intOf i).toNat)
  case atStart => exact ⟨0, [], rfl, by omega, ⟨World.ownsRow_nil _ _ _ _, Nat.le_refl _, fun m hm => by simp at hm⟩, by simp [getL], Below.refl _ _⟩
  case round =>
    obtain ⟨k, ks, rfl, hk, hlj, hks, hb0⟩ := hrel
    have HLJ : Hid (LJ W0.heap.size u5 ks wr) := hlj
    have HKS : Hid (ks.map Lm.ln = getL (nums name) (l.take k)) := hks
    have HB0 : Hid (Below W0.heap.size W0 wr) := hb0
    have HBW : Hid (Below w.heap.size w wr) := HK0.out.trans (hb0.mono HK0.out.size)
    have hlrw := HLR.out.below HBW.out
    have hkl : ks.length ≤ k := by
      rw [← List.length_map (f := Lm.ln), hks]
      have := getL_len (nums name) (l.take k)
      rw [List.length_take] at this
      omega
    obtain ⟨r0, r1, r2⟩ := cells3 (HG0.out.below hb0 HG0.out.lt)
    obtain ⟨oa, oc, hvo⟩ := row_form hlj.1
    obtain ⟨on, hon⟩ : ∃ n, ks.length = n := ⟨_, rfl⟩
    have HON : Hid (ks.length = on) := hon
    rw [hon] at hvo hkl
    subst hvo
    have hsw := hb0.size
    clear hlj hks hb0 hon q0 q1 q2
    by_cases hlt : k < ln
    · obtain ⟨mm, hmk⟩ : ∃ mm, ms[k]? = some mm := ⟨_, List.getElem?_eq_getElem (by have := HLN.out; omega)⟩
      rcases hlrw with h | ⟨b, off, rfl, h⟩
      · rw [h] at hmk; simp at hmk
      obtain ⟨⟨c0, c1, c2⟩, hfrow⟩ := h k mm hmk
      have hft := fit_ln (HFIT.out mm (List.mem_of_getElem? hmk))
      have HLK : Hid (l[k]? = some mm.ln) := by unfold Hid; rw [← HMS.out, List.getElem?_map, hmk]; rfl
      have HFW0 : Hid (FRow w mm.a mm.fs) := by
        rcases HLR.out with q | ⟨b', off', q, h'⟩
        · rw [q] at hmk; simp at hmk
        · exact (h' k mm hmk).2
      obtain ⟨nm, vl, ma, mc, gs⟩ := mm
      simp only at c0 c1 c2 hfrow HFW0
      obtain ⟨z1, z2, z3, z4⟩ := hft
      simp only at z1 z2 z3
      obtain ⟨gn, hgn⟩ : ∃ n, gs.length = n := ⟨_, rfl⟩
      have HGN : Hid (gs.length = gn) := hgn
      rw [hgn] at c1 z3
      have HGT : Hid (getL (nums name) (l.take (k + 1)) = if nums nm = nums name then getL (nums name) (l.take k) ++ [⟨nums nm, numsP gs, nums vl⟩] else getL (nums name) (l.take k)) := getL_take (nums name) l k _ HLK.out
      have HFW : Hid (FRow wr ma gs) := hfrow
      have heq := eq_nums nm name
      obtain ⟨eb, heb⟩ : ∃ b, decide (nums nm = nums name) = b := ⟨_, rfl⟩
      rw [heb] at heq
      have HEB : Hid (decide (nums nm = nums name) = eb) := heb
      have hkk : ¬ (ln : Int) ≤ k := by omega
      clear h hmk hfrow z4 hgn heb
      cases eb with
      | false =>
        have HG2 : Hid (getL (nums name) (l.take (k + 1)) = getL (nums name) (l.take k)) := by unfold Hid; rw [HGT.out, if_neg (of_decide_eq_false HEB.out)]
        go_wp2
        go_roundw
        case rel => exact ⟨k + 1, ks, by go_num, by omega, HLJ.out, by rw [HG2.out]; exact HKS.out, HB0.out⟩
        case measure => simp [intOf]; omega
      | true =>
        have HG2 : Hid (getL (nums name) (l.take (k + 1)) = getL (nums name) (l.take k) ++ [⟨nums nm, numsP gs, nums vl⟩]) := by unfold Hid; rw [HGT.out, if_pos (of_decide_eq_true HEB.out)]
        have HF1 : Hid (FRow wr ma gs) := HFW.out
        have hk5 : Below wr.heap.size wr (wr.alloc (.cells #[.string nm, .slice ma gn mc, .string vl] 39)) := keep wr _
        have HLJ5 : Hid (LJ W0.heap.size (.slice oa on oc) ks (wr.alloc (.cells #[.string nm, .slice ma gn mc, .string vl] 39))) := HLJ.out.keep hk5
        have HO5 : Hid ((wr.alloc (.cells #[.string nm, .slice ma gn mc, .string vl] 39)).ownsRow W0.heap.size 39 3 (.slice oa on oc) on (ks.flatMap cellM)) := by have := HLJ5.out.1; rw [HON.out] at this; exact this
        have HB5 : Hid (Below W0.heap.size W0 (wr.alloc (.cells #[.string nm, .slice ma gn mc, .string vl] 39))) := HB0.out.trans (hk5.mono HB0.out.size)
        have hsz5 := HB5.out.size
        have hzz : wr.heap.size ≤ wr.heap.size := Nat.le_refl _
        have hol := fun g (q : (Value.slice oa on oc).ownBlock = some g) => HLJ.out.1.lt g q
        have HOL : Hid (∀ g, (Value.slice oa on oc).ownBlock = some g → W0.heap.size ≤ g ∧ g < wr.heap.size) := hol
        clear hk5 hol
        go_wp2_with (at_builtin; refine wpList_append_lies _ rfl (.tmp 22) (.tmp 28) 22 rfl W0.heap.size 39 j0 _ 3 56 Tryd.underlying22 hi hz0 hz1 hz2 rfl (by decide) _ on _ rfl HO5.out ⟨wr.heap.size, 0, none⟩ 1 1 [.string nm, .slice ma gn mc, .string vl] rfl rfl (cells_new wr _ 39) ?a4 (by decide) ?a1 ?a2 hsz5 _ rfl ?_)
        case a4 => first | (intro u hu; simp at hu; rcases hu with rfl | rfl | rfl <;> rfl) | exact ⟨rfl, rfl, rfl⟩
        case a1 => unfold maxLen; omega
        case a2 => omega
        intro g7 cap7 w7 hown7 hgrow7 hfr7 hlt7
        have hadd := LJ.add (g := g7) (v' := .slice (some ⟨g7, 0, none⟩) (on + 1) cap7) (m := ⟨nm, vl, ma, mc, gs⟩) HLJ5.out (by simp only; have := HGN.out; omega) (fun X hX => HFW0.out.below (by
          have hb := HBW.out.alloc HBW.out.size (.cells #[.string nm, .slice ma gn mc, .string vl] 39)
          exact ⟨hX.1.trans hb.os, hX.2.1.trans hb.tape, hX.2.2.1.trans hb.output, Nat.le_trans hb.size hX.size, fun b hlt => (hX.2.2.2.2 b (by have := hb.size; omega) (fun r => by have := (HOL.out _ r).1; have := HK0.out.size; omega)).trans (hb.block b hlt)⟩)) hgrow7 (by simp only [cellM]; rw [HON.out, HGN.out]; exact hown7) rfl (hfr7.imp id (fun q => by rw [q, World.size_alloc]; exact Nat.le_refl _))
        have HLJ7 : Hid (LJ W0.heap.size (.slice (some ⟨g7, 0, none⟩) (on + 1) cap7) (ks ++ [⟨nm, vl, ma, mc, gs⟩]) w7) := hadd
        have HB7 : Hid (Below W0.heap.size W0 w7) := HB5.out.grown hgrow7 hsz5 (fun j hj => (HOL.out j hj).1)
        clear hadd hown7 hgrow7 hfr7 hlt7
        go_wp2
        go_roundw
        case rel => exact ⟨k + 1, _, by go_num, by omega, HLJ7.out, by rw [List.map_append, HKS.out, HG2.out]; rfl, HB7.out⟩
        case measure => simp [intOf]; omega
    · have HE : Hid (l.take k = l) := by unfold Hid; rw [List.take_of_length_le]; rw [← HMS.out, List.length_map, HLN.out]; omega
      have HA : Hid (LsAt wr (.slice oa on oc) (getL (nums name) l)) := by
        have h1 := HLJ.out.lies (by rw [HON.out]; omega)
        rw [HKS.out, HE.out] at h1
        exact h1
      clear hlrw
      go_wp2
      go_ret
      exact ⟨_, rfl, HA.out, HBW.out⟩
set_option maxHeartbeats 16000000 in
set_option maxRecDepth 100000 in
theorem find_tree (h k0 : Nat) (hh : h ≤ 100) (cn name : ByteArray) (la pa : Option Addr) (ln lc pn pc : Nat) (l : List Cp) (w : World) (htr : TRow w (.slice pa pn pc) l (CpAt h w)) (hsm : ∀ q ∈ l, smallT k0 q) (hl70 : l.length ≤ 70) :
    Calls Tryd.prog 24 #[compV (.string cn) (.slice la ln lc) (.slice pa pn pc), .string name] w fun e w' => ∃ v, e = .returned v ∧ TRow w' v (findC (nums name) l) (CpAt (h * 1000) w') ∧ Below w.heap.size w w' := by
  obtain ⟨_, a0, c0, e0, prow⟩ := htr
  have hpn : l.length = pn := by injection e0 with _ q _; exact q.symm
  obtain rfl : pa = a0 := by injection e0
  clear e0
  have HPN : Hid (l.length = pn) := hpn
  have HPR : Hid (l = [] ∨ ∃ b off, pa = some ⟨b, off, none⟩ ∧ ∀ (i : Nat) (t_1 : Cp), l[i]? = some t_1 → ∃ x y z, w.cell? ⟨b, off + i * 3, none⟩ = some x ∧ w.cell? ⟨b, off + i * 3 + 1, none⟩ = some y ∧ w.cell? ⟨b, off + i * 3 + 2, none⟩ = some z ∧ CpAt h w t_1 x y z) := prow
  have HSM : Hid (∀ q ∈ l, smallT k0 q) := hsm
  have hp7 : pn ≤ 70 := by omega
  obtain ⟨W0, hW0⟩ : ∃ W0, w.alloc (.cells #[.string cn, .slice la ln lc, .slice pa pn pc] 25) = W0 := ⟨_, rfl⟩
  have hk0 : Below w.heap.size w W0 := by rw [← hW0]; exact keep w _
  have HK0 : Hid (Below w.heap.size w W0) := hk0
  have HG0 : Hid (Blk W0 w.heap.size #[.string cn, .slice la ln lc, .slice pa pn pc] 25) := by unfold Hid; rw [← hW0]; exact Blk.new _ _ _
  obtain ⟨q0, q1, q2⟩ := cells3 HG0.out
  obtain ⟨j0, hi, hz0, hz1, hz2⟩ := info_parts Tryd.info25
  unfold compV
  clear prow hpn hk0 hsm hl70
  go_enter Tryd.func24, Tryd.ntmps24
  go_wp2_with fail
  go_loopw [11, 5] (fun i o wr => ∃ (k : Nat) (ts : List Cp) (xs : List (Value × Value × Value)), i = .int .i64 (k : Nat) ∧ k ≤ pn ∧ TJ W0.heap.size (h * 1000) o ts xs wr ∧ ts = findC (nums name) (l.take k) ∧ Below W0.heap.size W0 wr) (fun i _ _ => pn - (intOf i).toNat)
  case atStart => exact ⟨0, [], [], rfl, by omega, ⟨World.ownsRow_nil _ _ _ _, Nat.le_refl _, rfl, fun i t x ht => by simp at ht⟩, by simp [findC], Below.refl _ _⟩
  case round =>
    obtain ⟨k, ts, xs, rfl, hk, htj, hts, hb0⟩ := hrel
    have HTJ : Hid (TJ W0.heap.size (h * 1000) u5 ts xs wr) := htj
    have HTS : Hid (ts = findC (nums name) (l.take k)) := hts
    have HB0 : Hid (Below W0.heap.size W0 wr) := hb0
    have HBW : Hid (Below w.heap.size w wr) := HK0.out.trans (hb0.mono HK0.out.size)
    have hkl : ts.length ≤ k := by
      rw [hts]
      have := findC_len (nums name) (l.take k)
      rw [List.length_take] at this
      omega
    obtain ⟨r0, r1, r2⟩ := cells3 (HG0.out.below hb0 HG0.out.lt)
    obtain ⟨oa, oc, hvo⟩ := row_form htj.1
    obtain ⟨on, hon⟩ : ∃ n, ts.length = n := ⟨_, rfl⟩
    have HON : Hid (ts.length = on) := hon
    rw [hon] at hvo hkl
    subst hvo
    have hsw := hb0.size
    clear htj hts hb0 hon q0 q1 q2
    by_cases hlt : k < pn
    · obtain ⟨u, hu⟩ : ∃ u, l[k]? = some u := ⟨_, List.getElem?_eq_getElem (by have := HPN.out; omega)⟩
      rcases HPR.out with h0 | ⟨b1, o1, rfl, gg⟩
      · rw [h0] at hu; simp at hu
      obtain ⟨x1, y1, z1, e1, e2, e3, e4⟩ := gg k u hu
      have e5 := CpAt.below HBW.out _ _ _ _ _ e4
      have e1 := cell_keep HBW.out e1
      have e2 := cell_keep HBW.out e2
      have e3 := cell_keep HBW.out e3
      have hsu := HSM.out u (List.mem_of_getElem? hu)
      obtain ⟨⟨un, rfl, hun⟩, ⟨ua, ul, uc, rfl⟩, ⟨ta, tl, tc, rfl⟩⟩ := cp_form e5
      have HC0 : Hid (CpAt h w u (.string un) (.slice ua ul uc) (.slice ta tl tc)) := e4
      have HGT : Hid (findC (nums name) (l.take (k + 1)) = if nums un = nums name then findC (nums name) (l.take k) ++ [u] else findC (nums name) (l.take k)) := by
        unfold Hid; rw [findC_take (nums name) l k u hu, hun]
      have HC : Hid (CpAt h wr u (.string un) (.slice ua ul uc) (.slice ta tl tc)) := e5
      have heq := eq_nums un name
      obtain ⟨eb, heb⟩ : ∃ b, decide (nums un = nums name) = b := ⟨_, rfl⟩
      rw [heb] at heq
      have HEB : Hid (decide (nums un = nums name) = eb) := heb
      have hkk : ¬ (pn : Int) ≤ k := by omega
      clear gg hu e4 e5 heb hun
      cases eb with
      | false =>
        have HG2 : Hid (findC (nums name) (l.take (k + 1)) = findC (nums name) (l.take k)) := by unfold Hid; rw [HGT.out, if_neg (of_decide_eq_false HEB.out)]
        have HB2 : Hid (Below W0.heap.size W0 (wr.alloc (.cells #[.string un, .slice ua ul uc, .slice ta tl tc] 25))) := HB0.out.alloc HB0.out.size _
        go_wp2
        go_roundw
        case rel => exact ⟨k + 1, ts, xs, by go_num, by omega, HTJ.out.keep (keep wr _), by rw [HG2.out]; exact HTS.out, HB2.out⟩
        case measure => simp [intOf]; omega
      | true =>
        have HG2 : Hid (findC (nums name) (l.take (k + 1)) = findC (nums name) (l.take k) ++ [u]) := by unfold Hid; rw [HGT.out, if_pos (of_decide_eq_true HEB.out)]
        have hcl := clone_all h (by omega) k0 u _ _ _ (wr.alloc (.cells #[.string un, .slice ua ul uc, .slice ta tl tc] 25)) hsu (CpAt.below (keep wr _) _ _ _ _ _ HC.out)
        unfold compV at hcl
        go_wp2_with fail
        refine hcl.mono ?_
        rintro e w1 ⟨x4, y4, z4, rfl, hb1, hst1⟩
        obtain ⟨⟨xn, rfl, _⟩, ⟨xa, xl, xc, rfl⟩, ⟨za, zl, zc, rfl⟩⟩ := cp_form hst1.now
        unfold compV
        clear hcl e1 e2 e3
        have hb1w : Below wr.heap.size wr w1 := (keep wr _).trans (hb1.mono (by simp))
        have HST1 : Hid (Stay (fun b => b < (wr.alloc (.cells #[.string un, .slice ua ul uc, .slice ta tl tc] 25)).heap.size) w1 (fun W => CpAt (h * 1000) W u (.string xn) (.slice xa xl xc) (.slice za zl zc))) := hst1
        have HB1 : Hid (Below wr.heap.size wr w1) := hb1w
        clear hst1 hb1 hb1w
        have hk5 : Below wr.heap.size wr (w1.alloc (.cells #[.string xn, .slice xa xl xc, .slice za zl zc] 25)) := HB1.out.trans ((keep w1 _).mono HB1.out.size)
        have HTJ5 : Hid (TJ W0.heap.size (h * 1000) (.slice oa on oc) ts xs (w1.alloc (.cells #[.string xn, .slice xa xl xc, .slice za zl zc] 25))) := HTJ.out.keep hk5
        have HO5 : Hid ((w1.alloc (.cells #[.string xn, .slice xa xl xc, .slice za zl zc] 25)).ownsRow W0.heap.size 25 3 (.slice oa on oc) on (xs.flatMap cell3)) := by have := HTJ5.out.1; rw [HON.out] at this; exact this
        have HB5 : Hid (Below W0.heap.size W0 (w1.alloc (.cells #[.string xn, .slice xa xl xc, .slice za zl zc] 25))) := HB0.out.trans (hk5.mono HB0.out.size)
        have hsz5 := HB5.out.size
        have hzz : wr.heap.size ≤ w1.heap.size := HB1.out.size
        have HOL : Hid (∀ g, (Value.slice oa on oc).ownBlock = some g → W0.heap.size ≤ g ∧ g < wr.heap.size) := fun g q => HTJ.out.1.lt g q
        clear hk5
        go_wp2_with (at_builtin; refine wpList_append_lies _ rfl (.tmp 19) (.tmp 22) 23 rfl W0.heap.size 25 j0 _ 3 64 Tryd.underlying23 hi hz0 hz1 hz2 rfl (by decide) _ on _ rfl HO5.out ⟨w1.heap.size, 0, none⟩ 1 1 [.string xn, .slice xa xl xc, .slice za zl zc] rfl rfl (cells_new w1 _ 25) ?a4 (by decide) ?a1 ?a2 hsz5 _ rfl ?_)
        case a4 => first | (intro u hu; simp at hu; rcases hu with rfl | rfl | rfl <;> rfl) | exact ⟨rfl, rfl, rfl⟩
        case a1 => unfold maxLen; omega
        case a2 => omega
        intro g7 cap7 w7 hown7 hgrow7 hfr7 hlt7
        have hadd := TJ.add (g := g7) (v' := .slice (some ⟨g7, 0, none⟩) (on + 1) cap7) (t := u) (x := (Value.string xn, Value.slice xa xl xc, Value.slice za zl zc)) HTJ5.out (HST1.out.go (Tk.of_below (O := fun _ => False) (keep w1 _)) (fun _ _ q => q.elim) (fun b _ q => by have h2 := (HOL.out _ q).2; rw [World.size_alloc]; omega)) hgrow7 (by rw [HON.out]; exact hown7) rfl (hfr7.imp id (fun q => by rw [q, World.size_alloc]; exact Nat.le_refl _))
        have HTJ7 : Hid (TJ W0.heap.size (h * 1000) (.slice (some ⟨g7, 0, none⟩) (on + 1) cap7) (ts ++ [u]) (xs ++ [(Value.string xn, Value.slice xa xl xc, Value.slice za zl zc)]) w7) := hadd
        have HB7 : Hid (Below W0.heap.size W0 w7) := HB5.out.grown hgrow7 hsz5 (fun j hj => (HOL.out j hj).1)
        clear hadd hown7 hgrow7 hfr7 hlt7
        go_wp2
        go_roundw
        case rel => exact ⟨k + 1, _, _, by go_num, by omega, HTJ7.out, by rw [HTS.out, HG2.out], HB7.out⟩
        case measure => simp [intOf]; omega
    · have HE : Hid (l.take k = l) := by unfold Hid; rw [List.take_of_length_le]; rw [HPN.out]; omega
      have HA : Hid (TRow wr (.slice oa on oc) (findC (nums name) l) (CpAt (h * 1000) wr)) := by
        have h1 := HTJ.out.lies (by rw [HON.out]; unfold maxLen; omega)
        rw [HTS.out, HE.out] at h1
        exact h1
      go_wp2
      go_ret
      exact ⟨_, rfl, HA.out, HBW.out⟩
set_option maxHeartbeats 16000000 in
set_option maxRecDepth 100000 in
theorem rfind_tree (h k0 : Nat) (hh : h ≤ 100) (cn name : ByteArray) (la pa : Option Addr) (ln lc pn pc : Nat) (l : List Cp) (w : World) (htr : TRow w (.slice pa pn pc) l (CpAt h w)) (hsm : ∀ q ∈ l, smallT k0 q) (hl70 : l.length ≤ 70) :
    Calls Tryd.prog 25 #[compV (.string cn) (.slice la ln lc) (.slice pa pn pc), .string name] w fun e w' => ∃ v, e = .returned v ∧ TRow w' v (findC (nums name) l) (CpAt h w') ∧ Below w.heap.size w w' := by
  obtain ⟨_, a0, c0, e0, prow⟩ := htr
  have hpn : l.length = pn := by injection e0 with _ q _; exact q.symm
  obtain rfl : pa = a0 := by injection e0
  clear e0
  have HPN : Hid (l.length = pn) := hpn
  have HPR : Hid (l = [] ∨ ∃ b off, pa = some ⟨b, off, none⟩ ∧ ∀ (i : Nat) (t_1 : Cp), l[i]? = some t_1 → ∃ x y z, w.cell? ⟨b, off + i * 3, none⟩ = some x ∧ w.cell? ⟨b, off + i * 3 + 1, none⟩ = some y ∧ w.cell? ⟨b, off + i * 3 + 2, none⟩ = some z ∧ CpAt h w t_1 x y z) := prow
  have HSM : Hid (∀ q ∈ l, smallT k0 q) := hsm
  have hp7 : pn ≤ 70 := by omega
  obtain ⟨W0, hW0⟩ : ∃ W0, w.alloc (.cells #[.string cn, .slice la ln lc, .slice pa pn pc] 25) = W0 := ⟨_, rfl⟩
  have hk0 : Below w.heap.size w W0 := by rw [← hW0]; exact keep w _
  have HK0 : Hid (Below w.heap.size w W0) := hk0
  have HG0 : Hid (Blk W0 w.heap.size #[.string cn, .slice la ln lc, .slice pa pn pc] 25) := by unfold Hid; rw [← hW0]; exact Blk.new _ _ _
  obtain ⟨q0, q1, q2⟩ := cells3 HG0.out
  obtain ⟨j0, hi, hz0, hz1, hz2⟩ := info_parts Tryd.info25
  unfold compV
  clear prow hpn hk0 hsm hl70
  go_enter Tryd.func25, Tryd.ntmps25
  go_wp2_with fail
  go_loopw [6, 5] (fun i o wr => ∃ (k : Nat) (ts : List Cp) (xs : List (Value × Value × Value)), i = .int .i64 (k : Nat) ∧ k ≤ pn ∧ TJ W0.heap.size h o ts xs wr ∧ ts = findC (nums name) (l.take k) ∧ Below W0.heap.size W0 wr) (fun i _ _ => pn - (intOf i).toNat)
  case atStart => exact ⟨0, [], [], rfl, by omega, ⟨World.ownsRow_nil _ _ _ _, Nat.le_refl _, rfl, fun i t x ht => by simp at ht⟩, by simp [findC], Below.refl _ _⟩
  case round =>
    obtain ⟨k, ts, xs, rfl, hk, htj, hts, hb0⟩ := hrel
    have HTJ : Hid (TJ W0.heap.size h u5 ts xs wr) := htj
    have HTS : Hid (ts = findC (nums name) (l.take k)) := hts
    have HB0 : Hid (Below W0.heap.size W0 wr) := hb0
    have HBW : Hid (Below w.heap.size w wr) := HK0.out.trans (hb0.mono HK0.out.size)
    have hkl : ts.length ≤ k := by
      rw [hts]
      have := findC_len (nums name) (l.take k)
      rw [List.length_take] at this
      omega
    obtain ⟨r0, r1, r2⟩ := cells3 (HG0.out.below hb0 HG0.out.lt)
    obtain ⟨oa, oc, hvo⟩ := row_form htj.1
    obtain ⟨on, hon⟩ : ∃ n, ts.length = n := ⟨_, rfl⟩
    have HON : Hid (ts.length = on) := hon
    rw [hon] at hvo hkl
    subst hvo
    have hsw := hb0.size
    clear htj hts hb0 hon q0 q1 q2
    by_cases hlt : k < pn
    · obtain ⟨u, hu⟩ : ∃ u, l[k]? = some u := ⟨_, List.getElem?_eq_getElem (by have := HPN.out; omega)⟩
      rcases HPR.out with h0 | ⟨b1, o1, rfl, gg⟩
      · rw [h0] at hu; simp at hu
      obtain ⟨x1, y1, z1, e1, e2, e3, e4⟩ := gg k u hu
      have e5 := CpAt.below HBW.out _ _ _ _ _ e4
      have e1 := cell_keep HBW.out e1
      have e2 := cell_keep HBW.out e2
      have e3 := cell_keep HBW.out e3
      have hsu := HSM.out u (List.mem_of_getElem? hu)
      obtain ⟨⟨un, rfl, hun⟩, ⟨ua, ul, uc, rfl⟩, ⟨ta, tl, tc, rfl⟩⟩ := cp_form e5
      have HC0 : Hid (CpAt h w u (.string un) (.slice ua ul uc) (.slice ta tl tc)) := e4
      have HGT : Hid (findC (nums name) (l.take (k + 1)) = if nums un = nums name then findC (nums name) (l.take k) ++ [u] else findC (nums name) (l.take k)) := by
        unfold Hid; rw [findC_take (nums name) l k u hu, hun]
      have HC : Hid (CpAt h wr u (.string un) (.slice ua ul uc) (.slice ta tl tc)) := e5
      have heq := eq_nums un name
      obtain ⟨eb, heb⟩ : ∃ b, decide (nums un = nums name) = b := ⟨_, rfl⟩
      rw [heb] at heq
      have HEB : Hid (decide (nums un = nums name) = eb) := heb
      have hkk : ¬ (pn : Int) ≤ k := by omega
      clear gg hu e4 e5 heb hun
      cases eb with
      | false =>
        have HG2 : Hid (findC (nums name) (l.take (k + 1)) = findC (nums name) (l.take k)) := by unfold Hid; rw [HGT.out, if_neg (of_decide_eq_false HEB.out)]
        go_wp2
        go_roundw
        case rel => exact ⟨k + 1, ts, xs, by go_num, by omega, HTJ.out, by rw [HG2.out]; exact HTS.out, HB0.out⟩
        case measure => simp [intOf]; omega
      | true =>
        have HG2 : Hid (findC (nums name) (l.take (k + 1)) = findC (nums name) (l.take k) ++ [u]) := by unfold Hid; rw [HGT.out, if_pos (of_decide_eq_true HEB.out)]
        have hk5 : Below wr.heap.size wr (wr.alloc (.cells #[.string un, .slice ua ul uc, .slice ta tl tc] 25)) := keep wr _
        have HTJ5 : Hid (TJ W0.heap.size h (.slice oa on oc) ts xs (wr.alloc (.cells #[.string un, .slice ua ul uc, .slice ta tl tc] 25))) := HTJ.out.keep hk5
        have HO5 : Hid ((wr.alloc (.cells #[.string un, .slice ua ul uc, .slice ta tl tc] 25)).ownsRow W0.heap.size 25 3 (.slice oa on oc) on (xs.flatMap cell3)) := by have := HTJ5.out.1; rw [HON.out] at this; exact this
        have HB5 : Hid (Below W0.heap.size W0 (wr.alloc (.cells #[.string un, .slice ua ul uc, .slice ta tl tc] 25))) := HB0.out.trans (hk5.mono HB0.out.size)
        have hsz5 := HB5.out.size
        have hzz : wr.heap.size ≤ wr.heap.size := Nat.le_refl _
        have HOL : Hid (∀ g, (Value.slice oa on oc).ownBlock = some g → W0.heap.size ≤ g ∧ g < wr.heap.size) := fun g q => HTJ.out.1.lt g q
        clear hk5
        go_wp2_with (at_builtin; refine wpList_append_lies _ rfl (.tmp 22) (.tmp 28) 23 rfl W0.heap.size 25 j0 _ 3 64 Tryd.underlying23 hi hz0 hz1 hz2 rfl (by decide) _ on _ rfl HO5.out ⟨wr.heap.size, 0, none⟩ 1 1 [.string un, .slice ua ul uc, .slice ta tl tc] rfl rfl (cells_new wr _ 25) ?a4 (by decide) ?a1 ?a2 hsz5 _ rfl ?_)
        case a4 => first | (intro u hu; simp at hu; rcases hu with rfl | rfl | rfl <;> rfl) | exact ⟨rfl, rfl, rfl⟩
        case a1 => unfold maxLen; omega
        case a2 => omega
        intro g7 cap7 w7 hown7 hgrow7 hfr7 hlt7
        have hadd := TJ.add (g := g7) (v' := .slice (some ⟨g7, 0, none⟩) (on + 1) cap7) (t := u) (x := (Value.string un, Value.slice ua ul uc, Value.slice ta tl tc)) HTJ5.out (fun X hX => CpAt.below (by
          have hb := HBW.out.alloc HBW.out.size (.cells #[.string un, .slice ua ul uc, .slice ta tl tc] 25)
          exact ⟨hX.1.trans hb.os, hX.2.1.trans hb.tape, hX.2.2.1.trans hb.output, Nat.le_trans hb.size hX.size, fun b hlt => (hX.2.2.2.2 b (by have := hb.size; omega) (fun r => by have := (HOL.out _ r).1; have := HK0.out.size; omega)).trans (hb.block b hlt)⟩) _ _ _ _ _ HC0.out) hgrow7 (by rw [HON.out]; exact hown7) rfl (hfr7.imp id (fun q => by rw [q, World.size_alloc]; exact Nat.le_refl _))
        have HTJ7 : Hid (TJ W0.heap.size h (.slice (some ⟨g7, 0, none⟩) (on + 1) cap7) (ts ++ [u]) (xs ++ [(Value.string un, Value.slice ua ul uc, Value.slice ta tl tc)]) w7) := hadd
        have HB7 : Hid (Below W0.heap.size W0 w7) := HB5.out.grown hgrow7 hsz5 (fun j hj => (HOL.out j hj).1)
        clear hadd hown7 hgrow7 hfr7 hlt7
        go_wp2
        go_roundw
        case rel => exact ⟨k + 1, _, _, by go_num, by omega, HTJ7.out, by rw [HTS.out, HG2.out], HB7.out⟩
        case measure => simp [intOf]; omega
    · have HE : Hid (l.take k = l) := by unfold Hid; rw [List.take_of_length_le]; rw [HPN.out]; omega
      have HA : Hid (TRow wr (.slice oa on oc) (findC (nums name) l) (CpAt h wr)) := by
        have h1 := HTJ.out.lies (by rw [HON.out]; unfold maxLen; omega)
        rw [HTS.out, HE.out] at h1
        exact h1
      go_wp2
      go_ret
      exact ⟨_, rfl, HA.out, HBW.out⟩
end Go.Proofs.YtenclgnkogmgiaaDoor
