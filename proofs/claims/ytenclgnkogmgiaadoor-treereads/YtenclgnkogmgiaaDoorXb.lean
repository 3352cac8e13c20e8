/-
  The lines of a component, Write, and the components that are begun.
-/
import Derived.Test.YtenclgnkogmgiaaDoorXa
import Derived.Test.YtenclgnkogmgiaaDoorRd
import Derived.Test.YtenclgnkogmgiaaDoorSz
import Derived.Laws.OwnMore
import Derived.Deep.AppendLies
import Derived.Test.YtenclgnkogmgiaaDoorRm
namespace Go.Proofs.YtenclgnkogmgiaaDoor
open Go.RowKit Go.Shelf
set_option linter.unusedVariables false
set_option linter.unusedSimpArgs false

theorem numsP_injT : ∀ a b : List (ByteArray × ByteArray), numsP a = numsP b → a = b
  | [], [], _ => rfl
  | [], q :: b, h => by simp [numsP] at h
  | p :: a, [], h => by simp [numsP] at h
  | p :: a, q :: b, h => by
    simp only [numsP, List.map_cons, List.cons.injEq, Prod.mk.injEq] at h
    rw [numsP_injT a b h.2, Prod.ext_iff.2 ⟨nums_inj h.1.1, nums_inj h.1.2⟩]
theorem lm_inj {m m' : Lm} (h : m.ln = m'.ln) : m.nm = m'.nm ∧ m.vl = m'.vl ∧ m.fs = m'.fs :=
  ⟨nums_inj (congrArg Ln.name h), nums_inj (congrArg Ln.value h), numsP_injT _ _ (congrArg Ln.pars h)⟩
theorem lrow_cells {w : World} {ad : Addr} {ms : List Lm} (h : LRow w (some ad) ms) : ∀ j u, (ms.flatMap cellM)[j]? = some u → w.cell? (ad.add j) = some u := by
  intro j u hu
  rcases h with rfl | ⟨b, off, e, h⟩
  · simp at hu
  · cases e
    rw [add_plain]
    have hlen : ∀ l : List Lm, (l.flatMap cellM).length = l.length * 3 := by
      intro l
      induction l with
      | nil => rfl
      | cons m l ih => rw [List.flatMap_cons, List.length_append, ih, List.length_cons]; simp [cellM]; omega
    have hj := (List.getElem?_eq_some_iff.1 hu).1
    rw [hlen] at hj
    obtain ⟨m, hm⟩ : ∃ m, ms[j / 3]? = some m := ⟨_, List.getElem?_eq_getElem (by omega)⟩
    obtain ⟨⟨c0, c1, c2⟩, _⟩ := h _ m hm
    have hr : j % 3 < 3 := Nat.mod_lt _ (by omega)
    have hq := cellM_at ms (j / 3) m (j % 3) hm hr
    rw [show j / 3 * 3 + j % 3 = j by omega, hu] at hq
    have hjj : off + j = off + j / 3 * 3 + j % 3 := by omega
    rw [hjj]
    have h3 : j % 3 = 0 ∨ j % 3 = 1 ∨ j % 3 = 2 := by omega
    rcases h3 with e | e | e
    · rw [e] at hq ⊢; simp [cellM] at hq; rw [hq]; exact c0
    · rw [e] at hq ⊢; simp [cellM] at hq; rw [hq]; exact c1
    · rw [e] at hq ⊢; simp [cellM] at hq; rw [hq]; exact c2
theorem flatM_len : ∀ l : List Lm, (l.flatMap cellM).length = l.length * 3
  | [] => rfl
  | m :: l => by rw [List.flatMap_cons, List.length_append, flatM_len l, List.length_cons]; simp [cellM]; omega
theorem flatM_one (l : List Lm) : ∀ u ∈ l.flatMap cellM, u.oneCell' = true := by
  intro u hu
  obtain ⟨m, _, hm⟩ := List.mem_flatMap.1 hu
  simp [cellM] at hm
  rcases hm with rfl | rfl | rfl <;> rfl
/-- Where lines stay, each one's parameters stay. -/
theorem stay_ms {O : Nat → Prop} {V : World} {a : Option Addr} {n c : Nat} {l : List Ln} (hs : Stay O V (fun W => LsAt W (.slice a n c) l)) :
    ∃ ms, ms.length = n ∧ ms.map Lm.ln = l ∧ LRow V a ms ∧ (a = none → c = 0) ∧ n ≤ 9223372036854775807 ∧ ∀ m ∈ ms, m.fs.length ≤ 9223372036854775807 ∧ Stay O V (fun W => FRow W m.a m.fs) := by
  obtain ⟨a0, c0, ms, e0, hr, hms, hn, hc, hf⟩ := hs.now
  cases e0
  refine ⟨ms, rfl, hms, hr, hc, hn, fun m hm => ⟨hf m hm, ?_⟩⟩
  obtain ⟨k, hk⟩ := List.getElem?_of_mem hm
  rcases hr with h0 | ⟨b, off, rfl, h⟩
  · rw [h0] at hk; simp at hk
  obtain ⟨⟨d0, d1, d2⟩, _⟩ := h k m hk
  have hkl := (List.getElem?_eq_some_iff.1 hk).1
  have look : ∀ W, LsAt W (.slice (some ⟨b, off, none⟩) ms.length c) l → ∃ m' : Lm, (W.cell? ⟨b, off + k * 3, none⟩ = some (.string m'.nm) ∧ W.cell? ⟨b, off + k * 3 + 1, none⟩ = some (.slice m'.a m'.fs.length m'.c)) ∧ FRow W m'.a m'.fs ∧ m'.ln = m.ln := by
    rintro W ⟨a1, c1, ks, e1, hr1, hks, _⟩
    have hl : ks.length = ms.length := by injection e1 with _ e _; exact e.symm
    injection e1 with e1 _ _
    subst e1
    obtain ⟨m', hm'⟩ : ∃ m', ks[k]? = some m' := ⟨_, List.getElem?_eq_getElem (by omega)⟩
    rcases hr1 with h0 | ⟨b', off', e', h1⟩
    · rw [h0] at hm'; simp at hm'
    cases e'
    obtain ⟨⟨g0, g1, g2⟩, g3⟩ := h1 k m' hm'
    refine ⟨m', ⟨g0, g1⟩, g3, ?_⟩
    have : (ks.map Lm.ln)[k]? = (ms.map Lm.ln)[k]? := by rw [hks, hms]
    rw [List.getElem?_map, List.getElem?_map, hm', hk] at this
    simpa using this
  have hb : ¬ O b := by
    intro hO
    obtain ⟨m', ⟨g0, _⟩, _⟩ := look _ (hs (V.setCell ⟨b, off + k * 3, none⟩ (.bool false)) (Tk.set (O := O) V b _ _ hO))
    rw [World.cell?_setCell_same V _ (.bool false) d0] at g0
    cases g0
  intro W hW
  obtain ⟨m', ⟨g0, g1⟩, g2, g3⟩ := look W (hs W hW)
  have hlt := World.block_lt_of_cell? V _ d0
  have e := hW.2.2.2.2 b hlt hb
  rw [World.cell?_of_block e, d1] at g1
  obtain ⟨_, _, e3⟩ := lm_inj g3
  injection g1 with g1
  injection g1 with g1 _ _
  rw [g1, ← e3]; exact g2
/-- What changes: rows of lines from B on. -/
def OL (B : Nat) (w : World) (b : Nat) : Prop := B ≤ b ∧ ∃ cs, w.heap[b]? = some (.cells cs 39 (0, 0))
theorem ol_trans {B : Nat} {U V W : World} (h : Tk (OL B U) U V) (k : Tk (OL B V) V W) : Tk (OL B U) U W :=
  ⟨k.1.trans h.1, k.2.1.trans h.2.1, k.2.2.1.trans h.2.2.1, Nat.le_trans h.size k.size, fun b hb hO => by
    have e := h.2.2.2.2 b hb hO
    refine (k.2.2.2.2 b (by have := h.size; omega) (fun q => hO ?_)).trans e
    obtain ⟨q1, cs, q2⟩ := q
    exact ⟨q1, cs, by rw [← e]; exact q2⟩⟩
theorem ol_grown {B : Nat} {U V : World} {v : Value} {n : Nat} {xs : List Value} (ho : U.ownsRow B 39 3 v n xs) (hg : U.grownBy V v.ownBlock) : Tk (OL B U) U V :=
  Tk.grown hg (fun b hb => by
    rcases ho.2 with ⟨rfl, _⟩ | ⟨g, cap, cur, rfl, h1, h2, _⟩
    · simp [Value.ownBlock] at hb
    · simp [Value.ownBlock] at hb; subst hb; exact ⟨h1, cur, h2⟩)
theorem ol_kept {B : Nat} {U V : World} (h : Tk (OL B U) U V) {b : Nat} {cs : Array Value} {t : TypeId} (hb : Blk U b cs t) (ht : t ≠ 39) : Blk V b cs t :=
  h.kept hb (fun q => by obtain ⟨_, ds, q⟩ := q; rw [show U.heap[b]? = _ from hb] at q; cases q; exact ht rfl)
theorem ol_stay {B : Nat} {U V : World} {Q : World → Prop} (h : Tk (OL B U) U V) (hs : Stay (fun b => B ≤ b) U Q) : Stay (fun b => B ≤ b) V Q := hs.go h (fun _ _ q => q.1) (fun _ _ q => q)
/-- The lines of a component. -/
def wlP : Nat → Cp → List Ln
  | 0, _ => []
  | h + 1, t => (⟨bgZ, [], t.nm⟩ :: (t.ls ++ t.cs.flatMap (wlP h))) ++ [⟨enZ, [], t.nm⟩]
def WtPost (w : World) (B : Nat) (xs : List Lm) (l : List Ln) (e : Ending) (w' : World) : Prop :=
  ∃ v' ms, e = .returned v' ∧ w'.ownsRow B 39 3 v' (xs ++ ms).length ((xs ++ ms).flatMap cellM) ∧ ms.map Lm.ln = l ∧ Tk (OL B w) w w' ∧ ∀ m ∈ ms, m.fs.length ≤ 9223372036854775807 ∧ Stay (fun b => B ≤ b) w' (fun W => FRow W m.a m.fs)
def WtC (h : Nat) : Prop := ∀ (t : Cp) (x y z v : Value) (B : Nat) (xs : List Lm) (w : World), Stay (fun b => B ≤ b) w (fun W => CpAt h W t x y z) → w.ownsRow B 39 3 v xs.length (xs.flatMap cellM) → xs.length + (wlP h t).length ≤ 100000 → B ≤ w.heap.size →
  Calls Tryd.prog 29 #[v, compV x y z] w (WtPost w B xs (wlP h t))
theorem take_le (h : Nat) (t : Cp) (j : Nat) (u : Cp) (hu : t.cs[j]? = some u) : 2 + t.ls.length + ((t.cs.take j).flatMap (wlP h)).length + (wlP h u).length ≤ (wlP (h + 1) t).length := by
  have e : t.cs = t.cs.take j ++ u :: t.cs.drop (j + 1) := by
    have hl := (List.getElem?_eq_some_iff.1 hu).1
    have hd : t.cs.drop j = u :: t.cs.drop (j + 1) := by
      rw [List.drop_eq_getElem_cons hl]
      rw [List.getElem?_eq_getElem hl] at hu
      simp only [Option.some.injEq] at hu
      rw [hu]
    rw [← hd, List.take_append_drop]
  have : (t.cs.flatMap (wlP h)).length = ((t.cs.take j).flatMap (wlP h)).length + ((wlP h u).length + ((t.cs.drop (j + 1)).flatMap (wlP h)).length) := by
    conv => lhs; rw [e]
    rw [List.flatMap_append, List.flatMap_cons, List.length_append, List.length_append]
  simp only [wlP, List.length_append, List.length_cons, List.length_nil]
  omega
/-- Lines put behind a row of one's own. -/
theorem wpList_append_ms {w : World} {ops : Array Oper} {rest : List Oper} {o : Oper} {a : Act} {Q : Exit → Act → World → Prop} (hgd : o.guard = none) (s x : Operand)
    (ho : o.op = .call { callee := .builtin .append, args := #[s, x], argTypes := #[22, 22] }) (B : Nat) (v : Value) (n : Nat) (xs : List Value) (hs : a.eval s = v) (hown : w.ownsRow B 39 3 v n xs)
    (la : Option Addr) (ln lc : Nat) (ms : List Lm) (hx : a.eval x = .slice la ln lc) (hl : ms.length = ln) (hlr : LRow w la ms) (hlc : la = none → lc = 0) (hb : n + ln ≤ 100000) (hbase : B ≤ w.heap.size)
    (h : ∀ v' w', w'.ownsRow B 39 3 v' (n + ln) (xs ++ ms.flatMap cellM) → Tk (OL B w) w w' → wpList Tryd.prog ops Q rest (a.put o.dst v') w') : wpList Tryd.prog ops Q (o :: rest) a w := by
  obtain ⟨j0, hi, hz0, hz1, hz2⟩ := info_parts Tryd.info39
  cases la with
  | none =>
    obtain rfl : ms = [] := by
      rcases hlr with h | ⟨b, off, e, _⟩
      · exact h
      · cases e
    simp at hl
    subst hl
    rw [hlc rfl] at hx
    refine wpList_append_own_none hgd s x 22 ho B 39 j0 3 Tryd.underlying22 hi v n xs hs hown hx (h v w ?_ (Tk.refl _ _))
    simpa using hown
  | some ad =>
    refine wpList_append_own _ hgd s x 22 ho B 39 j0 _ 3 56 Tryd.underlying22 hi hz0 hz1 hz2 rfl (by decide) v n xs hs hown ad ln lc (ms.flatMap cellM) hx (by rw [flatM_len, hl]) (lrow_cells hlr) (flatM_one ms) (by unfold maxLen; omega) (by omega) hbase ?_
    intro v' w' h1 h2 _
    exact h v' w' h1 (ol_grown hown h2)
set_option maxHeartbeats 16000000 in
set_option maxRecDepth 100000 in
theorem written_step (h' : Nat) (ih : WtC h') : WtC (h' + 1) := by
  intro t x y z v B xs w hst hown hlen hBw
  obtain ⟨j0, hi, hz0, hz1, hz2⟩ := info_parts Tryd.info39
  obtain ⟨⟨nm, rfl, hnm⟩, ⟨la, ln, lc, rfl⟩, ⟨pa, pn, pc, rfl⟩⟩ := cp_form hst.now
  obtain ⟨ms0, hln, hms, _, hlc, hlb, _⟩ := stay_ms (stay_lines hst)
  obtain ⟨hpl, hpn⟩ : t.cs.length ≤ maxLen ∧ t.cs.length = pn := by
    obtain ⟨_, _, hpl, pa', pc', e', _⟩ := hst.now
    cases e'; exact ⟨hpl, rfl⟩
  have HPN : Hid (t.cs.length = pn) := hpn
  have HNM : Hid (nums nm = t.nm) := hnm
  have hTL : t.ls.length = ln := by rw [← hms, List.length_map]; exact hln
  have HTL : Hid (t.ls.length = ln) := hTL
  rw [hpn] at hpl
  unfold maxLen at hpl
  obtain ⟨G, hG⟩ : ∃ G, w.heap.size = G := ⟨_, rfl⟩
  have HG : Hid (w.heap.size = G) := hG
  have hwl : 2 + ln ≤ (wlP (h' + 1) t).length := by
    simp only [wlP, List.length_append, List.length_cons, List.length_nil]; omega
  obtain ⟨WL, hWL⟩ : ∃ n, (wlP (h' + 1) t).length = n := ⟨_, rfl⟩
  have HWL : Hid ((wlP (h' + 1) t).length = WL) := hWL
  rw [hWL] at hlen hwl
  have hBk := keep w (.cells #[.string nm, .slice la ln lc, .slice pa pn pc] 25)
  obtain ⟨w0, hw0⟩ : ∃ w0, w.alloc (.cells #[.string nm, .slice la ln lc, .slice pa pn pc] 25) = w0 := ⟨_, rfl⟩
  rw [hw0] at hBk
  have hs0 : w0.heap.size = G + 1 := by rw [← hw0, World.size_alloc, hG]
  have hT0 : Tk (OL B w) w w0 := .of_below hBk
  have hG0 : Blk w0 G #[.string nm, .slice la ln lc, .slice pa pn pc] 25 := by rw [← hw0, ← hG]; exact Blk.new _ _ _
  have hO0 : w0.ownsRow B 39 3 v xs.length (xs.flatMap cellM) := own_keep hown hBk
  have hS0 := ol_stay hT0 hst
  obtain ⟨q0, q1, q2⟩ := cells3 hG0
  have HT0 : Hid (Tk (OL B w) w w0) := hT0
  have HG0 : Hid (Blk w0 G #[.string nm, .slice la ln lc, .slice pa pn pc] 25) := hG0
  have HO0 : Hid (w0.ownsRow B 39 3 v xs.length (xs.flatMap cellM)) := hO0
  have HS0 : Hid (Stay (fun b => B ≤ b) w0 (fun W => CpAt (h' + 1) W t (.string nm) (.slice la ln lc) (.slice pa pn pc))) := hS0
  have HIH : Hid (WtC h') := ih
  obtain ⟨xn, hxn⟩ : ∃ n, xs.length = n := ⟨_, rfl⟩
  have HXN : Hid (xs.length = xn) := hxn
  rw [hxn] at HO0 hlen
  have hxl : xn + ln + 2 ≤ 100000 := by omega
  unfold compV
  clear hst hown hT0 hG0 hO0 hS0 hBk ih hms hnm hpn hln hxn hTL hWL
  have hfo : ∃ va vn vc, v = .slice va vn vc := by
    rcases HO0.out.2 with ⟨rfl, _⟩ | ⟨g, cap, cur, rfl, _⟩ <;> exact ⟨_, _, _, rfl⟩
  obtain ⟨va, vn, vc, rfl⟩ := hfo
  go_enter Tryd.func29, Tryd.ntmps29
  go_wp2_with (at_builtin; refine wpList_append_own _ rfl (.tmp 7) (.tmp 11) 22 rfl B 39 j0 _ 3 56 Tryd.underlying22 hi hz0 hz1 hz2 rfl (by decide) _ xn _ rfl (own_keep HO0.out (keep _ _)) ⟨G + 1, 0, none⟩ 1 1 (cellM ⟨⟨#[66, 69, 71, 73, 78]⟩, nm, none, 0, []⟩) rfl rfl ?a0 ?a4 ?a1 ?a2 ?a3 ?_)
  case a0 => rw [← hs0]; exact cells_new w0 _ 39
  case a4 => intro u hu; simp [cellM] at hu; rcases hu with rfl | rfl | rfl <;> rfl
  case a1 => unfold maxLen; omega
  case a2 => omega
  case a3 => rw [World.size_alloc]; omega
  intro v1 w1 hown1 hgrow1 _
  have hk1 := keep w0 (.cells #[.string ⟨#[66, 69, 71, 73, 78]⟩, .slice none 0 0, .string nm] 39)
  have ht1 : Tk (OL B w) w w1 := ol_trans (ol_trans HT0.out (.of_below hk1)) (ol_grown (own_keep HO0.out hk1) hgrow1)
  have hG1 : Blk w1 G #[.string nm, .slice la ln lc, .slice pa pn pc] 25 := ol_kept (ol_trans (.of_below hk1) (ol_grown (own_keep HO0.out hk1) hgrow1) : Tk (OL B w0) w0 w1) HG0.out (by decide)
  have hS1 := ol_stay (ol_trans (.of_below hk1) (ol_grown (own_keep HO0.out hk1) hgrow1) : Tk (OL B w0) w0 w1) HS0.out
  have hsz1 : G + 1 < w1.heap.size := by have := hgrow1.size; rw [World.size_alloc] at this; omega
  obtain ⟨p0, p1, p2⟩ := cells3 hG1
  obtain ⟨ms, hln, hms, hlr, _, _, hmf⟩ := stay_ms (stay_lines hS1)
  have HO1 : Hid (w1.ownsRow B 39 3 v1 (xn + 1) (xs.flatMap cellM ++ cellM ⟨⟨#[66, 69, 71, 73, 78]⟩, nm, none, 0, []⟩)) := hown1
  have HT1 : Hid (Tk (OL B w) w w1) := ht1
  have HG1 : Hid (Blk w1 G #[.string nm, .slice la ln lc, .slice pa pn pc] 25) := hG1
  have HS1 : Hid (Stay (fun b => B ≤ b) w1 (fun W => CpAt (h' + 1) W t (.string nm) (.slice la ln lc) (.slice pa pn pc))) := hS1
  have HMF : Hid (∀ m ∈ ms, m.fs.length ≤ 9223372036854775807 ∧ Stay (fun b => B ≤ b) w1 (fun W => FRow W m.a m.fs)) := hmf
  have HLR : Hid (LRow w1 la ms) := hlr
  have HML : Hid (ms.length = ln) := hln
  have HMS : Hid (ms.map Lm.ln = t.ls) := hms
  obtain ⟨va1, vn1, vc1, rfl⟩ : ∃ va vn vc, v1 = .slice va vn vc := by
    rcases hown1.2 with ⟨rfl, _⟩ | ⟨g, cap, cur, rfl, _⟩ <;> exact ⟨_, _, _, rfl⟩
  clear hk1 ht1 hG1 hS1 hown1 hgrow1 hlr hmf hms hln q0 q1 q2 hw0
  have body : ∀ (v2 : Value) (w2 : World), w2.ownsRow B 39 3 v2 (xn + 1 + ln) (xs.flatMap cellM ++ cellM ⟨⟨#[66, 69, 71, 73, 78]⟩, nm, none, 0, []⟩ ++ ms.flatMap cellM) → Tk (OL B w1) w1 w2 → ∃ (acc : List Lm), acc.map Lm.ln = ⟨bgZ, [], t.nm⟩ :: (t.ls ++ (t.cs.take 0).flatMap (wlP h')) ∧ w2.ownsRow B 39 3 v2 (xs ++ acc).length ((xs ++ acc).flatMap cellM) ∧ Tk (OL B w) w w2 ∧ Blk w2 G #[.string nm, .slice la ln lc, .slice pa pn pc] 25 ∧ Stay (fun b => B ≤ b) w2 (fun W => CpAt (h' + 1) W t (.string nm) (.slice la ln lc) (.slice pa pn pc)) ∧ (∀ m ∈ acc, m.fs.length ≤ 9223372036854775807 ∧ Stay (fun b => B ≤ b) w2 (fun W => FRow W m.a m.fs)) ∧ G + 1 < w2.heap.size := by
    intro v2 w2 hown2 ht2
    refine ⟨⟨⟨#[66, 69, 71, 73, 78]⟩, nm, none, 0, []⟩ :: ms, ?_, ?_, ol_trans HT1.out ht2, ol_kept ht2 HG1.out (by decide), ol_stay ht2 HS1.out, ?_, by have := ht2.size; omega⟩
    · rw [List.map_cons, HMS.out, ← HNM.out]; simp [Lm.ln, numsP]; rfl
    · have : (xs ++ (⟨⟨#[66, 69, 71, 73, 78]⟩, nm, none, 0, []⟩ :: ms : List Lm)).length = xn + 1 + ln := by have h1 := HXN.out; have h2 := HML.out; simp; omega
      rw [this, List.flatMap_append, List.flatMap_cons, ← List.append_assoc]; exact hown2
    · intro m hm
      rcases List.mem_cons.1 hm with rfl | hm
      · exact ⟨Nat.zero_le _, fun W _ => .inl rfl⟩
      · exact ⟨(HMF.out m hm).1, ol_stay ht2 (HMF.out m hm).2⟩
  have HBODY : Hid (∀ (v2 : Value) (w2 : World), w2.ownsRow B 39 3 v2 (xn + 1 + ln) (xs.flatMap cellM ++ cellM ⟨⟨#[66, 69, 71, 73, 78]⟩, nm, none, 0, []⟩ ++ ms.flatMap cellM) → Tk (OL B w1) w1 w2 → ∃ (acc : List Lm), acc.map Lm.ln = ⟨bgZ, [], t.nm⟩ :: (t.ls ++ (t.cs.take 0).flatMap (wlP h')) ∧ w2.ownsRow B 39 3 v2 (xs ++ acc).length ((xs ++ acc).flatMap cellM) ∧ Tk (OL B w) w w2 ∧ Blk w2 G #[.string nm, .slice la ln lc, .slice pa pn pc] 25 ∧ Stay (fun b => B ≤ b) w2 (fun W => CpAt (h' + 1) W t (.string nm) (.slice la ln lc) (.slice pa pn pc)) ∧ (∀ m ∈ acc, m.fs.length ≤ 9223372036854775807 ∧ Stay (fun b => B ≤ b) w2 (fun W => FRow W m.a m.fs)) ∧ G + 1 < w2.heap.size) := body
  clear body
  go_wp2_with (at_builtin; refine wpList_append_ms rfl (.tmp 13) (.tmp 15) rfl B _ (xn + 1) _ rfl HO1.out la ln lc ms rfl HML.out HLR.out hlc (by omega) (by omega) ?_)
  intro v2 w2 hown2 ht2
  obtain ⟨acc, hacc, hown3, ht3, hG3, hS3, hF3, hsz3⟩ := HBODY.out v2 w2 (by rw [List.append_assoc]; exact hown2) ht2
  obtain ⟨va2, vn2, vc2, rfl⟩ : ∃ va vn vc, v2 = .slice va vn vc := by
    rcases hown2.2 with ⟨rfl, _⟩ | ⟨g, cap, cur, rfl, _⟩ <;> exact ⟨_, _, _, rfl⟩
  have HACC : Hid (acc.map Lm.ln = ⟨bgZ, [], t.nm⟩ :: (t.ls ++ (t.cs.take 0).flatMap (wlP h'))) := hacc
  have HO3 : Hid (w2.ownsRow B 39 3 (.slice va2 vn2 vc2) (xs ++ acc).length ((xs ++ acc).flatMap cellM)) := hown3
  have HT3 : Hid (Tk (OL B w) w w2) := ht3
  have HG3 : Hid (Blk w2 G #[.string nm, .slice la ln lc, .slice pa pn pc] 25) := hG3
  have HS3 : Hid (Stay (fun b => B ≤ b) w2 (fun W => CpAt (h' + 1) W t (.string nm) (.slice la ln lc) (.slice pa pn pc))) := hS3
  have HF3 : Hid (∀ m ∈ acc, m.fs.length ≤ 9223372036854775807 ∧ Stay (fun b => B ≤ b) w2 (fun W => FRow W m.a m.fs)) := hF3
  obtain ⟨r0, r1, r2⟩ := cells3 hG3
  clear hacc hown3 ht3 hG3 hS3 hF3 hown2 ht2 p0 p1 p2
  go_wp2_with fail
  go_loopw [20, 0] (fun i o wr => ∃ (j : Nat) (acc : List Lm) (oa : Option Addr) (on oc : Nat), i = .int .i64 (j : Nat) ∧ j ≤ pn ∧ o = .slice oa on oc ∧ acc.map Lm.ln = ⟨bgZ, [], t.nm⟩ :: (t.ls ++ (t.cs.take j).flatMap (wlP h')) ∧ wr.ownsRow B 39 3 o (xs ++ acc).length ((xs ++ acc).flatMap cellM) ∧ Tk (OL B w) w wr ∧ Blk wr G #[.string nm, .slice la ln lc, .slice pa pn pc] 25 ∧ Stay (fun b => B ≤ b) wr (fun W => CpAt (h' + 1) W t (.string nm) (.slice la ln lc) (.slice pa pn pc)) ∧ (∀ m ∈ acc, m.fs.length ≤ 9223372036854775807 ∧ Stay (fun b => B ≤ b) wr (fun W => FRow W m.a m.fs)) ∧ G + 1 < wr.heap.size) (fun i _ _ => pn - (intOf i).toNat)
  case atStart => exact ⟨0, acc, va2, vn2, vc2, rfl, by omega, rfl, HACC.out, HO3.out, HT3.out, HG3.out, HS3.out, HF3.out, hsz3⟩
  case round =>
    clear HACC HO3 HT3 HG3 HS3 HF3 r0 r1 r2 hsz3
    obtain ⟨j, acc, oa, on, oc, rfl, hj, rfl, hacc, hown, ht, hG', hS, hF, hsz⟩ := hrel
    have HACC : Hid (acc.map Lm.ln = ⟨bgZ, [], t.nm⟩ :: (t.ls ++ (t.cs.take j).flatMap (wlP h'))) := hacc
    have HO3 : Hid (wr.ownsRow B 39 3 (.slice oa on oc) (xs ++ acc).length ((xs ++ acc).flatMap cellM)) := hown
    have HT3 : Hid (Tk (OL B w) w wr) := ht
    have HG3 : Hid (Blk wr G #[.string nm, .slice la ln lc, .slice pa pn pc] 25) := hG'
    have HS3 : Hid (Stay (fun b => B ≤ b) wr (fun W => CpAt (h' + 1) W t (.string nm) (.slice la ln lc) (.slice pa pn pc))) := hS
    have HF3 : Hid (∀ m ∈ acc, m.fs.length ≤ 9223372036854775807 ∧ Stay (fun b => B ≤ b) wr (fun W => FRow W m.a m.fs)) := hF
    have haccl : acc.length = 1 + ln + ((t.cs.take j).flatMap (wlP h')).length := by
      have := congrArg List.length hacc
      rw [List.length_map, List.length_cons, List.length_append, HTL.out] at this
      omega
    obtain ⟨al, hal⟩ : ∃ n, acc.length = n := ⟨_, rfl⟩
    have HAL : Hid (acc.length = al) := hal
    have HXA : Hid ((xs ++ acc).length = xn + al) := by unfold Hid; rw [List.length_append, HXN.out, hal]
    by_cases hlt : j < pn
    · obtain ⟨u, hu⟩ : ∃ u, t.cs[j]? = some u := ⟨_, List.getElem?_eq_getElem (by have := HPN.out; omega)⟩
      have hle := take_le h' t j u hu
      rw [HWL.out, HTL.out] at hle
      obtain ⟨b1, o1, rfl⟩ : ∃ b1 o1, pa = some ⟨b1, o1, none⟩ := by
        obtain ⟨_, _, _, pa', pc', e', hr⟩ := hS.now
        rcases hr with h0 | ⟨b1, o1, h1, _⟩
        · rw [h0] at hu; simp at hu
        · cases e'; exact ⟨b1, o1, h1⟩
      obtain ⟨x1, y1, z1, e1, e2, e3, hsu⟩ := stay_child hS hu
      have HTA : Hid ((t.cs.take (j + 1)).flatMap (wlP h') = (t.cs.take j).flatMap (wlP h') ++ wlP h' u) := by
        unfold Hid; rw [List.take_add_one, hu]; simp
      obtain ⟨⟨un, rfl, _⟩, ⟨ya, yn, yc, rfl⟩, ⟨za, zn, zc, rfl⟩⟩ := cp_form hsu.now
      have hbk := keep wr (.cells #[.string un, .slice ya yn yc, .slice za zn zc] 25)
      have hch := HIH.out u _ _ _ _ B (xs ++ acc) (wr.alloc (.cells #[.string un, .slice ya yn yc, .slice za zn zc] 25)) (ol_stay (.of_below hbk) hsu) (own_keep hown hbk) (by rw [HXA.out]; omega) (by rw [World.size_alloc]; omega)
      unfold compV at hch
      have HBK : Hid (Tk (OL B wr) wr (wr.alloc (.cells #[.string un, .slice ya yn yc, .slice za zn zc] 25))) := .of_below hbk
      clear hbk hsu hu hS hacc hown ht hG' hF hle haccl hal
      go_wp2_with fail
      refine hch.mono ?_
      rintro e w4 ⟨v4, ms4, rfl, hown4, hms4, ht4, hf4⟩
      obtain ⟨va4, vn4, vc4, rfl⟩ : ∃ va vn vc, v4 = .slice va vn vc := by
        rcases hown4.2 with ⟨rfl, _⟩ | ⟨g, cap, cur, rfl, _⟩ <;> exact ⟨_, _, _, rfl⟩
      have ht5 : Tk (OL B wr) wr w4 := ol_trans HBK.out ht4
      have HO4 : Hid (w4.ownsRow B 39 3 (.slice va4 vn4 vc4) (xs ++ (acc ++ ms4)).length ((xs ++ (acc ++ ms4)).flatMap cellM)) := by unfold Hid; rw [← List.append_assoc]; exact hown4
      have HA4 : Hid ((acc ++ ms4).map Lm.ln = ⟨bgZ, [], t.nm⟩ :: (t.ls ++ (t.cs.take (j + 1)).flatMap (wlP h'))) := by
        unfold Hid; rw [List.map_append, HACC.out, hms4, HTA.out]; simp
      have HT4 : Hid (Tk (OL B w) w w4) := ol_trans HT3.out ht5
      have HG4 : Hid (Blk w4 G #[.string nm, .slice la ln lc, .slice (some ⟨b1, o1, none⟩) pn pc] 25) := ol_kept ht5 HG3.out (by decide)
      have HS4 : Hid (Stay (fun b => B ≤ b) w4 (fun W => CpAt (h' + 1) W t (.string nm) (.slice la ln lc) (.slice (some ⟨b1, o1, none⟩) pn pc))) := ol_stay ht5 HS3.out
      have HF4 : Hid (∀ m ∈ acc ++ ms4, m.fs.length ≤ 9223372036854775807 ∧ Stay (fun b => B ≤ b) w4 (fun W => FRow W m.a m.fs)) := by
        intro m hm
        rcases List.mem_append.1 hm with hm | hm
        · exact ⟨(HF3.out m hm).1, ol_stay ht5 (HF3.out m hm).2⟩
        · exact hf4 m hm
      have hsz4 : G + 1 < w4.heap.size := by have := ht5.size; omega
      clear hch e1 e2 e3 hown4 hms4 ht4 hf4 ht5
      go_wp2
      go_roundw
      case rel => exact ⟨j + 1, acc ++ ms4, va4, vn4, vc4, by go_num, by omega, rfl, HA4.out, HO4.out, HT4.out, HG4.out, HS4.out, HF4.out, hsz4⟩
      case measure => simp [intOf]; omega
    · obtain rfl : j = pn := by omega
      obtain ⟨r0, r1, r2⟩ := cells3 HG3.out
      have hbound : xn + al + 1 ≤ 100000 := by
        have : al + 1 ≤ WL := by
          have h1 := HWL.out
          have h2 := HPN.out
          simp only [wlP, List.length_append, List.length_cons, List.length_nil] at h1
          rw [List.take_of_length_le (by omega)] at haccl
          have h3 := HTL.out
          omega
        omega
      obtain ⟨R, hR⟩ : ∃ R, wr.heap.size = R := ⟨_, rfl⟩
      have HO5 : Hid (wr.ownsRow B 39 3 (.slice oa on oc) (xn + al) ((xs ++ acc).flatMap cellM)) := by unfold Hid; rw [← HXA.out]; exact HO3.out
      clear hacc hown ht hG' hS hF haccl hal
      go_wp2_with (at_builtin; refine wpList_append_own _ rfl (.tmp 28) (.tmp 32) 22 rfl B 39 j0 _ 3 56 Tryd.underlying22 hi hz0 hz1 hz2 rfl (by decide) _ (xn + al) _ rfl (own_keep HO5.out (keep _ _)) ⟨R, 0, none⟩ 1 1 (cellM ⟨⟨#[69, 78, 68]⟩, nm, none, 0, []⟩) rfl rfl ?a0 ?a4 ?a1 ?a2 ?a3 ?_)
      case a0 => rw [← hR]; exact cells_new wr _ 39
      case a4 => intro u hu; simp [cellM] at hu; rcases hu with rfl | rfl | rfl <;> rfl
      case a1 => unfold maxLen; omega
      case a2 => omega
      case a3 => rw [World.size_alloc]; omega
      intro v6 w6 hown6 hgrow6 _
      have hk6 := keep wr (.cells #[.string ⟨#[69, 78, 68]⟩, .slice none 0 0, .string nm] 39)
      have ht6 : Tk (OL B wr) wr w6 := ol_trans (.of_below hk6) (ol_grown (own_keep HO5.out hk6) hgrow6)
      obtain ⟨va6, vn6, vc6, rfl⟩ : ∃ va vn vc, v6 = .slice va vn vc := by
        rcases hown6.2 with ⟨rfl, _⟩ | ⟨g, cap, cur, rfl, _⟩ <;> exact ⟨_, _, _, rfl⟩
      have HP : Hid (WtPost w B xs (wlP (h' + 1) t) (.returned (.slice va6 vn6 vc6)) w6) := by
        refine ⟨_, acc ++ [⟨⟨#[69, 78, 68]⟩, nm, none, 0, []⟩], rfl, ?_, ?_, ol_trans HT3.out ht6, ?_⟩
        · have e : (xs ++ (acc ++ [(⟨⟨#[69, 78, 68]⟩, nm, none, 0, []⟩ : Lm)])).length = xn + al + 1 := by have := HXN.out; have := HAL.out; simp; omega
          rw [e, ← List.append_assoc, List.flatMap_append]; simpa using hown6
        · rw [List.map_append, HACC.out, List.take_of_length_le (by have := HPN.out; omega), wlP]
          simp [Lm.ln, numsP, HNM.out]; rfl
        · intro m hm
          rcases List.mem_append.1 hm with hm | hm
          · exact ⟨(HF3.out m hm).1, ol_stay ht6 (HF3.out m hm).2⟩
          · simp at hm; subst hm; exact ⟨Nat.zero_le _, fun W _ => .inl rfl⟩
      clear hown6 hgrow6 hk6 ht6
      go_wp2
      go_ret
      exact HP.out
theorem written_all : ∀ h, WtC h
  | 0 => fun t x y z v B xs w hst _ _ _ => hst.now.elim
  | h + 1 => written_step h (written_all h)
end Go.Proofs.YtenclgnkogmgiaaDoor
namespace Go.Proofs.YtenclgnkogmgiaaDoor
open Go.RowKit Go.Shelf
set_option linter.unusedVariables false
set_option linter.unusedSimpArgs false

def outN (l : List Ln) : List Int := endW (l.flatMap fun n => foldL (writtenZ n))
theorem outN_M (ms : List Lm) : outM ms = outN (ms.map Lm.ln) := by
  unfold outM outN; rw [List.flatMap_map]; rfl
theorem wl_le : ∀ (f h : Nat) (s : Nat × Nat) (t : Cp), (rtP f s t).1 = true → (wlP h t).length + s.2 + 2 * s.1 ≤ (rtP f s t).2.2 + 2 * (rtP f s t).2.1
  | 0, h, s, t, hr => by simp [rtP] at hr
  | f + 1, h, s, t, hr => by
    have aux : ∀ (k : Nat) (l : List Cp) (s : Nat × Nat), (rtL (rtP f) s l).1 = true → (l.flatMap (wlP k)).length + s.2 + 2 * s.1 ≤ (rtL (rtP f) s l).2.2 + 2 * (rtL (rtP f) s l).2.1 := by
      intro k l
      induction l with
      | nil => intro s _; simp [rtL]
      | cons q r ihl =>
        intro s hq
        unfold rtL at hq ⊢
        split at hq
        · rename_i h1
          rw [if_pos h1]
          have a1 := wl_le f k s q h1
          have a2 := ihl _ hq
          rw [List.flatMap_cons, List.length_append]
          omega
        · cases hq
    unfold rtP at hr ⊢
    split at hr
    · cases hr
    · rename_i hn
      rw [if_neg hn]
      split at hr
      · rename_i hq
        rw [if_pos hq]
        cases h with
        | zero =>
          have := aux 0 t.cs _ hr
          simp only [wlP, List.length_nil] at this ⊢
          omega
        | succ h =>
          have := aux h t.cs _ hr
          simp only [wlP, List.length_append, List.length_cons, List.length_nil] at this ⊢
          omega
      · cases hr
theorem right_len {h : Nat} {t : Cp} (hr : rightT t = true) : (wlP h t).length ≤ 8320 := by
  have h1 := wl_le 8 h (0, 0) t hr
  have h2 := rtP_most 8 (0, 0) t (by simp) hr
  have h3 := (rtP_mono 8 (0, 0) t).2 (by simp)
  simp only at h1
  omega
theorem rtL_mem {rec : Nat × Nat → Cp → Bool × Nat × Nat} : ∀ (l : List Cp) (s : Nat × Nat), (rtL rec s l).1 = true → ∀ q ∈ l, ∃ s', (rec s' q).1 = true
  | [], _, _, q, hq => by simp at hq
  | p :: r, s, h, q, hq => by
    unfold rtL at h
    split at h
    · rename_i h1
      rcases List.mem_cons.1 hq with rfl | hq
      · exact ⟨s, h1⟩
      · exact rtL_mem r _ h q hq
    · cases h
/-- What is right: each component's Name and lines. -/
theorem rt_inv {f : Nat} {s : Nat × Nat} {t : Cp} (h : (rtP (f + 1) s t).1 = true) : nameZ t.nm = true ∧ t.ls.all ownZ = true ∧ ∀ q ∈ t.cs, ∃ s', (rtP f s' q).1 = true := by
  unfold rtP at h
  split at h
  · cases h
  · split at h
    · rename_i hq
      rw [Bool.and_eq_true] at hq
      exact ⟨hq.1, hq.2, rtL_mem _ _ h⟩
    · cases h
theorem up_valid : ∀ (l : List Int) (n : Nat), l.all upC = true → l.length ≤ n → validN n l = true
  | [], n, _, _ => by cases n <;> rfl
  | c :: l, 0, _, h => by simp at h
  | c :: l, n + 1, h, hl => by
    rw [List.all_cons, Bool.and_eq_true] at h
    have hc : 0 ≤ c ∧ c < 128 := by
      have := h.1
      unfold upC at this
      simp only [Bool.or_eq_true, decide_eq_true_eq] at this
      omega
    have hd : Ut.decZ (c :: l) = some c := by
      unfold Ut.decZ
      exact if_pos hc.2
    have he : (Ut.encZ c).length = 1 := by
      unfold Ut.encZ
      rw [if_pos hc.2]; rfl
    rw [validN, hd]
    · simp only
      rw [he]
      exact up_valid l n h.2 (by simp at hl; omega)
    · simp
theorem name_text {l : List Int} (h : nameZ l = true) : textZ l = true ∧ l.length ≤ 64 := by
  unfold nameZ at h
  simp only [Bool.and_eq_true, decide_eq_true_eq] at h
  refine ⟨?_, h.1.2⟩
  unfold textZ
  rw [Bool.and_eq_true]
  refine ⟨?_, up_valid l _ h.2 (Nat.le_refl _)⟩
  rw [List.all_eq_true] at h ⊢
  intro c hc
  have := h.2 c hc
  unfold upC at this
  unfold txC
  simp only [Bool.or_eq_true, decide_eq_true_eq, Bool.and_eq_true] at this ⊢
  omega
theorem frame_right {n v : List Int} (hn : nameZ n = true) (hv : nameZ v = true) : rightZ ⟨n, [], v⟩ = true := by
  obtain ⟨h1, h2⟩ := name_text hv
  unfold rightZ
  simp only [Bool.and_eq_true, decide_eq_true_eq]
  exact ⟨⟨⟨hn, by omega, h1⟩, by simp⟩, rfl⟩
theorem wl_right : ∀ (f h : Nat) (s : Nat × Nat) (t : Cp), (rtP f s t).1 = true → ∀ l ∈ wlP h t, rightZ l = true
  | 0, h, s, t, hr, l, hl => by simp [rtP] at hr
  | f + 1, 0, s, t, hr, l, hl => by simp [wlP] at hl
  | f + 1, h + 1, s, t, hr, l, hl => by
    obtain ⟨h1, h2, h3⟩ := rt_inv hr
    simp only [wlP, List.mem_append, List.mem_cons, List.mem_nil_iff, or_false, List.mem_flatMap, List.not_mem_nil] at hl
    rcases hl with (rfl | hl | ⟨q, hq, hl⟩) | rfl
    · exact frame_right (by decide) h1
    · have := List.all_eq_true.1 h2 l hl
      unfold ownZ at this
      rw [Bool.and_eq_true] at this
      exact this.2
    · obtain ⟨s', hs'⟩ := h3 q hq
      exact wl_right f h s' q hs' l hl
    · exact frame_right (by decide) h1
theorem fit_wl : ∀ (h : Nat) (t : Cp), FitC h t → ∀ l ∈ wlP h t, FitN l
  | 0, t, _, l, hl => by simp [wlP] at hl
  | h + 1, t, hf, l, hl => by
    obtain ⟨h1, h2, h3⟩ := hf
    simp only [wlP, List.mem_append, List.mem_cons, List.mem_nil_iff, or_false, List.mem_flatMap, List.not_mem_nil] at hl
    rcases hl with (rfl | hl | ⟨q, hq, hl⟩) | rfl
    · exact ⟨by simp [bgZ], h1, by simp, by simp⟩
    · exact h2 l hl
    · exact fit_wl h q (h3 q hq) l hl
    · exact ⟨by simp [enZ], h1, by simp, by simp⟩
theorem own_mono {w : World} {B B' : Nat} {v : Value} {l : List Int} (h : Own w B v l) (hb : B' ≤ B) : Own w B' v l := by
  refine ⟨h.1, ?_⟩
  rcases h.2 with h | ⟨g, cap, cur, h1, h2, h3⟩
  · exact .inl h
  · exact .inr ⟨g, cap, cur, h1, by omega, h3⟩
/-- What Write answers. -/
def TwPost (w : World) (h : Nat) (t : Cp) (e : Ending) (w' : World) : Prop :=
  ∃ v c, e = .returned (.tuple #[v, .int .i64 c]) ∧ Below w.heap.size w w' ∧
    ((c = 0 ∧ rightT t = true ∧ (wlP h t).length ≤ 4096 ∧ (outN (wlP h t)).length ≤ 1048576 ∧ Own w' w.heap.size v (outN (wlP h t))) ∨
     (v = .slice none 0 0 ∧ ((rightT t = false ∧ c = 100) ∨ (rightT t = true ∧ c = 2 ∧ (4096 < (wlP h t).length ∨ 1048576 < (outN (wlP h t)).length)))))
set_option maxHeartbeats 16000000 in
set_option maxRecDepth 100000 in
theorem write_tree (h : Nat) (t : Cp) (x y z : Value) (w : World) (hp : CpAt h w t x y z) (hf : FitC h t) : Calls Tryd.prog 12 #[compV x y z] w (TwPost w h t) := by
  obtain ⟨⟨nm, rfl, _⟩, ⟨ya, yn, yc, rfl⟩, ⟨za, zn, zc, rfl⟩⟩ := cp_form hp
  have hk := keep w (.cells #[.string nm, .slice ya yn yc, .slice za zn zc] 25)
  have hr := right_tree h t _ _ _ (w.alloc (.cells #[.string nm, .slice ya yn yc, .slice za zn zc] 25)) (CpAt.below hk _ _ _ _ _ hp) hf
  have HK : Hid (Below w.heap.size w (w.alloc (.cells #[.string nm, .slice ya yn yc, .slice za zn zc] 25))) := hk
  have HG : Hid (Blk (w.alloc (.cells #[.string nm, .slice ya yn yc, .slice za zn zc] 25)) w.heap.size #[.string nm, .slice ya yn yc, .slice za zn zc] 25) := Blk.new _ _ _
  have HP : Hid (CpAt h w t (.string nm) (.slice ya yn yc) (.slice za zn zc)) := hp
  obtain ⟨rb, hrb⟩ : ∃ b, rightT t = b := ⟨_, rfl⟩
  have HRB : Hid (rightT t = rb) := hrb
  rw [hrb] at hr
  unfold compV at hr ⊢
  clear hk hp hrb
  go_enter Tryd.func12, Tryd.ntmps12
  go_wp2_with fail
  refine hr.mono ?_
  rintro e w1 ⟨rfl, hb1⟩
  clear hr
  have hB1 : Below w.heap.size w w1 := HK.out.trans (hb1.mono HK.out.size)
  have HB1 : Hid (Below w.heap.size w w1) := hB1
  have HG1 : Hid (Blk w1 w.heap.size #[.string nm, .slice ya yn yc, .slice za zn zc] 25) := HG.out.below hb1 HG.out.lt
  obtain ⟨c0, c1, c2⟩ := cells3 HG1.out
  clear hb1 hB1
  cases rb with
  | false =>
    go_wp2
    go_ret2
    exact ⟨_, _, rfl, HB1.out, .inr ⟨rfl, .inl ⟨HRB.out, rfl⟩⟩⟩
  | true =>
    have hlen := right_len (h := h) HRB.out
    have hwt := written_all h t (.string nm) (.slice ya yn yc) (.slice za zn zc) (.slice none 0 0) w1.heap.size [] w1 (fun W hW => CpAt.below ⟨hW.1.trans HB1.out.os, hW.2.1.trans HB1.out.tape, hW.2.2.1.trans HB1.out.output, Nat.le_trans HB1.out.size hW.size, fun b hb => (hW.2.2.2.2 b (by have := HB1.out.size; omega) (by have := HB1.out.size; omega)).trans (HB1.out.block b hb)⟩ h t _ _ _ HP.out) (World.ownsRow_nil _ _ _ _) (by simp; omega) (Nat.le_refl _)
    unfold compV at hwt
    go_wp2_with fail
    refine hwt.mono ?_
    rintro e w2 ⟨v2, ms, rfl, hown2, hms, ht2, hf2⟩
    clear hwt
    rw [List.nil_append] at hown2
    have hb2 : Below w.heap.size w w2 := ⟨ht2.1.trans HB1.out.os, ht2.2.1.trans HB1.out.tape, ht2.2.2.1.trans HB1.out.output, Nat.le_trans HB1.out.size ht2.size, fun b hb => (ht2.2.2.2.2 b (by have := HB1.out.size; omega) (fun q => by have := q.1; have := HB1.out.size; omega)).trans (HB1.out.block b hb)⟩
    obtain ⟨a2, cap2, rfl, hlr⟩ := ownM_view hown2 (fun m hm => (hf2 m hm).2.now)
    have hml : ms.length = (wlP h t).length := by rw [← hms, List.length_map]
    have hwr := write_any a2 ms.length cap2 ms w2 rfl (by omega) hlr (fun m hm => fit_ln (fit_wl h t hf _ (by rw [← hms]; exact List.mem_map.2 ⟨m, hm, rfl⟩)))
    have hall : ms.all okM = true := by
      rw [List.all_eq_true]
      intro m hm
      exact wl_right 8 h (0, 0) t HRB.out m.ln (by rw [← hms]; exact List.mem_map.2 ⟨m, hm, rfl⟩)
    have HB2 : Hid (Below w.heap.size w w2) := hb2
    have HML : Hid (ms.length = (wlP h t).length) := hml
    have hC : writeC ms = if 4096 < (wlP h t).length then 2 else 0 := by unfold writeC; rw [hall, hml]; simp
    have hBB : writeB ms = if 4096 < (wlP h t).length then [] else outN (wlP h t) := by
      unfold writeB; rw [hC]
      by_cases h4 : 4096 < (wlP h t).length
      · rw [if_pos h4, if_pos h4]; rfl
      · rw [if_neg h4, if_neg h4, if_pos rfl, outN_M, hms]
    unfold WPost at hwr
    rw [hC, hBB] at hwr
    clear hown2 hlr hf2 ht2 hb2 hms hC hBB hall
    rw [hml] at hwr ⊢
    obtain ⟨wn, hwn⟩ : ∃ n, (wlP h t).length = n := ⟨_, rfl⟩
    obtain ⟨ol, hol⟩ : ∃ l, outN (wlP h t) = l := ⟨_, rfl⟩
    have HWN : Hid ((wlP h t).length = wn) := hwn
    have HOL : Hid (outN (wlP h t) = ol) := hol
    rw [hwn, hol] at hwr
    rw [hwn]
    clear hml hwn hol hlen
    by_cases h4 : 4096 < wn
    · rw [if_pos h4, if_pos h4] at hwr
      go_wp2_with fail
      refine hwr.mono ?_
      rintro e w3 ⟨v3, rfl, ho3, hb3⟩
      have HB3 : Hid (Below w.heap.size w w3) := HB2.out.trans (hb3.mono HB2.out.size)
      clear hwr hb3
      go_wp2
      go_ret2
      exact ⟨_, _, rfl, HB3.out, .inr ⟨rfl, .inr ⟨HRB.out, rfl, .inl (by rw [HWN.out]; exact h4)⟩⟩⟩
    · rw [if_neg h4, if_neg h4] at hwr
      go_wp2_with fail
      refine hwr.mono ?_
      rintro e w3 ⟨v3, rfl, ho3, hb3⟩
      have HB3 : Hid (Below w.heap.size w w3) := HB2.out.trans (hb3.mono HB2.out.size)
      have HO3 : Hid (Own w3 w.heap.size v3 ol) := own_mono ho3 HB2.out.size
      clear hwr hb3
      obtain ⟨a3, cap3, rfl, _, hcm, _, _⟩ := row_of_own ho3
      unfold maxLen at hcm
      have hol2 : ol.length ≤ 9223372036854775807 := by omega
      by_cases h5 : 1048576 < ol.length
      · have d5 : decide ((1048576 : Int) < (ol.length : Int)) = true := by simp; omega
        go_wp2
        go_ret2
        exact ⟨_, _, rfl, HB3.out, .inr ⟨rfl, .inr ⟨HRB.out, rfl, .inr (by rw [HOL.out]; exact h5)⟩⟩⟩
      · have d5 : decide ((1048576 : Int) < (ol.length : Int)) = false := by simp; omega
        go_wp2
        go_ret2
        exact ⟨_, _, rfl, HB3.out, .inl ⟨rfl, HRB.out, by rw [HWN.out]; omega, by rw [HOL.out]; omega, by rw [HOL.out]; exact HO3.out⟩⟩
end Go.Proofs.YtenclgnkogmgiaaDoor
namespace Go.Proofs.YtenclgnkogmgiaaDoor
open Go.RowKit Go.Shelf
set_option linter.unusedVariables false

def fin3 (W : World) (R : Nat) (x y z : Value) : World := ((W.setCell ⟨R, 0, none⟩ x).setCell ⟨R, 1, none⟩ y).setCell ⟨R, 2, none⟩ z
theorem fin3_blk {W : World} {R : Nat} {a b c : Value} {t : TypeId} (h : Blk W R #[a, b, c] t) (x y z : Value) : Blk (fin3 W R x y z) R #[x, y, z] t :=
  heap_setCell_same _ _ 2 _ t z (heap_setCell_same _ _ 1 _ t y (heap_setCell_same _ _ 0 _ t x h))
theorem fin3_tk {O : Nat → Prop} (W : World) (R : Nat) (x y z : Value) (hO : O R) : Tk O W (fin3 W R x y z) := ((Tk.set W R 0 x hO).trans (Tk.set _ R 1 y hO)).trans (Tk.set _ R 2 z hO)
theorem fin3_below {n : Nat} {w W : World} {R : Nat} (x y z : Value) (h : Below n w W) (hR : n ≤ R) : Below n w (fin3 W R x y z) :=
  ((h.setCell (p := ⟨R, 0, none⟩) hR _).setCell (p := ⟨R, 1, none⟩) hR _).setCell (p := ⟨R, 2, none⟩) hR _
end Go.Proofs.YtenclgnkogmgiaaDoor
namespace Go.Proofs.YtenclgnkogmgiaaDoor
open Go.RowKit Go.Shelf
set_option linter.unusedVariables false
set_option linter.unusedSimpArgs false

/-- A row of one's own: its slice, the type of its elements, how many, its cells. -/
structure Rw where
  v : Value
  e : TypeId
  n : Nat
  cs : List Value
def bks (l : List Rw) : List Nat := l.filterMap fun r => r.v.ownBlock
def Fo (N : Nat) (V : World) (l : List Rw) : Prop := (∀ r ∈ l, V.ownsRow N r.e 3 r.v r.n r.cs) ∧ (bks l).Nodup
theorem Fo.keep {N : Nat} {V V' : World} {l : List Rw} (h : Fo N V l) (hb : Below V.heap.size V V') : Fo N V' l := ⟨fun r hr => own_keep (h.1 r hr) hb, h.2⟩
theorem Fo.perm {N : Nat} {V : World} {l l' : List Rw} (h : Fo N V l) (p : l.Perm l') : Fo N V l' :=
  ⟨fun r hr => h.1 r (p.mem_iff.2 hr), (p.filterMap _).nodup_iff.1 h.2⟩
theorem Fo.tail {N : Nat} {V : World} {r : Rw} {l : List Rw} (h : Fo N V (r :: l)) : Fo N V l := by
  refine ⟨fun x hx => h.1 x (List.mem_cons_of_mem _ hx), ?_⟩
  have := h.2
  unfold bks at this ⊢
  rw [List.filterMap_cons] at this
  split at this
  · exact this
  · exact (List.nodup_cons.1 this).2
theorem Fo.lt {N : Nat} {V : World} {l : List Rw} (h : Fo N V l) {b : Nat} (hb : b ∈ bks l) : N ≤ b ∧ b < V.heap.size := by
  obtain ⟨r, hr, hv⟩ := List.mem_filterMap.1 hb
  exact (h.1 r hr).lt b hv
theorem Fo.nil {N : Nat} {V : World} {l : List Rw} (h : Fo N V l) (e : TypeId) : Fo N V (⟨.slice none 0 0, e, 0, []⟩ :: l) := by
  refine ⟨fun r hr => ?_, ?_⟩
  · rcases List.mem_cons.1 hr with rfl | hr
    · exact World.ownsRow_nil _ _ _ _
    · exact h.1 r hr
  · unfold bks; rw [List.filterMap_cons]; exact h.2
theorem bks_cons {r : Rw} {l : List Rw} {g : Nat} (hv : r.v.ownBlock = some g) : bks (r :: l) = g :: bks l := by
  unfold bks; rw [List.filterMap_cons, hv]
theorem bks_none {r : Rw} {l : List Rw} (hv : r.v.ownBlock = none) : bks (r :: l) = bks l := by
  unfold bks; rw [List.filterMap_cons, hv]
theorem Fo.head {N : Nat} {V : World} {r : Rw} {l : List Rw} (h : Fo N V (r :: l)) {x : Rw} (hx : x ∈ l) : x.v.ownBlock = none ∨ x.v.ownBlock ≠ r.v.ownBlock := by
  cases hb : x.v.ownBlock with
  | none => exact .inl rfl
  | some b =>
    right
    intro e
    have h2 := h.2
    rw [bks_cons e.symm] at h2
    exact (List.nodup_cons.1 h2).1 (List.mem_filterMap.2 ⟨x, hx, hb⟩)
theorem Fo.up {N : Nat} {V V' : World} {r r' : Rw} {l : List Rw} {g : Nat} (h : Fo N V (r :: l)) (hg : V.grownBy V' r.v.ownBlock) (ho : V'.ownsRow N r'.e 3 r'.v r'.n r'.cs) (hv : r'.v.ownBlock = some g) (hfr : r.v.ownBlock = some g ∨ V.heap.size ≤ g) : Fo N V' (r' :: l) := by
  refine ⟨fun x hx => ?_, ?_⟩
  · rcases List.mem_cons.1 hx with rfl | hx
    · exact ho
    · exact (h.1 x (List.mem_cons_of_mem _ hx)).kept hg (h.head hx)
  · rw [bks_cons hv, List.nodup_cons]
    refine ⟨fun hm => ?_, h.tail.2⟩
    rcases hfr with e | e
    · have h2 := h.2
      rw [bks_cons e] at h2
      exact (List.nodup_cons.1 h2).1 hm
    · have := h.tail.lt hm
      omega
theorem Fo.set {N : Nat} {V : World} {e : TypeId} {n g cap : Nat} {cs : List Value} {l : List Rw} (h : Fo N V (⟨.slice (some ⟨g, 0, none⟩) n cap, e, n, cs⟩ :: l)) (i : Nat) (u : Value) : Fo N (V.setCell ⟨g, i, none⟩ u) (⟨.slice (some ⟨g, 0, none⟩) n cap, e, n, cs.set i u⟩ :: l) := by
  refine ⟨fun x hx => ?_, ?_⟩
  · rcases List.mem_cons.1 hx with rfl | hx
    · exact (World.ownsRow.stored (h.1 _ (List.mem_cons_self ..)) i u).1
    · have ho := h.1 x (List.mem_cons_of_mem _ hx)
      have hn := h.head hx
      refine ⟨ho.1, ?_⟩
      rcases ho.2 with q | ⟨g', cap', cur, q1, q2, q3, q4⟩
      · exact .inl q
      · refine .inr ⟨g', cap', cur, q1, q2, (heap_setCell_other _ _ _ _ (fun e => ?_)).trans q3, q4⟩
        rw [q1] at hn
        simp only [Value.ownBlock] at hn
        rcases hn with hn | hn
        · cases hn
        · exact hn (by rw [e])
  · have := h.2
    rw [bks_cons (g := g) rfl] at this ⊢
    exact this
theorem stay_tr {R : Nat} {l l' : List Rw} {V V' : World} {Q : World → Prop} (hs : Stay (fun b => b = R ∨ b ∈ bks l) V Q) (ht : Tk (fun b => b ∈ bks l) V V') (hm : ∀ b, b ∈ bks l' → b ∈ bks l ∨ V.heap.size ≤ b) : Stay (fun b => b = R ∨ b ∈ bks l') V' Q :=
  hs.go ht (fun b _ q => .inr q) (fun b hb q => by
    rcases q with q | q
    · exact .inl q
    · rcases hm b q with q | q
      · exact .inr q
      · omega)
def cell3 (x : Value × Value × Value) : List Value := [x.1, x.2.1, x.2.2]
/-- A component that is begun: its Name, its lines and components so far. -/
structure Fm where
  nm : ByteArray
  vl : Value
  ms : List Lm
  vc : Value
  ts : List Cp
  xs : List (Value × Value × Value)
def Fm.cp (f : Fm) : Cp := ⟨nums f.nm, f.ms.map Lm.ln, f.ts⟩
def Fm.rl (f : Fm) : Rw := ⟨f.vl, 39, f.ms.length, f.ms.flatMap cellM⟩
def Fm.rc (f : Fm) : Rw := ⟨f.vc, 25, f.ts.length, f.xs.flatMap cell3⟩
def cellC (f : Fm) : List Value := [.string f.nm, f.vl, f.vc]
def rows (vo : Value) (fr : List Fm) : List Rw := ⟨vo, 25, fr.length, fr.reverse.flatMap cellC⟩ :: fr.flatMap fun f => [f.rl, f.rc]
/-- What holds of one of them. -/
def FmOk (R j : Nat) (l : List Rw) (V : World) (f : Fm) : Prop :=
  f.xs.length = f.ts.length ∧ f.nm.size ≤ 100000 ∧ f.ms.length ≤ j ∧ f.ts.length ≤ j ∧ (∀ m ∈ f.ms, FitN m.ln ∧ m.fs.length ≤ 9223372036854775807 ∧ Stay (fun b => b = R ∨ b ∈ bks l) V (fun W => FRow W m.a m.fs)) ∧
    ∀ (i : Nat) (t : Cp) (x : Value × Value × Value), f.ts[i]? = some t → f.xs[i]? = some x → (∀ k, FitC k t) ∧ Stay (fun b => b = R ∨ b ∈ bks l) V (fun W => CpAt j W t x.1 x.2.1 x.2.2)
theorem FmOk.tr {R j : Nat} {l l' : List Rw} {V V' : World} {f : Fm} (h : FmOk R j l V f) (ht : Tk (fun b => b ∈ bks l) V V') (hm : ∀ b, b ∈ bks l' → b ∈ bks l ∨ V.heap.size ≤ b) : FmOk R (j + 1) l' V' f := by
  obtain ⟨h1, h2, h3, h4, h5, h6⟩ := h
  refine ⟨h1, h2, by omega, by omega, fun m hx => ⟨(h5 m hx).1, (h5 m hx).2.1, stay_tr (h5 m hx).2.2 ht hm⟩, fun i t x ht' hx => ⟨(h6 i t x ht' hx).1, ?_⟩⟩
  have := stay_tr (h6 i t x ht' hx).2 ht hm
  exact fun W hW => CpAt.up j (j + 1) _ _ _ _ (by omega) (this W hW)
def SJ (R N j : Nat) (vo : Value) (fr : List Fm) (V : World) : Prop := Fo N V (rows vo fr) ∧ fr.length ≤ j ∧ ∀ f ∈ fr, FmOk R j (rows vo fr) V f
theorem SJ.keep {R N j : Nat} {vo : Value} {fr : List Fm} {V V' : World} (h : SJ R N j vo fr V) (hb : Below V.heap.size V V') : SJ R N j vo fr V' := by
  refine ⟨h.1.keep hb, h.2.1, fun f hf => ?_⟩
  obtain ⟨h1, h2, h3, h4, h5, h6⟩ := h.2.2 f hf
  exact ⟨h1, h2, h3, h4, fun m hm => ⟨(h5 m hm).1, (h5 m hm).2.1, stay_tr (h5 m hm).2.2 (.of_below hb) (fun b q => .inl q)⟩, fun i t x ht hx => ⟨(h6 i t x ht hx).1, stay_tr (h6 i t x ht hx).2 (.of_below hb) (fun b q => .inl q)⟩⟩
/-- One is begun. -/
theorem SJ.begin {R N j g : Nat} {vo vo' : Value} {fr : List Fm} {V V' : World} {s : ByteArray} (h : SJ R N j vo fr V) (hs : s.size ≤ 100000) (hg : V.grownBy V' vo.ownBlock) (ho : V'.ownsRow N 25 3 vo' (fr.length + 1) (fr.reverse.flatMap cellC ++ [.string s, .slice none 0 0, .slice none 0 0])) (hv : vo'.ownBlock = some g) (hfr : vo.ownBlock = some g ∨ V.heap.size ≤ g) :
    SJ R N (j + 1) vo' (⟨s, .slice none 0 0, [], .slice none 0 0, [], []⟩ :: fr) V' ∧ Tk (fun b => b ∈ bks (rows vo fr)) V V' := by
  obtain ⟨h1, h2, h3⟩ := h
  have hup : Fo N V' (⟨vo', 25, fr.length + 1, fr.reverse.flatMap cellC ++ [.string s, .slice none 0 0, .slice none 0 0]⟩ :: fr.flatMap fun f => [f.rl, f.rc]) := h1.up hg ho hv hfr
  have ht : Tk (fun b => b ∈ bks (rows vo fr)) V V' := Tk.grown hg (fun b hb => by unfold rows; rw [bks_cons hb]; exact List.mem_cons_self ..)
  have hF : Fo N V' (rows vo' (⟨s, .slice none 0 0, [], .slice none 0 0, [], []⟩ :: fr)) := by
    have h6 : Fo N V' (⟨.slice none 0 0, 39, 0, []⟩ :: ⟨.slice none 0 0, 25, 0, []⟩ :: ⟨vo', 25, fr.length + 1, fr.reverse.flatMap cellC ++ [.string s, .slice none 0 0, .slice none 0 0]⟩ :: fr.flatMap fun f => [f.rl, f.rc]) := (hup.nil 25).nil 39
    have h7 := h6.perm (l' := ⟨vo', 25, fr.length + 1, fr.reverse.flatMap cellC ++ [.string s, .slice none 0 0, .slice none 0 0]⟩ :: ⟨.slice none 0 0, 39, 0, []⟩ :: ⟨.slice none 0 0, 25, 0, []⟩ :: fr.flatMap fun f => [f.rl, f.rc]) (((List.Perm.swap _ _ _).cons _).trans (List.Perm.swap _ _ _))
    unfold rows
    simp only [List.length_cons, List.reverse_cons, List.flatMap_append, List.flatMap_cons, List.flatMap_nil, List.append_nil, cellC]
    exact h7
  have hm : ∀ b, b ∈ bks (rows vo' (⟨s, .slice none 0 0, [], .slice none 0 0, [], []⟩ :: fr)) → b ∈ bks (rows vo fr) ∨ V.heap.size ≤ b := by
    intro b hb
    unfold rows at hb ⊢
    rw [bks_cons hv] at hb
    rcases List.mem_cons.1 hb with rfl | hb
    · rcases hfr with e | e
      · left; rw [bks_cons e]; exact List.mem_cons_self ..
      · exact .inr e
    · left
      have hb2 : b ∈ bks (fr.flatMap fun f => [f.rl, f.rc]) := by
        rw [List.flatMap_cons] at hb
        exact hb
      obtain ⟨r, hr, hrb⟩ := List.mem_filterMap.1 hb2
      exact List.mem_filterMap.2 ⟨r, List.mem_cons_of_mem _ hr, hrb⟩
  refine ⟨⟨hF, by simp; omega, fun f hf => ?_⟩, ht⟩
  rcases List.mem_cons.1 hf with rfl | hf
  · exact ⟨rfl, hs, Nat.zero_le _, Nat.zero_le _, fun m hm => by simp at hm, fun i t x ht => by simp at ht⟩
  · exact (h3 f hf).tr ht hm
/-- A line more. -/
theorem set_one {α : Type} (pre : List α) (a b c v : α) (r : List α) : (pre ++ a :: b :: c :: r).set (pre.length + 1) v = pre ++ a :: v :: c :: r := by
  rw [List.set_append_right _ _ (by omega), Nat.add_sub_cancel_left]; rfl
theorem set_two {α : Type} (pre : List α) (a b c v : α) (r : List α) : (pre ++ a :: b :: c :: r).set (pre.length + 2) v = pre ++ a :: b :: v :: r := by
  rw [List.set_append_right _ _ (by omega), Nat.add_sub_cancel_left]; rfl
theorem flatC_len : ∀ l : List Fm, (l.flatMap cellC).length = l.length * 3
  | [] => rfl
  | m :: l => by rw [List.flatMap_cons, List.length_append, flatC_len l, List.length_cons]; simp [cellC]; omega
theorem flat3_len : ∀ l : List (Value × Value × Value), (l.flatMap cell3).length = l.length * 3
  | [] => rfl
  | m :: l => by rw [List.flatMap_cons, List.length_append, flat3_len l, List.length_cons]; simp [cell3]; omega
theorem bks_perm {l l' : List Rw} (p : l.Perm l') (b : Nat) : b ∈ bks l ↔ b ∈ bks l' := (p.filterMap _).mem_iff
theorem bks_sub {l l' : List Rw} (h : ∀ r ∈ l, r ∈ l') (b : Nat) (hb : b ∈ bks l) : b ∈ bks l' := by
  obtain ⟨r, hr, hv⟩ := List.mem_filterMap.1 hb
  exact List.mem_filterMap.2 ⟨r, h r hr, hv⟩
theorem SJ.line {R N j g o oc on : Nat} {v' : Value} {f : Fm} {fr : List Fm} {m : Lm} {V V' : World} (h : SJ R N j (.slice (some ⟨o, 0, none⟩) on oc) (f :: fr) V) (hon : on = fr.length + 1)
    (hfit : FitN m.ln) (hfs : m.fs.length ≤ 9223372036854775807) (hm : Stay (fun b => b = R ∨ b ∈ bks (rows (.slice (some ⟨o, 0, none⟩) on oc) (f :: fr))) V (fun W => FRow W m.a m.fs))
    (hg : V.grownBy V' f.vl.ownBlock) (ho : V'.ownsRow N 39 3 v' (f.ms.length + 1) (f.ms.flatMap cellM ++ cellM m)) (hv : v'.ownBlock = some g) (hfr : f.vl.ownBlock = some g ∨ V.heap.size ≤ g) :
    SJ R N (j + 1) (.slice (some ⟨o, 0, none⟩) on oc) (⟨f.nm, v', f.ms ++ [m], f.vc, f.ts, f.xs⟩ :: fr) (V'.setCell ⟨o, fr.length * 3 + 1, none⟩ v') ∧ Tk (fun b => b ∈ bks (rows (.slice (some ⟨o, 0, none⟩) on oc) (f :: fr))) V (V'.setCell ⟨o, fr.length * 3 + 1, none⟩ v') := by
  subst hon
  obtain ⟨h1, h2, h3⟩ := h
  have e0 : rows (.slice (some ⟨o, 0, none⟩) (fr.length + 1) oc) (f :: fr) = ⟨.slice (some ⟨o, 0, none⟩) (fr.length + 1) oc, 25, fr.length + 1, fr.reverse.flatMap cellC ++ cellC f⟩ :: f.rl :: f.rc :: fr.flatMap fun f => [f.rl, f.rc] := by
    unfold rows; simp
  have ho1 : o ∈ bks (rows (.slice (some ⟨o, 0, none⟩) (fr.length + 1) oc) (f :: fr)) := by rw [e0, bks_cons (g := o) rfl]; exact List.mem_cons_self ..
  have hT1 : Tk (fun b => b ∈ bks (rows (.slice (some ⟨o, 0, none⟩) (fr.length + 1) oc) (f :: fr))) V V' := Tk.grown hg (fun b hb => by
    rw [e0]; exact List.mem_filterMap.2 ⟨f.rl, by simp, hb⟩)
  have hT : Tk (fun b => b ∈ bks (rows (.slice (some ⟨o, 0, none⟩) (fr.length + 1) oc) (f :: fr))) V (V'.setCell ⟨o, fr.length * 3 + 1, none⟩ v') := hT1.trans (Tk.set (O := fun b => b ∈ bks (rows (.slice (some ⟨o, 0, none⟩) (fr.length + 1) oc) (f :: fr))) _ o _ _ ho1)
  have hF0 := h1
  rw [e0] at hF0
  have hF1 := (hF0.perm (List.Perm.swap _ _ _)).up (r' := ⟨v', 39, (f.ms ++ [m]).length, (f.ms ++ [m]).flatMap cellM⟩) hg (by simpa using ho) hv hfr
  have hF2 := (hF1.perm (List.Perm.swap _ _ _)).set (fr.length * 3 + 1) v'
  have e1 : (fr.reverse.flatMap cellC ++ cellC f).set (fr.length * 3 + 1) v' = fr.reverse.flatMap cellC ++ [.string f.nm, v', f.vc] := by
    have hl : fr.length * 3 = (fr.reverse.flatMap cellC).length := by rw [flatC_len, List.length_reverse]
    rw [hl]; exact set_one _ _ _ _ _ []
  rw [e1] at hF2
  have e2 : rows (.slice (some ⟨o, 0, none⟩) (fr.length + 1) oc) (⟨f.nm, v', f.ms ++ [m], f.vc, f.ts, f.xs⟩ :: fr) = ⟨.slice (some ⟨o, 0, none⟩) (fr.length + 1) oc, 25, fr.length + 1, fr.reverse.flatMap cellC ++ [.string f.nm, v', f.vc]⟩ :: ⟨v', 39, (f.ms ++ [m]).length, (f.ms ++ [m]).flatMap cellM⟩ :: f.rc :: fr.flatMap fun f => [f.rl, f.rc] := by
    unfold rows; simp [cellC, Fm.rl, Fm.rc]
  have hmm : ∀ b, b ∈ bks (rows (.slice (some ⟨o, 0, none⟩) (fr.length + 1) oc) (⟨f.nm, v', f.ms ++ [m], f.vc, f.ts, f.xs⟩ :: fr)) → b ∈ bks (rows (.slice (some ⟨o, 0, none⟩) (fr.length + 1) oc) (f :: fr)) ∨ V.heap.size ≤ b := by
    intro b hb
    rw [e2, bks_cons (g := o) rfl, bks_cons (g := g) hv] at hb
    rcases List.mem_cons.1 hb with rfl | hb
    · exact .inl ho1
    rcases List.mem_cons.1 hb with rfl | hb
    · rcases hfr with q | q
      · left; rw [e0]; exact List.mem_filterMap.2 ⟨f.rl, by simp, q⟩
      · exact .inr q
    · left; rw [e0]; exact bks_sub (fun r hr => by simp only [List.mem_cons] at hr ⊢; rcases hr with hr | hr <;> simp [hr]) b hb
  refine ⟨⟨by rw [e2]; exact hF2, by simp at h2 ⊢; omega, fun x hx => ?_⟩, hT⟩
  rcases List.mem_cons.1 hx with rfl | hx
  · obtain ⟨k1, k2, k3, k4, k5, k6⟩ := (h3 f (List.mem_cons_self ..)).tr hT hmm
    refine ⟨k1, k2, ?_, k4, fun y hy => ?_, k6⟩
    · have := (h3 f (List.mem_cons_self ..)).2.2.1; simp; omega
    · rcases List.mem_append.1 hy with hy | hy
      · exact k5 y hy
      · simp at hy; subst hy; exact ⟨hfit, hfs, stay_tr hm hT hmm⟩
  · exact (h3 x (List.mem_cons_of_mem _ hx)).tr hT hmm
/-- A row of components of one's own. -/
theorem flat3 (xs : List (Value × Value × Value)) (i : Nat) (x : Value × Value × Value) (h : xs[i]? = some x) (j : Nat) (hj : j < 3) : (xs.flatMap cell3)[i * 3 + j]? = (cell3 x)[j]? := by
  induction xs generalizing i with
  | nil => simp at h
  | cons y r ih =>
    cases i with
    | zero =>
      simp at h; subst h
      rw [List.flatMap_cons, List.getElem?_append_left (by simp [cell3]; omega)]; simp
    | succ i =>
      rw [List.flatMap_cons, List.getElem?_append_right (by simp [cell3]; omega)]
      have e : (i + 1) * 3 + j - (cell3 y).length = i * 3 + j := by simp [cell3]; omega
      rw [e]; exact ih i (by simpa using h)
theorem own_trow {W : World} {B : Nat} {v : Value} {ts : List Cp} {xs : List (Value × Value × Value)} {P : Cp → Value → Value → Value → Prop} (h : W.ownsRow B 25 3 v ts.length (xs.flatMap cell3)) (hl : ts.length ≤ maxLen) (hx : xs.length = ts.length) (hP : ∀ (i : Nat) (t : Cp) (x : Value × Value × Value), ts[i]? = some t → xs[i]? = some x → P t x.1 x.2.1 x.2.2) : TRow W v ts P := by
  have h0 := h
  rcases h.2 with ⟨rfl, hn⟩ | ⟨g, cap, cur, rfl, hb, hg, hn, hm, hs, ht⟩
  · exact ⟨hl, none, 0, by rw [hn], .inl (List.eq_nil_of_length_eq_zero hn)⟩
  · refine ⟨hl, some ⟨g, 0, none⟩, cap, rfl, .inr ⟨g, 0, rfl, fun i t ht => ?_⟩⟩
    have hi := (List.getElem?_eq_some_iff.1 ht).1
    obtain ⟨x, hxi⟩ : ∃ x, xs[i]? = some x := ⟨xs[i]'(by omega), List.getElem?_eq_getElem (by omega)⟩
    have c0 := h0.cells (g := g) rfl (i * 3 + 0) x.1 (by rw [flat3 xs i x hxi 0 (by omega)]; rfl)
    have c1 := h0.cells (g := g) rfl (i * 3 + 1) x.2.1 (by rw [flat3 xs i x hxi 1 (by omega)]; rfl)
    have c2 := h0.cells (g := g) rfl (i * 3 + 2) x.2.2 (by rw [flat3 xs i x hxi 2 (by omega)]; rfl)
    rw [add_plain] at c0 c1 c2
    exact ⟨x.1, x.2.1, x.2.2, by simpa using c0, by simpa [Nat.add_assoc] using c1, by simpa [Nat.add_assoc] using c2, hP i t x ht hxi⟩
theorem own_lsat {W : World} {B : Nat} {v : Value} {ms : List Lm} (h : W.ownsRow B 39 3 v ms.length (ms.flatMap cellM)) (hl : ms.length ≤ 9223372036854775807) (hf : ∀ m ∈ ms, m.fs.length ≤ 9223372036854775807 ∧ FRow W m.a m.fs) : LsAt W v (ms.map Lm.ln) := by
  obtain ⟨a, cap, rfl, hr⟩ := ownM_view h (fun m hm => (hf m hm).2)
  refine ⟨a, cap, ms, rfl, hr, rfl, hl, fun e => ?_, fun m hm => (hf m hm).1⟩
  subst e
  rcases h.2 with ⟨h1, _⟩ | ⟨g, cap', cur, h1, _⟩
  · injection h1
  · cases h1
theorem own_out {N R : Nat} {V W : World} {r : Rw} {l : List Rw} (h : V.ownsRow N r.e 3 r.v r.n r.cs) (hR : R < N) (hl : ∀ b, r.v.ownBlock = some b → b ∉ bks l) (hW : Tk (fun b => b = R ∨ b ∈ bks l) V W) : W.ownsRow N r.e 3 r.v r.n r.cs := by
  refine ⟨h.1, ?_⟩
  rcases h.2 with h | ⟨g, cap, cur, h1, h2, h3, h4⟩
  · exact .inl h
  · refine .inr ⟨g, cap, cur, h1, h2, hW.kept h3 (fun q => ?_), h4⟩
    rcases q with q | q
    · omega
    · exact hl g (by rw [h1]; rfl) q
/-- What is begun, as it lies, when it is ended. -/
theorem fm_tree {N R j : Nat} {V : World} {f : Fm} {l l' : List Rw} (hj : j ≤ 9223372036854775806) (hR : R < N) (hok : FmOk R j l V f) (h1 : V.ownsRow N 39 3 f.vl f.ms.length (f.ms.flatMap cellM)) (h2 : V.ownsRow N 25 3 f.vc f.ts.length (f.xs.flatMap cell3))
    (n1 : ∀ b, f.vl.ownBlock = some b → b ∉ bks l') (n2 : ∀ b, f.vc.ownBlock = some b → b ∉ bks l') (hs : ∀ b, b ∈ bks l' → b ∈ bks l ∨ V.heap.size ≤ b) : Stay (fun b => b = R ∨ b ∈ bks l') V (fun W => CpAt (j + 1) W f.cp (.string f.nm) f.vl f.vc) := by
  intro W hW
  obtain ⟨k1, k2, k3, k4, k5, k6⟩ := hok
  have hW2 : Tk (fun b => b = R ∨ b ∈ bks l) V W := (Tk.refl (fun _ => False) V).two hW (fun _ _ q => q.elim) (fun b hb q => by
    rcases q with q | q
    · exact .inl q
    · rcases hs b q with q | q
      · exact .inr q
      · omega)
  have o1 : W.ownsRow N 39 3 f.vl f.ms.length (f.ms.flatMap cellM) := own_out (r := f.rl) h1 hR n1 hW
  have o2 : W.ownsRow N 25 3 f.vc f.ts.length (f.xs.flatMap cell3) := own_out (r := f.rc) h2 hR n2 hW
  refine ⟨⟨f.nm, rfl, rfl⟩, own_lsat o1 (by omega) (fun m hm => ⟨(k5 m hm).2.1, (k5 m hm).2.2 W hW2⟩), own_trow o2 (by show f.ts.length ≤ maxLen; unfold maxLen; omega) k1 (fun i t x ht hx => (k6 i t x ht hx).2 W hW2)⟩
theorem fm_fit {R j : Nat} {V : World} {f : Fm} {l : List Rw} (hok : FmOk R j l V f) : ∀ k, FitC k f.cp := by
  obtain ⟨k1, k2, k3, k4, k5, k6⟩ := hok
  intro k
  cases k with
  | zero => trivial
  | succ k =>
    refine ⟨by show (nums f.nm).length ≤ _; rw [nums_len]; exact k2, fun l hl => ?_, fun q hq => ?_⟩
    · obtain ⟨m, hm, rfl⟩ := List.mem_map.1 hl
      exact (k5 m hm).1
    · obtain ⟨i, hi⟩ := List.getElem?_of_mem hq
      have hil := (List.getElem?_eq_some_iff.1 hi).1
      have : i < f.xs.length := by rw [k1]; exact hil
      exact (k6 i q _ hi (List.getElem?_eq_getElem this)).1 k
/-- One is ended, within another one. -/
theorem SJ.close {R N j gb o oc on : Nat} {v' : Value} {f g : Fm} {fr : List Fm} {V W : World} (h : SJ R N j (.slice (some ⟨o, 0, none⟩) on oc) (f :: g :: fr) V) (hj : j ≤ 9223372036854775806) (hR : R < N)
    (hF : Fo N W (⟨.slice (some ⟨o, 0, none⟩) (fr.length + 1) oc, 25, fr.length + 1, fr.reverse.flatMap cellC ++ [.string g.nm, g.vl, v']⟩ :: g.rl :: ⟨v', 25, (g.ts ++ [f.cp]).length, (g.xs ++ [(Value.string f.nm, f.vl, f.vc)]).flatMap cell3⟩ :: f.rl :: f.rc :: fr.flatMap fun f => [f.rl, f.rc]))
    (hT : Tk (fun b => b ∈ bks (rows (.slice (some ⟨o, 0, none⟩) on oc) (f :: g :: fr))) V W) (hv : v'.ownBlock = some gb) (hfr : g.vc.ownBlock = some gb ∨ V.heap.size ≤ gb) :
    SJ R N (j + 1) (.slice (some ⟨o, 0, none⟩) (fr.length + 1) oc) (⟨g.nm, g.vl, g.ms, v', g.ts ++ [f.cp], g.xs ++ [(Value.string f.nm, f.vl, f.vc)]⟩ :: fr) W := by
  obtain ⟨h1, h2, h3⟩ := h
  have e0 : rows (.slice (some ⟨o, 0, none⟩) on oc) (f :: g :: fr) = ⟨.slice (some ⟨o, 0, none⟩) on oc, 25, fr.length + 1 + 1, (fr.reverse.flatMap cellC ++ cellC g) ++ cellC f⟩ :: f.rl :: f.rc :: g.rl :: g.rc :: fr.flatMap fun f => [f.rl, f.rc] := by
    unfold rows; simp
  have e2 : rows (.slice (some ⟨o, 0, none⟩) (fr.length + 1) oc) (⟨g.nm, g.vl, g.ms, v', g.ts ++ [f.cp], g.xs ++ [(Value.string f.nm, f.vl, f.vc)]⟩ :: fr) = ⟨.slice (some ⟨o, 0, none⟩) (fr.length + 1) oc, 25, fr.length + 1, fr.reverse.flatMap cellC ++ [.string g.nm, g.vl, v']⟩ :: g.rl :: ⟨v', 25, (g.ts ++ [f.cp]).length, (g.xs ++ [(Value.string f.nm, f.vl, f.vc)]).flatMap cell3⟩ :: fr.flatMap fun f => [f.rl, f.rc] := by
    unfold rows; simp [cellC, Fm.rl, Fm.rc]
  have hmm : ∀ b, b ∈ bks (rows (.slice (some ⟨o, 0, none⟩) (fr.length + 1) oc) (⟨g.nm, g.vl, g.ms, v', g.ts ++ [f.cp], g.xs ++ [(Value.string f.nm, f.vl, f.vc)]⟩ :: fr)) → b ∈ bks (rows (.slice (some ⟨o, 0, none⟩) on oc) (f :: g :: fr)) ∨ V.heap.size ≤ b := by
    intro b hb
    rw [e2] at hb
    obtain ⟨r, hr, hrb⟩ := List.mem_filterMap.1 hb
    simp only [List.mem_cons] at hr
    rw [e0]
    rcases hr with rfl | rfl | rfl | hr
    · left; exact List.mem_filterMap.2 ⟨_, List.mem_cons_self .., hrb⟩
    · left; exact List.mem_filterMap.2 ⟨g.rl, by simp, hrb⟩
    · have e : gb = b := by rw [show (Rw.v _) = v' from rfl, hv] at hrb; simpa using hrb
      subst e
      rcases hfr with q | q
      · left; exact List.mem_filterMap.2 ⟨g.rc, by simp, q⟩
      · exact .inr q
    · left; exact List.mem_filterMap.2 ⟨r, by simp only [List.mem_cons]; simp [hr], hrb⟩
  have hp1 : Fo N W (f.rl :: f.rc :: rows (.slice (some ⟨o, 0, none⟩) (fr.length + 1) oc) (⟨g.nm, g.vl, g.ms, v', g.ts ++ [f.cp], g.xs ++ [(Value.string f.nm, f.vl, f.vc)]⟩ :: fr)) := by
    rw [e2]
    refine hF.perm ?_
    exact (List.perm_append_comm_assoc [_, _, _] [f.rl, f.rc] _)
  have n1 : ∀ b, f.vl.ownBlock = some b → b ∉ bks (rows (.slice (some ⟨o, 0, none⟩) (fr.length + 1) oc) (⟨g.nm, g.vl, g.ms, v', g.ts ++ [f.cp], g.xs ++ [(Value.string f.nm, f.vl, f.vc)]⟩ :: fr)) := by
    intro b hb hm
    have := hp1.2
    rw [bks_cons (show f.rl.v.ownBlock = some b from hb)] at this
    exact (List.nodup_cons.1 this).1 (bks_sub (fun r hr => List.mem_cons_of_mem _ hr) b hm)
  have n2 : ∀ b, f.vc.ownBlock = some b → b ∉ bks (rows (.slice (some ⟨o, 0, none⟩) (fr.length + 1) oc) (⟨g.nm, g.vl, g.ms, v', g.ts ++ [f.cp], g.xs ++ [(Value.string f.nm, f.vl, f.vc)]⟩ :: fr)) := by
    intro b hb hm
    have := hp1.tail.2
    rw [bks_cons (show f.rc.v.ownBlock = some b from hb)] at this
    exact (List.nodup_cons.1 this).1 hm
  refine ⟨hp1.tail.tail, by simp at h2 ⊢; omega, fun x hx => ?_⟩
  rcases List.mem_cons.1 hx with rfl | hx
  · obtain ⟨k1, k2, k3, k4, k5, k6⟩ := (h3 g (by simp)).tr hT hmm
    have hokf := (h3 f (by simp)).tr hT hmm
    refine ⟨by simp; exact k1, k2, k3, ?_, k5, fun i t x ht hx => ?_⟩
    · have := (h3 g (by simp)).2.2.2.1; simp; omega
    · by_cases hi : i < g.ts.length
      · rw [List.getElem?_append_left hi] at ht
        rw [List.getElem?_append_left (by rw [k1]; exact hi)] at hx
        exact k6 i t x ht hx
      · have hi2 : i = g.ts.length := by have := (List.getElem?_eq_some_iff.1 ht).1; rw [List.length_append] at this; simp at this; omega
        subst hi2
        have e1 : t = f.cp := by simpa using ht.symm
        have e2 : x = (Value.string f.nm, f.vl, f.vc) := by rw [← k1] at hx; simpa using hx.symm
        subst e1; subst e2
        refine ⟨fm_fit (h3 f (by simp)), ?_⟩
        have hr1 := hp1.1 f.rl (by simp)
        have hr2 := hp1.1 f.rc (by simp)
        have hokf0 := h3 f (by simp)
        have hok2 : FmOk R j (rows (.slice (some ⟨o, 0, none⟩) (fr.length + 1) oc) (⟨g.nm, g.vl, g.ms, v', g.ts ++ [f.cp], g.xs ++ [(Value.string f.nm, f.vl, f.vc)]⟩ :: fr)) W f := by
          obtain ⟨m1, m2, m3, m4, m5, m6⟩ := hokf0
          exact ⟨m1, m2, m3, m4, fun m hm => ⟨(m5 m hm).1, (m5 m hm).2.1, stay_tr (m5 m hm).2.2 hT hmm⟩, fun i t x ht hx => ⟨(m6 i t x ht hx).1, stay_tr (m6 i t x ht hx).2 hT hmm⟩⟩
        exact fm_tree hj hR hok2 hr1 hr2 n1 n2 (fun b q => .inl q)
  · exact (h3 x (by simp [hx])).tr hT hmm
end Go.Proofs.YtenclgnkogmgiaaDoor
namespace Go.Proofs.YtenclgnkogmgiaaDoor
open Go.RowKit Go.Shelf
set_option linter.unusedVariables false
set_option linter.unusedSimpArgs false

theorem Fo.cut {N : Nat} {V : World} {e : TypeId} {n g cap : Nat} {cs last : List Value} {l : List Rw} (h : Fo N V (⟨.slice (some ⟨g, 0, none⟩) (n + 1) cap, e, n + 1, cs ++ last⟩ :: l)) (hl : last.length = 3) : Fo N V (⟨.slice (some ⟨g, 0, none⟩) n cap, e, n, cs⟩ :: l) := by
  refine ⟨fun x hx => ?_, ?_⟩
  · rcases List.mem_cons.1 hx with rfl | hx
    · have ho := h.1 _ (List.mem_cons_self ..)
      have hlen : cs.length = n * 3 := by have := ho.1; simp only [List.length_append] at this; omega
      refine ⟨hlen, .inr ?_⟩
      rcases ho.2 with ⟨q, _⟩ | ⟨g', cap', cur, q1, q2, q3, q4, q5, q6, q7⟩
      · cases q
      · cases q1
        refine ⟨g, cap, cur, rfl, q2, q3, by simp only at q4 ⊢; omega, q5, q6, ?_⟩
        have e1 : cur.toList.take (n * 3) = (cur.toList.take ((n + 1) * 3)).take (n * 3) := by rw [List.take_take]; congr 1; omega
        rw [e1, q7, ← hlen, List.take_left']
        rfl
    · exact h.1 x (List.mem_cons_of_mem _ hx)
  · have := h.2
    rw [bks_cons (g := g) rfl] at this ⊢
    exact this
theorem mid_perm {a b c d e : Rw} {l : List Rw} : (a :: b :: c :: d :: e :: l).Perm (e :: a :: b :: c :: d :: l) := List.perm_middle (l₁ := [a, b, c, d]) (a := e) (l₂ := l)
theorem SJ.closeA {R N j gb o oc on vn vc : Nat} {f g : Fm} {fr : List Fm} {V V' : World} (h : SJ R N j (.slice (some ⟨o, 0, none⟩) on oc) (f :: g :: fr) V) (hj : j ≤ 9223372036854775806) (hR : R < N) (hon : on = fr.length + 1 + 1)
    (hg : V.grownBy V' g.vc.ownBlock) (ho : V'.ownsRow N 25 3 (.slice (some ⟨gb, 0, none⟩) vn vc) (g.ts.length + 1) (g.xs.flatMap cell3 ++ [.string f.nm, f.vl, f.vc])) (hfr : g.vc.ownBlock = some gb ∨ V.heap.size ≤ gb) :
    SJ R N (j + 1) (.slice (some ⟨o, 0, none⟩) (fr.length + 1) oc) (⟨g.nm, g.vl, g.ms, .slice (some ⟨gb, 0, none⟩) vn vc, g.ts ++ [f.cp], g.xs ++ [(Value.string f.nm, f.vl, f.vc)]⟩ :: fr) (V'.setCell ⟨o, fr.length * 3 + 2, none⟩ (.slice (some ⟨gb, 0, none⟩) vn vc)) ∧ Tk (fun b => b ∈ bks (rows (.slice (some ⟨o, 0, none⟩) on oc) (f :: g :: fr))) V (V'.setCell ⟨o, fr.length * 3 + 2, none⟩ (.slice (some ⟨gb, 0, none⟩) vn vc)) := by
  subst hon
  have e0 : rows (.slice (some ⟨o, 0, none⟩) (fr.length + 1 + 1) oc) (f :: g :: fr) = ⟨.slice (some ⟨o, 0, none⟩) (fr.length + 1 + 1) oc, 25, fr.length + 1 + 1, (fr.reverse.flatMap cellC ++ cellC g) ++ cellC f⟩ :: f.rl :: f.rc :: g.rl :: g.rc :: fr.flatMap fun f => [f.rl, f.rc] := by
    unfold rows; simp
  have ho1 : o ∈ bks (rows (.slice (some ⟨o, 0, none⟩) (fr.length + 1 + 1) oc) (f :: g :: fr)) := by rw [e0, bks_cons (g := o) rfl]; exact List.mem_cons_self ..
  have hT1 : Tk (fun b => b ∈ bks (rows (.slice (some ⟨o, 0, none⟩) (fr.length + 1 + 1) oc) (f :: g :: fr))) V V' := Tk.grown hg (fun b hb => by
    rw [e0]; exact List.mem_filterMap.2 ⟨g.rc, by simp, hb⟩)
  have hT : Tk (fun b => b ∈ bks (rows (.slice (some ⟨o, 0, none⟩) (fr.length + 1 + 1) oc) (f :: g :: fr))) V (V'.setCell ⟨o, fr.length * 3 + 2, none⟩ (.slice (some ⟨gb, 0, none⟩) vn vc)) := hT1.trans (Tk.set (O := fun b => b ∈ bks (rows (.slice (some ⟨o, 0, none⟩) (fr.length + 1 + 1) oc) (f :: g :: fr))) _ o _ _ ho1)
  refine ⟨?_, hT⟩
  have hF0 := h.1
  rw [e0] at hF0
  have hF1 := (hF0.perm mid_perm).up (r' := ⟨.slice (some ⟨gb, 0, none⟩) vn vc, 25, (g.ts ++ [f.cp]).length, (g.xs ++ [(Value.string f.nm, f.vl, f.vc)]).flatMap cell3⟩) hg (by simpa [cell3] using ho) rfl hfr
  have hF2 := ((hF1.perm (List.Perm.swap _ _ _)).set (fr.length * 3 + 2) (.slice (some ⟨gb, 0, none⟩) vn vc))
  have e1 : ((fr.reverse.flatMap cellC ++ cellC g) ++ cellC f).set (fr.length * 3 + 2) (.slice (some ⟨gb, 0, none⟩) vn vc) = (fr.reverse.flatMap cellC ++ [.string g.nm, g.vl, .slice (some ⟨gb, 0, none⟩) vn vc]) ++ cellC f := by
    have hl : fr.length * 3 = (fr.reverse.flatMap cellC).length := by rw [flatC_len, List.length_reverse]
    rw [hl, List.append_assoc]
    show (fr.reverse.flatMap cellC ++ .string g.nm :: g.vl :: g.vc :: cellC f).set _ _ = _
    rw [set_two]; simp
  rw [e1] at hF2
  have hF3 := hF2.cut rfl
  refine SJ.close h hj hR (hF3.perm ?_) hT rfl hfr
  refine List.Perm.cons _ ?_
  exact (List.perm_append_comm_assoc [_] [f.rl, f.rc, g.rl] _).trans ((List.perm_append_comm_assoc [f.rl, f.rc] [g.rl, _] _))
theorem SJ.closeB {R N j gb o oc on vn vc : Nat} {f g : Fm} {fr : List Fm} {V V' : World} (h : SJ R N j (.slice (some ⟨o, 0, none⟩) on oc) (f :: g :: fr) V) (hj : j ≤ 9223372036854775806) (hR : R < N) (hon : on = fr.length + 1 + 1)
    (hg : V.grownBy V' g.vc.ownBlock) (hvn : vn = g.ts.length + 1) (ho : V'.ownsRow N 25 3 (.slice (some ⟨gb, 0, none⟩) vn vc) (g.ts.length + 1) (g.xs.flatMap cell3 ++ [.string ⟨#[]⟩, .slice none 0 0, .slice none 0 0])) (hfr : g.vc.ownBlock = some gb ∨ V.heap.size ≤ gb) :
    SJ R N (j + 1) (.slice (some ⟨o, 0, none⟩) (fr.length + 1) oc) (⟨g.nm, g.vl, g.ms, .slice (some ⟨gb, 0, none⟩) vn vc, g.ts ++ [f.cp], g.xs ++ [(Value.string f.nm, f.vl, f.vc)]⟩ :: fr) ((((V'.setCell ⟨o, fr.length * 3 + 2, none⟩ (.slice (some ⟨gb, 0, none⟩) vn vc)).setCell ⟨gb, g.ts.length * 3, none⟩ (.string f.nm)).setCell ⟨gb, g.ts.length * 3 + 1, none⟩ f.vl).setCell ⟨gb, g.ts.length * 3 + 2, none⟩ f.vc) ∧ (∃ r0 : Rw, ∃ l0, Fo N (V'.setCell ⟨o, fr.length * 3 + 2, none⟩ (.slice (some ⟨gb, 0, none⟩) vn vc)) (⟨.slice (some ⟨gb, 0, none⟩) vn vc, 25, g.ts.length + 1, g.xs.flatMap cell3 ++ [.string ⟨#[]⟩, .slice none 0 0, .slice none 0 0]⟩ :: l0)) ∧ Tk (fun b => b ∈ bks (rows (.slice (some ⟨o, 0, none⟩) on oc) (f :: g :: fr)) ∨ V.heap.size ≤ b) V ((((V'.setCell ⟨o, fr.length * 3 + 2, none⟩ (.slice (some ⟨gb, 0, none⟩) vn vc)).setCell ⟨gb, g.ts.length * 3, none⟩ (.string f.nm)).setCell ⟨gb, g.ts.length * 3 + 1, none⟩ f.vl).setCell ⟨gb, g.ts.length * 3 + 2, none⟩ f.vc) := by
  subst hon
  subst hvn
  have e0 : rows (.slice (some ⟨o, 0, none⟩) (fr.length + 1 + 1) oc) (f :: g :: fr) = ⟨.slice (some ⟨o, 0, none⟩) (fr.length + 1 + 1) oc, 25, fr.length + 1 + 1, (fr.reverse.flatMap cellC ++ cellC g) ++ cellC f⟩ :: f.rl :: f.rc :: g.rl :: g.rc :: fr.flatMap fun f => [f.rl, f.rc] := by
    unfold rows; simp
  obtain ⟨O, hO⟩ : ∃ O : Nat → Prop, O = fun b => b ∈ bks (rows (.slice (some ⟨o, 0, none⟩) (fr.length + 1 + 1) oc) (f :: g :: fr)) ∨ V.heap.size ≤ b := ⟨_, rfl⟩
  have ho1 : O o := by rw [hO]; left; rw [e0, bks_cons (g := o) rfl]; exact List.mem_cons_self ..
  have ho2 : O gb := by
    rw [hO]
    rcases hfr with q | q
    · left; rw [e0]; exact List.mem_filterMap.2 ⟨g.rc, by simp, q⟩
    · exact .inr q
  have hT1 : Tk O V V' := Tk.grown hg (fun b hb => by
    rw [hO]; left; rw [e0]; exact List.mem_filterMap.2 ⟨g.rc, by simp, hb⟩)
  have hT : Tk O V ((((V'.setCell ⟨o, fr.length * 3 + 2, none⟩ (.slice (some ⟨gb, 0, none⟩) (g.ts.length + 1) vc)).setCell ⟨gb, g.ts.length * 3, none⟩ (.string f.nm)).setCell ⟨gb, g.ts.length * 3 + 1, none⟩ f.vl).setCell ⟨gb, g.ts.length * 3 + 2, none⟩ f.vc) :=
    (((hT1.trans (Tk.set (O := O) _ o _ _ ho1)).trans (Tk.set (O := O) _ gb _ _ ho2)).trans (Tk.set (O := O) _ gb _ _ ho2)).trans (Tk.set (O := O) _ gb _ _ ho2)
  have hT2 : Tk (fun b => b ∈ bks (rows (.slice (some ⟨o, 0, none⟩) (fr.length + 1 + 1) oc) (f :: g :: fr))) V ((((V'.setCell ⟨o, fr.length * 3 + 2, none⟩ (.slice (some ⟨gb, 0, none⟩) (g.ts.length + 1) vc)).setCell ⟨gb, g.ts.length * 3, none⟩ (.string f.nm)).setCell ⟨gb, g.ts.length * 3 + 1, none⟩ f.vl).setCell ⟨gb, g.ts.length * 3 + 2, none⟩ f.vc) :=
    (Tk.refl (fun _ => False) V).two hT (fun _ _ q => q.elim) (fun b hb q => by
      rw [hO] at q
      rcases q with q | q
      · exact q
      · omega)
  have hF0 := h.1
  rw [e0] at hF0
  have hF1 := (hF0.perm mid_perm).up (r' := ⟨.slice (some ⟨gb, 0, none⟩) (g.ts.length + 1) vc, 25, g.ts.length + 1, g.xs.flatMap cell3 ++ [.string ⟨#[]⟩, .slice none 0 0, .slice none 0 0]⟩) hg ho rfl hfr
  have hF2 := ((hF1.perm (List.Perm.swap _ _ _)).set (fr.length * 3 + 2) (.slice (some ⟨gb, 0, none⟩) (g.ts.length + 1) vc))
  have e1 : ((fr.reverse.flatMap cellC ++ cellC g) ++ cellC f).set (fr.length * 3 + 2) (.slice (some ⟨gb, 0, none⟩) (g.ts.length + 1) vc) = (fr.reverse.flatMap cellC ++ [.string g.nm, g.vl, .slice (some ⟨gb, 0, none⟩) (g.ts.length + 1) vc]) ++ cellC f := by
    have hl : fr.length * 3 = (fr.reverse.flatMap cellC).length := by rw [flatC_len, List.length_reverse]
    rw [hl, List.append_assoc]
    show (fr.reverse.flatMap cellC ++ .string g.nm :: g.vl :: g.vc :: cellC f).set _ _ = _
    rw [set_two]; simp
  rw [e1] at hF2
  have hF3 := (hF2.cut rfl).perm (List.Perm.swap _ _ _)
  have hxl : g.ts.length * 3 = (g.xs.flatMap cell3).length := by rw [flat3_len, (h.2.2 g (by simp)).1]
  have hF4 := ((hF3.set (g.ts.length * 3) (.string f.nm)).set (g.ts.length * 3 + 1) f.vl).set (g.ts.length * 3 + 2) f.vc
  have e2 : (((g.xs.flatMap cell3 ++ [Value.string ⟨#[]⟩, Value.slice none 0 0, Value.slice none 0 0]).set (g.ts.length * 3) (.string f.nm)).set (g.ts.length * 3 + 1) f.vl).set (g.ts.length * 3 + 2) f.vc = (g.xs ++ [(Value.string f.nm, f.vl, f.vc)]).flatMap cell3 := by
    rw [hxl, List.set_append_right _ _ (Nat.le_refl _), Nat.sub_self, List.set_cons_zero, set_one, set_two]
    simp [cell3]
  rw [e2] at hF4
  refine ⟨?_, ⟨⟨.slice none 0 0, 25, 0, []⟩, _, hF3⟩, by rw [← hO]; exact hT⟩
  have e3 : g.ts.length + 1 = (g.ts ++ [f.cp]).length := by simp
  refine SJ.close h hj hR (v' := .slice (some ⟨gb, 0, none⟩) (g.ts.length + 1) vc) ?_ hT2 rfl hfr
  have := (hF4.perm (List.Perm.swap _ _ _)).perm (l' := _) (List.Perm.cons _ ((List.perm_append_comm_assoc [_] [f.rl, f.rc, g.rl] _).trans ((List.perm_append_comm_assoc [f.rl, f.rc] [g.rl, _] _))))
  rw [← e3]
  exact this
theorem tk_below {N : Nat} {w1 V V' : World} {l : List Rw} (hT : Tk (fun b => b ∈ bks l) V V') (hF : Fo N V l) (hb : Below N w1 V) (hN : N ≤ V.heap.size) : Below N w1 V' :=
  ⟨hT.1.trans hb.os, hT.2.1.trans hb.tape, hT.2.2.1.trans hb.output, Nat.le_trans hb.size hT.size, fun b hlt => (hT.2.2.2.2 b (by omega) (fun q => by have := (hF.lt q).1; omega)).trans (hb.block b hlt)⟩
theorem frow_stay {N R : Nat} {w1 V : World} {l : List Rw} {a : Option Addr} {fs : List (ByteArray × ByteArray)} (h : FRow w1 a fs) (hR : Blk w1 R #[.string ⟨#[]⟩, .slice none 0 0, .slice none 0 0] 25) (hN : w1.heap.size = N) (hb : Below N w1 V) (hF : Fo N V l) : Stay (fun b => b = R ∨ b ∈ bks l) V (fun W => FRow W a fs) := by
  intro W hW
  rcases h with h | ⟨b, off, rfl, h⟩
  · exact .inl h
  · by_cases h0 : fs = []
    · exact .inl h0
    · refine .inr ⟨b, off, rfl, fun i f hf => ?_⟩
      obtain ⟨h1, h2⟩ := h i f hf
      have hlt : b < w1.heap.size := World.block_lt_of_cell? w1 _ h1
      have hbR : b ≠ R := by
        rintro rfl
        rw [hR.cell] at h1 h2
        have : off + i * 2 = 0 ∨ off + i * 2 = 1 ∨ off + i * 2 = 2 ∨ 3 ≤ off + i * 2 := by omega
        rcases this with e | e | e | e
        · rw [e] at h2; simp at h2
        · rw [e] at h1; simp at h1
        · rw [e] at h1; simp at h1
        · rw [Array.getElem?_eq_none (by simpa using e)] at h1; cases h1
      have e : W.heap[b]? = w1.heap[b]? := (hW.2.2.2.2 b (by have := hb.size; omega) (fun q => by
        rcases q with q | q
        · exact hbR q
        · have := (hF.lt q).1; omega)).trans (hb.block b (by omega))
      exact ⟨(World.cell?_of_block (w := w1) e).trans h1, (World.cell?_of_block (w := w1) e).trans h2⟩
theorem right_fit {l : Ln} (h : rightZ l = true) : FitN l := by
  unfold rightZ at h
  simp only [Bool.and_eq_true, decide_eq_true_eq] at h
  obtain ⟨⟨⟨h1, h2, _⟩, h3⟩, h4⟩ := h
  have h1l := (name_text h1).2
  refine ⟨by omega, by omega, by omega, fun f hf => ?_⟩
  have : ∀ (ps : List (List Int × List Int)) (seen : List (List Int)), rightL seen ps = true → ∀ f ∈ ps, parZ f = true := by
    intro ps
    induction ps with
    | nil => intro _ _ f hf; simp at hf
    | cons p ps ih =>
      intro seen h f hf
      unfold rightL at h
      simp only [Bool.and_eq_true] at h
      rcases List.mem_cons.1 hf with rfl | hf
      · exact h.1.2
      · exact ih _ h.2 f hf
  have hp := this _ _ h4 f hf
  unfold parZ at hp
  simp only [Bool.and_eq_true, decide_eq_true_eq] at hp
  have := (name_text hp.1.1).2
  have := hp.1.2.1
  omega
/-- Reading lines: the components that are begun, the innermost first. -/
def rdM : List Cp → List Ln → Option Cp
  | _, [] => none
  | st, l :: r =>
    if (frZ l.name && decide (l.pars ≠ [])) = true then none
    else if l.name = bgZ then rdM (⟨l.value.map largeZ, [], []⟩ :: st) r
    else match st with
      | [] => none
      | f :: st' =>
        if l.name ≠ enZ then rdM (⟨f.nm, f.ls ++ [l], f.cs⟩ :: st') r
        else if l.value.map largeZ ≠ f.nm then none
        else match st' with
          | g :: st'' => rdM (⟨g.nm, g.ls, g.cs ++ [f]⟩ :: st'') r
          | [] => if r = [] ∧ rightT f = true then some f else none
end Go.Proofs.YtenclgnkogmgiaaDoor
