/-
  How many components and lines there are, how deep they lie, and a component around another one.
-/
import Derived.Test.YtenclgnkogmgiaaDoorXc
import Derived.Test.YtenclgnkogmgiaaDoorXd
import Derived.Test.YtenclgnkogmgiaaDoorTw
import Derived.Test.YtenclgnkogmgiaaDoorTs
namespace Go.Proofs.YtenclgnkogmgiaaDoor
open Go.RowKit Go.Shelf
set_option linter.unusedVariables false
set_option linter.unusedSimpArgs false

def sumN (f : Cp → Nat) : List Cp → Nat
  | [] => 0
  | q :: r => f q + sumN f r
def maxN (f : Cp → Nat) : List Cp → Nat
  | [] => 0
  | q :: r => max (f q) (maxN f r)
/-- How many components there are. -/
def nP : Nat → Cp → Nat
  | 0, _ => 0
  | h + 1, t => 1 + sumN (nP h) t.cs
/-- How many lines. -/
def lP : Nat → Cp → Nat
  | 0, _ => 0
  | h + 1, t => t.ls.length + sumN (lP h) t.cs
/-- How deep. -/
def dP : Nat → Cp → Nat
  | 0, _ => 0
  | h + 1, t => 1 + maxN (dP h) t.cs
theorem sumN_take (f : Cp → Nat) : ∀ (l : List Cp) (k : Nat) (q : Cp), l[k]? = some q → sumN f (l.take (k + 1)) = sumN f (l.take k) + f q
  | [], k, q, h => by simp at h
  | x :: r, 0, q, h => by simp at h; subst h; simp [sumN]
  | x :: r, k + 1, q, h => by
    have := sumN_take f r k q (by simpa using h)
    simp only [List.take_succ_cons, sumN, this]; omega
theorem maxN_take (f : Cp → Nat) : ∀ (l : List Cp) (k : Nat) (q : Cp), l[k]? = some q → maxN f (l.take (k + 1)) = max (maxN f (l.take k)) (f q)
  | [], k, q, h => by simp at h
  | x :: r, 0, q, h => by simp at h; subst h; simp [maxN]
  | x :: r, k + 1, q, h => by
    have := maxN_take f r k q (by simpa using h)
    simp only [List.take_succ_cons, maxN, this]; omega
theorem sumN_le (f : Cp → Nat) : ∀ (l : List Cp) (k : Nat), sumN f (l.take k) ≤ sumN f l
  | [], k => by simp [sumN]
  | x :: r, 0 => by simp [sumN]
  | x :: r, k + 1 => by have := sumN_le f r k; simp only [List.take_succ_cons, sumN]; omega
theorem maxN_sum (f g : Cp → Nat) (l : List Cp) (h : ∀ q ∈ l, f q ≤ g q) : maxN f l ≤ sumN g l := by
  induction l with
  | nil => simp [maxN, sumN]
  | cons x r ih =>
    have h1 := h x (List.mem_cons_self ..)
    have h2 := ih (fun q hq => h q (List.mem_cons_of_mem _ hq))
    simp only [maxN, sumN]; omega
theorem dP_le : ∀ (h : Nat) (t : Cp), dP h t ≤ nP h t
  | 0, _ => Nat.le_refl _
  | h + 1, t => by have := maxN_sum (dP h) (nP h) t.cs (fun q _ => dP_le h q); simp only [dP, nP]; omega
def CtE (h : Nat) : Prop := ∀ (t : Cp) (x y z : Value) (w : World), CpAt h w t x y z → nP h t ≤ 1000000 → lP h t ≤ 1000000000 →
  Calls Tryd.prog 26 #[compV x y z] w fun e w' => e = .returned (.tuple #[.int .i64 (nP h t : Nat), .int .i64 (lP h t : Nat), .int .i64 (dP h t : Nat)]) ∧ Below w.heap.size w w'
set_option maxHeartbeats 8000000 in
set_option maxRecDepth 100000 in
theorem cte_step (h' : Nat) (ih : CtE h') : CtE (h' + 1) := by
  intro t x y z w hp hn hl
  obtain ⟨⟨nm, rfl, _⟩, ⟨y1, y2, y3, rfl⟩, _⟩ := cp_form hp
  have hy2 : t.ls.length = y2 := by obtain ⟨_, ⟨a, c, ms, e, _, hms, hl, _⟩, _⟩ := hp; cases e; rw [← hms, List.length_map]
  obtain ⟨_, _, ⟨pl, pa, pc, rfl, prow⟩⟩ := hp
  obtain ⟨pn, hpn⟩ : ∃ n, t.cs.length = n := ⟨_, rfl⟩
  have hpm : pn ≤ 9223372036854775807 := by unfold maxLen at pl; omega
  have HPL : Hid (t.cs.length = pn) := hpn
  have HPR : Hid (t.cs = [] ∨ ∃ b off, pa = some ⟨b, off, none⟩ ∧ ∀ (i : Nat) (t_1 : Cp), t.cs[i]? = some t_1 → ∃ x y z, w.cell? ⟨b, off + i * 3, none⟩ = some x ∧ w.cell? ⟨b, off + i * 3 + 1, none⟩ = some y ∧ w.cell? ⟨b, off + i * 3 + 2, none⟩ = some z ∧ CpAt h' w t_1 x y z) := prow
  have HN : Hid (1 + sumN (nP h') t.cs ≤ 1000000) := hn
  have HLL : Hid (y2 + sumN (lP h') t.cs ≤ 1000000000) := by rw [← hy2]; exact hl
  have hyb : y2 ≤ 1000000000 := by have := HLL.out; omega
  have HE : Hid (nP (h' + 1) t = 1 + sumN (nP h') t.cs ∧ lP (h' + 1) t = y2 + sumN (lP h') t.cs ∧ dP (h' + 1) t = 1 + maxN (dP h') t.cs) := by unfold Hid; rw [← hy2]; exact ⟨rfl, rfl, rfl⟩
  rw [hpn]
  have hk0 := keep w (.cells #[.string nm, .slice y1 y2 y3, .slice pa pn pc] 25)
  have hG0 := Blk.new w #[.string nm, .slice y1 y2 y3, .slice pa pn pc] 25
  obtain ⟨w0, hw0⟩ : ∃ w0, w.alloc (.cells #[.string nm, .slice y1 y2 y3, .slice pa pn pc] 25) = w0 := ⟨_, rfl⟩
  rw [hw0] at hk0 hG0
  have HK0 : Hid (Below w.heap.size w w0) := hk0
  have HG0 : Hid (Blk w0 w.heap.size #[.string nm, .slice y1 y2 y3, .slice pa pn pc] 25) := hG0
  have HIH : Hid (CtE h') := ih
  obtain ⟨q0, q1, q2⟩ := cells3 hG0
  unfold compV
  clear hk0 hG0 pl prow hpn ih hn hl hy2
  go_enter Tryd.func26, Tryd.ntmps26
  go_wp2
  go_region
  all_goals
    go_wp2
    go_loopw [5, 6, 7, 8] (fun c l d i wr => ∃ (j cn ln dn : Nat), c = .int .i64 (cn : Nat) ∧ l = .int .i64 (ln : Nat) ∧ d = .int .i64 (dn : Nat) ∧ i = .int .i64 (j : Nat) ∧ j ≤ pn ∧ cn = 1 + sumN (nP h') (t.cs.take j) ∧ ln = y2 + sumN (lP h') (t.cs.take j) ∧ dn = 1 + maxN (dP h') (t.cs.take j) ∧ Below w0.heap.size w0 wr) (fun _ _ _ i _ => pn - (intOf i).toNat)
    case atStart => exact ⟨0, 1, y2, 1, rfl, rfl, rfl, rfl, by omega, by simp [sumN], by simp [sumN], by simp [maxN], below_drew (Below.refl _ _)⟩
    case round =>
      obtain ⟨j, cn, ln, dn, rfl, rfl, rfl, rfl, hj, hcn, hln, hdn, hbr⟩ := hrel
      have HBR : Hid (Below w0.heap.size w0 wr) := hbr
      have HBW : Hid (Below w.heap.size w wr) := HK0.out.trans (hbr.mono HK0.out.size)
      have HCN : Hid (cn = 1 + sumN (nP h') (t.cs.take j)) := hcn
      have HLN : Hid (ln = y2 + sumN (lP h') (t.cs.take j)) := hln
      have HDN : Hid (dn = 1 + maxN (dP h') (t.cs.take j)) := hdn
      obtain ⟨r0, r1, r2⟩ := cells3 (HG0.out.below hbr HG0.out.lt)
      clear hbr hw0 q0 q1 q2 hcn hln hdn
      by_cases hlt : j < pn
      · obtain ⟨u, hu⟩ : ∃ u, t.cs[j]? = some u := ⟨_, List.getElem?_eq_getElem (by have := HPL.out; omega)⟩
        rcases HPR.out with h0 | ⟨b1, o1, rfl, g1⟩
        · rw [h0] at hu; simp at hu
        obtain ⟨a1, a2, a3, e1, e2, e3, e4⟩ := g1 j u hu
        have e5 := CpAt.below HBW.out _ _ _ _ _ e4
        have e1 := cell_keep HBW.out e1
        have e2 := cell_keep HBW.out e2
        have e3 := cell_keep HBW.out e3
        have s1 := sumN_take (nP h') t.cs j u hu
        have s2 := sumN_take (lP h') t.cs j u hu
        have s3 := maxN_take (dP h') t.cs j u hu
        have s4 := sumN_le (nP h') t.cs (j + 1)
        have s5 := sumN_le (lP h') t.cs (j + 1)
        have s6 := dP_le h' u
        have s7 := HN.out
        have s8 := HLL.out
        have s9 := maxN_sum (dP h') (nP h') (t.cs.take j) (fun q _ => dP_le h' q)
        have hch := HIH.out u a1 a2 a3 wr e5 (by omega) (by omega)
        obtain ⟨m, hm⟩ : ∃ m, nP h' u = m := ⟨_, rfl⟩
        obtain ⟨l2, hl2⟩ : ∃ m, lP h' u = m := ⟨_, rfl⟩
        obtain ⟨d2, hd2⟩ : ∃ m, dP h' u = m := ⟨_, rfl⟩
        rw [hm, hl2, hd2] at hch
        rw [hm] at s1 s6
        rw [hl2] at s2
        rw [hd2] at s3 s6
        have t1 := HCN.out
        have t2 := HLN.out
        have t3 := HDN.out
        have b1' : cn + m ≤ 1000000 := by omega
        have b2' : ln + l2 ≤ 1000000000 := by omega
        have b3' : d2 ≤ 1000000 := by omega
        have b4' : dn ≤ 1000000 := by omega
        have HS1 : Hid (cn + m = 1 + sumN (nP h') (t.cs.take (j + 1))) := by unfold Hid; omega
        have HS2 : Hid (ln + l2 = y2 + sumN (lP h') (t.cs.take (j + 1))) := by unfold Hid; omega
        have HS3 : Hid (max dn (d2 + 1) = 1 + maxN (dP h') (t.cs.take (j + 1))) := by unfold Hid; omega
        obtain ⟨⟨un, rfl, _⟩, ⟨ya, yn, yc, rfl⟩, ⟨za, zn, zc, rfl⟩⟩ := cp_form e5
        unfold compV at hch
        have hjp : ¬ (pn : Int) ≤ j := by omega
        clear e4 e5 g1 hu s1 s2 s3 s4 s5 s6 s7 s8 s9 t1 t2 t3 hm hl2 hd2
        go_wp2_with fail
        refine hch.mono ?_
        rintro e w2 ⟨rfl, hb2⟩
        clear hch e1 e2 e3
        have HB2 : Hid (Below w0.heap.size w0 w2) := HBR.out.trans (hb2.mono HBR.out.size)
        clear hb2 r0 r1 r2
        by_cases hdd : dn < d2 + 1
        · have hdd' : (dn : Int) < (d2 : Int) + 1 := by omega
          have HS4 : Hid (d2 + 1 = 1 + maxN (dP h') (t.cs.take (j + 1))) := by unfold Hid; have := HS3.out; omega
          go_wp2
          go_roundw
          case rel => exact ⟨j + 1, cn + m, ln + l2, d2 + 1, by go_num, by go_num, by go_num, by go_num, by omega, HS1.out, HS2.out, HS4.out, HB2.out⟩
          case measure => simp [intOf]; omega
        · have hdd' : ¬ (dn : Int) < (d2 : Int) + 1 := by omega
          have HS4 : Hid (dn = 1 + maxN (dP h') (t.cs.take (j + 1))) := by unfold Hid; have := HS3.out; omega
          go_wp2
          go_roundw
          case rel => exact ⟨j + 1, cn + m, ln + l2, dn, by go_num, by go_num, by go_num, by go_num, by omega, HS1.out, HS2.out, HS4.out, HB2.out⟩
          case measure => simp [intOf]; omega
      · have hjn : j = pn := by omega
        have hE := HE.out
        have hT : t.cs.take j = t.cs := by rw [List.take_of_length_le]; have := HPL.out; omega
        have t1 := HCN.out
        have t2 := HLN.out
        have t3 := HDN.out
        rw [hT] at t1 t2 t3
        go_wp2
        refine bodyPost_ret (v := .tuple #[.int .i64 (cn : Nat), .int .i64 (ln : Nat), .int .i64 (dn : Nat)]) ?_ rfl ⟨by rw [hE.1, hE.2.1, hE.2.2, ← t1, ← t2, ← t3], HBW.out⟩
        simp [results, Tryd.results26, go_sem]
theorem count_exact : ∀ h, CtE h
  | 0 => fun t x y z w hp => hp.elim
  | h + 1 => cte_step h (count_exact h)
end Go.Proofs.YtenclgnkogmgiaaDoor
namespace Go.Proofs.YtenclgnkogmgiaaDoor
open Go.RowKit Go.Shelf
set_option linter.unusedVariables false
set_option linter.unusedSimpArgs false

/-- Names and lines are right, whatever there are of them. -/
def okC : Nat → Cp → Prop
  | 0, _ => True
  | h + 1, t => (nameZ t.nm && t.ls.all ownZ) = true ∧ ∀ q ∈ t.cs, okC h q
def RtI (h f : Nat) (t : Cp) : Prop := ∀ s : Nat × Nat, ((rtP f s t).1 = true ↔ okC h t ∧ dP h t ≤ f ∧ s.1 + nP h t ≤ 64 ∧ s.2 + lP h t ≤ 8192) ∧ ((rtP f s t).1 = true → (rtP f s t).2 = (s.1 + nP h t, s.2 + lP h t))
theorem rtL_iff (h f : Nat) : ∀ (l : List Cp), (∀ q ∈ l, RtI h f q) → ∀ s : Nat × Nat, s.1 ≤ 64 → s.2 ≤ 8192 →
    ((rtL (rtP f) s l).1 = true ↔ (∀ q ∈ l, okC h q) ∧ maxN (dP h) l ≤ f ∧ s.1 + sumN (nP h) l ≤ 64 ∧ s.2 + sumN (lP h) l ≤ 8192) ∧ ((rtL (rtP f) s l).1 = true → (rtL (rtP f) s l).2 = (s.1 + sumN (nP h) l, s.2 + sumN (lP h) l))
  | [], _, s, h1, h2 => by
    constructor
    · simp only [rtL, maxN, sumN, Nat.add_zero, true_iff]
      exact ⟨fun q hq => by simp at hq, Nat.zero_le _, h1, h2⟩
    · intro _; simp [rtL, sumN]
  | q :: r, hq, s, h1, h2 => by
    obtain ⟨a1, a2⟩ := hq q (List.mem_cons_self ..) s
    unfold rtL
    by_cases hc : (rtP f s q).1 = true
    · rw [if_pos hc]
      have a3 := a2 hc
      obtain ⟨b1, b2, b3, b4⟩ := a1.1 hc
      rw [a3]
      obtain ⟨c1, c2⟩ := rtL_iff h f r (fun x hx => hq x (List.mem_cons_of_mem _ hx)) (s.1 + nP h q, s.2 + lP h q) b3 b4
      simp only at c1 c2
      constructor
      · rw [c1]
        simp only [maxN, sumN]
        constructor
        · rintro ⟨d1, d2, d3, d4⟩
          refine ⟨fun x hx => ?_, by omega, by omega, by omega⟩
          rcases List.mem_cons.1 hx with rfl | hx
          · exact b1
          · exact d1 x hx
        · rintro ⟨d1, d2, d3, d4⟩
          exact ⟨fun x hx => d1 x (List.mem_cons_of_mem _ hx), by omega, by omega, by omega⟩
      · intro hh
        rw [c2 hh]
        simp only [sumN, Nat.add_assoc]
    · rw [if_neg hc]
      constructor
      · constructor
        · intro hh; cases hh
        · rintro ⟨d1, d2, d3, d4⟩
          simp only [maxN, sumN] at d2 d3 d4
          exact absurd (a1.2 ⟨d1 q (List.mem_cons_self ..), by omega, by omega, by omega⟩) hc
      · intro hh; cases hh
theorem rt_iff : ∀ (h f : Nat) (t : Cp), dep h t → RtI h f t
  | 0, _, _, hd => hd.elim
  | h + 1, 0, t, hd => fun s => by
    constructor
    · constructor
      · intro hh; simp [rtP] at hh
      · rintro ⟨_, hh, _⟩; simp only [dP] at hh; omega
    · intro hh; simp [rtP] at hh
  | h + 1, f + 1, t, hd => fun s => by
    unfold rtP
    by_cases hc : 64 < s.1 + 1 ∨ 8192 < s.2 + t.ls.length
    · rw [if_pos hc]
      constructor
      · constructor
        · intro hh; cases hh
        · rintro ⟨_, _, h3, h4⟩; simp only [nP, lP] at h3 h4; omega
      · intro hh; cases hh
    · rw [if_neg hc]
      by_cases hn : (nameZ t.nm && t.ls.all ownZ) = true
      · rw [if_pos hn]
        obtain ⟨c1, c2⟩ := rtL_iff h f t.cs (fun q hq => rt_iff h f q (hd q hq)) (s.1 + 1, s.2 + t.ls.length) (by simp only; omega) (by simp only; omega)
        simp only at c1 c2
        constructor
        · rw [c1]
          simp only [okC, dP, nP, lP]
          constructor
          · rintro ⟨d1, d2, d3, d4⟩; exact ⟨⟨hn, d1⟩, by omega, by omega, by omega⟩
          · rintro ⟨⟨_, d1⟩, d2, d3, d4⟩; exact ⟨d1, by omega, by omega, by omega⟩
        · intro hh
          rw [c2 hh]
          simp only [nP, lP, Nat.add_assoc]
      · rw [if_neg hn]
        constructor
        · constructor
          · intro hh; cases hh
          · rintro ⟨⟨h1, _⟩, _⟩; exact absurd h1 hn
        · intro hh; cases hh
theorem right_iff {h : Nat} {t : Cp} (hd : dep h t) : rightT t = true ↔ okC h t ∧ dP h t ≤ 8 ∧ nP h t ≤ 64 ∧ lP h t ≤ 8192 := by
  have := (rt_iff h 8 t hd (0, 0)).1
  simpa [rightT] using this
end Go.Proofs.YtenclgnkogmgiaaDoor
namespace Go.Proofs.YtenclgnkogmgiaaDoor
open Go.RowKit Go.Shelf
set_option linter.unusedVariables false
set_option linter.unusedSimpArgs false

/-- The component 'O' around another one, with the line 'X' of the value '1' if so, and with an empty component 'P' behind it if so. -/
def outC (t : Cp) (b1 b2 : Bool) : Cp := ⟨[79], if b1 then [⟨[88], [], [49]⟩] else [], t :: (if b2 then [⟨[80], [], []⟩] else [])⟩
theorem outC_dep {h : Nat} {t : Cp} (hd : dep h t) (b1 b2 : Bool) : dep (h + 1) (outC t b1 b2) := by
  intro q hq
  cases h with
  | zero => exact hd.elim
  | succ k =>
    cases b2 with
    | false => simp [outC] at hq; subst hq; exact hd
    | true =>
      simp [outC] at hq
      rcases hq with rfl | rfl
      · exact hd
      · intro r hr; simp at hr
theorem dP_pos {h : Nat} {t : Cp} (hd : dep h t) : 1 ≤ dP h t := by
  cases h with
  | zero => exact hd.elim
  | succ k => simp only [dP]; omega
theorem outC_right {h : Nat} {t : Cp} (hd : dep h t) (hr : rightT t = true) (b1 b2 : Bool) : rightT (outC t b1 b2) = true ↔ nP h t + (if b2 then 1 else 0) + 1 ≤ 64 ∧ dP h t < 8 ∧ lP h t + (if b1 then 1 else 0) ≤ 8192 := by
  rw [right_iff (outC_dep hd b1 b2)]
  obtain ⟨h1, h2, h3, h4⟩ := (right_iff hd).1 hr
  have hp := dP_pos hd
  have n1 : nameZ [79] = true := by decide
  have n2 : nameZ [80] = true := by decide
  have n3 : ownZ ⟨[88], [], [49]⟩ = true := by decide
  obtain ⟨k, rfl⟩ : ∃ k, h = k + 1 := by cases h with | zero => exact hd.elim | succ k => exact ⟨k, rfl⟩
  have hP : okC (k + 1) ⟨[80], [], []⟩ := ⟨by simp [n2], fun q hq => by simp at hq⟩
  have p1 : nP (k + 1) ⟨[80], [], []⟩ = 1 := by simp [nP, sumN]
  have p2 : lP (k + 1) ⟨[80], [], []⟩ = 0 := by simp [lP, sumN]
  have p3 : dP (k + 1) ⟨[80], [], []⟩ = 1 := by simp [dP, maxN]
  have e1 : nP (k + 1 + 1) (outC t b1 b2) = 1 + (nP (k + 1) t + (if b2 then 1 else 0)) := by
    cases b2 <;> simp [outC, nP, sumN]
  have e2 : lP (k + 1 + 1) (outC t b1 b2) = (if b1 then 1 else 0) + lP (k + 1) t := by
    cases b1 <;> cases b2 <;> simp [outC, lP, sumN]
  have e3 : dP (k + 1 + 1) (outC t b1 b2) = 1 + dP (k + 1) t := by
    cases b2
    · show 1 + max (dP (k + 1) t) 0 = _; omega
    · show 1 + max (dP (k + 1) t) (max (dP (k + 1) ⟨[80], [], []⟩) 0) = _; omega
  have e4 : okC (k + 1 + 1) (outC t b1 b2) := by
    refine ⟨?_, fun q hq => ?_⟩
    · cases b1 <;> simp [outC, n1, n3]
    · cases b2 with
      | false => simp [outC] at hq; subst hq; exact h1
      | true =>
        simp [outC] at hq
        rcases hq with rfl | rfl
        · exact h1
        · exact hP
  rw [e1, e2, e3]
  constructor
  · rintro ⟨_, a, b, c⟩; exact ⟨by omega, by omega, by omega⟩
  · rintro ⟨a, b, c⟩; exact ⟨e4, by omega, by omega, by omega⟩
theorem outC_small {t : Cp} (hs : smallT 12 t) (b1 b2 : Bool) : smallT 13 (outC t b1 b2) := by
  have hP : smallT 12 ⟨[80], [], []⟩ := ⟨by simp, by simp, fun l hl => by simp at hl, by simp, fun q hq => by simp at hq⟩
  refine ⟨by simp [outC], by cases b1 <;> simp [outC], fun l hl => ?_, by cases b2 <;> simp [outC], fun q hq => ?_⟩
  · cases b1 with
    | false => simp [outC] at hl
    | true =>
      simp [outC] at hl
      subst hl
      exact ⟨by simp, by simp, by simp, fun f hf => by simp at hf⟩
  · cases b2 with
    | false => simp [outC] at hq; subst hq; exact hs
    | true =>
      simp [outC] at hq
      rcases hq with rfl | rfl
      · exact hs
      · exact hP
theorem outC_find (t : Cp) (b1 b2 : Bool) : ∃ r, findC t.nm (outC t b1 b2).cs = t :: r := by
  unfold findC outC
  simp only [List.filter_cons, decide_true, if_true]
  exact ⟨_, rfl⟩
end Go.Proofs.YtenclgnkogmgiaaDoor
namespace Go.Proofs.YtenclgnkogmgiaaDoor
open Go.RowKit
set_option linter.unusedVariables false
theorem cp_flat {w : World} : ∀ (n k : Nat) (t : Cp) (x y z : Value), smallT n t → CpAt k w t x y z → CpAt n w t x y z
  | 0, _, _, _, _, _, h, _ => h.elim
  | n + 1, 0, _, _, _, _, _, h => h.elim
  | n + 1, k + 1, t, x, y, z, ⟨_, _, _, _, hq⟩, ⟨h1, h2, h3, a, c, e, h4⟩ => by
    refine ⟨h1, h2, h3, a, c, e, ?_⟩
    rcases h4 with h4 | ⟨b, off, ha, h4⟩
    · exact .inl h4
    · refine .inr ⟨b, off, ha, fun i u hu => ?_⟩
      obtain ⟨p, q, r, c0, c1, c2, h5⟩ := h4 i u hu
      exact ⟨p, q, r, c0, c1, c2, cp_flat n k u p q r (hq u (List.mem_of_getElem? hu)) h5⟩
theorem below_tk {O : Nat → Prop} {n : Nat} {a b c : World} (h : Below n a b) (k : Tk O b c) (hO : ∀ j, O j → n ≤ j) (hn : n ≤ b.heap.size) : Below n a c :=
  ⟨k.1.trans h.os, k.2.1.trans h.tape, k.2.2.1.trans h.output, Nat.le_trans h.size k.size, fun j hj => (k.2.2.2.2 j (by omega) (fun q => by have := hO j q; omega)).trans (h.block j hj)⟩
theorem grown_set (W : World) (b i : Nat) (v : Value) : W.grownBy (W.setCell ⟨b, i, none⟩ v) (some b) := by
  have h := (Below.refl 0 W).setCell (p := ⟨b, i, none⟩) (Nat.zero_le _) v
  exact ⟨h.os, h.tape, h.output, h.size, fun k hk hne => heap_setCell_other _ _ _ _ (by rintro rfl; exact hne rfl)⟩
theorem own_ne {W : World} {B g : Nat} {v a b c : Value} {xs : List Value} (h : W.ownsRow B 25 3 v 2 xs) (hg : Blk W g #[a, b, c] 25) : v.ownBlock ≠ some g := by
  rcases h.2 with ⟨_, h0⟩ | ⟨k, cap, cur, rfl, _, h3, h4, _, h5, _⟩
  · omega
  · intro e
    simp [Value.ownBlock] at e
    subst e
    rw [show W.heap[k]? = _ from hg] at h3
    cases h3
    simp at h5
    omega
theorem nest_ls {W : World} {B : Nat} {v : Value} (h : W.ownsRow B 39 3 v 1 (cellM ⟨⟨#[88]⟩, ⟨#[49]⟩, none, 0, []⟩)) : LsAt W v [⟨[88], [], [49]⟩] :=
  own_lsat (ms := [⟨⟨#[88]⟩, ⟨#[49]⟩, none, 0, []⟩]) (by simpa using h) (by simp) (by intro m hm; simp at hm; subst hm; exact ⟨Nat.zero_le _, .inl rfl⟩)
theorem nest_ls0 (W : World) : LsAt W (.slice none 0 0) [] := ⟨none, 0, [], rfl, .inl rfl, rfl, Nat.zero_le _, fun _ => rfl, fun m hm => by simp at hm⟩
theorem nest_p (W : World) (h : Nat) : CpAt (h + 1) W ⟨[80], [], []⟩ (.string ⟨#[80]⟩) (.slice none 0 0) (.slice none 0 0) := ⟨⟨_, rfl, rfl⟩, nest_ls0 W, Nat.zero_le _, none, 0, rfl, .inl rfl⟩
theorem nest_t1 {W : World} {g : Nat} {t : Cp} {x y z : Value} (hg : Blk W g #[x, y, z] 25) (hp : CpAt 12 W t x y z) : TRow W (.slice (some ⟨g, 0, none⟩) 1 1) [t] (CpAt 12 W) := by
  obtain ⟨c0, c1, c2⟩ := cells3 hg
  refine ⟨by unfold maxLen; simp, some ⟨g, 0, none⟩, 1, rfl, .inr ⟨g, 0, rfl, fun i u hu => ?_⟩⟩
  cases i with
  | zero => simp at hu; subst hu; exact ⟨x, y, z, c0, c1, c2, hp⟩
  | succ i => simp at hu
theorem nest_t2 {W : World} {B : Nat} {v : Value} {t : Cp} {x y z : Value} (h : W.ownsRow B 25 3 v 2 [x, y, z, .string ⟨#[80]⟩, .slice none 0 0, .slice none 0 0]) (hp : CpAt 12 W t x y z) : TRow W v [t, ⟨[80], [], []⟩] (CpAt 12 W) := by
  refine own_trow (ts := [t, ⟨[80], [], []⟩]) (xs := [(x, y, z), (.string ⟨#[80]⟩, .slice none 0 0, .slice none 0 0)]) (by simpa [cell3] using h) (by unfold maxLen; simp) rfl ?_
  intro i u q hu hq
  match i with
  | 0 => simp at hu hq; subst hu; subst hq; exact hp
  | 1 => simp at hu hq; subst hu; subst hq; exact nest_p W 11
  | i + 2 => simp at hu
theorem few_lines : ∀ (h : Nat) (t : Cp), dep h t → (wlP h t).length = lP h t + 2 * nP h t
  | 0, t, hd => hd.elim
  | h + 1, t, hd => by
    have key : ∀ l : List Cp, (∀ q ∈ l, dep h q) → (l.flatMap (wlP h)).length = sumN (lP h) l + 2 * sumN (nP h) l := by
      intro l
      induction l with
      | nil => intro _; rfl
      | cons a l ih =>
        intro hl
        rw [List.flatMap_cons, List.length_append, ih (fun q hq => hl q (by simp [hq])), few_lines h a (hl a (by simp))]
        simp only [sumN]
        omega
    simp only [wlP, List.length_append, List.length_cons, List.length_nil, lP, nP]
    rw [key t.cs hd]
    omega
theorem small_lines : ∀ (k h : Nat) (t : Cp), smallT k t → dep h t → lP h t ≤ 60 * nP h t
  | 0, _, _, hs, _ => hs.elim
  | k + 1, 0, _, _, hd => hd.elim
  | k + 1, h + 1, t, ⟨_, h2, _, _, h5⟩, hd => by
    have key : ∀ l : List Cp, (∀ q ∈ l, smallT k q ∧ dep h q) → sumN (lP h) l ≤ 60 * sumN (nP h) l := by
      intro l
      induction l with
      | nil => intro _; simp [sumN]
      | cons a l ih =>
        intro hl
        have h1 := ih (fun q hq => hl q (by simp [hq]))
        have h3 := small_lines k h a (hl a (by simp)).1 (hl a (by simp)).2
        simp only [sumN]
        omega
    have := key t.cs (fun q hq => ⟨h5 q hq, hd q hq⟩)
    simp only [lP, nP]
    omega
end Go.Proofs.YtenclgnkogmgiaaDoor
