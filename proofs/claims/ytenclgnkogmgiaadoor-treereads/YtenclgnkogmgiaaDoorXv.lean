/-
  Count, and which components may be; the lines of a component, and Write, of the document.
-/
import Derived.Test.YtenclgnkogmgiaaDoorXc
import Derived.Test.YtenclgnkogmgiaaDoorXd
import Derived.Test.YtenclgnkogmgiaaDoorXr
import Derived.Test.YtenclgnkogmgiaaDoorXb
namespace Go.Proofs.YtenclgnkogmgiaaDoor
open Go.RowKit Go.Shelf
set_option linter.unusedVariables false
set_option linter.unusedSimpArgs false

def sumN (f : Cp → Nat) : List Cp → Nat
  | [] => 0
  | q :: r => f q + sumN f r
def maxN (f : Cp → Nat) : List Cp → Nat
  | [] => 0
  | q :: r => max (f q) (maxN f r)
/-- How many components there are. -/
def nP : Nat → Cp → Nat
  | 0, _ => 0
  | h + 1, t => 1 + sumN (nP h) t.cs
/-- How many lines. -/
def lP : Nat → Cp → Nat
  | 0, _ => 0
  | h + 1, t => t.ls.length + sumN (lP h) t.cs
/-- How deep. -/
def dP : Nat → Cp → Nat
  | 0, _ => 0
  | h + 1, t => 1 + maxN (dP h) t.cs
theorem sumN_take (f : Cp → Nat) : ∀ (l : List Cp) (k : Nat) (q : Cp), l[k]? = some q → sumN f (l.take (k + 1)) = sumN f (l.take k) + f q
  | [], k, q, h => by simp at h
  | x :: r, 0, q, h => by simp at h; subst h; simp [sumN]
  | x :: r, k + 1, q, h => by
    have := sumN_take f r k q (by simpa using h)
    simp only [List.take_succ_cons, sumN, this]; omega
theorem maxN_take (f : Cp → Nat) : ∀ (l : List Cp) (k : Nat) (q : Cp), l[k]? = some q → maxN f (l.take (k + 1)) = max (maxN f (l.take k)) (f q)
  | [], k, q, h => by simp at h
  | x :: r, 0, q, h => by simp at h; subst h; simp [maxN]
  | x :: r, k + 1, q, h => by
    have := maxN_take f r k q (by simpa using h)
    simp only [List.take_succ_cons, maxN, this]; omega
theorem sumN_le (f : Cp → Nat) : ∀ (l : List Cp) (k : Nat), sumN f (l.take k) ≤ sumN f l
  | [], k => by simp [sumN]
  | x :: r, 0 => by simp [sumN]
  | x :: r, k + 1 => by have := sumN_le f r k; simp only [List.take_succ_cons, sumN]; omega
theorem maxN_sum (f g : Cp → Nat) (l : List Cp) (h : ∀ q ∈ l, f q ≤ g q) : maxN f l ≤ sumN g l := by
  induction l with
  | nil => simp [maxN, sumN]
  | cons x r ih =>
    have h1 := h x (List.mem_cons_self ..)
    have h2 := ih (fun q hq => h q (List.mem_cons_of_mem _ hq))
    simp only [maxN, sumN]; omega
theorem dP_le : ∀ (h : Nat) (t : Cp), dP h t ≤ nP h t
  | 0, _ => Nat.le_refl _
  | h + 1, t => by have := maxN_sum (dP h) (nP h) t.cs (fun q _ => dP_le h q); simp only [dP, nP]; omega
def CtE (h : Nat) : Prop := ∀ (t : Cp) (x y z : Value) (w : World), CpAt h w t x y z → nP h t ≤ 1000000 → lP h t ≤ 1000000000 →
  Calls Tryd.prog 26 #[compV x y z] w fun e w' => e = .returned (.tuple #[.int .i64 (nP h t : Nat), .int .i64 (lP h t : Nat), .int .i64 (dP h t : Nat)]) ∧ Below w.heap.size w w'
set_option maxHeartbeats 8000000 in
set_option maxRecDepth 100000 in
theorem cte_step (h' : Nat) (ih : CtE h') : CtE (h' + 1) := by
  intro t x y z w hp hn hl
  obtain ⟨⟨nm, rfl, _⟩, ⟨y1, y2, y3, rfl⟩, _⟩ := cp_form hp
  have hy2 : t.ls.length = y2 := by obtain ⟨_, ⟨a, c, ms, e, _, hms, hl, _⟩, _⟩ := hp; cases e; rw [← hms, List.length_map]
  obtain ⟨_, _, ⟨pl, pa, pc, rfl, prow⟩⟩ := hp
  obtain ⟨pn, hpn⟩ : ∃ n, t.cs.length = n := ⟨_, rfl⟩
  have hpm : pn ≤ 9223372036854775807 := by unfold maxLen at pl; omega
  have HPL : Hid (t.cs.length = pn) := hpn
  have HPR : Hid (t.cs = [] ∨ ∃ b off, pa = some ⟨b, off, none⟩ ∧ ∀ (i : Nat) (t_1 : Cp), t.cs[i]? = some t_1 → ∃ x y z, w.cell? ⟨b, off + i * 3, none⟩ = some x ∧ w.cell? ⟨b, off + i * 3 + 1, none⟩ = some y ∧ w.cell? ⟨b, off + i * 3 + 2, none⟩ = some z ∧ CpAt h' w t_1 x y z) := prow
  have HN : Hid (1 + sumN (nP h') t.cs ≤ 1000000) := hn
  have HLL : Hid (y2 + sumN (lP h') t.cs ≤ 1000000000) := by rw [← hy2]; exact hl
  have hyb : y2 ≤ 1000000000 := by have := HLL.out; omega
  have HE : Hid (nP (h' + 1) t = 1 + sumN (nP h') t.cs ∧ lP (h' + 1) t = y2 + sumN (lP h') t.cs ∧ dP (h' + 1) t = 1 + maxN (dP h') t.cs) := by unfold Hid; rw [← hy2]; exact ⟨rfl, rfl, rfl⟩
  rw [hpn]
  have hk0 := keep w (.cells #[.string nm, .slice y1 y2 y3, .slice pa pn pc] 25)
  have hG0 := Blk.new w #[.string nm, .slice y1 y2 y3, .slice pa pn pc] 25
  obtain ⟨w0, hw0⟩ : ∃ w0, w.alloc (.cells #[.string nm, .slice y1 y2 y3, .slice pa pn pc] 25) = w0 := ⟨_, rfl⟩
  rw [hw0] at hk0 hG0
  have HK0 : Hid (Below w.heap.size w w0) := hk0
  have HG0 : Hid (Blk w0 w.heap.size #[.string nm, .slice y1 y2 y3, .slice pa pn pc] 25) := hG0
  have HIH : Hid (CtE h') := ih
  obtain ⟨q0, q1, q2⟩ := cells3 hG0
  unfold compV
  clear hk0 hG0 pl prow hpn ih hn hl hy2
  go_enter Tryd.func26, Tryd.ntmps26
  go_wp2
  go_region
  all_goals
    go_wp2
    go_loopw [5, 6, 7, 8] (fun c l d i wr => ∃ (j cn ln dn : Nat), c = .int .i64 (cn : Nat) ∧ l = .int .i64 (ln : Nat) ∧ d = .int .i64 (dn : Nat) ∧ i = .int .i64 (j : Nat) ∧ j ≤ pn ∧ cn = 1 + sumN (nP h') (t.cs.take j) ∧ ln = y2 + sumN (lP h') (t.cs.take j) ∧ dn = 1 + maxN (dP h') (t.cs.take j) ∧ Below w0.heap.size w0 wr) (fun _ _ _ i _ => pn - (intOf i).toNat)
    case atStart => exact ⟨0, 1, y2, 1, rfl, rfl, rfl, rfl, by omega, by simp [sumN], by simp [sumN], by simp [maxN], below_drew (Below.refl _ _)⟩
    case round =>
      obtain ⟨j, cn, ln, dn, rfl, rfl, rfl, rfl, hj, hcn, hln, hdn, hbr⟩ := hrel
      have HBR : Hid (Below w0.heap.size w0 wr) := hbr
      have HBW : Hid (Below w.heap.size w wr) := HK0.out.trans (hbr.mono HK0.out.size)
      have HCN : Hid (cn = 1 + sumN (nP h') (t.cs.take j)) := hcn
      have HLN : Hid (ln = y2 + sumN (lP h') (t.cs.take j)) := hln
      have HDN : Hid (dn = 1 + maxN (dP h') (t.cs.take j)) := hdn
      obtain ⟨r0, r1, r2⟩ := cells3 (HG0.out.below hbr HG0.out.lt)
      clear hbr hw0 q0 q1 q2 hcn hln hdn
      by_cases hlt : j < pn
      · obtain ⟨u, hu⟩ : ∃ u, t.cs[j]? = some u := ⟨_, List.getElem?_eq_getElem (by have := HPL.out; omega)⟩
        rcases HPR.out with h0 | ⟨b1, o1, rfl, g1⟩
        · rw [h0] at hu; simp at hu
        obtain ⟨a1, a2, a3, e1, e2, e3, e4⟩ := g1 j u hu
        have e5 := CpAt.below HBW.out _ _ _ _ _ e4
        have e1 := cell_keep HBW.out e1
        have e2 := cell_keep HBW.out e2
        have e3 := cell_keep HBW.out e3
        have s1 := sumN_take (nP h') t.cs j u hu
        have s2 := sumN_take (lP h') t.cs j u hu
        have s3 := maxN_take (dP h') t.cs j u hu
        have s4 := sumN_le (nP h') t.cs (j + 1)
        have s5 := sumN_le (lP h') t.cs (j + 1)
        have s6 := dP_le h' u
        have s7 := HN.out
        have s8 := HLL.out
        have s9 := maxN_sum (dP h') (nP h') (t.cs.take j) (fun q _ => dP_le h' q)
        have hch := HIH.out u a1 a2 a3 wr e5 (by omega) (by omega)
        obtain ⟨m, hm⟩ : ∃ m, nP h' u = m := ⟨_, rfl⟩
        obtain ⟨l2, hl2⟩ : ∃ m, lP h' u = m := ⟨_, rfl⟩
        obtain ⟨d2, hd2⟩ : ∃ m, dP h' u = m := ⟨_, rfl⟩
        rw [hm, hl2, hd2] at hch
        rw [hm] at s1 s6
        rw [hl2] at s2
        rw [hd2] at s3 s6
        have t1 := HCN.out
        have t2 := HLN.out
        have t3 := HDN.out
        have b1' : cn + m ≤ 1000000 := by omega
        have b2' : ln + l2 ≤ 1000000000 := by omega
        have b3' : d2 ≤ 1000000 := by omega
        have b4' : dn ≤ 1000000 := by omega
        have HS1 : Hid (cn + m = 1 + sumN (nP h') (t.cs.take (j + 1))) := by unfold Hid; omega
        have HS2 : Hid (ln + l2 = y2 + sumN (lP h') (t.cs.take (j + 1))) := by unfold Hid; omega
        have HS3 : Hid (max dn (d2 + 1) = 1 + maxN (dP h') (t.cs.take (j + 1))) := by unfold Hid; omega
        obtain ⟨⟨un, rfl, _⟩, ⟨ya, yn, yc, rfl⟩, ⟨za, zn, zc, rfl⟩⟩ := cp_form e5
        unfold compV at hch
        have hjp : ¬ (pn : Int) ≤ j := by omega
        clear e4 e5 g1 hu s1 s2 s3 s4 s5 s6 s7 s8 s9 t1 t2 t3 hm hl2 hd2
        go_wp2_with fail
        refine hch.mono ?_
        rintro e w2 ⟨rfl, hb2⟩
        clear hch e1 e2 e3
        have HB2 : Hid (Below w0.heap.size w0 w2) := HBR.out.trans (hb2.mono HBR.out.size)
        clear hb2 r0 r1 r2
        by_cases hdd : dn < d2 + 1
        · have hdd' : (dn : Int) < (d2 : Int) + 1 := by omega
          have HS4 : Hid (d2 + 1 = 1 + maxN (dP h') (t.cs.take (j + 1))) := by unfold Hid; have := HS3.out; omega
          go_wp2
          go_roundw
          case rel => exact ⟨j + 1, cn + m, ln + l2, d2 + 1, by go_num, by go_num, by go_num, by go_num, by omega, HS1.out, HS2.out, HS4.out, HB2.out⟩
          case measure => simp [intOf]; omega
        · have hdd' : ¬ (dn : Int) < (d2 : Int) + 1 := by omega
          have HS4 : Hid (dn = 1 + maxN (dP h') (t.cs.take (j + 1))) := by unfold Hid; have := HS3.out; omega
          go_wp2
          go_roundw
          case rel => exact ⟨j + 1, cn + m, ln + l2, dn, by go_num, by go_num, by go_num, by go_num, by omega, HS1.out, HS2.out, HS4.out, HB2.out⟩
          case measure => simp [intOf]; omega
      · have hjn : j = pn := by omega
        have hE := HE.out
        have hT : t.cs.take j = t.cs := by rw [List.take_of_length_le]; have := HPL.out; omega
        have t1 := HCN.out
        have t2 := HLN.out
        have t3 := HDN.out
        rw [hT] at t1 t2 t3
        go_wp2
        refine bodyPost_ret (v := .tuple #[.int .i64 (cn : Nat), .int .i64 (ln : Nat), .int .i64 (dn : Nat)]) ?_ rfl ⟨by rw [hE.1, hE.2.1, hE.2.2, ← t1, ← t2, ← t3], HBW.out⟩
        simp [results, Tryd.results26, go_sem]
theorem count_exact : ∀ h, CtE h
  | 0 => fun t x y z w hp => hp.elim
  | h + 1 => cte_step h (count_exact h)
end Go.Proofs.YtenclgnkogmgiaaDoor
namespace Go.Proofs.YtenclgnkogmgiaaDoor
open Go.RowKit Go.Shelf
set_option linter.unusedVariables false
set_option linter.unusedSimpArgs false

/-- Names and lines are right, whatever there are of them. -/
def okC : Nat → Cp → Prop
  | 0, _ => True
  | h + 1, t => (nameZ t.nm && t.ls.all ownZ) = true ∧ ∀ q ∈ t.cs, okC h q
def RtI (h f : Nat) (t : Cp) : Prop := ∀ s : Nat × Nat, ((rtP f s t).1 = true ↔ okC h t ∧ dP h t ≤ f ∧ s.1 + nP h t ≤ 64 ∧ s.2 + lP h t ≤ 8192) ∧ ((rtP f s t).1 = true → (rtP f s t).2 = (s.1 + nP h t, s.2 + lP h t))
theorem rtL_iff (h f : Nat) : ∀ (l : List Cp), (∀ q ∈ l, RtI h f q) → ∀ s : Nat × Nat, s.1 ≤ 64 → s.2 ≤ 8192 →
    ((rtL (rtP f) s l).1 = true ↔ (∀ q ∈ l, okC h q) ∧ maxN (dP h) l ≤ f ∧ s.1 + sumN (nP h) l ≤ 64 ∧ s.2 + sumN (lP h) l ≤ 8192) ∧ ((rtL (rtP f) s l).1 = true → (rtL (rtP f) s l).2 = (s.1 + sumN (nP h) l, s.2 + sumN (lP h) l))
  | [], _, s, h1, h2 => by
    constructor
    · simp only [rtL, maxN, sumN, Nat.add_zero, true_iff]
      exact ⟨fun q hq => by simp at hq, Nat.zero_le _, h1, h2⟩
    · intro _; simp [rtL, sumN]
  | q :: r, hq, s, h1, h2 => by
    obtain ⟨a1, a2⟩ := hq q (List.mem_cons_self ..) s
    unfold rtL
    by_cases hc : (rtP f s q).1 = true
    · rw [if_pos hc]
      have a3 := a2 hc
      obtain ⟨b1, b2, b3, b4⟩ := a1.1 hc
      rw [a3]
      obtain ⟨c1, c2⟩ := rtL_iff h f r (fun x hx => hq x (List.mem_cons_of_mem _ hx)) (s.1 + nP h q, s.2 + lP h q) b3 b4
      simp only at c1 c2
      constructor
      · rw [c1]
        simp only [maxN, sumN]
        constructor
        · rintro ⟨d1, d2, d3, d4⟩
          refine ⟨fun x hx => ?_, by omega, by omega, by omega⟩
          rcases List.mem_cons.1 hx with rfl | hx
          · exact b1
          · exact d1 x hx
        · rintro ⟨d1, d2, d3, d4⟩
          exact ⟨fun x hx => d1 x (List.mem_cons_of_mem _ hx), by omega, by omega, by omega⟩
      · intro hh
        rw [c2 hh]
        simp only [sumN, Nat.add_assoc]
    · rw [if_neg hc]
      constructor
      · constructor
        · intro hh; cases hh
        · rintro ⟨d1, d2, d3, d4⟩
          simp only [maxN, sumN] at d2 d3 d4
          exact absurd (a1.2 ⟨d1 q (List.mem_cons_self ..), by omega, by omega, by omega⟩) hc
      · intro hh; cases hh
theorem rt_iff : ∀ (h f : Nat) (t : Cp), dep h t → RtI h f t
  | 0, _, _, hd => hd.elim
  | h + 1, 0, t, hd => fun s => by
    constructor
    · constructor
      · intro hh; simp [rtP] at hh
      · rintro ⟨_, hh, _⟩; simp only [dP] at hh; omega
    · intro hh; simp [rtP] at hh
  | h + 1, f + 1, t, hd => fun s => by
    unfold rtP
    by_cases hc : 64 < s.1 + 1 ∨ 8192 < s.2 + t.ls.length
    · rw [if_pos hc]
      constructor
      · constructor
        · intro hh; cases hh
        · rintro ⟨_, _, h3, h4⟩; simp only [nP, lP] at h3 h4; omega
      · intro hh; cases hh
    · rw [if_neg hc]
      by_cases hn : (nameZ t.nm && t.ls.all ownZ) = true
      · rw [if_pos hn]
        obtain ⟨c1, c2⟩ := rtL_iff h f t.cs (fun q hq => rt_iff h f q (hd q hq)) (s.1 + 1, s.2 + t.ls.length) (by simp only; omega) (by simp only; omega)
        simp only at c1 c2
        constructor
        · rw [c1]
          simp only [okC, dP, nP, lP]
          constructor
          · rintro ⟨d1, d2, d3, d4⟩; exact ⟨⟨hn, d1⟩, by omega, by omega, by omega⟩
          · rintro ⟨⟨_, d1⟩, d2, d3, d4⟩; exact ⟨d1, by omega, by omega, by omega⟩
        · intro hh
          rw [c2 hh]
          simp only [nP, lP, Nat.add_assoc]
      · rw [if_neg hn]
        constructor
        · constructor
          · intro hh; cases hh
          · rintro ⟨⟨h1, _⟩, _⟩; exact absurd h1 hn
        · intro hh; cases hh
theorem right_iff {h : Nat} {t : Cp} (hd : dep h t) : rightT t = true ↔ okC h t ∧ dP h t ≤ 8 ∧ nP h t ≤ 64 ∧ lP h t ≤ 8192 := by
  have := (rt_iff h 8 t hd (0, 0)).1
  simpa [rightT] using this
end Go.Proofs.YtenclgnkogmgiaaDoor
namespace Go.Proofs.YtenclgnkogmgiaaDoor
open Go.RowKit Go.Shelf
set_option linter.unusedVariables false
set_option linter.unusedSimpArgs false

theorem maxN_le (f : Cp → Nat) (B : Nat) : ∀ l : List Cp, (∀ q ∈ l, f q ≤ B) → maxN f l ≤ B
  | [], _ => Nat.zero_le _
  | x :: r, h => by
    have h1 := h x (List.mem_cons_self ..)
    have h2 := maxN_le f B r (fun q hq => h q (List.mem_cons_of_mem _ hq))
    simp only [maxN]; omega
theorem maxN_ge (f : Cp → Nat) : ∀ l : List Cp, ∀ q ∈ l, f q ≤ maxN f l
  | [], q, h => by simp at h
  | x :: r, q, h => by
    simp only [maxN]
    rcases List.mem_cons.1 h with rfl | h
    · omega
    · have := maxN_ge f r q h; omega
theorem sumN_bound (f : Cp → Nat) (B : Nat) : ∀ l : List Cp, (∀ q ∈ l, f q ≤ B) → sumN f l ≤ l.length * B
  | [], _ => by simp [sumN]
  | x :: r, h => by
    have h1 := h x (List.mem_cons_self ..)
    have h2 := sumN_bound f B r (fun q hq => h q (List.mem_cons_of_mem _ hq))
    simp only [sumN, List.length_cons, Nat.succ_mul]; omega
theorem small_deep : ∀ (k h : Nat) (t : Cp), smallT k t → dP h t ≤ k
  | 0, _, _, h => h.elim
  | k + 1, 0, _, _ => Nat.zero_le _
  | k + 1, h + 1, t, ⟨_, _, _, _, h5⟩ => by
    have := maxN_le (dP h) k t.cs (fun q hq => small_deep k h q (h5 q hq))
    simp only [dP]; omega
/-- How much there is at most in so many storeys. -/
def mostB : Nat → Nat
  | 0 => 0
  | d + 1 => 1 + 70 * mostB d
theorem small_most : ∀ (d k h : Nat) (t : Cp), smallT k t → dP h t ≤ d → nP h t ≤ mostB d ∧ lP h t ≤ 60 * mostB d
  | _, 0, _, _, h, _ => h.elim
  | _, k + 1, 0, _, _, _ => ⟨Nat.zero_le _, Nat.zero_le _⟩
  | 0, k + 1, h + 1, t, _, hd => by simp only [dP] at hd; omega
  | d + 1, k + 1, h + 1, t, ⟨_, h2, _, h4, h5⟩, hd => by
    simp only [dP] at hd
    have hq : ∀ q ∈ t.cs, nP h q ≤ mostB d ∧ lP h q ≤ 60 * mostB d := fun q hq => small_most d k h q (h5 q hq) (by have := maxN_ge (dP h) t.cs q hq; omega)
    have a := sumN_bound (nP h) (mostB d) t.cs (fun q hx => (hq q hx).1)
    have b := sumN_bound (lP h) (60 * mostB d) t.cs (fun q hx => (hq q hx).2)
    have c := Nat.mul_le_mul_right (mostB d) h4
    have e := Nat.mul_le_mul_right (60 * mostB d) h4
    simp only [nP, lP, mostB]
    omega
theorem most8 : mostB 8 ≤ 100000000000000 := by decide
def CtD (h : Nat) : Prop := ∀ (k : Nat) (t : Cp) (x y z : Value) (w : World), CpAt h w t x y z → smallT k t → k ≤ 100 →
  Calls Tryd.prog 26 #[compV x y z] w fun e w' => ∃ n l : Int, e = .returned (.tuple #[.int .i64 n, .int .i64 l, .int .i64 (dP h t : Nat)]) ∧ Below w.heap.size w w' ∧ (nP h t ≤ 1000000000000000000 → lP h t ≤ 1000000000000000000 → n = (nP h t : Nat) ∧ l = (lP h t : Nat))
set_option maxHeartbeats 8000000 in
set_option maxRecDepth 100000 in
theorem ctd_step (h' : Nat) (ih : CtD h') : CtD (h' + 1) := by
  intro k0 t x y z w hp hsm hk100
  obtain ⟨k, rfl⟩ : ∃ k, k0 = k + 1 := by cases k0 with | zero => exact hsm.elim | succ k => exact ⟨k, rfl⟩
  have hdeep := small_deep (k + 1) (h' + 1) t hsm
  obtain ⟨_, hl60, _, _, hsm5⟩ := hsm
  obtain ⟨⟨nm, rfl, _⟩, ⟨y1, y2, y3, rfl⟩, _⟩ := cp_form hp
  have hy2 : t.ls.length = y2 := by obtain ⟨_, ⟨a, c, ms, e, _, hms, hl, _⟩, _⟩ := hp; cases e; rw [← hms, List.length_map]
  obtain ⟨_, _, ⟨pl, pa, pc, rfl, prow⟩⟩ := hp
  obtain ⟨pn, hpn⟩ : ∃ n, t.cs.length = n := ⟨_, rfl⟩
  have hpm : pn ≤ 9223372036854775807 := by unfold maxLen at pl; omega
  have HPL : Hid (t.cs.length = pn) := hpn
  have HPR : Hid (t.cs = [] ∨ ∃ b off, pa = some ⟨b, off, none⟩ ∧ ∀ (i : Nat) (t_1 : Cp), t.cs[i]? = some t_1 → ∃ x y z, w.cell? ⟨b, off + i * 3, none⟩ = some x ∧ w.cell? ⟨b, off + i * 3 + 1, none⟩ = some y ∧ w.cell? ⟨b, off + i * 3 + 2, none⟩ = some z ∧ CpAt h' w t_1 x y z) := prow
  have hyb : y2 ≤ 1000000000 := by omega
  have HSM : Hid (∀ q ∈ t.cs, smallT k q) := hsm5
  have HDP : Hid (1 + maxN (dP h') t.cs ≤ k + 1) := hdeep
  have HE : Hid (nP (h' + 1) t = 1 + sumN (nP h') t.cs ∧ lP (h' + 1) t = y2 + sumN (lP h') t.cs ∧ dP (h' + 1) t = 1 + maxN (dP h') t.cs) := by unfold Hid; rw [← hy2]; exact ⟨rfl, rfl, rfl⟩
  rw [hpn]
  have hk0 := keep w (.cells #[.string nm, .slice y1 y2 y3, .slice pa pn pc] 25)
  have hG0 := Blk.new w #[.string nm, .slice y1 y2 y3, .slice pa pn pc] 25
  obtain ⟨w0, hw0⟩ : ∃ w0, w.alloc (.cells #[.string nm, .slice y1 y2 y3, .slice pa pn pc] 25) = w0 := ⟨_, rfl⟩
  rw [hw0] at hk0 hG0
  have HK0 : Hid (Below w.heap.size w w0) := hk0
  have HG0 : Hid (Blk w0 w.heap.size #[.string nm, .slice y1 y2 y3, .slice pa pn pc] 25) := hG0
  have HIH : Hid (CtD h') := ih
  obtain ⟨q0, q1, q2⟩ := cells3 hG0
  unfold compV
  clear hk0 hG0 pl prow hpn ih hy2 hsm5 hdeep hl60
  go_enter Tryd.func26, Tryd.ntmps26
  go_wp2
  go_region
  all_goals
    go_wp2
    go_loopw [5, 6, 7, 8] (fun c l d i wr => ∃ (j : Nat) (cn ln : Int) (dn : Nat), c = .int .i64 cn ∧ l = .int .i64 ln ∧ d = .int .i64 (dn : Nat) ∧ i = .int .i64 (j : Nat) ∧ j ≤ pn ∧ dn = 1 + maxN (dP h') (t.cs.take j) ∧ (1 + sumN (nP h') (t.cs.take j) ≤ 1000000000000000000 → y2 + sumN (lP h') (t.cs.take j) ≤ 1000000000000000000 → cn = (1 + sumN (nP h') (t.cs.take j) : Nat) ∧ ln = (y2 + sumN (lP h') (t.cs.take j) : Nat)) ∧ Below w0.heap.size w0 wr) (fun _ _ _ i _ => pn - (intOf i).toNat)
    case atStart => exact ⟨0, 1, y2, 1, rfl, rfl, rfl, rfl, by omega, by simp [maxN], fun _ _ => ⟨by simp [sumN], by simp [sumN]⟩, below_drew (Below.refl _ _)⟩
    case round =>
      obtain ⟨j, cn, ln, dn, rfl, rfl, rfl, rfl, hj, hdn, hex, hbr⟩ := hrel
      have HBR : Hid (Below w0.heap.size w0 wr) := hbr
      have HBW : Hid (Below w.heap.size w wr) := HK0.out.trans (hbr.mono HK0.out.size)
      have HEX : Hid ((1 + sumN (nP h') (t.cs.take j) ≤ 1000000000000000000 → y2 + sumN (lP h') (t.cs.take j) ≤ 1000000000000000000 → cn = (1 + sumN (nP h') (t.cs.take j) : Nat) ∧ ln = (y2 + sumN (lP h') (t.cs.take j) : Nat))) := hex
      have HDN : Hid (dn = 1 + maxN (dP h') (t.cs.take j)) := hdn
      obtain ⟨r0, r1, r2⟩ := cells3 (HG0.out.below hbr HG0.out.lt)
      clear hbr hw0 q0 q1 q2 hex hdn
      by_cases hlt : j < pn
      · obtain ⟨u, hu⟩ : ∃ u, t.cs[j]? = some u := ⟨_, List.getElem?_eq_getElem (by have := HPL.out; omega)⟩
        rcases HPR.out with h0 | ⟨b1, o1, rfl, g1⟩
        · rw [h0] at hu; simp at hu
        obtain ⟨a1, a2, a3, e1, e2, e3, e4⟩ := g1 j u hu
        have e5 := CpAt.below HBW.out _ _ _ _ _ e4
        have e1 := cell_keep HBW.out e1
        have e2 := cell_keep HBW.out e2
        have e3 := cell_keep HBW.out e3
        have s1 := sumN_take (nP h') t.cs j u hu
        have s2 := sumN_take (lP h') t.cs j u hu
        have s3 := maxN_take (dP h') t.cs j u hu
        have s4 := maxN_ge (dP h') t.cs u (List.mem_of_getElem? hu)
        have s5 := maxN_le (dP h') (maxN (dP h') t.cs) (t.cs.take j) (fun q hq => maxN_ge (dP h') t.cs q (List.mem_of_mem_take hq))
        have s7 := HDP.out
        have hch := HIH.out k u a1 a2 a3 wr e5 (HSM.out u (List.mem_of_getElem? hu)) (by omega)
        obtain ⟨d2, hd2⟩ : ∃ m, dP h' u = m := ⟨_, rfl⟩
        rw [hd2] at hch s3 s4
        have t3 := HDN.out
        have b3' : d2 ≤ 101 := by omega
        have b4' : dn ≤ 101 := by omega
        have HS3 : Hid (max dn (d2 + 1) = 1 + maxN (dP h') (t.cs.take (j + 1))) := by unfold Hid; omega
        have HS1 : Hid (sumN (nP h') (t.cs.take (j + 1)) = sumN (nP h') (t.cs.take j) + nP h' u) := s1
        have HS2 : Hid (sumN (lP h') (t.cs.take (j + 1)) = sumN (lP h') (t.cs.take j) + lP h' u) := s2
        obtain ⟨⟨un, rfl, _⟩, ⟨ya, yn, yc, rfl⟩, ⟨za, zn, zc, rfl⟩⟩ := cp_form e5
        unfold compV at hch
        have hjp : ¬ (pn : Int) ≤ j := by omega
        clear e4 e5 g1 hu s1 s2 s3 s4 s5 s7 t3 hd2
        go_wp2_with fail
        refine hch.mono ?_
        rintro e w2 ⟨m, l2, rfl, hb2, hex2⟩
        clear hch e1 e2 e3
        have HB2 : Hid (Below w0.heap.size w0 w2) := HBR.out.trans (hb2.mono HBR.out.size)
        have HEX2 : Hid (nP h' u ≤ 1000000000000000000 → lP h' u ≤ 1000000000000000000 → m = (nP h' u : Nat) ∧ l2 = (lP h' u : Nat)) := hex2
        clear hb2 r0 r1 r2 hex2
        have HNX : Hid ((1 + sumN (nP h') (t.cs.take (j + 1)) ≤ 1000000000000000000 → y2 + sumN (lP h') (t.cs.take (j + 1)) ≤ 1000000000000000000 → wrap64 (cn + m) = (1 + sumN (nP h') (t.cs.take (j + 1)) : Nat) ∧ wrap64 (ln + l2) = (y2 + sumN (lP h') (t.cs.take (j + 1)) : Nat))) := by
          intro q1 q2
          rw [HS1.out] at q1
          rw [HS2.out] at q2
          obtain ⟨x1, x2⟩ := HEX.out (by omega) (by omega)
          obtain ⟨x3, x4⟩ := HEX2.out (by omega) (by omega)
          rw [x1, x2, x3, x4, HS1.out, HS2.out]
          constructor
          · rw [IntWalk.wrap64_in] <;> omega
          · rw [IntWalk.wrap64_in] <;> omega
        by_cases hdd : dn < d2 + 1
        · have hdd' : (dn : Int) < (d2 : Int) + 1 := by omega
          have HS4 : Hid (d2 + 1 = 1 + maxN (dP h') (t.cs.take (j + 1))) := by unfold Hid; have := HS3.out; omega
          go_wp2
          refine ⟨⟨j + 1, _, _, d2 + 1, rfl, rfl, ?_, ?_, by omega, HS4.out, HNX.out, HB2.out⟩, ?_⟩
          · go_num
          · go_num
          · simp [intOf]; omega
        · have hdd' : ¬ (dn : Int) < (d2 : Int) + 1 := by omega
          have HS4 : Hid (dn = 1 + maxN (dP h') (t.cs.take (j + 1))) := by unfold Hid; have := HS3.out; omega
          go_wp2
          refine ⟨⟨j + 1, _, _, dn, rfl, rfl, ?_, ?_, by omega, HS4.out, HNX.out, HB2.out⟩, ?_⟩
          · go_num
          · go_num
          · simp [intOf]; omega
      · have hjn : j = pn := by omega
        have hE := HE.out
        have hT : t.cs.take j = t.cs := by rw [List.take_of_length_le]; have := HPL.out; omega
        have t3 := HDN.out
        have t1 := HEX.out
        rw [hT] at t1 t3
        have HFN : Hid (nP (h' + 1) t ≤ 1000000000000000000 → lP (h' + 1) t ≤ 1000000000000000000 → cn = (nP (h' + 1) t : Nat) ∧ ln = (lP (h' + 1) t : Nat)) := by
          unfold Hid; rw [hE.1, hE.2.1]; exact t1
        clear t1
        go_wp2
        refine bodyPost_ret (v := .tuple #[.int .i64 cn, .int .i64 ln, .int .i64 (dn : Nat)]) ?_ rfl ⟨cn, ln, by rw [hE.2.2, ← t3], HBW.out, HFN.out⟩
        simp [results, Tryd.results26, go_sem]
theorem count_deep : ∀ h, CtD h
  | 0 => fun k t x y z w hp => hp.elim
  | h + 1 => ctd_step h (count_deep h)
end Go.Proofs.YtenclgnkogmgiaaDoor
namespace Go.Proofs.YtenclgnkogmgiaaDoor
open Go.RowKit Go.Shelf
set_option linter.unusedVariables false
set_option linter.unusedSimpArgs false

/-- Names and lines are right. -/
def fitsZ : Nat → Cp → Bool
  | 0, _ => true
  | h + 1, t => (nameZ t.nm && t.ls.all ownZ) && t.cs.all (fitsZ h)
theorem fits_iff : ∀ (h : Nat) (t : Cp), fitsZ h t = true ↔ okC h t
  | 0, t => by simp [fitsZ, okC]
  | h + 1, t => by
    unfold fitsZ okC
    rw [Bool.and_eq_true, List.all_eq_true]
    constructor
    · rintro ⟨h1, h2⟩; exact ⟨h1, fun q hq => (fits_iff h q).1 (h2 q hq)⟩
    · rintro ⟨h1, h2⟩; exact ⟨h1, fun q hq => (fits_iff h q).2 (h2 q hq)⟩
def FtC (h : Nat) : Prop := ∀ (t : Cp) (x y z : Value) (w : World), CpAt h w t x y z → FitC h t →
  Calls Tryd.prog 35 #[compV x y z] w fun e w' => e = .returned (.bool (fitsZ h t)) ∧ Below w.heap.size w w'
set_option maxHeartbeats 16000000 in
set_option maxRecDepth 100000 in
theorem fits_step (h' : Nat) (ih : FtC h') : FtC (h' + 1) := by
  intro t x y z w hp hf
  obtain ⟨hf1, hf2, hf3⟩ := hf
  obtain ⟨⟨nm, rfl, hnm⟩, ⟨la, lc, ms, rfl, lr, hms, lm, _, mf⟩, ⟨pl, pa, pc, rfl, prow⟩⟩ := hp
  obtain ⟨ln, hln⟩ : ∃ n, ms.length = n := ⟨_, rfl⟩
  obtain ⟨pn, hpn⟩ : ∃ n, t.cs.length = n := ⟨_, rfl⟩
  have hpm : pn ≤ 9223372036854775807 := by unfold maxLen at pl; omega
  have hlm : ln ≤ 9223372036854775807 := by omega
  have hnz : nm.size ≤ 1000000000 := by rw [← nums_len, hnm]; omega
  have HLN : Hid (ms.length = ln) := hln
  have HPN : Hid (t.cs.length = pn) := hpn
  have HMS : Hid (ms.map Lm.ln = t.ls) := hms
  have HNM : Hid (nums nm = t.nm) := hnm
  have HLR : Hid (LRow w la ms) := lr
  have HF3 : Hid (∀ q ∈ t.cs, FitC h' q) := hf3
  have HFIT : Hid (∀ m ∈ ms, Fitm m) := fun m hm => fit_ln (hf2 _ (by rw [← hms]; exact List.mem_map.2 ⟨m, hm, rfl⟩))
  have HPR : Hid (t.cs = [] ∨ ∃ b off, pa = some ⟨b, off, none⟩ ∧ ∀ (i : Nat) (t_1 : Cp), t.cs[i]? = some t_1 → ∃ x y z, w.cell? ⟨b, off + i * 3, none⟩ = some x ∧ w.cell? ⟨b, off + i * 3 + 1, none⟩ = some y ∧ w.cell? ⟨b, off + i * 3 + 2, none⟩ = some z ∧ CpAt h' w t_1 x y z) := prow
  have HIH : Hid (FtC h') := ih
  have HZ : Hid (fitsZ (h' + 1) t = ((nameZ (nums nm) && (ms.map Lm.ln).all ownZ) && t.cs.all (fitsZ h'))) := by unfold Hid; rw [hnm, hms]; rfl
  rw [hln, hpn]
  obtain ⟨w0, hw0⟩ : ∃ w0, w.alloc (.cells #[.string nm, .slice la ln lc, .slice pa pn pc] 25) = w0 := ⟨_, rfl⟩
  have HK0 : Hid (Below w.heap.size w w0) := by unfold Hid; rw [← hw0]; exact keep w _
  have HG0 : Hid (Blk w0 w.heap.size #[.string nm, .slice la ln lc, .slice pa pn pc] 25) := by unfold Hid; rw [← hw0]; exact Blk.new _ _ _
  obtain ⟨q0, q1, q2⟩ := cells3 HG0.out
  have hnc := fun V => rname_any nm V hnz
  obtain ⟨nb, hnb⟩ : ∃ b, nameZ (nums nm) = b := ⟨_, rfl⟩
  rw [hnb] at hnc HZ
  unfold compV
  clear hf1 hf2 hf3 hnm lr hms mf prow hln hpn ih hnb pl lm
  go_enter Tryd.func35, Tryd.ntmps35
  go_wp2_with fail
  refine (hnc _).mono ?_
  rintro e w1 ⟨rfl, rfl⟩
  cases nb with
  | false =>
    go_wp2
    go_ret
    exact ⟨ret_bool (by rw [HZ.out]; rfl), HK0.out⟩
  | true =>
  go_wp2
  go_loopw [3] (fun i wr => ∃ k : Nat, i = .int .i64 k ∧ k ≤ ln ∧ Below w0.heap.size w0 wr ∧ ∀ (j : Nat) m, j < k → ms[j]? = some m → ownZ m.ln = true) (fun i _ => ln - (intOf i).toNat)
  case atStart => exact ⟨0, rfl, by omega, Below.refl _ _, fun j m hj => by omega⟩
  case round =>
    obtain ⟨k, rfl, hk, hb, hall⟩ := hrel
    have HB : Hid (Below w0.heap.size w0 wr) := hb
    have HBW : Hid (Below w.heap.size w wr) := HK0.out.trans (hb.mono HK0.out.size)
    have HA : Hid (∀ (j : Nat) m, j < k → ms[j]? = some m → ownZ m.ln = true) := hall
    have hrw := HLR.out.below HBW.out
    obtain ⟨r0, r1, r2⟩ := cells3 (HG0.out.below hb HG0.out.lt)
    clear hb hall q0 q1 q2 hw0
    by_cases hlt : k < ln
    · obtain ⟨m, hmk⟩ : ∃ m, ms[k]? = some m := ⟨_, List.getElem?_eq_getElem (by have := HLN.out; omega)⟩
      rcases hrw with h | ⟨b, off, rfl, h⟩
      · rw [h] at hmk; simp at hmk
      obtain ⟨⟨c0, c1, c2⟩, hfr⟩ := h k m hmk
      have hfm := HFIT.out m (List.mem_of_getElem? hmk)
      obtain ⟨mn, vl, ma, mc, fs⟩ := m
      have HM : Hid (ms[k]? = some ⟨mn, vl, ma, mc, fs⟩) := hmk
      simp only at c0 c1 c2 hfr
      obtain ⟨z1, z2, z3, z4⟩ := hfm
      simp only at z1 z2 z3 z4
      have HO : Hid (ownZ (Lm.ln ⟨mn, vl, ma, mc, fs⟩) = (!(decide (mn.toList = [66, 69, 71, 73, 78]) || decide (mn.toList = [69, 78, 68])) && rightZ ⟨nums mn, numsP fs, nums vl⟩)) := by
        unfold Hid
        rw [own_ln]
        unfold frZ
        rw [decide_eq_decide.2 (bg_iff mn), decide_eq_decide.2 (en_iff mn)]
        rfl
      obtain ⟨rb, hrb⟩ : ∃ b, rightZ ⟨nums mn, numsP fs, nums vl⟩ = b := ⟨_, rfl⟩
      rw [hrb] at HO
      obtain ⟨fn, hfn⟩ : ∃ n, fs.length = n := ⟨_, rfl⟩
      have hrc := rright_any mn vl ma fn mc fs wr hfn hfr (by omega) (by omega) (fun f hf => by have := z4 f hf; omega)
      rw [hrb] at hrc
      rw [hfn] at c1
      unfold lineV at hrc
      clear h hmk hfr hrb z4 hfn
      have HNO : Hid (ownZ (Lm.ln ⟨mn, vl, ma, mc, fs⟩) = false → fitsZ (h' + 1) t = false) := fun q => by
        rw [HZ.out, all_at (k := k) (t := Lm.ln ⟨mn, vl, ma, mc, fs⟩) (by rw [List.getElem?_map, HM.out]; rfl) q]; rfl
      go_wp2_with fail
      refine hrc.mono ?_
      rintro e w1 ⟨rfl, hb1⟩
      have HB1 : Hid (Below w0.heap.size w0 w1) := HB.out.trans (hb1.mono HB.out.size)
      have HW1 : Hid (Below w.heap.size w w1) := HK0.out.trans (HB1.out.mono HK0.out.size)
      have d0 := cell_keep hb1 c0
      have d1 := cell_keep hb1 c1
      have d2 := cell_keep hb1 c2
      have s0 := cell_keep hb1 r0
      have s1 := cell_keep hb1 r1
      have s2 := cell_keep hb1 r2
      clear hb1 hrc r0 r1 r2 c0 c1 c2
      cases rb with
      | false =>
        have HX := HNO.out (by rw [HO.out]; simp)
        have HX' : Hid (fitsZ (h' + 1) t = false) := HX
        clear HX
        go_wp2
        go_ret
        exact ⟨ret_bool HX'.out.symm, HW1.out⟩
      | true =>
        by_cases p1 : mn.toList = [66, 69, 71, 73, 78]
        · have HX' : Hid (fitsZ (h' + 1) t = false) := HNO.out (by rw [HO.out, p1]; rfl)
          have p1' : (mn.toList == [66, 69, 71, 73, 78]) = true := by rw [p1]; rfl
          go_wp2
          go_ret
          exact ⟨ret_bool HX'.out.symm, HW1.out⟩
        · have p1' : (mn.toList == [66, 69, 71, 73, 78]) = false := by simpa using p1
          by_cases p2 : mn.toList = [69, 78, 68]
          · have HX' : Hid (fitsZ (h' + 1) t = false) := HNO.out (by rw [HO.out, p2]; rfl)
            have p2' : (mn.toList == [69, 78, 68]) = true := by rw [p2]; rfl
            go_wp2
            go_ret
            exact ⟨ret_bool HX'.out.symm, HW1.out⟩
          · have p2' : (mn.toList == [69, 78, 68]) = false := by simpa using p2
            have HOY : Hid (ownZ (Lm.ln ⟨mn, vl, ma, mc, fs⟩) = true) := by unfold Hid; rw [HO.out, decide_eq_false p1, decide_eq_false p2]; rfl
            go_wp2
            go_roundw
            case rel => exact ⟨k + 1, by go_num, by omega, HB1.out, fun j m hj hm => by
              by_cases hjk : j < k
              · exact HA.out j m hjk hm
              · obtain rfl : j = k := by omega
                rw [HM.out] at hm; cases hm; exact HOY.out⟩
            case measure => simp [intOf]; omega
    · obtain rfl : k = ln := by omega
      have HX : Hid ((ms.map Lm.ln).all ownZ = true) := all_yes (fun j t ht => by
        rw [List.getElem?_map] at ht
        cases hm : ms[j]? with
        | none => rw [hm] at ht; simp at ht
        | some m =>
          rw [hm] at ht; simp at ht; subst ht
          exact HA.out j m (by have := (List.getElem?_eq_some_iff.1 hm).1; have := HLN.out; omega) hm)
      have HZ2 : Hid (fitsZ (h' + 1) t = t.cs.all (fitsZ h')) := by unfold Hid; rw [HZ.out, HX.out]; rfl
      clear hrw
      go_wp2
      go_loopw [4] (fun i wr => ∃ k : Nat, i = .int .i64 k ∧ k ≤ pn ∧ Below w0.heap.size w0 wr ∧ ∀ (j : Nat) u, j < k → t.cs[j]? = some u → fitsZ h' u = true) (fun i _ => pn - (intOf i).toNat)
      case atStart => exact ⟨0, rfl, by omega, HB.out, fun j m hj => by omega⟩
      case round =>
        obtain ⟨j, rfl, hj, hbr, hno⟩ := hrel
        have HB2 : Hid (Below w0.heap.size w0 wr) := hbr
        have HW2 : Hid (Below w.heap.size w wr) := HK0.out.trans (hbr.mono HK0.out.size)
        have HNA : Hid (∀ (i : Nat) u, i < j → t.cs[i]? = some u → fitsZ h' u = true) := hno
        obtain ⟨r0, r1, r2⟩ := cells3 (HG0.out.below hbr HG0.out.lt)
        clear hbr hno HB HBW
        by_cases hlt : j < pn
        · obtain ⟨u, hu⟩ : ∃ u, t.cs[j]? = some u := ⟨_, List.getElem?_eq_getElem (by have := HPN.out; omega)⟩
          rcases HPR.out with h0 | ⟨b1, o1, rfl, g1⟩
          · rw [h0] at hu; simp at hu
          obtain ⟨a1, a2, a3, e1, e2, e3, e4⟩ := g1 j u hu
          have e5 := CpAt.below HW2.out _ _ _ _ _ e4
          have e1 := cell_keep HW2.out e1
          have e2 := cell_keep HW2.out e2
          have e3 := cell_keep HW2.out e3
          have hch := HIH.out u a1 a2 a3 wr e5 (HF3.out u (List.mem_of_getElem? hu))
          obtain ⟨fb, hfb⟩ : ∃ b, fitsZ h' u = b := ⟨_, rfl⟩
          rw [hfb] at hch
          have HFB : Hid (fitsZ h' u = fb) := hfb
          have HU : Hid (t.cs[j]? = some u) := hu
          obtain ⟨⟨un, rfl, _⟩, ⟨ya, yn, yc, rfl⟩, ⟨za, zn, zc, rfl⟩⟩ := cp_form e5
          unfold compV at hch
          have hjp : ¬ (pn : Int) ≤ j := by omega
          clear e4 e5 g1 hu hfb
          go_wp2_with fail
          refine hch.mono ?_
          rintro e w2 ⟨rfl, hb2⟩
          clear hch e1 e2 e3 r0 r1 r2
          have HB3 : Hid (Below w0.heap.size w0 w2) := HB2.out.trans (hb2.mono HB2.out.size)
          have HW3 : Hid (Below w.heap.size w w2) := HK0.out.trans (HB3.out.mono HK0.out.size)
          clear hb2
          cases fb with
          | false =>
            have HX' : Hid (fitsZ (h' + 1) t = false) := by unfold Hid; rw [HZ2.out]; exact all_at HU.out HFB.out
            go_wp2
            go_ret
            exact ⟨ret_bool HX'.out.symm, HW3.out⟩
          | true =>
            go_wp2
            go_roundw
            case rel => exact ⟨j + 1, by go_num, by omega, HB3.out, fun i m hi hm => by
              by_cases hij : i < j
              · exact HNA.out i m hij hm
              · obtain rfl : i = j := by omega
                rw [HU.out] at hm; cases hm; exact HFB.out⟩
            case measure => simp [intOf]; omega
        · obtain rfl : j = pn := by omega
          have HX' : Hid (fitsZ (h' + 1) t = true) := by
            unfold Hid; rw [HZ2.out]
            exact all_yes (fun i u hu => HNA.out i u (by have := (List.getElem?_eq_some_iff.1 hu).1; have := HPN.out; omega) hu)
          go_wp2
          go_ret
          exact ⟨ret_bool HX'.out.symm, HW2.out⟩
theorem fits_any : ∀ h, FtC h
  | 0 => fun t x y z w hp => hp.elim
  | h + 1 => fits_step h (fits_any h)
/-- Right, the document's. -/
theorem rt_eq {k h : Nat} {t : Cp} {n l : Int} (hsm : smallT k t) (hd : dep h t) (hn : nP h t ≤ 1000000000000000000 → lP h t ≤ 1000000000000000000 → n = (nP h t : Nat) ∧ l = (lP h t : Nat)) :
    rightT t = (decide (n ≤ 64) && decide (l ≤ 8192) && decide (((dP h t : Nat) : Int) ≤ 8) && fitsZ h t) := by
  rw [Bool.eq_iff_iff, right_iff hd]
  simp only [Bool.and_eq_true, decide_eq_true_eq, fits_iff]
  have hm := most8
  constructor
  · rintro ⟨h1, h2, h3, h4⟩
    obtain ⟨e1, e2⟩ := hn (by omega) (by omega)
    rw [e1, e2]
    exact ⟨⟨⟨by omega, by omega⟩, by omega⟩, h1⟩
  · rintro ⟨⟨⟨h1, h2⟩, h3⟩, h4⟩
    obtain ⟨b1, b2⟩ := small_most 8 k h t hsm (by omega)
    obtain ⟨e1, e2⟩ := hn (by omega) (by omega)
    rw [e1] at h1
    rw [e2] at h2
    exact ⟨h4, by omega, by omega, by omega⟩
set_option maxHeartbeats 8000000 in
set_option maxRecDepth 100000 in
theorem rright_tree (h k : Nat) (t : Cp) (x y z : Value) (w : World) (hp : CpAt h w t x y z) (hsm : smallT k t) (hk : k ≤ 100) : Calls Tryd.prog 15 #[compV x y z] w fun e w' => e = .returned (.bool (rightT t)) ∧ Below w.heap.size w w' := by
  have hd := dep_cp h t x y z hp
  have hf := small_fit k h t hsm
  obtain ⟨⟨nm, rfl, _⟩, ⟨ya, yn, yc, rfl⟩, ⟨za, zn, zc, rfl⟩⟩ := cp_form hp
  have hk0 := keep w (.cells #[.string nm, .slice ya yn yc, .slice za zn zc] 25)
  have hct := count_deep h k t _ _ _ (w.alloc (.cells #[.string nm, .slice ya yn yc, .slice za zn zc] 25)) (CpAt.below hk0 _ _ _ _ _ hp) hsm hk
  have HK0 : Hid (Below w.heap.size w (w.alloc (.cells #[.string nm, .slice ya yn yc, .slice za zn zc] 25))) := hk0
  have HG0 : Hid (Blk (w.alloc (.cells #[.string nm, .slice ya yn yc, .slice za zn zc] 25)) w.heap.size #[.string nm, .slice ya yn yc, .slice za zn zc] 25) := Blk.new _ _ _
  have HP : Hid (CpAt h w t (.string nm) (.slice ya yn yc) (.slice za zn zc)) := hp
  have HSM : Hid (smallT k t) := hsm
  have HF : Hid (FitC h t) := hf
  have HD : Hid (dep h t) := hd
  unfold compV at hct ⊢
  clear hk0 hp hsm hf hd
  go_enter Tryd.func15, Tryd.ntmps15
  go_wp2_with fail
  refine hct.mono ?_
  rintro e w2 ⟨n, l, rfl, hb2, hex⟩
  have hz := rt_eq HSM.out HD.out hex
  have hb := HK0.out.trans (hb2.mono HK0.out.size)
  obtain ⟨c0, c1, c2⟩ := cells3 (HG0.out.below hb2 HG0.out.lt)
  have HB2 : Hid (Below w.heap.size w w2) := hb
  obtain ⟨dd, hdd⟩ : ∃ d, dP h t = d := ⟨_, rfl⟩
  have hft := fits_any h t _ _ _ w2 (CpAt.below hb _ _ _ _ _ HP.out) HF.out
  obtain ⟨fb, hfb⟩ : ∃ b, fitsZ h t = b := ⟨_, rfl⟩
  rw [hfb] at hft hz
  rw [hdd] at hz ⊢
  have HZ : Hid (rightT t = (decide (n ≤ 64) && decide (l ≤ 8192) && decide ((dd : Int) ≤ 8) && fb)) := hz
  unfold compV at hft
  clear hct hb2 hex hz hb hdd hfb
  by_cases h1 : n ≤ 64
  · by_cases h2 : l ≤ 8192
    · by_cases h3 : (dd : Int) ≤ 8
      · go_wp2_with fail
        refine hft.mono ?_
        rintro e w3 ⟨rfl, hb3⟩
        have HB3 : Hid (Below w.heap.size w w3) := HB2.out.trans (hb3.mono HB2.out.size)
        clear hb3 hft
        go_wp2
        go_ret
        exact ⟨ret_bool (by rw [HZ.out]; simp [h1, h2, h3]), HB3.out⟩
      · go_wp2
        go_ret
        exact ⟨ret_bool (by rw [HZ.out]; simp; intros; omega), HB2.out⟩
    · go_wp2
      go_ret
      exact ⟨ret_bool (by rw [HZ.out]; simp; intros; omega), HB2.out⟩
  · go_wp2
    go_ret
    exact ⟨ret_bool (by rw [HZ.out]; simp; intros; omega), HB2.out⟩
end Go.Proofs.YtenclgnkogmgiaaDoor
namespace Go.Proofs.YtenclgnkogmgiaaDoor
open Go.RowKit Go.Shelf
set_option linter.unusedVariables false
set_option linter.unusedSimpArgs false

def LnPost (U w : World) (l : List Ln) (e : Ending) (w' : World) : Prop :=
  ∃ (v : Value) (ms : List Lm), e = .returned v ∧ w'.ownsRow w.heap.size 39 3 v ms.length (ms.flatMap cellM) ∧ ms.map Lm.ln = l ∧ Below w.heap.size w w' ∧ ∀ m ∈ ms, m.fs.length ≤ 9223372036854775807 ∧ FRow U m.a m.fs
def LnC (h : Nat) : Prop := ∀ (t : Cp) (x y z : Value) (U w : World), CpAt h U t x y z → Below U.heap.size U w → (wlP h t).length ≤ 100000 → Calls Tryd.prog 30 #[compV x y z] w (LnPost U w (wlP h t))
theorem ol_below {B : Nat} {w U V : World} (hB : B ≤ w.heap.size) (hb : Below B w U) (h : Tk (OL B U) U V) : Below B w V :=
  ⟨h.1.trans hb.os, h.2.1.trans hb.tape, h.2.2.1.trans hb.output, Nat.le_trans hb.size h.size, fun b hlt => (h.2.2.2.2 b (by have := hb.size; omega) (fun q => by have := q.1; omega)).trans (hb.block b hlt)⟩
/-- What lies between two components. -/
def NJ (U w : World) (nm : ByteArray) (vl vc o : Value) (l : List Ln) (acc : List Lm) (V : World) : Prop :=
  acc.map Lm.ln = l ∧ V.ownsRow w.heap.size 39 3 o acc.length (acc.flatMap cellM) ∧ Below w.heap.size w V ∧ Blk V w.heap.size #[.string nm, vl, vc] 25 ∧ ∀ m ∈ acc, m.fs.length ≤ 9223372036854775807 ∧ FRow U m.a m.fs
theorem NJ.more {w : World} {nm : ByteArray} {vl vc o o' : Value} {l l' : List Ln} {acc ks : List Lm} {A U V : World} (h : NJ A w nm vl vc o l acc U) (ht : Tk (OL w.heap.size U) U V) (ho : V.ownsRow w.heap.size 39 3 o' (acc.length + ks.length) (acc.flatMap cellM ++ ks.flatMap cellM)) (hk : ks.map Lm.ln = l')
    (hf : ∀ m ∈ ks, m.fs.length ≤ 9223372036854775807 ∧ FRow A m.a m.fs) : NJ A w nm vl vc o' (l ++ l') (acc ++ ks) V := by
  obtain ⟨h1, h2, h3, h4, h5⟩ := h
  refine ⟨by rw [List.map_append, h1, hk], by rw [List.length_append, List.flatMap_append]; exact ho, ol_below (Nat.le_refl _) h3 ht, ol_kept ht h4 (by decide), fun m hm => ?_⟩
  rcases List.mem_append.1 hm with hm | hm
  · exact h5 m hm
  · exact hf m hm
theorem NJ.keep {w : World} {nm : ByteArray} {vl vc o : Value} {l : List Ln} {acc : List Lm} {A U V : World} (h : NJ A w nm vl vc o l acc U) (hb : Below U.heap.size U V) : NJ A w nm vl vc o l acc V := by
  obtain ⟨h1, h2, h3, h4, h5⟩ := h
  exact ⟨h1, own_keep h2 hb, h3.trans (hb.mono h3.size), h4.below hb h4.lt, h5⟩
theorem row_slice {W : World} {B : Nat} {e : TypeId} {k n : Nat} {v : Value} {xs : List Value} (h : W.ownsRow B e k v n xs) : ∃ a c, v = .slice a n c := by
  rcases h.2 with ⟨rfl, h0, _⟩ | ⟨g, cap, cur, rfl, _⟩
  · exact ⟨none, 0, rfl⟩
  · exact ⟨_, _, rfl⟩
set_option maxHeartbeats 16000000 in
set_option maxRecDepth 100000 in
theorem lines_step (h' : Nat) (ih : LnC h') : LnC (h' + 1) := by
  intro t x y z U w hp hUw hlen
  have HUW : Hid (Below U.heap.size U w) := hUw
  clear hUw
  obtain ⟨j0, hi, hz0, hz1, hz2⟩ := info_parts Tryd.info39
  obtain ⟨⟨nm, rfl, hnm⟩, ⟨la, lc, ms, rfl, lr, hms, lm, hlc, mf⟩, ⟨pl, pa, pc, rfl, prow⟩⟩ := hp
  obtain ⟨ln, hln⟩ : ∃ n, ms.length = n := ⟨_, rfl⟩
  obtain ⟨pn, hpn⟩ : ∃ n, t.cs.length = n := ⟨_, rfl⟩
  have hpm : pn ≤ 9223372036854775807 := by unfold maxLen at pl; omega
  have HLN : Hid (ms.length = ln) := hln
  have HPN : Hid (t.cs.length = pn) := hpn
  have HMS : Hid (ms.map Lm.ln = t.ls) := hms
  have HNM : Hid (nums nm = t.nm) := hnm
  have HLR : Hid (LRow U la ms) := lr
  have HMF : Hid (∀ m ∈ ms, m.fs.length ≤ 9223372036854775807 ∧ FRow U m.a m.fs) := fun m hm => ⟨mf m hm, by
    obtain ⟨k, hk⟩ := List.getElem?_of_mem hm
    rcases lr with h0 | ⟨b, off, _, h⟩
    · rw [h0] at hk; simp at hk
    · exact (h k m hk).2⟩
  have HPR : Hid (t.cs = [] ∨ ∃ b off, pa = some ⟨b, off, none⟩ ∧ ∀ (i : Nat) (t_1 : Cp), t.cs[i]? = some t_1 → ∃ x y z, U.cell? ⟨b, off + i * 3, none⟩ = some x ∧ U.cell? ⟨b, off + i * 3 + 1, none⟩ = some y ∧ U.cell? ⟨b, off + i * 3 + 2, none⟩ = some z ∧ CpAt h' U t_1 x y z) := prow
  have HIH : Hid (LnC h') := ih
  have hTL : t.ls.length = ln := by rw [← hms, List.length_map]; exact hln
  have hwl : 2 + ln ≤ (wlP (h' + 1) t).length := by simp only [wlP, List.length_append, List.length_cons, List.length_nil]; omega
  have HTL : Hid (t.ls.length = ln) := hTL
  have HWL : Hid ((wlP (h' + 1) t).length ≤ 100000) := hlen
  have hl1 : 2 + ln ≤ 100000 := by omega
  rw [hln, hpn]
  obtain ⟨w0, hw0⟩ : ∃ w0, w.alloc (.cells #[.string nm, .slice la ln lc, .slice pa pn pc] 25) = w0 := ⟨_, rfl⟩
  have hz : w0.heap.size = w.heap.size + 1 := by rw [← hw0, World.size_alloc]
  have HK0 : Hid (Below w.heap.size w w0) := by unfold Hid; rw [← hw0]; exact keep w _
  have hG0 : Blk w0 w.heap.size #[.string nm, .slice la ln lc, .slice pa pn pc] 25 := by rw [← hw0]; exact Blk.new _ _ _
  have HN0 : Hid (NJ U w nm (.slice la ln lc) (.slice pa pn pc) (.slice none 0 0) [] [] w0) := ⟨rfl, World.ownsRow_nil _ _ _ _, HK0.out, hG0, fun m hm => by simp at hm⟩
  obtain ⟨q0, q1, q2⟩ := cells3 hG0
  obtain ⟨B, hB⟩ : ∃ B, w.heap.size = B := ⟨_, rfl⟩
  have HB : Hid (w.heap.size = B) := hB
  unfold compV
  rw [hB] at q0 q1 q2 hz
  clear hnm lr hms mf prow hln hpn ih pl lm hlen hwl hTL hG0
  go_enter Tryd.func30, Tryd.ntmps30
  go_wp2_with (at_builtin; refine wpList_append_own _ rfl (.tmp 5) (.tmp 9) 22 rfl B 39 j0 _ 3 56 Tryd.underlying22 hi hz0 hz1 hz2 rfl (by decide) _ 0 _ rfl (World.ownsRow_nil _ _ _ _) ⟨B + 1, 0, none⟩ 1 1 (cellM ⟨⟨#[66, 69, 71, 73, 78]⟩, nm, none, 0, []⟩) rfl rfl ?a0 ?a4 ?a1 ?a2 ?a3 ?_)
  case a0 => rw [← hz]; exact cells_new w0 _ 39
  case a4 => intro u hu; simp [cellM] at hu; rcases hu with rfl | rfl | rfl <;> rfl
  case a1 => unfold maxLen; omega
  case a2 => omega
  case a3 => rw [World.size_alloc]; omega
  intro v1 w1 hown1 hgrow1 _
  have hk1 := keep w0 (.cells #[.string ⟨#[66, 69, 71, 73, 78]⟩, .slice none 0 0, .string nm] 39)
  have HN1 : Hid (NJ U w nm (.slice la ln lc) (.slice pa pn pc) v1 [⟨bgZ, [], t.nm⟩] [⟨⟨#[66, 69, 71, 73, 78]⟩, nm, none, 0, []⟩] w1) := by
    unfold Hid
    have := HN0.out.keep hk1
    have := this.more (V := w1) (o' := v1) (ks := [⟨⟨#[66, 69, 71, 73, 78]⟩, nm, none, 0, []⟩]) (l' := [⟨bgZ, [], t.nm⟩]) (ol_grown (this.2.1) hgrow1) (by rw [HB.out]; simpa using hown1) (by rw [← HNM.out]; rfl) (by intro m hm; simp at hm; subst hm; exact ⟨Nat.zero_le _, .inl rfl⟩)
    simpa using this
  obtain ⟨va1, vc1, rfl⟩ := row_slice hown1
  have hsz1 : B + 1 < w1.heap.size := by have := hgrow1.size; rw [World.size_alloc] at this; omega
  have hlr1 := HLR.out.below (HUW.out.trans (HN1.out.2.2.1.mono HUW.out.size))
  have HO1 : Hid (w1.ownsRow B 39 3 (.slice va1 (0 + 1) vc1) (0 + 1) ([] ++ cellM ⟨⟨#[66, 69, 71, 73, 78]⟩, nm, none, 0, []⟩)) := hown1
  obtain ⟨p0, p1, p2⟩ := cells3 HN1.out.2.2.2.1
  rw [HB.out] at p0 p1 p2
  clear hk1 hown1 hgrow1 q0 q1 q2 hw0
  go_wp2_with (at_builtin; refine wpList_append_ms rfl (.tmp 11) (.tmp 13) rfl B _ (0 + 1) _ rfl HO1.out la ln lc ms rfl HLN.out hlr1 hlc (by omega) (by omega) ?_)
  intro v2 w2 hown2 ht2
  have HN2 : Hid (NJ U w nm (.slice la ln lc) (.slice pa pn pc) v2 (⟨bgZ, [], t.nm⟩ :: (t.ls ++ (t.cs.take 0).flatMap (wlP h'))) (⟨⟨#[66, 69, 71, 73, 78]⟩, nm, none, 0, []⟩ :: ms) w2) := by
    unfold Hid
    have := HN1.out.more (V := w2) (o' := v2) (ks := ms) (l' := t.ls) (by rw [HB.out]; exact ht2) (by rw [HB.out, HLN.out]; simpa using hown2) HMS.out HMF.out
    simpa using this
  obtain ⟨va2, vc2, rfl⟩ := row_slice hown2
  obtain ⟨r0, r1, r2⟩ := cells3 HN2.out.2.2.2.1
  rw [HB.out] at r0 r1 r2
  have hsz2 : B + 1 < w2.heap.size := by have := ht2.size; omega
  clear hown2 ht2 p0 p1 p2 hlr1
  go_wp2_with fail
  go_loopw [4, 3] (fun i o wr => ∃ (j : Nat) (acc : List Lm) (oa : Option Addr) (on oc : Nat), i = .int .i64 (j : Nat) ∧ j ≤ pn ∧ o = .slice oa on oc ∧ NJ U w nm (.slice la ln lc) (.slice pa pn pc) o (⟨bgZ, [], t.nm⟩ :: (t.ls ++ (t.cs.take j).flatMap (wlP h'))) acc wr ∧ B + 1 < wr.heap.size) (fun i _ _ => pn - (intOf i).toNat)
  case atStart => exact ⟨0, _, va2, _, vc2, rfl, by omega, rfl, HN2.out, hsz2⟩
  case round =>
    clear HN2 r0 r1 r2 hsz2
    obtain ⟨j, acc, oa, on, oc, rfl, hj, rfl, hnj, hsz⟩ := hrel
    have HNJ : Hid (NJ U w nm (.slice la ln lc) (.slice pa pn pc) (.slice oa on oc) (⟨bgZ, [], t.nm⟩ :: (t.ls ++ (t.cs.take j).flatMap (wlP h'))) acc wr) := hnj
    have haccl : acc.length = 1 + ln + ((t.cs.take j).flatMap (wlP h')).length := by
      have := congrArg List.length hnj.1
      rw [List.length_map, List.length_cons, List.length_append, HTL.out] at this
      omega
    obtain ⟨al, hal⟩ : ∃ n, acc.length = n := ⟨_, rfl⟩
    have HAL : Hid (acc.length = al) := hal
    obtain ⟨r0, r1, r2⟩ := cells3 hnj.2.2.2.1
    rw [HB.out] at r0 r1 r2
    by_cases hlt : j < pn
    · obtain ⟨u, hu⟩ : ∃ u, t.cs[j]? = some u := ⟨_, List.getElem?_eq_getElem (by have := HPN.out; omega)⟩
      have hle := take_le h' t j u hu
      have hwl := HWL.out
      rw [HTL.out] at hle
      rcases HPR.out with h0 | ⟨b1, o1, rfl, g1⟩
      · rw [h0] at hu; simp at hu
      obtain ⟨x1, y1, z1, e1, e2, e3, e4⟩ := g1 j u hu
      have hbU : Below U.heap.size U wr := HUW.out.trans (hnj.2.2.1.mono HUW.out.size)
      have HBU : Hid (Below U.heap.size U wr) := hbU
      have e5 := CpAt.below hbU _ _ _ _ _ e4
      have e1 := cell_keep hbU e1
      have e2 := cell_keep hbU e2
      have e3 := cell_keep hbU e3
      have hch := HIH.out u x1 y1 z1 U wr e4 hbU (by omega)
      have HTA : Hid ((t.cs.take (j + 1)).flatMap (wlP h') = (t.cs.take j).flatMap (wlP h') ++ wlP h' u) := by
        unfold Hid; rw [List.take_add_one, hu]; simp
      have HCL : Hid (al + (wlP h' u).length ≤ 100000) := by unfold Hid; omega
      obtain ⟨⟨un, rfl, _⟩, ⟨ya, yn, yc, rfl⟩, ⟨za, zn, zc, rfl⟩⟩ := cp_form e5
      unfold compV at hch
      have hjp : ¬ (pn : Int) ≤ j := by omega
      clear e4 e5 g1 hu hle hwl haccl hal hnj hbU
      go_wp2_with fail
      refine hch.mono ?_
      rintro e w4 ⟨v4, ms4, rfl, hown4, hms4, hb4, hf4⟩
      clear hch e1 e2 e3 r0 r1 r2
      obtain ⟨a4, c4, rfl, hlr4⟩ := ownM_view hown4 (fun m hm => (hf4 m hm).2.below (HBU.out.trans (hb4.mono HBU.out.size)))
      have hlc4 : a4 = none → c4 = 0 := fun e => by
        subst e
        rcases hown4.2 with ⟨h1, _⟩ | ⟨g, cap', cur, h1, _⟩
        · injection h1
        · cases h1
      have HN4 : Hid (NJ U w nm (.slice la ln lc) (.slice (some ⟨b1, o1, none⟩) pn pc) (.slice oa on oc) (⟨bgZ, [], t.nm⟩ :: (t.ls ++ (t.cs.take j).flatMap (wlP h'))) acc w4) := HNJ.out.keep hb4
      have HO4 : Hid (w4.ownsRow B 39 3 (.slice oa on oc) al (acc.flatMap cellM)) := by unfold Hid; rw [← HB.out, ← HAL.out]; exact HN4.out.2.1
      obtain ⟨n4, hn4⟩ : ∃ n, ms4.length = n := ⟨_, rfl⟩
      have HM4 : Hid (ms4.length = n4) := hn4
      have hb44 : al + n4 ≤ 100000 := by have := HCL.out; rw [← hms4, List.length_map] at this; omega
      have HMS4 : Hid (ms4.map Lm.ln = wlP h' u) := hms4
      have HF4 : Hid (∀ m ∈ ms4, m.fs.length ≤ 9223372036854775807 ∧ FRow U m.a m.fs) := hf4
      have hsz4 : B + 1 < w4.heap.size := by have := hb4.size; omega
      rw [hn4]
      clear hown4 hb4 hms4 hf4 hn4
      go_wp2_with (at_builtin; refine wpList_append_ms rfl (.tmp 22) (.tmp 28) rfl B _ al _ rfl HO4.out a4 n4 c4 ms4 rfl HM4.out hlr4 hlc4 hb44 (by omega) ?_)
      intro v5 w5 hown5 ht5
      have HN5 : Hid (NJ U w nm (.slice la ln lc) (.slice (some ⟨b1, o1, none⟩) pn pc) v5 (⟨bgZ, [], t.nm⟩ :: (t.ls ++ (t.cs.take (j + 1)).flatMap (wlP h'))) (acc ++ ms4) w5) := by
        unfold Hid
        have := HN4.out.more (V := w5) (o' := v5) (ks := ms4) (l' := wlP h' u) (by rw [HB.out]; exact ht5) (by rw [HB.out, HAL.out, HM4.out]; exact hown5) HMS4.out HF4.out
        rw [HTA.out]
        simpa using this
      obtain ⟨va5, vc5, rfl⟩ := row_slice hown5
      have hsz5 : B + 1 < w5.heap.size := by have := ht5.size; omega
      clear hown5 ht5 hlr4 hlc4
      go_wp2
      go_roundw
      case rel => exact ⟨j + 1, acc ++ ms4, va5, _, vc5, by go_num, by omega, rfl, HN5.out, hsz5⟩
      case measure => simp [intOf]; omega
    · obtain rfl : j = pn := by omega
      have hbound : al + 1 ≤ 100000 := by
        have h1 := HWL.out
        have h2 := HPN.out
        simp only [wlP, List.length_append, List.length_cons, List.length_nil] at h1
        rw [List.take_of_length_le (by omega)] at haccl
        have h3 := HTL.out
        omega
      obtain ⟨R, hR⟩ : ∃ R, wr.heap.size = R := ⟨_, rfl⟩
      have HO5 : Hid (wr.ownsRow B 39 3 (.slice oa on oc) al (acc.flatMap cellM)) := by unfold Hid; rw [← HB.out, ← HAL.out]; exact hnj.2.1
      clear haccl hal hnj
      go_wp2_with (at_builtin; refine wpList_append_own _ rfl (.tmp 30) (.tmp 34) 22 rfl B 39 j0 _ 3 56 Tryd.underlying22 hi hz0 hz1 hz2 rfl (by decide) _ al _ rfl (own_keep HO5.out (keep _ _)) ⟨R, 0, none⟩ 1 1 (cellM ⟨⟨#[69, 78, 68]⟩, nm, none, 0, []⟩) rfl rfl ?a0 ?a4 ?a1 ?a2 ?a3 ?_)
      case a0 => rw [← hR]; exact cells_new wr _ 39
      case a4 => intro u hu; simp [cellM] at hu; rcases hu with rfl | rfl | rfl <;> rfl
      case a1 => unfold maxLen; omega
      case a2 => omega
      case a3 => rw [World.size_alloc]; omega
      intro v6 w6 hown6 hgrow6 _
      have hk6 := keep wr (.cells #[.string ⟨#[69, 78, 68]⟩, .slice none 0 0, .string nm] 39)
      have HP : Hid (LnPost U w (wlP (h' + 1) t) (.returned v6) w6) := by
        have h1 := HNJ.out.keep hk6
        have h2 := h1.more (V := w6) (o' := v6) (ks := [⟨⟨#[69, 78, 68]⟩, nm, none, 0, []⟩]) (l' := [⟨enZ, [], t.nm⟩]) (ol_grown h1.2.1 hgrow6) (by rw [HB.out, HAL.out]; simpa using hown6) (by rw [← HNM.out]; rfl) (by intro m hm; simp at hm; subst hm; exact ⟨Nat.zero_le _, .inl rfl⟩)
        rw [List.take_of_length_le (by have := HPN.out; omega)] at h2
        exact ⟨v6, _, rfl, h2.2.1, by rw [h2.1, wlP], h2.2.2.1, h2.2.2.2.2⟩
      obtain ⟨va6, vc6, rfl⟩ := row_slice hown6
      clear hown6 hgrow6 hk6
      go_wp2
      go_ret
      exact HP.out
theorem lines_all : ∀ h, LnC h
  | 0 => fun t x y z U w hp => hp.elim
  | h + 1 => lines_step h (lines_all h)
end Go.Proofs.YtenclgnkogmgiaaDoor
namespace Go.Proofs.YtenclgnkogmgiaaDoor
open Go.RowKit Go.Shelf
set_option linter.unusedVariables false
set_option linter.unusedSimpArgs false

def RwPost (w : World) (h : Nat) (t : Cp) (e : Ending) (w' : World) : Prop :=
  ∃ v c, e = .returned (.tuple #[v, .int .i64 c]) ∧ Below w.heap.size w w' ∧
    ((c = 0 ∧ rightT t = true ∧ (outN (wlP h t)).length ≤ 1048576 ∧ Own w' w.heap.size v (outN (wlP h t))) ∨
     (v = .slice none 0 0 ∧ ((rightT t = false ∧ c = 100) ∨ (rightT t = true ∧ c = 2 ∧ 1048576 < (outN (wlP h t)).length))))
theorem one_lrow {w : World} {b off i : Nat} {ms : List Lm} {m : Lm} (h : LRow w (some ⟨b, off, none⟩) ms) (hi : ms[i]? = some m) : LRow w (some ⟨b, off + i * 3, none⟩) [m] := by
  rcases h with h0 | ⟨b', o', e, h⟩
  · rw [h0] at hi; simp at hi
  · cases e
    refine .inr ⟨b, off + i * 3, rfl, fun j k hk => ?_⟩
    cases j with
    | zero => simp at hk; subst hk; simpa using h i m hi
    | succ j => simp at hk
theorem fold_some (l : List Int) : endW (foldL l) ≠ [] := by
  have : ∀ n f (r : List Int), ∃ x y, foldZ n f r = x :: y := by
    intro n f r
    cases n with
    | zero => exact ⟨_, _, rfl⟩
    | succ n =>
      unfold foldZ
      split
      · exact ⟨_, _, rfl⟩
      · exact ⟨_, _, rfl⟩
  obtain ⟨x, y, h⟩ := this l.length [] l
  unfold foldL
  rw [h]
  simp [endW]
theorem one_write {m : Lm} (h : okM m = true) : writeC [m] = 0 ∧ writeB [m] = endW (linesM m) := by
  have h1 : writeC [m] = 0 := by unfold writeC; simp [h]
  refine ⟨h1, ?_⟩
  unfold writeB
  rw [if_pos h1]
  simp [outM]
theorem outM_take_len (ms : List Lm) (h : ms.all okM = true) (k : Nat) (hl : ms.length ≤ 10000) : (outM (ms.take k)).length ≤ 1000000000 := by
  have h1 := outM_len (ms.take k) (by
    rw [List.all_eq_true] at h ⊢
    exact fun m hm => h m (List.mem_of_mem_take hm))
  have h2 : (ms.take k).length ≤ 10000 := by simp; omega
  omega
theorem row_caps {W : World} {B : Nat} {e : TypeId} {k n n' c : Nat} {a : Option Addr} {xs : List Value} (h : W.ownsRow B e k (.slice a n' c) n xs) : n' = n ∧ n ≤ c ∧ c ≤ 9223372036854775807 := by
  rcases h.2 with ⟨e0, h0⟩ | ⟨g, cap, cur, e0, _, _, h1, h2, _⟩
  · cases e0; omega
  · cases e0; unfold maxLen at h2; omega
set_option maxHeartbeats 16000000 in
set_option maxRecDepth 100000 in
theorem rwrite_tree (h k : Nat) (t : Cp) (x y z : Value) (w : World) (hp : CpAt h w t x y z) (hsm : smallT k t) (hk : k ≤ 100) : Calls Tryd.prog 13 #[compV x y z] w (RwPost w h t) := by
  obtain ⟨j0, hi, hz0, hz1, hz2⟩ := info_parts Tryd.info5
  have hf := small_fit k h t hsm
  obtain ⟨⟨nm, rfl, _⟩, ⟨ya, yn, yc, rfl⟩, ⟨za, zn, zc, rfl⟩⟩ := cp_form hp
  have hk0 := keep w (.cells #[.string nm, .slice ya yn yc, .slice za zn zc] 25)
  have hrt := rright_tree h k t _ _ _ (w.alloc (.cells #[.string nm, .slice ya yn yc, .slice za zn zc] 25)) (CpAt.below hk0 _ _ _ _ _ hp) hsm hk
  have HK0 : Hid (Below w.heap.size w (w.alloc (.cells #[.string nm, .slice ya yn yc, .slice za zn zc] 25))) := hk0
  have HG0 : Hid (Blk (w.alloc (.cells #[.string nm, .slice ya yn yc, .slice za zn zc] 25)) w.heap.size #[.string nm, .slice ya yn yc, .slice za zn zc] 25) := Blk.new _ _ _
  have HP : Hid (CpAt h w t (.string nm) (.slice ya yn yc) (.slice za zn zc)) := hp
  have HF : Hid (FitC h t) := hf
  obtain ⟨rb, hrb⟩ : ∃ b, rightT t = b := ⟨_, rfl⟩
  rw [hrb] at hrt
  have HRB : Hid (rightT t = rb) := hrb
  unfold compV at hrt ⊢
  clear hk0 hp hsm hf hrb
  go_enter Tryd.func13, Tryd.ntmps13
  go_wp2_with fail
  refine hrt.mono ?_
  rintro e w2 ⟨rfl, hb2⟩
  clear hrt
  have hb := HK0.out.trans (hb2.mono HK0.out.size)
  have HB2 : Hid (Below w.heap.size w w2) := hb
  have HG2 : Hid (Blk w2 w.heap.size #[.string nm, .slice ya yn yc, .slice za zn zc] 25) := HG0.out.below hb2 HG0.out.lt
  obtain ⟨c0, c1, c2⟩ := cells3 HG2.out
  clear hb2 hb
  cases rb with
  | false =>
    go_wp2
    go_ret2
    exact ⟨_, _, rfl, HB2.out, .inr ⟨rfl, .inl ⟨HRB.out, rfl⟩⟩⟩
  | true =>
  have hwl := right_len (h := h) HRB.out
  have hln := lines_all h t _ _ _ w w2 HP.out HB2.out (by omega)
  unfold compV at hln
  go_wp2_with fail
  refine hln.mono ?_
  rintro e w3 ⟨v3, ms, rfl, hown3, hms, hb3, hfr⟩
  clear hln c0 c1 c2
  have HB3 : Hid (Below w.heap.size w w3) := HB2.out.trans (hb3.mono HB2.out.size)
  obtain ⟨a3, cc3, rfl, hlr3⟩ := ownM_view hown3 (fun m hm => (hfr m hm).2.below HB3.out)
  obtain ⟨n, hn⟩ : ∃ n, ms.length = n := ⟨_, rfl⟩
  have hn8 : n ≤ 8320 := by rw [← hn, ← List.length_map (f := Lm.ln), hms]; exact hwl
  have hcap : n ≤ cc3 ∧ cc3 ≤ 9223372036854775807 := by have := row_caps hown3; omega
  have HN : Hid (ms.length = n) := hn
  have HMS : Hid (ms.map Lm.ln = wlP h t) := hms
  have HLR : Hid (LRow w3 a3 ms) := hlr3
  have HOK : Hid (∀ m ∈ ms, okM m = true) := fun m hm => wl_right 8 h (0, 0) t HRB.out _ (by rw [← hms]; exact List.mem_map.2 ⟨m, hm, rfl⟩)
  have HFT : Hid (∀ m ∈ ms, Fitm m) := fun m hm => fit_ln (fit_wl h t HF.out _ (by rw [← hms]; exact List.mem_map.2 ⟨m, hm, rfl⟩))
  have HOL : Hid (∀ q, (outM (ms.take q)).length ≤ 1000000000) := fun q => outM_take_len ms (List.all_eq_true.2 HOK.out) q (by omega)
  rw [hn]
  clear hwl hown3 hb3 hms hfr hlr3 hn
  go_wp2
  go_loopw [6, 5, 7, 8] (fun i o _ _ wr => ∃ q : Nat, i = .int .i64 q ∧ q ≤ n ∧ Own wr w3.heap.size o (outM (ms.take q)) ∧ Below w3.heap.size w3 wr) (fun i _ _ _ _ => n - (intOf i).toNat)
  case atStart => exact ⟨0, rfl, by omega, World.ownsRow_nil _ _ _ _, Below.refl _ _⟩
  case round =>
    obtain ⟨q, rfl, hq, hown, hbr⟩ := hrel
    have HO : Hid (Own wr w3.heap.size u5 (outM (ms.take q))) := hown
    have HBR : Hid (Below w3.heap.size w3 wr) := hbr
    obtain ⟨oa, oc, ho5⟩ := row_slice hown
    clear hown hbr
    by_cases hlt : q < n
    · obtain ⟨m, hm⟩ : ∃ m, ms[q]? = some m := ⟨_, List.getElem?_eq_getElem (by have := HN.out; omega)⟩
      obtain ⟨b, off, rfl⟩ : ∃ b off, a3 = some ⟨b, off, none⟩ := by
        rcases HLR.out with h0 | ⟨b, off, e, _⟩
        · rw [h0] at hm; simp at hm
        · exact ⟨b, off, e⟩
      have hrow := one_lrow (HLR.out.below HBR.out) hm
      have hwr := fun cp => rwrite_any (some ⟨b, off + q * 3, none⟩) 1 cp [m] wr rfl (by omega) hrow (fun m' hm' => by rw [List.mem_singleton.1 hm']; exact HFT.out m (List.mem_of_getElem? hm))
      have hok := HOK.out m (List.mem_of_getElem? hm)
      have HTK : Hid (outM (ms.take (q + 1)) = outM (ms.take q) ++ endW (linesM m)) := by unfold Hid; rw [List.take_add_one, hm]; exact outM_snoc _ _
      have HW1 : Hid (writeC [m] = 0 ∧ writeB [m] = endW (linesM m)) := one_write hok
      have hl1 := HOL.out (q + 1)
      rw [HTK.out, List.length_append] at hl1
      obtain ⟨L0, hL0⟩ : ∃ n, (outM (ms.take q)).length = n := ⟨_, rfl⟩
      obtain ⟨L1, hL1⟩ : ∃ n, (endW (linesM m)).length = n := ⟨_, rfl⟩
      have HL0 : Hid ((outM (ms.take q)).length = L0) := hL0
      have HL1 : Hid ((endW (linesM m)).length = L1) := hL1
      rw [hL0, hL1] at hl1
      clear hrow hok hm hL0 hL1 ho5
      go_wp2_with fail
      refine (hwr _).mono ?_
      rintro e w4 ⟨v4, rfl, hown4, hb4⟩
      clear hwr
      rw [HW1.out.2] at hown4
      rw [HW1.out.1]
      have HO4 : Hid (w4.ownsRow w3.heap.size 5 1 u5 L0 ((outM (ms.take q)).map (Value.int .u8))) := by unfold Hid; rw [← HL0.out]; exact own_keep HO.out hb4
      have HB4 : Hid (Below w3.heap.size w3 w4) := HBR.out.trans (hb4.mono HBR.out.size)
      have HN4 : Hid (w4.ownsRow wr.heap.size 5 1 v4 L1 ((endW (linesM m)).map (Value.int .u8))) := by unfold Hid; rw [← HL1.out]; exact hown4
      have hne : L1 ≠ 0 := by
        have := HL1.out
        intro h0
        have h1 : endW (linesM m) = [] := List.eq_nil_of_length_eq_zero (by omega)
        have h2 := fold_some (writtenZ m.ln)
        exact h2 h1
      obtain ⟨g4, c4, rfl⟩ : ∃ g c, v4 = .slice (some ⟨g, 0, none⟩) L1 c := by
        rcases HN4.out.2 with ⟨_, h0⟩ | ⟨g, cap, cur, e, _⟩
        · exact absurd h0 hne
        · exact ⟨g, cap, e⟩
      have hsz4 := HB4.out.size
      clear hown4 hb4
      go_wp2_with (at_builtin; refine wpList_append_own _ rfl (.tmp 29) (.tmp 30) 29 rfl w3.heap.size 5 j0 (.int .u8 0) 1 1 Tryd.underlying29 hi hz0 hz1 hz2 rfl (by decide) u5 L0 _ rfl HO4.out ⟨g4, 0, none⟩ L1 c4 ((endW (linesM m)).map (Value.int .u8)) rfl ?a0 ?a1 ?a2 ?a3 ?a4 ?a5 ?_)
      case a0 => rw [List.length_map, HL1.out]; omega
      case a1 => exact fun jj u hu => HN4.out.cells (g := g4) rfl jj u hu
      case a2 => intro u hu; obtain ⟨y, _, rfl⟩ := List.mem_map.1 hu; rfl
      case a3 => unfold maxLen; omega
      case a4 => omega
      case a5 => exact hsz4
      intro v5 w5 hown5 hgrow5 _
      have HO5 : Hid (Own w5 w3.heap.size v5 (outM (ms.take (q + 1)))) := by
        unfold Hid Own
        rw [HTK.out, List.length_append, List.map_append, HL0.out, HL1.out]
        exact hown5
      have HB5 : Hid (Below w3.heap.size w3 w5) := HB4.out.trans (grown_own hsz4 HO4.out hgrow5)
      clear hown5 hgrow5
      go_wp2
      go_roundw
      case rel => exact ⟨q + 1, by go_num, by omega, HO5.out, HB5.out⟩
      case measure => simp [intOf]; omega
    · obtain rfl : q = n := by omega
      have HO6 : Hid (Own wr w3.heap.size u5 (outN (wlP h t))) := by
        unfold Hid
        have := HO.out
        rw [List.take_of_length_le (by have := HN.out; omega), outN_M, HMS.out] at this
        exact this
      have HBW : Hid (Below w.heap.size w wr) := HB3.out.trans (HBR.out.mono HB3.out.size)
      obtain ⟨oa, oc, ho6⟩ := row_slice HO6.out
      obtain ⟨L, hL⟩ : ∃ n, (outN (wlP h t)).length = n := ⟨_, rfl⟩
      rw [hL] at ho6
      have HL : Hid ((outN (wlP h t)).length = L) := hL
      have hLb : L ≤ 9223372036854775807 := by have := row_caps (ho6 ▸ HO6.out); omega
      subst ho6
      clear hL ho5
      by_cases hbig : 1048576 < L
      · have hd : decide ((L : Int) > 1048576) = true := by simp; omega
        go_wp2
        go_ret2
        exact ⟨_, _, rfl, HBW.out, .inr ⟨rfl, .inr ⟨HRB.out, rfl, by rw [HL.out]; exact hbig⟩⟩⟩
      · have hd : decide ((L : Int) > 1048576) = false := by simp; omega
        go_wp2
        go_ret2
        exact ⟨_, _, rfl, HBW.out, .inl ⟨rfl, HRB.out, by rw [HL.out]; omega, own_mono HO6.out HB3.out.size⟩⟩
end Go.Proofs.YtenclgnkogmgiaaDoor
