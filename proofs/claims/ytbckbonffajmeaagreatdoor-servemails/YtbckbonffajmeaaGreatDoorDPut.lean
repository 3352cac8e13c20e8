/-
  The contracts of New, Put and Text.
-/
import Derived.Test.YtbckbonffajmeaaGreatDoorDTake
import Derived.Deep.RegionWith
namespace Go.Proofs.YtbckbonffajmeaaGreatDoor.Dt
open Go.RowKit
set_option linter.unusedVariables false

def new0 (m : Int) : RS := { most := if m < 0 then 0 else m, kept := [], size := 0, came := 0, pointed := false, half := false, bare := false, wide := false, over := false }

set_option maxRecDepth 100000 in
set_option maxHeartbeats 1000000 in
theorem new_any (m : Int) (w : World) :
    Calls Tryz.prog 125 #[.int .i64 m] w fun e w' => e = .returned (.pointer (some ⟨w.heap.size, 0, none⟩)) ∧ w' = w.alloc (.cells (cellsR (.slice none 0 0) (new0 m)) 111) := by
  by_cases h : m < 0
  · have hd : decide (m < 0) = true := by simpa using h
    go_enter Tryz.func125, Tryz.ntmps125
    go_wp2
    go_ret
    refine ⟨rfl, ?_⟩
    simp [cellsR, new0, h]
  · have hd : decide (m < 0) = false := by simpa using h
    go_enter Tryz.func125, Tryz.ntmps125
    go_wp2
    go_ret
    refine ⟨rfl, ?_⟩
    simp [cellsR, new0, show ¬ m < 0 by omega]

/-- What a reader is behind bytes, and how many it took. -/
def runZ : RS → List Int → RS × Nat
  | s, [] => (s, 0)
  | s, c :: l => if (takeZ s c).over = true then (takeZ s c, 1) else ((runZ (takeZ s c) l).1, (runZ (takeZ s c) l).2 + 1)

def b2i (b : Bool) : Int := if b = true then 1 else 0
/-- What holds of a reader that took k bytes. -/
structure Fit (s : RS) (k : Nat) : Prop where
  came : 0 ≤ s.came
  size : 0 ≤ s.size
  all : s.size + s.came + b2i s.half ≤ k
  len : (s.kept.length : Int) ≤ s.size + s.came
  pt : s.pointed = true → 1 ≤ s.came
  eq : faultZ s = 0 → (s.kept.length : Int) = s.size + s.came - b2i s.pointed
theorem Fit.mono {s : RS} {k m : Nat} (h : Fit s k) (hk : k ≤ m) : Fit s m := ⟨h.came, h.size, by have := h.all; omega, h.len, h.pt, h.eq⟩
theorem fit_new (m : Int) : Fit (new0 m) 0 := ⟨by simp [new0], by simp [new0], by simp [new0, b2i], by simp [new0], by simp [new0], by simp [new0, b2i]⟩

theorem fault_or (s : RS) : faultZ s = 0 ↔ s.bare = false ∧ s.wide = false ∧ ¬ s.most < s.size := by
  unfold faultZ
  cases s.bare <;> cases s.wide <;> simp
  all_goals (split <;> simp_all)
theorem keepZ_fault (s : RS) (l : List Int) : faultZ (keepZ s l) = faultZ s := by
  unfold faultZ; rw [keepZ_bare, keepZ_wide, keepZ_most, keepZ_size]
theorem keepZ_kept (s : RS) (l : List Int) : (keepZ s l).kept = if faultZ s = 0 then s.kept ++ l else [] := by unfold keepZ; split <;> rfl

theorem fit_add {s : RS} {k : Nat} (h : Fit s k) (c : Int) : Fit (addZ s c) (k + 1) := by
  have h1 := h.all
  have h2 := h.came
  have h3 := h.size
  have h4 := h.len
  have key : ∀ s1 : RS, s1.came = s.came → s1.size = s.size → s1.half = s.half → (s1.kept.length : Int) ≤ s.size + s.came + 1 → (faultZ s1 = 0 → (s1.kept.length : Int) = s.size + s.came + 1 - b2i s1.pointed) →
      Fit (if 999 < s1.came + 1 then { s1 with came := s1.came + 1, wide := true } else { s1 with came := s1.came + 1 }) (k + 1) := by
    intro s1 e1 e2 e3 e4 e5
    split
    · refine ⟨by simp only; omega, by simp only; omega, by simp only [e3]; omega, by simp only; omega, by simp only; omega, ?_⟩
      intro hf
      rw [fault_or] at hf
      simp at hf
    · refine ⟨by simp only; omega, by simp only; omega, by simp only [e3]; omega, by simp only; omega, by simp only; omega, ?_⟩
      intro hf
      have hf' : faultZ s1 = 0 := hf
      have := e5 hf'
      simp only; omega
  unfold addZ
  by_cases hp : s.came = 0 ∧ c = 46
  · rw [if_pos hp]
    refine key { s with pointed := true } rfl rfl rfl (by simp only; omega) ?_
    intro hf
    have hf' : faultZ s = 0 := hf
    have he := h.eq hf'
    have : s.pointed = false := by
      cases hq : s.pointed with
      | false => rfl
      | true => have := h.pt hq; omega
    rw [this] at he
    simp only [b2i, Bool.false_eq_true, if_false, if_true] at he ⊢
    omega
  · rw [if_neg hp]
    refine key (keepZ s [c]) (keepZ_came _ _) (keepZ_size _ _) (keepZ_half _ _) (by have := keepZ_len s [c]; simp at this; omega) ?_
    intro hf
    rw [keepZ_fault] at hf
    rw [keepZ_kept, if_pos hf, keepZ_pointed]
    have := h.eq hf
    simp
    omega

theorem fit_end {s : RS} {k : Nat} (h : Fit s k) (hh : s.half = false) : Fit (endZ s) (k + 2) := by
  have h1 := h.all
  rw [hh] at h1
  simp only [b2i, Bool.false_eq_true, if_false] at h1
  have h2 := h.came
  have h3 := h.size
  have h4 := h.len
  unfold endZ
  by_cases hp : s.pointed = true ∧ ownZ s = 0
  · rw [if_pos hp]
    exact ⟨h2, h3, by simp only [b2i, hh, Bool.false_eq_true, if_false]; omega, h4, h.pt, h.eq⟩
  · rw [if_neg hp]
    have ho : 0 ≤ ownZ s ∧ ownZ s ≤ s.came ∧ ownZ s = s.came - b2i s.pointed := by
      unfold ownZ b2i
      cases hq : s.pointed with
      | false => simp; omega
      | true => have := h.pt hq; simp; omega
    obtain ⟨s1, hs1⟩ : ∃ s1 : RS, s1 = { s with wide := s.wide || decide (998 < ownZ s), size := s.size + (ownZ s + 2) } := ⟨_, rfl⟩
    rw [← hs1]
    have e1 : s1.size = s.size + (ownZ s + 2) := by rw [hs1]
    have e2 : s1.half = false := by rw [hs1]; exact hh
    have e3 : s1.kept = s.kept := by rw [hs1]
    refine ⟨by simp, by simp only [keepZ_size]; omega, by simp only [keepZ_size, keepZ_half, e2, b2i, Bool.false_eq_true, if_false]; omega, ?_, by simp, ?_⟩
    · simp only [keepZ_size]
      rw [keepZ_kept, e3]
      split
      · rename_i hf
        have hf' : faultZ s = 0 := by
          rw [fault_or] at hf ⊢
          rw [hs1] at hf
          simp only [Bool.or_eq_false_iff] at hf
          exact ⟨hf.1, hf.2.1.1, by omega⟩
        have := h.eq hf'
        simp only [List.length_append, List.length_cons, List.length_nil]
        omega
      · simp; omega
    · intro hf
      have hf1 : faultZ s1 = 0 := by
        rw [← keepZ_fault s1 [13, 10]]; exact hf
      have hf' : faultZ s = 0 := by
        rw [fault_or] at hf1 ⊢
        rw [hs1] at hf1
        simp only [Bool.or_eq_false_iff] at hf1
        exact ⟨hf1.1, hf1.2.1.1, by omega⟩
      have := h.eq hf'
      simp only [keepZ_size]
      rw [keepZ_kept, if_pos hf1, e3]
      simp only [List.length_append, List.length_cons, List.length_nil, b2i, Bool.false_eq_true, if_false]
      omega

theorem fit_bare {s : RS} {k : Nat} (h : Fit s k) : Fit { s with bare := true } k :=
  ⟨h.came, h.size, h.all, h.len, h.pt, fun hf => by rw [fault_or] at hf; simp at hf⟩
theorem fit_unhalf {s : RS} {k : Nat} (h : Fit s k) : Fit { s with half := false } k :=
  ⟨h.came, h.size, by have := h.all; simp only [b2i, Bool.false_eq_true, if_false] at this ⊢; split at this <;> omega, h.len, h.pt, h.eq⟩
theorem fit_unhalf' {s : RS} {k : Nat} (h : Fit s (k + 1)) (hh : s.half = true) : Fit { s with half := false } k :=
  ⟨h.came, h.size, by have := h.all; rw [hh] at this; simp only [b2i, Bool.false_eq_true, if_false, if_true] at this ⊢; omega, h.len, h.pt, h.eq⟩
theorem fit_half {s : RS} {k : Nat} (h : Fit s k) (hh : s.half = false) : Fit { s with half := true } (k + 1) :=
  ⟨h.came, h.size, by have := h.all; rw [hh] at this; simp only [b2i, Bool.false_eq_true, if_false, if_true] at this ⊢; omega, h.len, h.pt, h.eq⟩

theorem fit_take {s : RS} {k : Nat} (h : Fit s k) (c : Int) : Fit (takeZ s c) (k + 1) := by
  unfold takeZ
  by_cases hh : s.half = true
  · have hk : 1 ≤ k := by
      have h1 := h.all
      have h2 := h.came
      have h3 := h.size
      rw [hh] at h1
      simp only [b2i, if_true] at h1
      omega
    obtain ⟨k, rfl⟩ : ∃ k', k = k' + 1 := ⟨k - 1, by omega⟩
    by_cases h10 : c = 10
    · rw [if_pos ⟨hh, h10⟩]
      exact fit_end (fit_unhalf' h hh) rfl
    · rw [if_neg (fun q => h10 q.2), if_pos hh]
      by_cases h13 : c = 13
      · simp only [h13, if_true, decide_true]
        have : ({ s with half := true, bare := true } : RS) = { s with bare := true } := by rw [← hh]
        rw [this]
        exact fit_add (fit_bare h) 13
      · simp only [h13, if_false, decide_false, h10, Bool.or_false]
        exact fit_add (fit_add (fit_bare (fit_unhalf' h hh)) 13) c
  · have hh' : s.half = false := by simpa using hh
    rw [if_neg (fun q => hh q.1), if_neg hh]
    by_cases h13 : c = 13
    · simp only [h13, if_true, decide_true]
      exact fit_half h hh'
    · simp only [h13, if_false, decide_false]
      refine fit_add ?_ c
      by_cases h10 : c = 10
      · simp only [h10, decide_true, Bool.or_true]
        exact fit_bare (fit_unhalf h)
      · simp only [h10, decide_false, Bool.or_false]
        exact fit_unhalf h

theorem fit_run : ∀ (l : List Int) {s : RS} {k : Nat}, Fit s k → Fit (runZ s l).1 (k + l.length)
  | [], s, k, h => h
  | c :: l, s, k, h => by
    have h1 := fit_take h c
    unfold runZ
    split
    · exact h1.mono (by simp)
    · have := fit_run l h1
      simp only [List.length_cons]
      exact this.mono (by omega)
theorem run_len : ∀ (l : List Int) (s : RS), (runZ s l).2 ≤ l.length
  | [], s => by simp [runZ]
  | c :: l, s => by
    unfold runZ
    split
    · simp
    · have := run_len l (takeZ s c); simp; omega
theorem run_all : ∀ (l : List Int) (s : RS), (runZ s l).1.over = false → (runZ s l).2 = l.length
  | [], s, _ => by simp [runZ]
  | c :: l, s, h => by
    unfold runZ at h ⊢
    split
    · rename_i q; rw [if_pos q] at h; simp only at h; rw [q] at h; cases h
    · rename_i q; rw [if_neg q] at h; simp [run_all l _ h]

def putV (r : RS × Nat) : Value := .tuple #[.int .i64 (r.2 : Nat), .bool r.1.over, .int .i64 (if r.1.over = true then faultZ r.1 else 0)]

set_option maxRecDepth 100000 in
set_option maxHeartbeats 1000000 in
theorem put_nil (a : Option Addr) (n c : Nat) (w : World) :
    Calls Tryz.prog 56 #[.pointer none, .slice a n c] w fun e w' => e = .returned (.tuple #[.int .i64 0, .bool false, .int .i64 7]) ∧ w = w' := by
  go_enter Tryz.func56, Tryz.ntmps56
  go_wp2
  go_ret3
  exact ⟨rfl, rfl⟩

set_option maxRecDepth 100000 in
set_option maxHeartbeats 1000000 in
theorem put_over (B g : Nat) (s : RS) (w : World) (hr : Rd w B g s) (ho : s.over = true) (a : Option Addr) (n c : Nat) :
    Calls Tryz.prog 56 #[.pointer (some ⟨g, 0, none⟩), .slice a n c] w fun e w' => e = .returned (.tuple #[.int .i64 0, .bool false, .int .i64 7]) ∧ w = w' := by
  obtain ⟨h1, h2, v, hg, hown⟩ := hr
  have a8 : w.cell? ⟨g, 8, none⟩ = some (.bool true) := by rw [cell_of_row w _ _ _ _ _ hg, ← ho]; rfl
  clear hg hown
  go_enter Tryz.func56, Tryz.ntmps56
  go_wp2
  go_ret3
  exact ⟨rfl, rfl⟩

set_option maxRecDepth 100000 in
set_option maxHeartbeats 2000000 in
theorem put_any (B g : Nat) (s : RS) (w : World) (hr : Rd w B g s) (ho : s.over = false) (m : Nat) (hf : Fit s m) (a : Option Addr) (n c : Nat) (l : List Int) (hl : l.length = n) (hrow : ∀ w', Bx B g w w' → Row w' a l) (hbig : m + n ≤ 800000000) :
    Calls Tryz.prog 56 #[.pointer (some ⟨g, 0, none⟩), .slice a n c] w fun e w' => e = .returned (putV (runZ s l)) ∧ Rd w' B g (runZ s l).1 ∧ Bx B g w w' := by
  have HR : Hid (Rd w B g s) := hr
  have HROW : Hid (∀ w', Bx B g w w' → Row w' a l) := hrow
  have HF : Hid (Fit s m) := hf
  have HO : Hid (s.over = false) := ho
  have HLL : Hid (l.length = n) := hl
  have a8 : w.cell? ⟨g, 8, none⟩ = some (.bool false) := by
    obtain ⟨h1, h2, v, hg, hown⟩ := hr
    rw [cell_of_row w _ _ _ _ _ hg, ← ho]; rfl
  clear hr hrow hf ho
  go_enter Tryz.func56, Tryz.ntmps56
  go_wp2_with fail
  go_loopw [19] (fun v wr => ∃ (k : Nat) (s' : RS), v = .int .i64 k ∧ k ≤ n ∧ Rd wr B g s' ∧ s'.over = false ∧ Fit s' (m + k) ∧ runZ s l = ((runZ s' (l.drop k)).1, (runZ s' (l.drop k)).2 + k) ∧ Bx B g w wr) (fun v _ => n - (intOf v).toNat)
  case atStart => exact ⟨0, s, rfl, by omega, HR.out, HO.out, HF.out, by simp, Bx.refl _ _ _⟩
  case round =>
    obtain ⟨k, s', rfl, hk, hrd, hov, hfit, hrun, hbx⟩ := hrel
    have HRD : Hid (Rd wr B g s') := hrd
    have HOV : Hid (s'.over = false) := hov
    have HFI : Hid (Fit s' (m + k)) := hfit
    have HRUN : Hid (runZ s l = ((runZ s' (l.drop k)).1, (runZ s' (l.drop k)).2 + k)) := hrun
    have HBX : Hid (Bx B g w wr) := hbx
    clear hrd hov hfit hrun hbx
    by_cases hlt : k < n
    · have hd : decide ((k : Int) < (n : Int)) = true := by simp; omega
      have hlt' : k < l.length := by omega
      obtain ⟨x, hx⟩ : ∃ x, l[k]'hlt' = x := ⟨_, rfl⟩
      have HD : Hid (l.drop k = x :: l.drop (k + 1)) := by unfold Hid; rw [List.drop_eq_getElem_cons hlt', hx]
      rcases HROW.out wr HBX.out with rfl | ⟨b, off, rfl, hc⟩
      · simp at hlt'
      · have hck : wr.cell? ⟨b, off + k, none⟩ = some (.int .u8 x) := by rw [hc k hlt']; simp [List.getD_eq_getElem?_getD, List.getElem?_eq_getElem hlt', hx]
        have hadd : (⟨b, off, none⟩ : Addr).add k = ⟨b, off + k, none⟩ := add_plain b off k
        clear hc
        go_wp2_with fail
        have hfi := HFI.out
        have q1 := hfi.came
        have q2 := hfi.size
        have q3 := hfi.all
        have q4 := hfi.len
        have q5 : 0 ≤ b2i s'.half := by unfold b2i; split <;> omega
        refine (take_any B g s' x wr HRD.out q1 (by omega) q2 (by omega) (by omega)).mono ?_
        clear q1 q2 q3 q4 q5 hfi
        rintro e w1 ⟨⟨u, rfl⟩, hr1, hb1⟩
        have HR1 : Hid (Rd w1 B g (takeZ s' x)) := hr1
        have HB1 : Hid (Bx B g w w1) := HBX.out.trans hb1
        obtain ⟨t, ht⟩ : ∃ t, (takeZ s' x).over = t := ⟨_, rfl⟩
        have HT : Hid ((takeZ s' x).over = t) := ht
        have b8 : w1.cell? ⟨g, 8, none⟩ = some (.bool t) := by
          obtain ⟨h1, h2, v, hg, hown⟩ := hr1
          rw [cell_of_row w1 _ _ _ _ _ hg, ← ht]; rfl
        clear hr1 hb1 ht
        cases t with
        | true =>
          go_wp2_with (go_at_call 68; refine (fault_any B g _ w1 HR1.out).mono ?_; rintro e w2 ⟨rfl, hq⟩)
          have HQ : Qt w1 w2 := hq
          have hz : runZ s l = (takeZ s' x, k + 1) := by
            rw [HRUN.out, HD.out, runZ, if_pos HT.out]; simp; omega
          go_ret3
          have hv : putV (takeZ s' x, k + 1) = .tuple #[.int .i64 ((k : Int) + 1), .bool true, .int .i64 (faultZ (takeZ s' x))] := by
            rw [putV]; simp only [HT.out, if_true]; rw [show ((k + 1 : Nat) : Int) = (k : Int) + 1 from by omega]
          rw [hz, hv]
          exact ⟨rfl, HQ.rd HR1.out, HB1.out.trans (HQ.bx B g)⟩
        | false =>
          go_wp2_with fail
          go_roundw
          case rel => exact ⟨k + 1, takeZ s' x, by rw [show ((k + 1 : Nat) : Int) = (k : Int) + 1 from by omega], by omega, HR1.out, HT.out, fit_take HFI.out x, by rw [HRUN.out, HD.out, runZ, if_neg (by rw [HT.out]; simp)]; simp; omega, HB1.out⟩
          case measure => simp [intOf]; omega
    · have hd : decide ((k : Int) < (n : Int)) = false := by simp; omega
      go_wp2
      go_ret3
      have hz : runZ s l = (s', n) := by
        rw [HRUN.out, List.drop_eq_nil_of_le (by rw [HLL.out]; omega)]; simp [runZ]; omega
      have hv : putV (s', n) = .tuple #[.int .i64 (n : Int), .bool false, .int .i64 0] := by
        rw [putV]; simp only [HOV.out, Bool.false_eq_true, if_false]
      rw [hz, hv]
      exact ⟨rfl, HRD.out, HBX.out⟩

/-- What a reader's text is. -/
def textZ (s : RS) : List Int := if faultZ s = 0 then s.kept.take s.size.toNat else []

theorem eql_nil (w : World) : (binOp .eql 33 (.slice none 0 0) (.slice none 0 0)).run Tryz.prog w = .ok (.bool true) w := by kernel_rfl
set_option maxRecDepth 100000 in
theorem eql_some (w : World) (x : Addr) (n c : Nat) : (binOp .eql 33 (.slice (some x) n c) (.slice none 0 0)).run Tryz.prog w = .ok (.bool false) w := by kernel_rfl

set_option maxRecDepth 100000 in
set_option maxHeartbeats 1000000 in
theorem clone_nil (w : World) : Calls Tryz.prog 69 #[.slice none 0 0] w fun e w' => e = .returned (.slice none 0 0) ∧ w = w' := by
  have e0 := eql_nil w
  go_enter Tryz.func69, Tryz.ntmps69
  go_wp2
  go_ret
  exact ⟨rfl, rfl⟩

set_option maxRecDepth 100000 in
set_option maxHeartbeats 1000000 in
theorem clone_some (x : Addr) (n c : Nat) (l : List Int) (w : World) (hl : l.length = n) (hr : Row w (some x) l) (hn : n ≤ 1000000000) :
    Calls Tryz.prog 69 #[.slice (some x) n c] w fun e w' => ∃ v, e = .returned v ∧ Own w' w.heap.size v l ∧ Below w.heap.size w w' := by
  obtain ⟨j0, hi, hz0, hz1, hz2⟩ := info_parts Tryz.info5
  have HR : Hid (Row w (some x) l) := hr
  clear hr
  have e0 := eql_some w x n c
  go_enter Tryz.func69, Tryz.ntmps69
  have hb0 : Below w.heap.size w (w.alloc (.cells #[] 5)) := keep w _
  have own0 : (w.alloc (.cells #[] 5)).ownsRow w.heap.size 5 1 (.slice (some ⟨w.heap.size, 0, none⟩) 0 0) 0 [] := ⟨rfl, .inr ⟨w.heap.size, 0, #[], rfl, Nat.le_refl _, heap_alloc_new w _, Nat.le_refl _, by simp [maxLen], rfl, rfl⟩⟩
  have HR1 : Hid (RowK .u8 (w.alloc (.cells #[] 5)) (some x) l) := row_below HR.out hb0
  go_wp2_with (at_builtin; refine wpList_append_rowk rfl _ _ 33 rfl w.heap.size 5 j0 (.int .u8 0) 1 Tryz.underlying33 hi hz0 hz1 hz2 rfl .u8 _ 0 [] rfl own0 (some x) n c l rfl hl (by simp) HR1.out (by unfold maxLen; omega) (by omega) (by simp) ?_)
  intro v' w2 hown hgrow
  go_wp2
  go_ret
  refine ⟨v', rfl, ?_, hb0.trans ((Below.refl _ _).grown hgrow (by simp) (by intro k hk; simp [Value.ownBlock] at hk; omega))⟩
  unfold Own
  rw [hl]
  simpa using hown
end Go.Proofs.YtbckbonffajmeaaGreatDoor.Dt
