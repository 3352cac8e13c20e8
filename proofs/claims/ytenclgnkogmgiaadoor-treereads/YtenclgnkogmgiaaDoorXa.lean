/-
  Components as they lie, and which may be.
-/
import Derived.Test.YtenclgnkogmgiaaDoorGr
import Derived.Test.YtenclgnkogmgiaaDoorGn
import Derived.Laws.EntriesVeiled
namespace Go.Proofs.YtenclgnkogmgiaaDoor
open Go.RowKit Go.Shelf
set_option linter.unusedVariables false
set_option linter.unusedSimpArgs false

/-- What holds, also where all but the blocks of O is kept. -/
def Stay (O : Nat → Prop) (V : World) (Q : World → Prop) : Prop := ∀ W, Tk O V W → Q W
theorem Stay.now {O : Nat → Prop} {V : World} {Q : World → Prop} (h : Stay O V Q) : Q V := h V (Tk.refl _ _)
theorem Tk.two {O O1 O2 : Nat → Prop} {U V W : World} (h : Tk O1 U V) (k : Tk O2 V W) (h1 : ∀ b, b < U.heap.size → O1 b → O b) (h2 : ∀ b, b < U.heap.size → O2 b → O b) : Tk O U W :=
  ⟨k.1.trans h.1, k.2.1.trans h.2.1, k.2.2.1.trans h.2.2.1, Nat.le_trans h.2.2.2.1 k.2.2.2.1, fun b hb hO => (k.2.2.2.2 b (by have := h.2.2.2.1; omega) (fun q => hO (h2 b hb q))).trans (h.2.2.2.2 b hb (fun q => hO (h1 b hb q)))⟩
theorem Stay.go {O O1 O2 : Nat → Prop} {V W : World} {Q : World → Prop} (h : Stay O V Q) (k : Tk O1 V W) (h1 : ∀ b, b < V.heap.size → O1 b → O b) (h2 : ∀ b, b < V.heap.size → O2 b → O b) : Stay O2 W Q := fun X hX => h X (k.two hX h1 h2)
theorem Tk.grown {O : Nat → Prop} {V W : World} {row : Option Nat} (h : V.grownBy W row) (hO : ∀ b, row = some b → O b) : Tk O V W :=
  have hb := (Below.refl 0 V).grown h (Nat.zero_le _) (fun _ _ => Nat.zero_le _)
  ⟨hb.os, hb.tape, hb.output, hb.size, fun b hlt hn => h.block b hlt (fun q => hn (hO b q.symm))⟩
theorem cells3 {W : World} {K : Nat} {x y z : Value} {t : TypeId} (h : W.heap[K]? = some (.cells #[x, y, z] t (0, 0))) : W.cell? ⟨K, 0, none⟩ = some x ∧ W.cell? ⟨K, 1, none⟩ = some y ∧ W.cell? ⟨K, 2, none⟩ = some z :=
  ⟨by rw [cell_of_row W _ _ _ _ _ h]; rfl, by rw [cell_of_row W _ _ _ _ _ h]; rfl, by rw [cell_of_row W _ _ _ _ _ h]; rfl⟩
/-- A component: its Name, its lines, its components. -/
structure Cp where
  nm : List Int
  ls : List Ln
  cs : List Cp
def compV (x y z : Value) : Value := .agg #[x, y, z]
/-- A list of lines as it lies. -/
def LsAt (w : World) (v : Value) (l : List Ln) : Prop := ∃ a c ms, v = .slice a ms.length c ∧ LRow w a ms ∧ ms.map Lm.ln = l ∧ ms.length ≤ 9223372036854775807 ∧ (a = none → c = 0) ∧ ∀ m ∈ ms, m.fs.length ≤ 9223372036854775807
/-- A list of components as it lies. -/
def TRow (w : World) (v : Value) (ts : List Cp) (P : Cp → Value → Value → Value → Prop) : Prop :=
  ts.length ≤ maxLen ∧ ∃ a c, v = .slice a ts.length c ∧ (ts = [] ∨ ∃ b off, a = some ⟨b, off, none⟩ ∧ ∀ i t, ts[i]? = some t → ∃ x y z, w.cell? ⟨b, off + i * 3, none⟩ = some x ∧ w.cell? ⟨b, off + i * 3 + 1, none⟩ = some y ∧ w.cell? ⟨b, off + i * 3 + 2, none⟩ = some z ∧ P t x y z)
/-- A component of at most so many storeys, as it lies. -/
def CpAt : Nat → World → Cp → Value → Value → Value → Prop
  | 0, _, _, _, _, _ => False
  | h + 1, w, t, x, y, z => (∃ s, x = .string s ∧ nums s = t.nm) ∧ LsAt w y t.ls ∧ TRow w z t.cs (CpAt h w)
theorem LsAt.below {w w' : World} {v : Value} {l : List Ln} (h : LsAt w v l) (hb : Below w.heap.size w w') : LsAt w' v l := by
  obtain ⟨a, c, ms, h1, h2, h3⟩ := h
  exact ⟨a, c, ms, h1, h2.below hb, h3⟩
theorem TRow.mono {w w' : World} {v : Value} {ts : List Cp} {P P' : Cp → Value → Value → Value → Prop} (h : TRow w v ts P) (hb : Below w.heap.size w w') (hP : ∀ t x y z, P t x y z → P' t x y z) : TRow w' v ts P' := by
  obtain ⟨hl, a, c, h1, h2⟩ := h
  refine ⟨hl, a, c, h1, ?_⟩
  rcases h2 with h2 | ⟨b, off, rfl, h2⟩
  · exact .inl h2
  · refine .inr ⟨b, off, rfl, fun i t ht => ?_⟩
    obtain ⟨x, y, z, c0, c1, c2, hp⟩ := h2 i t ht
    exact ⟨x, y, z, cell_keep hb c0, cell_keep hb c1, cell_keep hb c2, hP _ _ _ _ hp⟩
theorem CpAt.below {w w' : World} (hb : Below w.heap.size w w') : ∀ (h : Nat) (t : Cp) (x y z : Value), CpAt h w t x y z → CpAt h w' t x y z
  | 0, _, _, _, _, hp => hp
  | h + 1, t, x, y, z, hp => ⟨hp.1, hp.2.1.below hb, hp.2.2.mono hb (CpAt.below hb h)⟩
theorem CpAt.up {w : World} : ∀ (h k : Nat) (t : Cp) (x y z : Value), h ≤ k → CpAt h w t x y z → CpAt k w t x y z
  | 0, _, _, _, _, _, _, hp => hp.elim
  | h + 1, 0, _, _, _, _, hk, _ => by omega
  | h + 1, k + 1, t, x, y, z, hk, hp => by
    obtain ⟨h1, h2, h3, a, c, h4, h5⟩ := hp
    refine ⟨h1, h2, h3, a, c, h4, ?_⟩
    rcases h5 with h5 | ⟨b, off, rfl, h5⟩
    · exact .inl h5
    · refine .inr ⟨b, off, rfl, fun i t ht => ?_⟩
      obtain ⟨x, y, z, c0, c1, c2, hp⟩ := h5 i t ht
      exact ⟨x, y, z, c0, c1, c2, CpAt.up h k t x y z (by omega) hp⟩
theorem cp_form {h : Nat} {W : World} {t : Cp} {x y z : Value} (hp : CpAt h W t x y z) : (∃ s, x = .string s ∧ nums s = t.nm) ∧ (∃ a n c, y = .slice a n c) ∧ (∃ a n c, z = .slice a n c) := by
  cases h with
  | zero => exact hp.elim
  | succ h =>
    obtain ⟨h1, ⟨a2, c2, ms, h2, _⟩, ⟨_, a3, c3, h3, _⟩⟩ := hp
    exact ⟨h1, ⟨_, _, _, h2⟩, ⟨_, _, _, h3⟩⟩
/-- Where a component stays its components stay. -/
theorem stay_child {O : Nat → Prop} {V : World} {h : Nat} {t q : Cp} {vx vy : Value} {b off n c k : Nat} (hs : Stay O V (fun W => CpAt (h + 1) W t vx vy (.slice (some ⟨b, off, none⟩) n c))) (hq : t.cs[k]? = some q) :
    ∃ x y z, V.cell? ⟨b, off + k * 3, none⟩ = some x ∧ V.cell? ⟨b, off + k * 3 + 1, none⟩ = some y ∧ V.cell? ⟨b, off + k * 3 + 2, none⟩ = some z ∧ Stay O V (fun W => CpAt h W q x y z) := by
  have look : ∀ W, CpAt (h + 1) W t vx vy (.slice (some ⟨b, off, none⟩) n c) → ∃ x y z, W.cell? ⟨b, off + k * 3, none⟩ = some x ∧ W.cell? ⟨b, off + k * 3 + 1, none⟩ = some y ∧ W.cell? ⟨b, off + k * 3 + 2, none⟩ = some z ∧ CpAt h W q x y z := by
    rintro W ⟨_, _, _, a', c', e, hr⟩
    rcases hr with h0 | ⟨b', off', ha, hc⟩
    · rw [h0] at hq; simp at hq
    · subst ha
      cases e
      exact hc k q hq
  obtain ⟨x, y, z, c0, c1, c2, hp⟩ := look V hs.now
  have hb : ¬ O b := by
    intro hO
    obtain ⟨x', y', z', d0, _, _, hp'⟩ := look _ (hs (V.setCell ⟨b, off + k * 3, none⟩ (.bool false)) (Tk.set (O := O) V b _ _ hO))
    rw [World.cell?_setCell_same V _ (.bool false) c0] at d0
    cases d0
    obtain ⟨⟨s, h1, _⟩, _⟩ := cp_form hp'
    cases h1
  refine ⟨x, y, z, c0, c1, c2, fun W hW => ?_⟩
  have hlt := World.block_lt_of_cell? V _ c0
  have e := hW.2.2.2.2 b hlt hb
  obtain ⟨x', y', z', d0, d1, d2, hp'⟩ := look W (hs W hW)
  rw [World.cell?_of_block e, c0] at d0
  rw [World.cell?_of_block e, c1] at d1
  rw [World.cell?_of_block e, c2] at d2
  cases d0; cases d1; cases d2
  exact hp'
/-- Where a component stays its lines stay. -/
theorem stay_lines {O : Nat → Prop} {V : World} {h : Nat} {t : Cp} {vx vy vz : Value} (hs : Stay O V (fun W => CpAt (h + 1) W t vx vy vz)) : Stay O V (fun W => LsAt W vy t.ls) := fun W hW => (hs W hW).2.1
/-- What may be a component's Name: a line's. -/
def bgZ : List Int := [66, 69, 71, 73, 78]
def enZ : List Int := [69, 78, 68]
def ownZ (l : Ln) : Bool := !(decide (l.name = bgZ) || decide (l.name = enZ)) && rightZ l
/-- Right: so many storeys may stand from here on; how many components and lines there were so far. -/
def rtL (rec : Nat × Nat → Cp → Bool × Nat × Nat) : Nat × Nat → List Cp → Bool × Nat × Nat
  | s, [] => (true, s)
  | s, q :: r => if (rec s q).1 = true then rtL rec (rec s q).2 r else (false, (rec s q).2)
def rtP : Nat → Nat × Nat → Cp → Bool × Nat × Nat
  | 0, s, _ => (false, s.1 + 1, s.2)
  | f + 1, s, t => if 64 < s.1 + 1 ∨ 8192 < s.2 + t.ls.length then (false, s.1 + 1, s.2) else if (nameZ t.nm && t.ls.all ownZ) = true then rtL (rtP f) (s.1 + 1, s.2 + t.ls.length) t.cs else (false, s.1 + 1, s.2 + t.ls.length)
def rightT (t : Cp) : Bool := (rtP 8 (0, 0) t).1
/-- Sizes at which the calls are asked. -/
def FitN (l : Ln) : Prop := l.name.length ≤ 100000 ∧ l.value.length ≤ 100000 ∧ l.pars.length ≤ 1000 ∧ ∀ f ∈ l.pars, f.1.length + f.2.length ≤ 100000
def FitC : Nat → Cp → Prop
  | 0, _ => True
  | h + 1, t => t.nm.length ≤ 100000 ∧ (∀ l ∈ t.ls, FitN l) ∧ ∀ q ∈ t.cs, FitC h q
theorem fit_ln {m : Lm} (h : FitN m.ln) : Fitm m := by
  obtain ⟨h1, h2, h3, h4⟩ := h
  unfold Lm.ln at h1 h2 h3 h4
  simp only [nums_len] at h1 h2
  simp only [numsP, List.length_map] at h3
  refine ⟨h1, h2, h3, fun f hf => ?_⟩
  have := h4 (nums f.1, nums f.2) (List.mem_map.2 ⟨f, hf, rfl⟩)
  simpa only [nums_len] using this
theorem rtL_mono {rec : Nat × Nat → Cp → Bool × Nat × Nat} (hr : ∀ s q, (rec s q).2.1 ≥ s.1 ∧ (s.2 ≤ 8192 → (rec s q).2.2 ≤ 8192)) : ∀ (l : List Cp) (s : Nat × Nat), (rtL rec s l).2.1 ≥ s.1 ∧ (s.2 ≤ 8192 → (rtL rec s l).2.2 ≤ 8192)
  | [], s => ⟨Nat.le_refl _, fun h => h⟩
  | q :: r, s => by
    have h1 := hr s q
    have h2 := rtL_mono hr r (rec s q).2
    unfold rtL
    split
    · exact ⟨Nat.le_trans h1.1 h2.1, fun h => h2.2 (h1.2 h)⟩
    · exact h1
theorem rtP_mono : ∀ (f : Nat) (s : Nat × Nat) (t : Cp), (rtP f s t).2.1 ≥ s.1 ∧ (s.2 ≤ 8192 → (rtP f s t).2.2 ≤ 8192)
  | 0, s, t => ⟨by simp [rtP], fun h => h⟩
  | f + 1, s, t => by
    unfold rtP
    split
    · exact ⟨by simp, fun h => h⟩
    · rename_i hn
      split
      · have := rtL_mono (fun s q => rtP_mono f s q) t.cs (s.1 + 1, s.2 + t.ls.length)
        exact ⟨by have := this.1; simp only at this; omega, fun _ => this.2 (by simp only; omega)⟩
      · exact ⟨by simp, fun h => by simp only; omega⟩
end Go.Proofs.YtenclgnkogmgiaaDoor
namespace Go.Proofs.YtenclgnkogmgiaaDoor
open Go.RowKit Go.Shelf
set_option linter.unusedVariables false
set_option linter.unusedSimpArgs false

set_option maxHeartbeats 2000000 in
theorem tlarge_any (s : ByteArray) (w : World) (hs : s.size ≤ 1000000000) : Calls Tryd.prog 38 #[.string s] w fun e w' => e = .returned (.string (strOfNums ((nums s).map largeZ))) ∧ Below w.heap.size w w' := by
  obtain ⟨cap, w1, kc, hcap, hmx, hrow, hb, hfz⟩ := conv_bytes s w (by unfold maxLen; omega)
  have HR : Hid (Row w1 (some ⟨w.heap.size, 0, none⟩) (nums s)) := hrow
  have HB : Hid (Below w.heap.size w w1) := hb
  have HF : Hid (∀ i, i < s.size → w1.frozen? ⟨w.heap.size, i, none⟩ = false) := hfz
  clear hrow hb hfz
  go_enter Tryd.func38, Tryd.ntmps38
  go_wp2
  go_loopw [10] (fun i wr => ∃ k : Nat, i = .int .i64 k ∧ k ≤ s.size ∧ Row wr (some ⟨w.heap.size, 0, none⟩) (((nums s).take k).map largeZ ++ (nums s).drop k) ∧ (∀ i, i < s.size → wr.frozen? ⟨w.heap.size, i, none⟩ = false) ∧ Below w.heap.size w wr) (fun i _ => s.size - (intOf i).toNat)
  case atStart => exact ⟨0, rfl, by omega, HR.out, HF.out, HB.out⟩
  case round =>
    clear HR HB HF kc
    obtain ⟨k, rfl, hk, hrow, hfz, hb⟩ := hrel
    have HB : Hid (Below w.heap.size w wr) := hb
    have HF : Hid (∀ i, i < s.size → wr.frozen? ⟨w.heap.size, i, none⟩ = false) := hfz
    have HR : Hid (Row wr (some ⟨w.heap.size, 0, none⟩) (((nums s).take k).map largeZ ++ (nums s).drop k)) := hrow
    clear hb hfz hrow
    by_cases hlt : k < s.size
    · have HD : Hid ((nums s).drop k = (s[k].toNat : Int) :: (nums s).drop (k + 1)) := nums_drop s k hlt
      have HA : Hid ((nums s)[k]? = some (s[k].toNat : Int)) := nums_at s k hlt
      have hc1 : (s[k].toNat : Int) < 256 := by have := s[k].toNat_lt; omega
      have hc0 : (0 : Int) ≤ (s[k].toNat : Int) := by omega
      obtain ⟨c, hc⟩ : ∃ c : Int, ((s[k]'hlt).toNat : Int) = c := ⟨_, rfl⟩
      rw [hc] at HD HA hc1 hc0
      have hlk : (((nums s).take k).map largeZ).length = k := by rw [List.length_map, List.length_take, nums_len]; omega
      have hcell : wr.cell? ⟨w.heap.size, k, none⟩ = some (.int .u8 c) := by
        rcases HR.out with h | ⟨b', off, e, h⟩
        · have := congrArg List.length h; rw [List.length_append, hlk, HD.out] at this; simp at this
        · simp at e
          obtain ⟨rfl, rfl⟩ := e
          have := h k (by rw [List.length_append, hlk, HD.out]; simp)
          rw [Nat.zero_add] at this
          rw [this, List.getD_eq_getElem?_getD, List.getElem?_append_right (by omega), hlk, HD.out]
          simp
      have hfk := HF.out k hlt
      have HT : Hid (((nums s).take (k + 1)).map largeZ ++ (nums s).drop (k + 1) = ((nums s).take k).map largeZ ++ largeZ c :: (nums s).drop (k + 1)) := by
        unfold Hid; rw [List.take_add_one, HA.out]; simp
      have HK : Hid ((((nums s).take k).map largeZ).length = k) := hlk
      clear hc hlk
      by_cases ha : 97 ≤ c
      · by_cases hz : c ≤ 122
        · have HS : Hid (largeZ c = c - 97 + 65) := by unfold Hid largeZ; rw [if_pos ⟨ha, hz⟩]; omega
          have HW : Hid (Row (wr.setCell ⟨w.heap.size, k, none⟩ (.int .u8 (c - 97 + 65))) (some ⟨w.heap.size, 0, none⟩) (((nums s).take (k + 1)).map largeZ ++ (nums s).drop (k + 1))) := by
            have := row_set (k := k) (c - 97 + 65) HR.out (by rw [List.length_append, HK.out, HD.out]; simp)
            rw [List.set_append_right _ _ (by rw [HK.out]; exact Nat.le_refl _), HK.out, HD.out, Nat.sub_self, List.set_cons_zero] at this
            unfold Hid; rw [HT.out, HS.out]; exact this
          go_wp2
          go_roundw
          case rel => exact ⟨k + 1, by go_num, by omega, HW.out, fun i hi => by rw [World.frozen?_setCell]; exact HF.out i hi, HB.out.setCell (p := ⟨w.heap.size, k, none⟩) (Nat.le_refl _) _⟩
          case measure => simp [intOf]; omega
        · have HS : Hid (largeZ c = c) := by unfold Hid largeZ; rw [if_neg (by omega)]
          have HW : Hid (Row wr (some ⟨w.heap.size, 0, none⟩) (((nums s).take (k + 1)).map largeZ ++ (nums s).drop (k + 1))) := by
            have := HR.out
            rw [HD.out] at this
            unfold Hid; rw [HT.out, HS.out]; exact this
          go_wp2
          go_roundw
          case rel => exact ⟨k + 1, by go_num, by omega, HW.out, HF.out, HB.out⟩
          case measure => simp [intOf]; omega
      · have HS : Hid (largeZ c = c) := by unfold Hid largeZ; rw [if_neg (by omega)]
        have HW : Hid (Row wr (some ⟨w.heap.size, 0, none⟩) (((nums s).take (k + 1)).map largeZ ++ (nums s).drop (k + 1))) := by
          have := HR.out
          rw [HD.out] at this
          unfold Hid; rw [HT.out, HS.out]; exact this
        go_wp2
        go_roundw
        case rel => exact ⟨k + 1, by go_num, by omega, HW.out, HF.out, HB.out⟩
        case measure => simp [intOf]; omega
    · obtain rfl : k = s.size := by omega
      have hr : Row wr (some ⟨w.heap.size, 0, none⟩) ((nums s).map largeZ) := by
        have := HR.out
        rwa [List.take_of_length_le (by rw [nums_len]; exact Nat.le_refl _), List.drop_of_length_le (by rw [nums_len]; exact Nat.le_refl _), List.append_nil] at this
      have kc2 := conv_row s.size cap (by rw [List.length_map, nums_len]) hr
      clear hr
      go_wp2
      go_ret
      exact ⟨rfl, HB.out⟩

set_option maxHeartbeats 8000000 in
set_option maxRecDepth 100000 in
theorem tname_any (s : ByteArray) (w : World) (hs : s.size ≤ 1000000000) : Calls Tryd.prog 33 #[.string s] w fun e w' => e = .returned (.bool (nameZ (nums s))) ∧ w = w' := by
  go_enter Tryd.func33, Tryd.ntmps33
  go_wp2
  go_loopw [7] (fun i wr => ∃ k : Nat, i = .int .i64 k ∧ k ≤ s.size ∧ ((nums s).take k).all upC = true ∧ w = wr) (fun i _ => s.size - (intOf i).toNat)
  case atStart => exact ⟨0, rfl, by omega, rfl, rfl⟩
  case round =>
    obtain ⟨k, rfl, hk, hall, rfl⟩ := hrel
    have HA : Hid (((nums s).take k).all upC = true) := hall
    clear hall
    by_cases hlt : k < s.size
    · have hc1 : (s[k].toNat : Int) < 256 := by have := s[k].toNat_lt; omega
      have hc0 : (0 : Int) ≤ (s[k].toNat : Int) := by omega
      have HT : Hid ((nums s)[k]? = some (s[k].toNat : Int)) := nums_at s k hlt
      obtain ⟨c, hc⟩ : ∃ c : Int, ((s[k]'hlt).toNat : Int) = c := ⟨_, rfl⟩
      rw [hc] at HT hc1 hc0
      have hcase : (c = 45) ∨ (c < 48 ∧ c ≠ 45) ∨ (48 ≤ c ∧ c ≤ 57) ∨ (57 < c ∧ c < 65) ∨ (65 ≤ c ∧ c ≤ 90) ∨ (90 < c) := by omega
      rcases hcase with hq | hq | hq | hq | hq | hq
      · have a1 : decide (c < 65) = true := by simp; omega
        have a2 : decide (90 < c) = false := by simp; omega
        have a3 : decide (c < 48) = true := by simp; omega
        have a4 : decide (57 < c) = false := by simp; omega
        have a5 : (c == 45) = true := by simp; omega
        have a6 : c = 45 := by omega
        have hcc : upC c = true := by unfold upC; simp; omega
        clear hq
        go_wp2
        go_roundw
        case rel => exact ⟨k + 1, by go_num, by omega, by rw [all_take upC _ k c HT.out, HA.out, hcc]; rfl, by first | rfl | trivial⟩
        case measure => simp [intOf]; omega
      · have a1 : decide (c < 65) = true := by simp; omega
        have a2 : decide (90 < c) = false := by simp; omega
        have a3 : decide (c < 48) = true := by simp; omega
        have a4 : decide (57 < c) = false := by simp; omega
        have a5 : (c == 45) = false := by simp; omega
        have a6 : ¬ c = 45 := by omega
        have hcc : upC c = false := by unfold upC; simp; omega
        have HZ : Hid (nameZ (nums s) = false) := by unfold Hid nameZ; rw [all_bad upC _ k c HT.out hcc]; simp
        clear hq
        go_wp2
        go_ret
        exact ⟨ret_bool HZ.out.symm, rfl⟩
      · have a1 : decide (c < 65) = true := by simp; omega
        have a2 : decide (90 < c) = false := by simp; omega
        have a3 : decide (c < 48) = false := by simp; omega
        have a4 : decide (57 < c) = false := by simp; omega
        have a5 : (c == 45) = false := by simp; omega
        have a6 : ¬ c = 45 := by omega
        have hcc : upC c = true := by unfold upC; simp; omega
        clear hq
        go_wp2
        go_roundw
        case rel => exact ⟨k + 1, by go_num, by omega, by rw [all_take upC _ k c HT.out, HA.out, hcc]; rfl, by first | rfl | trivial⟩
        case measure => simp [intOf]; omega
      · have a1 : decide (c < 65) = true := by simp; omega
        have a2 : decide (90 < c) = false := by simp; omega
        have a3 : decide (c < 48) = false := by simp; omega
        have a4 : decide (57 < c) = true := by simp; omega
        have a5 : (c == 45) = false := by simp; omega
        have a6 : ¬ c = 45 := by omega
        have hcc : upC c = false := by unfold upC; simp; omega
        have HZ : Hid (nameZ (nums s) = false) := by unfold Hid nameZ; rw [all_bad upC _ k c HT.out hcc]; simp
        clear hq
        go_wp2
        go_ret
        exact ⟨ret_bool HZ.out.symm, rfl⟩
      · have a1 : decide (c < 65) = false := by simp; omega
        have a2 : decide (90 < c) = false := by simp; omega
        have a3 : decide (c < 48) = false := by simp; omega
        have a4 : decide (57 < c) = true := by simp; omega
        have a5 : (c == 45) = false := by simp; omega
        have a6 : ¬ c = 45 := by omega
        have hcc : upC c = true := by unfold upC; simp; omega
        clear hq
        go_wp2
        go_roundw
        case rel => exact ⟨k + 1, by go_num, by omega, by rw [all_take upC _ k c HT.out, HA.out, hcc]; rfl, by first | rfl | trivial⟩
        case measure => simp [intOf]; omega
      · have a1 : decide (c < 65) = false := by simp; omega
        have a2 : decide (90 < c) = true := by simp; omega
        have a3 : decide (c < 48) = false := by simp; omega
        have a4 : decide (57 < c) = true := by simp; omega
        have a5 : (c == 45) = false := by simp; omega
        have a6 : ¬ c = 45 := by omega
        have hcc : upC c = false := by unfold upC; simp; omega
        have HZ : Hid (nameZ (nums s) = false) := by unfold Hid nameZ; rw [all_bad upC _ k c HT.out hcc]; simp
        clear hq
        go_wp2
        go_ret
        exact ⟨ret_bool HZ.out.symm, rfl⟩
    · obtain rfl : k = s.size := by omega
      have HE : Hid ((nums s).all upC = true) := by
        have := HA.out
        rwa [List.take_of_length_le (by rw [nums_len]; exact Nat.le_refl _)] at this
      clear HA
      have HQ : Hid (nameZ (nums s) = (decide (1 ≤ s.size) && decide (s.size ≤ 64))) := by unfold Hid nameZ; rw [HE.out, nums_len, Bool.and_true]
      by_cases h0 : s.size = 0
      · have he : s = ⟨#[]⟩ := nums_inj (List.eq_nil_of_length_eq_zero (by rw [nums_len]; exact h0))
        subst he
        go_wp2
        go_ret
        exact ⟨ret_bool (by rw [HQ.out]; rfl), rfl⟩
      · have he : s.toList.isEmpty = false := by rw [toList_emp]; simp [h0]
        have HQ2 : Hid (nameZ (nums s) = decide (s.size ≤ 64)) := by unfold Hid; rw [HQ.out, decide_eq_true (by omega : 1 ≤ s.size), Bool.true_and]
        go_wp2
        go_ret
        exact ⟨ret_bool (by rw [HQ2.out, Bool.eq_iff_iff]; simp; omega), rfl⟩
theorem eq_list (s : ByteArray) (l : List UInt8) : (s.toList = l) ↔ nums s = l.map fun b => (b.toNat : Int) := by
  have h := eq_nums s ⟨l.toArray⟩
  rw [ByteArray.toList_eq ⟨l.toArray⟩] at h
  rw [Bool.eq_iff_iff, decide_eq_true_iff] at h
  simpa [nums] using h
def frZ (l : List Int) : Bool := decide (l = bgZ) || decide (l = enZ)
theorem bg_iff (s : ByteArray) : s.toList = [66, 69, 71, 73, 78] ↔ nums s = bgZ := eq_list s _
theorem en_iff (s : ByteArray) : s.toList = [69, 78, 68] ↔ nums s = enZ := eq_list s _
set_option maxHeartbeats 8000000 in
set_option maxRecDepth 100000 in
theorem frames_any (nm vl : ByteArray) (a : Option Addr) (n c : Nat) (w : World) : Calls Tryd.prog 37 #[lineV nm vl a n c] w fun e w' => e = .returned (.bool (frZ (nums nm))) ∧ Below w.heap.size w w' := by
  have HZ : Hid (frZ (nums nm) = (decide (nm.toList = [66, 69, 71, 73, 78]) || decide (nm.toList = [69, 78, 68]))) := by
    unfold Hid frZ
    rw [decide_eq_decide.2 (bg_iff nm), decide_eq_decide.2 (en_iff nm)]
  unfold lineV
  go_enter Tryd.func37, Tryd.ntmps37
  by_cases p1 : nm.toList = [66, 69, 71, 73, 78]
  · go_wp2
    go_ret
    exact ⟨ret_bool (by rw [HZ.out, p1]; rfl), keep w _⟩
  · go_wp2
    go_ret
    exact ⟨ret_bool (by rw [HZ.out, decide_eq_false p1]; first | rfl | (simp; done) | (rw [Bool.eq_iff_iff]; simp [p1])), keep w _⟩
end Go.Proofs.YtenclgnkogmgiaaDoor
namespace Go.Proofs.YtenclgnkogmgiaaDoor
open Go.RowKit Go.Shelf
set_option linter.unusedVariables false
set_option linter.unusedSimpArgs false

theorem all_at {α : Type} {P : α → Bool} {l : List α} {k : Nat} {t : α} (h : l[k]? = some t) (hP : P t = false) : l.all P = false := by
  rw [List.all_eq_false]; exact ⟨t, List.mem_of_getElem? h, by simp [hP]⟩
theorem all_yes {α : Type} {P : α → Bool} {l : List α} (h : ∀ (j : Nat) t, l[j]? = some t → P t = true) : l.all P = true := by
  rw [List.all_eq_true]
  intro t ht
  obtain ⟨j, hj⟩ := List.getElem?_of_mem ht
  exact h j t hj
theorem own_ln (m : Lm) : ownZ m.ln = (!frZ (nums m.nm) && rightZ m.ln) := rfl
set_option maxHeartbeats 8000000 in
set_option maxRecDepth 100000 in
theorem areOwn_any (a : Option Addr) (n c : Nat) (ms : List Lm) (w : World) (hn : ms.length = n) (hbig : n ≤ 9223372036854775807) (hr : LRow w a ms) (hf : ∀ m ∈ ms, Fitm m) :
    Calls Tryd.prog 34 #[.slice a n c] w fun e w' => e = .returned (.bool ((ms.map Lm.ln).all ownZ)) ∧ Below w.heap.size w w' := by
  have HR : Hid (LRow w a ms) := hr
  have HF : Hid (∀ m ∈ ms, Fitm m) := hf
  clear hr hf
  go_enter Tryd.func34, Tryd.ntmps34
  go_wp2
  go_loopw [7] (fun i wr => ∃ k : Nat, i = .int .i64 k ∧ k ≤ n ∧ Below w.heap.size w wr ∧ ∀ (j : Nat) m, j < k → ms[j]? = some m → ownZ m.ln = true) (fun i _ => n - (intOf i).toNat)
  case atStart => exact ⟨0, rfl, by omega, Below.refl _ _, fun j m hj => by omega⟩
  case round =>
    obtain ⟨k, rfl, hk, hb, hall⟩ := hrel
    have HB : Hid (Below w.heap.size w wr) := hb
    have HA : Hid (∀ (j : Nat) m, j < k → ms[j]? = some m → ownZ m.ln = true) := hall
    have hrw := HR.out.below hb
    have hsz := hb.size
    clear hb hall
    by_cases hlt : k < n
    · obtain ⟨m, hmk⟩ : ∃ m, ms[k]? = some m := ⟨_, List.getElem?_eq_getElem (by omega)⟩
      rcases hrw with h | ⟨b, off, rfl, h⟩
      · rw [h] at hn; simp at hn; omega
      obtain ⟨⟨c0, c1, c2⟩, hfr⟩ := h k m hmk
      have hfm := HF.out m (List.mem_of_getElem? hmk)
      obtain ⟨nm, vl, ma, mc, fs⟩ := m
      have HM : Hid (ms[k]? = some ⟨nm, vl, ma, mc, fs⟩) := hmk
      simp only at c0 c1 c2 hfr
      obtain ⟨z1, z2, z3, z4⟩ := hfm
      simp only at z1 z2 z3 z4
      have HO : Hid (ownZ (Lm.ln ⟨nm, vl, ma, mc, fs⟩) = (!frZ (nums nm) && rightZ ⟨nums nm, numsP fs, nums vl⟩)) := rfl
      obtain ⟨fb, hfb⟩ : ∃ b, frZ (nums nm) = b := ⟨_, rfl⟩
      obtain ⟨rb, hrb⟩ : ∃ b, rightZ ⟨nums nm, numsP fs, nums vl⟩ = b := ⟨_, rfl⟩
      rw [hfb, hrb] at HO
      obtain ⟨fn, hfn⟩ : ∃ n, fs.length = n := ⟨_, rfl⟩
      have hfc := fun V => frames_any nm vl ma fn mc V
      rw [hfb] at hfc
      have hrc := fun V (hV : FRow V ma fs) => right_any nm vl ma fn mc fs V hfn hV (by omega) (by omega) (fun f hf => by have := z4 f hf; omega)
      rw [hrb] at hrc
      have HRC : Hid (∀ V, FRow V ma fs → Calls Tryd.prog 43 #[lineV nm vl ma fn mc] V fun e w' => e = .returned (.bool rb) ∧ Below V.heap.size V w') := hrc
      have HFR : Hid (FRow wr ma fs) := hfr
      rw [hfn] at c1
      unfold lineV at hfc
      clear h hmk hfr hfb hrb z4 hfn hrc
      go_wp2_with fail
      refine (hfc _).mono ?_
      rintro e w1 ⟨rfl, hb1⟩
      have e0 := cell_keep hb1 (p := ⟨wr.heap.size, 0, none⟩) (v := .string nm) (by rw [World.cell?_alloc_mark]; rfl)
      have e1 := cell_keep hb1 (p := ⟨wr.heap.size, 1, none⟩) (v := .slice ma fn mc) (by rw [World.cell?_alloc_mark]; rfl)
      have e2 := cell_keep hb1 (p := ⟨wr.heap.size, 2, none⟩) (v := .string vl) (by rw [World.cell?_alloc_mark]; rfl)
      have hbw : Below wr.heap.size wr w1 := (keep wr _).trans (hb1.mono (by simp))
      have HB1 : Hid (Below w.heap.size w w1) := HB.out.trans (hbw.mono HB.out.size)
      have hrc := HRC.out w1 (HFR.out.below hbw)
      unfold lineV at hrc
      clear hb1 hbw hfc c0 c1 c2
      cases fb with
      | true =>
        have HX : Hid ((ms.map Lm.ln).all ownZ = false) := all_at (k := k) (t := Lm.ln ⟨nm, vl, ma, mc, fs⟩) (by rw [List.getElem?_map, HM.out]; rfl) (by rw [HO.out]; rfl)
        go_wp2
        go_ret
        exact ⟨ret_bool HX.out.symm, HB1.out⟩
      | false =>
        go_wp2_with fail
        refine hrc.mono ?_
        rintro e w2 ⟨rfl, hb2⟩
        have HB2 : Hid (Below w.heap.size w w2) := HB1.out.trans (hb2.mono HB1.out.size)
        clear hb2 hrc e0 e1 e2
        cases rb with
        | true =>
          go_wp2
          go_roundw
          case rel => exact ⟨k + 1, by go_num, by omega, HB2.out, fun j m hj hm => by
            by_cases hjk : j < k
            · exact HA.out j m hjk hm
            · obtain rfl : j = k := by omega
              rw [HM.out] at hm; cases hm; rw [HO.out]; rfl⟩
          case measure => simp [intOf]; omega
        | false =>
          have HX : Hid ((ms.map Lm.ln).all ownZ = false) := all_at (k := k) (t := Lm.ln ⟨nm, vl, ma, mc, fs⟩) (by rw [List.getElem?_map, HM.out]; rfl) (by rw [HO.out]; rfl)
          go_wp2
          go_ret
          exact ⟨ret_bool HX.out.symm, HB2.out⟩
    · obtain rfl : k = n := by omega
      have HX : Hid ((ms.map Lm.ln).all ownZ = true) := all_yes (fun j t ht => by
        rw [List.getElem?_map] at ht
        cases hm : ms[j]? with
        | none => rw [hm] at ht; simp at ht
        | some m =>
          rw [hm] at ht; simp at ht; subst ht
          exact HA.out j m (by have := (List.getElem?_eq_some_iff.1 hm).1; omega) hm)
      go_wp2
      go_ret
      exact ⟨ret_bool HX.out.symm, HB.out⟩
end Go.Proofs.YtenclgnkogmgiaaDoor
namespace Go.Proofs.YtenclgnkogmgiaaDoor
open Go.RowKit Go.Shelf
set_option linter.unusedVariables false
set_option linter.unusedSimpArgs false

theorem cell1 {W : World} {B : Nat} {v : Value} {t : TypeId} (h : Blk W B #[v] t) : W.cell? ⟨B, 0, none⟩ = some v := by
  have := h.cell 0
  simpa using this
theorem rtP_most : ∀ (f : Nat) (s : Nat × Nat) (t : Cp), s.1 ≤ 64 → (rtP f s t).1 = true → (rtP f s t).2.1 ≤ 64
  | 0, s, t, _, h => by simp [rtP] at h
  | f + 1, s, t, hs, h => by
    have aux : ∀ (l : List Cp) (s : Nat × Nat), s.1 ≤ 64 → (rtL (rtP f) s l).1 = true → (rtL (rtP f) s l).2.1 ≤ 64 := by
      intro l
      induction l with
      | nil => intro s hs _; exact hs
      | cons q r ihl =>
        intro s hs h
        unfold rtL at h ⊢
        split at h
        · rename_i hq
          rw [if_pos hq]
          exact ihl _ (rtP_most f s q hs hq) h
        · cases h
    unfold rtP at h ⊢
    split at h
    · cases h
    · rename_i hn
      rw [if_neg hn]
      split at h
      · rename_i hq
        rw [if_pos hq]
        exact aux _ _ (by simp only; omega) h
      · cases h
def rtF (C L F : Nat) : Value := .func (.func 32) #[] #[.pointer (some ⟨C, 0, none⟩), .pointer (some ⟨L, 0, none⟩), .pointer (some ⟨F, 0, none⟩)]
def RtPost (w : World) (C L : Nat) (x : Bool × Nat × Nat) (e : Ending) (w' : World) : Prop :=
  e = .returned (.bool x.1) ∧ Tk (fun b => b = C ∨ b = L) w w' ∧ Blk w' C #[.int .i64 (x.2.1 : Nat)] 3 ∧ Blk w' L #[.int .i64 (x.2.2 : Nat)] 3
theorem RtPost.mk {w : World} {C L : Nat} {x : Bool × Nat × Nat} {e : Ending} {w' : World} (h1 : e = .returned (.bool x.1)) (h2 : Tk (fun b => b = C ∨ b = L) w w') (h3 : Blk w' C #[.int .i64 (x.2.1 : Nat)] 3) (h4 : Blk w' L #[.int .i64 (x.2.2 : Nat)] 3) : RtPost w C L x e w' := ⟨h1, h2, h3, h4⟩
def RtC (f : Nat) : Prop := ∀ (d : Int) (hd : d = 9 - (f : Int)) (h : Nat) (t : Cp) (x y z : Value) (c l C L F : Nat) (w : World), c ≤ 64 → l ≤ 8192 → C ≠ L → C ≠ F → L ≠ F → Stay (fun b => b = C ∨ b = L) w (fun W => CpAt h W t x y z) → FitC h t →
  Blk w C #[.int .i64 (c : Nat)] 3 → Blk w L #[.int .i64 (l : Nat)] 3 → Blk w F #[rtF C L F] 26 →
  Calls Tryd.prog 32 #[compV x y z, .int .i64 d, .pointer (some ⟨C, 0, none⟩), .pointer (some ⟨L, 0, none⟩), .pointer (some ⟨F, 0, none⟩)] w (RtPost w C L (rtP f (c, l) t))
set_option maxHeartbeats 16000000 in
set_option maxRecDepth 100000 in
theorem right_step (f : Nat) (hf : f ≤ 8) (ih : ∀ g, f = g + 1 → RtC g) : RtC f := by
  intro d hd h t x y z c l C L F w hc hl hCL hCF hLF hst hfit hC hL hF
  have HD : Hid (d = 9 - (f : Int)) := hd
  have hd1 : 1 ≤ d := by omega
  have hd2 : d ≤ 9 := by omega
  clear hd
  obtain ⟨xx, hx⟩ : ∃ xx, rtP f (c, l) t = xx := ⟨_, rfl⟩
  rw [hx]
  have HXE : Hid (rtP f (c, l) t = xx) := hx
  have HIH : Hid (∀ g, f = g + 1 → RtC g) := ih
  obtain ⟨h', rfl⟩ : ∃ h', h = h' + 1 := by cases h with | zero => exact hst.now.elim | succ h => exact ⟨h, rfl⟩
  obtain ⟨hF1, hF2, hF3⟩ := hfit
  obtain ⟨⟨nm, rfl, hnm⟩, ⟨la, lc, ms, rfl, _, hms, hmb, _, _⟩, ⟨hpl, pa, pc, rfl, _⟩⟩ := hst.now
  obtain ⟨ln, hln⟩ : ∃ n, ms.length = n := ⟨_, rfl⟩
  obtain ⟨pn, hpn⟩ : ∃ n, t.cs.length = n := ⟨_, rfl⟩
  have HLN : Hid (ms.length = ln) := hln
  have HPN : Hid (t.cs.length = pn) := hpn
  have HTL : Hid (t.ls.length = ln) := by unfold Hid; rw [← hms, List.length_map]; exact hln
  have HMS : Hid (ms.map Lm.ln = t.ls) := hms
  have HNM : Hid (nums nm = t.nm) := hnm
  have HFN : Hid (∀ m ∈ ms, Fitm m) := fun m hm => fit_ln (hF2 _ (by rw [← hms]; exact List.mem_map.2 ⟨m, hm, rfl⟩))
  have HFC : Hid (∀ q ∈ t.cs, FitC h' q) := hF3
  have hnz : nm.size ≤ 100000 := by rw [← hnm, nums_len] at hF1; exact hF1
  rw [hln] at hst hmb
  rw [hpn] at hst hpl
  rw [hln, hpn]
  unfold maxLen at hpl
  have HST : Hid (Stay (fun b => b = C ∨ b = L) w (fun W => CpAt (h' + 1) W t (.string nm) (.slice la ln lc) (.slice pa pn pc))) := hst
  have hClt : C < w.heap.size := hC.lt
  have hLlt : L < w.heap.size := hL.lt
  obtain ⟨G, hG⟩ : ∃ G, w.heap.size = G := ⟨_, rfl⟩
  obtain ⟨w0, hw0⟩ : ∃ w0, (w.alloc (.cells #[.string nm, .slice la ln lc, .slice pa pn pc] 25)).setCell ⟨C, 0, none⟩ (.int .i64 ((c : Int) + 1)) = w0 := ⟨_, rfl⟩
  have hBk := keep w (.cells #[.string nm, .slice la ln lc, .slice pa pn pc] 25)
  have ht0 : Tk (fun b => b = C ∨ b = L) w w0 := by rw [← hw0]; exact (Tk.of_below hBk).trans (Tk.set (O := fun b => b = C ∨ b = L) _ C 0 _ (.inl rfl))
  have hC0 : Blk w0 C #[.int .i64 ((c + 1 : Nat) : Int)] 3 := by
    rw [← hw0]; exact (hC.below hBk hClt).same0 _
  have hG0 : Blk w0 G #[.string nm, .slice la ln lc, .slice pa pn pc] 25 := by
    have := Blk.new w #[.string nm, .slice la ln lc, .slice pa pn pc] 25
    rw [hG] at this
    rw [← hw0]; exact this.other (by omega) _
  have hL0 : Blk w0 L #[.int .i64 (l : Nat)] 3 := by rw [← hw0]; exact (hL.below hBk hLlt).other (by omega) _
  have hF0 : Blk w0 F #[rtF C L F] 26 := by rw [← hw0]; exact (hF.below hBk hF.lt).other (by omega) _
  have hs0 : Stay (fun b => b = C ∨ b = L) w0 (fun W => CpAt (h' + 1) W t (.string nm) (.slice la ln lc) (.slice pa pn pc)) := HST.out.go ht0 (fun _ _ q => q) (fun _ _ q => q)
  have cC := cell1 hC
  have fC := hC.frozen 0
  have cC0 : w0.cell? ⟨C, 0, none⟩ = some (.int .i64 ((c : Int) + 1)) := cell1 hC0
  have cL0 : w0.cell? ⟨L, 0, none⟩ = some (.int .i64 (l : Nat)) := cell1 hL0
  have fL0 := hL0.frozen 0
  have HC : Hid (Blk w C #[.int .i64 (c : Nat)] 3) := hC
  have HT0 : Hid (Tk (fun b => b = C ∨ b = L) w w0) := ht0
  have HC0 : Hid (Blk w0 C #[.int .i64 ((c + 1 : Nat) : Int)] 3) := hC0
  have HG0 : Hid (Blk w0 G #[.string nm, .slice la ln lc, .slice pa pn pc] 25) := hG0
  have HL0 : Hid (Blk w0 L #[.int .i64 (l : Nat)] 3) := hL0
  have HF0 : Hid (Blk w0 F #[rtF C L F] 26) := hF0
  have HS0 : Hid (Stay (fun b => b = C ∨ b = L) w0 (fun W => CpAt (h' + 1) W t (.string nm) (.slice la ln lc) (.slice pa pn pc))) := hs0
  have HG : Hid (w.heap.size = G) := hG
  have hw1 : (w.setCell ⟨C, 0, none⟩ (.int .i64 ((c : Int) + 1))).alloc (.cells #[.string nm, .slice la ln lc, .slice pa pn pc] 25) = w0 := by
    rw [← hw0, World.setCell_alloc_past (hn := by omega)]
  rw [hG] at hClt hLlt
  obtain ⟨q0, q1, q2⟩ := cells3 hG0
  unfold compV
  clear hx hst hC hL hF hC0 hG0 hL0 hF0 hs0 ht0 hBk ih hF1 hF2 hF3 hms hnm hln hpn HST
  by_cases h64 : c = 64
  · subst h64
    have HV : Hid (xx = (false, 65, l)) := by
      unfold Hid; rw [← HXE.out]
      cases f with
      | zero => rfl
      | succ g => simp [rtP]
    have hcc : w0.cell? ⟨C, 0, none⟩ = some (.int .i64 65) := cell1 HC0.out
    have hw65 : (w.alloc (.cells #[.string nm, .slice la ln lc, .slice pa pn pc] 25)).setCell ⟨C, 0, none⟩ (.int .i64 65) = w0 := hw0
    have hw66 : (w.setCell ⟨C, 0, none⟩ (.int .i64 65)).alloc (.cells #[.string nm, .slice la ln lc, .slice pa pn pc] 25) = w0 := hw1
    clear hw0 hw1 cC0
    go_enter Tryd.func32, Tryd.ntmps32
    go_wp2
    go_ret
    exact RtPost.mk (by rw [HV.out]; rfl) HT0.out (by rw [HV.out]; exact HC0.out) (by rw [HV.out]; exact HL0.out)
  · have hct2 : c + 1 ≤ 64 := by omega
    cases f with
    | zero =>
      have hd9 : 8 < d := by have := HD.out; simp at this; omega
      have HV : Hid (xx = (false, c + 1, l)) := HXE.out.symm
      go_enter Tryd.func32, Tryd.ntmps32
      go_wp2
      go_ret
      exact RtPost.mk (by rw [HV.out]; rfl) HT0.out (by rw [HV.out]; exact HC0.out) (by rw [HV.out]; exact HL0.out)
    | succ g =>
      have hd8 : ¬ 8 < d := by have := HD.out; omega
      by_cases hll : 8192 < l + ln
      · have HV : Hid (xx = (false, c + 1, l)) := by
          unfold Hid; rw [← HXE.out, rtP, if_pos (.inr (by rw [HTL.out]; exact hll))]
        have hgt : (8192 : Int) - l < ln := by omega
        have hwr : IntKind.i64.wrap (8192 - (l : Int)) = 8192 - l := by rw [IntKind.wrap_i64]; omega
        go_enter Tryd.func32, Tryd.ntmps32
        go_wp2
        go_ret
        exact RtPost.mk (by rw [HV.out]; rfl) HT0.out (by rw [HV.out]; exact HC0.out) (by rw [HV.out]; exact HL0.out)
      · have HV : Hid (xx = if (nameZ t.nm && t.ls.all ownZ) = true then rtL (rtP g) (c + 1, l + ln) t.cs else (false, c + 1, l + ln)) := by
          unfold Hid; rw [← HXE.out, rtP, if_neg (by rw [HTL.out]; simp only; omega), HTL.out]
        have hgt : ¬ (8192 : Int) - l < ln := by omega
        have hwr : IntKind.i64.wrap (8192 - (l : Int)) = 8192 - l := by rw [IntKind.wrap_i64]; omega
        have hwa : IntKind.i64.wrap ((l : Int) + ln) = ((l + ln : Nat) : Int) := by rw [IntKind.wrap_i64]; omega
        obtain ⟨w2, hw2⟩ : ∃ w2, w0.setCell ⟨L, 0, none⟩ (.int .i64 ((l : Int) + ln)) = w2 := ⟨_, rfl⟩
        have ht2 : Tk (fun b => b = C ∨ b = L) w0 w2 := by rw [← hw2]; exact Tk.set (O := fun b => b = C ∨ b = L) _ L 0 _ (.inr rfl)
        have HT2 : Hid (Tk (fun b => b = C ∨ b = L) w w2) := HT0.out.trans ht2
        have HC2 : Hid (Blk w2 C #[.int .i64 ((c + 1 : Nat) : Int)] 3) := by unfold Hid; rw [← hw2]; exact HC0.out.other hCL _
        have HL2 : Hid (Blk w2 L #[.int .i64 ((l + ln : Nat) : Int)] 3) := by unfold Hid; rw [← hw2]; exact HL0.out.same0 _
        have HG2 : Hid (Blk w2 G #[.string nm, .slice la ln lc, .slice pa pn pc] 25) := by unfold Hid; rw [← hw2]; exact HG0.out.other (by omega) _
        have HF2 : Hid (Blk w2 F #[rtF C L F] 26) := by unfold Hid; rw [← hw2]; exact HF0.out.other (fun e => hLF e.symm) _
        have HS2 : Hid (Stay (fun b => b = C ∨ b = L) w2 (fun W => CpAt (h' + 1) W t (.string nm) (.slice la ln lc) (.slice pa pn pc))) := HS0.out.go ht2 (fun _ _ q => q) (fun _ _ q => q)
        obtain ⟨p0, p1, p2⟩ := cells3 HG2.out
        obtain ⟨nb, hnb⟩ : ∃ b, nameZ t.nm = b := ⟨_, rfl⟩
        have hni := tname_any nm w2 (by omega)
        rw [HNM.out, hnb] at hni
        rw [hnb] at HV
        have hao : Calls Tryd.prog 34 #[.slice la ln lc] w2 fun e w' => e = .returned (.bool (t.ls.all ownZ)) ∧ Below w2.heap.size w2 w' := by
          obtain ⟨_, ⟨la', lc', ms', e', hr', hms', _, _, _⟩, _⟩ := HS2.out.now
          cases e'
          have := areOwn_any la _ lc ms' w2 rfl (by omega) hr' (by
            intro m hm
            have : m.ln ∈ ms.map Lm.ln := by rw [HMS.out, ← hms']; exact List.mem_map.2 ⟨m, hm, rfl⟩
            obtain ⟨m', hm', e⟩ := List.mem_map.1 this
            have hf := HFN.out m' hm'
            have e1 : nums m'.nm = nums m.nm := congrArg Ln.name e
            have e2 : nums m'.vl = nums m.vl := congrArg Ln.value e
            have e3 : numsP m'.fs = numsP m.fs := congrArg Ln.pars e
            have e3' : m'.fs = m.fs := by
              have inj : ∀ a b : List (ByteArray × ByteArray), numsP a = numsP b → a = b := by
                intro a
                induction a with
                | nil => intro b hb; cases b with | nil => rfl | cons q b => simp [numsP] at hb
                | cons p a iha =>
                  intro b hb
                  cases b with
                  | nil => simp [numsP] at hb
                  | cons q b =>
                    simp only [numsP, List.map_cons, List.cons.injEq, Prod.mk.injEq] at hb
                    rw [iha b hb.2, Prod.ext_iff.2 ⟨nums_inj hb.1.1, nums_inj hb.1.2⟩]
              exact inj _ _ e3
            obtain ⟨f1, f2, f3, f4⟩ := hf
            rw [nums_inj e1] at f1
            rw [nums_inj e2] at f2
            rw [e3'] at f3 f4
            exact ⟨f1, f2, f3, f4⟩)
          rw [hms'] at this
          exact this
        obtain ⟨ob, hob⟩ : ∃ b, t.ls.all ownZ = b := ⟨_, rfl⟩
        rw [hob] at hao HV
        clear hob hnb
        clear ht2
        go_enter Tryd.func32, Tryd.ntmps32
        go_wp2_with fail
        refine hni.mono ?_
        rintro e w3 ⟨rfl, rfl⟩
        clear hni
        cases nb with
        | false =>
          have HW : Hid (xx = (false, c + 1, l + ln)) := HV.out
          go_wp2
          go_ret
          exact RtPost.mk (by rw [HW.out]; rfl) HT2.out (by rw [HW.out]; exact HC2.out) (by rw [HW.out]; exact HL2.out)
        | true =>
          go_wp2_with fail
          refine hao.mono ?_
          rintro e w3 ⟨rfl, hb3⟩
          clear hao
          have ht3 : Tk (fun b => b = C ∨ b = L) w2 w3 := .of_below hb3
          have HT3 : Hid (Tk (fun b => b = C ∨ b = L) w w3) := HT2.out.trans ht3
          have HC3 : Hid (Blk w3 C #[.int .i64 ((c + 1 : Nat) : Int)] 3) := HC2.out.below hb3 HC2.out.lt
          have HL3 : Hid (Blk w3 L #[.int .i64 ((l + ln : Nat) : Int)] 3) := HL2.out.below hb3 HL2.out.lt
          have HG3 : Hid (Blk w3 G #[.string nm, .slice la ln lc, .slice pa pn pc] 25) := HG2.out.below hb3 HG2.out.lt
          have HF3 : Hid (Blk w3 F #[rtF C L F] 26) := HF2.out.below hb3 HF2.out.lt
          have HS3 : Hid (Stay (fun b => b = C ∨ b = L) w3 (fun W => CpAt (h' + 1) W t (.string nm) (.slice la ln lc) (.slice pa pn pc))) := HS2.out.go ht3 (fun _ _ q => q) (fun _ _ q => q)
          clear hb3 ht3 p0 p1 p2 q0 q1 q2 hw2 cC0 cL0 fL0 cC fC hw0 hw1
          cases ob with
          | false =>
            have HW : Hid (xx = (false, c + 1, l + ln)) := HV.out
            go_wp2
            go_ret
            exact RtPost.mk (by rw [HW.out]; rfl) HT3.out (by rw [HW.out]; exact HC3.out) (by rw [HW.out]; exact HL3.out)
          | true =>
            have HW : Hid (xx = rtL (rtP g) (c + 1, l + ln) t.cs) := HV.out
            obtain ⟨p0, p1, p2⟩ := cells3 HG3.out
            go_wp2_with fail
            go_loopw [44] (fun i wr => ∃ (j : Nat) (cj lj : Nat), i = .int .i64 (j : Nat) ∧ j ≤ pn ∧ cj ≤ 64 ∧ lj ≤ 8192 ∧ xx = rtL (rtP g) (cj, lj) (t.cs.drop j) ∧ Tk (fun b => b = C ∨ b = L) w wr ∧ Blk wr C #[.int .i64 (cj : Nat)] 3 ∧ Blk wr L #[.int .i64 (lj : Nat)] 3 ∧ Blk wr F #[rtF C L F] 26 ∧ G < wr.heap.size ∧ Stay (fun b => b = C ∨ b = L) wr (fun W => CpAt (h' + 1) W t (.string nm) (.slice la ln lc) (.slice pa pn pc))) (fun i _ => pn - (intOf i).toNat)
            case atStart => exact ⟨0, c + 1, l + ln, rfl, by omega, by omega, by omega, HW.out, HT3.out, HC3.out, HL3.out, HF3.out, HG3.out.lt, HS3.out⟩
            case round =>
              obtain ⟨j, cj, lj, rfl, hj, hcj, hlj, hxj, htj, hCj, hLj, hFj, hGj, hsj⟩ := hrel
              have HXJ : Hid (xx = rtL (rtP g) (cj, lj) (t.cs.drop j)) := hxj
              have HTJ : Hid (Tk (fun b => b = C ∨ b = L) w wr) := htj
              have HCJ : Hid (Blk wr C #[.int .i64 (cj : Nat)] 3) := hCj
              have HLJ : Hid (Blk wr L #[.int .i64 (lj : Nat)] 3) := hLj
              have HFJ : Hid (Blk wr F #[rtF C L F] 26) := hFj
              have HSJ : Hid (Stay (fun b => b = C ∨ b = L) wr (fun W => CpAt (h' + 1) W t (.string nm) (.slice la ln lc) (.slice pa pn pc))) := hsj
              clear hxj htj hCj hLj hFj p0 p1 p2
              by_cases hlt : j < pn
              · obtain ⟨u, hu⟩ : ∃ u, t.cs[j]? = some u := ⟨_, List.getElem?_eq_getElem (by have := HPN.out; omega)⟩
                obtain ⟨b1, o1, rfl⟩ : ∃ b1 o1, pa = some ⟨b1, o1, none⟩ := by
                  obtain ⟨_, _, _, pa', pc', e', hr⟩ := hsj.now
                  rcases hr with h0 | ⟨b1, o1, h1, _⟩
                  · rw [h0] at hu; simp at hu
                  · cases e'; exact ⟨b1, o1, h1⟩
                obtain ⟨x1, y1, z1, e1, e2, e3, hsu⟩ := stay_child hsj hu
                have HU : Hid (t.cs[j]? = some u) := hu
                have HFU : Hid (FitC h' u) := HFC.out u (List.mem_of_getElem? hu)
                obtain ⟨⟨un, rfl, _⟩, ⟨ya, yn, yc, rfl⟩, ⟨za, zn, zc, rfl⟩⟩ := cp_form hsu.now
                have hbk := keep wr (.cells #[.string un, .slice ya yn yc, .slice za zn zc] 25)
                have hch := HIH.out g rfl (d + 1) (by have := HD.out; omega) h' u _ _ _ cj lj C L F (wr.alloc (.cells #[.string un, .slice ya yn yc, .slice za zn zc] 25)) hcj hlj hCL hCF hLF (hsu.go (Tk.of_below (O := fun _ => False) hbk) (fun _ _ q => q.elim) (fun _ _ q => q)) HFU.out (HCJ.out.below hbk HCJ.out.lt) (HLJ.out.below hbk HLJ.out.lt) (HFJ.out.below hbk HFJ.out.lt)
                obtain ⟨xu, hxu⟩ : ∃ xu, rtP g (cj, lj) u = xu := ⟨_, rfl⟩
                rw [hxu] at hch
                have HXU : Hid (rtP g (cj, lj) u = xu) := hxu
                have HDR : Hid (t.cs.drop j = u :: t.cs.drop (j + 1)) := by
                  unfold Hid
                  rw [List.drop_eq_getElem_cons (by have := HPN.out; omega)]
                  rw [List.getElem?_eq_getElem (by have := HPN.out; omega)] at hu
                  simp only [Option.some.injEq] at hu
                  rw [hu]
                unfold compV at hch
                have hwd : IntKind.i64.wrap (d + 1) = d + 1 := by rw [IntKind.wrap_i64]; omega
                have cF := cell1 (HFJ.out.below hbk HFJ.out.lt)
                have cF2 := cell1 HFJ.out
                unfold rtF at cF cF2
                clear hbk hsu hu hxu hsj
                go_wp2_with fail
                refine hch.mono ?_
                rintro e w4 ⟨rfl, ht4, hC4, hL4⟩
                clear hch cF cF2 e1 e2 e3
                have htw : Tk (fun b => b = C ∨ b = L) wr w4 := (Tk.of_below (keep wr _)).trans ht4
                have HT4 : Hid (Tk (fun b => b = C ∨ b = L) w w4) := HTJ.out.trans htw
                have HC4 : Hid (Blk w4 C #[.int .i64 (xu.2.1 : Nat)] 3) := hC4
                have HL4 : Hid (Blk w4 L #[.int .i64 (xu.2.2 : Nat)] 3) := hL4
                have HF4 : Hid (Blk w4 F #[rtF C L F] 26) := htw.kept HFJ.out (by omega)
                have HS4 : Hid (Stay (fun b => b = C ∨ b = L) w4 (fun W => CpAt (h' + 1) W t (.string nm) (.slice la ln lc) (.slice (some ⟨b1, o1, none⟩) pn pc))) := HSJ.out.go htw (fun _ _ q => q) (fun _ _ q => q)
                have hG4 : G < w4.heap.size := by have := htw.size; omega
                clear ht4 hC4 hL4 htw
                obtain ⟨xb, xc, xl⟩ := xu
                cases xb with
                | false =>
                  have HY : Hid (xx = (false, xc, xl)) := by unfold Hid; rw [HXJ.out, HDR.out, rtL, HXU.out]; rfl
                  go_wp2
                  go_ret
                  exact RtPost.mk (by rw [HY.out]; rfl) HT4.out (by rw [HY.out]; exact HC4.out) (by rw [HY.out]; exact HL4.out)
                | true =>
                  have HY : Hid (xx = rtL (rtP g) (xc, xl) (t.cs.drop (j + 1))) := by unfold Hid; rw [HXJ.out, HDR.out, rtL, HXU.out]; rfl
                  have hb1 := rtP_most g (cj, lj) u hcj (by rw [HXU.out])
                  have hb2 := (rtP_mono g (cj, lj) u).2 hlj
                  rw [HXU.out] at hb1 hb2
                  simp only at hb1 hb2
                  go_wp2
                  go_roundw
                  case rel => exact ⟨j + 1, xc, xl, by go_num, by omega, hb1, hb2, HY.out, HT4.out, HC4.out, HL4.out, HF4.out, hG4, HS4.out⟩
                  case measure => simp [intOf]; omega
              · have HY : Hid (xx = (true, cj, lj)) := by unfold Hid; rw [HXJ.out, List.drop_of_length_le (by have := HPN.out; omega)]; rfl
                clear hsj
                go_wp2
                go_ret
                exact RtPost.mk (by rw [HY.out]; rfl) HTJ.out (by rw [HY.out]; exact HCJ.out) (by rw [HY.out]; exact HLJ.out)
theorem right_all : ∀ f, f ≤ 8 → RtC f
  | 0, h => right_step 0 h (fun g e => by omega)
  | f + 1, h => right_step (f + 1) h (fun g e => by cases e; exact right_all f (by omega))
end Go.Proofs.YtenclgnkogmgiaaDoor
namespace Go.Proofs.YtenclgnkogmgiaaDoor
open Go.RowKit Go.Shelf
set_option linter.unusedVariables false
set_option linter.unusedSimpArgs false

set_option maxHeartbeats 8000000 in
set_option maxRecDepth 100000 in
theorem right_tree (h : Nat) (t : Cp) (x y z : Value) (w : World) (hp : CpAt h w t x y z) (hf : FitC h t) : Calls Tryd.prog 14 #[compV x y z] w fun e w' => e = .returned (.bool (rightT t)) ∧ Below w.heap.size w w' := by
  obtain ⟨⟨nm, rfl, _⟩, ⟨ya, yn, yc, rfl⟩, ⟨za, zn, zc, rfl⟩⟩ := cp_form hp
  obtain ⟨G, hG⟩ : ∃ G, w.heap.size = G := ⟨_, rfl⟩
  obtain ⟨w0, hw0⟩ : ∃ w0, w.alloc (.cells #[.string nm, .slice ya yn yc, .slice za zn zc] 25) = w0 := ⟨_, rfl⟩
  obtain ⟨w1, hw1⟩ : ∃ w1, w0.alloc (.cells #[.int .i64 0] 3) = w1 := ⟨_, rfl⟩
  obtain ⟨w2, hw2⟩ : ∃ w2, w1.alloc (.cells #[.int .i64 0] 3) = w2 := ⟨_, rfl⟩
  obtain ⟨w3, hw3⟩ : ∃ w3, w2.alloc (.cells #[rtF (G + 1) (G + 2) (G + 3)] 26) = w3 := ⟨_, rfl⟩
  have s0 : w0.heap.size = G + 1 := by rw [← hw0, World.size_alloc, hG]
  have s1 : w1.heap.size = G + 2 := by rw [← hw1, World.size_alloc, s0]
  have s2 : w2.heap.size = G + 3 := by rw [← hw2, World.size_alloc, s1]
  have s3 : w3.heap.size = G + 4 := by rw [← hw3, World.size_alloc, s2]
  have k0 : Below w.heap.size w w0 := by rw [← hw0]; exact keep w _
  have k1 : Below w0.heap.size w0 w1 := by rw [← hw1]; exact keep w0 _
  have k2 : Below w1.heap.size w1 w2 := by rw [← hw2]; exact keep w1 _
  have k3 : Below w2.heap.size w2 w3 := by rw [← hw3]; exact keep w2 _
  have k03 : Below w0.heap.size w0 w3 := (k1.trans (k2.mono (by omega))).trans (k3.mono (by omega))
  have kw : Below w.heap.size w w3 := k0.trans (k03.mono (by omega))
  have bG : Blk w3 G #[.string nm, .slice ya yn yc, .slice za zn zc] 25 := by
    have : Blk w0 G #[.string nm, .slice ya yn yc, .slice za zn zc] 25 := by rw [← hw0, ← hG]; exact Blk.new _ _ _
    exact this.below k03 (by omega)
  have bC : Blk w3 (G + 1) #[.int .i64 0] 3 := by
    have : Blk w1 (G + 1) #[.int .i64 0] 3 := by rw [← hw1, ← s0]; exact Blk.new _ _ _
    exact (this.below k2 (by omega)).below k3 (by omega)
  have bL : Blk w3 (G + 2) #[.int .i64 0] 3 := by
    have : Blk w2 (G + 2) #[.int .i64 0] 3 := by rw [← hw2, ← s1]; exact Blk.new _ _ _
    exact this.below k3 (by omega)
  have bF : Blk w3 (G + 3) #[rtF (G + 1) (G + 2) (G + 3)] 26 := by rw [← hw3, ← s2]; exact Blk.new _ _ _
  have hst : Stay (fun b => b = G + 1 ∨ b = G + 2) w3 (fun W => CpAt h W t (.string nm) (.slice ya yn yc) (.slice za zn zc)) := fun W hW => by
    refine CpAt.below ?_ h t _ _ _ hp
    exact ⟨hW.1.trans kw.os, hW.2.1.trans kw.tape, hW.2.2.1.trans kw.output, Nat.le_trans kw.size hW.size, fun b hb => (hW.2.2.2.2 b (by omega) (by omega)).trans (kw.block b hb)⟩
  have hch := right_all 8 (Nat.le_refl _) 1 (by omega) h t _ _ _ 0 0 (G + 1) (G + 2) (G + 3) w3 (by omega) (by omega) (by omega) (by omega) (by omega) hst hf bC bL bF
  obtain ⟨xx, hx⟩ : ∃ xx, rtP 8 (0, 0) t = xx := ⟨_, rfl⟩
  have HX : Hid (rightT t = xx.1) := by unfold Hid rightT; rw [hx]
  rw [hx] at hch
  have HK : Hid (Below w.heap.size w w3) := kw
  have cF := cell1 bF
  obtain ⟨c0, c1, c2⟩ := cells3 bG
  unfold compV at hch ⊢
  have HS3 : Hid (w3.heap.size = G + 4) := s3
  have HG : Hid (w.heap.size = G) := hG
  have HW : Hid (((((w.alloc (.cells #[.string nm, .slice ya yn yc, .slice za zn zc] 25)).alloc (.cells #[.int .i64 0] 3)).alloc (.cells #[.int .i64 0] 3)).alloc (.cells #[rtF (w.heap.size + 1) (w.heap.size + 1 + 1) (w.heap.size + 1 + 1 + 1)] 26)) = w3) := by
    unfold Hid; rw [hw0, hw1, hw2, hG]; exact hw3
  rw [← HW.out] at hch
  rw [← hG] at hch
  unfold rtF at hch
  clear k0 k1 k2 k3 k03 kw bG bC bL bF hst hx hp s3 hw0 hw1 hw2 hw3 hG s0 s1 s2 cF c0 c1 c2
  go_enter Tryd.func14, Tryd.ntmps14
  go_wp2_with fail
  refine hch.mono ?_
  rintro e w4 ⟨rfl, ht4, hC4, hL4⟩
  have HT4 : Hid (Tk (fun b => b = G + 1 ∨ b = G + 2) w3 w4) := by
    unfold Hid; rw [← HW.out]; unfold rtF; have := HG.out; rw [this] at ht4; rw [this]; exact ht4
  clear hch ht4 hC4 hL4
  go_wp2
  go_ret
  refine ⟨ret_bool HX.out.symm, ?_⟩
  have kw := HK.out
  have ht4 := HT4.out
  have := HS3.out
  have := HG.out
  exact ⟨ht4.1.trans kw.os, ht4.2.1.trans kw.tape, ht4.2.2.1.trans kw.output, Nat.le_trans kw.size ht4.size, fun b hb => (ht4.2.2.2.2 b (by omega) (by omega)).trans (kw.block b hb)⟩
end Go.Proofs.YtenclgnkogmgiaaDoor
