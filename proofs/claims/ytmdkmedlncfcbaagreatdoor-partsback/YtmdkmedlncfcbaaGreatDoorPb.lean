/-
  Trees of parts as they lie; shaped.
-/
import Derived.Test.YtmdkmedlncfcbaaGreatDoorPa
import Derived.Test.YtmdkmedlncfcbaaGreatDoorGn
namespace Go.Proofs.YtmdkmedlncfcbaaGreatDoor
open Go.RowKit
set_option linter.unusedVariables false

/-- A part: its fields, its body, its parts. -/
structure Prt where
  fs : List (ByteArray × ByteArray)
  body : List Int
  ps : List Prt
/-- A slice of bytes. -/
def BAt (w : World) (v : Value) (l : List Int) : Prop := ∃ a c, v = .slice a l.length c ∧ l.length ≤ c ∧ c ≤ maxLen ∧ (a = none → c = 0) ∧ Byt l ∧ Row w a l
def FAt (w : World) (v : Value) (fs : List (ByteArray × ByteArray)) : Prop := ∃ a c, v = .slice a fs.length c ∧ FRow w a fs ∧ fs.length ≤ maxLen
/-- A row of things of three cells. -/
def TRow (w : World) (v : Value) (ts : List Prt) (P : Prt → Value → Value → Value → Prop) : Prop :=
  ts.length ≤ maxLen ∧ ∃ a c, v = .slice a ts.length c ∧ (ts = [] ∨ ∃ b off, a = some ⟨b, off, none⟩ ∧ ∀ i t, ts[i]? = some t → ∃ x y z, w.cell? ⟨b, off + i * 3, none⟩ = some x ∧ w.cell? ⟨b, off + i * 3 + 1, none⟩ = some y ∧ w.cell? ⟨b, off + i * 3 + 2, none⟩ = some z ∧ P t x y z)
/-- A tree of at most so many storeys, as it lies. -/
def PtAt : Nat → World → Prt → Value → Value → Value → Prop
  | 0, _, _, _, _, _ => False
  | h + 1, w, t, vf, vb, vp => FAt w vf t.fs ∧ BAt w vb t.body ∧ TRow w vp t.ps (PtAt h w)
theorem BAt.below {w w' : World} {v : Value} {l : List Int} (h : BAt w v l) (hb : Below w.heap.size w w') : BAt w' v l := by
  obtain ⟨a, c, h1, h2, h3, h4, h5, h6⟩ := h
  exact ⟨a, c, h1, h2, h3, h4, h5, row_below h6 hb⟩
theorem FAt.below {w w' : World} {v : Value} {fs : List (ByteArray × ByteArray)} (h : FAt w v fs) (hb : Below w.heap.size w w') : FAt w' v fs := by
  obtain ⟨a, c, h1, h2, h3⟩ := h
  exact ⟨a, c, h1, h2.below hb, h3⟩
theorem keep_cell {w w' : World} {p : Addr} {v : Value} (hb : Below w.heap.size w w') (h : w.cell? p = some v) : w'.cell? p = some v := (hb.cell (World.block_lt_of_cell? w p h)).trans h
theorem TRow.mono {w w' : World} {v : Value} {ts : List Prt} {P P' : Prt → Value → Value → Value → Prop} (h : TRow w v ts P) (hb : Below w.heap.size w w') (hP : ∀ t x y z, P t x y z → P' t x y z) : TRow w' v ts P' := by
  obtain ⟨hl, a, c, h1, h2⟩ := h
  refine ⟨hl, a, c, h1, ?_⟩
  rcases h2 with h2 | ⟨b, off, rfl, h2⟩
  · exact .inl h2
  · refine .inr ⟨b, off, rfl, fun i t ht => ?_⟩
    obtain ⟨x, y, z, c0, c1, c2, hp⟩ := h2 i t ht
    exact ⟨x, y, z, keep_cell hb c0, keep_cell hb c1, keep_cell hb c2, hP _ _ _ _ hp⟩
theorem PtAt.below {w w' : World} (hb : Below w.heap.size w w') : ∀ (h : Nat) (t : Prt) (x y z : Value), PtAt h w t x y z → PtAt h w' t x y z
  | 0, _, _, _, _, q => q.elim
  | h + 1, t, x, y, z, ⟨q1, q2, q3⟩ => ⟨q1.below hb, q2.below hb, q3.mono hb (fun t x y z => PtAt.below hb h t x y z)⟩
theorem PtAt.up {w : World} : ∀ (h : Nat) (t : Prt) (x y z : Value), PtAt h w t x y z → PtAt (h + 1) w t x y z
  | 0, _, _, _, _, q => q.elim
  | h + 1, t, x, y, z, ⟨q1, q2, q3⟩ => ⟨q1, q2, q3.mono (Below.refl _ _) (fun t x y z => PtAt.up h t x y z)⟩
theorem BAt.one {w : World} {v : Value} {l : List Int} (h : BAt w v l) : v.oneCell' = true := by obtain ⟨a, c, rfl, _⟩ := h; rfl
theorem FAt.one {w : World} {v : Value} {fs : List (ByteArray × ByteArray)} (h : FAt w v fs) : v.oneCell' = true := by obtain ⟨a, c, rfl, _⟩ := h; rfl
theorem TRow.one {w : World} {v : Value} {ts : List Prt} {P : Prt → Value → Value → Value → Prop} (h : TRow w v ts P) : v.oneCell' = true := by obtain ⟨_, a, c, rfl, _⟩ := h; rfl
/-- Has a part what a leaf, or a knot, must have, and nothing else? -/
def shapedZ (k : Kn) (nb np : Nat) : Bool := if k.1 = mpZ then (bord k).isSome && decide (0 < np) && decide (nb = 0) else decide (np = 0)
theorem mp_eq (s : ByteArray) : (s.toList == (⟨#[109, 117, 108, 116, 105, 112, 97, 114, 116]⟩ : ByteArray).toList) = decide (nums s = mpZ) := by
  rw [eq_nums]; rfl
theorem mp_list : (⟨#[109, 117, 108, 116, 105, 112, 97, 114, 116]⟩ : ByteArray).toList = [109, 117, 108, 116, 105, 112, 97, 114, 116] := by rw [ByteArray.toList_eq]
set_option maxHeartbeats 4000000 in
set_option maxRecDepth 100000 in
theorem shaped_any (vf : Value) (ab ap : Option Addr) (nb cb np cp : Nat) (ty sub : ByteArray) (a : Option Addr) (n c : Nat) (ks : List (ByteArray × ByteArray)) (w : World) (hvf : vf.oneCell' = true) (hnb : nb ≤ 9223372036854775807) (hnp : np ≤ 9223372036854775807) (hn : ks.length = n) (h : KAt w ty sub a ks) :
    Calls Tryz.prog 38 #[partV vf (.slice ab nb cb) (.slice ap np cp), Kd.kindV ty sub a n c] w fun e w' => e = .returned (.bool (shapedZ (knOf ty sub ks) nb np)) ∧ Below w.heap.size w w' := by
  have hk0 := keep w (.cells #[vf, .slice ab nb cb, .slice ap np cp] 28)
  have hk1 := keep (w.alloc (.cells #[vf, .slice ab nb cb, .slice ap np cp] 28)) (.cells #[.string ty, .string sub, .slice a n c] 39)
  have hk : Below w.heap.size w ((w.alloc (.cells #[vf, .slice ab nb cb, .slice ap np cp] 28)).alloc (.cells #[.string ty, .string sub, .slice a n c] 39)) := hk0.trans (hk1.mono (by simp))
  have hK0 : ((w.alloc (.cells #[vf, .slice ab nb cb, .slice ap np cp] 28)).alloc (.cells #[.string ty, .string sub, .slice a n c] 39)).heap[w.heap.size + 1]? = some (.cells #[.string ty, .string sub, .slice a n c] 39 (0, 0)) := by
    have := heap_alloc_last (w.alloc (.cells #[vf, .slice ab nb cb, .slice ap np cp] 28)) (.cells #[.string ty, .string sub, .slice a n c] 39)
    rwa [World.size_alloc] at this
  have hP0 : ((w.alloc (.cells #[vf, .slice ab nb cb, .slice ap np cp] 28)).alloc (.cells #[.string ty, .string sub, .slice a n c] 39)).heap[w.heap.size]? = some (.cells #[vf, .slice ab nb cb, .slice ap np cp] 28 (0, 0)) := by
    rw [Below.heap_alloc _ _ _ (by simp)]; exact heap_alloc_last w _
  obtain ⟨k0, k1, k2⟩ := cells3 hK0
  obtain ⟨p0, p1, p2⟩ := cells3 hP0
  have hmp := mp_eq ty
  have hbo := borderOf_any ty sub a n c ks _ hn (h.below hk)
  unfold Kd.kindV at hbo
  unfold partV Kd.kindV
  by_cases hty : nums ty = mpZ
  · rw [decide_eq_true hty] at hmp
    have hmp2 : ty.toList = [109, 117, 108, 116, 105, 112, 97, 114, 116] := by rw [← mp_list]; simpa using hmp
    have HZ : Hid (shapedZ (knOf ty sub ks) nb np = ((bord (knOf ty sub ks)).isSome && decide (0 < np) && decide (nb = 0))) := by
      unfold Hid shapedZ; rw [if_pos (show (knOf ty sub ks).1 = mpZ from hty)]
    clear hty hmp
    go_enter Tryz.func38, Tryz.ntmps38
    go_wp2_with fail
    refine hbo.mono ?_
    rintro e w1 ⟨s, b, rfl, hb1, hbt, hbf, _⟩
    have HB1 : Hid (Below w.heap.size w w1) := hk.trans (hb1.mono (by simp; omega))
    have q1 := keep_cell hb1 p1
    have q2 := keep_cell hb1 p2
    clear hbo hb1 k0 k1 k2 p0 p1 p2 hP0 hK0
    cases b with
    | false =>
      have HV : Hid (shapedZ (knOf ty sub ks) nb np = false) := by unfold Hid; rw [HZ.out, hbf rfl]; rfl
      clear hbt hbf
      go_wp2
      go_ret
      exact ⟨ret_bool HV.out.symm, HB1.out⟩
    | true =>
      have HV : Hid (shapedZ (knOf ty sub ks) nb np = (decide (0 < np) && decide (nb = 0))) := by unfold Hid; rw [HZ.out, hbt rfl]; rfl
      clear hbt hbf
      by_cases hp : 0 < np
      · have d1 : decide ((0 : Int) < (np : Int)) = true := by simp; omega
        by_cases hb : nb = 0
        · have d2 : ((nb : Int) == 0) = true := by simp [hb]
          have HW : Hid (shapedZ (knOf ty sub ks) nb np = true) := by unfold Hid; rw [HV.out, decide_eq_true hp, decide_eq_true hb]; rfl
          subst hb
          go_wp2
          go_ret
          exact ⟨by rw [HW.out]; rfl, HB1.out⟩
        · have d2 : ((nb : Int) == 0) = false := by rw [beq_eq_false_iff_ne]; omega
          have HW : Hid (shapedZ (knOf ty sub ks) nb np = false) := by unfold Hid; rw [HV.out, decide_eq_false hb, Bool.and_false]
          go_wp2
          go_ret
          exact ⟨by rw [HW.out]; rfl, HB1.out⟩
      · have d1 : decide ((0 : Int) < (np : Int)) = false := by simp; omega
        have HW : Hid (shapedZ (knOf ty sub ks) nb np = false) := by unfold Hid; rw [HV.out, decide_eq_false hp]; rfl
        obtain rfl : np = 0 := by omega
        go_wp2
        go_ret
        exact ⟨by rw [HW.out]; rfl, HB1.out⟩
  · rw [decide_eq_false hty] at hmp
    have hmp2 : ¬ ty.toList = [109, 117, 108, 116, 105, 112, 97, 114, 116] := by rw [← mp_list]; simpa using hmp
    have hmp3 : (ty.toList == [109, 117, 108, 116, 105, 112, 97, 114, 116]) = false := by rw [← mp_list]; exact hmp
    have HZ : Hid (shapedZ (knOf ty sub ks) nb np = decide (np = 0)) := by
      unfold Hid shapedZ; rw [if_neg (show ¬ (knOf ty sub ks).1 = mpZ from hty)]
    have HK : Hid (Below w.heap.size w ((w.alloc (.cells #[vf, .slice ab nb cb, .slice ap np cp] 28)).alloc (.cells #[.string ty, .string sub, .slice a n c] 39))) := hk
    clear hty hmp hbo hk hk0 hk1
    by_cases hp : np = 0
    · have d1 : ((np : Int) == 0) = true := by simp [hp]
      have HW : Hid (shapedZ (knOf ty sub ks) nb np = true) := by unfold Hid; rw [HZ.out, decide_eq_true hp]
      subst hp
      go_enter Tryz.func38, Tryz.ntmps38
      go_wp2
      go_ret
      exact ⟨by rw [HW.out]; rfl, HK.out⟩
    · have d1 : ((np : Int) == 0) = false := by rw [beq_eq_false_iff_ne]; omega
      have HW : Hid (shapedZ (knOf ty sub ks) nb np = false) := by unfold Hid; rw [HZ.out, decide_eq_false hp]
      go_enter Tryz.func38, Tryz.ntmps38
      go_wp2
      go_ret
      exact ⟨by rw [HW.out]; rfl, HK.out⟩
end Go.Proofs.YtmdkmedlncfcbaaGreatDoor
