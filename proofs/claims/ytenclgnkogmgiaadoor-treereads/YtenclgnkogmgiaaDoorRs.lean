/-
  A text that is read: what is taken off its front; the contracts of take, sign, name, value and param.
-/
import Derived.Test.YtenclgnkogmgiaaDoorRt
namespace Go.Proofs.YtenclgnkogmgiaaDoor
open Go.RowKit
set_option linter.unusedVariables false

/-- The text that is left lies in block g. -/
def Rs (w : World) (g : Nat) (t : ByteArray) : Prop := w.heap[g]? = some (.cells #[.string t] 108 (0, 0))
/-- All but block g lies as it lay. -/
def Kx (g : Nat) (w w' : World) : Prop := Below g w w' ∧ ∀ k, g < k → k < w.heap.size → w'.heap[k]? = w.heap[k]?
theorem Kx.refl (g : Nat) (w : World) : Kx g w w := ⟨Below.refl _ _, fun _ _ _ => rfl⟩
theorem Kx.trans {g : Nat} {a b c : World} (h : Kx g a b) (k : Kx g b c) : Kx g a c := ⟨h.1.trans k.1, fun j h1 h2 => (k.2 j h1 (Nat.lt_of_lt_of_le h2 h.1.size)).trans (h.2 j h1 h2)⟩
theorem Kx.of {g : Nat} {w w' : World} (h : Below w.heap.size w w') (hg : g < w.heap.size) : Kx g w w' := ⟨h.mono (by omega), fun k _ h2 => h.block k h2⟩
theorem Kx.set {g : Nat} (w : World) (i : Nat) (u : Value) : Kx g w (w.setCell ⟨g, i, none⟩ u) :=
  ⟨(Below.refl g w).setCell (p := ⟨g, i, none⟩) (Nat.le_refl _) u, fun k h1 h2 => heap_setCell_other _ _ _ _ (by simp; omega)⟩
theorem Rs.lt {w : World} {g : Nat} {t : ByteArray} (h : Rs w g t) : g < w.heap.size := (Array.getElem?_eq_some_iff.1 h).1
theorem Rs.cell {w : World} {g : Nat} {t : ByteArray} (h : Rs w g t) : w.cell? ⟨g, 0, none⟩ = some (.string t) := by rw [cell_of_row w _ _ _ _ _ h]; rfl
theorem Rs.frozen {w : World} {g : Nat} {t : ByteArray} (h : Rs w g t) : w.frozen? ⟨g, 0, none⟩ = false := frozen_of_row w _ _ _ _ h
theorem Rs.set {w : World} {g : Nat} {t : ByteArray} (h : Rs w g t) (t' : ByteArray) : Rs (w.setCell ⟨g, 0, none⟩ (.string t')) g t' := heap_setCell_same _ _ 0 _ 108 _ h
theorem Rs.below {w w' : World} {g : Nat} {t : ByteArray} (h : Rs w g t) (hb : Below w.heap.size w w') : Rs w' g t := (hb.block g h.lt).trans h
/-- How long is the text in block g? -/
def restLen (w : World) (g : Nat) : Nat :=
  match w.cell? ⟨g, 0, none⟩ with
  | some (.string t) => t.size
  | _ => 0
theorem restLen_of {w : World} {g : Nat} {t : ByteArray} (h : Rs w g t) : restLen w g = t.size := by unfold restLen; rw [h.cell]

theorem dropWhile_le (p : Int → Bool) : ∀ l : List Int, (l.dropWhile p).length ≤ l.length
  | [] => by simp
  | c :: l => by
    rw [List.dropWhile_cons]; split
    · have := dropWhile_le p l; simp; omega
    · simp
theorem Kx.block {g : Nat} {w w' : World} (h : Kx g w w') {k : Nat} (hk : k ≠ g) (hlt : k < w.heap.size) : w'.heap[k]? = w.heap[k]? := by
  rcases Nat.lt_or_ge k g with q | q
  · exact h.1.block k q
  · exact h.2 k (by omega) hlt
theorem Kx.res {g : Nat} (w : World) (f o : Nat) (u : Value) {w0 : World} (h : Kx g w0 w) (hg : g < w0.heap.size) (hf : w0.heap.size ≤ f) : Kx g w0 (w.setCell ⟨f, o, none⟩ u) :=
  ⟨h.1.setCell (p := ⟨f, o, none⟩) (by simp; omega) u, fun k h1 h2 => (heap_setCell_other _ _ _ _ (by simp; omega)).trans (h.2 k h1 h2)⟩
theorem Rs.other {w : World} {g f o : Nat} {u : Value} {t : ByteArray} (h : Rs w g t) (hf : f ≠ g) : Rs (w.setCell ⟨f, o, none⟩ u) g t := (heap_setCell_other _ _ _ _ (by simpa using Ne.symm hf)).trans h
theorem tw_take (p : Int → Bool) : ∀ l : List Int, l.take (l.takeWhile p).length = l.takeWhile p
  | [] => rfl
  | c :: l => by
    rw [List.takeWhile_cons]; split
    · rw [List.length_cons, List.take_succ_cons, tw_take p l]
    · rfl
theorem tw_drop (p : Int → Bool) : ∀ l : List Int, l.drop (l.takeWhile p).length = l.dropWhile p
  | [] => rfl
  | c :: l => by
    rw [List.takeWhile_cons, List.dropWhile_cons]; split
    · rw [List.length_cons, List.drop_succ_cons, tw_drop p l]
    · rfl
theorem empty_list (s : ByteArray) : decide (s.toList = []) = decide (s.size = 0) := by
  have := toList_emp s
  rw [Bool.eq_iff_iff] at this ⊢
  simpa using this
set_option maxRecDepth 100000 in
theorem take_any (g : Nat) (n : Nat) (t : ByteArray) (w : World) (h : Rs w g t) (hn : n ≤ t.size) (hs : t.size ≤ 1000000000) :
    Calls Tryd.prog 95 #[.pointer (some ⟨g, 0, none⟩), .int .i64 n] w fun e w' => e = .returned (.string (t.extract 0 n)) ∧ Rs w' g (t.extract n t.size) ∧ Kx g w w' := by
  have HR : Hid (Rs w g t) := h
  have hc := h.cell
  have hf := h.frozen
  clear h
  go_enter Tryd.func95, Tryd.ntmps95
  go_wp2
  go_ret
  exact ⟨rfl, HR.out.set _, Kx.set _ _ _⟩
/-- Does a sign stand at the front? -/
def signB (c : Int) : List Int → Bool
  | [] => false
  | d :: _ => decide (d = c)
def signR (c : Int) (l : List Int) : List Int := if signB c l = true then l.tail else l
set_option maxRecDepth 100000 in
theorem sign_le (c : Int) (l : List Int) : (signR c l).length ≤ l.length := by
  unfold signR; split <;> simp
set_option maxRecDepth 100000 in
theorem sign_any (g : Nat) (c : Int) (t : ByteArray) (w : World) (h : Rs w g t) (hs : t.size ≤ 1000000000) :
    Calls Tryd.prog 79 #[.pointer (some ⟨g, 0, none⟩), .int .u8 c] w fun e w' => e = .returned (.bool (signB c (nums t))) ∧ ∃ t', Rs w' g t' ∧ nums t' = signR c (nums t) ∧ Kx g w w' := by
  have HR : Hid (Rs w g t) := h
  have hc := h.cell
  have hf := h.frozen
  clear h
  have he := toList_emp t
  by_cases h0 : t.size = 0
  · rw [decide_eq_true h0] at he
    have HN : Hid (nums t = []) := List.eq_nil_of_length_eq_zero (by rw [nums_len]; exact h0)
    go_enter Tryd.func79, Tryd.ntmps79
    go_wp2
    go_ret
    rw [HN.out]
    exact ⟨rfl, t, HR.out, by rw [HN.out]; rfl, Kx.refl _ _⟩
  · rw [decide_eq_false h0] at he
    have hlt : 0 < t.size := by omega
    have HD : Hid (nums t = (t[0].toNat : Int) :: (nums t).drop 1) := nums_drop t 0 hlt
    obtain ⟨d, hd⟩ : ∃ d : Int, ((t[0]'hlt).toNat : Int) = d := ⟨_, rfl⟩
    rw [hd] at HD
    by_cases hq : d = c
    · have hb : (d != c) = false := by simp [hq]
      have HS : Hid (signB c (nums t) = true ∧ signR c (nums t) = (nums t).drop 1) := by
        have e : signB c (nums t) = true := by rw [HD.out]; simp [signB, hq]
        refine ⟨e, ?_⟩
        rw [signR, if_pos e]; simp
      have htk := take_any g 1 t w HR.out (by omega) hs
      clear hq
      go_enter Tryd.func79, Tryd.ntmps79
      go_wp2_with (go_at_call 95; refine htk.mono ?_; rintro e w1 ⟨rfl, hr1, hk1⟩)
      go_ret
      rw [HS.out.1]
      exact ⟨rfl, _, hr1, by rw [HS.out.2, nums_from], hk1⟩
    · have hb : (d != c) = true := by simp [hq]
      have HS : Hid (signB c (nums t) = false ∧ signR c (nums t) = nums t) := by
        have e : signB c (nums t) = false := by rw [HD.out]; simp [signB, hq]
        refine ⟨e, ?_⟩
        rw [signR, if_neg (by rw [e]; simp)]
      clear hq
      go_enter Tryd.func79, Tryd.ntmps79
      go_wp2
      go_ret
      rw [HS.out.1]
      exact ⟨rfl, t, HR.out, HS.out.2.symm, Kx.refl _ _⟩
set_option maxRecDepth 100000 in
set_option maxHeartbeats 1000000 in
theorem name_any (g : Nat) (t : ByteArray) (w : World) (h : Rs w g t) (hs : t.size ≤ 1000000000) :
    Calls Tryd.prog 78 #[.pointer (some ⟨g, 0, none⟩)] w fun e w' => ∃ x t', e = .returned (.string x) ∧ nums x = ((nums t).takeWhile nmC).map largeZ ∧ Rs w' g t' ∧ nums t' = (nums t).dropWhile nmC ∧ Kx g w w' := by
  have hgl := h.lt
  have hc := h.cell
  have hn : endZ (nums t) ≤ t.size := by rw [← nums_len]; exact tw_le _ _
  have HT : Hid ((nums t).take (endZ (nums t)) = (nums t).takeWhile nmC) := tw_take _ _
  have HD : Hid ((nums t).drop (endZ (nums t)) = (nums t).dropWhile nmC) := tw_drop _ _
  have hcall := nameEnd_any t w hs
  generalize endZ (nums t) = n at hn HT HD hcall
  have htk := take_any g n t w h hn hs
  have hes : (t.extract 0 n).size ≤ 1000000000 := by rw [← nums_len, nums_to, List.length_take, nums_len]; omega
  have hlg := fun V => large_any (t.extract 0 n) V hes
  clear h hes
  go_enter Tryd.func78, Tryd.ntmps78
  go_wp2_with (first
    | (go_at_call 83; refine hcall.mono ?_; rintro e w1 ⟨rfl, rfl⟩)
    | (go_at_call 95; refine htk.mono ?_; rintro e w2 ⟨rfl, hr2, hk2⟩)
    | (go_at_call 84; refine (hlg _).mono ?_; rintro e w3 ⟨rfl, hb3⟩))
  go_ret
  refine ⟨_, _, rfl, ?_, hr2.below hb3, by rw [nums_from]; exact HD.out, hk2.trans (Kx.of hb3 hr2.lt)⟩
  rw [nums_str (map_large_byt (nums_byt _)), nums_to, HT.out]
/-- The signs that end a Value without ". -/
def mkQ (c : Int) : Bool := [59, 58, 44, 34].contains c
/-- A Value and what stands behind it. -/
def valueR (l : List Int) : Option (List Int × List Int) :=
  if signB 34 l = true then (if l.tail.contains 34 = true then some (l.tail.takeWhile fun c => !decide (c = 34), (l.tail.dropWhile fun c => !decide (c = 34)).tail) else none)
  else if l.any mkQ = true then some (l.takeWhile fun c => !mkQ c, l.dropWhile fun c => !mkQ c) else none
def Ans (b : Bool) (x : Option (List Int × List Int)) (v t : List Int) : Prop := (b = true → x = some (v, t)) ∧ (b = false → x = none)
theorem tw_app {c : Int} : ∀ {a : List Int} (r : List Int), c ∉ a → (a ++ c :: r).takeWhile (fun d => !decide (d = c)) = a ∧ (a ++ c :: r).dropWhile (fun d => !decide (d = c)) = c :: r
  | [], r, _ => by simp
  | d :: a, r, h => by
    simp only [List.mem_cons, not_or] at h
    have ih := tw_app r h.2
    have hd : (!decide (d = c)) = true := by simp; exact Ne.symm h.1
    rw [List.cons_append, List.takeWhile_cons, List.dropWhile_cons, if_pos hd, if_pos hd]
    exact ⟨by rw [ih.1], ih.2⟩
theorem asc_of {s : ByteArray} (h : s.data.toList.all (fun b => decide (b.toNat < 128)) = true) : Asc s := by
  intro i hi
  have hl : i < s.data.toList.length := by rw [Array.length_toList]; exact hi
  have := List.all_eq_true.1 h _ (List.getElem_mem hl)
  simp at this
  exact this
theorem mk_asc : Asc ⟨#[59, 58, 44, 34]⟩ := asc_of (by decide)
set_option maxHeartbeats 4000000 in
set_option maxRecDepth 100000 in
theorem value_any (g : Nat) (t : ByteArray) (w : World) (h : Rs w g t) (hs : t.size ≤ 1000000000) :
    Calls Tryd.prog 96 #[.pointer (some ⟨g, 0, none⟩)] w fun e w' => ∃ v t' b, e = .returned (.tuple #[.string v, .bool b]) ∧ Rs w' g t' ∧ Kx g w w' ∧ Ans b (valueR (nums t)) (nums v) (nums t') := by
  cases hb : signB 34 (nums t) with
  | true =>
    have HV : Hid (valueR (nums t) = if (signR 34 (nums t)).contains 34 = true then some ((signR 34 (nums t)).takeWhile fun c => !decide (c = 34), ((signR 34 (nums t)).dropWhile fun c => !decide (c = 34)).tail) else none) := by
      unfold Hid valueR signR; rw [if_pos hb, if_pos hb]
    go_enter Tryd.func96, Tryd.ntmps96
    go_wp2_with fail
    refine (sign_any g 34 t _ h hs).mono ?_
    rintro e w1 ⟨rfl, t1, hr1, ht1, hk1⟩
    rw [hb]
    have hs1 : t1.size ≤ 1000000000 := by rw [← nums_len, ht1]; have := sign_le 34 (nums t); rw [nums_len] at this; omega
    have HT1 : Hid (nums t1 = signR 34 (nums t)) := ht1
    have HK1 : Hid (Kx g w w1) := hk1
    have HR1 : Hid (Rs w1 g t1) := hr1
    have hc1 := hr1.cell
    have hcut := fun V => cut_any t1 34 V hs1
    clear ht1 hk1 hr1 h
    go_wp2_with fail
    refine (hcut _).mono ?_
    rintro e w2 ⟨l, r, b, rfl, ha, ⟨q, rfl⟩, hz1, hz2⟩
    have e34 : ((34 : UInt8).toNat : Int) = 34 := rfl
    rw [e34] at ha
    have hr2 : Rs (w1.drewN q) g t1 := HR1.out
    have HR2 : Hid (Rs (w1.drewN q) g t1) := hr2
    have hc2 := hr2.cell
    have hf2 := hr2.frozen
    have HK2 : Hid (Kx g w (w1.drewN q)) := HK1.out.trans (Kx.of (below_drewN (Below.refl _ _) q) HR1.out.lt)
    have HA : Hid (Ans b (valueR (nums t)) (nums l) (nums r)) := by
      unfold CutA at ha
      rw [HT1.out] at ha
      refine ⟨fun hb => ?_, fun hb => ?_⟩
      · obtain ⟨h1, h2⟩ := ha.1 hb
        rw [HV.out, h1]
        obtain ⟨q1, q2⟩ := tw_app (nums r) h2
        rw [if_pos (by simp), q1, q2]; rfl
      · obtain ⟨h1, _⟩ := ha.2 hb
        rw [HV.out, if_neg (by simpa using h1)]
    clear hr2 ha hc1
    go_wp2
    go_ret2
    exact ⟨l, r, b, rfl, HR2.out.set _, HK2.out.trans (Kx.set _ _ _), HA.out⟩
  | false =>
    have HV : Hid (valueR (nums t) = if (nums t).any mkQ = true then some ((nums t).takeWhile fun c => !mkQ c, (nums t).dropWhile fun c => !mkQ c) else none) := by
      unfold Hid valueR; rw [if_neg (by rw [hb]; simp)]
    have HS : Hid (signR 34 (nums t) = nums t) := by unfold Hid signR; rw [if_neg (by rw [hb]; simp)]
    go_enter Tryd.func96, Tryd.ntmps96
    go_wp2_with fail
    refine (sign_any g 34 t _ h hs).mono ?_
    rintro e w1 ⟨rfl, t1, hr1, ht1, hk1⟩
    rw [hb]
    rw [HS.out] at ht1
    obtain rfl := nums_inj ht1
    have HK1 : Hid (Kx g w w1) := hk1
    have HR1 : Hid (Rs w1 g t1) := hr1
    have hc1 := hr1.cell
    have hany := fun V => indexAny_any t1 ⟨#[59, 58, 44, 34]⟩ V (by decide) (by decide) hs mk_asc
    have hmk : ∀ l : List Int, anyI (nums ⟨#[59, 58, 44, 34]⟩) l = if l.any mkQ then ((l.takeWhile fun c => !mkQ c).length : Int) else -1 := fun l => rfl
    simp only [hmk] at hany
    clear ht1 hk1 hr1 h hmk
    by_cases hm : (nums t1).any mkQ = true
    · rw [if_pos hm] at hany
      have hle : ((nums t1).takeWhile fun c => !mkQ c).length ≤ t1.size := by rw [← nums_len]; exact tw_le _ _
      have HT : Hid ((nums t1).take ((nums t1).takeWhile fun c => !mkQ c).length = (nums t1).takeWhile fun c => !mkQ c) := tw_take _ _
      have HD : Hid ((nums t1).drop ((nums t1).takeWhile fun c => !mkQ c).length = (nums t1).dropWhile fun c => !mkQ c) := tw_drop _ _
      have HV2 : Hid (valueR (nums t1) = some ((nums t1).takeWhile fun c => !mkQ c, (nums t1).dropWhile fun c => !mkQ c)) := by unfold Hid; rw [HV.out, if_pos hm]
      generalize ((nums t1).takeWhile fun c => !mkQ c).length = n at hany hle HT HD
      clear hm HV
      go_wp2_with fail
      refine (hany _).mono ?_
      rintro e w2 ⟨rfl, hb2⟩
      have HR2 : Hid (Rs w2 g t1) := HR1.out.below hb2
      have HK2 : Hid (Kx g w w2) := HK1.out.trans (Kx.of hb2 HR1.out.lt)
      have htk := take_any g n t1 w2 HR2.out hle hs
      have d0 : decide ((n : Int) < 0) = false := by simp
      clear hb2 hany hc1
      go_wp2_with (go_at_call 95; refine htk.mono ?_; rintro e w3 ⟨rfl, hr3, hk3⟩)
      go_ret2
      exact ⟨_, _, true, rfl, hr3, HK2.out.trans hk3, And.intro (fun _ => by rw [HV2.out, nums_to, nums_from, HT.out, HD.out]) (fun q => by cases q)⟩
    · rw [if_neg hm] at hany
      have HV2 : Hid (valueR (nums t1) = none) := by unfold Hid; rw [HV.out, if_neg hm]
      clear hm HV
      go_wp2_with fail
      refine (hany _).mono ?_
      rintro e w2 ⟨rfl, hb2⟩
      have HR2 : Hid (Rs w2 g t1) := HR1.out.below hb2
      have HK2 : Hid (Kx g w w2) := HK1.out.trans (Kx.of hb2 HR1.out.lt)
      clear hb2 hany hc1
      go_wp2
      go_ret2
      exact ⟨_, _, false, rfl, HR2.out, HK2.out, And.intro (fun q => by cases q) (fun _ => HV2.out)⟩
/-- A parameter and what stands behind it. -/
def paramR (l : List Int) : Option ((List Int × List Int) × List Int) :=
  if signB 61 (l.dropWhile nmC) = true then (valueR (signR 61 (l.dropWhile nmC))).map fun x => (((l.takeWhile nmC).map largeZ, x.1), x.2) else none
def AnsP (b : Bool) (x : Option ((List Int × List Int) × List Int)) (n v t : List Int) : Prop := (b = true → x = some ((n, v), t)) ∧ (b = false → x = none)
set_option maxHeartbeats 4000000 in
set_option maxRecDepth 100000 in
theorem param_any (g : Nat) (t : ByteArray) (w : World) (h : Rs w g t) (hs : t.size ≤ 1000000000) :
    Calls Tryd.prog 80 #[.pointer (some ⟨g, 0, none⟩)] w fun e w' => ∃ n v t' b, e = .returned (.tuple #[.agg #[.string n, .string v], .bool b]) ∧ Rs w' g t' ∧ Kx g w w' ∧ AnsP b (paramR (nums t)) (nums n) (nums v) (nums t') := by
  have hgw := h.lt
  go_enter Tryd.func80, Tryd.ntmps80
  go_wp2_with fail
  refine (name_any g t _ (h.below (keep w _)) hs).mono ?_
  rintro e w1 ⟨n, t1, rfl, hn, hr1, ht1, hk1⟩
  have hs1 : t1.size ≤ 1000000000 := by rw [← nums_len, ht1]; have := dropWhile_le nmC (nums t); rw [nums_len] at this; omega
  have HN : Hid (nums n = ((nums t).takeWhile nmC).map largeZ) := hn
  have HT1 : Hid (nums t1 = (nums t).dropWhile nmC) := ht1
  have HK1 : Hid (Kx g w w1) := (Kx.of (keep w _) hgw).trans hk1
  have HW1 : Hid (w1.heap[w.heap.size]? = some (.cells #[.string ⟨#[]⟩, .string ⟨#[]⟩] 65 (0, 0))) := by
    unfold Hid; rw [hk1.block (by omega) (by simp)]; exact heap_alloc_last w _
  have hgs : g ≠ w.heap.size := by omega
  have HR1 : Hid (Rs w1 g t1) := hr1
  clear hn ht1 hk1 h hr1
  cases hb : signB 61 (nums t1) with
  | false =>
    have HP : Hid (paramR (nums t) = none) := by unfold Hid paramR; rw [← HT1.out, if_neg (by rw [hb]; simp)]
    go_wp2_with fail
    refine (sign_any g 61 t1 _ HR1.out hs1).mono ?_
    rintro e w2 ⟨rfl, t2, hr2, ht2, hk2⟩
    rw [hb]
    have HK2 : Hid (Kx g w w2) := HK1.out.trans hk2
    have hW2 : w2.heap[w.heap.size]? = some (.cells #[.string ⟨#[]⟩, .string ⟨#[]⟩] 65 (0, 0)) := (hk2.block (Ne.symm hgs) (Array.getElem?_eq_some_iff.1 HW1.out).1).trans HW1.out
    have HR2 : Hid (Rs w2 g t2) := hr2
    have d0 : w2.cell? ⟨w.heap.size, 0, none⟩ = some (.string ⟨#[]⟩) := by rw [cell_of_row _ _ _ _ _ _ hW2]; rfl
    have d1 : w2.cell? ⟨w.heap.size, 1, none⟩ = some (.string ⟨#[]⟩) := by rw [cell_of_row _ _ _ _ _ _ hW2]; rfl
    have e0 : w2.frozen? ⟨w.heap.size, 0, none⟩ = false := frozen_of_row _ _ _ _ _ hW2
    have e1 : w2.frozen? ⟨w.heap.size, 1, none⟩ = false := frozen_of_row _ _ _ _ _ hW2
    have hq1 := heap_setCell_same _ _ 0 _ 65 (.string ⟨#[]⟩) hW2
    have hq2 := heap_setCell_same _ _ 1 _ 65 (.string ⟨#[]⟩) hq1
    have hx0 := cell_of_row _ _ 0 _ _ _ hq2
    have hx1 := cell_of_row _ _ 1 _ _ _ hq2
    have HX0 : Hid (_ = _) := hx0
    have HX1 : Hid (_ = _) := hx1
    clear hr2 ht2 hk2 hW2 hq1 hq2 hx0 hx1
    go_wp2
    (try simp only [Exit.inBlock, Exit.then])
    have hx0 := HX0.out
    have hx1 := HX1.out
    refine bodyPost_ret (v := .tuple #[.agg #[.string ⟨#[]⟩, .string ⟨#[]⟩], .bool false]) (by simp [results, Tryd.results80, go_sem, hx0, hx1]) rfl ⟨_, _, t2, false, rfl, ?_, ?_, And.intro (fun q => by cases q) (fun _ => HP.out)⟩
    · exact (HR2.out.other (Ne.symm hgs)).other (Ne.symm hgs)
    · exact (HK2.out.res w2 _ _ _ hgw (Nat.le_refl _)).res _ _ _ _ hgw (Nat.le_refl _)
  | true =>
    have HP : Hid (paramR (nums t) = (valueR (signR 61 (nums t1))).map fun x => ((nums n, x.1), x.2)) := by unfold Hid paramR; rw [← HT1.out, if_pos hb, HN.out]
    go_wp2_with fail
    refine (sign_any g 61 t1 _ HR1.out hs1).mono ?_
    rintro e w2 ⟨rfl, t2, hr2, ht2, hk2⟩
    rw [hb]
    have hs2 : t2.size ≤ 1000000000 := by rw [← nums_len, ht2]; have := sign_le 61 (nums t1); rw [nums_len] at this; omega
    have HK2 : Hid (Kx g w w2) := HK1.out.trans hk2
    have HW2 : Hid (w2.heap[w.heap.size]? = some (.cells #[.string ⟨#[]⟩, .string ⟨#[]⟩] 65 (0, 0))) := (hk2.block (Ne.symm hgs) (Array.getElem?_eq_some_iff.1 HW1.out).1).trans HW1.out
    have HR2 : Hid (Rs w2 g t2) := hr2
    have HT2 : Hid (nums t2 = signR 61 (nums t1)) := ht2
    clear hr2 ht2 hk2
    go_wp2_with fail
    refine (value_any g t2 _ HR2.out hs2).mono ?_
    rintro e w3 ⟨v, t3, b, rfl, hr3, hk3, ha⟩
    have HK3 : Hid (Kx g w w3) := HK2.out.trans hk3
    have hW3 : w3.heap[w.heap.size]? = some (.cells #[.string ⟨#[]⟩, .string ⟨#[]⟩] 65 (0, 0)) := (hk3.block (Ne.symm hgs) (Array.getElem?_eq_some_iff.1 HW2.out).1).trans HW2.out
    have HR3 : Hid (Rs w3 g t3) := hr3
    have HA : Hid (Ans b (valueR (nums t2)) (nums v) (nums t3)) := ha
    have d0 : w3.cell? ⟨w.heap.size, 0, none⟩ = some (.string ⟨#[]⟩) := by rw [cell_of_row _ _ _ _ _ _ hW3]; rfl
    have d1 : w3.cell? ⟨w.heap.size, 1, none⟩ = some (.string ⟨#[]⟩) := by rw [cell_of_row _ _ _ _ _ _ hW3]; rfl
    have e0 : w3.frozen? ⟨w.heap.size, 0, none⟩ = false := frozen_of_row _ _ _ _ _ hW3
    have e1 : w3.frozen? ⟨w.heap.size, 1, none⟩ = false := frozen_of_row _ _ _ _ _ hW3
    have hq1 := heap_setCell_same _ _ 0 _ 65 (.string n) hW3
    have hq2 := heap_setCell_same _ _ 1 _ 65 (.string v) hq1
    have hx0 := cell_of_row _ _ 0 _ _ _ hq2
    have hx1 := cell_of_row _ _ 1 _ _ _ hq2
    have HX0 : Hid (_ = _) := hx0
    have HX1 : Hid (_ = _) := hx1
    clear hr3 hk3 ha hW3 hq1 hq2 hx0 hx1
    go_wp2
    (try simp only [Exit.inBlock, Exit.then])
    have hx0 := HX0.out
    have hx1 := HX1.out
    refine bodyPost_ret (v := .tuple #[.agg #[.string n, .string v], .bool b]) (by simp [results, Tryd.results80, go_sem, hx0, hx1]) rfl ⟨n, v, t3, b, rfl, ?_, ?_, ?_, ?_⟩
    · exact (HR3.out.other (Ne.symm hgs)).other (Ne.symm hgs)
    · exact (HK3.out.res w3 _ _ _ hgw (Nat.le_refl _)).res _ _ _ _ hgw (Nat.le_refl _)
    · intro q; rw [HP.out, ← HT2.out, HA.out.1 q]; rfl
    · intro q; rw [HP.out, ← HT2.out, HA.out.2 q]; rfl
end Go.Proofs.YtenclgnkogmgiaaDoor
