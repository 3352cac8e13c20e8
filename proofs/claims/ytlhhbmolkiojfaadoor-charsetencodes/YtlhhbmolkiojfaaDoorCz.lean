/-
  The contract of the reference's wide.
-/
import Derived.Test.YtlhhbmolkiojfaaDoorCy
namespace Go.Proofs.YtlhhbmolkiojfaaDoor
open Go.RowKit
set_option linter.unusedVariables false

theorem flat_units {s : Int} (hs : s = 7 ∨ s = 8) : ∀ {ps : List Int}, Ut.AllPt ps → (flatS s ps).length = 2 * (uF ps).length
  | [], _ => rfl
  | p :: ps, h => by
    rw [flatS_cons, uF_cons, List.length_append, List.length_append, flat_units hs h.tail, show encS s p = encU s p by unfold encS; rw [if_neg (by omega), if_pos hs], encU_len s h.head]
    unfold uOf
    split <;> simp <;> omega
set_option maxRecDepth 100000 in
set_option maxHeartbeats 8000000 in
theorem rwide_le_yes (a : Option Addr) (len cap k0 : Nat) (l ps : List Int) (w : World) (hd : l.drop k0 = flatS 8 ps) (hk0 : k0 ≤ len) (hk2 : k0 % 2 = 0) (hps : Ut.AllPt ps) (hlen : l.length = len) (hl : Byt l) (hcap : len ≤ cap) (hm : cap ≤ maxLen) (hsmall : len ≤ 4000) (hrow : Row w a l) :
    Calls Tryd.prog 38 #[.slice a len cap, .int .i64 k0, .bool true] w fun e w' => ∃ v, e = .returned (.tuple #[v, .agg #[.int .i64 0, .int .i64 0]]) ∧ Ut.Own32 w' w.heap.size v ps ∧ Below w.heap.size w w' := by
  have hm' := hm
  unfold maxLen at hm'
  have hfl := flat_units (s := 8) (.inr rfl) hps
  have hus := units_flat (s := 8) (.inr rfl) hps ([])
  have hll := congrArg List.length hd
  rw [List.length_drop, hlen] at hll
  obtain ⟨a', ha'⟩ : ∃ a', (if cap = k0 then a else a.map fun x => x.add k0) = a' := ⟨_, rfl⟩
  have hrow2 := row_drop (n := k0) (cap := cap) hrow (by omega)
  rw [ha'] at hrow2
  have KU : ∀ W : World, Below w.heap.size w W → Calls Tryd.prog 49 #[.slice a' (len - k0) (cap - k0), .bool true] W fun e w' => ∃ v, e = .returned v ∧ Ut.Own32 w' W.heap.size v (unitsZ 8 (l.drop k0)) ∧ Below W.heap.size W w' := fun W hb =>
    runits_le a' (len - k0) (cap - k0) (l.drop k0) W (by rw [List.length_drop, hlen]) (hl.drop k0) (by omega) (by unfold maxLen; omega) (by omega) (row_below hrow2 hb)
  rw [hd, ← List.append_nil (flatS 8 ps), hus] at KU
  rw [show unitsZ 8 [] = [] from rfl, List.append_nil] at KU
  have hev : (len : Int).tmod 2 = 0 := by
    have h1 : len % 2 = 0 := by omega
    have := Int.ofNat_tmod len 2
    rw [h1] at this
    exact_mod_cast this.symm
  have hul : (uF ps).length ≤ 4000 := by rw [hfl] at hll; omega
  have hHPS : Hid (Ut.AllPt ps) := hps
  clear hrow hrow2 hd hus hl hlen hfl hll hps
  go_enter Tryd.func38, Tryd.ntmps38
  go_wp2_with fail
  refine (KU _ (keep w _)).mono ?_
  rintro e w1 ⟨v1, rfl, hown1, hb1⟩
  unfold Ut.Own32 at hown1
  obtain ⟨a1, cap1, rfl, hc1, hm1, hrow1, hn1⟩ := own_row' hown1
  have hs1 := hb1.size
  simp at hs1
  have HB1 : Below (w.heap.size + 1) (w.alloc (.cells #[.int .i64 0, .int .i64 0] 26)) w1 := by have := hb1; simpa using this
  have KP := rpairs_yes a1 _ cap1 ps w1 rfl hHPS.out hc1 hm1 hul hrow1
  obtain ⟨n1, hn1'⟩ : ∃ n1, (uF ps).length = n1 := ⟨_, rfl⟩
  rw [hn1'] at KP
  try rw [hn1']
  clear hown1 hrow1 hn1'
  go_wp2_with fail
  refine KP.mono ?_
  rintro e w2 ⟨v2, rfl, hown2, hb2⟩
  have hs2 := hb2.size
  have HB2 : Below (w.heap.size + 1) (w.alloc (.cells #[.int .i64 0, .int .i64 0] 26)) w2 := HB1.trans (hb2.mono hs1)
  have c0 : w2.cell? ⟨w.heap.size, 0, none⟩ = some (.int .i64 0) := by rw [HB2.cell (by simp)]; simp
  have c1 : w2.cell? ⟨w.heap.size, 1, none⟩ = some (.int .i64 0) := by rw [HB2.cell (by simp)]; simp
  have f0 : w2.frozen? ⟨w.heap.size, 0, none⟩ = false := by rw [HB2.frozen (by simp)]; simp
  have f1 : w2.frozen? ⟨w.heap.size, 1, none⟩ = false := by rw [HB2.frozen (by simp)]; simp
  have HO : Hid (Below w.heap.size w w2) := ((Below.refl _ w).alloc (Nat.le_refl _) _).trans (HB2.mono (Nat.le_succ _))
  have HV : Hid (Ut.Own32 w2 (w.heap.size + 1) v2 ps) := Ut.own_base hs1 hown2
  clear hb1 hb2 HB1 HB2 KU KP hown2
  go_wp2
  exact bodyPost_ret (v := .tuple #[v2, .agg #[.int .i64 0, .int .i64 0]]) (by simp [results, Tryd.results38, go_sem, c0, c1]) rfl ⟨v2, rfl, Ut.own_base (Nat.le_succ _) (ownsRow_setCell_below (ownsRow_setCell_below HV.out (by simp) _) (by simp) _), (HO.out.setCell (by simp) _).setCell (by simp) _⟩
set_option maxRecDepth 100000 in
set_option maxHeartbeats 8000000 in
theorem rwide_le_odd (a : Option Addr) (len cap k0 : Nat) (l ps : List Int) (w : World) (c : Int) (hd : l.drop k0 = flatS 8 ps ++ [c]) (hk0 : k0 ≤ len) (hk2 : k0 % 2 = 0) (hps : Ut.AllPt ps) (hlen : l.length = len) (hl : Byt l) (hcap : len ≤ cap) (hm : cap ≤ maxLen) (hsmall : len ≤ 4000) (hrow : Row w a l) :
    Calls Tryd.prog 38 #[.slice a len cap, .int .i64 k0, .bool true] w fun e w' => e = .returned (.tuple #[.slice none 0 0, .agg #[.int .i64 ((k0 + (flatS 8 ps).length : Nat) : Int), .int .i64 20]]) ∧ Below w.heap.size w w' := by
  have hm' := hm
  unfold maxLen at hm'
  have hfl := flat_units (s := 8) (.inr rfl) hps
  have hus := units_flat (s := 8) (.inr rfl) hps ([c])
  have hll := congrArg List.length hd
  rw [List.length_drop, hlen] at hll
  obtain ⟨a', ha'⟩ : ∃ a', (if cap = k0 then a else a.map fun x => x.add k0) = a' := ⟨_, rfl⟩
  have hrow2 := row_drop (n := k0) (cap := cap) hrow (by omega)
  rw [ha'] at hrow2
  have KU : ∀ W : World, Below w.heap.size w W → Calls Tryd.prog 49 #[.slice a' (len - k0) (cap - k0), .bool true] W fun e w' => ∃ v, e = .returned v ∧ Ut.Own32 w' W.heap.size v (unitsZ 8 (l.drop k0)) ∧ Below W.heap.size W w' := fun W hb =>
    runits_le a' (len - k0) (cap - k0) (l.drop k0) W (by rw [List.length_drop, hlen]) (hl.drop k0) (by omega) (by unfold maxLen; omega) (by omega) (row_below hrow2 hb)
  rw [hd, hus] at KU
  rw [show unitsZ 8 [c] = [] by simp [unitsZ], List.append_nil] at KU
  have hod : (len : Int).tmod 2 = 1 := by
    have h1 : len % 2 = 1 := by rw [List.length_append] at hll; simp at hll; omega
    have := Int.ofNat_tmod len 2
    rw [h1] at this
    exact_mod_cast this.symm
  have hval : ((k0 + (flatS 8 ps).length : Nat) : Int) = (len : Int) - 1 := by rw [List.length_append] at hll; simp at hll; omega
  rw [hval]
  clear hval
  have hul : (uF ps).length ≤ 4000 := by rw [List.length_append, hfl] at hll; omega
  have hHPS : Hid (Ut.AllPt ps) := hps
  clear hrow hrow2 hd hus hl hlen hfl hll hps
  go_enter Tryd.func38, Tryd.ntmps38
  go_wp2_with fail
  refine (KU _ (keep w _)).mono ?_
  rintro e w1 ⟨v1, rfl, hown1, hb1⟩
  unfold Ut.Own32 at hown1
  obtain ⟨a1, cap1, rfl, hc1, hm1, hrow1, hn1⟩ := own_row' hown1
  have hs1 := hb1.size
  simp at hs1
  have HB1 : Below (w.heap.size + 1) (w.alloc (.cells #[.int .i64 0, .int .i64 0] 26)) w1 := by have := hb1; simpa using this
  have KP := rpairs_yes a1 _ cap1 ps w1 rfl hHPS.out hc1 hm1 hul hrow1
  obtain ⟨n1, hn1'⟩ : ∃ n1, (uF ps).length = n1 := ⟨_, rfl⟩
  rw [hn1'] at KP
  try rw [hn1']
  clear hown1 hrow1 hn1'
  go_wp2_with fail
  refine KP.mono ?_
  rintro e w2 ⟨v2, rfl, hown2, hb2⟩
  have hs2 := hb2.size
  have HB2 : Below (w.heap.size + 1) (w.alloc (.cells #[.int .i64 0, .int .i64 0] 26)) w2 := HB1.trans (hb2.mono hs1)
  have c0 : w2.cell? ⟨w.heap.size, 0, none⟩ = some (.int .i64 0) := by rw [HB2.cell (by simp)]; simp
  have c1 : w2.cell? ⟨w.heap.size, 1, none⟩ = some (.int .i64 0) := by rw [HB2.cell (by simp)]; simp
  have f0 : w2.frozen? ⟨w.heap.size, 0, none⟩ = false := by rw [HB2.frozen (by simp)]; simp
  have f1 : w2.frozen? ⟨w.heap.size, 1, none⟩ = false := by rw [HB2.frozen (by simp)]; simp
  have HO : Hid (Below w.heap.size w w2) := ((Below.refl _ w).alloc (Nat.le_refl _) _).trans (HB2.mono (Nat.le_succ _))
  have hw1 : IntKind.i64.wrap ((len : Int) - 1) = (len : Int) - 1 := by rw [IntKind.wrap_i64]; omega
  clear hb1 hb2 HB1 HB2 KU KP hown2
  go_wp2
  exact bodyPost_ret (v := .tuple #[.slice none 0 0, .agg #[.int .i64 ((len : Int) - 1), .int .i64 20]]) (by simp [results, Tryd.results38, go_sem, c0, c1]) rfl ⟨rfl, (HO.out.setCell (by simp) _).setCell (by simp) _⟩
set_option maxRecDepth 100000 in
set_option maxHeartbeats 8000000 in
theorem rwide_le_bad (a : Option Addr) (len cap k0 : Nat) (l ps : List Int) (w : World) (r : List Int) (hd : l.drop k0 = flatS 8 ps ++ r) (hbad : badU (unitsZ 8 r)) (hk0 : k0 ≤ len) (hk2 : k0 % 2 = 0) (hps : Ut.AllPt ps) (hlen : l.length = len) (hl : Byt l) (hcap : len ≤ cap) (hm : cap ≤ maxLen) (hsmall : len ≤ 4000) (hrow : Row w a l) :
    Calls Tryd.prog 38 #[.slice a len cap, .int .i64 k0, .bool true] w fun e w' => e = .returned (.tuple #[.slice none 0 0, .agg #[.int .i64 ((k0 + (flatS 8 ps).length : Nat) : Int), .int .i64 20]]) ∧ Below w.heap.size w w' := by
  have hm' := hm
  unfold maxLen at hm'
  have hfl := flat_units (s := 8) (.inr rfl) hps
  have hus := units_flat (s := 8) (.inr rfl) hps (r)
  have hll := congrArg List.length hd
  rw [List.length_drop, hlen] at hll
  obtain ⟨a', ha'⟩ : ∃ a', (if cap = k0 then a else a.map fun x => x.add k0) = a' := ⟨_, rfl⟩
  have hrow2 := row_drop (n := k0) (cap := cap) hrow (by omega)
  rw [ha'] at hrow2
  have KU : ∀ W : World, Below w.heap.size w W → Calls Tryd.prog 49 #[.slice a' (len - k0) (cap - k0), .bool true] W fun e w' => ∃ v, e = .returned v ∧ Ut.Own32 w' W.heap.size v (unitsZ 8 (l.drop k0)) ∧ Below W.heap.size W w' := fun W hb =>
    runits_le a' (len - k0) (cap - k0) (l.drop k0) W (by rw [List.length_drop, hlen]) (hl.drop k0) (by omega) (by unfold maxLen; omega) (by omega) (row_below hrow2 hb)
  rw [hd, hus] at KU
  have hval : ((k0 + (flatS 8 ps).length : Nat) : Int) = (k0 : Int) + 2 * ((uF ps).length : Nat) := by rw [hfl]; push_cast; rfl
  rw [hval]
  clear hval
  have hul : (uF ps).length ≤ 4000 := by rw [List.length_append, hfl] at hll; omega
  have hUL : (uF ps ++ unitsZ 8 r).length ≤ 4000 := by
    rw [List.length_append, units_len]
    rw [List.length_append, hfl] at hll
    omega
  have hHPS : Hid (Ut.AllPt ps) := hps
  clear hrow hrow2 hd hus hl hlen hfl hll hps
  go_enter Tryd.func38, Tryd.ntmps38
  go_wp2_with fail
  refine (KU _ (keep w _)).mono ?_
  rintro e w1 ⟨v1, rfl, hown1, hb1⟩
  unfold Ut.Own32 at hown1
  obtain ⟨a1, cap1, rfl, hc1, hm1, hrow1, hn1⟩ := own_row' hown1
  have hs1 := hb1.size
  simp at hs1
  have HB1 : Below (w.heap.size + 1) (w.alloc (.cells #[.int .i64 0, .int .i64 0] 26)) w1 := by have := hb1; simpa using this
  have KP := rpairs_no a1 _ cap1 ps (unitsZ 8 r) w1 rfl hHPS.out hbad hc1 hm1 hUL hrow1
  obtain ⟨n1, hn1'⟩ : ∃ n1, (uF ps ++ unitsZ 8 r).length = n1 := ⟨_, rfl⟩
  rw [hn1'] at KP
  try rw [hn1']
  clear hown1 hrow1 hn1'
  go_wp2_with fail
  refine KP.mono ?_
  rintro e w2 ⟨rfl, hb2⟩
  have hs2 := hb2.size
  have HB2 : Below (w.heap.size + 1) (w.alloc (.cells #[.int .i64 0, .int .i64 0] 26)) w2 := HB1.trans (hb2.mono hs1)
  have c0 : w2.cell? ⟨w.heap.size, 0, none⟩ = some (.int .i64 0) := by rw [HB2.cell (by simp)]; simp
  have c1 : w2.cell? ⟨w.heap.size, 1, none⟩ = some (.int .i64 0) := by rw [HB2.cell (by simp)]; simp
  have f0 : w2.frozen? ⟨w.heap.size, 0, none⟩ = false := by rw [HB2.frozen (by simp)]; simp
  have f1 : w2.frozen? ⟨w.heap.size, 1, none⟩ = false := by rw [HB2.frozen (by simp)]; simp
  have HO : Hid (Below w.heap.size w w2) := ((Below.refl _ w).alloc (Nat.le_refl _) _).trans (HB2.mono (Nat.le_succ _))
  obtain ⟨z, hz⟩ : ∃ z : Nat, (uF ps).length = z := ⟨_, rfl⟩
  have HZ : Hid ((uF ps).length = z) := hz
  rw [hz] at hul ⊢
  have hw1 : IntKind.i64.wrap (2 * (z : Int)) = 2 * (z : Int) := by rw [IntKind.wrap_i64]; omega
  have hw2 : IntKind.i64.wrap ((k0 : Int) + 2 * (z : Int)) = (k0 : Int) + 2 * (z : Int) := by rw [IntKind.wrap_i64]; omega
  clear hz hb1 hb2 HB1 HB2 KU KP
  go_wp2
  exact bodyPost_ret (v := .tuple #[.slice none 0 0, .agg #[.int .i64 ((k0 : Int) + 2 * (z : Int)), .int .i64 20]]) (by simp [results, Tryd.results38, go_sem, c0, c1]) rfl ⟨by rw [HZ.out], (HO.out.setCell (by simp) _).setCell (by simp) _⟩
set_option maxRecDepth 100000 in
set_option maxHeartbeats 8000000 in
theorem rwide_be_yes (a : Option Addr) (len cap k0 : Nat) (l ps : List Int) (w : World) (hd : l.drop k0 = flatS 7 ps) (hk0 : k0 ≤ len) (hk2 : k0 % 2 = 0) (hps : Ut.AllPt ps) (hlen : l.length = len) (hl : Byt l) (hcap : len ≤ cap) (hm : cap ≤ maxLen) (hsmall : len ≤ 4000) (hrow : Row w a l) :
    Calls Tryd.prog 38 #[.slice a len cap, .int .i64 k0, .bool false] w fun e w' => ∃ v, e = .returned (.tuple #[v, .agg #[.int .i64 0, .int .i64 0]]) ∧ Ut.Own32 w' w.heap.size v ps ∧ Below w.heap.size w w' := by
  have hm' := hm
  unfold maxLen at hm'
  have hfl := flat_units (s := 7) (.inl rfl) hps
  have hus := units_flat (s := 7) (.inl rfl) hps ([])
  have hll := congrArg List.length hd
  rw [List.length_drop, hlen] at hll
  obtain ⟨a', ha'⟩ : ∃ a', (if cap = k0 then a else a.map fun x => x.add k0) = a' := ⟨_, rfl⟩
  have hrow2 := row_drop (n := k0) (cap := cap) hrow (by omega)
  rw [ha'] at hrow2
  have KU : ∀ W : World, Below w.heap.size w W → Calls Tryd.prog 49 #[.slice a' (len - k0) (cap - k0), .bool false] W fun e w' => ∃ v, e = .returned v ∧ Ut.Own32 w' W.heap.size v (unitsZ 7 (l.drop k0)) ∧ Below W.heap.size W w' := fun W hb =>
    runits_be a' (len - k0) (cap - k0) (l.drop k0) W (by rw [List.length_drop, hlen]) (hl.drop k0) (by omega) (by unfold maxLen; omega) (by omega) (row_below hrow2 hb)
  rw [hd, ← List.append_nil (flatS 7 ps), hus] at KU
  rw [show unitsZ 7 [] = [] from rfl, List.append_nil] at KU
  have hev : (len : Int).tmod 2 = 0 := by
    have h1 : len % 2 = 0 := by omega
    have := Int.ofNat_tmod len 2
    rw [h1] at this
    exact_mod_cast this.symm
  have hul : (uF ps).length ≤ 4000 := by rw [hfl] at hll; omega
  have hHPS : Hid (Ut.AllPt ps) := hps
  clear hrow hrow2 hd hus hl hlen hfl hll hps
  go_enter Tryd.func38, Tryd.ntmps38
  go_wp2_with fail
  refine (KU _ (keep w _)).mono ?_
  rintro e w1 ⟨v1, rfl, hown1, hb1⟩
  unfold Ut.Own32 at hown1
  obtain ⟨a1, cap1, rfl, hc1, hm1, hrow1, hn1⟩ := own_row' hown1
  have hs1 := hb1.size
  simp at hs1
  have HB1 : Below (w.heap.size + 1) (w.alloc (.cells #[.int .i64 0, .int .i64 0] 26)) w1 := by have := hb1; simpa using this
  have KP := rpairs_yes a1 _ cap1 ps w1 rfl hHPS.out hc1 hm1 hul hrow1
  obtain ⟨n1, hn1'⟩ : ∃ n1, (uF ps).length = n1 := ⟨_, rfl⟩
  rw [hn1'] at KP
  try rw [hn1']
  clear hown1 hrow1 hn1'
  go_wp2_with fail
  refine KP.mono ?_
  rintro e w2 ⟨v2, rfl, hown2, hb2⟩
  have hs2 := hb2.size
  have HB2 : Below (w.heap.size + 1) (w.alloc (.cells #[.int .i64 0, .int .i64 0] 26)) w2 := HB1.trans (hb2.mono hs1)
  have c0 : w2.cell? ⟨w.heap.size, 0, none⟩ = some (.int .i64 0) := by rw [HB2.cell (by simp)]; simp
  have c1 : w2.cell? ⟨w.heap.size, 1, none⟩ = some (.int .i64 0) := by rw [HB2.cell (by simp)]; simp
  have f0 : w2.frozen? ⟨w.heap.size, 0, none⟩ = false := by rw [HB2.frozen (by simp)]; simp
  have f1 : w2.frozen? ⟨w.heap.size, 1, none⟩ = false := by rw [HB2.frozen (by simp)]; simp
  have HO : Hid (Below w.heap.size w w2) := ((Below.refl _ w).alloc (Nat.le_refl _) _).trans (HB2.mono (Nat.le_succ _))
  have HV : Hid (Ut.Own32 w2 (w.heap.size + 1) v2 ps) := Ut.own_base hs1 hown2
  clear hb1 hb2 HB1 HB2 KU KP hown2
  go_wp2
  exact bodyPost_ret (v := .tuple #[v2, .agg #[.int .i64 0, .int .i64 0]]) (by simp [results, Tryd.results38, go_sem, c0, c1]) rfl ⟨v2, rfl, Ut.own_base (Nat.le_succ _) (ownsRow_setCell_below (ownsRow_setCell_below HV.out (by simp) _) (by simp) _), (HO.out.setCell (by simp) _).setCell (by simp) _⟩
set_option maxRecDepth 100000 in
set_option maxHeartbeats 8000000 in
theorem rwide_be_odd (a : Option Addr) (len cap k0 : Nat) (l ps : List Int) (w : World) (c : Int) (hd : l.drop k0 = flatS 7 ps ++ [c]) (hk0 : k0 ≤ len) (hk2 : k0 % 2 = 0) (hps : Ut.AllPt ps) (hlen : l.length = len) (hl : Byt l) (hcap : len ≤ cap) (hm : cap ≤ maxLen) (hsmall : len ≤ 4000) (hrow : Row w a l) :
    Calls Tryd.prog 38 #[.slice a len cap, .int .i64 k0, .bool false] w fun e w' => e = .returned (.tuple #[.slice none 0 0, .agg #[.int .i64 ((k0 + (flatS 7 ps).length : Nat) : Int), .int .i64 20]]) ∧ Below w.heap.size w w' := by
  have hm' := hm
  unfold maxLen at hm'
  have hfl := flat_units (s := 7) (.inl rfl) hps
  have hus := units_flat (s := 7) (.inl rfl) hps ([c])
  have hll := congrArg List.length hd
  rw [List.length_drop, hlen] at hll
  obtain ⟨a', ha'⟩ : ∃ a', (if cap = k0 then a else a.map fun x => x.add k0) = a' := ⟨_, rfl⟩
  have hrow2 := row_drop (n := k0) (cap := cap) hrow (by omega)
  rw [ha'] at hrow2
  have KU : ∀ W : World, Below w.heap.size w W → Calls Tryd.prog 49 #[.slice a' (len - k0) (cap - k0), .bool false] W fun e w' => ∃ v, e = .returned v ∧ Ut.Own32 w' W.heap.size v (unitsZ 7 (l.drop k0)) ∧ Below W.heap.size W w' := fun W hb =>
    runits_be a' (len - k0) (cap - k0) (l.drop k0) W (by rw [List.length_drop, hlen]) (hl.drop k0) (by omega) (by unfold maxLen; omega) (by omega) (row_below hrow2 hb)
  rw [hd, hus] at KU
  rw [show unitsZ 7 [c] = [] by simp [unitsZ], List.append_nil] at KU
  have hod : (len : Int).tmod 2 = 1 := by
    have h1 : len % 2 = 1 := by rw [List.length_append] at hll; simp at hll; omega
    have := Int.ofNat_tmod len 2
    rw [h1] at this
    exact_mod_cast this.symm
  have hval : ((k0 + (flatS 7 ps).length : Nat) : Int) = (len : Int) - 1 := by rw [List.length_append] at hll; simp at hll; omega
  rw [hval]
  clear hval
  have hul : (uF ps).length ≤ 4000 := by rw [List.length_append, hfl] at hll; omega
  have hHPS : Hid (Ut.AllPt ps) := hps
  clear hrow hrow2 hd hus hl hlen hfl hll hps
  go_enter Tryd.func38, Tryd.ntmps38
  go_wp2_with fail
  refine (KU _ (keep w _)).mono ?_
  rintro e w1 ⟨v1, rfl, hown1, hb1⟩
  unfold Ut.Own32 at hown1
  obtain ⟨a1, cap1, rfl, hc1, hm1, hrow1, hn1⟩ := own_row' hown1
  have hs1 := hb1.size
  simp at hs1
  have HB1 : Below (w.heap.size + 1) (w.alloc (.cells #[.int .i64 0, .int .i64 0] 26)) w1 := by have := hb1; simpa using this
  have KP := rpairs_yes a1 _ cap1 ps w1 rfl hHPS.out hc1 hm1 hul hrow1
  obtain ⟨n1, hn1'⟩ : ∃ n1, (uF ps).length = n1 := ⟨_, rfl⟩
  rw [hn1'] at KP
  try rw [hn1']
  clear hown1 hrow1 hn1'
  go_wp2_with fail
  refine KP.mono ?_
  rintro e w2 ⟨v2, rfl, hown2, hb2⟩
  have hs2 := hb2.size
  have HB2 : Below (w.heap.size + 1) (w.alloc (.cells #[.int .i64 0, .int .i64 0] 26)) w2 := HB1.trans (hb2.mono hs1)
  have c0 : w2.cell? ⟨w.heap.size, 0, none⟩ = some (.int .i64 0) := by rw [HB2.cell (by simp)]; simp
  have c1 : w2.cell? ⟨w.heap.size, 1, none⟩ = some (.int .i64 0) := by rw [HB2.cell (by simp)]; simp
  have f0 : w2.frozen? ⟨w.heap.size, 0, none⟩ = false := by rw [HB2.frozen (by simp)]; simp
  have f1 : w2.frozen? ⟨w.heap.size, 1, none⟩ = false := by rw [HB2.frozen (by simp)]; simp
  have HO : Hid (Below w.heap.size w w2) := ((Below.refl _ w).alloc (Nat.le_refl _) _).trans (HB2.mono (Nat.le_succ _))
  have hw1 : IntKind.i64.wrap ((len : Int) - 1) = (len : Int) - 1 := by rw [IntKind.wrap_i64]; omega
  clear hb1 hb2 HB1 HB2 KU KP hown2
  go_wp2
  exact bodyPost_ret (v := .tuple #[.slice none 0 0, .agg #[.int .i64 ((len : Int) - 1), .int .i64 20]]) (by simp [results, Tryd.results38, go_sem, c0, c1]) rfl ⟨rfl, (HO.out.setCell (by simp) _).setCell (by simp) _⟩
set_option maxRecDepth 100000 in
set_option maxHeartbeats 8000000 in
theorem rwide_be_bad (a : Option Addr) (len cap k0 : Nat) (l ps : List Int) (w : World) (r : List Int) (hd : l.drop k0 = flatS 7 ps ++ r) (hbad : badU (unitsZ 7 r)) (hk0 : k0 ≤ len) (hk2 : k0 % 2 = 0) (hps : Ut.AllPt ps) (hlen : l.length = len) (hl : Byt l) (hcap : len ≤ cap) (hm : cap ≤ maxLen) (hsmall : len ≤ 4000) (hrow : Row w a l) :
    Calls Tryd.prog 38 #[.slice a len cap, .int .i64 k0, .bool false] w fun e w' => e = .returned (.tuple #[.slice none 0 0, .agg #[.int .i64 ((k0 + (flatS 7 ps).length : Nat) : Int), .int .i64 20]]) ∧ Below w.heap.size w w' := by
  have hm' := hm
  unfold maxLen at hm'
  have hfl := flat_units (s := 7) (.inl rfl) hps
  have hus := units_flat (s := 7) (.inl rfl) hps (r)
  have hll := congrArg List.length hd
  rw [List.length_drop, hlen] at hll
  obtain ⟨a', ha'⟩ : ∃ a', (if cap = k0 then a else a.map fun x => x.add k0) = a' := ⟨_, rfl⟩
  have hrow2 := row_drop (n := k0) (cap := cap) hrow (by omega)
  rw [ha'] at hrow2
  have KU : ∀ W : World, Below w.heap.size w W → Calls Tryd.prog 49 #[.slice a' (len - k0) (cap - k0), .bool false] W fun e w' => ∃ v, e = .returned v ∧ Ut.Own32 w' W.heap.size v (unitsZ 7 (l.drop k0)) ∧ Below W.heap.size W w' := fun W hb =>
    runits_be a' (len - k0) (cap - k0) (l.drop k0) W (by rw [List.length_drop, hlen]) (hl.drop k0) (by omega) (by unfold maxLen; omega) (by omega) (row_below hrow2 hb)
  rw [hd, hus] at KU
  have hval : ((k0 + (flatS 7 ps).length : Nat) : Int) = (k0 : Int) + 2 * ((uF ps).length : Nat) := by rw [hfl]; push_cast; rfl
  rw [hval]
  clear hval
  have hul : (uF ps).length ≤ 4000 := by rw [List.length_append, hfl] at hll; omega
  have hUL : (uF ps ++ unitsZ 7 r).length ≤ 4000 := by
    rw [List.length_append, units_len]
    rw [List.length_append, hfl] at hll
    omega
  have hHPS : Hid (Ut.AllPt ps) := hps
  clear hrow hrow2 hd hus hl hlen hfl hll hps
  go_enter Tryd.func38, Tryd.ntmps38
  go_wp2_with fail
  refine (KU _ (keep w _)).mono ?_
  rintro e w1 ⟨v1, rfl, hown1, hb1⟩
  unfold Ut.Own32 at hown1
  obtain ⟨a1, cap1, rfl, hc1, hm1, hrow1, hn1⟩ := own_row' hown1
  have hs1 := hb1.size
  simp at hs1
  have HB1 : Below (w.heap.size + 1) (w.alloc (.cells #[.int .i64 0, .int .i64 0] 26)) w1 := by have := hb1; simpa using this
  have KP := rpairs_no a1 _ cap1 ps (unitsZ 7 r) w1 rfl hHPS.out hbad hc1 hm1 hUL hrow1
  obtain ⟨n1, hn1'⟩ : ∃ n1, (uF ps ++ unitsZ 7 r).length = n1 := ⟨_, rfl⟩
  rw [hn1'] at KP
  try rw [hn1']
  clear hown1 hrow1 hn1'
  go_wp2_with fail
  refine KP.mono ?_
  rintro e w2 ⟨rfl, hb2⟩
  have hs2 := hb2.size
  have HB2 : Below (w.heap.size + 1) (w.alloc (.cells #[.int .i64 0, .int .i64 0] 26)) w2 := HB1.trans (hb2.mono hs1)
  have c0 : w2.cell? ⟨w.heap.size, 0, none⟩ = some (.int .i64 0) := by rw [HB2.cell (by simp)]; simp
  have c1 : w2.cell? ⟨w.heap.size, 1, none⟩ = some (.int .i64 0) := by rw [HB2.cell (by simp)]; simp
  have f0 : w2.frozen? ⟨w.heap.size, 0, none⟩ = false := by rw [HB2.frozen (by simp)]; simp
  have f1 : w2.frozen? ⟨w.heap.size, 1, none⟩ = false := by rw [HB2.frozen (by simp)]; simp
  have HO : Hid (Below w.heap.size w w2) := ((Below.refl _ w).alloc (Nat.le_refl _) _).trans (HB2.mono (Nat.le_succ _))
  obtain ⟨z, hz⟩ : ∃ z : Nat, (uF ps).length = z := ⟨_, rfl⟩
  have HZ : Hid ((uF ps).length = z) := hz
  rw [hz] at hul ⊢
  have hw1 : IntKind.i64.wrap (2 * (z : Int)) = 2 * (z : Int) := by rw [IntKind.wrap_i64]; omega
  have hw2 : IntKind.i64.wrap ((k0 : Int) + 2 * (z : Int)) = (k0 : Int) + 2 * (z : Int) := by rw [IntKind.wrap_i64]; omega
  clear hz hb1 hb2 HB1 HB2 KU KP
  go_wp2
  exact bodyPost_ret (v := .tuple #[.slice none 0 0, .agg #[.int .i64 ((k0 : Int) + 2 * (z : Int)), .int .i64 20]]) (by simp [results, Tryd.results38, go_sem, c0, c1]) rfl ⟨by rw [HZ.out], (HO.out.setCell (by simp) _).setCell (by simp) _⟩
end Go.Proofs.YtlhhbmolkiojfaaDoor
