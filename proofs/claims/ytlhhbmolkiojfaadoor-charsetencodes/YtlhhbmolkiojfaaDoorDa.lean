/-
  The contract of the reference's Points of a set.
-/
import Derived.Test.YtlhhbmolkiojfaaDoorCz
import Derived.Test.YtlhhbmolkiojfaaDoorURef
namespace Go.Proofs.YtlhhbmolkiojfaaDoor
open Go.RowKit
set_option linter.unusedVariables false

/-- What Points of a set answers. -/
def PtsC (w : World) (arg : Value) (a : Option Addr) (len cap : Nat) (s : Int) (k0 : Nat) (ps r : List Int) (f : Nat) : Prop :=
  (r = [] → Calls Tryd.prog f #[arg, .slice a len cap] w fun e w' => ∃ v, e = .returned (.tuple #[v, .agg #[.int .i64 0, .int .i64 0]]) ∧ Ut.Own32 w' w.heap.size v ps ∧ Below w.heap.size w w') ∧
  (r ≠ [] → Calls Tryd.prog f #[arg, .slice a len cap] w fun e w' => e = .returned (.tuple #[.slice none 0 0, .agg #[.int .i64 ((k0 + (flatS s ps).length : Nat) : Int), .int .i64 20]]) ∧ Below w.heap.size w w')
/-- What wide answers. -/
def WideC (w : World) (a : Option Addr) (len cap k0 : Nat) (lit : Bool) (s : Int) (ps r : List Int) : Prop :=
  (r = [] → Calls Tryd.prog 38 #[.slice a len cap, .int .i64 k0, .bool lit] w fun e w' => ∃ v, e = .returned (.tuple #[v, .agg #[.int .i64 0, .int .i64 0]]) ∧ Ut.Own32 w' w.heap.size v ps ∧ Below w.heap.size w w') ∧
  (r ≠ [] → Calls Tryd.prog 38 #[.slice a len cap, .int .i64 k0, .bool lit] w fun e w' => e = .returned (.tuple #[.slice none 0 0, .agg #[.int .i64 ((k0 + (flatS s ps).length : Nat) : Int), .int .i64 20]]) ∧ Below w.heap.size w w')
theorem rwide_any (lit : Bool) (s : Int) (hs : lit = true ∧ s = 8 ∨ lit = false ∧ s = 7) (a : Option Addr) (len cap k0 : Nat) (l ps r : List Int) (w : World) (hd : l.drop k0 = flatS s ps ++ r) (hz : nxS s r = none) (hk0 : k0 ≤ len) (hk2 : k0 % 2 = 0) (hps : Ut.AllPt ps) (hlen : l.length = len) (hl : Byt l) (hcap : len ≤ cap) (hm : cap ≤ maxLen) (hsmall : len ≤ 4000) (hrow : Row w a l) :
    WideC w a len cap k0 lit s ps r := by
  have hr : Byt r := fun x hx => hl.drop k0 x (by rw [hd]; simp [hx])
  have hzu : nextU s r = none := by
    unfold nxS at hz
    rwa [if_neg (by omega), if_pos (by omega)] at hz
  have hbad := next_bad hr hzu
  rcases hs with ⟨rfl, rfl⟩ | ⟨rfl, rfl⟩
  · refine ⟨fun h => ?_, fun h => ?_⟩
    · subst h
      exact rwide_le_yes a len cap k0 l ps w (by rw [hd, List.append_nil]) hk0 hk2 hps hlen hl hcap hm hsmall hrow
    · rcases hbad with ⟨_, h1⟩ | hbad
      · match r, h, h1 with
        | [c], _, _ => exact rwide_le_odd a len cap k0 l ps w c hd hk0 hk2 hps hlen hl hcap hm hsmall hrow
      · exact rwide_le_bad a len cap k0 l ps w r hd hbad hk0 hk2 hps hlen hl hcap hm hsmall hrow
  · refine ⟨fun h => ?_, fun h => ?_⟩
    · subst h
      exact rwide_be_yes a len cap k0 l ps w (by rw [hd, List.append_nil]) hk0 hk2 hps hlen hl hcap hm hsmall hrow
    · rcases hbad with ⟨_, h1⟩ | hbad
      · match r, h, h1 with
        | [c], _, _ => exact rwide_be_odd a len cap k0 l ps w c hd hk0 hk2 hps hlen hl hcap hm hsmall hrow
      · exact rwide_be_bad a len cap k0 l ps w r hd hbad hk0 hk2 hps hlen hl hcap hm hsmall hrow
set_option maxRecDepth 100000 in
set_option maxHeartbeats 4000000 in
theorem pt2_yes (a : Option Addr) (len cap : Nat) (ps : List Int) (w : World)  (K : ∀ W, Below w.heap.size w W → Calls Tryd.prog 30 #[.slice a len cap] W fun e w' => ∃ v, e = .returned (.tuple #[v, .agg #[.int .i64 0, .int .i64 0]]) ∧ Ut.Own32 w' W.heap.size v ps ∧ Below W.heap.size W w') :
    Calls Tryd.prog 23 #[.string (nmS 2), .slice a len cap] w fun e w' => ∃ v, e = .returned (.tuple #[v, .agg #[.int .i64 0, .int .i64 0]]) ∧ Ut.Own32 w' w.heap.size v ps ∧ Below w.heap.size w w' := by
  rw [nmS2]
  go_enter Tryd.func23, Tryd.ntmps23
  go_wp2_with fail
  refine (K _ (keep w _)).mono ?_
  rintro e w1 ⟨v1, rfl, hown1, hb1⟩
  have hs1 := hb1.size
  simp at hs1
  have HB1 : Below (w.heap.size + 1) (w.alloc (.cells #[.int .i64 0, .int .i64 0] 26)) w1 := by have := hb1; simpa using this
  have c0 : w1.cell? ⟨w.heap.size, 0, none⟩ = some (.int .i64 0) := by rw [HB1.cell (by simp)]; simp
  have c1 : w1.cell? ⟨w.heap.size, 1, none⟩ = some (.int .i64 0) := by rw [HB1.cell (by simp)]; simp
  have f0 : w1.frozen? ⟨w.heap.size, 0, none⟩ = false := by rw [HB1.frozen (by simp)]; simp
  have f1 : w1.frozen? ⟨w.heap.size, 1, none⟩ = false := by rw [HB1.frozen (by simp)]; simp
  have HO : Hid (Below w.heap.size w w1) := ((Below.refl _ w).alloc (Nat.le_refl _) _).trans (HB1.mono (Nat.le_succ _))
  have HV : Hid (Ut.Own32 w1 (w.heap.size + 1) v1 ps) := Ut.own_base (by simp) hown1
  clear hb1 HB1 hown1 K
  go_wp2
  exact bodyPost_ret (v := .tuple #[v1, .agg #[.int .i64 0, .int .i64 0]]) (by simp [results, Tryd.results23, go_sem, c0, c1]) rfl ⟨v1, rfl, Ut.own_base (Nat.le_succ _) (ownsRow_setCell_below (ownsRow_setCell_below HV.out (by simp) _) (by simp) _), (HO.out.setCell (by simp) _).setCell (by simp) _⟩
set_option maxRecDepth 100000 in
set_option maxHeartbeats 4000000 in
theorem pt2_no (a : Option Addr) (len cap : Nat) (z : Int) (w : World)  (K : ∀ W, Below w.heap.size w W → Calls Tryd.prog 30 #[.slice a len cap] W fun e w' => e = .returned (.tuple #[.slice none 0 0, .agg #[.int .i64 z, .int .i64 20]]) ∧ Below W.heap.size W w') :
    Calls Tryd.prog 23 #[.string (nmS 2), .slice a len cap] w fun e w' => e = .returned (.tuple #[.slice none 0 0, .agg #[.int .i64 z, .int .i64 20]]) ∧ Below w.heap.size w w' := by
  rw [nmS2]
  go_enter Tryd.func23, Tryd.ntmps23
  go_wp2_with fail
  refine (K _ (keep w _)).mono ?_
  rintro e w1 ⟨rfl, hb1⟩
  have hs1 := hb1.size
  simp at hs1
  have HB1 : Below (w.heap.size + 1) (w.alloc (.cells #[.int .i64 0, .int .i64 0] 26)) w1 := by have := hb1; simpa using this
  have c0 : w1.cell? ⟨w.heap.size, 0, none⟩ = some (.int .i64 0) := by rw [HB1.cell (by simp)]; simp
  have c1 : w1.cell? ⟨w.heap.size, 1, none⟩ = some (.int .i64 0) := by rw [HB1.cell (by simp)]; simp
  have f0 : w1.frozen? ⟨w.heap.size, 0, none⟩ = false := by rw [HB1.frozen (by simp)]; simp
  have f1 : w1.frozen? ⟨w.heap.size, 1, none⟩ = false := by rw [HB1.frozen (by simp)]; simp
  have HO : Hid (Below w.heap.size w w1) := ((Below.refl _ w).alloc (Nat.le_refl _) _).trans (HB1.mono (Nat.le_succ _))
  clear hb1 HB1 K
  go_wp2
  exact bodyPost_ret (v := .tuple #[.slice none 0 0, .agg #[.int .i64 z, .int .i64 20]]) (by simp [results, Tryd.results23, go_sem, c0, c1]) rfl ⟨rfl, (HO.out.setCell (by simp) _).setCell (by simp) _⟩
set_option maxRecDepth 100000 in
set_option maxHeartbeats 4000000 in
theorem pt7_yes (a : Option Addr) (len cap : Nat) (ps : List Int) (w : World)  (K : ∀ W, Below w.heap.size w W → Calls Tryd.prog 38 #[.slice a len cap, .int .i64 0, .bool false] W fun e w' => ∃ v, e = .returned (.tuple #[v, .agg #[.int .i64 0, .int .i64 0]]) ∧ Ut.Own32 w' W.heap.size v ps ∧ Below W.heap.size W w') :
    Calls Tryd.prog 23 #[.string (nmS 7), .slice a len cap] w fun e w' => ∃ v, e = .returned (.tuple #[v, .agg #[.int .i64 0, .int .i64 0]]) ∧ Ut.Own32 w' w.heap.size v ps ∧ Below w.heap.size w w' := by
  rw [nmS7]
  go_enter Tryd.func23, Tryd.ntmps23
  go_wp2_with fail
  refine (K _ (keep w _)).mono ?_
  rintro e w1 ⟨v1, rfl, hown1, hb1⟩
  have hs1 := hb1.size
  simp at hs1
  have HB1 : Below (w.heap.size + 1) (w.alloc (.cells #[.int .i64 0, .int .i64 0] 26)) w1 := by have := hb1; simpa using this
  have c0 : w1.cell? ⟨w.heap.size, 0, none⟩ = some (.int .i64 0) := by rw [HB1.cell (by simp)]; simp
  have c1 : w1.cell? ⟨w.heap.size, 1, none⟩ = some (.int .i64 0) := by rw [HB1.cell (by simp)]; simp
  have f0 : w1.frozen? ⟨w.heap.size, 0, none⟩ = false := by rw [HB1.frozen (by simp)]; simp
  have f1 : w1.frozen? ⟨w.heap.size, 1, none⟩ = false := by rw [HB1.frozen (by simp)]; simp
  have HO : Hid (Below w.heap.size w w1) := ((Below.refl _ w).alloc (Nat.le_refl _) _).trans (HB1.mono (Nat.le_succ _))
  have HV : Hid (Ut.Own32 w1 (w.heap.size + 1) v1 ps) := Ut.own_base (by simp) hown1
  clear hb1 HB1 hown1 K
  go_wp2
  exact bodyPost_ret (v := .tuple #[v1, .agg #[.int .i64 0, .int .i64 0]]) (by simp [results, Tryd.results23, go_sem, c0, c1]) rfl ⟨v1, rfl, Ut.own_base (Nat.le_succ _) (ownsRow_setCell_below (ownsRow_setCell_below HV.out (by simp) _) (by simp) _), (HO.out.setCell (by simp) _).setCell (by simp) _⟩
set_option maxRecDepth 100000 in
set_option maxHeartbeats 4000000 in
theorem pt7_no (a : Option Addr) (len cap : Nat) (z : Int) (w : World)  (K : ∀ W, Below w.heap.size w W → Calls Tryd.prog 38 #[.slice a len cap, .int .i64 0, .bool false] W fun e w' => e = .returned (.tuple #[.slice none 0 0, .agg #[.int .i64 z, .int .i64 20]]) ∧ Below W.heap.size W w') :
    Calls Tryd.prog 23 #[.string (nmS 7), .slice a len cap] w fun e w' => e = .returned (.tuple #[.slice none 0 0, .agg #[.int .i64 z, .int .i64 20]]) ∧ Below w.heap.size w w' := by
  rw [nmS7]
  go_enter Tryd.func23, Tryd.ntmps23
  go_wp2_with fail
  refine (K _ (keep w _)).mono ?_
  rintro e w1 ⟨rfl, hb1⟩
  have hs1 := hb1.size
  simp at hs1
  have HB1 : Below (w.heap.size + 1) (w.alloc (.cells #[.int .i64 0, .int .i64 0] 26)) w1 := by have := hb1; simpa using this
  have c0 : w1.cell? ⟨w.heap.size, 0, none⟩ = some (.int .i64 0) := by rw [HB1.cell (by simp)]; simp
  have c1 : w1.cell? ⟨w.heap.size, 1, none⟩ = some (.int .i64 0) := by rw [HB1.cell (by simp)]; simp
  have f0 : w1.frozen? ⟨w.heap.size, 0, none⟩ = false := by rw [HB1.frozen (by simp)]; simp
  have f1 : w1.frozen? ⟨w.heap.size, 1, none⟩ = false := by rw [HB1.frozen (by simp)]; simp
  have HO : Hid (Below w.heap.size w w1) := ((Below.refl _ w).alloc (Nat.le_refl _) _).trans (HB1.mono (Nat.le_succ _))
  clear hb1 HB1 K
  go_wp2
  exact bodyPost_ret (v := .tuple #[.slice none 0 0, .agg #[.int .i64 z, .int .i64 20]]) (by simp [results, Tryd.results23, go_sem, c0, c1]) rfl ⟨rfl, (HO.out.setCell (by simp) _).setCell (by simp) _⟩
set_option maxRecDepth 100000 in
set_option maxHeartbeats 4000000 in
theorem pt8_yes (a : Option Addr) (len cap : Nat) (ps : List Int) (w : World)  (K : ∀ W, Below w.heap.size w W → Calls Tryd.prog 38 #[.slice a len cap, .int .i64 0, .bool true] W fun e w' => ∃ v, e = .returned (.tuple #[v, .agg #[.int .i64 0, .int .i64 0]]) ∧ Ut.Own32 w' W.heap.size v ps ∧ Below W.heap.size W w') :
    Calls Tryd.prog 23 #[.string (nmS 8), .slice a len cap] w fun e w' => ∃ v, e = .returned (.tuple #[v, .agg #[.int .i64 0, .int .i64 0]]) ∧ Ut.Own32 w' w.heap.size v ps ∧ Below w.heap.size w w' := by
  rw [nmS8]
  go_enter Tryd.func23, Tryd.ntmps23
  go_wp2_with fail
  refine (K _ (keep w _)).mono ?_
  rintro e w1 ⟨v1, rfl, hown1, hb1⟩
  have hs1 := hb1.size
  simp at hs1
  have HB1 : Below (w.heap.size + 1) (w.alloc (.cells #[.int .i64 0, .int .i64 0] 26)) w1 := by have := hb1; simpa using this
  have c0 : w1.cell? ⟨w.heap.size, 0, none⟩ = some (.int .i64 0) := by rw [HB1.cell (by simp)]; simp
  have c1 : w1.cell? ⟨w.heap.size, 1, none⟩ = some (.int .i64 0) := by rw [HB1.cell (by simp)]; simp
  have f0 : w1.frozen? ⟨w.heap.size, 0, none⟩ = false := by rw [HB1.frozen (by simp)]; simp
  have f1 : w1.frozen? ⟨w.heap.size, 1, none⟩ = false := by rw [HB1.frozen (by simp)]; simp
  have HO : Hid (Below w.heap.size w w1) := ((Below.refl _ w).alloc (Nat.le_refl _) _).trans (HB1.mono (Nat.le_succ _))
  have HV : Hid (Ut.Own32 w1 (w.heap.size + 1) v1 ps) := Ut.own_base (by simp) hown1
  clear hb1 HB1 hown1 K
  go_wp2
  exact bodyPost_ret (v := .tuple #[v1, .agg #[.int .i64 0, .int .i64 0]]) (by simp [results, Tryd.results23, go_sem, c0, c1]) rfl ⟨v1, rfl, Ut.own_base (Nat.le_succ _) (ownsRow_setCell_below (ownsRow_setCell_below HV.out (by simp) _) (by simp) _), (HO.out.setCell (by simp) _).setCell (by simp) _⟩
set_option maxRecDepth 100000 in
set_option maxHeartbeats 4000000 in
theorem pt8_no (a : Option Addr) (len cap : Nat) (z : Int) (w : World)  (K : ∀ W, Below w.heap.size w W → Calls Tryd.prog 38 #[.slice a len cap, .int .i64 0, .bool true] W fun e w' => e = .returned (.tuple #[.slice none 0 0, .agg #[.int .i64 z, .int .i64 20]]) ∧ Below W.heap.size W w') :
    Calls Tryd.prog 23 #[.string (nmS 8), .slice a len cap] w fun e w' => e = .returned (.tuple #[.slice none 0 0, .agg #[.int .i64 z, .int .i64 20]]) ∧ Below w.heap.size w w' := by
  rw [nmS8]
  go_enter Tryd.func23, Tryd.ntmps23
  go_wp2_with fail
  refine (K _ (keep w _)).mono ?_
  rintro e w1 ⟨rfl, hb1⟩
  have hs1 := hb1.size
  simp at hs1
  have HB1 : Below (w.heap.size + 1) (w.alloc (.cells #[.int .i64 0, .int .i64 0] 26)) w1 := by have := hb1; simpa using this
  have c0 : w1.cell? ⟨w.heap.size, 0, none⟩ = some (.int .i64 0) := by rw [HB1.cell (by simp)]; simp
  have c1 : w1.cell? ⟨w.heap.size, 1, none⟩ = some (.int .i64 0) := by rw [HB1.cell (by simp)]; simp
  have f0 : w1.frozen? ⟨w.heap.size, 0, none⟩ = false := by rw [HB1.frozen (by simp)]; simp
  have f1 : w1.frozen? ⟨w.heap.size, 1, none⟩ = false := by rw [HB1.frozen (by simp)]; simp
  have HO : Hid (Below w.heap.size w w1) := ((Below.refl _ w).alloc (Nat.le_refl _) _).trans (HB1.mono (Nat.le_succ _))
  clear hb1 HB1 K
  go_wp2
  exact bodyPost_ret (v := .tuple #[.slice none 0 0, .agg #[.int .i64 z, .int .i64 20]]) (by simp [results, Tryd.results23, go_sem, c0, c1]) rfl ⟨rfl, (HO.out.setCell (by simp) _).setCell (by simp) _⟩
set_option maxRecDepth 100000 in
set_option maxHeartbeats 4000000 in
theorem pt6s_yes (a : Option Addr) (len cap : Nat) (ps : List Int) (w : World) (hlen : len < 2) (K : ∀ W, Below w.heap.size w W → Calls Tryd.prog 38 #[.slice a len cap, .int .i64 0, .bool false] W fun e w' => ∃ v, e = .returned (.tuple #[v, .agg #[.int .i64 0, .int .i64 0]]) ∧ Ut.Own32 w' W.heap.size v ps ∧ Below W.heap.size W w') :
    Calls Tryd.prog 23 #[.string (nmS 6), .slice a len cap] w fun e w' => ∃ v, e = .returned (.tuple #[v, .agg #[.int .i64 0, .int .i64 0]]) ∧ Ut.Own32 w' w.heap.size v ps ∧ Below w.heap.size w w' := by
  rw [nmS6]
  go_enter Tryd.func23, Tryd.ntmps23
  go_wp2_with fail
  refine (K _ (keep w _)).mono ?_
  rintro e w1 ⟨v1, rfl, hown1, hb1⟩
  have hs1 := hb1.size
  simp at hs1
  have HB1 : Below (w.heap.size + 1) (w.alloc (.cells #[.int .i64 0, .int .i64 0] 26)) w1 := by have := hb1; simpa using this
  have c0 : w1.cell? ⟨w.heap.size, 0, none⟩ = some (.int .i64 0) := by rw [HB1.cell (by simp)]; simp
  have c1 : w1.cell? ⟨w.heap.size, 1, none⟩ = some (.int .i64 0) := by rw [HB1.cell (by simp)]; simp
  have f0 : w1.frozen? ⟨w.heap.size, 0, none⟩ = false := by rw [HB1.frozen (by simp)]; simp
  have f1 : w1.frozen? ⟨w.heap.size, 1, none⟩ = false := by rw [HB1.frozen (by simp)]; simp
  have HO : Hid (Below w.heap.size w w1) := ((Below.refl _ w).alloc (Nat.le_refl _) _).trans (HB1.mono (Nat.le_succ _))
  have HV : Hid (Ut.Own32 w1 (w.heap.size + 1) v1 ps) := Ut.own_base (by simp) hown1
  clear hb1 HB1 hown1 K
  go_wp2
  exact bodyPost_ret (v := .tuple #[v1, .agg #[.int .i64 0, .int .i64 0]]) (by simp [results, Tryd.results23, go_sem, c0, c1]) rfl ⟨v1, rfl, Ut.own_base (Nat.le_succ _) (ownsRow_setCell_below (ownsRow_setCell_below HV.out (by simp) _) (by simp) _), (HO.out.setCell (by simp) _).setCell (by simp) _⟩
set_option maxRecDepth 100000 in
set_option maxHeartbeats 4000000 in
theorem pt6s_no (a : Option Addr) (len cap : Nat) (z : Int) (w : World) (hlen : len < 2) (K : ∀ W, Below w.heap.size w W → Calls Tryd.prog 38 #[.slice a len cap, .int .i64 0, .bool false] W fun e w' => e = .returned (.tuple #[.slice none 0 0, .agg #[.int .i64 z, .int .i64 20]]) ∧ Below W.heap.size W w') :
    Calls Tryd.prog 23 #[.string (nmS 6), .slice a len cap] w fun e w' => e = .returned (.tuple #[.slice none 0 0, .agg #[.int .i64 z, .int .i64 20]]) ∧ Below w.heap.size w w' := by
  rw [nmS6]
  go_enter Tryd.func23, Tryd.ntmps23
  go_wp2_with fail
  refine (K _ (keep w _)).mono ?_
  rintro e w1 ⟨rfl, hb1⟩
  have hs1 := hb1.size
  simp at hs1
  have HB1 : Below (w.heap.size + 1) (w.alloc (.cells #[.int .i64 0, .int .i64 0] 26)) w1 := by have := hb1; simpa using this
  have c0 : w1.cell? ⟨w.heap.size, 0, none⟩ = some (.int .i64 0) := by rw [HB1.cell (by simp)]; simp
  have c1 : w1.cell? ⟨w.heap.size, 1, none⟩ = some (.int .i64 0) := by rw [HB1.cell (by simp)]; simp
  have f0 : w1.frozen? ⟨w.heap.size, 0, none⟩ = false := by rw [HB1.frozen (by simp)]; simp
  have f1 : w1.frozen? ⟨w.heap.size, 1, none⟩ = false := by rw [HB1.frozen (by simp)]; simp
  have HO : Hid (Below w.heap.size w w1) := ((Below.refl _ w).alloc (Nat.le_refl _) _).trans (HB1.mono (Nat.le_succ _))
  clear hb1 HB1 K
  go_wp2
  exact bodyPost_ret (v := .tuple #[.slice none 0 0, .agg #[.int .i64 z, .int .i64 20]]) (by simp [results, Tryd.results23, go_sem, c0, c1]) rfl ⟨rfl, (HO.out.setCell (by simp) _).setCell (by simp) _⟩
set_option maxRecDepth 100000 in
set_option maxHeartbeats 4000000 in
theorem pt6b_yes (a : Option Addr) (len cap : Nat) (ps : List Int) (w : World) (x y : Int) (hlen : 2 ≤ len) (hcap : len ≤ cap) (c0x : ∃ b off, a = some ⟨b, off, none⟩ ∧ w.cell? ⟨b, off, none⟩ = some (.int .u8 x) ∧ w.cell? ⟨b, off + 1, none⟩ = some (.int .u8 y)) (hx : x = 254) (hy : y = 255) (K : ∀ W, Below w.heap.size w W → Calls Tryd.prog 38 #[.slice a len cap, .int .i64 2, .bool false] W fun e w' => ∃ v, e = .returned (.tuple #[v, .agg #[.int .i64 0, .int .i64 0]]) ∧ Ut.Own32 w' W.heap.size v ps ∧ Below W.heap.size W w') :
    Calls Tryd.prog 23 #[.string (nmS 6), .slice a len cap] w fun e w' => ∃ v, e = .returned (.tuple #[v, .agg #[.int .i64 0, .int .i64 0]]) ∧ Ut.Own32 w' w.heap.size v ps ∧ Below w.heap.size w w' := by
  rw [nmS6]
  obtain ⟨b, off, rfl, cx, cy⟩ := c0x
  have hbl := World.block_lt_of_cell? w _ cx
  have cx' : (w.alloc (.cells #[.int .i64 0, .int .i64 0] 26)).cell? ⟨b, off, none⟩ = some (.int .u8 x) := by rw [(keep w _).cell hbl]; exact cx
  have cy' : (w.alloc (.cells #[.int .i64 0, .int .i64 0] 26)).cell? ⟨b, off + 1, none⟩ = some (.int .u8 y) := by rw [(keep w _).cell (p := ⟨b, off + 1, none⟩) hbl]; exact cy
  clear cx cy
  subst hx
  subst hy
  go_enter Tryd.func23, Tryd.ntmps23
  go_wp2_with fail
  refine (K _ (keep w _)).mono ?_
  rintro e w1 ⟨v1, rfl, hown1, hb1⟩
  have hs1 := hb1.size
  simp at hs1
  have HB1 : Below (w.heap.size + 1) (w.alloc (.cells #[.int .i64 0, .int .i64 0] 26)) w1 := by have := hb1; simpa using this
  have c0 : w1.cell? ⟨w.heap.size, 0, none⟩ = some (.int .i64 0) := by rw [HB1.cell (by simp)]; simp
  have c1 : w1.cell? ⟨w.heap.size, 1, none⟩ = some (.int .i64 0) := by rw [HB1.cell (by simp)]; simp
  have f0 : w1.frozen? ⟨w.heap.size, 0, none⟩ = false := by rw [HB1.frozen (by simp)]; simp
  have f1 : w1.frozen? ⟨w.heap.size, 1, none⟩ = false := by rw [HB1.frozen (by simp)]; simp
  have HO : Hid (Below w.heap.size w w1) := ((Below.refl _ w).alloc (Nat.le_refl _) _).trans (HB1.mono (Nat.le_succ _))
  have HV : Hid (Ut.Own32 w1 (w.heap.size + 1) v1 ps) := Ut.own_base (by simp) hown1
  clear hb1 HB1 hown1 K
  go_wp2
  exact bodyPost_ret (v := .tuple #[v1, .agg #[.int .i64 0, .int .i64 0]]) (by simp [results, Tryd.results23, go_sem, c0, c1]) rfl ⟨v1, rfl, Ut.own_base (Nat.le_succ _) (ownsRow_setCell_below (ownsRow_setCell_below HV.out (by simp) _) (by simp) _), (HO.out.setCell (by simp) _).setCell (by simp) _⟩
set_option maxRecDepth 100000 in
set_option maxHeartbeats 4000000 in
theorem pt6b_no (a : Option Addr) (len cap : Nat) (z : Int) (w : World) (x y : Int) (hlen : 2 ≤ len) (hcap : len ≤ cap) (c0x : ∃ b off, a = some ⟨b, off, none⟩ ∧ w.cell? ⟨b, off, none⟩ = some (.int .u8 x) ∧ w.cell? ⟨b, off + 1, none⟩ = some (.int .u8 y)) (hx : x = 254) (hy : y = 255) (K : ∀ W, Below w.heap.size w W → Calls Tryd.prog 38 #[.slice a len cap, .int .i64 2, .bool false] W fun e w' => e = .returned (.tuple #[.slice none 0 0, .agg #[.int .i64 z, .int .i64 20]]) ∧ Below W.heap.size W w') :
    Calls Tryd.prog 23 #[.string (nmS 6), .slice a len cap] w fun e w' => e = .returned (.tuple #[.slice none 0 0, .agg #[.int .i64 z, .int .i64 20]]) ∧ Below w.heap.size w w' := by
  rw [nmS6]
  obtain ⟨b, off, rfl, cx, cy⟩ := c0x
  have hbl := World.block_lt_of_cell? w _ cx
  have cx' : (w.alloc (.cells #[.int .i64 0, .int .i64 0] 26)).cell? ⟨b, off, none⟩ = some (.int .u8 x) := by rw [(keep w _).cell hbl]; exact cx
  have cy' : (w.alloc (.cells #[.int .i64 0, .int .i64 0] 26)).cell? ⟨b, off + 1, none⟩ = some (.int .u8 y) := by rw [(keep w _).cell (p := ⟨b, off + 1, none⟩) hbl]; exact cy
  clear cx cy
  subst hx
  subst hy
  go_enter Tryd.func23, Tryd.ntmps23
  go_wp2_with fail
  refine (K _ (keep w _)).mono ?_
  rintro e w1 ⟨rfl, hb1⟩
  have hs1 := hb1.size
  simp at hs1
  have HB1 : Below (w.heap.size + 1) (w.alloc (.cells #[.int .i64 0, .int .i64 0] 26)) w1 := by have := hb1; simpa using this
  have c0 : w1.cell? ⟨w.heap.size, 0, none⟩ = some (.int .i64 0) := by rw [HB1.cell (by simp)]; simp
  have c1 : w1.cell? ⟨w.heap.size, 1, none⟩ = some (.int .i64 0) := by rw [HB1.cell (by simp)]; simp
  have f0 : w1.frozen? ⟨w.heap.size, 0, none⟩ = false := by rw [HB1.frozen (by simp)]; simp
  have f1 : w1.frozen? ⟨w.heap.size, 1, none⟩ = false := by rw [HB1.frozen (by simp)]; simp
  have HO : Hid (Below w.heap.size w w1) := ((Below.refl _ w).alloc (Nat.le_refl _) _).trans (HB1.mono (Nat.le_succ _))
  clear hb1 HB1 K
  go_wp2
  exact bodyPost_ret (v := .tuple #[.slice none 0 0, .agg #[.int .i64 z, .int .i64 20]]) (by simp [results, Tryd.results23, go_sem, c0, c1]) rfl ⟨rfl, (HO.out.setCell (by simp) _).setCell (by simp) _⟩
set_option maxRecDepth 100000 in
set_option maxHeartbeats 4000000 in
theorem pt6l_yes (a : Option Addr) (len cap : Nat) (ps : List Int) (w : World) (x y : Int) (hlen : 2 ≤ len) (hcap : len ≤ cap) (c0x : ∃ b off, a = some ⟨b, off, none⟩ ∧ w.cell? ⟨b, off, none⟩ = some (.int .u8 x) ∧ w.cell? ⟨b, off + 1, none⟩ = some (.int .u8 y)) (hx : x = 255) (hy : y = 254) (K : ∀ W, Below w.heap.size w W → Calls Tryd.prog 38 #[.slice a len cap, .int .i64 2, .bool true] W fun e w' => ∃ v, e = .returned (.tuple #[v, .agg #[.int .i64 0, .int .i64 0]]) ∧ Ut.Own32 w' W.heap.size v ps ∧ Below W.heap.size W w') :
    Calls Tryd.prog 23 #[.string (nmS 6), .slice a len cap] w fun e w' => ∃ v, e = .returned (.tuple #[v, .agg #[.int .i64 0, .int .i64 0]]) ∧ Ut.Own32 w' w.heap.size v ps ∧ Below w.heap.size w w' := by
  rw [nmS6]
  obtain ⟨b, off, rfl, cx, cy⟩ := c0x
  have hbl := World.block_lt_of_cell? w _ cx
  have cx' : (w.alloc (.cells #[.int .i64 0, .int .i64 0] 26)).cell? ⟨b, off, none⟩ = some (.int .u8 x) := by rw [(keep w _).cell hbl]; exact cx
  have cy' : (w.alloc (.cells #[.int .i64 0, .int .i64 0] 26)).cell? ⟨b, off + 1, none⟩ = some (.int .u8 y) := by rw [(keep w _).cell (p := ⟨b, off + 1, none⟩) hbl]; exact cy
  clear cx cy
  subst hx
  subst hy
  go_enter Tryd.func23, Tryd.ntmps23
  go_wp2_with fail
  refine (K _ (keep w _)).mono ?_
  rintro e w1 ⟨v1, rfl, hown1, hb1⟩
  have hs1 := hb1.size
  simp at hs1
  have HB1 : Below (w.heap.size + 1) (w.alloc (.cells #[.int .i64 0, .int .i64 0] 26)) w1 := by have := hb1; simpa using this
  have c0 : w1.cell? ⟨w.heap.size, 0, none⟩ = some (.int .i64 0) := by rw [HB1.cell (by simp)]; simp
  have c1 : w1.cell? ⟨w.heap.size, 1, none⟩ = some (.int .i64 0) := by rw [HB1.cell (by simp)]; simp
  have f0 : w1.frozen? ⟨w.heap.size, 0, none⟩ = false := by rw [HB1.frozen (by simp)]; simp
  have f1 : w1.frozen? ⟨w.heap.size, 1, none⟩ = false := by rw [HB1.frozen (by simp)]; simp
  have HO : Hid (Below w.heap.size w w1) := ((Below.refl _ w).alloc (Nat.le_refl _) _).trans (HB1.mono (Nat.le_succ _))
  have HV : Hid (Ut.Own32 w1 (w.heap.size + 1) v1 ps) := Ut.own_base (by simp) hown1
  clear hb1 HB1 hown1 K
  go_wp2
  exact bodyPost_ret (v := .tuple #[v1, .agg #[.int .i64 0, .int .i64 0]]) (by simp [results, Tryd.results23, go_sem, c0, c1]) rfl ⟨v1, rfl, Ut.own_base (Nat.le_succ _) (ownsRow_setCell_below (ownsRow_setCell_below HV.out (by simp) _) (by simp) _), (HO.out.setCell (by simp) _).setCell (by simp) _⟩
set_option maxRecDepth 100000 in
set_option maxHeartbeats 4000000 in
theorem pt6l_no (a : Option Addr) (len cap : Nat) (z : Int) (w : World) (x y : Int) (hlen : 2 ≤ len) (hcap : len ≤ cap) (c0x : ∃ b off, a = some ⟨b, off, none⟩ ∧ w.cell? ⟨b, off, none⟩ = some (.int .u8 x) ∧ w.cell? ⟨b, off + 1, none⟩ = some (.int .u8 y)) (hx : x = 255) (hy : y = 254) (K : ∀ W, Below w.heap.size w W → Calls Tryd.prog 38 #[.slice a len cap, .int .i64 2, .bool true] W fun e w' => e = .returned (.tuple #[.slice none 0 0, .agg #[.int .i64 z, .int .i64 20]]) ∧ Below W.heap.size W w') :
    Calls Tryd.prog 23 #[.string (nmS 6), .slice a len cap] w fun e w' => e = .returned (.tuple #[.slice none 0 0, .agg #[.int .i64 z, .int .i64 20]]) ∧ Below w.heap.size w w' := by
  rw [nmS6]
  obtain ⟨b, off, rfl, cx, cy⟩ := c0x
  have hbl := World.block_lt_of_cell? w _ cx
  have cx' : (w.alloc (.cells #[.int .i64 0, .int .i64 0] 26)).cell? ⟨b, off, none⟩ = some (.int .u8 x) := by rw [(keep w _).cell hbl]; exact cx
  have cy' : (w.alloc (.cells #[.int .i64 0, .int .i64 0] 26)).cell? ⟨b, off + 1, none⟩ = some (.int .u8 y) := by rw [(keep w _).cell (p := ⟨b, off + 1, none⟩) hbl]; exact cy
  clear cx cy
  subst hx
  subst hy
  go_enter Tryd.func23, Tryd.ntmps23
  go_wp2_with fail
  refine (K _ (keep w _)).mono ?_
  rintro e w1 ⟨rfl, hb1⟩
  have hs1 := hb1.size
  simp at hs1
  have HB1 : Below (w.heap.size + 1) (w.alloc (.cells #[.int .i64 0, .int .i64 0] 26)) w1 := by have := hb1; simpa using this
  have c0 : w1.cell? ⟨w.heap.size, 0, none⟩ = some (.int .i64 0) := by rw [HB1.cell (by simp)]; simp
  have c1 : w1.cell? ⟨w.heap.size, 1, none⟩ = some (.int .i64 0) := by rw [HB1.cell (by simp)]; simp
  have f0 : w1.frozen? ⟨w.heap.size, 0, none⟩ = false := by rw [HB1.frozen (by simp)]; simp
  have f1 : w1.frozen? ⟨w.heap.size, 1, none⟩ = false := by rw [HB1.frozen (by simp)]; simp
  have HO : Hid (Below w.heap.size w w1) := ((Below.refl _ w).alloc (Nat.le_refl _) _).trans (HB1.mono (Nat.le_succ _))
  clear hb1 HB1 K
  go_wp2
  exact bodyPost_ret (v := .tuple #[.slice none 0 0, .agg #[.int .i64 z, .int .i64 20]]) (by simp [results, Tryd.results23, go_sem, c0, c1]) rfl ⟨rfl, (HO.out.setCell (by simp) _).setCell (by simp) _⟩
set_option maxRecDepth 100000 in
set_option maxHeartbeats 4000000 in
theorem pt6n_yes (a : Option Addr) (len cap : Nat) (ps : List Int) (w : World) (x y : Int) (hlen : 2 ≤ len) (hcap : len ≤ cap) (c0x : ∃ b off, a = some ⟨b, off, none⟩ ∧ w.cell? ⟨b, off, none⟩ = some (.int .u8 x) ∧ w.cell? ⟨b, off + 1, none⟩ = some (.int .u8 y)) (hx : x ≠ 254) (hx2 : x ≠ 255) (K : ∀ W, Below w.heap.size w W → Calls Tryd.prog 38 #[.slice a len cap, .int .i64 0, .bool false] W fun e w' => ∃ v, e = .returned (.tuple #[v, .agg #[.int .i64 0, .int .i64 0]]) ∧ Ut.Own32 w' W.heap.size v ps ∧ Below W.heap.size W w') :
    Calls Tryd.prog 23 #[.string (nmS 6), .slice a len cap] w fun e w' => ∃ v, e = .returned (.tuple #[v, .agg #[.int .i64 0, .int .i64 0]]) ∧ Ut.Own32 w' w.heap.size v ps ∧ Below w.heap.size w w' := by
  rw [nmS6]
  obtain ⟨b, off, rfl, cx, cy⟩ := c0x
  have hbl := World.block_lt_of_cell? w _ cx
  have cx' : (w.alloc (.cells #[.int .i64 0, .int .i64 0] 26)).cell? ⟨b, off, none⟩ = some (.int .u8 x) := by rw [(keep w _).cell hbl]; exact cx
  have cy' : (w.alloc (.cells #[.int .i64 0, .int .i64 0] 26)).cell? ⟨b, off + 1, none⟩ = some (.int .u8 y) := by rw [(keep w _).cell (p := ⟨b, off + 1, none⟩) hbl]; exact cy
  clear cx cy
  have bx : (x == 254) = false := by simpa using hx
  have bx2 : (x == 255) = false := by simpa using hx2
  go_enter Tryd.func23, Tryd.ntmps23
  go_wp2_with fail
  refine (K _ (keep w _)).mono ?_
  rintro e w1 ⟨v1, rfl, hown1, hb1⟩
  have hs1 := hb1.size
  simp at hs1
  have HB1 : Below (w.heap.size + 1) (w.alloc (.cells #[.int .i64 0, .int .i64 0] 26)) w1 := by have := hb1; simpa using this
  have c0 : w1.cell? ⟨w.heap.size, 0, none⟩ = some (.int .i64 0) := by rw [HB1.cell (by simp)]; simp
  have c1 : w1.cell? ⟨w.heap.size, 1, none⟩ = some (.int .i64 0) := by rw [HB1.cell (by simp)]; simp
  have f0 : w1.frozen? ⟨w.heap.size, 0, none⟩ = false := by rw [HB1.frozen (by simp)]; simp
  have f1 : w1.frozen? ⟨w.heap.size, 1, none⟩ = false := by rw [HB1.frozen (by simp)]; simp
  have HO : Hid (Below w.heap.size w w1) := ((Below.refl _ w).alloc (Nat.le_refl _) _).trans (HB1.mono (Nat.le_succ _))
  have HV : Hid (Ut.Own32 w1 (w.heap.size + 1) v1 ps) := Ut.own_base (by simp) hown1
  clear hb1 HB1 hown1 K
  go_wp2
  exact bodyPost_ret (v := .tuple #[v1, .agg #[.int .i64 0, .int .i64 0]]) (by simp [results, Tryd.results23, go_sem, c0, c1]) rfl ⟨v1, rfl, Ut.own_base (Nat.le_succ _) (ownsRow_setCell_below (ownsRow_setCell_below HV.out (by simp) _) (by simp) _), (HO.out.setCell (by simp) _).setCell (by simp) _⟩
set_option maxRecDepth 100000 in
set_option maxHeartbeats 4000000 in
theorem pt6n_no (a : Option Addr) (len cap : Nat) (z : Int) (w : World) (x y : Int) (hlen : 2 ≤ len) (hcap : len ≤ cap) (c0x : ∃ b off, a = some ⟨b, off, none⟩ ∧ w.cell? ⟨b, off, none⟩ = some (.int .u8 x) ∧ w.cell? ⟨b, off + 1, none⟩ = some (.int .u8 y)) (hx : x ≠ 254) (hx2 : x ≠ 255) (K : ∀ W, Below w.heap.size w W → Calls Tryd.prog 38 #[.slice a len cap, .int .i64 0, .bool false] W fun e w' => e = .returned (.tuple #[.slice none 0 0, .agg #[.int .i64 z, .int .i64 20]]) ∧ Below W.heap.size W w') :
    Calls Tryd.prog 23 #[.string (nmS 6), .slice a len cap] w fun e w' => e = .returned (.tuple #[.slice none 0 0, .agg #[.int .i64 z, .int .i64 20]]) ∧ Below w.heap.size w w' := by
  rw [nmS6]
  obtain ⟨b, off, rfl, cx, cy⟩ := c0x
  have hbl := World.block_lt_of_cell? w _ cx
  have cx' : (w.alloc (.cells #[.int .i64 0, .int .i64 0] 26)).cell? ⟨b, off, none⟩ = some (.int .u8 x) := by rw [(keep w _).cell hbl]; exact cx
  have cy' : (w.alloc (.cells #[.int .i64 0, .int .i64 0] 26)).cell? ⟨b, off + 1, none⟩ = some (.int .u8 y) := by rw [(keep w _).cell (p := ⟨b, off + 1, none⟩) hbl]; exact cy
  clear cx cy
  have bx : (x == 254) = false := by simpa using hx
  have bx2 : (x == 255) = false := by simpa using hx2
  go_enter Tryd.func23, Tryd.ntmps23
  go_wp2_with fail
  refine (K _ (keep w _)).mono ?_
  rintro e w1 ⟨rfl, hb1⟩
  have hs1 := hb1.size
  simp at hs1
  have HB1 : Below (w.heap.size + 1) (w.alloc (.cells #[.int .i64 0, .int .i64 0] 26)) w1 := by have := hb1; simpa using this
  have c0 : w1.cell? ⟨w.heap.size, 0, none⟩ = some (.int .i64 0) := by rw [HB1.cell (by simp)]; simp
  have c1 : w1.cell? ⟨w.heap.size, 1, none⟩ = some (.int .i64 0) := by rw [HB1.cell (by simp)]; simp
  have f0 : w1.frozen? ⟨w.heap.size, 0, none⟩ = false := by rw [HB1.frozen (by simp)]; simp
  have f1 : w1.frozen? ⟨w.heap.size, 1, none⟩ = false := by rw [HB1.frozen (by simp)]; simp
  have HO : Hid (Below w.heap.size w w1) := ((Below.refl _ w).alloc (Nat.le_refl _) _).trans (HB1.mono (Nat.le_succ _))
  clear hb1 HB1 K
  go_wp2
  exact bodyPost_ret (v := .tuple #[.slice none 0 0, .agg #[.int .i64 z, .int .i64 20]]) (by simp [results, Tryd.results23, go_sem, c0, c1]) rfl ⟨rfl, (HO.out.setCell (by simp) _).setCell (by simp) _⟩
set_option maxRecDepth 100000 in
set_option maxHeartbeats 4000000 in
theorem pt6m_yes (a : Option Addr) (len cap : Nat) (ps : List Int) (w : World) (x y : Int) (hlen : 2 ≤ len) (hcap : len ≤ cap) (c0x : ∃ b off, a = some ⟨b, off, none⟩ ∧ w.cell? ⟨b, off, none⟩ = some (.int .u8 x) ∧ w.cell? ⟨b, off + 1, none⟩ = some (.int .u8 y)) (hx : x = 254) (hy : y ≠ 255) (K : ∀ W, Below w.heap.size w W → Calls Tryd.prog 38 #[.slice a len cap, .int .i64 0, .bool false] W fun e w' => ∃ v, e = .returned (.tuple #[v, .agg #[.int .i64 0, .int .i64 0]]) ∧ Ut.Own32 w' W.heap.size v ps ∧ Below W.heap.size W w') :
    Calls Tryd.prog 23 #[.string (nmS 6), .slice a len cap] w fun e w' => ∃ v, e = .returned (.tuple #[v, .agg #[.int .i64 0, .int .i64 0]]) ∧ Ut.Own32 w' w.heap.size v ps ∧ Below w.heap.size w w' := by
  rw [nmS6]
  obtain ⟨b, off, rfl, cx, cy⟩ := c0x
  have hbl := World.block_lt_of_cell? w _ cx
  have cx' : (w.alloc (.cells #[.int .i64 0, .int .i64 0] 26)).cell? ⟨b, off, none⟩ = some (.int .u8 x) := by rw [(keep w _).cell hbl]; exact cx
  have cy' : (w.alloc (.cells #[.int .i64 0, .int .i64 0] 26)).cell? ⟨b, off + 1, none⟩ = some (.int .u8 y) := by rw [(keep w _).cell (p := ⟨b, off + 1, none⟩) hbl]; exact cy
  clear cx cy
  subst hx
  have by2 : (y == 255) = false := by simpa using hy
  go_enter Tryd.func23, Tryd.ntmps23
  go_wp2_with fail
  refine (K _ (keep w _)).mono ?_
  rintro e w1 ⟨v1, rfl, hown1, hb1⟩
  have hs1 := hb1.size
  simp at hs1
  have HB1 : Below (w.heap.size + 1) (w.alloc (.cells #[.int .i64 0, .int .i64 0] 26)) w1 := by have := hb1; simpa using this
  have c0 : w1.cell? ⟨w.heap.size, 0, none⟩ = some (.int .i64 0) := by rw [HB1.cell (by simp)]; simp
  have c1 : w1.cell? ⟨w.heap.size, 1, none⟩ = some (.int .i64 0) := by rw [HB1.cell (by simp)]; simp
  have f0 : w1.frozen? ⟨w.heap.size, 0, none⟩ = false := by rw [HB1.frozen (by simp)]; simp
  have f1 : w1.frozen? ⟨w.heap.size, 1, none⟩ = false := by rw [HB1.frozen (by simp)]; simp
  have HO : Hid (Below w.heap.size w w1) := ((Below.refl _ w).alloc (Nat.le_refl _) _).trans (HB1.mono (Nat.le_succ _))
  have HV : Hid (Ut.Own32 w1 (w.heap.size + 1) v1 ps) := Ut.own_base (by simp) hown1
  clear hb1 HB1 hown1 K
  go_wp2
  exact bodyPost_ret (v := .tuple #[v1, .agg #[.int .i64 0, .int .i64 0]]) (by simp [results, Tryd.results23, go_sem, c0, c1]) rfl ⟨v1, rfl, Ut.own_base (Nat.le_succ _) (ownsRow_setCell_below (ownsRow_setCell_below HV.out (by simp) _) (by simp) _), (HO.out.setCell (by simp) _).setCell (by simp) _⟩
set_option maxRecDepth 100000 in
set_option maxHeartbeats 4000000 in
theorem pt6m_no (a : Option Addr) (len cap : Nat) (z : Int) (w : World) (x y : Int) (hlen : 2 ≤ len) (hcap : len ≤ cap) (c0x : ∃ b off, a = some ⟨b, off, none⟩ ∧ w.cell? ⟨b, off, none⟩ = some (.int .u8 x) ∧ w.cell? ⟨b, off + 1, none⟩ = some (.int .u8 y)) (hx : x = 254) (hy : y ≠ 255) (K : ∀ W, Below w.heap.size w W → Calls Tryd.prog 38 #[.slice a len cap, .int .i64 0, .bool false] W fun e w' => e = .returned (.tuple #[.slice none 0 0, .agg #[.int .i64 z, .int .i64 20]]) ∧ Below W.heap.size W w') :
    Calls Tryd.prog 23 #[.string (nmS 6), .slice a len cap] w fun e w' => e = .returned (.tuple #[.slice none 0 0, .agg #[.int .i64 z, .int .i64 20]]) ∧ Below w.heap.size w w' := by
  rw [nmS6]
  obtain ⟨b, off, rfl, cx, cy⟩ := c0x
  have hbl := World.block_lt_of_cell? w _ cx
  have cx' : (w.alloc (.cells #[.int .i64 0, .int .i64 0] 26)).cell? ⟨b, off, none⟩ = some (.int .u8 x) := by rw [(keep w _).cell hbl]; exact cx
  have cy' : (w.alloc (.cells #[.int .i64 0, .int .i64 0] 26)).cell? ⟨b, off + 1, none⟩ = some (.int .u8 y) := by rw [(keep w _).cell (p := ⟨b, off + 1, none⟩) hbl]; exact cy
  clear cx cy
  subst hx
  have by2 : (y == 255) = false := by simpa using hy
  go_enter Tryd.func23, Tryd.ntmps23
  go_wp2_with fail
  refine (K _ (keep w _)).mono ?_
  rintro e w1 ⟨rfl, hb1⟩
  have hs1 := hb1.size
  simp at hs1
  have HB1 : Below (w.heap.size + 1) (w.alloc (.cells #[.int .i64 0, .int .i64 0] 26)) w1 := by have := hb1; simpa using this
  have c0 : w1.cell? ⟨w.heap.size, 0, none⟩ = some (.int .i64 0) := by rw [HB1.cell (by simp)]; simp
  have c1 : w1.cell? ⟨w.heap.size, 1, none⟩ = some (.int .i64 0) := by rw [HB1.cell (by simp)]; simp
  have f0 : w1.frozen? ⟨w.heap.size, 0, none⟩ = false := by rw [HB1.frozen (by simp)]; simp
  have f1 : w1.frozen? ⟨w.heap.size, 1, none⟩ = false := by rw [HB1.frozen (by simp)]; simp
  have HO : Hid (Below w.heap.size w w1) := ((Below.refl _ w).alloc (Nat.le_refl _) _).trans (HB1.mono (Nat.le_succ _))
  clear hb1 HB1 K
  go_wp2
  exact bodyPost_ret (v := .tuple #[.slice none 0 0, .agg #[.int .i64 z, .int .i64 20]]) (by simp [results, Tryd.results23, go_sem, c0, c1]) rfl ⟨rfl, (HO.out.setCell (by simp) _).setCell (by simp) _⟩
set_option maxRecDepth 100000 in
set_option maxHeartbeats 4000000 in
theorem pt6k_yes (a : Option Addr) (len cap : Nat) (ps : List Int) (w : World) (x y : Int) (hlen : 2 ≤ len) (hcap : len ≤ cap) (c0x : ∃ b off, a = some ⟨b, off, none⟩ ∧ w.cell? ⟨b, off, none⟩ = some (.int .u8 x) ∧ w.cell? ⟨b, off + 1, none⟩ = some (.int .u8 y)) (hx : x = 255) (hy : y ≠ 254) (K : ∀ W, Below w.heap.size w W → Calls Tryd.prog 38 #[.slice a len cap, .int .i64 0, .bool false] W fun e w' => ∃ v, e = .returned (.tuple #[v, .agg #[.int .i64 0, .int .i64 0]]) ∧ Ut.Own32 w' W.heap.size v ps ∧ Below W.heap.size W w') :
    Calls Tryd.prog 23 #[.string (nmS 6), .slice a len cap] w fun e w' => ∃ v, e = .returned (.tuple #[v, .agg #[.int .i64 0, .int .i64 0]]) ∧ Ut.Own32 w' w.heap.size v ps ∧ Below w.heap.size w w' := by
  rw [nmS6]
  obtain ⟨b, off, rfl, cx, cy⟩ := c0x
  have hbl := World.block_lt_of_cell? w _ cx
  have cx' : (w.alloc (.cells #[.int .i64 0, .int .i64 0] 26)).cell? ⟨b, off, none⟩ = some (.int .u8 x) := by rw [(keep w _).cell hbl]; exact cx
  have cy' : (w.alloc (.cells #[.int .i64 0, .int .i64 0] 26)).cell? ⟨b, off + 1, none⟩ = some (.int .u8 y) := by rw [(keep w _).cell (p := ⟨b, off + 1, none⟩) hbl]; exact cy
  clear cx cy
  subst hx
  have by2 : (y == 254) = false := by simpa using hy
  go_enter Tryd.func23, Tryd.ntmps23
  go_wp2_with fail
  refine (K _ (keep w _)).mono ?_
  rintro e w1 ⟨v1, rfl, hown1, hb1⟩
  have hs1 := hb1.size
  simp at hs1
  have HB1 : Below (w.heap.size + 1) (w.alloc (.cells #[.int .i64 0, .int .i64 0] 26)) w1 := by have := hb1; simpa using this
  have c0 : w1.cell? ⟨w.heap.size, 0, none⟩ = some (.int .i64 0) := by rw [HB1.cell (by simp)]; simp
  have c1 : w1.cell? ⟨w.heap.size, 1, none⟩ = some (.int .i64 0) := by rw [HB1.cell (by simp)]; simp
  have f0 : w1.frozen? ⟨w.heap.size, 0, none⟩ = false := by rw [HB1.frozen (by simp)]; simp
  have f1 : w1.frozen? ⟨w.heap.size, 1, none⟩ = false := by rw [HB1.frozen (by simp)]; simp
  have HO : Hid (Below w.heap.size w w1) := ((Below.refl _ w).alloc (Nat.le_refl _) _).trans (HB1.mono (Nat.le_succ _))
  have HV : Hid (Ut.Own32 w1 (w.heap.size + 1) v1 ps) := Ut.own_base (by simp) hown1
  clear hb1 HB1 hown1 K
  go_wp2
  exact bodyPost_ret (v := .tuple #[v1, .agg #[.int .i64 0, .int .i64 0]]) (by simp [results, Tryd.results23, go_sem, c0, c1]) rfl ⟨v1, rfl, Ut.own_base (Nat.le_succ _) (ownsRow_setCell_below (ownsRow_setCell_below HV.out (by simp) _) (by simp) _), (HO.out.setCell (by simp) _).setCell (by simp) _⟩
set_option maxRecDepth 100000 in
set_option maxHeartbeats 4000000 in
theorem pt6k_no (a : Option Addr) (len cap : Nat) (z : Int) (w : World) (x y : Int) (hlen : 2 ≤ len) (hcap : len ≤ cap) (c0x : ∃ b off, a = some ⟨b, off, none⟩ ∧ w.cell? ⟨b, off, none⟩ = some (.int .u8 x) ∧ w.cell? ⟨b, off + 1, none⟩ = some (.int .u8 y)) (hx : x = 255) (hy : y ≠ 254) (K : ∀ W, Below w.heap.size w W → Calls Tryd.prog 38 #[.slice a len cap, .int .i64 0, .bool false] W fun e w' => e = .returned (.tuple #[.slice none 0 0, .agg #[.int .i64 z, .int .i64 20]]) ∧ Below W.heap.size W w') :
    Calls Tryd.prog 23 #[.string (nmS 6), .slice a len cap] w fun e w' => e = .returned (.tuple #[.slice none 0 0, .agg #[.int .i64 z, .int .i64 20]]) ∧ Below w.heap.size w w' := by
  rw [nmS6]
  obtain ⟨b, off, rfl, cx, cy⟩ := c0x
  have hbl := World.block_lt_of_cell? w _ cx
  have cx' : (w.alloc (.cells #[.int .i64 0, .int .i64 0] 26)).cell? ⟨b, off, none⟩ = some (.int .u8 x) := by rw [(keep w _).cell hbl]; exact cx
  have cy' : (w.alloc (.cells #[.int .i64 0, .int .i64 0] 26)).cell? ⟨b, off + 1, none⟩ = some (.int .u8 y) := by rw [(keep w _).cell (p := ⟨b, off + 1, none⟩) hbl]; exact cy
  clear cx cy
  subst hx
  have by2 : (y == 254) = false := by simpa using hy
  go_enter Tryd.func23, Tryd.ntmps23
  go_wp2_with fail
  refine (K _ (keep w _)).mono ?_
  rintro e w1 ⟨rfl, hb1⟩
  have hs1 := hb1.size
  simp at hs1
  have HB1 : Below (w.heap.size + 1) (w.alloc (.cells #[.int .i64 0, .int .i64 0] 26)) w1 := by have := hb1; simpa using this
  have c0 : w1.cell? ⟨w.heap.size, 0, none⟩ = some (.int .i64 0) := by rw [HB1.cell (by simp)]; simp
  have c1 : w1.cell? ⟨w.heap.size, 1, none⟩ = some (.int .i64 0) := by rw [HB1.cell (by simp)]; simp
  have f0 : w1.frozen? ⟨w.heap.size, 0, none⟩ = false := by rw [HB1.frozen (by simp)]; simp
  have f1 : w1.frozen? ⟨w.heap.size, 1, none⟩ = false := by rw [HB1.frozen (by simp)]; simp
  have HO : Hid (Below w.heap.size w w1) := ((Below.refl _ w).alloc (Nat.le_refl _) _).trans (HB1.mono (Nat.le_succ _))
  clear hb1 HB1 K
  go_wp2
  exact bodyPost_ret (v := .tuple #[.slice none 0 0, .agg #[.int .i64 z, .int .i64 20]]) (by simp [results, Tryd.results23, go_sem, c0, c1]) rfl ⟨rfl, (HO.out.setCell (by simp) _).setCell (by simp) _⟩
set_option maxRecDepth 100000 in
set_option maxHeartbeats 8000000 in
theorem pt1_yes_1 (s : Int) (a : Option Addr) (len cap : Nat) (l ps : List Int) (hd : l = flatS s ps) (w : World) (hs : s = 1) (hA : AllIn s ps) (hlen : l.length = len) (hl : Byt l) (hcap : len ≤ cap) (hm : cap ≤ maxLen) (hsmall : len ≤ 4000) (hrow : Row w a l) :
    Calls Tryd.prog 23 #[.string (nmS s), .slice a len cap] w fun e w' => ∃ v, e = .returned (.tuple #[v, .agg #[.int .i64 0, .int .i64 0]]) ∧ Ut.Own32 w' w.heap.size v ps ∧ Below w.heap.size w w' := by
  obtain ⟨j0, hi, hz0, hz1, hz2⟩ := info_parts Ut.Tryd.info21
  unfold maxLen at hm
  have hs4 : s = 1 ∨ s = 3 ∨ s = 4 ∨ s = 5 := by omega
  have KO : ∀ (W : World) (c : Int), 0 ≤ c → c < 256 → Calls Tryd.prog 39 #[.string (nmS s), .int .i64 c] W fun e w' => e = .returned (.int .i32 (ptOf s c)) ∧ Below W.heap.size W w' := fun W c h0 h1 => rone_any s c W hs4 h0 h1
  have enc1 : ∀ p, Ut.ptB p = true → encS s p ≠ [] → ∃ c, encS s p = [c] ∧ (0 ≤ c ∧ c < 256) ∧ ptOf s c = p ∧ 0 ≤ p := by
    intro p hp he
    have hp0 := ((Ut.ptB_iff p).1 hp).1
    unfold encS at he ⊢
    rw [if_neg (by omega), if_neg (by omega)] at he ⊢
    by_cases hb : byOf s p = -1
    · rw [if_pos hb] at he; exact absurd rfl he
    · rw [if_neg hb]
      exact ⟨_, rfl, (by_pt hp0 hb).1, (by_pt hp0 hb).2, hp0⟩
  have HL : Hid (l.length = len) := hlen
  have HR : Hid (Row w a l) := hrow
  have HENC : Hid (∀ p, Ut.ptB p = true → encS s p ≠ [] → ∃ c, encS s p = [c] ∧ (0 ≤ c ∧ c < 256) ∧ ptOf s c = p ∧ 0 ≤ p) := enc1
  have HD : Hid (l = flatS s ps) := hd
  clear hlen hrow hd enc1 
  obtain ⟨nm, hnm⟩ : ∃ nm, nmS s = nm := ⟨_, rfl⟩
  rw [hnm] at KO ⊢
  have hnm2 : nm = nmS 1 := by rw [← hnm, hs]
  rw [nmS1] at hnm2
  subst hnm2
  clear hnm hs4
  go_enter Tryd.func23, Tryd.ntmps23
  go_wp2
  go_loopw [6, 7] (fun v i wr => ∃ (qs rs : List Int) (k : Nat), ps = qs ++ rs ∧ i = .int .i64 k ∧ k = (flatS s qs).length ∧ Ut.Own32 wr (w.heap.size + 1) v qs ∧ Below (w.heap.size + 1) (w.alloc (.cells #[.int .i64 0, .int .i64 0] 26)) wr) (fun _ i _ => len - (intOf i).toNat)
  case atStart => exact ⟨[], ps, 0, rfl, rfl, rfl, World.ownsRow_nil _ _ _ _, Below.refl _ _⟩
  case round =>
    obtain ⟨qs, rs, k, hqr, rfl, hk, hown, hbel⟩ := hrel
    have HQ : Hid (ps = qs ++ rs) := hqr
    have HK : Hid (k = (flatS s qs).length) := hk
    have HB : Hid (Below (w.heap.size + 1) (w.alloc (.cells #[.int .i64 0, .int .i64 0] 26)) wr) := hbel
    have HO : Hid (Below w.heap.size w wr) := ((Below.refl _ w).alloc (Nat.le_refl _) _).trans (hbel.mono (Nat.le_succ _))
    have HOW : Hid (Ut.Own32 wr (w.heap.size + 1) u6 qs) := hown
    have hsz : w.heap.size + 1 ≤ wr.heap.size := by have := hbel.size; simpa using this
    have HDK : Hid (l.drop k = flatS s rs) := by
      unfold Hid; rw [HD.out, hk, hqr, flatS_append, List.drop_left]
    have hkl : k + (flatS s rs).length = len := by
      have h1 := congrArg List.length HDK.out
      rw [List.length_drop, HL.out] at h1
      have h2 : k ≤ len := by rw [← HL.out, HD.out, hk, hqr, flatS_append]; first | (simp; done) | (simp; omega)
      omega
    have hql : qs.length ≤ k := by rw [hk]; exact flatS_ge (AllIn.left (by rw [hqr] at hA; exact hA))
    have hcell0 : ∀ c t, l.drop k = c :: t → ∃ b off, a = some ⟨b, off, none⟩ ∧ wr.cell? ⟨b, off + k, none⟩ = some (.int .u8 c) := by
      intro c t hct
      rcases row_below HR.out HO.out with h | ⟨b, off, hab, hcell⟩
      · rw [h] at hct; simp at hct
      · refine ⟨b, off, hab, ?_⟩
        have hlt : k < l.length := by
          have := congrArg List.length hct
          rw [List.length_drop] at this; simp at this; omega
        have := hcell k hlt
        rwa [List.getD_eq_getElem?_getD, show l[k]? = (l.drop k)[0]? by simp, hct] at this
    cases rs with
    | nil =>
      have hkl' : k = len := by simpa [flatS] using hkl
      have hpq : ps = qs := by rw [hqr, List.append_nil]
      have c0 : wr.cell? ⟨w.heap.size, 0, none⟩ = some (.int .i64 0) := by rw [hbel.cell (by simp)]; simp
      have c1 : wr.cell? ⟨w.heap.size, 1, none⟩ = some (.int .i64 0) := by rw [hbel.cell (by simp)]; simp
      have f0 : wr.frozen? ⟨w.heap.size, 0, none⟩ = false := by rw [hbel.frozen (by simp)]; simp
      have f1 : wr.frozen? ⟨w.heap.size, 1, none⟩ = false := by rw [hbel.frozen (by simp)]; simp
      subst hpq
      obtain rfl := hkl'
      clear hk hqr hbel hown hkl hcell0
      go_wp2
      exact bodyPost_ret (v := .tuple #[u6, .agg #[.int .i64 0, .int .i64 0]]) (by simp [results, Tryd.results23, go_sem, c0, c1]) rfl ⟨u6, rfl, Ut.own_base (Nat.le_succ _) (ownsRow_setCell_below (ownsRow_setCell_below HOW.out (by simp) _) (by simp) _), (HO.out.setCell (by simp) _).setCell (by simp) _⟩
    | cons p rs =>
      have hAp := (show AllIn s (p :: rs) from (by rw [hqr] at hA; exact hA.right)).head
      obtain ⟨c, hec, hcb, hpc, hp0⟩ := HENC.out p hAp.1 hAp.2
      have hdc : l.drop k = c :: (flatS s rs) := by rw [HDK.out, flatS_cons, hec]; rfl
      obtain ⟨b, off, rfl, cc⟩ := hcell0 c _ hdc
      have hklt : k < len := by rw [flatS_cons, hec] at hkl; simp at hkl; omega
      have HREL : Hid ((flatS s (qs ++ [p])).length = k + 1) := by unfold Hid; rw [flatS_append, flatS_cons, flatS_nil, List.append_nil, List.length_append, hec, ← hk]; rfl
      have KC := KO wr c hcb.1 hcb.2
      rw [hpc] at KC
      have bp : decide (p < 0) = false := by simpa using hp0
      clear hk hqr hown hbel hkl hcell0 hec hpc hdc KO
      go_wp2_with fail
      refine KC.mono ?_
      rintro e w5 ⟨rfl, hb5⟩
      have hs5 := hb5.size
      have HB5 : Hid (Below (w.heap.size + 1) (w.alloc (.cells #[.int .i64 0, .int .i64 0] 26)) w5) := HB.out.trans (hb5.mono hsz)
      have hown5 := own_keep HOW.out hb5
      have HO5 : Hid (w5.ownsRow (w.heap.size + 1) 21 1 u6 qs.length (qs.map (Value.int .i32))) := hown5
      clear hb5 KC hown5
      go_wp2_with (at_builtin; refine wpList_append_own _ rfl _ _ 34 rfl (w.heap.size + 1) 21 j0 (.int .i32 0) 1 4 Tryd.underlying34 hi hz0 hz1 hz2 rfl (by decide) _ _ _ rfl (HO5.out.alloc _) ⟨w5.heap.size, 0, none⟩ 1 1 ([p].map (Value.int .i32)) rfl rfl (cells_new _ _ _) (Ut.ints_one32 _) ?c3 ?c4 ?c5 ?_)
      case c3 => unfold maxLen; omega
      case c4 => omega
      case c5 => first | omega | (simp; omega)
      intro v' w4 hown' hgrow _
      have HO' : Hid (Ut.Own32 w4 (w.heap.size + 1) v' (qs ++ [p])) := by
        unfold Hid Ut.Own32; rw [List.length_append, List.map_append]; exact hown'
      have HB' : Hid (Below (w.heap.size + 1) (w.alloc (.cells #[.int .i64 0, .int .i64 0] 26)) w4) := (HB5.out.alloc (by omega) _).grown hgrow (by simp; omega) (fun k hk => (HO5.out.lt k hk).1)
      clear hown' hgrow
      go_wp2
      go_roundw
      case rel => exact ⟨qs ++ [p], rs, k + 1, by rw [HQ.out]; simp, by go_num, HREL.out.symm, HO'.out, HB'.out⟩
      case measure => simp [intOf]; omega
set_option maxRecDepth 100000 in
set_option maxHeartbeats 8000000 in
theorem pt1_no_1 (s : Int) (a : Option Addr) (len cap : Nat) (l ps : List Int) (r : List Int) (hd : l = flatS s ps ++ r) (hne : r ≠ []) (hz : nxS s r = none) (w : World) (hs : s = 1) (hA : AllIn s ps) (hlen : l.length = len) (hl : Byt l) (hcap : len ≤ cap) (hm : cap ≤ maxLen) (hsmall : len ≤ 4000) (hrow : Row w a l) :
    Calls Tryd.prog 23 #[.string (nmS s), .slice a len cap] w fun e w' => e = .returned (.tuple #[.slice none 0 0, .agg #[.int .i64 ((flatS s ps).length : Nat), .int .i64 20]]) ∧ Below w.heap.size w w' := by
  obtain ⟨j0, hi, hz0, hz1, hz2⟩ := info_parts Ut.Tryd.info21
  unfold maxLen at hm
  have hs4 : s = 1 ∨ s = 3 ∨ s = 4 ∨ s = 5 := by omega
  have KO : ∀ (W : World) (c : Int), 0 ≤ c → c < 256 → Calls Tryd.prog 39 #[.string (nmS s), .int .i64 c] W fun e w' => e = .returned (.int .i32 (ptOf s c)) ∧ Below W.heap.size W w' := fun W c h0 h1 => rone_any s c W hs4 h0 h1
  have enc1 : ∀ p, Ut.ptB p = true → encS s p ≠ [] → ∃ c, encS s p = [c] ∧ (0 ≤ c ∧ c < 256) ∧ ptOf s c = p ∧ 0 ≤ p := by
    intro p hp he
    have hp0 := ((Ut.ptB_iff p).1 hp).1
    unfold encS at he ⊢
    rw [if_neg (by omega), if_neg (by omega)] at he ⊢
    by_cases hb : byOf s p = -1
    · rw [if_pos hb] at he; exact absurd rfl he
    · rw [if_neg hb]
      exact ⟨_, rfl, (by_pt hp0 hb).1, (by_pt hp0 hb).2, hp0⟩
  have HL : Hid (l.length = len) := hlen
  have HR : Hid (Row w a l) := hrow
  have HENC : Hid (∀ p, Ut.ptB p = true → encS s p ≠ [] → ∃ c, encS s p = [c] ∧ (0 ≤ c ∧ c < 256) ∧ ptOf s c = p ∧ 0 ≤ p) := enc1
  have HZ : Hid (nxS s r = none) := hz
  have hz' : ∀ c t, r = c :: t → ptOf s c = -1 := by
    intro c t hr
    rw [hr] at hz
    unfold nxS at hz
    rw [if_neg (by omega), if_neg (by omega)] at hz
    simp only at hz
    by_cases h : ptOf s c = -1
    · exact h
    · rw [if_neg h] at hz; cases hz
  have HD : Hid (l = flatS s ps ++ r) := hd
  clear hlen hrow hd enc1 hz
  obtain ⟨nm, hnm⟩ : ∃ nm, nmS s = nm := ⟨_, rfl⟩
  rw [hnm] at KO ⊢
  have hnm2 : nm = nmS 1 := by rw [← hnm, hs]
  rw [nmS1] at hnm2
  subst hnm2
  clear hnm hs4
  go_enter Tryd.func23, Tryd.ntmps23
  go_wp2
  go_loopw [6, 7] (fun v i wr => ∃ (qs rs : List Int) (k : Nat), ps = qs ++ rs ∧ i = .int .i64 k ∧ k = (flatS s qs).length ∧ Ut.Own32 wr (w.heap.size + 1) v qs ∧ Below (w.heap.size + 1) (w.alloc (.cells #[.int .i64 0, .int .i64 0] 26)) wr) (fun _ i _ => len - (intOf i).toNat)
  case atStart => exact ⟨[], ps, 0, rfl, rfl, rfl, World.ownsRow_nil _ _ _ _, Below.refl _ _⟩
  case round =>
    obtain ⟨qs, rs, k, hqr, rfl, hk, hown, hbel⟩ := hrel
    have HQ : Hid (ps = qs ++ rs) := hqr
    have HK : Hid (k = (flatS s qs).length) := hk
    have HB : Hid (Below (w.heap.size + 1) (w.alloc (.cells #[.int .i64 0, .int .i64 0] 26)) wr) := hbel
    have HO : Hid (Below w.heap.size w wr) := ((Below.refl _ w).alloc (Nat.le_refl _) _).trans (hbel.mono (Nat.le_succ _))
    have HOW : Hid (Ut.Own32 wr (w.heap.size + 1) u6 qs) := hown
    have hsz : w.heap.size + 1 ≤ wr.heap.size := by have := hbel.size; simpa using this
    have HDK : Hid (l.drop k = flatS s rs ++ r) := by
      unfold Hid; rw [HD.out, hk, hqr, flatS_append, List.append_assoc, List.drop_left]
    have hkl : k + (flatS s rs ++ r).length = len := by
      have h1 := congrArg List.length HDK.out
      rw [List.length_drop, HL.out] at h1
      have h2 : k ≤ len := by rw [← HL.out, HD.out, hk, hqr, flatS_append]; first | (simp; done) | (simp; omega)
      omega
    have hql : qs.length ≤ k := by rw [hk]; exact flatS_ge (AllIn.left (by rw [hqr] at hA; exact hA))
    have hcell0 : ∀ c t, l.drop k = c :: t → ∃ b off, a = some ⟨b, off, none⟩ ∧ wr.cell? ⟨b, off + k, none⟩ = some (.int .u8 c) := by
      intro c t hct
      rcases row_below HR.out HO.out with h | ⟨b, off, hab, hcell⟩
      · rw [h] at hct; simp at hct
      · refine ⟨b, off, hab, ?_⟩
        have hlt : k < l.length := by
          have := congrArg List.length hct
          rw [List.length_drop] at this; simp at this; omega
        have := hcell k hlt
        rwa [List.getD_eq_getElem?_getD, show l[k]? = (l.drop k)[0]? by simp, hct] at this
    cases rs with
    | nil =>
      match r, hne, hz', HD, HDK, hkl with
      | c :: t, _, hz', HD, HDK, hkl =>
        have hpq : ps = qs := by rw [hqr, List.append_nil]
        have HKP : Hid (k = (flatS s ps).length) := by unfold Hid; rw [hpq]; exact hk
        have hpc := hz' c t rfl
        obtain ⟨b, off, rfl, cc⟩ := hcell0 c t HDK.out
        have hcb := hl c (by rw [HD.out]; simp)
        have hklt : k < len := by simp at hkl; omega
        have KC := KO wr c hcb.1 hcb.2
        rw [hpc] at KC
        clear hk hqr hown hkl hcell0 hpq hz' KO hpc
        go_wp2_with fail
        refine KC.mono ?_
        rintro e w5 ⟨rfl, hb5⟩
        have HB5 : Below (w.heap.size + 1) (w.alloc (.cells #[.int .i64 0, .int .i64 0] 26)) w5 := HB.out.trans (hb5.mono hsz)
        have c0 : w5.cell? ⟨w.heap.size, 0, none⟩ = some (.int .i64 0) := by rw [HB5.cell (by simp)]; simp
        have c1 : w5.cell? ⟨w.heap.size, 1, none⟩ = some (.int .i64 0) := by rw [HB5.cell (by simp)]; simp
        have f0 : w5.frozen? ⟨w.heap.size, 0, none⟩ = false := by rw [HB5.frozen (by simp)]; simp
        have f1 : w5.frozen? ⟨w.heap.size, 1, none⟩ = false := by rw [HB5.frozen (by simp)]; simp
        have HO5 : Hid (Below w.heap.size w w5) := ((Below.refl _ w).alloc (Nat.le_refl _) _).trans (HB5.mono (Nat.le_succ _))
        clear HB5 hb5 hbel KC
        go_wp2
        exact bodyPost_ret (v := .tuple #[.slice none 0 0, .agg #[.int .i64 k, .int .i64 20]]) (by simp [results, Tryd.results23, go_sem, c0, c1]) rfl ⟨by rw [HKP.out], (HO5.out.setCell (by simp) _).setCell (by simp) _⟩
    | cons p rs =>
      have hAp := (show AllIn s (p :: rs) from (by rw [hqr] at hA; exact hA.right)).head
      obtain ⟨c, hec, hcb, hpc, hp0⟩ := HENC.out p hAp.1 hAp.2
      have hdc : l.drop k = c :: (flatS s rs ++ r) := by rw [HDK.out, flatS_cons, hec]; rfl
      obtain ⟨b, off, rfl, cc⟩ := hcell0 c _ hdc
      have hklt : k < len := by rw [flatS_cons, hec] at hkl; simp at hkl; omega
      have HREL : Hid ((flatS s (qs ++ [p])).length = k + 1) := by unfold Hid; rw [flatS_append, flatS_cons, flatS_nil, List.append_nil, List.length_append, hec, ← hk]; rfl
      have KC := KO wr c hcb.1 hcb.2
      rw [hpc] at KC
      have bp : decide (p < 0) = false := by simpa using hp0
      clear hk hqr hown hbel hkl hcell0 hec hpc hdc KO
      go_wp2_with fail
      refine KC.mono ?_
      rintro e w5 ⟨rfl, hb5⟩
      have hs5 := hb5.size
      have HB5 : Hid (Below (w.heap.size + 1) (w.alloc (.cells #[.int .i64 0, .int .i64 0] 26)) w5) := HB.out.trans (hb5.mono hsz)
      have hown5 := own_keep HOW.out hb5
      have HO5 : Hid (w5.ownsRow (w.heap.size + 1) 21 1 u6 qs.length (qs.map (Value.int .i32))) := hown5
      clear hb5 KC hown5
      go_wp2_with (at_builtin; refine wpList_append_own _ rfl _ _ 34 rfl (w.heap.size + 1) 21 j0 (.int .i32 0) 1 4 Tryd.underlying34 hi hz0 hz1 hz2 rfl (by decide) _ _ _ rfl (HO5.out.alloc _) ⟨w5.heap.size, 0, none⟩ 1 1 ([p].map (Value.int .i32)) rfl rfl (cells_new _ _ _) (Ut.ints_one32 _) ?c3 ?c4 ?c5 ?_)
      case c3 => unfold maxLen; omega
      case c4 => omega
      case c5 => first | omega | (simp; omega)
      intro v' w4 hown' hgrow _
      have HO' : Hid (Ut.Own32 w4 (w.heap.size + 1) v' (qs ++ [p])) := by
        unfold Hid Ut.Own32; rw [List.length_append, List.map_append]; exact hown'
      have HB' : Hid (Below (w.heap.size + 1) (w.alloc (.cells #[.int .i64 0, .int .i64 0] 26)) w4) := (HB5.out.alloc (by omega) _).grown hgrow (by simp; omega) (fun k hk => (HO5.out.lt k hk).1)
      clear hown' hgrow
      go_wp2
      go_roundw
      case rel => exact ⟨qs ++ [p], rs, k + 1, by rw [HQ.out]; simp, by go_num, HREL.out.symm, HO'.out, HB'.out⟩
      case measure => simp [intOf]; omega
set_option maxRecDepth 100000 in
set_option maxHeartbeats 8000000 in
theorem pt1_yes_3 (s : Int) (a : Option Addr) (len cap : Nat) (l ps : List Int) (hd : l = flatS s ps) (w : World) (hs : s = 3) (hA : AllIn s ps) (hlen : l.length = len) (hl : Byt l) (hcap : len ≤ cap) (hm : cap ≤ maxLen) (hsmall : len ≤ 4000) (hrow : Row w a l) :
    Calls Tryd.prog 23 #[.string (nmS s), .slice a len cap] w fun e w' => ∃ v, e = .returned (.tuple #[v, .agg #[.int .i64 0, .int .i64 0]]) ∧ Ut.Own32 w' w.heap.size v ps ∧ Below w.heap.size w w' := by
  obtain ⟨j0, hi, hz0, hz1, hz2⟩ := info_parts Ut.Tryd.info21
  unfold maxLen at hm
  have hs4 : s = 1 ∨ s = 3 ∨ s = 4 ∨ s = 5 := by omega
  have KO : ∀ (W : World) (c : Int), 0 ≤ c → c < 256 → Calls Tryd.prog 39 #[.string (nmS s), .int .i64 c] W fun e w' => e = .returned (.int .i32 (ptOf s c)) ∧ Below W.heap.size W w' := fun W c h0 h1 => rone_any s c W hs4 h0 h1
  have enc1 : ∀ p, Ut.ptB p = true → encS s p ≠ [] → ∃ c, encS s p = [c] ∧ (0 ≤ c ∧ c < 256) ∧ ptOf s c = p ∧ 0 ≤ p := by
    intro p hp he
    have hp0 := ((Ut.ptB_iff p).1 hp).1
    unfold encS at he ⊢
    rw [if_neg (by omega), if_neg (by omega)] at he ⊢
    by_cases hb : byOf s p = -1
    · rw [if_pos hb] at he; exact absurd rfl he
    · rw [if_neg hb]
      exact ⟨_, rfl, (by_pt hp0 hb).1, (by_pt hp0 hb).2, hp0⟩
  have HL : Hid (l.length = len) := hlen
  have HR : Hid (Row w a l) := hrow
  have HENC : Hid (∀ p, Ut.ptB p = true → encS s p ≠ [] → ∃ c, encS s p = [c] ∧ (0 ≤ c ∧ c < 256) ∧ ptOf s c = p ∧ 0 ≤ p) := enc1
  have HD : Hid (l = flatS s ps) := hd
  clear hlen hrow hd enc1 
  obtain ⟨nm, hnm⟩ : ∃ nm, nmS s = nm := ⟨_, rfl⟩
  rw [hnm] at KO ⊢
  have hnm2 : nm = nmS 3 := by rw [← hnm, hs]
  rw [nmS3] at hnm2
  subst hnm2
  clear hnm hs4
  go_enter Tryd.func23, Tryd.ntmps23
  go_wp2
  go_loopw [6, 7] (fun v i wr => ∃ (qs rs : List Int) (k : Nat), ps = qs ++ rs ∧ i = .int .i64 k ∧ k = (flatS s qs).length ∧ Ut.Own32 wr (w.heap.size + 1) v qs ∧ Below (w.heap.size + 1) (w.alloc (.cells #[.int .i64 0, .int .i64 0] 26)) wr) (fun _ i _ => len - (intOf i).toNat)
  case atStart => exact ⟨[], ps, 0, rfl, rfl, rfl, World.ownsRow_nil _ _ _ _, Below.refl _ _⟩
  case round =>
    obtain ⟨qs, rs, k, hqr, rfl, hk, hown, hbel⟩ := hrel
    have HQ : Hid (ps = qs ++ rs) := hqr
    have HK : Hid (k = (flatS s qs).length) := hk
    have HB : Hid (Below (w.heap.size + 1) (w.alloc (.cells #[.int .i64 0, .int .i64 0] 26)) wr) := hbel
    have HO : Hid (Below w.heap.size w wr) := ((Below.refl _ w).alloc (Nat.le_refl _) _).trans (hbel.mono (Nat.le_succ _))
    have HOW : Hid (Ut.Own32 wr (w.heap.size + 1) u6 qs) := hown
    have hsz : w.heap.size + 1 ≤ wr.heap.size := by have := hbel.size; simpa using this
    have HDK : Hid (l.drop k = flatS s rs) := by
      unfold Hid; rw [HD.out, hk, hqr, flatS_append, List.drop_left]
    have hkl : k + (flatS s rs).length = len := by
      have h1 := congrArg List.length HDK.out
      rw [List.length_drop, HL.out] at h1
      have h2 : k ≤ len := by rw [← HL.out, HD.out, hk, hqr, flatS_append]; first | (simp; done) | (simp; omega)
      omega
    have hql : qs.length ≤ k := by rw [hk]; exact flatS_ge (AllIn.left (by rw [hqr] at hA; exact hA))
    have hcell0 : ∀ c t, l.drop k = c :: t → ∃ b off, a = some ⟨b, off, none⟩ ∧ wr.cell? ⟨b, off + k, none⟩ = some (.int .u8 c) := by
      intro c t hct
      rcases row_below HR.out HO.out with h | ⟨b, off, hab, hcell⟩
      · rw [h] at hct; simp at hct
      · refine ⟨b, off, hab, ?_⟩
        have hlt : k < l.length := by
          have := congrArg List.length hct
          rw [List.length_drop] at this; simp at this; omega
        have := hcell k hlt
        rwa [List.getD_eq_getElem?_getD, show l[k]? = (l.drop k)[0]? by simp, hct] at this
    cases rs with
    | nil =>
      have hkl' : k = len := by simpa [flatS] using hkl
      have hpq : ps = qs := by rw [hqr, List.append_nil]
      have c0 : wr.cell? ⟨w.heap.size, 0, none⟩ = some (.int .i64 0) := by rw [hbel.cell (by simp)]; simp
      have c1 : wr.cell? ⟨w.heap.size, 1, none⟩ = some (.int .i64 0) := by rw [hbel.cell (by simp)]; simp
      have f0 : wr.frozen? ⟨w.heap.size, 0, none⟩ = false := by rw [hbel.frozen (by simp)]; simp
      have f1 : wr.frozen? ⟨w.heap.size, 1, none⟩ = false := by rw [hbel.frozen (by simp)]; simp
      subst hpq
      obtain rfl := hkl'
      clear hk hqr hbel hown hkl hcell0
      go_wp2
      exact bodyPost_ret (v := .tuple #[u6, .agg #[.int .i64 0, .int .i64 0]]) (by simp [results, Tryd.results23, go_sem, c0, c1]) rfl ⟨u6, rfl, Ut.own_base (Nat.le_succ _) (ownsRow_setCell_below (ownsRow_setCell_below HOW.out (by simp) _) (by simp) _), (HO.out.setCell (by simp) _).setCell (by simp) _⟩
    | cons p rs =>
      have hAp := (show AllIn s (p :: rs) from (by rw [hqr] at hA; exact hA.right)).head
      obtain ⟨c, hec, hcb, hpc, hp0⟩ := HENC.out p hAp.1 hAp.2
      have hdc : l.drop k = c :: (flatS s rs) := by rw [HDK.out, flatS_cons, hec]; rfl
      obtain ⟨b, off, rfl, cc⟩ := hcell0 c _ hdc
      have hklt : k < len := by rw [flatS_cons, hec] at hkl; simp at hkl; omega
      have HREL : Hid ((flatS s (qs ++ [p])).length = k + 1) := by unfold Hid; rw [flatS_append, flatS_cons, flatS_nil, List.append_nil, List.length_append, hec, ← hk]; rfl
      have KC := KO wr c hcb.1 hcb.2
      rw [hpc] at KC
      have bp : decide (p < 0) = false := by simpa using hp0
      clear hk hqr hown hbel hkl hcell0 hec hpc hdc KO
      go_wp2_with fail
      refine KC.mono ?_
      rintro e w5 ⟨rfl, hb5⟩
      have hs5 := hb5.size
      have HB5 : Hid (Below (w.heap.size + 1) (w.alloc (.cells #[.int .i64 0, .int .i64 0] 26)) w5) := HB.out.trans (hb5.mono hsz)
      have hown5 := own_keep HOW.out hb5
      have HO5 : Hid (w5.ownsRow (w.heap.size + 1) 21 1 u6 qs.length (qs.map (Value.int .i32))) := hown5
      clear hb5 KC hown5
      go_wp2_with (at_builtin; refine wpList_append_own _ rfl _ _ 34 rfl (w.heap.size + 1) 21 j0 (.int .i32 0) 1 4 Tryd.underlying34 hi hz0 hz1 hz2 rfl (by decide) _ _ _ rfl (HO5.out.alloc _) ⟨w5.heap.size, 0, none⟩ 1 1 ([p].map (Value.int .i32)) rfl rfl (cells_new _ _ _) (Ut.ints_one32 _) ?c3 ?c4 ?c5 ?_)
      case c3 => unfold maxLen; omega
      case c4 => omega
      case c5 => first | omega | (simp; omega)
      intro v' w4 hown' hgrow _
      have HO' : Hid (Ut.Own32 w4 (w.heap.size + 1) v' (qs ++ [p])) := by
        unfold Hid Ut.Own32; rw [List.length_append, List.map_append]; exact hown'
      have HB' : Hid (Below (w.heap.size + 1) (w.alloc (.cells #[.int .i64 0, .int .i64 0] 26)) w4) := (HB5.out.alloc (by omega) _).grown hgrow (by simp; omega) (fun k hk => (HO5.out.lt k hk).1)
      clear hown' hgrow
      go_wp2
      go_roundw
      case rel => exact ⟨qs ++ [p], rs, k + 1, by rw [HQ.out]; simp, by go_num, HREL.out.symm, HO'.out, HB'.out⟩
      case measure => simp [intOf]; omega
set_option maxRecDepth 100000 in
set_option maxHeartbeats 8000000 in
theorem pt1_no_3 (s : Int) (a : Option Addr) (len cap : Nat) (l ps : List Int) (r : List Int) (hd : l = flatS s ps ++ r) (hne : r ≠ []) (hz : nxS s r = none) (w : World) (hs : s = 3) (hA : AllIn s ps) (hlen : l.length = len) (hl : Byt l) (hcap : len ≤ cap) (hm : cap ≤ maxLen) (hsmall : len ≤ 4000) (hrow : Row w a l) :
    Calls Tryd.prog 23 #[.string (nmS s), .slice a len cap] w fun e w' => e = .returned (.tuple #[.slice none 0 0, .agg #[.int .i64 ((flatS s ps).length : Nat), .int .i64 20]]) ∧ Below w.heap.size w w' := by
  obtain ⟨j0, hi, hz0, hz1, hz2⟩ := info_parts Ut.Tryd.info21
  unfold maxLen at hm
  have hs4 : s = 1 ∨ s = 3 ∨ s = 4 ∨ s = 5 := by omega
  have KO : ∀ (W : World) (c : Int), 0 ≤ c → c < 256 → Calls Tryd.prog 39 #[.string (nmS s), .int .i64 c] W fun e w' => e = .returned (.int .i32 (ptOf s c)) ∧ Below W.heap.size W w' := fun W c h0 h1 => rone_any s c W hs4 h0 h1
  have enc1 : ∀ p, Ut.ptB p = true → encS s p ≠ [] → ∃ c, encS s p = [c] ∧ (0 ≤ c ∧ c < 256) ∧ ptOf s c = p ∧ 0 ≤ p := by
    intro p hp he
    have hp0 := ((Ut.ptB_iff p).1 hp).1
    unfold encS at he ⊢
    rw [if_neg (by omega), if_neg (by omega)] at he ⊢
    by_cases hb : byOf s p = -1
    · rw [if_pos hb] at he; exact absurd rfl he
    · rw [if_neg hb]
      exact ⟨_, rfl, (by_pt hp0 hb).1, (by_pt hp0 hb).2, hp0⟩
  have HL : Hid (l.length = len) := hlen
  have HR : Hid (Row w a l) := hrow
  have HENC : Hid (∀ p, Ut.ptB p = true → encS s p ≠ [] → ∃ c, encS s p = [c] ∧ (0 ≤ c ∧ c < 256) ∧ ptOf s c = p ∧ 0 ≤ p) := enc1
  have HZ : Hid (nxS s r = none) := hz
  have hz' : ∀ c t, r = c :: t → ptOf s c = -1 := by
    intro c t hr
    rw [hr] at hz
    unfold nxS at hz
    rw [if_neg (by omega), if_neg (by omega)] at hz
    simp only at hz
    by_cases h : ptOf s c = -1
    · exact h
    · rw [if_neg h] at hz; cases hz
  have HD : Hid (l = flatS s ps ++ r) := hd
  clear hlen hrow hd enc1 hz
  obtain ⟨nm, hnm⟩ : ∃ nm, nmS s = nm := ⟨_, rfl⟩
  rw [hnm] at KO ⊢
  have hnm2 : nm = nmS 3 := by rw [← hnm, hs]
  rw [nmS3] at hnm2
  subst hnm2
  clear hnm hs4
  go_enter Tryd.func23, Tryd.ntmps23
  go_wp2
  go_loopw [6, 7] (fun v i wr => ∃ (qs rs : List Int) (k : Nat), ps = qs ++ rs ∧ i = .int .i64 k ∧ k = (flatS s qs).length ∧ Ut.Own32 wr (w.heap.size + 1) v qs ∧ Below (w.heap.size + 1) (w.alloc (.cells #[.int .i64 0, .int .i64 0] 26)) wr) (fun _ i _ => len - (intOf i).toNat)
  case atStart => exact ⟨[], ps, 0, rfl, rfl, rfl, World.ownsRow_nil _ _ _ _, Below.refl _ _⟩
  case round =>
    obtain ⟨qs, rs, k, hqr, rfl, hk, hown, hbel⟩ := hrel
    have HQ : Hid (ps = qs ++ rs) := hqr
    have HK : Hid (k = (flatS s qs).length) := hk
    have HB : Hid (Below (w.heap.size + 1) (w.alloc (.cells #[.int .i64 0, .int .i64 0] 26)) wr) := hbel
    have HO : Hid (Below w.heap.size w wr) := ((Below.refl _ w).alloc (Nat.le_refl _) _).trans (hbel.mono (Nat.le_succ _))
    have HOW : Hid (Ut.Own32 wr (w.heap.size + 1) u6 qs) := hown
    have hsz : w.heap.size + 1 ≤ wr.heap.size := by have := hbel.size; simpa using this
    have HDK : Hid (l.drop k = flatS s rs ++ r) := by
      unfold Hid; rw [HD.out, hk, hqr, flatS_append, List.append_assoc, List.drop_left]
    have hkl : k + (flatS s rs ++ r).length = len := by
      have h1 := congrArg List.length HDK.out
      rw [List.length_drop, HL.out] at h1
      have h2 : k ≤ len := by rw [← HL.out, HD.out, hk, hqr, flatS_append]; first | (simp; done) | (simp; omega)
      omega
    have hql : qs.length ≤ k := by rw [hk]; exact flatS_ge (AllIn.left (by rw [hqr] at hA; exact hA))
    have hcell0 : ∀ c t, l.drop k = c :: t → ∃ b off, a = some ⟨b, off, none⟩ ∧ wr.cell? ⟨b, off + k, none⟩ = some (.int .u8 c) := by
      intro c t hct
      rcases row_below HR.out HO.out with h | ⟨b, off, hab, hcell⟩
      · rw [h] at hct; simp at hct
      · refine ⟨b, off, hab, ?_⟩
        have hlt : k < l.length := by
          have := congrArg List.length hct
          rw [List.length_drop] at this; simp at this; omega
        have := hcell k hlt
        rwa [List.getD_eq_getElem?_getD, show l[k]? = (l.drop k)[0]? by simp, hct] at this
    cases rs with
    | nil =>
      match r, hne, hz', HD, HDK, hkl with
      | c :: t, _, hz', HD, HDK, hkl =>
        have hpq : ps = qs := by rw [hqr, List.append_nil]
        have HKP : Hid (k = (flatS s ps).length) := by unfold Hid; rw [hpq]; exact hk
        have hpc := hz' c t rfl
        obtain ⟨b, off, rfl, cc⟩ := hcell0 c t HDK.out
        have hcb := hl c (by rw [HD.out]; simp)
        have hklt : k < len := by simp at hkl; omega
        have KC := KO wr c hcb.1 hcb.2
        rw [hpc] at KC
        clear hk hqr hown hkl hcell0 hpq hz' KO hpc
        go_wp2_with fail
        refine KC.mono ?_
        rintro e w5 ⟨rfl, hb5⟩
        have HB5 : Below (w.heap.size + 1) (w.alloc (.cells #[.int .i64 0, .int .i64 0] 26)) w5 := HB.out.trans (hb5.mono hsz)
        have c0 : w5.cell? ⟨w.heap.size, 0, none⟩ = some (.int .i64 0) := by rw [HB5.cell (by simp)]; simp
        have c1 : w5.cell? ⟨w.heap.size, 1, none⟩ = some (.int .i64 0) := by rw [HB5.cell (by simp)]; simp
        have f0 : w5.frozen? ⟨w.heap.size, 0, none⟩ = false := by rw [HB5.frozen (by simp)]; simp
        have f1 : w5.frozen? ⟨w.heap.size, 1, none⟩ = false := by rw [HB5.frozen (by simp)]; simp
        have HO5 : Hid (Below w.heap.size w w5) := ((Below.refl _ w).alloc (Nat.le_refl _) _).trans (HB5.mono (Nat.le_succ _))
        clear HB5 hb5 hbel KC
        go_wp2
        exact bodyPost_ret (v := .tuple #[.slice none 0 0, .agg #[.int .i64 k, .int .i64 20]]) (by simp [results, Tryd.results23, go_sem, c0, c1]) rfl ⟨by rw [HKP.out], (HO5.out.setCell (by simp) _).setCell (by simp) _⟩
    | cons p rs =>
      have hAp := (show AllIn s (p :: rs) from (by rw [hqr] at hA; exact hA.right)).head
      obtain ⟨c, hec, hcb, hpc, hp0⟩ := HENC.out p hAp.1 hAp.2
      have hdc : l.drop k = c :: (flatS s rs ++ r) := by rw [HDK.out, flatS_cons, hec]; rfl
      obtain ⟨b, off, rfl, cc⟩ := hcell0 c _ hdc
      have hklt : k < len := by rw [flatS_cons, hec] at hkl; simp at hkl; omega
      have HREL : Hid ((flatS s (qs ++ [p])).length = k + 1) := by unfold Hid; rw [flatS_append, flatS_cons, flatS_nil, List.append_nil, List.length_append, hec, ← hk]; rfl
      have KC := KO wr c hcb.1 hcb.2
      rw [hpc] at KC
      have bp : decide (p < 0) = false := by simpa using hp0
      clear hk hqr hown hbel hkl hcell0 hec hpc hdc KO
      go_wp2_with fail
      refine KC.mono ?_
      rintro e w5 ⟨rfl, hb5⟩
      have hs5 := hb5.size
      have HB5 : Hid (Below (w.heap.size + 1) (w.alloc (.cells #[.int .i64 0, .int .i64 0] 26)) w5) := HB.out.trans (hb5.mono hsz)
      have hown5 := own_keep HOW.out hb5
      have HO5 : Hid (w5.ownsRow (w.heap.size + 1) 21 1 u6 qs.length (qs.map (Value.int .i32))) := hown5
      clear hb5 KC hown5
      go_wp2_with (at_builtin; refine wpList_append_own _ rfl _ _ 34 rfl (w.heap.size + 1) 21 j0 (.int .i32 0) 1 4 Tryd.underlying34 hi hz0 hz1 hz2 rfl (by decide) _ _ _ rfl (HO5.out.alloc _) ⟨w5.heap.size, 0, none⟩ 1 1 ([p].map (Value.int .i32)) rfl rfl (cells_new _ _ _) (Ut.ints_one32 _) ?c3 ?c4 ?c5 ?_)
      case c3 => unfold maxLen; omega
      case c4 => omega
      case c5 => first | omega | (simp; omega)
      intro v' w4 hown' hgrow _
      have HO' : Hid (Ut.Own32 w4 (w.heap.size + 1) v' (qs ++ [p])) := by
        unfold Hid Ut.Own32; rw [List.length_append, List.map_append]; exact hown'
      have HB' : Hid (Below (w.heap.size + 1) (w.alloc (.cells #[.int .i64 0, .int .i64 0] 26)) w4) := (HB5.out.alloc (by omega) _).grown hgrow (by simp; omega) (fun k hk => (HO5.out.lt k hk).1)
      clear hown' hgrow
      go_wp2
      go_roundw
      case rel => exact ⟨qs ++ [p], rs, k + 1, by rw [HQ.out]; simp, by go_num, HREL.out.symm, HO'.out, HB'.out⟩
      case measure => simp [intOf]; omega
set_option maxRecDepth 100000 in
set_option maxHeartbeats 8000000 in
theorem pt1_yes_4 (s : Int) (a : Option Addr) (len cap : Nat) (l ps : List Int) (hd : l = flatS s ps) (w : World) (hs : s = 4) (hA : AllIn s ps) (hlen : l.length = len) (hl : Byt l) (hcap : len ≤ cap) (hm : cap ≤ maxLen) (hsmall : len ≤ 4000) (hrow : Row w a l) :
    Calls Tryd.prog 23 #[.string (nmS s), .slice a len cap] w fun e w' => ∃ v, e = .returned (.tuple #[v, .agg #[.int .i64 0, .int .i64 0]]) ∧ Ut.Own32 w' w.heap.size v ps ∧ Below w.heap.size w w' := by
  obtain ⟨j0, hi, hz0, hz1, hz2⟩ := info_parts Ut.Tryd.info21
  unfold maxLen at hm
  have hs4 : s = 1 ∨ s = 3 ∨ s = 4 ∨ s = 5 := by omega
  have KO : ∀ (W : World) (c : Int), 0 ≤ c → c < 256 → Calls Tryd.prog 39 #[.string (nmS s), .int .i64 c] W fun e w' => e = .returned (.int .i32 (ptOf s c)) ∧ Below W.heap.size W w' := fun W c h0 h1 => rone_any s c W hs4 h0 h1
  have enc1 : ∀ p, Ut.ptB p = true → encS s p ≠ [] → ∃ c, encS s p = [c] ∧ (0 ≤ c ∧ c < 256) ∧ ptOf s c = p ∧ 0 ≤ p := by
    intro p hp he
    have hp0 := ((Ut.ptB_iff p).1 hp).1
    unfold encS at he ⊢
    rw [if_neg (by omega), if_neg (by omega)] at he ⊢
    by_cases hb : byOf s p = -1
    · rw [if_pos hb] at he; exact absurd rfl he
    · rw [if_neg hb]
      exact ⟨_, rfl, (by_pt hp0 hb).1, (by_pt hp0 hb).2, hp0⟩
  have HL : Hid (l.length = len) := hlen
  have HR : Hid (Row w a l) := hrow
  have HENC : Hid (∀ p, Ut.ptB p = true → encS s p ≠ [] → ∃ c, encS s p = [c] ∧ (0 ≤ c ∧ c < 256) ∧ ptOf s c = p ∧ 0 ≤ p) := enc1
  have HD : Hid (l = flatS s ps) := hd
  clear hlen hrow hd enc1 
  obtain ⟨nm, hnm⟩ : ∃ nm, nmS s = nm := ⟨_, rfl⟩
  rw [hnm] at KO ⊢
  have hnm2 : nm = nmS 4 := by rw [← hnm, hs]
  rw [nmS4] at hnm2
  subst hnm2
  clear hnm hs4
  go_enter Tryd.func23, Tryd.ntmps23
  go_wp2
  go_loopw [6, 7] (fun v i wr => ∃ (qs rs : List Int) (k : Nat), ps = qs ++ rs ∧ i = .int .i64 k ∧ k = (flatS s qs).length ∧ Ut.Own32 wr (w.heap.size + 1) v qs ∧ Below (w.heap.size + 1) (w.alloc (.cells #[.int .i64 0, .int .i64 0] 26)) wr) (fun _ i _ => len - (intOf i).toNat)
  case atStart => exact ⟨[], ps, 0, rfl, rfl, rfl, World.ownsRow_nil _ _ _ _, Below.refl _ _⟩
  case round =>
    obtain ⟨qs, rs, k, hqr, rfl, hk, hown, hbel⟩ := hrel
    have HQ : Hid (ps = qs ++ rs) := hqr
    have HK : Hid (k = (flatS s qs).length) := hk
    have HB : Hid (Below (w.heap.size + 1) (w.alloc (.cells #[.int .i64 0, .int .i64 0] 26)) wr) := hbel
    have HO : Hid (Below w.heap.size w wr) := ((Below.refl _ w).alloc (Nat.le_refl _) _).trans (hbel.mono (Nat.le_succ _))
    have HOW : Hid (Ut.Own32 wr (w.heap.size + 1) u6 qs) := hown
    have hsz : w.heap.size + 1 ≤ wr.heap.size := by have := hbel.size; simpa using this
    have HDK : Hid (l.drop k = flatS s rs) := by
      unfold Hid; rw [HD.out, hk, hqr, flatS_append, List.drop_left]
    have hkl : k + (flatS s rs).length = len := by
      have h1 := congrArg List.length HDK.out
      rw [List.length_drop, HL.out] at h1
      have h2 : k ≤ len := by rw [← HL.out, HD.out, hk, hqr, flatS_append]; first | (simp; done) | (simp; omega)
      omega
    have hql : qs.length ≤ k := by rw [hk]; exact flatS_ge (AllIn.left (by rw [hqr] at hA; exact hA))
    have hcell0 : ∀ c t, l.drop k = c :: t → ∃ b off, a = some ⟨b, off, none⟩ ∧ wr.cell? ⟨b, off + k, none⟩ = some (.int .u8 c) := by
      intro c t hct
      rcases row_below HR.out HO.out with h | ⟨b, off, hab, hcell⟩
      · rw [h] at hct; simp at hct
      · refine ⟨b, off, hab, ?_⟩
        have hlt : k < l.length := by
          have := congrArg List.length hct
          rw [List.length_drop] at this; simp at this; omega
        have := hcell k hlt
        rwa [List.getD_eq_getElem?_getD, show l[k]? = (l.drop k)[0]? by simp, hct] at this
    cases rs with
    | nil =>
      have hkl' : k = len := by simpa [flatS] using hkl
      have hpq : ps = qs := by rw [hqr, List.append_nil]
      have c0 : wr.cell? ⟨w.heap.size, 0, none⟩ = some (.int .i64 0) := by rw [hbel.cell (by simp)]; simp
      have c1 : wr.cell? ⟨w.heap.size, 1, none⟩ = some (.int .i64 0) := by rw [hbel.cell (by simp)]; simp
      have f0 : wr.frozen? ⟨w.heap.size, 0, none⟩ = false := by rw [hbel.frozen (by simp)]; simp
      have f1 : wr.frozen? ⟨w.heap.size, 1, none⟩ = false := by rw [hbel.frozen (by simp)]; simp
      subst hpq
      obtain rfl := hkl'
      clear hk hqr hbel hown hkl hcell0
      go_wp2
      exact bodyPost_ret (v := .tuple #[u6, .agg #[.int .i64 0, .int .i64 0]]) (by simp [results, Tryd.results23, go_sem, c0, c1]) rfl ⟨u6, rfl, Ut.own_base (Nat.le_succ _) (ownsRow_setCell_below (ownsRow_setCell_below HOW.out (by simp) _) (by simp) _), (HO.out.setCell (by simp) _).setCell (by simp) _⟩
    | cons p rs =>
      have hAp := (show AllIn s (p :: rs) from (by rw [hqr] at hA; exact hA.right)).head
      obtain ⟨c, hec, hcb, hpc, hp0⟩ := HENC.out p hAp.1 hAp.2
      have hdc : l.drop k = c :: (flatS s rs) := by rw [HDK.out, flatS_cons, hec]; rfl
      obtain ⟨b, off, rfl, cc⟩ := hcell0 c _ hdc
      have hklt : k < len := by rw [flatS_cons, hec] at hkl; simp at hkl; omega
      have HREL : Hid ((flatS s (qs ++ [p])).length = k + 1) := by unfold Hid; rw [flatS_append, flatS_cons, flatS_nil, List.append_nil, List.length_append, hec, ← hk]; rfl
      have KC := KO wr c hcb.1 hcb.2
      rw [hpc] at KC
      have bp : decide (p < 0) = false := by simpa using hp0
      clear hk hqr hown hbel hkl hcell0 hec hpc hdc KO
      go_wp2_with fail
      refine KC.mono ?_
      rintro e w5 ⟨rfl, hb5⟩
      have hs5 := hb5.size
      have HB5 : Hid (Below (w.heap.size + 1) (w.alloc (.cells #[.int .i64 0, .int .i64 0] 26)) w5) := HB.out.trans (hb5.mono hsz)
      have hown5 := own_keep HOW.out hb5
      have HO5 : Hid (w5.ownsRow (w.heap.size + 1) 21 1 u6 qs.length (qs.map (Value.int .i32))) := hown5
      clear hb5 KC hown5
      go_wp2_with (at_builtin; refine wpList_append_own _ rfl _ _ 34 rfl (w.heap.size + 1) 21 j0 (.int .i32 0) 1 4 Tryd.underlying34 hi hz0 hz1 hz2 rfl (by decide) _ _ _ rfl (HO5.out.alloc _) ⟨w5.heap.size, 0, none⟩ 1 1 ([p].map (Value.int .i32)) rfl rfl (cells_new _ _ _) (Ut.ints_one32 _) ?c3 ?c4 ?c5 ?_)
      case c3 => unfold maxLen; omega
      case c4 => omega
      case c5 => first | omega | (simp; omega)
      intro v' w4 hown' hgrow _
      have HO' : Hid (Ut.Own32 w4 (w.heap.size + 1) v' (qs ++ [p])) := by
        unfold Hid Ut.Own32; rw [List.length_append, List.map_append]; exact hown'
      have HB' : Hid (Below (w.heap.size + 1) (w.alloc (.cells #[.int .i64 0, .int .i64 0] 26)) w4) := (HB5.out.alloc (by omega) _).grown hgrow (by simp; omega) (fun k hk => (HO5.out.lt k hk).1)
      clear hown' hgrow
      go_wp2
      go_roundw
      case rel => exact ⟨qs ++ [p], rs, k + 1, by rw [HQ.out]; simp, by go_num, HREL.out.symm, HO'.out, HB'.out⟩
      case measure => simp [intOf]; omega
set_option maxRecDepth 100000 in
set_option maxHeartbeats 8000000 in
theorem pt1_no_4 (s : Int) (a : Option Addr) (len cap : Nat) (l ps : List Int) (r : List Int) (hd : l = flatS s ps ++ r) (hne : r ≠ []) (hz : nxS s r = none) (w : World) (hs : s = 4) (hA : AllIn s ps) (hlen : l.length = len) (hl : Byt l) (hcap : len ≤ cap) (hm : cap ≤ maxLen) (hsmall : len ≤ 4000) (hrow : Row w a l) :
    Calls Tryd.prog 23 #[.string (nmS s), .slice a len cap] w fun e w' => e = .returned (.tuple #[.slice none 0 0, .agg #[.int .i64 ((flatS s ps).length : Nat), .int .i64 20]]) ∧ Below w.heap.size w w' := by
  obtain ⟨j0, hi, hz0, hz1, hz2⟩ := info_parts Ut.Tryd.info21
  unfold maxLen at hm
  have hs4 : s = 1 ∨ s = 3 ∨ s = 4 ∨ s = 5 := by omega
  have KO : ∀ (W : World) (c : Int), 0 ≤ c → c < 256 → Calls Tryd.prog 39 #[.string (nmS s), .int .i64 c] W fun e w' => e = .returned (.int .i32 (ptOf s c)) ∧ Below W.heap.size W w' := fun W c h0 h1 => rone_any s c W hs4 h0 h1
  have enc1 : ∀ p, Ut.ptB p = true → encS s p ≠ [] → ∃ c, encS s p = [c] ∧ (0 ≤ c ∧ c < 256) ∧ ptOf s c = p ∧ 0 ≤ p := by
    intro p hp he
    have hp0 := ((Ut.ptB_iff p).1 hp).1
    unfold encS at he ⊢
    rw [if_neg (by omega), if_neg (by omega)] at he ⊢
    by_cases hb : byOf s p = -1
    · rw [if_pos hb] at he; exact absurd rfl he
    · rw [if_neg hb]
      exact ⟨_, rfl, (by_pt hp0 hb).1, (by_pt hp0 hb).2, hp0⟩
  have HL : Hid (l.length = len) := hlen
  have HR : Hid (Row w a l) := hrow
  have HENC : Hid (∀ p, Ut.ptB p = true → encS s p ≠ [] → ∃ c, encS s p = [c] ∧ (0 ≤ c ∧ c < 256) ∧ ptOf s c = p ∧ 0 ≤ p) := enc1
  have HZ : Hid (nxS s r = none) := hz
  have hz' : ∀ c t, r = c :: t → ptOf s c = -1 := by
    intro c t hr
    rw [hr] at hz
    unfold nxS at hz
    rw [if_neg (by omega), if_neg (by omega)] at hz
    simp only at hz
    by_cases h : ptOf s c = -1
    · exact h
    · rw [if_neg h] at hz; cases hz
  have HD : Hid (l = flatS s ps ++ r) := hd
  clear hlen hrow hd enc1 hz
  obtain ⟨nm, hnm⟩ : ∃ nm, nmS s = nm := ⟨_, rfl⟩
  rw [hnm] at KO ⊢
  have hnm2 : nm = nmS 4 := by rw [← hnm, hs]
  rw [nmS4] at hnm2
  subst hnm2
  clear hnm hs4
  go_enter Tryd.func23, Tryd.ntmps23
  go_wp2
  go_loopw [6, 7] (fun v i wr => ∃ (qs rs : List Int) (k : Nat), ps = qs ++ rs ∧ i = .int .i64 k ∧ k = (flatS s qs).length ∧ Ut.Own32 wr (w.heap.size + 1) v qs ∧ Below (w.heap.size + 1) (w.alloc (.cells #[.int .i64 0, .int .i64 0] 26)) wr) (fun _ i _ => len - (intOf i).toNat)
  case atStart => exact ⟨[], ps, 0, rfl, rfl, rfl, World.ownsRow_nil _ _ _ _, Below.refl _ _⟩
  case round =>
    obtain ⟨qs, rs, k, hqr, rfl, hk, hown, hbel⟩ := hrel
    have HQ : Hid (ps = qs ++ rs) := hqr
    have HK : Hid (k = (flatS s qs).length) := hk
    have HB : Hid (Below (w.heap.size + 1) (w.alloc (.cells #[.int .i64 0, .int .i64 0] 26)) wr) := hbel
    have HO : Hid (Below w.heap.size w wr) := ((Below.refl _ w).alloc (Nat.le_refl _) _).trans (hbel.mono (Nat.le_succ _))
    have HOW : Hid (Ut.Own32 wr (w.heap.size + 1) u6 qs) := hown
    have hsz : w.heap.size + 1 ≤ wr.heap.size := by have := hbel.size; simpa using this
    have HDK : Hid (l.drop k = flatS s rs ++ r) := by
      unfold Hid; rw [HD.out, hk, hqr, flatS_append, List.append_assoc, List.drop_left]
    have hkl : k + (flatS s rs ++ r).length = len := by
      have h1 := congrArg List.length HDK.out
      rw [List.length_drop, HL.out] at h1
      have h2 : k ≤ len := by rw [← HL.out, HD.out, hk, hqr, flatS_append]; first | (simp; done) | (simp; omega)
      omega
    have hql : qs.length ≤ k := by rw [hk]; exact flatS_ge (AllIn.left (by rw [hqr] at hA; exact hA))
    have hcell0 : ∀ c t, l.drop k = c :: t → ∃ b off, a = some ⟨b, off, none⟩ ∧ wr.cell? ⟨b, off + k, none⟩ = some (.int .u8 c) := by
      intro c t hct
      rcases row_below HR.out HO.out with h | ⟨b, off, hab, hcell⟩
      · rw [h] at hct; simp at hct
      · refine ⟨b, off, hab, ?_⟩
        have hlt : k < l.length := by
          have := congrArg List.length hct
          rw [List.length_drop] at this; simp at this; omega
        have := hcell k hlt
        rwa [List.getD_eq_getElem?_getD, show l[k]? = (l.drop k)[0]? by simp, hct] at this
    cases rs with
    | nil =>
      match r, hne, hz', HD, HDK, hkl with
      | c :: t, _, hz', HD, HDK, hkl =>
        have hpq : ps = qs := by rw [hqr, List.append_nil]
        have HKP : Hid (k = (flatS s ps).length) := by unfold Hid; rw [hpq]; exact hk
        have hpc := hz' c t rfl
        obtain ⟨b, off, rfl, cc⟩ := hcell0 c t HDK.out
        have hcb := hl c (by rw [HD.out]; simp)
        have hklt : k < len := by simp at hkl; omega
        have KC := KO wr c hcb.1 hcb.2
        rw [hpc] at KC
        clear hk hqr hown hkl hcell0 hpq hz' KO hpc
        go_wp2_with fail
        refine KC.mono ?_
        rintro e w5 ⟨rfl, hb5⟩
        have HB5 : Below (w.heap.size + 1) (w.alloc (.cells #[.int .i64 0, .int .i64 0] 26)) w5 := HB.out.trans (hb5.mono hsz)
        have c0 : w5.cell? ⟨w.heap.size, 0, none⟩ = some (.int .i64 0) := by rw [HB5.cell (by simp)]; simp
        have c1 : w5.cell? ⟨w.heap.size, 1, none⟩ = some (.int .i64 0) := by rw [HB5.cell (by simp)]; simp
        have f0 : w5.frozen? ⟨w.heap.size, 0, none⟩ = false := by rw [HB5.frozen (by simp)]; simp
        have f1 : w5.frozen? ⟨w.heap.size, 1, none⟩ = false := by rw [HB5.frozen (by simp)]; simp
        have HO5 : Hid (Below w.heap.size w w5) := ((Below.refl _ w).alloc (Nat.le_refl _) _).trans (HB5.mono (Nat.le_succ _))
        clear HB5 hb5 hbel KC
        go_wp2
        exact bodyPost_ret (v := .tuple #[.slice none 0 0, .agg #[.int .i64 k, .int .i64 20]]) (by simp [results, Tryd.results23, go_sem, c0, c1]) rfl ⟨by rw [HKP.out], (HO5.out.setCell (by simp) _).setCell (by simp) _⟩
    | cons p rs =>
      have hAp := (show AllIn s (p :: rs) from (by rw [hqr] at hA; exact hA.right)).head
      obtain ⟨c, hec, hcb, hpc, hp0⟩ := HENC.out p hAp.1 hAp.2
      have hdc : l.drop k = c :: (flatS s rs ++ r) := by rw [HDK.out, flatS_cons, hec]; rfl
      obtain ⟨b, off, rfl, cc⟩ := hcell0 c _ hdc
      have hklt : k < len := by rw [flatS_cons, hec] at hkl; simp at hkl; omega
      have HREL : Hid ((flatS s (qs ++ [p])).length = k + 1) := by unfold Hid; rw [flatS_append, flatS_cons, flatS_nil, List.append_nil, List.length_append, hec, ← hk]; rfl
      have KC := KO wr c hcb.1 hcb.2
      rw [hpc] at KC
      have bp : decide (p < 0) = false := by simpa using hp0
      clear hk hqr hown hbel hkl hcell0 hec hpc hdc KO
      go_wp2_with fail
      refine KC.mono ?_
      rintro e w5 ⟨rfl, hb5⟩
      have hs5 := hb5.size
      have HB5 : Hid (Below (w.heap.size + 1) (w.alloc (.cells #[.int .i64 0, .int .i64 0] 26)) w5) := HB.out.trans (hb5.mono hsz)
      have hown5 := own_keep HOW.out hb5
      have HO5 : Hid (w5.ownsRow (w.heap.size + 1) 21 1 u6 qs.length (qs.map (Value.int .i32))) := hown5
      clear hb5 KC hown5
      go_wp2_with (at_builtin; refine wpList_append_own _ rfl _ _ 34 rfl (w.heap.size + 1) 21 j0 (.int .i32 0) 1 4 Tryd.underlying34 hi hz0 hz1 hz2 rfl (by decide) _ _ _ rfl (HO5.out.alloc _) ⟨w5.heap.size, 0, none⟩ 1 1 ([p].map (Value.int .i32)) rfl rfl (cells_new _ _ _) (Ut.ints_one32 _) ?c3 ?c4 ?c5 ?_)
      case c3 => unfold maxLen; omega
      case c4 => omega
      case c5 => first | omega | (simp; omega)
      intro v' w4 hown' hgrow _
      have HO' : Hid (Ut.Own32 w4 (w.heap.size + 1) v' (qs ++ [p])) := by
        unfold Hid Ut.Own32; rw [List.length_append, List.map_append]; exact hown'
      have HB' : Hid (Below (w.heap.size + 1) (w.alloc (.cells #[.int .i64 0, .int .i64 0] 26)) w4) := (HB5.out.alloc (by omega) _).grown hgrow (by simp; omega) (fun k hk => (HO5.out.lt k hk).1)
      clear hown' hgrow
      go_wp2
      go_roundw
      case rel => exact ⟨qs ++ [p], rs, k + 1, by rw [HQ.out]; simp, by go_num, HREL.out.symm, HO'.out, HB'.out⟩
      case measure => simp [intOf]; omega
set_option maxRecDepth 100000 in
set_option maxHeartbeats 8000000 in
theorem pt1_yes_5 (s : Int) (a : Option Addr) (len cap : Nat) (l ps : List Int) (hd : l = flatS s ps) (w : World) (hs : s = 5) (hA : AllIn s ps) (hlen : l.length = len) (hl : Byt l) (hcap : len ≤ cap) (hm : cap ≤ maxLen) (hsmall : len ≤ 4000) (hrow : Row w a l) :
    Calls Tryd.prog 23 #[.string (nmS s), .slice a len cap] w fun e w' => ∃ v, e = .returned (.tuple #[v, .agg #[.int .i64 0, .int .i64 0]]) ∧ Ut.Own32 w' w.heap.size v ps ∧ Below w.heap.size w w' := by
  obtain ⟨j0, hi, hz0, hz1, hz2⟩ := info_parts Ut.Tryd.info21
  unfold maxLen at hm
  have hs4 : s = 1 ∨ s = 3 ∨ s = 4 ∨ s = 5 := by omega
  have KO : ∀ (W : World) (c : Int), 0 ≤ c → c < 256 → Calls Tryd.prog 39 #[.string (nmS s), .int .i64 c] W fun e w' => e = .returned (.int .i32 (ptOf s c)) ∧ Below W.heap.size W w' := fun W c h0 h1 => rone_any s c W hs4 h0 h1
  have enc1 : ∀ p, Ut.ptB p = true → encS s p ≠ [] → ∃ c, encS s p = [c] ∧ (0 ≤ c ∧ c < 256) ∧ ptOf s c = p ∧ 0 ≤ p := by
    intro p hp he
    have hp0 := ((Ut.ptB_iff p).1 hp).1
    unfold encS at he ⊢
    rw [if_neg (by omega), if_neg (by omega)] at he ⊢
    by_cases hb : byOf s p = -1
    · rw [if_pos hb] at he; exact absurd rfl he
    · rw [if_neg hb]
      exact ⟨_, rfl, (by_pt hp0 hb).1, (by_pt hp0 hb).2, hp0⟩
  have HL : Hid (l.length = len) := hlen
  have HR : Hid (Row w a l) := hrow
  have HENC : Hid (∀ p, Ut.ptB p = true → encS s p ≠ [] → ∃ c, encS s p = [c] ∧ (0 ≤ c ∧ c < 256) ∧ ptOf s c = p ∧ 0 ≤ p) := enc1
  have HD : Hid (l = flatS s ps) := hd
  clear hlen hrow hd enc1 
  obtain ⟨nm, hnm⟩ : ∃ nm, nmS s = nm := ⟨_, rfl⟩
  rw [hnm] at KO ⊢
  have hnm2 : nm = nmS 5 := by rw [← hnm, hs]
  rw [nmS5] at hnm2
  subst hnm2
  clear hnm hs4
  go_enter Tryd.func23, Tryd.ntmps23
  go_wp2
  go_loopw [6, 7] (fun v i wr => ∃ (qs rs : List Int) (k : Nat), ps = qs ++ rs ∧ i = .int .i64 k ∧ k = (flatS s qs).length ∧ Ut.Own32 wr (w.heap.size + 1) v qs ∧ Below (w.heap.size + 1) (w.alloc (.cells #[.int .i64 0, .int .i64 0] 26)) wr) (fun _ i _ => len - (intOf i).toNat)
  case atStart => exact ⟨[], ps, 0, rfl, rfl, rfl, World.ownsRow_nil _ _ _ _, Below.refl _ _⟩
  case round =>
    obtain ⟨qs, rs, k, hqr, rfl, hk, hown, hbel⟩ := hrel
    have HQ : Hid (ps = qs ++ rs) := hqr
    have HK : Hid (k = (flatS s qs).length) := hk
    have HB : Hid (Below (w.heap.size + 1) (w.alloc (.cells #[.int .i64 0, .int .i64 0] 26)) wr) := hbel
    have HO : Hid (Below w.heap.size w wr) := ((Below.refl _ w).alloc (Nat.le_refl _) _).trans (hbel.mono (Nat.le_succ _))
    have HOW : Hid (Ut.Own32 wr (w.heap.size + 1) u6 qs) := hown
    have hsz : w.heap.size + 1 ≤ wr.heap.size := by have := hbel.size; simpa using this
    have HDK : Hid (l.drop k = flatS s rs) := by
      unfold Hid; rw [HD.out, hk, hqr, flatS_append, List.drop_left]
    have hkl : k + (flatS s rs).length = len := by
      have h1 := congrArg List.length HDK.out
      rw [List.length_drop, HL.out] at h1
      have h2 : k ≤ len := by rw [← HL.out, HD.out, hk, hqr, flatS_append]; first | (simp; done) | (simp; omega)
      omega
    have hql : qs.length ≤ k := by rw [hk]; exact flatS_ge (AllIn.left (by rw [hqr] at hA; exact hA))
    have hcell0 : ∀ c t, l.drop k = c :: t → ∃ b off, a = some ⟨b, off, none⟩ ∧ wr.cell? ⟨b, off + k, none⟩ = some (.int .u8 c) := by
      intro c t hct
      rcases row_below HR.out HO.out with h | ⟨b, off, hab, hcell⟩
      · rw [h] at hct; simp at hct
      · refine ⟨b, off, hab, ?_⟩
        have hlt : k < l.length := by
          have := congrArg List.length hct
          rw [List.length_drop] at this; simp at this; omega
        have := hcell k hlt
        rwa [List.getD_eq_getElem?_getD, show l[k]? = (l.drop k)[0]? by simp, hct] at this
    cases rs with
    | nil =>
      have hkl' : k = len := by simpa [flatS] using hkl
      have hpq : ps = qs := by rw [hqr, List.append_nil]
      have c0 : wr.cell? ⟨w.heap.size, 0, none⟩ = some (.int .i64 0) := by rw [hbel.cell (by simp)]; simp
      have c1 : wr.cell? ⟨w.heap.size, 1, none⟩ = some (.int .i64 0) := by rw [hbel.cell (by simp)]; simp
      have f0 : wr.frozen? ⟨w.heap.size, 0, none⟩ = false := by rw [hbel.frozen (by simp)]; simp
      have f1 : wr.frozen? ⟨w.heap.size, 1, none⟩ = false := by rw [hbel.frozen (by simp)]; simp
      subst hpq
      obtain rfl := hkl'
      clear hk hqr hbel hown hkl hcell0
      go_wp2
      exact bodyPost_ret (v := .tuple #[u6, .agg #[.int .i64 0, .int .i64 0]]) (by simp [results, Tryd.results23, go_sem, c0, c1]) rfl ⟨u6, rfl, Ut.own_base (Nat.le_succ _) (ownsRow_setCell_below (ownsRow_setCell_below HOW.out (by simp) _) (by simp) _), (HO.out.setCell (by simp) _).setCell (by simp) _⟩
    | cons p rs =>
      have hAp := (show AllIn s (p :: rs) from (by rw [hqr] at hA; exact hA.right)).head
      obtain ⟨c, hec, hcb, hpc, hp0⟩ := HENC.out p hAp.1 hAp.2
      have hdc : l.drop k = c :: (flatS s rs) := by rw [HDK.out, flatS_cons, hec]; rfl
      obtain ⟨b, off, rfl, cc⟩ := hcell0 c _ hdc
      have hklt : k < len := by rw [flatS_cons, hec] at hkl; simp at hkl; omega
      have HREL : Hid ((flatS s (qs ++ [p])).length = k + 1) := by unfold Hid; rw [flatS_append, flatS_cons, flatS_nil, List.append_nil, List.length_append, hec, ← hk]; rfl
      have KC := KO wr c hcb.1 hcb.2
      rw [hpc] at KC
      have bp : decide (p < 0) = false := by simpa using hp0
      clear hk hqr hown hbel hkl hcell0 hec hpc hdc KO
      go_wp2_with fail
      refine KC.mono ?_
      rintro e w5 ⟨rfl, hb5⟩
      have hs5 := hb5.size
      have HB5 : Hid (Below (w.heap.size + 1) (w.alloc (.cells #[.int .i64 0, .int .i64 0] 26)) w5) := HB.out.trans (hb5.mono hsz)
      have hown5 := own_keep HOW.out hb5
      have HO5 : Hid (w5.ownsRow (w.heap.size + 1) 21 1 u6 qs.length (qs.map (Value.int .i32))) := hown5
      clear hb5 KC hown5
      go_wp2_with (at_builtin; refine wpList_append_own _ rfl _ _ 34 rfl (w.heap.size + 1) 21 j0 (.int .i32 0) 1 4 Tryd.underlying34 hi hz0 hz1 hz2 rfl (by decide) _ _ _ rfl (HO5.out.alloc _) ⟨w5.heap.size, 0, none⟩ 1 1 ([p].map (Value.int .i32)) rfl rfl (cells_new _ _ _) (Ut.ints_one32 _) ?c3 ?c4 ?c5 ?_)
      case c3 => unfold maxLen; omega
      case c4 => omega
      case c5 => first | omega | (simp; omega)
      intro v' w4 hown' hgrow _
      have HO' : Hid (Ut.Own32 w4 (w.heap.size + 1) v' (qs ++ [p])) := by
        unfold Hid Ut.Own32; rw [List.length_append, List.map_append]; exact hown'
      have HB' : Hid (Below (w.heap.size + 1) (w.alloc (.cells #[.int .i64 0, .int .i64 0] 26)) w4) := (HB5.out.alloc (by omega) _).grown hgrow (by simp; omega) (fun k hk => (HO5.out.lt k hk).1)
      clear hown' hgrow
      go_wp2
      go_roundw
      case rel => exact ⟨qs ++ [p], rs, k + 1, by rw [HQ.out]; simp, by go_num, HREL.out.symm, HO'.out, HB'.out⟩
      case measure => simp [intOf]; omega
set_option maxRecDepth 100000 in
set_option maxHeartbeats 8000000 in
theorem pt1_no_5 (s : Int) (a : Option Addr) (len cap : Nat) (l ps : List Int) (r : List Int) (hd : l = flatS s ps ++ r) (hne : r ≠ []) (hz : nxS s r = none) (w : World) (hs : s = 5) (hA : AllIn s ps) (hlen : l.length = len) (hl : Byt l) (hcap : len ≤ cap) (hm : cap ≤ maxLen) (hsmall : len ≤ 4000) (hrow : Row w a l) :
    Calls Tryd.prog 23 #[.string (nmS s), .slice a len cap] w fun e w' => e = .returned (.tuple #[.slice none 0 0, .agg #[.int .i64 ((flatS s ps).length : Nat), .int .i64 20]]) ∧ Below w.heap.size w w' := by
  obtain ⟨j0, hi, hz0, hz1, hz2⟩ := info_parts Ut.Tryd.info21
  unfold maxLen at hm
  have hs4 : s = 1 ∨ s = 3 ∨ s = 4 ∨ s = 5 := by omega
  have KO : ∀ (W : World) (c : Int), 0 ≤ c → c < 256 → Calls Tryd.prog 39 #[.string (nmS s), .int .i64 c] W fun e w' => e = .returned (.int .i32 (ptOf s c)) ∧ Below W.heap.size W w' := fun W c h0 h1 => rone_any s c W hs4 h0 h1
  have enc1 : ∀ p, Ut.ptB p = true → encS s p ≠ [] → ∃ c, encS s p = [c] ∧ (0 ≤ c ∧ c < 256) ∧ ptOf s c = p ∧ 0 ≤ p := by
    intro p hp he
    have hp0 := ((Ut.ptB_iff p).1 hp).1
    unfold encS at he ⊢
    rw [if_neg (by omega), if_neg (by omega)] at he ⊢
    by_cases hb : byOf s p = -1
    · rw [if_pos hb] at he; exact absurd rfl he
    · rw [if_neg hb]
      exact ⟨_, rfl, (by_pt hp0 hb).1, (by_pt hp0 hb).2, hp0⟩
  have HL : Hid (l.length = len) := hlen
  have HR : Hid (Row w a l) := hrow
  have HENC : Hid (∀ p, Ut.ptB p = true → encS s p ≠ [] → ∃ c, encS s p = [c] ∧ (0 ≤ c ∧ c < 256) ∧ ptOf s c = p ∧ 0 ≤ p) := enc1
  have HZ : Hid (nxS s r = none) := hz
  have hz' : ∀ c t, r = c :: t → ptOf s c = -1 := by
    intro c t hr
    rw [hr] at hz
    unfold nxS at hz
    rw [if_neg (by omega), if_neg (by omega)] at hz
    simp only at hz
    by_cases h : ptOf s c = -1
    · exact h
    · rw [if_neg h] at hz; cases hz
  have HD : Hid (l = flatS s ps ++ r) := hd
  clear hlen hrow hd enc1 hz
  obtain ⟨nm, hnm⟩ : ∃ nm, nmS s = nm := ⟨_, rfl⟩
  rw [hnm] at KO ⊢
  have hnm2 : nm = nmS 5 := by rw [← hnm, hs]
  rw [nmS5] at hnm2
  subst hnm2
  clear hnm hs4
  go_enter Tryd.func23, Tryd.ntmps23
  go_wp2
  go_loopw [6, 7] (fun v i wr => ∃ (qs rs : List Int) (k : Nat), ps = qs ++ rs ∧ i = .int .i64 k ∧ k = (flatS s qs).length ∧ Ut.Own32 wr (w.heap.size + 1) v qs ∧ Below (w.heap.size + 1) (w.alloc (.cells #[.int .i64 0, .int .i64 0] 26)) wr) (fun _ i _ => len - (intOf i).toNat)
  case atStart => exact ⟨[], ps, 0, rfl, rfl, rfl, World.ownsRow_nil _ _ _ _, Below.refl _ _⟩
  case round =>
    obtain ⟨qs, rs, k, hqr, rfl, hk, hown, hbel⟩ := hrel
    have HQ : Hid (ps = qs ++ rs) := hqr
    have HK : Hid (k = (flatS s qs).length) := hk
    have HB : Hid (Below (w.heap.size + 1) (w.alloc (.cells #[.int .i64 0, .int .i64 0] 26)) wr) := hbel
    have HO : Hid (Below w.heap.size w wr) := ((Below.refl _ w).alloc (Nat.le_refl _) _).trans (hbel.mono (Nat.le_succ _))
    have HOW : Hid (Ut.Own32 wr (w.heap.size + 1) u6 qs) := hown
    have hsz : w.heap.size + 1 ≤ wr.heap.size := by have := hbel.size; simpa using this
    have HDK : Hid (l.drop k = flatS s rs ++ r) := by
      unfold Hid; rw [HD.out, hk, hqr, flatS_append, List.append_assoc, List.drop_left]
    have hkl : k + (flatS s rs ++ r).length = len := by
      have h1 := congrArg List.length HDK.out
      rw [List.length_drop, HL.out] at h1
      have h2 : k ≤ len := by rw [← HL.out, HD.out, hk, hqr, flatS_append]; first | (simp; done) | (simp; omega)
      omega
    have hql : qs.length ≤ k := by rw [hk]; exact flatS_ge (AllIn.left (by rw [hqr] at hA; exact hA))
    have hcell0 : ∀ c t, l.drop k = c :: t → ∃ b off, a = some ⟨b, off, none⟩ ∧ wr.cell? ⟨b, off + k, none⟩ = some (.int .u8 c) := by
      intro c t hct
      rcases row_below HR.out HO.out with h | ⟨b, off, hab, hcell⟩
      · rw [h] at hct; simp at hct
      · refine ⟨b, off, hab, ?_⟩
        have hlt : k < l.length := by
          have := congrArg List.length hct
          rw [List.length_drop] at this; simp at this; omega
        have := hcell k hlt
        rwa [List.getD_eq_getElem?_getD, show l[k]? = (l.drop k)[0]? by simp, hct] at this
    cases rs with
    | nil =>
      match r, hne, hz', HD, HDK, hkl with
      | c :: t, _, hz', HD, HDK, hkl =>
        have hpq : ps = qs := by rw [hqr, List.append_nil]
        have HKP : Hid (k = (flatS s ps).length) := by unfold Hid; rw [hpq]; exact hk
        have hpc := hz' c t rfl
        obtain ⟨b, off, rfl, cc⟩ := hcell0 c t HDK.out
        have hcb := hl c (by rw [HD.out]; simp)
        have hklt : k < len := by simp at hkl; omega
        have KC := KO wr c hcb.1 hcb.2
        rw [hpc] at KC
        clear hk hqr hown hkl hcell0 hpq hz' KO hpc
        go_wp2_with fail
        refine KC.mono ?_
        rintro e w5 ⟨rfl, hb5⟩
        have HB5 : Below (w.heap.size + 1) (w.alloc (.cells #[.int .i64 0, .int .i64 0] 26)) w5 := HB.out.trans (hb5.mono hsz)
        have c0 : w5.cell? ⟨w.heap.size, 0, none⟩ = some (.int .i64 0) := by rw [HB5.cell (by simp)]; simp
        have c1 : w5.cell? ⟨w.heap.size, 1, none⟩ = some (.int .i64 0) := by rw [HB5.cell (by simp)]; simp
        have f0 : w5.frozen? ⟨w.heap.size, 0, none⟩ = false := by rw [HB5.frozen (by simp)]; simp
        have f1 : w5.frozen? ⟨w.heap.size, 1, none⟩ = false := by rw [HB5.frozen (by simp)]; simp
        have HO5 : Hid (Below w.heap.size w w5) := ((Below.refl _ w).alloc (Nat.le_refl _) _).trans (HB5.mono (Nat.le_succ _))
        clear HB5 hb5 hbel KC
        go_wp2
        exact bodyPost_ret (v := .tuple #[.slice none 0 0, .agg #[.int .i64 k, .int .i64 20]]) (by simp [results, Tryd.results23, go_sem, c0, c1]) rfl ⟨by rw [HKP.out], (HO5.out.setCell (by simp) _).setCell (by simp) _⟩
    | cons p rs =>
      have hAp := (show AllIn s (p :: rs) from (by rw [hqr] at hA; exact hA.right)).head
      obtain ⟨c, hec, hcb, hpc, hp0⟩ := HENC.out p hAp.1 hAp.2
      have hdc : l.drop k = c :: (flatS s rs ++ r) := by rw [HDK.out, flatS_cons, hec]; rfl
      obtain ⟨b, off, rfl, cc⟩ := hcell0 c _ hdc
      have hklt : k < len := by rw [flatS_cons, hec] at hkl; simp at hkl; omega
      have HREL : Hid ((flatS s (qs ++ [p])).length = k + 1) := by unfold Hid; rw [flatS_append, flatS_cons, flatS_nil, List.append_nil, List.length_append, hec, ← hk]; rfl
      have KC := KO wr c hcb.1 hcb.2
      rw [hpc] at KC
      have bp : decide (p < 0) = false := by simpa using hp0
      clear hk hqr hown hbel hkl hcell0 hec hpc hdc KO
      go_wp2_with fail
      refine KC.mono ?_
      rintro e w5 ⟨rfl, hb5⟩
      have hs5 := hb5.size
      have HB5 : Hid (Below (w.heap.size + 1) (w.alloc (.cells #[.int .i64 0, .int .i64 0] 26)) w5) := HB.out.trans (hb5.mono hsz)
      have hown5 := own_keep HOW.out hb5
      have HO5 : Hid (w5.ownsRow (w.heap.size + 1) 21 1 u6 qs.length (qs.map (Value.int .i32))) := hown5
      clear hb5 KC hown5
      go_wp2_with (at_builtin; refine wpList_append_own _ rfl _ _ 34 rfl (w.heap.size + 1) 21 j0 (.int .i32 0) 1 4 Tryd.underlying34 hi hz0 hz1 hz2 rfl (by decide) _ _ _ rfl (HO5.out.alloc _) ⟨w5.heap.size, 0, none⟩ 1 1 ([p].map (Value.int .i32)) rfl rfl (cells_new _ _ _) (Ut.ints_one32 _) ?c3 ?c4 ?c5 ?_)
      case c3 => unfold maxLen; omega
      case c4 => omega
      case c5 => first | omega | (simp; omega)
      intro v' w4 hown' hgrow _
      have HO' : Hid (Ut.Own32 w4 (w.heap.size + 1) v' (qs ++ [p])) := by
        unfold Hid Ut.Own32; rw [List.length_append, List.map_append]; exact hown'
      have HB' : Hid (Below (w.heap.size + 1) (w.alloc (.cells #[.int .i64 0, .int .i64 0] 26)) w4) := (HB5.out.alloc (by omega) _).grown hgrow (by simp; omega) (fun k hk => (HO5.out.lt k hk).1)
      clear hown' hgrow
      go_wp2
      go_roundw
      case rel => exact ⟨qs ++ [p], rs, k + 1, by rw [HQ.out]; simp, by go_num, HREL.out.symm, HO'.out, HB'.out⟩
      case measure => simp [intOf]; omega
end Go.Proofs.YtlhhbmolkiojfaaDoor
