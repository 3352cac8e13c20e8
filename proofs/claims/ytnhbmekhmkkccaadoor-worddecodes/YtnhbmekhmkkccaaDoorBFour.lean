/-
  Signs, and the contract of appendFour.
-/
import Derived.Test.YtnhbmekhmkkccaaDoorBase
namespace Go.Proofs.YtnhbmekhmkkccaaDoor.Bt
open Go.RowKit
set_option linter.unusedVariables false

def signsL : List Int := [65, 66, 67, 68, 69, 70, 71, 72, 73, 74, 75, 76, 77, 78, 79, 80, 81, 82, 83, 84, 85, 86, 87, 88, 89, 90, 97, 98, 99, 100, 101, 102, 103, 104, 105, 106, 107, 108, 109, 110, 111, 112, 113, 114, 115, 116, 117, 118, 119, 120, 121, 122, 48, 49, 50, 51, 52, 53, 54, 55, 56, 57, 43, 47]
/-- The sign of a number. -/
def sgn (n : Nat) : Int := signsL.getD n 0
theorem sgn_all : ∀ i : Fin 64, (((((⟨List.toArray (65 :: 66 :: 67 :: 68 :: 69 :: 70 :: 71 :: 72 :: 73 :: 74 :: 75 :: 76 :: 77 :: 78 :: 79 :: 80 :: 81 :: 82 :: 83 :: 84 :: 85 :: 86 :: 87 :: 88 :: 89 :: 90 :: 97 :: 98 :: 99 :: 100 :: 101 :: 102 :: 103 :: 104 :: 105 :: 106 :: 107 :: 108 :: 109 :: 110 :: 111 :: 112 :: 113 :: 114 :: 115 :: 116 :: 117 :: 118 :: 119 :: 120 :: 121 :: 122 :: 48 :: 49 :: 50 :: 51 :: 52 :: 53 :: 54 :: 55 :: 56 :: 57 :: 43 :: 47 :: [])⟩ : ByteArray)[i.val]'(i.isLt)).toNat : Nat)) : Int) = sgn i.val := by decide +kernel
theorem sgn_get (i : Nat) (h : i < (⟨List.toArray (65 :: 66 :: 67 :: 68 :: 69 :: 70 :: 71 :: 72 :: 73 :: 74 :: 75 :: 76 :: 77 :: 78 :: 79 :: 80 :: 81 :: 82 :: 83 :: 84 :: 85 :: 86 :: 87 :: 88 :: 89 :: 90 :: 97 :: 98 :: 99 :: 100 :: 101 :: 102 :: 103 :: 104 :: 105 :: 106 :: 107 :: 108 :: 109 :: 110 :: 111 :: 112 :: 113 :: 114 :: 115 :: 116 :: 117 :: 118 :: 119 :: 120 :: 121 :: 122 :: 48 :: 49 :: 50 :: 51 :: 52 :: 53 :: 54 :: 55 :: 56 :: 57 :: 43 :: 47 :: [])⟩ : ByteArray).size) : ((((⟨List.toArray (65 :: 66 :: 67 :: 68 :: 69 :: 70 :: 71 :: 72 :: 73 :: 74 :: 75 :: 76 :: 77 :: 78 :: 79 :: 80 :: 81 :: 82 :: 83 :: 84 :: 85 :: 86 :: 87 :: 88 :: 89 :: 90 :: 97 :: 98 :: 99 :: 100 :: 101 :: 102 :: 103 :: 104 :: 105 :: 106 :: 107 :: 108 :: 109 :: 110 :: 111 :: 112 :: 113 :: 114 :: 115 :: 116 :: 117 :: 118 :: 119 :: 120 :: 121 :: 122 :: 48 :: 49 :: 50 :: 51 :: 52 :: 53 :: 54 :: 55 :: 56 :: 57 :: 43 :: 47 :: [])⟩ : ByteArray)[i]'h).toNat : Nat) : Int) = sgn i := sgn_all ⟨i, h⟩
theorem cell_sg {w : World} {x y : Int} {t : TypeId} {g : Nat} (hg : g = w.heap.size) (h : x = y) : ∀ j u, ([y].map (Value.int .u8))[j]? = some u → (w.alloc (.cells #[.int .u8 x] t)).cell? ((⟨g, 0, none⟩ : Addr).add j) = some u := by
  subst h; subst hg; exact cells_new w [.int .u8 x] t
theorem u32_or8 (x y : Int) (h0 : 0 ≤ x) (h1 : x < 4294967296) (h2 : x % 256 = 0) (h3 : 0 ≤ y) (h4 : y < 256) : bits .or .u32 x y = x + y :=
  bits_join .u32 32 (by decide) (fun n h0 h1 => by simp [IntKind.wrap, IntKind.bits, IntKind.signed]; omega) 8 x y h0 (by simpa using h2) (by simpa using h1) h3 (by simpa using h4) (by simp; omega)
/-- The four signs of up to three bytes. -/
def fourL (x y z : Int) (t : Nat) : List Int :=
  [sgn (((x * 256 + y) * 256 + z) / 262144 % 64).toNat, sgn (((x * 256 + y) * 256 + z) / 4096 % 64).toNat, if 2 ≤ t then sgn (((x * 256 + y) * 256 + z) / 64 % 64).toNat else 61, if 3 ≤ t then sgn (z % 64).toNat else 61]

set_option maxRecDepth 100000 in
set_option maxHeartbeats 1000000 in
theorem four1 (x y z : Int) (w : World) (B : Nat) (v : Value) (l : List Int) (hx0 : 0 ≤ x) (hx1 : x < 256) (hy0 : 0 ≤ y) (hy1 : y < 256) (hq0 : 0 ≤ z) (hq1 : z < 256)
    (hown : w.ownsRow B 5 1 v l.length (l.map (Value.int .u8))) (hB : B ≤ w.heap.size) (hl : l.length ≤ 70368744170000) :
    Calls Tryd.prog 41 #[v, .agg #[.int .u8 x, .int .u8 y, .int .u8 z], .int .i64 1] w fun e w' => ∃ v', e = .returned v' ∧ Own w' B v' (l ++ fourL x y z 1) ∧ Below B w w' := by
  obtain ⟨j0, hi, hz0, hz1, hz2⟩ := info_parts Tryd.info5
  have i0 : ∀ w, (Instr.index 58 (.agg #[.int .u8 x, .int .u8 y, .int .u8 z]) (.int .i64 0)).run Tryd.prog w = .ok (.int .u8 x) w := fun _ => by kernel_rfl
  have i1 : ∀ w, (Instr.index 58 (.agg #[.int .u8 x, .int .u8 y, .int .u8 z]) (.int .i64 1)).run Tryd.prog w = .ok (.int .u8 y) w := fun _ => by kernel_rfl
  have i2 : ∀ w, (Instr.index 58 (.agg #[.int .u8 x, .int .u8 y, .int .u8 z]) (.int .i64 2)).run Tryd.prog w = .ok (.int .u8 z) w := fun _ => by kernel_rfl
  have e1 : bits .or .u32 0 x = x := by rw [u32_or8 0 x (by omega) (by omega) (by omega) (by omega) (by omega)]; omega
  have e2 := u32_or8 (x * 256) y (by omega) (by omega) (by omega) (by omega) (by omega)
  have e3 := u32_or8 ((x * 256 + y) * 256) z (by omega) (by omega) (by omega) (by omega) (by omega)
  go_enter Tryd.func41, Tryd.ntmps41
  go_wp2
  refine wp_loop_rounds 4 ?_; rw [rounds_succ]
  go_wp2
  rw [rounds_succ]
  go_wp2
  rw [rounds_succ]
  go_wp2
  rw [rounds_succ]
  go_wp2
  clear i0 i1 i2 e1 e2 e3
  refine wp_loop_rounds 5 ?_; rw [rounds_succ]
  go_wp2_with (at_builtin; refine wpList_append_own _ rfl (.tmp 30) (.tmp 39) 31 rfl B 5 j0 (.int .u8 0) 1 1 Tryd.underlying31 hi hz0 hz1 hz2 rfl (by decide) _ _ _ rfl ((hown.alloc _).alloc _) ⟨(w.heap.size + 1), 0, none⟩ 1 1 ([sgn (((x * 256 + y) * 256 + z) / 262144 % 64).toNat].map (Value.int .u8)) rfl rfl ?n0 (ints_one _) ?a0 ?b0 ?c0 ?_)
  case n0 => exact cell_sg (by simp) (sgn_get _ _)
  case a0 => unfold maxLen; omega
  case b0 => omega
  case c0 => simp; omega
  intro v1 w1 hown1 hgrow1 _
  have HB1 : Hid (Below B w w1) := ((((Below.refl B w).alloc hB _).alloc (by simp; omega) _)).grown hgrow1 (by simp; omega) (fun k hk => (hown.lt k hk).1)
  have hs1 : B ≤ w1.heap.size := Nat.le_trans hB HB1.out.size
  clear hgrow1
  go_wp2
  rw [rounds_succ]
  go_wp2_with (at_builtin; refine wpList_append_own _ rfl (.tmp 30) (.tmp 39) 31 rfl B 5 j0 (.int .u8 0) 1 1 Tryd.underlying31 hi hz0 hz1 hz2 rfl (by decide) _ _ _ rfl (hown1.alloc _) ⟨w1.heap.size, 0, none⟩ 1 1 ([sgn (((x * 256 + y) * 256 + z) / 4096 % 64).toNat].map (Value.int .u8)) rfl rfl ?n1 (ints_one _) ?a1 ?b1 ?c1 ?_)
  case n1 => exact cell_sg (by simp) (sgn_get _ _)
  case a1 => unfold maxLen; omega
  case b1 => omega
  case c1 => simp; omega
  intro v2 w2 hown2 hgrow2 _
  have HB2 : Hid (Below B w w2) := ((HB1.out.alloc hs1 _)).grown hgrow2 (by simp; omega) (fun k hk => (hown1.lt k hk).1)
  have hs2 : B ≤ w2.heap.size := Nat.le_trans hB HB2.out.size
  clear hgrow2 hown1
  go_wp2
  rw [rounds_succ]
  go_wp2_with (at_builtin; refine wpList_append_own _ rfl (.tmp 27) (.tmp 28) 31 rfl B 5 j0 (.int .u8 0) 1 1 Tryd.underlying31 hi hz0 hz1 hz2 rfl (by decide) _ _ _ rfl (hown2.alloc _) ⟨w2.heap.size, 0, none⟩ 1 1 ([61].map (Value.int .u8)) rfl rfl ?n2 (ints_one _) ?a2 ?b2 ?c2 ?_)
  case n2 => exact cell_sg (by simp) rfl
  case a2 => unfold maxLen; omega
  case b2 => omega
  case c2 => simp; omega
  intro v3 w3 hown3 hgrow3 _
  have HB3 : Hid (Below B w w3) := ((HB2.out.alloc hs2 _)).grown hgrow3 (by simp; omega) (fun k hk => (hown2.lt k hk).1)
  have hs3 : B ≤ w3.heap.size := Nat.le_trans hB HB3.out.size
  clear hgrow3 hown2
  go_wp2
  rw [rounds_succ]
  go_wp2_with (at_builtin; refine wpList_append_own _ rfl (.tmp 27) (.tmp 28) 31 rfl B 5 j0 (.int .u8 0) 1 1 Tryd.underlying31 hi hz0 hz1 hz2 rfl (by decide) _ _ _ rfl (hown3.alloc _) ⟨w3.heap.size, 0, none⟩ 1 1 ([61].map (Value.int .u8)) rfl rfl ?n3 (ints_one _) ?a3 ?b3 ?c3 ?_)
  case n3 => exact cell_sg (by simp) rfl
  case a3 => unfold maxLen; omega
  case b3 => omega
  case c3 => simp; omega
  intro v4 w4 hown4 hgrow4 _
  have HB4 : Hid (Below B w w4) := ((HB3.out.alloc hs3 _)).grown hgrow4 (by simp; omega) (fun k hk => (hown3.lt k hk).1)
  have hs4 : B ≤ w4.heap.size := Nat.le_trans hB HB4.out.size
  clear hgrow4 hown3
  go_wp2
  rw [rounds_succ]
  go_wp2
  go_ret
  refine ⟨v4, rfl, ?_, HB4.out⟩
  unfold Own
  simpa [fourL, List.append_assoc, Nat.add_assoc] using hown4

set_option maxRecDepth 100000 in
set_option maxHeartbeats 1000000 in
theorem four2 (x y z : Int) (w : World) (B : Nat) (v : Value) (l : List Int) (hx0 : 0 ≤ x) (hx1 : x < 256) (hy0 : 0 ≤ y) (hy1 : y < 256) (hq0 : 0 ≤ z) (hq1 : z < 256)
    (hown : w.ownsRow B 5 1 v l.length (l.map (Value.int .u8))) (hB : B ≤ w.heap.size) (hl : l.length ≤ 70368744170000) :
    Calls Tryd.prog 41 #[v, .agg #[.int .u8 x, .int .u8 y, .int .u8 z], .int .i64 2] w fun e w' => ∃ v', e = .returned v' ∧ Own w' B v' (l ++ fourL x y z 2) ∧ Below B w w' := by
  obtain ⟨j0, hi, hz0, hz1, hz2⟩ := info_parts Tryd.info5
  have i0 : ∀ w, (Instr.index 58 (.agg #[.int .u8 x, .int .u8 y, .int .u8 z]) (.int .i64 0)).run Tryd.prog w = .ok (.int .u8 x) w := fun _ => by kernel_rfl
  have i1 : ∀ w, (Instr.index 58 (.agg #[.int .u8 x, .int .u8 y, .int .u8 z]) (.int .i64 1)).run Tryd.prog w = .ok (.int .u8 y) w := fun _ => by kernel_rfl
  have i2 : ∀ w, (Instr.index 58 (.agg #[.int .u8 x, .int .u8 y, .int .u8 z]) (.int .i64 2)).run Tryd.prog w = .ok (.int .u8 z) w := fun _ => by kernel_rfl
  have e1 : bits .or .u32 0 x = x := by rw [u32_or8 0 x (by omega) (by omega) (by omega) (by omega) (by omega)]; omega
  have e2 := u32_or8 (x * 256) y (by omega) (by omega) (by omega) (by omega) (by omega)
  have e3 := u32_or8 ((x * 256 + y) * 256) z (by omega) (by omega) (by omega) (by omega) (by omega)
  go_enter Tryd.func41, Tryd.ntmps41
  go_wp2
  refine wp_loop_rounds 4 ?_; rw [rounds_succ]
  go_wp2
  rw [rounds_succ]
  go_wp2
  rw [rounds_succ]
  go_wp2
  rw [rounds_succ]
  go_wp2
  clear i0 i1 i2 e1 e2 e3
  refine wp_loop_rounds 5 ?_; rw [rounds_succ]
  go_wp2_with (at_builtin; refine wpList_append_own _ rfl (.tmp 30) (.tmp 39) 31 rfl B 5 j0 (.int .u8 0) 1 1 Tryd.underlying31 hi hz0 hz1 hz2 rfl (by decide) _ _ _ rfl ((hown.alloc _).alloc _) ⟨(w.heap.size + 1), 0, none⟩ 1 1 ([sgn (((x * 256 + y) * 256 + z) / 262144 % 64).toNat].map (Value.int .u8)) rfl rfl ?n0 (ints_one _) ?a0 ?b0 ?c0 ?_)
  case n0 => exact cell_sg (by simp) (sgn_get _ _)
  case a0 => unfold maxLen; omega
  case b0 => omega
  case c0 => simp; omega
  intro v1 w1 hown1 hgrow1 _
  have HB1 : Hid (Below B w w1) := ((((Below.refl B w).alloc hB _).alloc (by simp; omega) _)).grown hgrow1 (by simp; omega) (fun k hk => (hown.lt k hk).1)
  have hs1 : B ≤ w1.heap.size := Nat.le_trans hB HB1.out.size
  clear hgrow1
  go_wp2
  rw [rounds_succ]
  go_wp2_with (at_builtin; refine wpList_append_own _ rfl (.tmp 30) (.tmp 39) 31 rfl B 5 j0 (.int .u8 0) 1 1 Tryd.underlying31 hi hz0 hz1 hz2 rfl (by decide) _ _ _ rfl (hown1.alloc _) ⟨w1.heap.size, 0, none⟩ 1 1 ([sgn (((x * 256 + y) * 256 + z) / 4096 % 64).toNat].map (Value.int .u8)) rfl rfl ?n1 (ints_one _) ?a1 ?b1 ?c1 ?_)
  case n1 => exact cell_sg (by simp) (sgn_get _ _)
  case a1 => unfold maxLen; omega
  case b1 => omega
  case c1 => simp; omega
  intro v2 w2 hown2 hgrow2 _
  have HB2 : Hid (Below B w w2) := ((HB1.out.alloc hs1 _)).grown hgrow2 (by simp; omega) (fun k hk => (hown1.lt k hk).1)
  have hs2 : B ≤ w2.heap.size := Nat.le_trans hB HB2.out.size
  clear hgrow2 hown1
  go_wp2
  rw [rounds_succ]
  go_wp2_with (at_builtin; refine wpList_append_own _ rfl (.tmp 30) (.tmp 39) 31 rfl B 5 j0 (.int .u8 0) 1 1 Tryd.underlying31 hi hz0 hz1 hz2 rfl (by decide) _ _ _ rfl (hown2.alloc _) ⟨w2.heap.size, 0, none⟩ 1 1 ([sgn (((x * 256 + y) * 256 + z) / 64 % 64).toNat].map (Value.int .u8)) rfl rfl ?n2 (ints_one _) ?a2 ?b2 ?c2 ?_)
  case n2 => exact cell_sg (by simp) (sgn_get _ _)
  case a2 => unfold maxLen; omega
  case b2 => omega
  case c2 => simp; omega
  intro v3 w3 hown3 hgrow3 _
  have HB3 : Hid (Below B w w3) := ((HB2.out.alloc hs2 _)).grown hgrow3 (by simp; omega) (fun k hk => (hown2.lt k hk).1)
  have hs3 : B ≤ w3.heap.size := Nat.le_trans hB HB3.out.size
  clear hgrow3 hown2
  go_wp2
  rw [rounds_succ]
  go_wp2_with (at_builtin; refine wpList_append_own _ rfl (.tmp 27) (.tmp 28) 31 rfl B 5 j0 (.int .u8 0) 1 1 Tryd.underlying31 hi hz0 hz1 hz2 rfl (by decide) _ _ _ rfl (hown3.alloc _) ⟨w3.heap.size, 0, none⟩ 1 1 ([61].map (Value.int .u8)) rfl rfl ?n3 (ints_one _) ?a3 ?b3 ?c3 ?_)
  case n3 => exact cell_sg (by simp) rfl
  case a3 => unfold maxLen; omega
  case b3 => omega
  case c3 => simp; omega
  intro v4 w4 hown4 hgrow4 _
  have HB4 : Hid (Below B w w4) := ((HB3.out.alloc hs3 _)).grown hgrow4 (by simp; omega) (fun k hk => (hown3.lt k hk).1)
  have hs4 : B ≤ w4.heap.size := Nat.le_trans hB HB4.out.size
  clear hgrow4 hown3
  go_wp2
  rw [rounds_succ]
  go_wp2
  go_ret
  refine ⟨v4, rfl, ?_, HB4.out⟩
  unfold Own
  simpa [fourL, List.append_assoc, Nat.add_assoc] using hown4

set_option maxRecDepth 100000 in
set_option maxHeartbeats 1000000 in
theorem four3 (x y z : Int) (w : World) (B : Nat) (v : Value) (l : List Int) (hx0 : 0 ≤ x) (hx1 : x < 256) (hy0 : 0 ≤ y) (hy1 : y < 256) (hq0 : 0 ≤ z) (hq1 : z < 256)
    (hown : w.ownsRow B 5 1 v l.length (l.map (Value.int .u8))) (hB : B ≤ w.heap.size) (hl : l.length ≤ 70368744170000) :
    Calls Tryd.prog 41 #[v, .agg #[.int .u8 x, .int .u8 y, .int .u8 z], .int .i64 3] w fun e w' => ∃ v', e = .returned v' ∧ Own w' B v' (l ++ fourL x y z 3) ∧ Below B w w' := by
  obtain ⟨j0, hi, hz0, hz1, hz2⟩ := info_parts Tryd.info5
  have i0 : ∀ w, (Instr.index 58 (.agg #[.int .u8 x, .int .u8 y, .int .u8 z]) (.int .i64 0)).run Tryd.prog w = .ok (.int .u8 x) w := fun _ => by kernel_rfl
  have i1 : ∀ w, (Instr.index 58 (.agg #[.int .u8 x, .int .u8 y, .int .u8 z]) (.int .i64 1)).run Tryd.prog w = .ok (.int .u8 y) w := fun _ => by kernel_rfl
  have i2 : ∀ w, (Instr.index 58 (.agg #[.int .u8 x, .int .u8 y, .int .u8 z]) (.int .i64 2)).run Tryd.prog w = .ok (.int .u8 z) w := fun _ => by kernel_rfl
  have e1 : bits .or .u32 0 x = x := by rw [u32_or8 0 x (by omega) (by omega) (by omega) (by omega) (by omega)]; omega
  have e2 := u32_or8 (x * 256) y (by omega) (by omega) (by omega) (by omega) (by omega)
  have e3 := u32_or8 ((x * 256 + y) * 256) z (by omega) (by omega) (by omega) (by omega) (by omega)
  go_enter Tryd.func41, Tryd.ntmps41
  go_wp2
  refine wp_loop_rounds 4 ?_; rw [rounds_succ]
  go_wp2
  rw [rounds_succ]
  go_wp2
  rw [rounds_succ]
  go_wp2
  rw [rounds_succ]
  go_wp2
  clear i0 i1 i2 e1 e2 e3
  refine wp_loop_rounds 5 ?_; rw [rounds_succ]
  go_wp2_with (at_builtin; refine wpList_append_own _ rfl (.tmp 30) (.tmp 39) 31 rfl B 5 j0 (.int .u8 0) 1 1 Tryd.underlying31 hi hz0 hz1 hz2 rfl (by decide) _ _ _ rfl ((hown.alloc _).alloc _) ⟨(w.heap.size + 1), 0, none⟩ 1 1 ([sgn (((x * 256 + y) * 256 + z) / 262144 % 64).toNat].map (Value.int .u8)) rfl rfl ?n0 (ints_one _) ?a0 ?b0 ?c0 ?_)
  case n0 => exact cell_sg (by simp) (sgn_get _ _)
  case a0 => unfold maxLen; omega
  case b0 => omega
  case c0 => simp; omega
  intro v1 w1 hown1 hgrow1 _
  have HB1 : Hid (Below B w w1) := ((((Below.refl B w).alloc hB _).alloc (by simp; omega) _)).grown hgrow1 (by simp; omega) (fun k hk => (hown.lt k hk).1)
  have hs1 : B ≤ w1.heap.size := Nat.le_trans hB HB1.out.size
  clear hgrow1
  go_wp2
  rw [rounds_succ]
  go_wp2_with (at_builtin; refine wpList_append_own _ rfl (.tmp 30) (.tmp 39) 31 rfl B 5 j0 (.int .u8 0) 1 1 Tryd.underlying31 hi hz0 hz1 hz2 rfl (by decide) _ _ _ rfl (hown1.alloc _) ⟨w1.heap.size, 0, none⟩ 1 1 ([sgn (((x * 256 + y) * 256 + z) / 4096 % 64).toNat].map (Value.int .u8)) rfl rfl ?n1 (ints_one _) ?a1 ?b1 ?c1 ?_)
  case n1 => exact cell_sg (by simp) (sgn_get _ _)
  case a1 => unfold maxLen; omega
  case b1 => omega
  case c1 => simp; omega
  intro v2 w2 hown2 hgrow2 _
  have HB2 : Hid (Below B w w2) := ((HB1.out.alloc hs1 _)).grown hgrow2 (by simp; omega) (fun k hk => (hown1.lt k hk).1)
  have hs2 : B ≤ w2.heap.size := Nat.le_trans hB HB2.out.size
  clear hgrow2 hown1
  go_wp2
  rw [rounds_succ]
  go_wp2_with (at_builtin; refine wpList_append_own _ rfl (.tmp 30) (.tmp 39) 31 rfl B 5 j0 (.int .u8 0) 1 1 Tryd.underlying31 hi hz0 hz1 hz2 rfl (by decide) _ _ _ rfl (hown2.alloc _) ⟨w2.heap.size, 0, none⟩ 1 1 ([sgn (((x * 256 + y) * 256 + z) / 64 % 64).toNat].map (Value.int .u8)) rfl rfl ?n2 (ints_one _) ?a2 ?b2 ?c2 ?_)
  case n2 => exact cell_sg (by simp) (sgn_get _ _)
  case a2 => unfold maxLen; omega
  case b2 => omega
  case c2 => simp; omega
  intro v3 w3 hown3 hgrow3 _
  have HB3 : Hid (Below B w w3) := ((HB2.out.alloc hs2 _)).grown hgrow3 (by simp; omega) (fun k hk => (hown2.lt k hk).1)
  have hs3 : B ≤ w3.heap.size := Nat.le_trans hB HB3.out.size
  clear hgrow3 hown2
  go_wp2
  rw [rounds_succ]
  go_wp2_with (at_builtin; refine wpList_append_own _ rfl (.tmp 30) (.tmp 39) 31 rfl B 5 j0 (.int .u8 0) 1 1 Tryd.underlying31 hi hz0 hz1 hz2 rfl (by decide) _ _ _ rfl (hown3.alloc _) ⟨w3.heap.size, 0, none⟩ 1 1 ([sgn (z % 64).toNat].map (Value.int .u8)) rfl rfl ?n3 (ints_one _) ?a3 ?b3 ?c3 ?_)
  case n3 => exact cell_sg (by simp) (sgn_get _ _)
  case a3 => unfold maxLen; omega
  case b3 => omega
  case c3 => simp; omega
  intro v4 w4 hown4 hgrow4 _
  have HB4 : Hid (Below B w w4) := ((HB3.out.alloc hs3 _)).grown hgrow4 (by simp; omega) (fun k hk => (hown3.lt k hk).1)
  have hs4 : B ≤ w4.heap.size := Nat.le_trans hB HB4.out.size
  clear hgrow4 hown3
  go_wp2
  rw [rounds_succ]
  go_wp2
  go_ret
  refine ⟨v4, rfl, ?_, HB4.out⟩
  unfold Own
  simpa [fourL, List.append_assoc, Nat.add_assoc] using hown4
end Go.Proofs.YtnhbmekhmkkccaaDoor.Bt
