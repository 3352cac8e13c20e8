/-
  The answers of the document on lines: Points, Valid, Cut, Name, Text, Right, Plain, Write.
-/
import Derived.Test.YtenclgnkogmgiaaDoorUCutMath
import Derived.Test.YtenclgnkogmgiaaDoorBase
import Derived.Test.YtenclgnkogmgiaaDoorUPoints
import Derived.Test.YtenclgnkogmgiaaDoorUFlat
import Derived.Test.YtenclgnkogmgiaaDoorRd
import Derived.Test.YtenclgnkogmgiaaDoorWr
import Derived.Test.YtenclgnkogmgiaaDoorRm
import Derived.Test.YtenclgnkogmgiaaDoorLmath
import Derived.Test.YtenclgnkogmgiaaDoorGr
namespace Go.Proofs.YtenclgnkogmgiaaDoor.Ut
open Go.RowKit
set_option linter.unusedVariables false

theorem own_row' {w : World} {B : Nat} {e : TypeId} {k : IntKind} {v : Value} {l : List Int} (h : w.ownsRow B e 1 v l.length (l.map (Value.int k))) :
    ∃ a cap, v = .slice a l.length cap ∧ l.length ≤ cap ∧ cap ≤ maxLen ∧ RowK k w a l ∧ (a = none → cap = 0) := by
  rcases h.2 with ⟨rfl, hn⟩ | ⟨g, cap, cur, rfl, hb, hg, hn, hm, hs, ht⟩
  · exact ⟨none, 0, by rw [hn], by omega, by simp [maxLen], .inl (List.eq_nil_of_length_eq_zero hn), fun _ => rfl⟩
  · refine ⟨some ⟨g, 0, none⟩, cap, rfl, hn, hm, .inr ⟨g, 0, rfl, fun i hi => ?_⟩, by simp⟩
    have hc := h.cells (g := g) rfl i (.int k (l.getD i 0)) (by simp [List.getElem?_eq_getElem hi, List.getD_eq_getElem?_getD])
    rw [add_plain] at hc
    exact hc
theorem cellA (w : World) (x y : Value) : (w.alloc (.cells #[x, y] 56)).cell? ⟨w.heap.size, 0, none⟩ = some x := by simp
theorem cellB (w : World) (x y : Value) : (w.alloc (.cells #[x, y] 56)).cell? ⟨w.heap.size, 1, none⟩ = some y := by simp
theorem keep (w : World) (o : Obj) : Below w.heap.size w (w.alloc o) := (Below.refl _ _).alloc (Nat.le_refl _) _
theorem own_row {w : World} {B : Nat} {v : Value} {l : List Int} (h : Own w B v l) :
    ∃ a cap, v = .slice a l.length cap ∧ l.length ≤ cap ∧ cap ≤ maxLen ∧ Row w a l := by
  rcases h.2 with ⟨rfl, hn⟩ | ⟨g, cap, cur, rfl, hb, hg, hn, hm, hs, ht⟩
  · exact ⟨none, 0, by rw [hn], by omega, by simp [maxLen], .inl (List.eq_nil_of_length_eq_zero hn)⟩
  · refine ⟨some ⟨g, 0, none⟩, cap, rfl, hn, hm, .inr ⟨g, 0, rfl, fun i hi => ?_⟩⟩
    have hc := h.cells (g := g) rfl i (.int .u8 (l.getD i 0)) (by simp [List.getElem?_eq_getElem hi, List.getD_eq_getElem?_getD])
    rw [add_plain] at hc
    exact hc

end Go.Proofs.YtenclgnkogmgiaaDoor.Ut
namespace Go.Proofs.YtenclgnkogmgiaaDoor.Ut
open Go.RowKit
set_option linter.unusedVariables false

set_option maxRecDepth 100000 in
theorem ret_bool {a b : Bool} (h : a = b) : Ending.returned (.bool a) = .returned (.bool b) := by rw [h]
set_option maxRecDepth 100000 in
theorem rpoint_any (p : Int) (w : World) :
    Calls Tryd.prog 103 #[.int .i32 p] w fun e w' => e = .returned (.bool (ptB p)) ∧ w = w' := by
  rcases (show p < 0 ∨ (0 ≤ p ∧ p < 55296) ∨ (55296 ≤ p ∧ p ≤ 57343) ∨ (57343 < p ∧ p ≤ 1114111) ∨ 1114111 < p from by omega) with h | ⟨h, h'⟩ | ⟨h, h'⟩ | ⟨h, h'⟩ | h
  · have HP : Hid (ptB p = false) := by unfold Hid ptB; rw [decide_eq_false_iff_not]; omega
    go_enter Tryd.func103, Tryd.ntmps103
    go_wp2
    go_ret
    exact ⟨ret_bool (by first | exact HP.out.symm | (rw [HP.out]; simp; omega)), rfl⟩
  · have HP : Hid (ptB p = true) := by unfold Hid; rw [ptB_iff]; omega
    go_enter Tryd.func103, Tryd.ntmps103
    go_wp2
    go_ret
    exact ⟨ret_bool (by first | exact HP.out.symm | (rw [HP.out]; simp; omega)), rfl⟩
  · have HP : Hid (ptB p = false) := by unfold Hid ptB; rw [decide_eq_false_iff_not]; omega
    go_enter Tryd.func103, Tryd.ntmps103
    go_wp2
    go_ret
    exact ⟨ret_bool (by first | exact HP.out.symm | (rw [HP.out]; simp; omega)), rfl⟩
  · have HP : Hid (ptB p = true) := by unfold Hid; rw [ptB_iff]; omega
    go_enter Tryd.func103, Tryd.ntmps103
    go_wp2
    go_ret
    exact ⟨ret_bool (by first | exact HP.out.symm | (rw [HP.out]; simp; omega)), rfl⟩
  · have HP : Hid (ptB p = false) := by unfold Hid ptB; rw [decide_eq_false_iff_not]; omega
    go_enter Tryd.func103, Tryd.ntmps103
    go_wp2
    go_ret
    exact ⟨ret_bool (by first | exact HP.out.symm | (rw [HP.out]; simp; omega)), rfl⟩

set_option maxRecDepth 100000 in
theorem rput_no (p : Int) (w : World) (hp : ptB p = false) :
    Calls Tryd.prog 90 #[.int .i32 p] w fun e w' => e = .returned (.tuple #[.slice none 0 0, .int .i64 20]) ∧ w = w' := by
  have HP : Hid (ptB p = false) := hp
  clear hp
  go_enter Tryd.func90, Tryd.ntmps90
  go_wp2_with (go_at_call 103; refine (rpoint_any _ _).mono ?_; rintro e w' ⟨rfl, rfl⟩; rw [HP.out])
  go_ret2
  exact ⟨rfl, rfl⟩

set_option maxRecDepth 100000 in
set_option maxHeartbeats 1000000 in
theorem rput1 (p : Int) (w : World) (h0 : 0 ≤ p) (h1 : p < 128) (hp : ptB p = true) :
    Calls Tryd.prog 90 #[.int .i32 p] w fun e w' => ∃ v, e = .returned (.tuple #[v, .int .i64 0]) ∧ Own w' w.heap.size v (encZ p) ∧ Below w.heap.size w w' := by
  obtain ⟨i0, hi, hz0, hz1, hz2⟩ := info_parts Tryd.info5
  have HE : Hid (encZ p = [p]) := enc1 h1
  have HP : Hid (ptB p = true) := hp
  clear hp
  go_enter Tryd.func90, Tryd.ntmps90
  go_wp2_with (first
    | (go_at_call 103; refine (rpoint_any _ _).mono ?_; rintro e w' ⟨rfl, rfl⟩; rw [HP.out])
    | (at_builtin; refine wpList_append_own _ rfl _ _ 29 rfl w.heap.size 5 i0 (.int .u8 0) 1 1 Tryd.underlying29 hi hz0 hz1 hz2 rfl (by decide) _ _ _ rfl ((World.ownsRow_nil w w.heap.size 5 1).alloc _) ⟨w.heap.size, 0, none⟩ 1 1 ([p].map (Value.int .u8)) rfl rfl (cells_new _ _ _) (ints_one _) ?c3 ?c4 ?c5 ?_))
  case c3 => unfold maxLen; omega
  case c4 => omega
  case c5 => simp
  intro v' w1 hown' hgrow _
  go_wp2
  go_ret2
  exact ⟨v', rfl, by rw [HE.out]; exact own_snoc (l := []) hown', ((Below.refl _ w).alloc (Nat.le_refl _) _).grown hgrow (by simp) (by intro k hk; simp [Value.ownBlock] at hk)⟩

set_option maxRecDepth 100000 in
set_option maxHeartbeats 1000000 in
theorem rput2 (p : Int) (w : World) (h0 : 128 ≤ p) (h1 : p < 2048) (hp : ptB p = true) :
    Calls Tryd.prog 90 #[.int .i32 p] w fun e w' => ∃ v, e = .returned (.tuple #[v, .int .i64 0]) ∧ Own w' w.heap.size v (encZ p) ∧ Below w.heap.size w w' := by
  obtain ⟨i0, hi, hz0, hz1, hz2⟩ := info_parts Tryd.info5
  have HE : Hid (encZ p = [192 + p / 64, 128 + p % 64]) := enc2 h0 h1
  have HP : Hid (ptB p = true) := hp
  clear hp
  go_enter Tryd.func90, Tryd.ntmps90
  go_wp2_with (first
    | (go_at_call 103; refine (rpoint_any _ _).mono ?_; rintro e w' ⟨rfl, rfl⟩; rw [HP.out])
    | (at_builtin; refine wpList_append_own _ rfl _ _ 29 rfl w.heap.size 5 i0 (.int .u8 0) 1 1 Tryd.underlying29 hi hz0 hz1 hz2 rfl (by decide) _ _ _ rfl ((World.ownsRow_nil w w.heap.size 5 1).alloc _) ⟨w.heap.size, 0, none⟩ 2 2 ([192 + p / 64, 128 + p % 64].map (Value.int .u8)) rfl rfl (cells_new _ _ _) (ints_one _) ?c3 ?c4 ?c5 ?_))
  case c3 => unfold maxLen; omega
  case c4 => omega
  case c5 => simp
  intro v' w1 hown' hgrow _
  go_wp2
  go_ret2
  exact ⟨v', rfl, by rw [HE.out]; exact own_snoc (l := []) hown', ((Below.refl _ w).alloc (Nat.le_refl _) _).grown hgrow (by simp) (by intro k hk; simp [Value.ownBlock] at hk)⟩

set_option maxRecDepth 100000 in
set_option maxHeartbeats 1000000 in
theorem rput3 (p : Int) (w : World) (h0 : 2048 ≤ p) (h1 : p < 65536) (hp : ptB p = true) :
    Calls Tryd.prog 90 #[.int .i32 p] w fun e w' => ∃ v, e = .returned (.tuple #[v, .int .i64 0]) ∧ Own w' w.heap.size v (encZ p) ∧ Below w.heap.size w w' := by
  obtain ⟨i0, hi, hz0, hz1, hz2⟩ := info_parts Tryd.info5
  have HE : Hid (encZ p = [224 + p / 4096, 128 + p / 64 % 64, 128 + p % 64]) := enc3 h0 h1
  have HP : Hid (ptB p = true) := hp
  clear hp
  go_enter Tryd.func90, Tryd.ntmps90
  go_wp2_with (first
    | (go_at_call 103; refine (rpoint_any _ _).mono ?_; rintro e w' ⟨rfl, rfl⟩; rw [HP.out])
    | (at_builtin; refine wpList_append_own _ rfl _ _ 29 rfl w.heap.size 5 i0 (.int .u8 0) 1 1 Tryd.underlying29 hi hz0 hz1 hz2 rfl (by decide) _ _ _ rfl ((World.ownsRow_nil w w.heap.size 5 1).alloc _) ⟨w.heap.size, 0, none⟩ 3 3 ([224 + p / 4096, 128 + p / 64 % 64, 128 + p % 64].map (Value.int .u8)) rfl rfl (cells_new _ _ _) (ints_one _) ?c3 ?c4 ?c5 ?_))
  case c3 => unfold maxLen; omega
  case c4 => omega
  case c5 => simp
  intro v' w1 hown' hgrow _
  go_wp2
  go_ret2
  exact ⟨v', rfl, by rw [HE.out]; exact own_snoc (l := []) hown', ((Below.refl _ w).alloc (Nat.le_refl _) _).grown hgrow (by simp) (by intro k hk; simp [Value.ownBlock] at hk)⟩

set_option maxRecDepth 100000 in
set_option maxHeartbeats 1000000 in
theorem rput4 (p : Int) (w : World) (h0 : 65536 ≤ p) (h1 : p ≤ 1114111) (hp : ptB p = true) :
    Calls Tryd.prog 90 #[.int .i32 p] w fun e w' => ∃ v, e = .returned (.tuple #[v, .int .i64 0]) ∧ Own w' w.heap.size v (encZ p) ∧ Below w.heap.size w w' := by
  obtain ⟨i0, hi, hz0, hz1, hz2⟩ := info_parts Tryd.info5
  have HE : Hid (encZ p = [240 + p / 262144, 128 + p / 4096 % 64, 128 + p / 64 % 64, 128 + p % 64]) := enc4 h0
  have HP : Hid (ptB p = true) := hp
  clear hp
  go_enter Tryd.func90, Tryd.ntmps90
  go_wp2_with (first
    | (go_at_call 103; refine (rpoint_any _ _).mono ?_; rintro e w' ⟨rfl, rfl⟩; rw [HP.out])
    | (at_builtin; refine wpList_append_own _ rfl _ _ 29 rfl w.heap.size 5 i0 (.int .u8 0) 1 1 Tryd.underlying29 hi hz0 hz1 hz2 rfl (by decide) _ _ _ rfl ((World.ownsRow_nil w w.heap.size 5 1).alloc _) ⟨w.heap.size, 0, none⟩ 4 4 ([240 + p / 262144, 128 + p / 4096 % 64, 128 + p / 64 % 64, 128 + p % 64].map (Value.int .u8)) rfl rfl (cells_new _ _ _) (ints_one _) ?c3 ?c4 ?c5 ?_))
  case c3 => unfold maxLen; omega
  case c4 => omega
  case c5 => simp
  intro v' w1 hown' hgrow _
  go_wp2
  go_ret2
  exact ⟨v', rfl, by rw [HE.out]; exact own_snoc (l := []) hown', ((Below.refl _ w).alloc (Nat.le_refl _) _).grown hgrow (by simp) (by intro k hk; simp [Value.ownBlock] at hk)⟩

set_option maxRecDepth 100000 in
theorem rput_yes (p : Int) (w : World) (hp : ptB p = true) :
    Calls Tryd.prog 90 #[.int .i32 p] w fun e w' => ∃ v, e = .returned (.tuple #[v, .int .i64 0]) ∧ Own w' w.heap.size v (encZ p) ∧ Below w.heap.size w w' := by
  rcases pt_cases p hp with h | h | h | h
  · exact rput1 p w h.1 h.2 hp
  · exact rput2 p w h.1 h.2 hp
  · exact rput3 p w h.1 h.2 hp
  · exact rput4 p w h.1 h.2 hp
end Go.Proofs.YtenclgnkogmgiaaDoor.Ut
namespace Go.Proofs.YtenclgnkogmgiaaDoor.Ut
open Go.RowKit

/-- What n bytes at a text's front would be. -/
def candZ (l : List Int) (n : Nat) : Int :=
  if n = 2 then 64 * (l.getD 0 0 % 32) + l.getD 1 0 % 64
  else if n = 3 then 64 * (64 * (l.getD 0 0 % 16) + l.getD 1 0 % 64) + l.getD 2 0 % 64
  else 64 * (64 * (64 * (l.getD 0 0 % 8) + l.getD 1 0 % 64) + l.getD 2 0 % 64) + l.getD 3 0 % 64
def okB (l : List Int) (n : Nat) : Bool := ptB (candZ l n) && decide (encZ (candZ l n) = l.take n)

theorem ok_dec {l : List Int} {n : Nat} (hn : n ≤ l.length) (h : okB l n = true) : decZ l = some (candZ l n) ∧ (encZ (candZ l n)).length = n := by
  simp only [okB, Bool.and_eq_true, decide_eq_true_eq] at h
  constructor
  · have : l = encZ (candZ l n) ++ l.drop n := by rw [h.2, List.take_append_drop]
    rw [this]
    have hh := dec_enc h.1 (l.drop n)
    rwa [← this] at hh ⊢
  · rw [h.2, List.length_take]; omega

theorem dec_ok {l : List Int} (hl : Byt l) {p : Int} (h : decZ l = some p) (hc : 128 ≤ l.getD 0 0) :
    2 ≤ (encZ p).length ∧ (encZ p).length ≤ 4 ∧ (encZ p).length ≤ l.length ∧ okB l (encZ p).length = true ∧ candZ l (encZ p).length = p := by
  obtain ⟨hp, r, rfl⟩ := dec_sound hl h
  have hb := (ptB_iff p).1 hp
  have h4 := enc_len p
  have key : 2 ≤ (encZ p).length ∧ candZ (encZ p ++ r) (encZ p).length = p := by
    rcases pt_cases p hp with k | k | k | k
    · exfalso; rw [enc1 k.2] at hc; simp at hc; omega
    · rw [enc2 k.1 k.2]; simp [candZ]; omega
    · rw [enc3 k.1 k.2]; simp [candZ]; omega
    · rw [enc4 k.1]; simp [candZ]; omega
  refine ⟨key.1, h4.2, by simp, ?_, key.2⟩
  simp only [okB, key.2, hp, Bool.true_and, decide_eq_true_eq]
  simp
end Go.Proofs.YtenclgnkogmgiaaDoor.Ut
namespace Go.Proofs.YtenclgnkogmgiaaDoor.Ut
open Go.RowKit
set_option linter.unusedVariables false

/-- What Next tells. -/
def nxV (l : List Int) : Value :=
  match decZ l with
  | some p => .tuple #[.int .i32 p, .int .i64 (encZ p).length, .int .i64 0]
  | none => .tuple #[.int .i32 0, .int .i64 0, .int .i64 (if l = [] then 42 else 20)]
theorem nx_some {l : List Int} {p : Int} (h : decZ l = some p) : nxV l = .tuple #[.int .i32 p, .int .i64 (encZ p).length, .int .i64 0] := by simp [nxV, h]
theorem nx_none {l : List Int} (h : decZ l = none) (hl : l ≠ []) : nxV l = .tuple #[.int .i32 0, .int .i64 0, .int .i64 20] := by simp [nxV, h, hl]

theorem more_no {l : List Int} {n len : Nat} (h : ∀ m, 2 ≤ m → m < n → m ≤ len → okB l m = false) (h' : okB l n = false) : ∀ m, 2 ≤ m → m < n + 1 → m ≤ len → okB l m = false := by
  intro m h1 h2 h3
  rcases (show m < n ∨ m = n from by omega) with h4 | rfl
  · exact h m h1 h4 h3
  · exact h'
set_option maxRecDepth 100000 in
theorem rnext_nil (a : Option Addr) (cap : Nat) (w : World) :
    Calls Tryd.prog 72 #[.slice a 0 cap] w fun e w' => e = .returned (.tuple #[.int .i32 0, .int .i64 0, .int .i64 42]) ∧ w = w' := by
  go_enter Tryd.func72, Tryd.ntmps72
  go_wp2
  go_ret3
  exact ⟨rfl, rfl⟩

set_option maxRecDepth 100000 in
theorem rnext_one (b off len cap : Nat) (c : Int) (w : World) (hc0 : 0 ≤ c) (hc1 : c < 128) (hlen : 1 ≤ len) (c0 : w.cell? ⟨b, off, none⟩ = some (.int .u8 c)) :
    Calls Tryd.prog 72 #[.slice (some ⟨b, off, none⟩) len cap] w fun e w' => e = .returned (.tuple #[.int .i32 c, .int .i64 1, .int .i64 0]) ∧ w = w' := by
  go_enter Tryd.func72, Tryd.ntmps72
  go_wp2
  go_ret3
  exact ⟨rfl, rfl⟩

set_option maxRecDepth 100000 in
set_option maxHeartbeats 4000000 in
theorem rnext_more (b off len cap : Nat) (l : List Int) (w : World) (hl : l.length = len) (hlen : 1 ≤ len) (hcap : len ≤ cap) (hm : cap ≤ maxLen) (hb : Byt l) (hc : ∀ i, i < l.length → w.cell? ⟨b, off + i, none⟩ = some (.int .u8 (l.getD i 0))) (h128 : 128 ≤ l.getD 0 0) :
    Calls Tryd.prog 72 #[.slice (some ⟨b, off, none⟩) len cap] w fun e w' => e = .returned (nxV l) ∧ Below w.heap.size w w' := by
  unfold maxLen at hm
  have HL : Hid (l.length = len) := hl
  have HB : Hid (Byt l) := hb
  have hcb : ∀ i, 0 ≤ l.getD i 0 ∧ l.getD i 0 < 256 := by
    intro i
    rcases Nat.lt_or_ge i l.length with h | h
    · rw [List.getD_eq_getElem?_getD, List.getElem?_eq_getElem h]; exact hb _ (List.getElem_mem h)
    · rw [List.getD_eq_getElem?_getD, List.getElem?_eq_none h]; simp
  have HC : Hid (∀ i, i < l.length → w.cell? ⟨b, off + i, none⟩ = some (.int .u8 (l.getD i 0))) := hc
  have HCB : Hid (∀ i, 0 ≤ l.getD i 0 ∧ l.getD i 0 < 256) := hcb
  obtain ⟨c, hcd⟩ : ∃ c, c = l.getD 0 0 := ⟨_, rfl⟩
  have c0 : w.cell? ⟨b, off, none⟩ = some (.int .u8 c) := by have := hc 0 (by omega); rw [hcd]; exact this
  have hc0 : 128 ≤ c := by rw [hcd]; exact h128
  have hc1 : c < 256 := by rw [hcd]; exact (hcb 0).2
  have H0 : Hid (c = l.getD 0 0) := hcd
  have H128 : Hid (128 ≤ l.getD 0 0) := h128
  clear hl hb hc hcb hcd h128
  have hl0 : ((len : Int) == 0) = false := by rw [beq_eq_false_iff_ne]; omega
  go_enter Tryd.func72, Tryd.ntmps72
  go_wp2
  go_loopw [5] (fun v wr => ∃ n : Nat, v = .int .i64 n ∧ 2 ≤ n ∧ n ≤ 5 ∧ (∀ m, 2 ≤ m → m < n → m ≤ len → okB l m = false) ∧ Below w.heap.size w wr) (fun v _ => 5 - (intOf v).toNat)
  case atStart => exact ⟨2, rfl, by omega, by omega, fun m h1 h2 _ => by omega, Below.refl _ _⟩
  case round =>
    obtain ⟨n, rfl, hn2, hn5, hno, hbel⟩ := hrel
    have HNO : Hid (∀ m, 2 ≤ m → m < n → m ≤ len → okB l m = false) := hno
    have HW : Hid (Below w.heap.size w wr) := hbel
    have c0r : wr.cell? ⟨b, off, none⟩ = some (.int .u8 c) := by rw [hbel.cell (World.block_lt_of_cell? w _ c0)]; exact c0
    clear hno hbel
    by_cases hgo : n ≤ 4 ∧ n ≤ len
    · obtain ⟨hn4, hnl⟩ := hgo
      rcases (show n = 2 ∨ n = 3 ∨ n = 4 from by omega) with rfl | rfl | rfl
      · obtain ⟨d, hd⟩ : ∃ d, d = l.getD 1 0 := ⟨_, rfl⟩
        have c1 : wr.cell? ⟨b, off + 1, none⟩ = some (.int .u8 d) := by rw [HW.out.cell (World.block_lt_of_cell? w _ (HC.out 1 (by have := HL.out; omega))), HC.out 1 (by have := HL.out; omega), hd]
        have bd : 0 ≤ d ∧ d < 256 := by rw [hd]; exact HCB.out 1
        have H1 : Hid (d = l.getD 1 0) := hd
        clear hd
        have HV : Hid (candZ l 2 = 64 * (c % 32) + d % 64) := by unfold Hid candZ; rw [← H0.out, ← H1.out]; simp
        have HT : Hid ((l.take 2).length = 2) := by unfold Hid; rw [List.length_take]; have := HL.out; omega
        have hrow : Row wr (some ⟨b, off, none⟩) (l.take 2) := row_take 2 (row_below (.inr ⟨b, off, rfl, HC.out⟩) HW.out)
        have HR : Hid (Row wr (some ⟨b, off, none⟩) (l.take 2)) := hrow
        clear hrow
        by_cases hp : ptB (64 * (c % 32) + d % 64) = true
        · have HP : Hid (ptB (64 * (c % 32) + d % 64) = true) := hp
          clear hp
          go_wp2
          refine wp_loop_rounds 2 ?_; rw [rounds_succ]
          go_wp2
          rw [rounds_succ]
          go_wp2_with fail
          refine (rput_yes (64 * (c % 32) + d % 64) wr HP.out).mono ?_
          rintro e w1 ⟨v1, rfl, hown, hb1⟩
          obtain ⟨a1, cap1, rfl, hcap1, hm1, hrow1⟩ := own_row hown
          have HX1 : Hid (Below w.heap.size w w1) := HW.out.trans (hb1.mono HW.out.size)
          have k1 : ∀ j, (convert 29 9 (.slice a1 (encZ (64 * (c % 32) + d % 64)).length cap1)).run Tryd.prog (w1.drewN j) = .ok (.string (strOfNums (encZ (64 * (c % 32) + d % 64)))) (w1.drewN j) := fun j => conv_row _ _ rfl (row_drewN hrow1 j)
          have k2 : ∀ j, (convert 29 9 (.slice (some ⟨b, off, none⟩) 2 cap)).run Tryd.prog (w1.drewN j) = .ok (.string (strOfNums (l.take 2))) (w1.drewN j) := fun j => conv_row _ _ HT.out (row_drewN (row_below HR.out hb1) j)
          clear hown hrow1 hb1
          have hnc : (2 : Int) ≤ (cap : Int) := by omega
          by_cases he : encZ (64 * (c % 32) + d % 64) = l.take 2
          · have k3 : ((strOfNums (encZ (64 * (c % 32) + d % 64))).toList == (strOfNums (l.take 2)).toList) = true := by rw [he]; simp
            have HD : Hid (nxV l = .tuple #[.int .i32 (64 * (c % 32) + d % 64), .int .i64 2, .int .i64 0]) := by
              have ho : okB l 2 = true := by simp only [okB, HV.out, HP.out, he, Bool.true_and, decide_true]
              have hd := ok_dec (by have := HL.out; omega) ho
              unfold Hid; rw [nx_some hd.1, hd.2, HV.out]; rfl
            clear he
            go_wp2_with fail
            go_quiet (fail)
            go_wp2
            go_ret3
            exact ⟨by rw [HD.out]; rfl, below_drewN HX1.out _⟩
          · have k3 : ((strOfNums (encZ (64 * (c % 32) + d % 64))).toList == (strOfNums (l.take 2)).toList) = false := by
              rw [toList_str, toList_str, beq_eq_false_iff_ne]
              exact fun h => he (bytes_inj (enc_byte _ HP.out) (HB.out.take _) h)
            have HF : Hid (okB l 2 = false) := by unfold Hid okB; rw [HV.out, HP.out, decide_eq_false he]; rfl
            clear he
            go_wp2_with fail
            go_quiet (fail)
            have HX : Hid (Below w.heap.size w (w1.drewN nq)) := below_drewN HX1.out _
            clear k1 k2 k3
            go_wp2
            go_roundw
            case rel => first | exact ⟨2 + 1, by go_num, by omega, by omega, more_no HNO.out HF.out, HX.out⟩ | ((repeat apply Exists.intro); refine ⟨?_, rfl⟩; exact ⟨2 + 1, by go_num, by omega, by omega, more_no HNO.out HF.out, HX.out⟩)
            case measure => simp [intOf]
        · have HP : Hid (ptB (64 * (c % 32) + d % 64) = false) := by simpa [Hid] using hp
          have HF : Hid (okB l 2 = false) := by unfold Hid okB; rw [HV.out, HP.out]; rfl
          clear hp
          go_wp2
          refine wp_loop_rounds 2 ?_; rw [rounds_succ]
          go_wp2
          rw [rounds_succ]
          go_wp2_with fail
          refine (rput_no (64 * (c % 32) + d % 64) wr HP.out).mono ?_
          rintro e w1 ⟨rfl, rfl⟩
          go_wp2_with fail
          go_quiet (fail)
          have HX : Hid (Below w.heap.size w (wr.drewN nq)) := below_drewN HW.out _
          go_wp2
          go_roundw
          case rel => first | exact ⟨2 + 1, by go_num, by omega, by omega, more_no HNO.out HF.out, HX.out⟩ | ((repeat apply Exists.intro); refine ⟨?_, rfl⟩; exact ⟨2 + 1, by go_num, by omega, by omega, more_no HNO.out HF.out, HX.out⟩)
          case measure => simp [intOf]
      · obtain ⟨d, hd⟩ : ∃ d, d = l.getD 1 0 := ⟨_, rfl⟩
        have c1 : wr.cell? ⟨b, off + 1, none⟩ = some (.int .u8 d) := by rw [HW.out.cell (World.block_lt_of_cell? w _ (HC.out 1 (by have := HL.out; omega))), HC.out 1 (by have := HL.out; omega), hd]
        have bd : 0 ≤ d ∧ d < 256 := by rw [hd]; exact HCB.out 1
        have H1 : Hid (d = l.getD 1 0) := hd
        clear hd
        obtain ⟨g, hg⟩ : ∃ g, g = l.getD 2 0 := ⟨_, rfl⟩
        have c2 : wr.cell? ⟨b, off + 2, none⟩ = some (.int .u8 g) := by rw [HW.out.cell (World.block_lt_of_cell? w _ (HC.out 2 (by have := HL.out; omega))), HC.out 2 (by have := HL.out; omega), hg]
        have bg : 0 ≤ g ∧ g < 256 := by rw [hg]; exact HCB.out 2
        have H2 : Hid (g = l.getD 2 0) := hg
        clear hg
        have HV : Hid (candZ l 3 = 64 * (64 * (c % 16) + d % 64) + g % 64) := by unfold Hid candZ; rw [← H0.out, ← H1.out, ← H2.out]; simp
        have HT : Hid ((l.take 3).length = 3) := by unfold Hid; rw [List.length_take]; have := HL.out; omega
        have hrow : Row wr (some ⟨b, off, none⟩) (l.take 3) := row_take 3 (row_below (.inr ⟨b, off, rfl, HC.out⟩) HW.out)
        have HR : Hid (Row wr (some ⟨b, off, none⟩) (l.take 3)) := hrow
        clear hrow
        by_cases hp : ptB (64 * (64 * (c % 16) + d % 64) + g % 64) = true
        · have HP : Hid (ptB (64 * (64 * (c % 16) + d % 64) + g % 64) = true) := hp
          clear hp
          go_wp2
          refine wp_loop_rounds 3 ?_; rw [rounds_succ]
          go_wp2
          rw [rounds_succ]
          go_wp2
          rw [rounds_succ]
          go_wp2_with fail
          refine (rput_yes (64 * (64 * (c % 16) + d % 64) + g % 64) wr HP.out).mono ?_
          rintro e w1 ⟨v1, rfl, hown, hb1⟩
          obtain ⟨a1, cap1, rfl, hcap1, hm1, hrow1⟩ := own_row hown
          have HX1 : Hid (Below w.heap.size w w1) := HW.out.trans (hb1.mono HW.out.size)
          have k1 : ∀ j, (convert 29 9 (.slice a1 (encZ (64 * (64 * (c % 16) + d % 64) + g % 64)).length cap1)).run Tryd.prog (w1.drewN j) = .ok (.string (strOfNums (encZ (64 * (64 * (c % 16) + d % 64) + g % 64)))) (w1.drewN j) := fun j => conv_row _ _ rfl (row_drewN hrow1 j)
          have k2 : ∀ j, (convert 29 9 (.slice (some ⟨b, off, none⟩) 3 cap)).run Tryd.prog (w1.drewN j) = .ok (.string (strOfNums (l.take 3))) (w1.drewN j) := fun j => conv_row _ _ HT.out (row_drewN (row_below HR.out hb1) j)
          clear hown hrow1 hb1
          have hnc : (3 : Int) ≤ (cap : Int) := by omega
          by_cases he : encZ (64 * (64 * (c % 16) + d % 64) + g % 64) = l.take 3
          · have k3 : ((strOfNums (encZ (64 * (64 * (c % 16) + d % 64) + g % 64))).toList == (strOfNums (l.take 3)).toList) = true := by rw [he]; simp
            have HD : Hid (nxV l = .tuple #[.int .i32 (64 * (64 * (c % 16) + d % 64) + g % 64), .int .i64 3, .int .i64 0]) := by
              have ho : okB l 3 = true := by simp only [okB, HV.out, HP.out, he, Bool.true_and, decide_true]
              have hd := ok_dec (by have := HL.out; omega) ho
              unfold Hid; rw [nx_some hd.1, hd.2, HV.out]; rfl
            clear he
            go_wp2_with fail
            go_quiet (fail)
            go_wp2
            go_ret3
            exact ⟨by rw [HD.out]; rfl, below_drewN HX1.out _⟩
          · have k3 : ((strOfNums (encZ (64 * (64 * (c % 16) + d % 64) + g % 64))).toList == (strOfNums (l.take 3)).toList) = false := by
              rw [toList_str, toList_str, beq_eq_false_iff_ne]
              exact fun h => he (bytes_inj (enc_byte _ HP.out) (HB.out.take _) h)
            have HF : Hid (okB l 3 = false) := by unfold Hid okB; rw [HV.out, HP.out, decide_eq_false he]; rfl
            clear he
            go_wp2_with fail
            go_quiet (fail)
            have HX : Hid (Below w.heap.size w (w1.drewN nq)) := below_drewN HX1.out _
            clear k1 k2 k3
            go_wp2
            go_roundw
            case rel => first | exact ⟨3 + 1, by go_num, by omega, by omega, more_no HNO.out HF.out, HX.out⟩ | ((repeat apply Exists.intro); refine ⟨?_, rfl⟩; exact ⟨3 + 1, by go_num, by omega, by omega, more_no HNO.out HF.out, HX.out⟩)
            case measure => simp [intOf]
        · have HP : Hid (ptB (64 * (64 * (c % 16) + d % 64) + g % 64) = false) := by simpa [Hid] using hp
          have HF : Hid (okB l 3 = false) := by unfold Hid okB; rw [HV.out, HP.out]; rfl
          clear hp
          go_wp2
          refine wp_loop_rounds 3 ?_; rw [rounds_succ]
          go_wp2
          rw [rounds_succ]
          go_wp2
          rw [rounds_succ]
          go_wp2_with fail
          refine (rput_no (64 * (64 * (c % 16) + d % 64) + g % 64) wr HP.out).mono ?_
          rintro e w1 ⟨rfl, rfl⟩
          go_wp2_with fail
          go_quiet (fail)
          have HX : Hid (Below w.heap.size w (wr.drewN nq)) := below_drewN HW.out _
          go_wp2
          go_roundw
          case rel => first | exact ⟨3 + 1, by go_num, by omega, by omega, more_no HNO.out HF.out, HX.out⟩ | ((repeat apply Exists.intro); refine ⟨?_, rfl⟩; exact ⟨3 + 1, by go_num, by omega, by omega, more_no HNO.out HF.out, HX.out⟩)
          case measure => simp [intOf]
      · obtain ⟨d, hd⟩ : ∃ d, d = l.getD 1 0 := ⟨_, rfl⟩
        have c1 : wr.cell? ⟨b, off + 1, none⟩ = some (.int .u8 d) := by rw [HW.out.cell (World.block_lt_of_cell? w _ (HC.out 1 (by have := HL.out; omega))), HC.out 1 (by have := HL.out; omega), hd]
        have bd : 0 ≤ d ∧ d < 256 := by rw [hd]; exact HCB.out 1
        have H1 : Hid (d = l.getD 1 0) := hd
        clear hd
        obtain ⟨g, hg⟩ : ∃ g, g = l.getD 2 0 := ⟨_, rfl⟩
        have c2 : wr.cell? ⟨b, off + 2, none⟩ = some (.int .u8 g) := by rw [HW.out.cell (World.block_lt_of_cell? w _ (HC.out 2 (by have := HL.out; omega))), HC.out 2 (by have := HL.out; omega), hg]
        have bg : 0 ≤ g ∧ g < 256 := by rw [hg]; exact HCB.out 2
        have H2 : Hid (g = l.getD 2 0) := hg
        clear hg
        obtain ⟨k, hk⟩ : ∃ k, k = l.getD 3 0 := ⟨_, rfl⟩
        have c3 : wr.cell? ⟨b, off + 3, none⟩ = some (.int .u8 k) := by rw [HW.out.cell (World.block_lt_of_cell? w _ (HC.out 3 (by have := HL.out; omega))), HC.out 3 (by have := HL.out; omega), hk]
        have bk : 0 ≤ k ∧ k < 256 := by rw [hk]; exact HCB.out 3
        have H3 : Hid (k = l.getD 3 0) := hk
        clear hk
        have HV : Hid (candZ l 4 = 64 * (64 * (64 * (c % 8) + d % 64) + g % 64) + k % 64) := by unfold Hid candZ; rw [← H0.out, ← H1.out, ← H2.out, ← H3.out]; simp
        have HT : Hid ((l.take 4).length = 4) := by unfold Hid; rw [List.length_take]; have := HL.out; omega
        have hrow : Row wr (some ⟨b, off, none⟩) (l.take 4) := row_take 4 (row_below (.inr ⟨b, off, rfl, HC.out⟩) HW.out)
        have HR : Hid (Row wr (some ⟨b, off, none⟩) (l.take 4)) := hrow
        clear hrow
        by_cases hp : ptB (64 * (64 * (64 * (c % 8) + d % 64) + g % 64) + k % 64) = true
        · have HP : Hid (ptB (64 * (64 * (64 * (c % 8) + d % 64) + g % 64) + k % 64) = true) := hp
          clear hp
          go_wp2
          refine wp_loop_rounds 4 ?_; rw [rounds_succ]
          go_wp2
          rw [rounds_succ]
          go_wp2
          rw [rounds_succ]
          go_wp2
          rw [rounds_succ]
          go_wp2_with fail
          refine (rput_yes (64 * (64 * (64 * (c % 8) + d % 64) + g % 64) + k % 64) wr HP.out).mono ?_
          rintro e w1 ⟨v1, rfl, hown, hb1⟩
          obtain ⟨a1, cap1, rfl, hcap1, hm1, hrow1⟩ := own_row hown
          have HX1 : Hid (Below w.heap.size w w1) := HW.out.trans (hb1.mono HW.out.size)
          have k1 : ∀ j, (convert 29 9 (.slice a1 (encZ (64 * (64 * (64 * (c % 8) + d % 64) + g % 64) + k % 64)).length cap1)).run Tryd.prog (w1.drewN j) = .ok (.string (strOfNums (encZ (64 * (64 * (64 * (c % 8) + d % 64) + g % 64) + k % 64)))) (w1.drewN j) := fun j => conv_row _ _ rfl (row_drewN hrow1 j)
          have k2 : ∀ j, (convert 29 9 (.slice (some ⟨b, off, none⟩) 4 cap)).run Tryd.prog (w1.drewN j) = .ok (.string (strOfNums (l.take 4))) (w1.drewN j) := fun j => conv_row _ _ HT.out (row_drewN (row_below HR.out hb1) j)
          clear hown hrow1 hb1
          have hnc : (4 : Int) ≤ (cap : Int) := by omega
          by_cases he : encZ (64 * (64 * (64 * (c % 8) + d % 64) + g % 64) + k % 64) = l.take 4
          · have k3 : ((strOfNums (encZ (64 * (64 * (64 * (c % 8) + d % 64) + g % 64) + k % 64))).toList == (strOfNums (l.take 4)).toList) = true := by rw [he]; simp
            have HD : Hid (nxV l = .tuple #[.int .i32 (64 * (64 * (64 * (c % 8) + d % 64) + g % 64) + k % 64), .int .i64 4, .int .i64 0]) := by
              have ho : okB l 4 = true := by simp only [okB, HV.out, HP.out, he, Bool.true_and, decide_true]
              have hd := ok_dec (by have := HL.out; omega) ho
              unfold Hid; rw [nx_some hd.1, hd.2, HV.out]; rfl
            clear he
            go_wp2_with fail
            go_quiet (fail)
            go_wp2
            go_ret3
            exact ⟨by rw [HD.out]; rfl, below_drewN HX1.out _⟩
          · have k3 : ((strOfNums (encZ (64 * (64 * (64 * (c % 8) + d % 64) + g % 64) + k % 64))).toList == (strOfNums (l.take 4)).toList) = false := by
              rw [toList_str, toList_str, beq_eq_false_iff_ne]
              exact fun h => he (bytes_inj (enc_byte _ HP.out) (HB.out.take _) h)
            have HF : Hid (okB l 4 = false) := by unfold Hid okB; rw [HV.out, HP.out, decide_eq_false he]; rfl
            clear he
            go_wp2_with fail
            go_quiet (fail)
            have HX : Hid (Below w.heap.size w (w1.drewN nq)) := below_drewN HX1.out _
            clear k1 k2 k3
            go_wp2
            go_roundw
            case rel => first | exact ⟨4 + 1, by go_num, by omega, by omega, more_no HNO.out HF.out, HX.out⟩ | ((repeat apply Exists.intro); refine ⟨?_, rfl⟩; exact ⟨4 + 1, by go_num, by omega, by omega, more_no HNO.out HF.out, HX.out⟩)
            case measure => simp [intOf]
        · have HP : Hid (ptB (64 * (64 * (64 * (c % 8) + d % 64) + g % 64) + k % 64) = false) := by simpa [Hid] using hp
          have HF : Hid (okB l 4 = false) := by unfold Hid okB; rw [HV.out, HP.out]; rfl
          clear hp
          go_wp2
          refine wp_loop_rounds 4 ?_; rw [rounds_succ]
          go_wp2
          rw [rounds_succ]
          go_wp2
          rw [rounds_succ]
          go_wp2
          rw [rounds_succ]
          go_wp2_with fail
          refine (rput_no (64 * (64 * (64 * (c % 8) + d % 64) + g % 64) + k % 64) wr HP.out).mono ?_
          rintro e w1 ⟨rfl, rfl⟩
          go_wp2_with fail
          go_quiet (fail)
          have HX : Hid (Below w.heap.size w (wr.drewN nq)) := below_drewN HW.out _
          go_wp2
          go_roundw
          case rel => first | exact ⟨4 + 1, by go_num, by omega, by omega, more_no HNO.out HF.out, HX.out⟩ | ((repeat apply Exists.intro); refine ⟨?_, rfl⟩; exact ⟨4 + 1, by go_num, by omega, by omega, more_no HNO.out HF.out, HX.out⟩)
          case measure => simp [intOf]
    · have HE : Hid (nxV l = .tuple #[.int .i32 0, .int .i64 0, .int .i64 20]) := by
        have hd : decZ l = none := by
          cases hd : decZ l with
          | none => rfl
          | some p =>
            exfalso
            obtain ⟨q1, q2, q3, q4, q5⟩ := dec_ok HB.out hd H128.out
            have hl := HL.out
            have := HNO.out _ q1 (by omega) (by omega)
            rw [q4] at this; cases this
        exact nx_none hd (by intro h; have hl := HL.out; rw [h] at hl; simp at hl; omega)
      rcases (show (n ≤ 4 ∧ len < n) ∨ 4 < n from by omega) with ⟨h1, h2⟩ | h1
      · clear hgo
        go_wp2
        go_ret3
        exact ⟨by rw [HE.out]; rfl, HW.out⟩
      · clear hgo
        go_wp2
        go_ret3
        exact ⟨by rw [HE.out]; rfl, HW.out⟩

set_option maxRecDepth 100000 in
theorem rnext_some (a : Option Addr) (len cap : Nat) (l : List Int) (p : Int) (w : World) (hlen : l.length = len) (hl : Byt l) (hcap : len ≤ cap) (hm : cap ≤ maxLen) (hr : Row w a l) (hd : decZ l = some p) :
    Calls Tryd.prog 72 #[.slice a len cap] w fun e w' => e = .returned (.tuple #[.int .i32 p, .int .i64 (encZ p).length, .int .i64 0]) ∧ Below w.heap.size w w' := by
  rcases hr with rfl | ⟨b, off, rfl, hc⟩
  · simp [decZ] at hd
  · cases l with
    | nil => simp [decZ] at hd
    | cons c r =>
      have h1 : 1 ≤ len := by simp at hlen; omega
      by_cases h : c < 128
      · have c0 := hc 0 (by simp)
        simp only [Nat.add_zero, List.getD_cons_zero] at c0
        have he : c = p := by simp [decZ, h] at hd; exact hd
        subst he
        rw [enc1 h]
        exact (rnext_one b off len cap c w hl.head.1 h h1 c0).mono fun e w' ⟨he, hw⟩ => ⟨he, hw ▸ Below.refl _ _⟩
      · exact (rnext_more b off len cap (c :: r) w hlen h1 hcap hm hl hc (by simp; omega)).mono fun e w' ⟨he, hw⟩ => ⟨by rw [he, nx_some hd], hw⟩

set_option maxRecDepth 100000 in
theorem rnext_none (a : Option Addr) (len cap : Nat) (l : List Int) (w : World) (hlen : l.length = len) (hl : Byt l) (hcap : len ≤ cap) (hm : cap ≤ maxLen) (hr : Row w a l) (hne : l ≠ []) (hd : decZ l = none) :
    Calls Tryd.prog 72 #[.slice a len cap] w fun e w' => e = .returned (.tuple #[.int .i32 0, .int .i64 0, .int .i64 20]) ∧ Below w.heap.size w w' := by
  rcases hr with rfl | ⟨b, off, rfl, hc⟩
  · exact absurd rfl hne
  · cases l with
    | nil => exact absurd rfl hne
    | cons c r =>
      have h1 : 1 ≤ len := by simp at hlen; omega
      by_cases h : c < 128
      · simp [decZ, h] at hd
      · exact (rnext_more b off len cap (c :: r) w hlen h1 hcap hm hl hc (by simp; omega)).mono fun e w' ⟨he, hw⟩ => ⟨by rw [he, nx_none hd hne], hw⟩
end Go.Proofs.YtenclgnkogmgiaaDoor.Ut
namespace Go.Proofs.YtenclgnkogmgiaaDoor.Ut
open Go.RowKit
set_option linter.unusedVariables false

theorem own_keep {w w' : World} {B : Nat} {e : TypeId} {size : Nat} {v : Value} {n : Nat} {xs : List Value} (h : w.ownsRow B e size v n xs) (hb : Below w.heap.size w w') : w'.ownsRow B e size v n xs := by
  refine ⟨h.1, ?_⟩
  rcases h.2 with h | ⟨g, cap, cur, h1, h2, h3, h4⟩
  · exact .inl h
  · exact .inr ⟨g, cap, cur, h1, h2, (hb.block g (Array.getElem?_eq_some_iff.1 h3).1).trans h3, h4⟩

set_option maxRecDepth 100000 in
set_option maxHeartbeats 2000000 in
theorem rpoints_yes (a : Option Addr) (len cap : Nat) (ps : List Int) (w : World) (hlen : (flat ps).length = len) (hps : AllPt ps) (hcap : len ≤ cap) (hm : cap ≤ maxLen) (hsmall : len ≤ 100000000) (hrow : Row w a (flat ps)) :
    Calls Tryd.prog 56 #[.slice a len cap] w fun e w' => ∃ v, e = .returned (.tuple #[v, .agg #[.int .i64 0, .int .i64 0]]) ∧ Own32 w' w.heap.size v ps ∧ Below w.heap.size w w' := by
  obtain ⟨i0, hi, hz0, hz1, hz2⟩ := info_parts Tryd.info21
  have hm' := hm
  unfold maxLen at hm'
  have HL : Hid ((flat ps).length = len) := hlen
  have HW : Hid (Row w a (flat ps)) := hrow
  clear hlen hrow
  go_enter Tryd.func56, Tryd.ntmps56
  go_wp2
  go_loopw [4, 5] (fun v i wr => ∃ qs rs : List Int, ps = qs ++ rs ∧ i = .int .i64 (flat qs).length ∧ Own32 wr (w.heap.size + 1) v qs ∧ Below (w.heap.size + 1) (w.alloc (.cells #[.int .i64 0, .int .i64 0] 56)) wr) (fun _ i _ => len - (intOf i).toNat)
  case atStart => exact ⟨[], ps, rfl, rfl, World.ownsRow_nil _ _ _ _, Below.refl _ _⟩
  case round =>
    obtain ⟨qs, rs, hqr, rfl, hown, hbel⟩ := hrel
    have hlen := HL.out
    obtain ⟨k, hk⟩ : ∃ k, k = (flat qs).length := ⟨_, rfl⟩
    rw [← hk]
    have HK : Hid (k = (flat qs).length) := hk
    have HQ : Hid (ps = qs ++ rs) := hqr
    have HB : Hid (Below (w.heap.size + 1) (w.alloc (.cells #[.int .i64 0, .int .i64 0] 56)) wr) := hbel
    have HO : Hid (Below w.heap.size w wr) := ((Below.refl _ w).alloc (Nat.le_refl _) _).trans (hbel.mono (Nat.le_succ _))
    have hsz : w.heap.size + 1 ≤ wr.heap.size := by have := hbel.size; simpa using this
    cases rs with
    | nil =>
      have hkl : k = len := by rw [hk, ← hlen, hqr, List.append_nil]
      obtain rfl := hkl
      have c0 : wr.cell? ⟨w.heap.size, 0, none⟩ = some (.int .i64 0) := by rw [hbel.cell (by simp)]; simp
      have c1 : wr.cell? ⟨w.heap.size, 1, none⟩ = some (.int .i64 0) := by rw [hbel.cell (by simp)]; simp
      have f0 : wr.frozen? ⟨w.heap.size, 0, none⟩ = false := by rw [hbel.frozen (by simp)]; simp
      have f1 : wr.frozen? ⟨w.heap.size, 1, none⟩ = false := by rw [hbel.frozen (by simp)]; simp
      clear hk hqr hbel hlen
      have HV : Hid (Own32 wr (w.heap.size + 1) u4 ps) := by unfold Hid; rw [HQ.out, List.append_nil]; exact hown
      clear hown
      go_wp2
      exact bodyPost_ret (v := .tuple #[u4, .agg #[.int .i64 0, .int .i64 0]]) (by simp [results, Tryd.results56, go_sem, c0, c1]) rfl
        ⟨u4, rfl, own_base (Nat.le_succ _) (ownsRow_setCell_below (ownsRow_setCell_below HV.out (by simp) _) (by simp) _), (HO.out.setCell (by simp) _).setCell (by simp) _⟩
    | cons p rs =>
      have hpl := enc_len p
      have hkl : k + (encZ p).length ≤ len := by
        rw [← hlen, hqr, flat_append, flat_cons, List.length_append, List.length_append]; omega
      have HD : Hid ((flat ps).drop k = flat (p :: rs) ++ []) := by
        unfold Hid; rw [hqr, flat_append, hk, List.drop_left, List.append_nil]
      have HR : Hid (Row wr (Option.map (fun x => x.add k) a) (flat (p :: rs) ++ [])) := by
        have := row_drop (n := k) (cap := cap) (row_below HW.out HO.out) (by omega)
        rw [if_neg (by omega), HD.out] at this
        exact this
      have HN : Hid ((flat (p :: rs) ++ []).length = len - k) := by unfold Hid; rw [← HD.out, List.length_drop, hlen]
      have HA : Hid (AllPt (p :: rs)) := by rw [hqr] at hps; exact hps.right
      have hq2 : qs.length ≤ k := by rw [hk]; exact flat_ge qs
      clear hk hqr hbel hlen
      unfold Own32 at hown
      go_wp2_with (first
        | (go_at_call 72; refine (rnext_some (Option.map (fun x => x.add k) a) (len - k) (cap - k) (flat (p :: rs) ++ []) p wr HN.out ((flat_byt HA.out).append (by intro x hx; simp at hx)) (by omega) (by unfold maxLen; omega) HR.out (dec_flat HA.out)).mono ?_; rintro e wn ⟨rfl, hbn⟩)
        | (at_builtin; refine wpList_append_own _ rfl _ _ 73 rfl (w.heap.size + 1) 21 i0 (.int .i32 0) 1 4 Tryd.underlying73 hi hz0 hz1 hz2 rfl (by decide) _ _ _ rfl ((own_keep hown hbn).alloc _) ⟨wn.heap.size, 0, none⟩ 1 1 ([p].map (Value.int .i32)) rfl rfl (cells_new _ _ _) (ints_one32 _) ?c3 ?c4 ?c5 ?_))
      case c3 => unfold maxLen; omega
      case c4 => omega
      case c5 => have := hbn.size; simp; omega
      intro v' w1 hown' hgrow _
      have HO' : Hid (Own32 w1 (w.heap.size + 1) v' (qs ++ [p])) := by
        unfold Hid Own32; rw [List.length_append, List.map_append]; exact hown'
      have HB' : Hid (Below (w.heap.size + 1) (w.alloc (.cells #[.int .i64 0, .int .i64 0] 56)) w1) :=
        ((HB.out.trans (hbn.mono hsz)).alloc (by have := hbn.size; omega) _).grown hgrow (by have := hbn.size; simp; omega) (fun k hk => (hown.lt k hk).1)
      clear hown' hgrow hown hbn
      go_wp2
      go_roundw
      case rel => exact ⟨qs ++ [p], rs, by rw [HQ.out]; simp, by rw [flat_append, List.length_append, ← HK.out]; simp [flat], HO'.out, HB'.out⟩
      case measure => simp [intOf]; omega


set_option maxRecDepth 100000 in
set_option maxHeartbeats 2000000 in
theorem rpoints_no (a : Option Addr) (len cap : Nat) (ps r : List Int) (w : World) (hlen : (flat ps ++ r).length = len) (hps : AllPt ps) (hr : decZ r = none) (hne : r ≠ []) (hb : Byt r) (hcap : len ≤ cap) (hm : cap ≤ maxLen) (hsmall : len ≤ 100000000) (hrow : Row w a (flat ps ++ r)) :
    Calls Tryd.prog 56 #[.slice a len cap] w fun e w' => e = .returned (.tuple #[.slice none 0 0, .agg #[.int .i64 (flat ps).length, .int .i64 20]]) ∧ Below w.heap.size w w' := by
  obtain ⟨i0, hi, hz0, hz1, hz2⟩ := info_parts Tryd.info21
  have hm' := hm
  unfold maxLen at hm'
  have HL : Hid ((flat ps ++ r).length = len) := hlen
  have HW : Hid (Row w a (flat ps ++ r)) := hrow
  have HZ : Hid (decZ r = none) := hr
  have HE : Hid (r ≠ []) := hne
  clear hlen hrow hr hne
  go_enter Tryd.func56, Tryd.ntmps56
  go_wp2
  go_loopw [4, 5] (fun v i wr => ∃ qs rs : List Int, ps = qs ++ rs ∧ i = .int .i64 (flat qs).length ∧ Own32 wr (w.heap.size + 1) v qs ∧ Below (w.heap.size + 1) (w.alloc (.cells #[.int .i64 0, .int .i64 0] 56)) wr) (fun _ i _ => len - (intOf i).toNat)
  case atStart => exact ⟨[], ps, rfl, rfl, World.ownsRow_nil _ _ _ _, Below.refl _ _⟩
  case round =>
    obtain ⟨qs, rs, hqr, rfl, hown, hbel⟩ := hrel
    have hlen := HL.out
    obtain ⟨k, hk⟩ : ∃ k, k = (flat qs).length := ⟨_, rfl⟩
    rw [← hk]
    have HK : Hid (k = (flat qs).length) := hk
    have HQ : Hid (ps = qs ++ rs) := hqr
    have HB : Hid (Below (w.heap.size + 1) (w.alloc (.cells #[.int .i64 0, .int .i64 0] 56)) wr) := hbel
    have HO : Hid (Below w.heap.size w wr) := ((Below.refl _ w).alloc (Nat.le_refl _) _).trans (hbel.mono (Nat.le_succ _))
    have hsz : w.heap.size + 1 ≤ wr.heap.size := by have := hbel.size; simpa using this
    cases rs with
    | nil =>
      have hpq : ps = qs := by rw [hqr, List.append_nil]
      have hrp : 0 < r.length := List.length_pos_iff.2 HE.out
      have hkl : k + r.length = len := by rw [hk, ← hlen, hpq, List.length_append]
      have hkl' : k < len := by omega
      have HKP : Hid (k = (flat ps).length) := by unfold Hid; rw [hpq]; exact hk
      have HR : Hid (Row wr (Option.map (fun x => x.add k) a) r) := by
        have := row_drop (n := k) (cap := cap) (row_below HW.out HO.out) (by omega)
        rw [if_neg (by omega), HKP.out, List.drop_left] at this
        unfold Hid; rw [HKP.out]; exact this
      have HN : Hid (r.length = len - k) := by unfold Hid; omega
      clear hk hqr hbel hlen hpq hkl
      go_wp2_with fail
      refine (rnext_none (Option.map (fun x => x.add k) a) (len - k) (cap - k) r wr HN.out hb (by omega) (by unfold maxLen; omega) HR.out HE.out HZ.out).mono ?_
      rintro e wn ⟨rfl, hbn⟩
      have hbw := HB.out
      have c0 : wn.cell? ⟨w.heap.size, 0, none⟩ = some (.int .i64 0) := by rw [hbn.cell (by simp; omega), hbw.cell (by simp)]; simp
      have c1 : wn.cell? ⟨w.heap.size, 1, none⟩ = some (.int .i64 0) := by rw [hbn.cell (by simp; omega), hbw.cell (by simp)]; simp
      have f0 : wn.frozen? ⟨w.heap.size, 0, none⟩ = false := by rw [hbn.frozen (by simp; omega), hbw.frozen (by simp)]; simp
      have f1 : wn.frozen? ⟨w.heap.size, 1, none⟩ = false := by rw [hbn.frozen (by simp; omega), hbw.frozen (by simp)]; simp
      have hsn : w.heap.size + 1 ≤ wn.heap.size := by have := hbn.size; omega
      have HON : Hid (Below w.heap.size w wn) := HO.out.trans (hbn.mono HO.out.size)
      clear hbn hbw
      go_wp2
      exact bodyPost_ret (v := .tuple #[.slice none 0 0, .agg #[.int .i64 (flat ps).length, .int .i64 20]]) (by rw [← HKP.out]; simp [results, Tryd.results56, go_sem, c0, c1]) rfl
        ⟨rfl, (HON.out.setCell (by simp) _).setCell (by simp) _⟩
    | cons p rs =>
      have hpl := enc_len p
      have hkl : k + (encZ p).length ≤ len := by
        rw [← hlen, hqr, flat_append, flat_cons, List.length_append, List.length_append, List.length_append]; omega
      have HD : Hid ((flat ps ++ r).drop k = flat (p :: rs) ++ r) := by
        unfold Hid; rw [hqr, flat_append, hk, List.append_assoc, List.drop_left]
      have HR : Hid (Row wr (Option.map (fun x => x.add k) a) (flat (p :: rs) ++ r)) := by
        have := row_drop (n := k) (cap := cap) (row_below HW.out HO.out) (by omega)
        rw [if_neg (by omega), HD.out] at this
        exact this
      have HN : Hid ((flat (p :: rs) ++ r).length = len - k) := by unfold Hid; rw [← HD.out, List.length_drop, hlen]
      have HA : Hid (AllPt (p :: rs)) := by rw [hqr] at hps; exact hps.right
      have hq2 : qs.length ≤ k := by rw [hk]; exact flat_ge qs
      clear hk hqr hbel hlen
      unfold Own32 at hown
      go_wp2_with (first
        | (go_at_call 72; refine (rnext_some (Option.map (fun x => x.add k) a) (len - k) (cap - k) (flat (p :: rs) ++ r) p wr HN.out ((flat_byt HA.out).append hb) (by omega) (by unfold maxLen; omega) HR.out (dec_flat HA.out)).mono ?_; rintro e wn ⟨rfl, hbn⟩)
        | (at_builtin; refine wpList_append_own _ rfl _ _ 73 rfl (w.heap.size + 1) 21 i0 (.int .i32 0) 1 4 Tryd.underlying73 hi hz0 hz1 hz2 rfl (by decide) _ _ _ rfl ((own_keep hown hbn).alloc _) ⟨wn.heap.size, 0, none⟩ 1 1 ([p].map (Value.int .i32)) rfl rfl (cells_new _ _ _) (ints_one32 _) ?c3 ?c4 ?c5 ?_))
      case c3 => unfold maxLen; omega
      case c4 => omega
      case c5 => have := hbn.size; simp; omega
      intro v' w1 hown' hgrow _
      have HO' : Hid (Own32 w1 (w.heap.size + 1) v' (qs ++ [p])) := by
        unfold Hid Own32; rw [List.length_append, List.map_append]; exact hown'
      have HB' : Hid (Below (w.heap.size + 1) (w.alloc (.cells #[.int .i64 0, .int .i64 0] 56)) w1) :=
        ((HB.out.trans (hbn.mono hsz)).alloc (by have := hbn.size; omega) _).grown hgrow (by have := hbn.size; simp; omega) (fun k hk => (hown.lt k hk).1)
      clear hown' hgrow hown hbn
      go_wp2
      go_roundw
      case rel => exact ⟨qs ++ [p], rs, by rw [HQ.out]; simp, by rw [flat_append, List.length_append, ← HK.out]; simp [flat], HO'.out, HB'.out⟩
      case measure => simp [intOf]; omega

end Go.Proofs.YtenclgnkogmgiaaDoor.Ut
namespace Go.Proofs.YtenclgnkogmgiaaDoor.Ut
open Go.RowKit
set_option linter.unusedVariables false

set_option maxRecDepth 100000 in
set_option maxHeartbeats 1000000 in
theorem rvalid_yes (a : Option Addr) (len cap : Nat) (ps : List Int) (w : World) (hlen : (flat ps).length = len) (hps : AllPt ps) (hcap : len ≤ cap) (hm : cap ≤ maxLen) (hsmall : len ≤ 100000000) (hrow : Row w a (flat ps)) :
    Calls Tryd.prog 71 #[.slice a len cap] w fun e w' => e = .returned (.bool true) ∧ Below w.heap.size w w' := by
  have HL : Hid ((flat ps).length = len) := hlen
  clear hlen
  go_enter Tryd.func71, Tryd.ntmps71
  go_wp2_with fail
  refine (rpoints_yes a len cap ps w HL.out hps hcap hm hsmall hrow).mono ?_
  rintro e w1 ⟨v, rfl, hown, hb1⟩
  obtain ⟨a1, cap1, rfl, hcap1, hm1, hrow1, hn1⟩ := own_row' hown
  have HB1 : Hid (Below w.heap.size w w1) := hb1
  clear hown hb1 hrow1 hn1
  go_wp2
  go_ret
  exact ⟨rfl, HB1.out.alloc HB1.out.size _⟩
set_option maxRecDepth 100000 in
set_option maxHeartbeats 1000000 in
theorem rvalid_no (a : Option Addr) (len cap : Nat) (ps r : List Int) (w : World) (hlen : (flat ps ++ r).length = len) (hps : AllPt ps) (hr : decZ r = none) (hne : r ≠ []) (hb : Byt r) (hcap : len ≤ cap) (hm : cap ≤ maxLen) (hsmall : len ≤ 100000000) (hrow : Row w a (flat ps ++ r)) :
    Calls Tryd.prog 71 #[.slice a len cap] w fun e w' => e = .returned (.bool false) ∧ Below w.heap.size w w' := by
  have HL : Hid ((flat ps ++ r).length = len) := hlen
  have HR : Hid (decZ r = none) := hr
  clear hlen hr
  go_enter Tryd.func71, Tryd.ntmps71
  go_wp2_with fail
  refine (rpoints_no a len cap ps r w HL.out hps HR.out hne hb hcap hm hsmall hrow).mono ?_
  rintro e w1 ⟨rfl, hb1⟩
  have HB1 : Hid (Below w.heap.size w w1) := hb1
  clear hb1
  go_wp2
  go_ret
  exact ⟨rfl, HB1.out.alloc HB1.out.size _⟩

end Go.Proofs.YtenclgnkogmgiaaDoor.Ut
namespace Go.Proofs.YtenclgnkogmgiaaDoor.Ut
open Go.RowKit
set_option linter.unusedVariables false

theorem cut_at {ps qs rs : List Int} {m : Nat} (hps : AllPt ps) (hm : m ≤ (flat ps).length) (h1 : ps = qs ++ rs) (h2 : (flat qs).length ≤ m) (h3 : rs = [] ∨ ∃ r rs', rs = r :: rs' ∧ m < (flat qs).length + (encZ r).length) :
    cutZ (flat ps) m = (flat qs).length := by
  refine cut_eq h2 ?_ ?_
  · intro j hj1 hj2
    rcases h3 with rfl | ⟨r, rs', rfl, h4⟩
    · rw [h1, List.append_nil] at hm; omega
    · have hr : ptB r = true := hps r (by rw [h1]; simp)
      have hq : flat ps = flat qs ++ (encZ r ++ flat rs') := by rw [h1, flat_append, flat_cons]
      refine ⟨by rw [hq, List.length_append, List.length_append]; omega, ?_⟩
      rw [hq, getD_right _ _ _ (by omega), getD_left _ _ _ (by omega)]
      exact enc_con hr _ (by omega) (by omega)
  · rintro ⟨h5, h6⟩
    have hq : flat ps = flat qs ++ flat rs := by rw [h1, flat_append]
    have hrs : AllPt rs := by rw [h1] at hps; exact hps.right
    rw [hq, getD_right _ _ _ (Nat.le_refl _), Nat.sub_self] at h6
    exact front_byte hrs (by rw [hq, List.length_append] at h5; omega) h6

set_option maxRecDepth 100000 in
set_option maxHeartbeats 2000000 in
theorem rcut_yes (a : Option Addr) (len cap : Nat) (most : Int) (ps : List Int) (w : World) (h0 : 0 ≤ most) (h63 : most ≤ 9223372036854775807) (hlen : (flat ps).length = len) (hps : AllPt ps) (hcap : len ≤ cap) (hm : cap ≤ maxLen) (hsmall : len ≤ 100000000) (hrow : Row w a (flat ps)) :
    Calls Tryd.prog 48 #[.slice a len cap, .int .i64 most] w fun e w' => e = .returned (.int .i64 (cutZ (flat ps) (m0Z most len))) ∧ Below w.heap.size w w' := by
  have HL : Hid ((flat ps).length = len) := hlen
  have HW : Hid (Row w a (flat ps)) := hrow
  have HPS : Hid (AllPt ps) := hps
  have hm' := hm
  unfold maxLen at hm'
  clear hlen hrow
  go_enter Tryd.func48, Tryd.ntmps48
  go_wp2_with fail
  refine (rvalid_yes a len cap ps w HL.out hps hcap hm hsmall HW.out).mono ?_
  rintro e w1 ⟨rfl, hb1⟩
  have HB1 : Hid (Below w.heap.size w w1) := hb1
  clear hb1
  go_wp2
  go_loopw [5] (fun i wr => ∃ qs rs : List Int, ps = qs ++ rs ∧ i = .int .i64 (flat qs).length ∧ ((flat qs).length : Int) ≤ most ∧ Below w.heap.size w wr) (fun i _ => len - (intOf i).toNat)
  case atStart => exact ⟨[], ps, rfl, rfl, by simpa [flat] using h0, HB1.out⟩
  case round =>
    obtain ⟨qs, rs, hqr, rfl, hle, hbel⟩ := hrel
    have hlen := HL.out
    obtain ⟨k, hk⟩ : ∃ k, k = (flat qs).length := ⟨_, rfl⟩
    rw [← hk] at hle ⊢
    have HK : Hid (k = (flat qs).length) := hk
    have HQ : Hid (ps = qs ++ rs) := hqr
    have HB : Hid (Below w.heap.size w wr) := hbel
    cases rs with
    | nil =>
      have hkl : k = len := by rw [hk, ← hlen, hqr, List.append_nil]
      have HF : Hid (cutZ (flat ps) (m0Z most len) = k) := by
        unfold Hid
        rw [hk]
        refine cut_at hps ?_ hqr ?_ (.inl rfl)
        · unfold m0Z; omega
        · unfold m0Z; omega
      obtain rfl := hkl
      clear hk hqr hbel hlen
      go_wp2
      go_ret
      exact ⟨ret_int (by rw [HF.out]), HB.out⟩
    | cons p rs =>
      have hpl := enc_len p
      have hkl : k + (encZ p).length ≤ len := by
        rw [← hlen, hqr, flat_append, flat_cons, List.length_append, List.length_append]; omega
      have HD : Hid ((flat ps).drop k = flat (p :: rs) ++ []) := by
        unfold Hid; rw [hqr, flat_append, hk, List.drop_left, List.append_nil]
      have HR : Hid (Row wr (Option.map (fun x => x.add k) a) (flat (p :: rs) ++ [])) := by
        have := row_drop (n := k) (cap := cap) (row_below HW.out HB.out) (by omega)
        rw [if_neg (by omega), HD.out] at this
        exact this
      have HN : Hid ((flat (p :: rs) ++ []).length = len - k) := by unfold Hid; rw [← HD.out, List.length_drop, hlen]
      have HA : Hid (AllPt (p :: rs)) := by rw [hqr] at hps; exact hps.right
      have HF : Hid (most < k + (encZ p).length → cutZ (flat ps) (m0Z most len) = k) := by
        intro hlt
        rw [hk]
        refine cut_at hps ?_ hqr ?_ (.inr ⟨p, rs, rfl, ?_⟩)
        · unfold m0Z; omega
        · unfold m0Z; omega
        · unfold m0Z; omega
      clear hk hqr hbel hlen
      by_cases hlt : most < k + (encZ p).length
      · have HG := HF.out hlt
        have HG' : Hid (cutZ (flat ps) (m0Z most len) = k) := HG
        clear HG
        go_wp2_with fail
        refine (rnext_some (Option.map (fun x => x.add k) a) (len - k) (cap - k) (flat (p :: rs) ++ []) p wr HN.out ((flat_byt HA.out).append (by intro x hx; simp at hx)) (by omega) (by unfold maxLen; omega) HR.out (dec_flat HA.out)).mono ?_
        rintro e wn ⟨rfl, hbn⟩
        have HBn : Hid (Below w.heap.size w wn) := HB.out.trans (hbn.mono HB.out.size)
        clear hbn
        go_wp2
        go_ret
        exact ⟨ret_int (by rw [HG'.out]), HBn.out⟩
      · go_wp2_with fail
        refine (rnext_some (Option.map (fun x => x.add k) a) (len - k) (cap - k) (flat (p :: rs) ++ []) p wr HN.out ((flat_byt HA.out).append (by intro x hx; simp at hx)) (by omega) (by unfold maxLen; omega) HR.out (dec_flat HA.out)).mono ?_
        rintro e wn ⟨rfl, hbn⟩
        have HBn : Hid (Below w.heap.size w wn) := HB.out.trans (hbn.mono HB.out.size)
        clear hbn
        go_wp2
        go_roundw
        case rel => exact ⟨qs ++ [p], rs, by rw [HQ.out]; simp, by rw [flat_append, List.length_append, ← HK.out]; simp [flat], by rw [flat_append, List.length_append, ← HK.out]; simp [flat]; omega, HBn.out⟩
        case measure => simp [intOf]; omega
end Go.Proofs.YtenclgnkogmgiaaDoor.Ut
namespace Go.Proofs.YtenclgnkogmgiaaDoor
open Go.RowKit
set_option linter.unusedVariables false

def hasZ (t : List Int) : List Int → Bool
  | [] => decide (t = [])
  | c :: r => decide ((c :: r).take t.length = t) || hasZ t r
theorem has_short {t : List Int} : ∀ {l : List Int}, l.length < t.length → hasZ t l = false
  | [], h => by
    rw [hasZ, decide_eq_false]
    rintro rfl; simp at h
  | c :: r, h => by
    rw [hasZ, has_short (l := r) (by simp at h; omega), Bool.or_false, decide_eq_false]
    intro e
    have := congrArg List.length e
    rw [List.length_take] at this
    omega
theorem has_one (a : Int) : ∀ l : List Int, hasZ [a] l = decide (a ∈ l)
  | [] => by simp [hasZ]
  | c :: r => by
    rw [hasZ, has_one a r]
    simp only [List.length_cons, List.length_nil, Nat.zero_add, List.take_succ_cons, List.take_zero, List.cons.injEq, and_true, List.mem_cons]
    rw [Bool.eq_iff_iff]
    simp only [Bool.or_eq_true, decide_eq_true_eq]
    constructor
    · rintro (h | h)
      · exact .inl h.symm
      · exact .inr h
    · rintro (h | h)
      · exact .inl h.symm
      · exact .inr h
set_option maxHeartbeats 2000000 in
set_option maxRecDepth 100000 in
theorem has_any (s t : ByteArray) (w : World) (hs : s.size ≤ 1000000000) (h1 : 1 ≤ t.size) (h2 : t.size ≤ 10) :
    Calls Tryd.prog 70 #[.string s, .string t] w fun e w' => e = .returned (.bool (hasZ (nums t) (nums s))) ∧ w = w' := by
  go_enter Tryd.func70, Tryd.ntmps70
  go_wp2
  go_loopw [5] (fun i wr => ∃ k : Nat, i = .int .i64 k ∧ k ≤ s.size ∧ hasZ (nums t) ((nums s).drop k) = hasZ (nums t) (nums s) ∧ w = wr) (fun i _ => s.size - (intOf i).toNat)
  case atStart => exact ⟨0, rfl, by omega, by rw [List.drop_zero], rfl⟩
  case round =>
    obtain ⟨k, rfl, hk, hh, rfl⟩ := hrel
    have HH : Hid (hasZ (nums t) ((nums s).drop k) = hasZ (nums t) (nums s)) := hh
    clear hh
    by_cases hlt : k + t.size ≤ s.size
    · have hl1 : decide ((k : Int) + (t.size : Int) ≤ (s.size : Int)) = true := decide_eq_true (by omega)
      have k0 : (0 : Int) ≤ (k : Int) := by omega
      have k1 : (k : Int) ≤ (k : Int) + (t.size : Int) := by omega
      have k2 : (k : Int) + (t.size : Int) ≤ (s.size : Int) := by omega
      have k3 : ((k : Int) + (t.size : Int)).toNat = k + t.size := by omega
      have hen := eq_nums (s.extract k (k + t.size)) t
      rw [nums_extract, show k + t.size - k = t.size by omega] at hen
      have hd := nums_drop s k (by omega)
      have hlen := nums_len t
      by_cases hq : ((nums s).drop k).take t.size = nums t
      · have HT : Hid (hasZ (nums t) (nums s) = true) := by
          unfold Hid; rw [← HH.out, hd, hasZ, ← hd, hlen, decide_eq_true hq, Bool.true_or]
        rw [decide_eq_true hq] at hen
        have hen2 : (s.extract k (k + t.size)).toList = t.toList := by simpa using hen
        clear hd hq hlen
        go_wp2
        go_ret
        exact ⟨ret_bool HT.out.symm, by first | trivial | rfl⟩
      · have HT : Hid (hasZ (nums t) ((nums s).drop (k + 1)) = hasZ (nums t) (nums s)) := by
          unfold Hid; rw [← HH.out]
          conv => rhs; rw [hd, hasZ, ← hd, hlen, decide_eq_false hq, Bool.false_or]
        rw [decide_eq_false hq] at hen
        have hen2 : ¬ (s.extract k (k + t.size)).toList = t.toList := by simpa using hen
        clear hd hq hlen
        go_wp2
        go_roundw
        case rel => exact ⟨k + 1, by go_num, by omega, HT.out, by first | trivial | rfl⟩
        case measure => simp [intOf]; omega
    · have hl1 : decide ((k : Int) + (t.size : Int) ≤ (s.size : Int)) = false := decide_eq_false (by omega)
      have HT : Hid (hasZ (nums t) (nums s) = false) := by
        unfold Hid; rw [← HH.out, has_short (by rw [List.length_drop, nums_len, nums_len]; omega)]
      go_wp2
      go_ret
      exact ⟨ret_bool HT.out.symm, by first | trivial | rfl⟩
end Go.Proofs.YtenclgnkogmgiaaDoor
namespace Go.Proofs.YtenclgnkogmgiaaDoor
open Go.RowKit
set_option linter.unusedVariables false

set_option maxRecDepth 100000 in
theorem rvalid_row (a : Option Addr) (len cap : Nat) (l : List Int) (w : World) (hlen : l.length = len) (hl : Byt l) (hcap : len ≤ cap) (hm : cap ≤ maxLen) (hs : len ≤ 100000000) (hrow : Row w a l) :
    Calls Tryd.prog 71 #[.slice a len cap] w fun e w' => e = .returned (.bool (validZ l)) ∧ Below w.heap.size w w' := by
  obtain ⟨ps, r, hps, rfl, hr⟩ := Ut.split_ex l hl
  have hb : Ut.Byt r := fun x hx => hl x (by simp [hx])
  have he : validZ (Ut.flat ps ++ r) = r.isEmpty := valid_flat ps r _ hps hr (Nat.le_refl _)
  rw [he]
  by_cases h0 : r = []
  · subst h0
    rw [List.append_nil] at hlen hrow
    exact Ut.rvalid_yes a len cap ps w hlen hps hcap hm hs hrow
  · have := Ut.rvalid_no a len cap ps r w hlen hps hr h0 hb hcap hm hs hrow
    rw [show r.isEmpty = false from List.isEmpty_eq_false_iff.2 h0]
    exact this
set_option maxHeartbeats 8000000 in
set_option maxRecDepth 100000 in
theorem rname_any (s : ByteArray) (w : World) (hs : s.size ≤ 1000000000) : Calls Tryd.prog 49 #[.string s] w fun e w' => e = .returned (.bool (nameZ (nums s))) ∧ w = w' := by
  go_enter Tryd.func49, Tryd.ntmps49
  go_wp2
  go_loopw [3] (fun i wr => ∃ k : Nat, i = .int .i64 k ∧ k ≤ s.size ∧ ((nums s).take k).all upC = true ∧ w = wr) (fun i _ => s.size - (intOf i).toNat)
  case atStart => exact ⟨0, rfl, by omega, rfl, rfl⟩
  case round =>
    obtain ⟨k, rfl, hk, hall, rfl⟩ := hrel
    have HA : Hid (((nums s).take k).all upC = true) := hall
    clear hall
    by_cases hlt : k < s.size
    · have hc1 : (s[k].toNat : Int) < 256 := by have := s[k].toNat_lt; omega
      have hc0 : (0 : Int) ≤ (s[k].toNat : Int) := by omega
      have HT : Hid ((nums s)[k]? = some (s[k].toNat : Int)) := nums_at s k hlt
      obtain ⟨c, hc⟩ : ∃ c : Int, ((s[k]'hlt).toNat : Int) = c := ⟨_, rfl⟩
      rw [hc] at HT hc1 hc0
      by_cases q0 : c ≤ 44
      · have g0 : 0 ≤ c := by omega
        have hcc : upC c = false := by unfold upC; simp; omega
        have a1 : decide ((65 : Int) ≤ c) = false := by simp; omega
        have a2 : decide (c ≤ 90) = true := by simp; omega
        have a3 : decide ((48 : Int) ≤ c) = false := by simp; omega
        have a4 : decide (c ≤ 57) = true := by simp; omega
        have a5 : (c == 45) = false := by simp; omega
        have HZ : Hid (nameZ (nums s) = false) := by unfold Hid nameZ; rw [all_bad upC _ k c HT.out hcc]; simp
        go_wp2
        go_ret
        exact ⟨ret_bool HZ.out.symm, rfl⟩
      · skip
        by_cases q1 : c ≤ 45
        · have g0 : 45 ≤ c := by omega
          have hcc : upC c = true := by unfold upC; simp; omega
          have a1 : decide ((65 : Int) ≤ c) = false := by simp; omega
          have a2 : decide (c ≤ 90) = true := by simp; omega
          have a3 : decide ((48 : Int) ≤ c) = false := by simp; omega
          have a4 : decide (c ≤ 57) = true := by simp; omega
          have a5 : (c == 45) = true := by simp; omega
          go_wp2
          go_roundw
          case rel => exact ⟨k + 1, by go_num, by omega, by rw [all_take upC _ k c HT.out, HA.out, hcc]; rfl, by first | rfl | trivial⟩
          case measure => simp [intOf]; omega
        · skip
          by_cases q2 : c ≤ 47
          · have g0 : 46 ≤ c := by omega
            have hcc : upC c = false := by unfold upC; simp; omega
            have a1 : decide ((65 : Int) ≤ c) = false := by simp; omega
            have a2 : decide (c ≤ 90) = true := by simp; omega
            have a3 : decide ((48 : Int) ≤ c) = false := by simp; omega
            have a4 : decide (c ≤ 57) = true := by simp; omega
            have a5 : (c == 45) = false := by simp; omega
            have HZ : Hid (nameZ (nums s) = false) := by unfold Hid nameZ; rw [all_bad upC _ k c HT.out hcc]; simp
            go_wp2
            go_ret
            exact ⟨ret_bool HZ.out.symm, rfl⟩
          · skip
            by_cases q3 : c ≤ 57
            · have g0 : 48 ≤ c := by omega
              have hcc : upC c = true := by unfold upC; simp; omega
              have a1 : decide ((65 : Int) ≤ c) = false := by simp; omega
              have a2 : decide (c ≤ 90) = true := by simp; omega
              have a3 : decide ((48 : Int) ≤ c) = true := by simp; omega
              have a4 : decide (c ≤ 57) = true := by simp; omega
              have a5 : (c == 45) = false := by simp; omega
              go_wp2
              go_roundw
              case rel => exact ⟨k + 1, by go_num, by omega, by rw [all_take upC _ k c HT.out, HA.out, hcc]; rfl, by first | rfl | trivial⟩
              case measure => simp [intOf]; omega
            · skip
              by_cases q4 : c ≤ 64
              · have g0 : 58 ≤ c := by omega
                have hcc : upC c = false := by unfold upC; simp; omega
                have a1 : decide ((65 : Int) ≤ c) = false := by simp; omega
                have a2 : decide (c ≤ 90) = true := by simp; omega
                have a3 : decide ((48 : Int) ≤ c) = true := by simp; omega
                have a4 : decide (c ≤ 57) = false := by simp; omega
                have a5 : (c == 45) = false := by simp; omega
                have HZ : Hid (nameZ (nums s) = false) := by unfold Hid nameZ; rw [all_bad upC _ k c HT.out hcc]; simp
                go_wp2
                go_ret
                exact ⟨ret_bool HZ.out.symm, rfl⟩
              · skip
                by_cases q5 : c ≤ 90
                · have g0 : 65 ≤ c := by omega
                  have hcc : upC c = true := by unfold upC; simp; omega
                  have a1 : decide ((65 : Int) ≤ c) = true := by simp; omega
                  have a2 : decide (c ≤ 90) = true := by simp; omega
                  have a3 : decide ((48 : Int) ≤ c) = true := by simp; omega
                  have a4 : decide (c ≤ 57) = false := by simp; omega
                  have a5 : (c == 45) = false := by simp; omega
                  go_wp2
                  go_roundw
                  case rel => exact ⟨k + 1, by go_num, by omega, by rw [all_take upC _ k c HT.out, HA.out, hcc]; rfl, by first | rfl | trivial⟩
                  case measure => simp [intOf]; omega
                · skip
                  have g0 : 91 ≤ c := by omega
                  have hcc : upC c = false := by unfold upC; simp; omega
                  have a1 : decide ((65 : Int) ≤ c) = true := by simp; omega
                  have a2 : decide (c ≤ 90) = false := by simp; omega
                  have a3 : decide ((48 : Int) ≤ c) = true := by simp; omega
                  have a4 : decide (c ≤ 57) = false := by simp; omega
                  have a5 : (c == 45) = false := by simp; omega
                  have HZ : Hid (nameZ (nums s) = false) := by unfold Hid nameZ; rw [all_bad upC _ k c HT.out hcc]; simp
                  go_wp2
                  go_ret
                  exact ⟨ret_bool HZ.out.symm, rfl⟩
    · obtain rfl : k = s.size := by omega
      have HE : Hid (nameZ (nums s) = (decide (1 ≤ s.size) && decide (s.size ≤ 64))) := by
        have := HA.out
        rw [List.take_of_length_le (by rw [nums_len]; exact Nat.le_refl _)] at this
        unfold Hid nameZ; rw [this, nums_len, Bool.and_true]
      by_cases h1 : 1 ≤ s.size
      · have d1 : decide ((1 : Int) ≤ (s.size : Int)) = true := by simp; omega
        by_cases h2 : s.size ≤ 64
        · have d2 : decide ((s.size : Int) ≤ 64) = true := by simp; omega
          have HZ : Hid (nameZ (nums s) = true) := by unfold Hid; rw [HE.out, decide_eq_true h1, decide_eq_true h2]; rfl
          go_wp2
          go_ret
          exact ⟨ret_bool HZ.out.symm, rfl⟩
        · have d2 : decide ((s.size : Int) ≤ 64) = false := by simp; omega
          have HZ : Hid (nameZ (nums s) = false) := by unfold Hid; rw [HE.out, decide_eq_false h2, Bool.and_false]
          go_wp2
          go_ret
          exact ⟨ret_bool HZ.out.symm, rfl⟩
      · have d1 : decide ((1 : Int) ≤ (s.size : Int)) = false := by simp; omega
        have HZ : Hid (nameZ (nums s) = false) := by unfold Hid; rw [HE.out, decide_eq_false h1]; rfl
        go_wp2
        go_ret
        exact ⟨ret_bool HZ.out.symm, rfl⟩
set_option maxHeartbeats 8000000 in
set_option maxRecDepth 100000 in
theorem rtext_any (s : ByteArray) (w : World) (hs : s.size ≤ 100000000) : Calls Tryd.prog 69 #[.string s] w fun e w' => e = .returned (.bool (textZ (nums s))) ∧ Below w.heap.size w w' := by
  go_enter Tryd.func69, Tryd.ntmps69
  go_wp2
  go_loopw [3] (fun i wr => ∃ k : Nat, i = .int .i64 k ∧ k ≤ s.size ∧ ((nums s).take k).all txC = true ∧ w = wr) (fun i _ => s.size - (intOf i).toNat)
  case atStart => exact ⟨0, rfl, by omega, rfl, rfl⟩
  case round =>
    obtain ⟨k, rfl, hk, hall, rfl⟩ := hrel
    have HA : Hid (((nums s).take k).all txC = true) := hall
    clear hall
    by_cases hlt : k < s.size
    · have hc1 : (s[k].toNat : Int) < 256 := by have := s[k].toNat_lt; omega
      have hc0 : (0 : Int) ≤ (s[k].toNat : Int) := by omega
      have HT : Hid ((nums s)[k]? = some (s[k].toNat : Int)) := nums_at s k hlt
      obtain ⟨c, hc⟩ : ∃ c : Int, ((s[k]'hlt).toNat : Int) = c := ⟨_, rfl⟩
      rw [hc] at HT hc1 hc0
      by_cases q0 : c = 127
      · have a0 : (c == 127) = true := by simp [q0]
        have hcc : txC c = false := by rw [q0]; rfl
        have HZ : Hid (textZ (nums s) = false) := by unfold Hid textZ; rw [all_bad txC _ k c HT.out hcc]; rfl
        clear q0
        go_wp2
        go_ret
        exact ⟨ret_bool HZ.out.symm, Below.refl _ _⟩
      · have a0 : (c == 127) = false := by simp [q0]
        by_cases q1 : c < 32
        · have a1 : decide (c < 32) = true := by simp; omega
          by_cases q2 : c = 9
          · have a2 : (c != 9) = false := by simp [q2]
            have hcc : txC c = true := by rw [q2]; rfl
            clear q2
            go_wp2
            go_roundw
            case rel => exact ⟨k + 1, by go_num, by omega, by rw [all_take txC _ k c HT.out, HA.out, hcc]; rfl, by first | rfl | trivial⟩
            case measure => simp [intOf]; omega
          · have a2 : (c != 9) = true := by simp [q2]
            have hcc : txC c = false := by unfold txC; simp; omega
            have HZ : Hid (textZ (nums s) = false) := by unfold Hid textZ; rw [all_bad txC _ k c HT.out hcc]; rfl
            go_wp2
            go_ret
            exact ⟨ret_bool HZ.out.symm, Below.refl _ _⟩
        · have a1 : decide (c < 32) = false := by simp; omega
          have hcc : txC c = true := by unfold txC; simp; omega
          go_wp2
          go_roundw
          case rel => exact ⟨k + 1, by go_num, by omega, by rw [all_take txC _ k c HT.out, HA.out, hcc]; rfl, by first | rfl | trivial⟩
          case measure => simp [intOf]; omega
    · obtain rfl : k = s.size := by omega
      have HE : Hid (textZ (nums s) = validZ (nums s)) := by
        have := HA.out
        rw [List.take_of_length_le (by rw [nums_len]; exact Nat.le_refl _)] at this
        unfold Hid textZ; rw [this]; rfl
      obtain ⟨cap, w1, kc, hcap, hmx, hrow, hb, hfz⟩ := conv_bytes s w (by unfold maxLen; omega)
      have HB : Hid (Below w.heap.size w w1) := hb
      have hv := rvalid_row _ s.size cap (nums s) w1 (nums_len s) (nums_byt s) hcap (by unfold maxLen; omega) (by omega) hrow
      clear hrow hb hfz
      go_wp2_with (go_at_call 71; refine hv.mono ?_; rintro e w2 ⟨rfl, hb2⟩)
      go_ret
      exact ⟨ret_bool HE.out.symm, HB.out.trans (hb2.mono HB.out.size)⟩
end Go.Proofs.YtenclgnkogmgiaaDoor
namespace Go.Proofs.YtenclgnkogmgiaaDoor
open Go.RowKit
set_option linter.unusedVariables false

set_option maxRecDepth 100000 in
theorem has34 (s : ByteArray) (w : World) (hs : s.size ≤ 1000000000) : Calls Tryd.prog 70 #[.string s, .string ⟨#[34]⟩] w fun e w' => e = .returned (.bool ((nums s).contains 34)) ∧ w = w' := by
  have h := has_any s ⟨#[34]⟩ w hs (by decide) (by decide)
  have e : nums ⟨#[34]⟩ = [34] := rfl
  rw [e, has_one] at h
  have e2 : (nums s).contains 34 = decide ((34 : Int) ∈ nums s) := by simp
  rw [e2]; exact h
theorem parZ_eq (pn pv : ByteArray) : parZ (nums pn, nums pv) = (nameZ (nums pn) && (decide (pv.size ≤ 256) && textZ (nums pv)) && !(nums pv).contains 34) := by
  unfold parZ; simp only; rw [nums_len]
set_option maxHeartbeats 8000000 in
set_option maxRecDepth 100000 in
theorem rright_any (nm vl : ByteArray) (a : Option Addr) (n c : Nat) (fs : List (ByteArray × ByteArray)) (w : World) (hn : fs.length = n) (hr : FRow w a fs) (h1 : nm.size ≤ 100000000) (h2 : vl.size ≤ 100000000) (hf : ∀ f ∈ fs, f.1.size ≤ 100000000 ∧ f.2.size ≤ 100000000) :
    Calls Tryd.prog 46 #[lineV nm vl a n c] w fun e w' => e = .returned (.bool (rightZ ⟨nums nm, numsP fs, nums vl⟩)) ∧ Below w.heap.size w w' := by
  have HR : Hid (FRow w a fs) := hr
  have HF : Hid (∀ f ∈ fs, f.1.size ≤ 100000000 ∧ f.2.size ≤ 100000000) := hf
  have HL : Hid ((numsP fs).length = n) := by unfold Hid numsP; rw [List.length_map]; exact hn
  have HVL : Hid ((nums vl).length = vl.size) := nums_len vl
  unfold lineV
  clear hr hf
  have hbx := heap_alloc_last w (.cells #[.string nm, .slice a n c, .string vl] 39)
  have hbk := keep w (.cells #[.string nm, .slice a n c, .string vl] 39)
  cases hty : nameZ (nums nm) with
  | false =>
    have HZ : Hid (rightZ ⟨nums nm, numsP fs, nums vl⟩ = false) := by unfold Hid rightZ; simp only; rw [hty]; rfl
    clear hbx
    go_enter Tryd.func46, Tryd.ntmps46
    go_wp2_with (go_at_call 49; refine (rname_any nm _ (by omega)).mono ?_; rintro e w1 ⟨rfl, rfl⟩; rw [hty])
    go_ret
    exact ⟨ret_bool HZ.out.symm, hbk⟩
  | true =>
    have HBX : Hid _ := hbx
    have HBK : Hid _ := hbk
    clear hbx hbk
    go_enter Tryd.func46, Tryd.ntmps46
    go_wp2_with (first
      | (go_at_call 49; refine (rname_any nm _ (by omega)).mono ?_; rintro e w1 ⟨rfl, rfl⟩; rw [hty])
      | fail)
    refine (rtext_any vl _ h2).mono ?_
    rintro e w2 ⟨rfl, hb2⟩
    have HLB : Hid (w2.heap[w.heap.size]? = some (.cells #[.string nm, .slice a n c, .string vl] 39 (0, 0))) := by
      unfold Hid; rw [hb2.block _ (by simp)]; exact HBX.out
    have HB2 : Hid (Below w.heap.size w w2) := HBK.out.trans (hb2.mono (by simp))
    have d1 : w2.cell? ⟨w.heap.size, 1, none⟩ = some (.slice a n c) := by rw [cell_of_row _ _ _ _ _ _ HLB.out]; rfl
    have d2 : w2.cell? ⟨w.heap.size, 2, none⟩ = some (.string vl) := by rw [cell_of_row _ _ _ _ _ _ HLB.out]; rfl
    have hs2 : w.heap.size < w2.heap.size := World.block_lt_of_cell? w2 _ d2
    clear hb2 HBX HBK
    cases htx : textZ (nums vl) with
    | false =>
      have HZ : Hid (rightZ ⟨nums nm, numsP fs, nums vl⟩ = false) := by unfold Hid rightZ; simp only; rw [htx]; simp
      go_wp2
      go_ret
      exact ⟨ret_bool HZ.out.symm, HB2.out⟩
    | true =>
      by_cases h4 : 4096 < vl.size
      · have e4 : decide ((4096 : Int) < (vl.size : Int)) = true := by simp; omega
        have HZ : Hid (rightZ ⟨nums nm, numsP fs, nums vl⟩ = false) := by
          unfold Hid rightZ; simp only; rw [show decide ((nums vl).length ≤ 4096) = false from by rw [HVL.out]; simp; omega]; simp
        go_wp2
        go_ret
        exact ⟨ret_bool HZ.out.symm, HB2.out⟩
      have e4 : decide ((4096 : Int) < (vl.size : Int)) = false := by simp; omega
      by_cases h16 : 16 < n
      · have hd : decide ((16 : Int) < (n : Int)) = true := by simp; omega
        have HZ : Hid (rightZ ⟨nums nm, numsP fs, nums vl⟩ = false) := by
          unfold Hid rightZ; simp only; rw [show decide ((numsP fs).length ≤ 16) = false from by rw [HL.out]; simp; omega]; simp
        go_wp2
        go_ret
        exact ⟨ret_bool HZ.out.symm, HB2.out⟩
      have hd : decide ((16 : Int) < (n : Int)) = false := by simp; omega
      have HZ : Hid (rightZ ⟨nums nm, numsP fs, nums vl⟩ = rightL [] (numsP fs)) := by
        unfold Hid rightZ; simp only
        rw [hty, htx, show decide ((nums vl).length ≤ 4096) = true from by rw [HVL.out]; simp; omega, show decide ((numsP fs).length ≤ 16) = true from by rw [HL.out]; simp; omega]; rfl
      go_wp2
      go_loopw [3, 4, 5] (fun i _ _ wr => ∃ (k : Nat), i = .int .i64 k ∧ k ≤ n ∧ wr.heap[w.heap.size]? = some (.cells #[.string nm, .slice a n c, .string vl] 39 (0, 0)) ∧ rightL ((numsP (fs.take k)).map Prod.fst) (numsP (fs.drop k)) = rightL [] (numsP fs) ∧ Below w.heap.size w wr) (fun i _ _ _ => n - (intOf i).toNat)
      case atStart => exact ⟨0, rfl, by omega, HLB.out, rfl, HB2.out⟩
      case round =>
        clear HLB HB2 d1 d2 hs2
        obtain ⟨k, rfl, hk, hlb, hrl, hb⟩ := hrel
        have HRL : Hid (rightL ((numsP (fs.take k)).map Prod.fst) (numsP (fs.drop k)) = rightL [] (numsP fs)) := hrl
        have HB : Hid (Below w.heap.size w wr) := hb
        have HLB : Hid (wr.heap[w.heap.size]? = some (.cells #[.string nm, .slice a n c, .string vl] 39 (0, 0))) := hlb
        have d1 : wr.cell? ⟨w.heap.size, 1, none⟩ = some (.slice a n c) := by rw [cell_of_row _ _ _ _ _ _ hlb]; rfl
        have hrw := HR.out.below hb
        have hsz : w.heap.size < wr.heap.size := (Array.getElem?_eq_some_iff.1 hlb).1
        clear hrl hb hlb
        by_cases hlt : k < n
        · have dk : decide ((k : Int) < (n : Int)) = true := by simp; omega
          obtain ⟨f, hfk⟩ : ∃ f, fs[k]? = some f := ⟨_, List.getElem?_eq_getElem (by omega)⟩
          have HD : Hid (fs.drop k = f :: fs.drop (k + 1)) := by
            unfold Hid
            rw [List.drop_eq_getElem_cons (by omega)]
            rw [List.getElem?_eq_getElem (by omega)] at hfk
            simp only [Option.some.injEq] at hfk
            rw [hfk]
          have HTK : Hid (fs.take (k + 1) = fs.take k ++ [f]) := by unfold Hid; rw [List.take_add_one, hfk]; rfl
          have hfz := HF.out f (List.mem_of_getElem? hfk)
          obtain ⟨pn, pv⟩ := f
          obtain ⟨hz1, hz2⟩ := hfz
          obtain ⟨b, off, rfl, hcc⟩ : ∃ b off, a = some ⟨b, off, none⟩ ∧ ∀ i f, fs[i]? = some f → wr.cell? ⟨b, off + i * 2, none⟩ = some (.string f.1) ∧ wr.cell? ⟨b, off + i * 2 + 1, none⟩ = some (.string f.2) := by
            rcases hrw with h | h
            · rw [h] at hn; simp at hn; omega
            · exact h
          obtain ⟨hc1, hc2⟩ := hcc k _ hfk
          simp only at hc1 hc2 hz1 hz2
          have HCC : Hid (∀ i f, fs[i]? = some f → wr.cell? ⟨b, off + i * 2, none⟩ = some (.string f.1) ∧ wr.cell? ⟨b, off + i * 2 + 1, none⟩ = some (.string f.2)) := hcc
          have HQ : Hid (rightL [] (numsP fs) = (!((numsP (fs.take k)).map Prod.fst).contains (nums pn) && parZ (nums pn, nums pv) && rightL ((numsP (fs.take k)).map Prod.fst ++ [nums pn]) (numsP (fs.drop (k + 1))))) := by
            unfold Hid; rw [← HRL.out, HD.out]; rfl
          have HPX := heap_alloc_last wr (.cells #[.string pn, .string pv] 65)
          have HPB : Hid _ := HPX
          clear hfk hcc HPX
          cases hA : nameZ (nums pn) with
          | false =>
            have HX : Hid (rightL [] (numsP fs) = false) := by unfold Hid; rw [HQ.out, parZ_eq, hA]; simp
            go_wp2_with (go_at_call 49; refine (rname_any pn _ (by omega)).mono ?_; rintro e w3 ⟨rfl, rfl⟩; rw [hA])
            go_ret
            exact ⟨ret_bool (by rw [HZ.out, HX.out]), HB.out.alloc HB.out.size _⟩
          | true =>
            go_wp2_with (first
              | (go_at_call 49; refine (rname_any pn _ (by omega)).mono ?_; rintro e w3 ⟨rfl, rfl⟩; rw [hA])
              | fail)
            refine (rtext_any pv _ hz2).mono ?_
            rintro e w4 ⟨rfl, hb4⟩
            have HB4 : Hid (Below w.heap.size w w4) := (HB.out.alloc HB.out.size _).trans (hb4.mono (by simp; omega))
            have HPB4 : Hid (w4.heap[wr.heap.size]? = some (.cells #[.string pn, .string pv] 65 (0, 0))) := by unfold Hid; rw [hb4.block _ (by simp)]; exact HPB.out
            have HLB4 : Hid (w4.heap[w.heap.size]? = some (.cells #[.string nm, .slice (some ⟨b, off, none⟩) n c, .string vl] 39 (0, 0))) := by
              unfold Hid; rw [hb4.block _ (by simp; omega), Below.heap_alloc _ _ _ (by omega)]; exact HLB.out
            have HC4 : Hid (∀ i f, fs[i]? = some f → w4.cell? ⟨b, off + i * 2, none⟩ = some (.string f.1)) := fun i f hfi => by
              have h := (HCC.out i f hfi).1
              have hlb := World.block_lt_of_cell? wr _ h
              rw [hb4.cell (p := ⟨b, off + i * 2, none⟩) (by simp; simp at hlb; omega), (keep wr _).cell (p := ⟨b, off + i * 2, none⟩) hlb]; exact h
            have p0 : w4.cell? ⟨wr.heap.size, 0, none⟩ = some (.string pn) := by rw [cell_of_row _ _ _ _ _ _ HPB4.out]; rfl
            have p1 : w4.cell? ⟨wr.heap.size, 1, none⟩ = some (.string pv) := by rw [cell_of_row _ _ _ _ _ _ HPB4.out]; rfl
            have l1 : w4.cell? ⟨w.heap.size, 1, none⟩ = some (.slice (some ⟨b, off, none⟩) n c) := by rw [cell_of_row _ _ _ _ _ _ HLB4.out]; rfl
            clear hb4 d1 hc1 hc2 HPB HCC HLB HB
            cases hB : textZ (nums pv) with
            | false =>
              have HX : Hid (rightL [] (numsP fs) = false) := by unfold Hid; rw [HQ.out, parZ_eq, hB]; simp
              go_wp2
              go_ret
              exact ⟨ret_bool (by rw [HZ.out, HX.out]), HB4.out⟩
            | true =>
              by_cases h25 : 256 < pv.size
              · have e5 : decide ((256 : Int) < (pv.size : Int)) = true := by simp; omega
                have HX : Hid (rightL [] (numsP fs) = false) := by unfold Hid; rw [HQ.out, parZ_eq, show decide (pv.size ≤ 256) = false from by simp; omega]; simp
                go_wp2
                go_ret
                exact ⟨ret_bool (by rw [HZ.out, HX.out]), HB4.out⟩
              have e5 : decide ((256 : Int) < (pv.size : Int)) = false := by simp; omega
              have h34 := has34 pv w4 (by omega)
              cases hD : (nums pv).contains 34 with
              | true =>
                have HX : Hid (rightL [] (numsP fs) = false) := by unfold Hid; rw [HQ.out, parZ_eq, hD]; simp
                rw [hD] at h34
                go_wp2_with (go_at_call 70; refine h34.mono ?_; rintro e w5 ⟨rfl, rfl⟩)
                go_ret
                exact ⟨ret_bool (by rw [HZ.out, HX.out]), HB4.out⟩
              | false =>
                have HPZ : Hid (parZ (nums pn, nums pv) = true) := by unfold Hid; rw [parZ_eq, hA, hB, hD, show decide (pv.size ≤ 256) = true from by simp; omega]; rfl
                rw [hD] at h34
                go_wp2_with (go_at_call 70; refine h34.mono ?_; rintro e w5 ⟨rfl, rfl⟩)
                clear h34
                go_loopw [5] (fun i wx => ∃ (j q : Nat), i = .int .i64 j ∧ j ≤ k ∧ (∀ g ∈ fs.take j, nums g.1 ≠ nums pn) ∧ wx = w4.drewN q) (fun i _ => k - (intOf i).toNat)
                case atStart => exact ⟨0, 0, rfl, by omega, by simp, rfl⟩
                case round =>
                  obtain ⟨j, q, rfl, hj, hall, rfl⟩ := hrel
                  have HAL : Hid (∀ g ∈ fs.take j, nums g.1 ≠ nums pn) := hall
                  clear hall
                  by_cases hjk : j < k
                  · have dj : decide ((j : Int) < (k : Int)) = true := by simp; omega
                    obtain ⟨g, hgj⟩ : ∃ g, fs[j]? = some g := ⟨_, List.getElem?_eq_getElem (by omega)⟩
                    have hcg := HC4.out j g hgj
                    have heq := eq_nums g.1 pn
                    have HMG : Hid (g ∈ fs.take k) := by
                      unfold Hid
                      rw [List.mem_take_iff_getElem]
                      have hjl : j < fs.length := by omega
                      refine ⟨j, by omega, ?_⟩
                      rw [List.getElem?_eq_getElem hjl] at hgj
                      simpa using hgj
                    have HTJ : Hid (∀ h ∈ fs.take (j + 1), h = g ∨ h ∈ fs.take j) := by
                      intro h hh
                      rw [List.take_add_one, hgj] at hh
                      simp at hh
                      rcases hh with hh | hh
                      · exact .inr hh
                      · exact .inl hh
                    obtain ⟨gn, gv⟩ := g
                    simp only at hcg heq
                    clear hgj
                    by_cases hsame : nums gn = nums pn
                    · rw [decide_eq_true hsame] at heq
                      have HX : Hid (rightL [] (numsP fs) = false) := by
                        unfold Hid; rw [HQ.out]
                        have : ((numsP (fs.take k)).map Prod.fst).contains (nums pn) = true := by
                          rw [List.contains_iff_mem, List.mem_map]
                          refine ⟨(nums gn, nums gv), ?_, hsame⟩
                          unfold numsP
                          exact List.mem_map.2 ⟨(gn, gv), HMG.out, rfl⟩
                        rw [this]; rfl
                      clear hsame
                      go_wp2
                      go_quiet (fail)
                      go_wp2
                      go_ret
                      exact ⟨ret_bool (by rw [HZ.out, HX.out]), below_drewN (below_drewN HB4.out q) _⟩
                    · rw [decide_eq_false hsame] at heq
                      have HNS : Hid (nums gn ≠ nums pn) := hsame
                      clear hsame
                      go_wp2
                      go_quiet (fail)
                      go_wp2
                      go_roundw
                      case rel =>
                        refine ⟨j + 1, q + nq, by go_num, by omega, ?_, by first | rfl | (simp [World.drewN, Nat.add_assoc])⟩
                        intro h hh
                        rcases HTJ.out h hh with rfl | hh
                        · exact HNS.out
                        · exact HAL.out h hh
                      case measure => simp [intOf]; omega
                  · obtain rfl : j = k := by omega
                    have dj : decide ((j : Int) < (j : Int)) = false := by simp
                    have HX : Hid (rightL ((numsP (fs.take (j + 1))).map Prod.fst) (numsP (fs.drop (j + 1))) = rightL [] (numsP fs)) := by
                      unfold Hid; rw [HQ.out, HPZ.out, HTK.out]
                      have : ((numsP (fs.take j)).map Prod.fst).contains (nums pn) = false := by
                        rw [Bool.eq_false_iff]
                        intro hc
                        rw [List.contains_iff_mem, List.mem_map] at hc
                        obtain ⟨x, hx, hxe⟩ := hc
                        unfold numsP at hx
                        obtain ⟨g, hg, rfl⟩ := List.mem_map.1 hx
                        exact HAL.out g hg hxe
                      rw [this]; simp [numsP]
                    go_wp2
                    go_roundw
                    case rel => exact ⟨j + 1, by go_num, by omega, HLB4.out, HX.out, below_drewN HB4.out q⟩
                    case measure => simp [intOf]; omega
        · obtain rfl : k = n := by omega
          have dk : decide ((k : Int) < (k : Int)) = false := by simp
          have HX : Hid (rightL [] (numsP fs) = true) := by
            unfold Hid; rw [← HRL.out, List.drop_of_length_le (by omega)]; rfl
          go_wp2
          go_ret
          exact ⟨ret_bool (by rw [HZ.out, HX.out]), HB.out⟩
end Go.Proofs.YtenclgnkogmgiaaDoor
namespace Go.Proofs.YtenclgnkogmgiaaDoor
open Go.RowKit
set_option linter.unusedVariables false

set_option maxRecDepth 100000 in
theorem has1 (s : ByteArray) (u : UInt8) (w : World) (hs : s.size ≤ 1000000000) : Calls Tryd.prog 70 #[.string s, .string ⟨#[u]⟩] w fun e w' => e = .returned (.bool (decide ((u.toNat : Int) ∈ nums s))) ∧ w = w' := by
  have h := has_any s ⟨#[u]⟩ w hs (by exact Nat.le_refl 1) (by show 1 ≤ 10; omega)
  have e : nums ⟨#[u]⟩ = [(u.toNat : Int)] := rfl
  rw [e, has_one] at h
  exact h
theorem any_three (l : List Int) : l.any mk3 = (decide ((59 : Int) ∈ l) || decide ((58 : Int) ∈ l) || decide ((44 : Int) ∈ l)) := by
  rw [Bool.eq_iff_iff]
  simp only [List.any_eq_true, Bool.or_eq_true, decide_eq_true_eq]
  constructor
  · rintro ⟨x, hx, h⟩
    unfold mk3 at h
    simp at h
    rcases h with rfl | rfl | rfl
    · exact .inl (.inl hx)
    · exact .inl (.inr hx)
    · exact .inr hx
  · rintro ((h | h) | h)
    · exact ⟨59, h, rfl⟩
    · exact ⟨58, h, rfl⟩
    · exact ⟨44, h, rfl⟩
theorem or3 {x y z : Bool} (h : (x || y || z) = true) : x = true ∨ (x = false ∧ y = true) ∨ (x = false ∧ y = false ∧ z = true) := by
  cases x <;> cases y <;> cases z <;> simp_all
theorem or3f {x y z : Bool} (h : (x || y || z) = false) : x = false ∧ y = false ∧ z = false := by
  cases x <;> cases y <;> cases z <;> simp_all
set_option maxHeartbeats 4000000 in
set_option maxRecDepth 100000 in
theorem rplain_any (nm vl : ByteArray) (a : Option Addr) (n c : Nat) (fs : List (ByteArray × ByteArray)) (w : World) (hn : fs.length = n) (hr : FRow w a fs) (hn1 : n ≤ 1000) (h1 : nm.size ≤ 100000) (h2 : vl.size ≤ 100000) (hf : ∀ f ∈ fs, f.1.size + f.2.size ≤ 100000) :
    Calls Tryd.prog 47 #[lineV nm vl a n c] w fun e w' => e = .returned (.string (strOfNums (writtenZ ⟨nums nm, numsP fs, nums vl⟩))) ∧ Below w.heap.size w w' := by
  have HF : Hid (∀ f ∈ fs, f.1.size + f.2.size ≤ 100000) := hf
  unfold lineV
  have hlb := heap_alloc_last w (.cells #[.string nm, .slice a n c, .string vl] 39)
  have hbk := keep w (.cells #[.string nm, .slice a n c, .string vl] 39)
  have hrw := hr.below hbk
  have HBK : Hid (Below w.heap.size w (w.alloc (.cells #[.string nm, .slice a n c, .string vl] 39))) := hbk
  clear hf hr hbk
  go_enter Tryd.func47, Tryd.ntmps47
  go_wp2
  obtain ⟨W, hW⟩ : ∃ W, w.alloc (.cells #[.string nm, .slice a n c, .string vl] 39) = W := ⟨_, rfl⟩
  rw [hW] at hlb hrw HBK ⊢
  have d1 : W.cell? ⟨w.heap.size, 1, none⟩ = some (.slice a n c) := by rw [cell_of_row _ _ _ _ _ _ hlb]; rfl
  have d2 : W.cell? ⟨w.heap.size, 2, none⟩ = some (.string vl) := by rw [cell_of_row _ _ _ _ _ _ hlb]; rfl
  clear hlb hW
  go_loopw [4, 3, 5] (fun i o _ wr => ∃ (k : Nat) (out : ByteArray), i = .int .i64 k ∧ o = .string out ∧ k ≤ n ∧ nums out = nums nm ++ (numsP (fs.take k)).flatMap parW ∧ out.size ≤ 100000 + 100004 * k ∧ W = wr) (fun i _ _ _ => n - (intOf i).toNat)
  case atStart => exact ⟨0, nm, rfl, rfl, by omega, by simp [numsP], by omega, rfl⟩
  case round =>
    obtain ⟨k, out, rfl, rfl, hk, hout, hoz, rfl⟩ := hrel
    have HO : Hid (nums out = nums nm ++ (numsP (fs.take k)).flatMap parW) := hout
    clear hout
    by_cases hlt : k < n
    · have dk : decide ((k : Int) < (n : Int)) = true := by simp; omega
      obtain ⟨f, hfk⟩ : ∃ f, fs[k]? = some f := ⟨_, List.getElem?_eq_getElem (by omega)⟩
      have hfz := HF.out f (List.mem_of_getElem? hfk)
      have HPT : Hid ((numsP (fs.take (k + 1))).flatMap parW = (numsP (fs.take k)).flatMap parW ++ parW (nums f.1, nums f.2)) := pars_take fs k f hfk
      obtain ⟨pn, pv⟩ := f
      obtain ⟨b, off, rfl, hcc⟩ : ∃ b off, a = some ⟨b, off, none⟩ ∧ ∀ i f, fs[i]? = some f → W.cell? ⟨b, off + i * 2, none⟩ = some (.string f.1) ∧ W.cell? ⟨b, off + i * 2 + 1, none⟩ = some (.string f.2) := by
        rcases hrw with h | h
        · rw [h] at hn; simp at hn; omega
        · exact h
      obtain ⟨hc1, hc2⟩ := hcc k _ hfk
      clear hcc hfk
      simp only at hc1 hc2 hfz HPT
      have e59 := has1 pv 59 W (by omega)
      have e58 := has1 pv 58 W (by omega)
      have e44 := has1 pv 44 W (by omega)
      have u59 : ((59 : UInt8).toNat : Int) = 59 := rfl
      have u58 : ((58 : UInt8).toNat : Int) = 58 := rfl
      have u44 : ((44 : UInt8).toNat : Int) = 44 := rfl
      rw [u59] at e59
      rw [u58] at e58
      rw [u44] at e44
      have hany := any_three (nums pv)
      by_cases hmm : (nums pv).any mk3 = true
      · have hd : decide ((59 : Int) ∈ nums pv) = true ∨ (decide ((59 : Int) ∈ nums pv) = false ∧ decide ((58 : Int) ∈ nums pv) = true) ∨ (decide ((59 : Int) ∈ nums pv) = false ∧ decide ((58 : Int) ∈ nums pv) = false ∧ decide ((44 : Int) ∈ nums pv) = true) := by
          exact or3 (hany.symm.trans hmm)
        obtain ⟨sb, hsb⟩ : ∃ sb : ByteArray, (⟨#[34]⟩ : ByteArray) ++ pv ++ ⟨#[34]⟩ = sb := ⟨_, rfl⟩
        obtain ⟨so, hso⟩ : ∃ so : ByteArray, out ++ ⟨#[59]⟩ ++ pn ++ ⟨#[61]⟩ ++ sb = so := ⟨_, rfl⟩
        have HPX : Hid (nums so = nums out ++ parW (nums pn, nums pv)) := by
          unfold Hid parW; simp only; rw [if_pos hmm, ← hso, ← hsb]
          simp only [nums_append]; simp [nums]
        have HSZ : Hid (so.size ≤ out.size + 100004) := by
          unfold Hid; rw [← hso, ← hsb]; simp only [← nums_len, nums_append, List.length_append]; simp [nums]; have : pv.data.size = pv.size := rfl; have : pn.data.size = pn.size := rfl; omega
        have HREL : Hid (nums so = nums nm ++ (numsP (fs.take (k + 1))).flatMap parW) := by
          have h := HPX.out
          rw [HO.out, List.append_assoc, ← HPT.out] at h
          exact h
        have HSZ2 : Hid (so.size ≤ 100000 + 100004 * (k + 1)) := by
          have h := HSZ.out
          have h2 : so.size ≤ 100000 + 100004 * k + 100004 := by omega
          rw [Nat.mul_succ, ← Nat.add_assoc]; exact h2
        have zso : so.size ≤ 400000000 := by have := HSZ.out; omega
        have zout : out.size ≤ 300000000 := by omega
        have zsb : sb.size ≤ 100002 := by rw [← hsb]; simp only [← nums_len, nums_append, List.length_append]; simp [nums]; have : pv.data.size = pv.size := rfl; omega
        clear hany hmm
        rcases hd with q1 | ⟨q1, q2⟩ | ⟨q1, q2, q3⟩
        all_goals
          (try rw [q1] at e59)
          (try rw [q2] at e58)
          (try rw [q3] at e44)
          go_wp2_with (first
            | (go_at_call_of 70 (Value.string ⟨#[59]⟩); refine e59.mono ?_; rintro e w5 ⟨rfl, rfl⟩)
            | (go_at_call_of 70 (Value.string ⟨#[58]⟩); refine e58.mono ?_; rintro e w5 ⟨rfl, rfl⟩)
            | (go_at_call_of 70 (Value.string ⟨#[44]⟩); refine e44.mono ?_; rintro e w5 ⟨rfl, rfl⟩))
          go_roundw
          case rel => exact ⟨k + 1, so, by go_num, by first | rfl | rw [hso], by omega, HREL.out, HSZ2.out, by first | rfl | trivial⟩
          case measure => simp [intOf]; omega
      · have hmf : (nums pv).any mk3 = false := by simpa using hmm
        obtain ⟨q1, q2, q3⟩ := or3f (hany.symm.trans hmf)
        obtain ⟨so, hso⟩ : ∃ so : ByteArray, out ++ ⟨#[59]⟩ ++ pn ++ ⟨#[61]⟩ ++ pv = so := ⟨_, rfl⟩
        have HPX : Hid (nums so = nums out ++ parW (nums pn, nums pv)) := by
          unfold Hid parW; simp only; rw [if_neg hmm, ← hso]
          simp only [nums_append]; simp [nums]
        have HSZ : Hid (so.size ≤ out.size + 100004) := by
          unfold Hid; rw [← hso]; simp only [← nums_len, nums_append, List.length_append]; simp [nums]; have : pv.data.size = pv.size := rfl; have : pn.data.size = pn.size := rfl; omega
        have HREL : Hid (nums so = nums nm ++ (numsP (fs.take (k + 1))).flatMap parW) := by
          have h := HPX.out
          rw [HO.out, List.append_assoc, ← HPT.out] at h
          exact h
        have HSZ2 : Hid (so.size ≤ 100000 + 100004 * (k + 1)) := by
          have h := HSZ.out
          have h2 : so.size ≤ 100000 + 100004 * k + 100004 := by omega
          rw [Nat.mul_succ, ← Nat.add_assoc]; exact h2
        have zso : so.size ≤ 400000000 := by have := HSZ.out; omega
        have zout : out.size ≤ 300000000 := by omega
        clear hany hmm hmf
        rw [q1] at e59
        rw [q2] at e58
        rw [q3] at e44
        go_wp2_with (first
          | (go_at_call_of 70 (Value.string ⟨#[59]⟩); refine e59.mono ?_; rintro e w5 ⟨rfl, rfl⟩)
          | (go_at_call_of 70 (Value.string ⟨#[58]⟩); refine e58.mono ?_; rintro e w5 ⟨rfl, rfl⟩)
          | (go_at_call_of 70 (Value.string ⟨#[44]⟩); refine e44.mono ?_; rintro e w5 ⟨rfl, rfl⟩))
        go_roundw
        case rel => exact ⟨k + 1, so, by go_num, by first | rfl | rw [hso], by omega, HREL.out, HSZ2.out, by first | rfl | trivial⟩
        case measure => simp [intOf]; omega
    · obtain rfl : k = n := by omega
      have dk : decide ((k : Int) < (k : Int)) = false := by simp
      obtain ⟨so, hso⟩ : ∃ so : ByteArray, out ++ ⟨#[58]⟩ ++ vl = so := ⟨_, rfl⟩
      have HW : Hid (so = strOfNums (writtenZ ⟨nums nm, numsP fs, nums vl⟩)) := by
        have e : nums so = writtenZ ⟨nums nm, numsP fs, nums vl⟩ := by
          have := HO.out
          rw [List.take_of_length_le (by omega)] at this
          rw [← hso]; unfold writtenZ; simp only [nums_append]; rw [this]; simp [nums]
        unfold Hid; rw [← e, str_nums]
      go_wp2
      go_ret
      exact ⟨by rw [← HW.out]; first | rfl | (rw [hso]; rfl), HBK.out⟩
end Go.Proofs.YtenclgnkogmgiaaDoor
namespace Go.Proofs.YtenclgnkogmgiaaDoor
open Go.RowKit
set_option linter.unusedVariables false

theorem cut_s (l : List Int) (m : Nat) : Ut.cutZ l (m + 1) = if m + 1 < l.length ∧ l.getD (m + 1) 0 / 64 = 2 then Ut.cutZ l m else m + 1 := rfl
theorem cut_cons (c : Int) (l : List Int) (h0 : 0 < l.length → ¬ l.getD 0 0 / 64 = 2) : ∀ m : Nat, Ut.cutZ (c :: l) (m + 1) = Ut.cutZ l m + 1
  | 0 => by
    rw [cut_s, if_neg]
    · rfl
    · rintro ⟨h1, h2⟩
      simp at h1
      exact h0 (by simpa [List.length_pos_iff] using h1) (by simpa using h2)
  | m + 1 => by
    have ih := cut_cons c l h0 m
    rw [cut_s (c :: l) (m + 1), cut_s l m, ih]
    have e : (c :: l).getD (m + 1 + 1) 0 = l.getD (m + 1) 0 := by simp
    rw [e]
    by_cases h : m + 1 < l.length ∧ l.getD (m + 1) 0 / 64 = 2
    · rw [if_pos h, if_pos ⟨by simp; omega, h.2⟩]
    · rw [if_neg h, if_neg (fun q => h ⟨by have := q.1; simp at this; omega, q.2⟩)]
theorem cut_front (f l ps : List Int) (hps : Ut.AllPt ps) (hl : l = Ut.flat ps) (hf : f = [] ∨ f = [32]) : Ut.cutZ (f ++ l) 75 = f.length + Ut.cutZ l (75 - f.length) := by
  rcases hf with rfl | rfl
  · simp
  · have := cut_cons 32 l (fun h => by rw [hl] at h ⊢; exact Ut.front_byte hps h) 74
    show Ut.cutZ (32 :: l) 75 = 1 + Ut.cutZ l 74
    rw [this]; omega
theorem flat_front (f ps : List Int) (hf : f = [] ∨ f = [32]) : Ut.flat (f ++ ps) = f ++ Ut.flat ps := by
  rcases hf with rfl | rfl
  · rfl
  · rw [Ut.flat_append]; rfl
theorem all_front (f ps : List Int) (hf : f = [] ∨ f = [32]) (h : Ut.AllPt ps) : Ut.AllPt (f ++ ps) := by
  rcases hf with rfl | rfl
  · exact h
  · intro x hx
    rcases List.mem_append.1 hx with q | q
    · simp at q; subst q; decide
    · exact h x q
theorem fold_next (f l qs : List Int) (fuel : Nat) (hf : f = [] ∨ f = [32]) (hqs : Ut.AllPt qs) (hl : l = Ut.flat qs) (hfu : l.length ≤ fuel) (h : 75 < f.length + l.length) :
    ∃ d q2 n, n + 1 = fuel ∧ Ut.cutZ (f ++ l) 75 = f.length + d ∧ 71 ≤ d ∧ f.length + d ≤ 75 ∧ d ≤ l.length ∧ Ut.AllPt q2 ∧ l.drop d = Ut.flat q2 ∧ foldZ fuel f l = (f ++ l.take d) :: foldZ n [32] (l.drop d) := by
  have hf1 : f.length ≤ 1 := by rcases hf with rfl | rfl <;> simp
  obtain ⟨q1, q2, h1, h2, h3, h4⟩ := Ut.cut_split qs hqs (75 - f.length) (by rw [← hl]; omega)
  rw [← hl] at h2
  obtain ⟨n, rfl⟩ : ∃ n, fuel = n + 1 := ⟨fuel - 1, by omega⟩
  have e : l = Ut.flat q1 ++ Ut.flat q2 := by rw [hl, h1, Ut.flat_append]
  refine ⟨(Ut.flat q1).length, q2, n, rfl, ?_, by omega, by omega, by rw [e]; simp, fun x hx => hqs x (by rw [h1]; simp [hx]), by rw [e]; simp, ?_⟩
  · rw [cut_front f l qs hqs hl hf, h2]
  · rw [foldZ, if_pos h, h2]
theorem fold_last (f l : List Int) (fuel : Nat) (h : ¬ 75 < f.length + l.length) : foldZ fuel f l = [f ++ l] := by
  cases fuel with
  | zero => rfl
  | succ n => rw [foldZ, if_neg h]
theorem grown_own {x y : World} {B : Nat} {v : Value} {n : Nat} {xs : List Value} (hs : B ≤ x.heap.size) (ho : x.ownsRow B 5 1 v n xs) (hg : x.grownBy y v.ownBlock) : Below B x y :=
  (Below.refl _ _).grown hg hs (fun q hq => by
    rcases ho.2 with ⟨h, _⟩ | ⟨g, cp, cur, h, h2, _⟩
    · rw [h] at hq; simp [Value.ownBlock] at hq
    · rw [h] at hq; simp [Value.ownBlock] at hq; omega)
set_option maxHeartbeats 8000000 in
set_option maxRecDepth 100000 in
theorem rwrite_any (a : Option Addr) (len cap : Nat) (ls : List Lm) (w : World) (hn : ls.length = len) (hbig : len ≤ 9223372036854775807) (hr : LRow w a ls) (hsz : ∀ m ∈ ls, Fitm m) : Calls Tryd.prog 31 #[.slice a len cap] w (WPost w ls) := by
  obtain ⟨j0, hi, hz0, hz1, hz2⟩ := info_parts Tryd.info5
  have HR : Hid (LRow w a ls) := hr
  have HSZ : Hid (∀ m ∈ ls, Fitm m) := hsz
  clear hr hsz
  by_cases h128 : 4096 < len
  · have hd : decide ((4096 : Int) < (len : Int)) = true := by simp; omega
    have HC : Hid (writeC ls = 2 ∧ writeB ls = []) := by
      have h : writeC ls = 2 := by unfold writeC; rw [hn, if_pos h128]
      exact ⟨h, by unfold writeB; rw [h]; rfl⟩
    go_enter Tryd.func31, Tryd.ntmps31
    go_wp2
    go_ret2
    exact ⟨.slice none 0 0, by rw [HC.out.1]; rfl, by rw [HC.out.2]; exact World.ownsRow_nil _ _ _ _, Below.refl _ _⟩
  have hd : decide ((4096 : Int) < (len : Int)) = false := by simp; omega
  go_enter Tryd.func31, Tryd.ntmps31
  go_wp2
  go_loopw [5, 4, 6, 7] (fun i v _ _ wr => ∃ k : Nat, i = .int .i64 k ∧ k ≤ len ∧ (ls.take k).all okM = true ∧ Own wr w.heap.size v (outM (ls.take k)) ∧ Below w.heap.size w wr) (fun i _ _ _ _ => len - (intOf i).toNat)
  case atStart => exact ⟨0, rfl, by omega, by simp, World.ownsRow_nil _ _ _ _, Below.refl _ _⟩
  case round =>
    obtain ⟨k, rfl, hk, hall, hown, hb⟩ := hrel
    have HA : Hid ((ls.take k).all okM = true) := hall
    have HO : Hid (Own wr w.heap.size u4 (outM (ls.take k))) := hown
    have HB : Hid (Below w.heap.size w wr) := hb
    have hrw := HR.out.below hb
    clear hall hown hb
    by_cases hlt : k < len
    · have dk : decide ((k : Int) < (len : Int)) = true := by simp; omega
      obtain ⟨m, hmk⟩ : ∃ m, ls[k]? = some m := ⟨_, List.getElem?_eq_getElem (by omega)⟩
      have hfs := HSZ.out m (List.mem_of_getElem? hmk)
      have HTK : Hid (outM (ls.take (k + 1)) = outM (ls.take k) ++ endW (linesM m)) := by unfold Hid; rw [List.take_add_one, hmk]; exact outM_snoc _ _
      have HTA : Hid (okM m = true → (ls.take (k + 1)).all okM = true) := fun h => by rw [List.take_add_one, hmk]; simp [HA.out, h]
      have HNO : Hid (okM m = false → writeC ls = 90 ∧ writeB ls = []) := fun h => by
        have h1 : ls.all okM = false := by
          rw [List.all_eq_false]
          exact ⟨m, List.mem_of_getElem? hmk, by rw [h]; simp⟩
        have h2 : writeC ls = 90 := by unfold writeC; rw [hn, if_neg h128, if_pos h1]
        exact ⟨h2, by unfold writeB; rw [h2]; rfl⟩
      have HWS : Hid (okM m = true → (∃ ps, Ut.AllPt ps ∧ writtenZ m.ln = Ut.flat ps) ∧ (writtenZ m.ln).length ≤ 10000) := fun h => ⟨written_split m h, written_len m h⟩
      have HLM : Hid (linesM m = foldL (writtenZ m.ln)) := rfl
      have hwb := written_byt m.nm m.vl m.fs
      have hacc : (outM (ls.take k)).length ≤ 204800000 := by
        have h1 := outM_len (ls.take k) HA.out
        have h2 : (ls.take k).length ≤ 4096 := by simp; omega
        omega
      obtain ⟨nm, vl, ma, mc, fs⟩ := m
      obtain ⟨z1, z2, z3, z4⟩ := hfs
      obtain ⟨b, off, rfl, hcc⟩ : ∃ b off, a = some ⟨b, off, none⟩ ∧ ∀ i m, ls[i]? = some m → (wr.cell? ⟨b, off + i * 3, none⟩ = some (.string m.nm) ∧ wr.cell? ⟨b, off + i * 3 + 1, none⟩ = some (.slice m.a m.fs.length m.c) ∧ wr.cell? ⟨b, off + i * 3 + 2, none⟩ = some (.string m.vl)) ∧ FRow wr m.a m.fs := by
        rcases hrw with h | h
        · rw [h] at hn; simp at hn; omega
        · exact h
      obtain ⟨⟨hc1, hc2, hc3⟩, hfr⟩ := hcc k _ hmk
      clear hcc hmk
      simp only [Lm.ln] at hc1 hc2 hc3 hfr z1 z2 z3 z4 hwb HLM HWS
      have hright := rright_any nm vl ma fs.length mc fs wr rfl hfr (by omega) (by omega) (fun f hf => by have := z4 f hf; omega)
      unfold lineV at hright
      have HFR : Hid (FRow wr ma fs) := hfr
      clear hfr
      go_wp2_with fail
      refine hright.mono ?_
      rintro e w1 ⟨rfl, hb1⟩
      have HB1 : Hid (Below w.heap.size w w1) := HB.out.trans (hb1.mono HB.out.size)
      have HO1 : Hid (Own w1 w.heap.size u4 (outM (ls.take k))) := own_keep HO.out hb1
      have lb := World.block_lt_of_cell? wr _ hc1
      have d1 : w1.cell? ⟨b, off + k * 3, none⟩ = some (.string nm) := (hb1.cell lb).trans hc1
      have d2 : w1.cell? ⟨b, off + k * 3 + 1, none⟩ = some (.slice ma fs.length mc) := (hb1.cell (p := ⟨b, off + k * 3 + 1, none⟩) lb).trans hc2
      have d3 : w1.cell? ⟨b, off + k * 3 + 2, none⟩ = some (.string vl) := (hb1.cell (p := ⟨b, off + k * 3 + 2, none⟩) lb).trans hc3
      have hfr1 := HFR.out.below hb1
      clear hb1 hright hc1 hc2 hc3 lb HO HFR hrw
      cases hok : rightZ ⟨nums nm, numsP fs, nums vl⟩ with
      | false =>
        have HF : Hid (writeC ls = 90 ∧ writeB ls = []) := HNO.out hok
        go_wp2
        go_ret2
        exact ⟨.slice none 0 0, by rw [HF.out.1]; rfl, by rw [HF.out.2]; exact World.ownsRow_nil _ _ _ _, HB1.out⟩
      | true =>
        obtain ⟨⟨ps, hps, hpf⟩, hwl⟩ := HWS.out hok
        have hplain := rplain_any nm vl ma fs.length mc fs w1 rfl hfr1 z3 z1 z2 z4
        unfold lineV at hplain
        obtain ⟨wl, hwle⟩ : ∃ wl, writtenZ ⟨nums nm, numsP fs, nums vl⟩ = wl := ⟨_, rfl⟩
        rw [hwle] at hplain hpf hwl hwb HLM
        have hsn : nums (strOfNums wl) = wl := nums_str hwb
        obtain ⟨ws, hws⟩ : ∃ ws, strOfNums wl = ws := ⟨_, rfl⟩
        rw [hws] at hsn hplain
        clear hws hwle hfr1 HNO HWS
        go_wp2_with fail
        refine hplain.mono ?_
        rintro e w2 ⟨rfl, hb2⟩
        have HB2 : Hid (Below w.heap.size w w2) := HB1.out.trans (hb2.mono HB1.out.size)
        have HO2 : Hid (Own w2 w.heap.size u4 (outM (ls.take k))) := own_keep HO1.out hb2
        have HSN : Hid (nums ws = wl) := hsn
        have HPS : Hid (Ut.AllPt ps ∧ wl = Ut.flat ps) := ⟨hps, hpf⟩
        obtain ⟨acc, hae⟩ : ∃ acc, outM (ls.take k) = acc := ⟨_, rfl⟩
        have HAE : Hid (outM (ls.take k) = acc) := hae
        rw [hae] at HO2 hacc
        have hwz : ws.size = wl.length := by rw [← nums_len, hsn]
        clear hb2 hplain d1 d2 d3 hsn hps hpf hae HO1 HB1 HB
        go_wp2
        go_loopw [6, 4, 7] (fun s v _ wx => ∃ (t : ByteArray) (f l qs pre : List Int) (fuel : Nat), s = .string t ∧ (f = [] ∨ f = [32]) ∧ nums t = f ++ l ∧ Ut.AllPt qs ∧ l = Ut.flat qs ∧ l.length ≤ fuel ∧ l.length ≤ 10000 ∧ Own wx w.heap.size v pre ∧ pre.length + 4 * l.length ≤ 204900000 ∧ pre ++ endW (foldZ fuel f l) = acc ++ endW (foldL wl) ∧ Below w.heap.size w wx) (fun s _ _ _ => match s with | .string t => t.size | _ => 0)
        case atStart => exact ⟨ws, [], wl, ps, acc, wl.length, rfl, .inl rfl, HSN.out, HPS.out.1, HPS.out.2, Nat.le_refl _, hwl, HO2.out, by omega, rfl, HB2.out⟩
        case round =>
          obtain ⟨t, f, l, qs, pre, fuel, rfl, hf, htn, hqs, hlq, hlf, hl1, hown, hpl, hfo, hb⟩ := hrel
          have HF : Hid (f = [] ∨ f = [32]) := hf
          have HTN : Hid (nums t = f ++ l) := htn
          have HQS : Hid (Ut.AllPt qs ∧ l = Ut.flat qs) := ⟨hqs, hlq⟩
          have HO3 : Hid (Own wr w.heap.size u4 pre) := hown
          have HFO : Hid (pre ++ endW (foldZ fuel f l) = acc ++ endW (foldL wl)) := hfo
          have HB3 : Hid (Below w.heap.size w wr) := hb
          have hf1 : f.length ≤ 1 := by rcases hf with rfl | rfl <;> simp
          have htz : t.size = f.length + l.length := by rw [← nums_len, htn, List.length_append]
          have HTZ : Hid (t.size = f.length + l.length) := htz
          have hsz : w.heap.size ≤ wr.heap.size := hb.size
          by_cases h75 : 75 < t.size
          · have dk2 : decide ((75 : Int) < (t.size : Int)) = true := by simp; omega
            have dk3 : decide ((t.size : Int) > 75) = true := by simp; omega
            obtain ⟨d, q2, n, hn1, hcz, hd1, hd2, hd3, hq2, hq2f, hfn⟩ := fold_next f l qs fuel hf hqs hlq hlf (by omega)
            obtain ⟨cap1, w3, kc, hcap, hmx, hrow, hbc, hfz⟩ := conv_bytes t wr (by unfold maxLen; omega)
            have hcut := Ut.rcut_yes _ t.size cap1 75 (f ++ qs) w3 (by omega) (by omega) (by rw [flat_front f qs hf, ← hlq, ← htn, nums_len]) (all_front f qs hf hqs) hcap (by unfold maxLen; omega) (by omega) (by rw [flat_front f qs hf, ← hlq, ← htn]; exact hrow)
            have hm0 : Ut.m0Z (75 : Int) t.size = 75 := by unfold Ut.m0Z; omega
            rw [hm0, flat_front f qs hf, ← hlq, hcz] at hcut
            obtain ⟨c, hc⟩ : ∃ c, f.length + d = c := ⟨_, rfl⟩
            have HC : Hid (f.length + d = c) := hc
            rw [hc] at hcut hd2
            have hct : c ≤ t.size := by omega
            have HBc : Hid (Below w.heap.size w w3) := HB3.out.trans (hbc.mono HB3.out.size)
            have HOc : Hid (Own w3 w.heap.size u4 pre) := own_keep HO3.out hbc
            clear hrow hbc hfz hm0 hb hown hfo hqs hlq htn hf hcz htz
            go_wp2_with fail
            refine hcut.mono ?_
            rintro e w4 ⟨rfl, hb4⟩
            have HBx0 : Hid (Below w.heap.size w w4) := HBc.out.trans (hb4.mono HBc.out.size)
            have OW0 : Hid (Own w4 w.heap.size u4 pre) := own_keep HOc.out hb4
            have HZ1 : Hid ((t.extract 0 c).size ≤ 75) := by unfold Hid; rw [← nums_len, nums_to, List.length_take]; omega
            have hsz : w.heap.size ≤ w4.heap.size := HBx0.out.size
            clear hb4 hcut
            go_wp2_with (at_builtin; refine Lib.wpList_append_own_string _ rfl (.tmp 34) (.tmp 37) 29 9 rfl w.heap.size 5 j0 Tryd.underlying29 Tryd.underlying9 hi hz0 hz1 hz2 _ pre.length _ rfl OW0.out (t.extract 0 c) rfl (by have := HZ1.out; unfold maxLen; omega) (by have := HZ1.out; omega) hsz ?_)
            intro v1 x1 hown1 hgrow1 _
            have OW1 : Hid (Own x1 w.heap.size v1 (pre ++ nums (t.extract 0 c))) := own_of hown1 (by first | (simp [nums_len]; done) | (simp [nums_len]; omega)) (by rw [str_cells]; simp)
            have HBx1 : Hid (Below w.heap.size w x1) := HBx0.out.trans (grown_own hsz OW0.out hgrow1)
            have hsz1 : w.heap.size ≤ x1.heap.size := HBx1.out.size
            obtain ⟨n1, hn1⟩ : ∃ n1, (pre ++ nums (t.extract 0 c)).length = n1 := ⟨_, rfl⟩
            have hnb1 : n1 ≤ 300000000 := by have := HZ1.out; rw [← hn1, List.length_append, nums_len]; omega
            have ol1 : Hid (x1.ownsRow w.heap.size 5 1 v1 n1 ((pre ++ nums (t.extract 0 c)).map (Value.int .u8))) := by have := OW1.out; unfold Own at this; rw [hn1] at this; exact this
            clear hown1 hgrow1
            go_wp2_with (at_builtin; refine wpList_append_own _ rfl (.tmp 39) (.tmp 40) 29 rfl w.heap.size 5 j0 (.int .u8 0) 1 1 Tryd.underlying29 hi hz0 hz1 hz2 rfl (by decide) _ n1 _ rfl (own_keep ol1.out (keep x1 _)) ⟨x1.heap.size, 0, none⟩ 2 2 [.int .u8 13, .int .u8 10] rfl rfl (cells_new x1 _ 5) (by simp [Value.oneCell']) (by unfold maxLen; omega) (by omega) (by simp; omega) ?_)
            intro v2 x2 hown2 hgrow2 _
            have OW2 : Hid (Own x2 w.heap.size v2 (pre ++ nums (t.extract 0 c) ++ [13, 10])) := own_of hown2 (by simp at hn1 ⊢; omega) (by simp)
            have HBx2 : Hid (Below w.heap.size w x2) := (HBx1.out.alloc hsz1 _).trans (grown_own (by simp; omega) (own_keep ol1.out (keep x1 _)) hgrow2)
            clear hown2 hgrow2 hn1
            have HX : Hid (nums (t.extract 0 c) = f ++ l.take d) := by
              unfold Hid
              rw [nums_to, HTN.out, ← HC.out, List.take_append, List.take_of_length_le (by omega)]
              congr 2
              omega
            have HY : Hid (nums ((⟨#[32]⟩ : ByteArray) ++ t.extract c t.size) = [32] ++ l.drop d) := by
              unfold Hid
              rw [nums_append, nums_from, HTN.out, ← HC.out, List.drop_append, List.drop_of_length_le (by omega)]
              show [32] ++ _ = _
              rw [List.nil_append]
              congr 2
              omega
            go_wp2
            go_roundw
            case rel =>
              refine ⟨_, [32], l.drop d, q2, pre ++ nums (t.extract 0 c) ++ [13, 10], n, rfl, .inr rfl, HY.out, hq2, hq2f, by rw [List.length_drop]; omega, by rw [List.length_drop]; omega, OW2.out, ?_, ?_, HBx2.out⟩
              · have := HZ1.out
                rw [← nums_len] at this
                simp only [List.length_append, List.length_drop, List.length_cons, List.length_nil]
                omega
              · rw [← HFO.out, hfn, HX.out]
                simp [endW]
            case measure =>
              have hy := congrArg List.length HY.out
              rw [nums_len] at hy
              simp only [List.length_append, List.length_cons, List.length_nil, List.length_drop] at hy
              have := HTZ.out
              have := HC.out
              simp only
              omega
          · have dk2 : decide ((75 : Int) < (t.size : Int)) = false := by simp; omega
            have dk3 : decide ((t.size : Int) > 75) = false := by simp; omega
            have HBx0 : Hid (Below w.heap.size w wr) := HB3.out
            have OW0 : Hid (Own wr w.heap.size u4 pre) := HO3.out
            have HZ1 : Hid (t.size ≤ 75) := by unfold Hid; omega
            have HX : Hid (outM (ls.take (k + 1)) = pre ++ nums t ++ [13, 10]) := by
              unfold Hid
              rw [HTK.out, HAE.out, HLM.out, ← HFO.out, fold_last f l fuel (by omega), HTN.out]
              simp [endW]
            clear hb hown hfo hqs hlq htn hf htz
            go_wp2_with (at_builtin; refine Lib.wpList_append_own_string _ rfl (.tmp 46) (.tmp 47) 29 9 rfl w.heap.size 5 j0 Tryd.underlying29 Tryd.underlying9 hi hz0 hz1 hz2 _ pre.length _ rfl OW0.out t rfl (by have := HZ1.out; unfold maxLen; omega) (by have := HZ1.out; omega) hsz ?_)
            intro v1 x1 hown1 hgrow1 _
            have OW1 : Hid (Own x1 w.heap.size v1 (pre ++ nums t)) := own_of hown1 (by first | (simp [nums_len]; done) | (simp [nums_len]; omega)) (by rw [str_cells]; simp)
            have HBx1 : Hid (Below w.heap.size w x1) := HBx0.out.trans (grown_own hsz OW0.out hgrow1)
            have hsz1 : w.heap.size ≤ x1.heap.size := HBx1.out.size
            obtain ⟨n1, hn1⟩ : ∃ n1, (pre ++ nums t).length = n1 := ⟨_, rfl⟩
            have hnb1 : n1 ≤ 300000000 := by have := HZ1.out; rw [← hn1, List.length_append, nums_len]; omega
            have ol1 : Hid (x1.ownsRow w.heap.size 5 1 v1 n1 ((pre ++ nums t).map (Value.int .u8))) := by have := OW1.out; unfold Own at this; rw [hn1] at this; exact this
            clear hown1 hgrow1
            go_wp2_with (at_builtin; refine wpList_append_own _ rfl (.tmp 49) (.tmp 50) 29 rfl w.heap.size 5 j0 (.int .u8 0) 1 1 Tryd.underlying29 hi hz0 hz1 hz2 rfl (by decide) _ n1 _ rfl (own_keep ol1.out (keep x1 _)) ⟨x1.heap.size, 0, none⟩ 2 2 [.int .u8 13, .int .u8 10] rfl rfl (cells_new x1 _ 5) (by simp [Value.oneCell']) (by unfold maxLen; omega) (by omega) (by simp; omega) ?_)
            intro v2 x2 hown2 hgrow2 _
            have OW2 : Hid (Own x2 w.heap.size v2 (pre ++ nums t ++ [13, 10])) := own_of hown2 (by simp at hn1 ⊢; omega) (by simp)
            have HBx2 : Hid (Below w.heap.size w x2) := (HBx1.out.alloc hsz1 _).trans (grown_own (by simp; omega) (own_keep ol1.out (keep x1 _)) hgrow2)
            clear hown2 hgrow2 hn1
            go_wp2
            go_roundw
            case rel => exact ⟨k + 1, by go_num, by omega, HTA.out hok, by rw [HX.out]; exact OW2.out, HBx2.out⟩
            case measure => simp [intOf]; omega
    · have dk : decide ((k : Int) < (len : Int)) = false := by simp; omega
      have HE : Hid (writeC ls = 0 ∧ writeB ls = outM (ls.take k)) := by
        have h1 : ls.take k = ls := List.take_of_length_le (by omega)
        have h2 := HA.out
        rw [h1] at h2 ⊢
        have h3 : writeC ls = 0 := by unfold writeC; rw [hn, if_neg h128, if_neg (by rw [h2]; simp)]
        exact ⟨h3, by unfold writeB; rw [h3]; rfl⟩
      go_wp2
      go_ret2
      exact ⟨u4, by rw [HE.out.1]; rfl, by rw [HE.out.2]; exact HO.out, HB.out⟩
end Go.Proofs.YtenclgnkogmgiaaDoor
namespace Go.Proofs.YtenclgnkogmgiaaDoor
open Go.RowKit
set_option linter.unusedVariables false

def dl2 (c : Int) : Bool := decide (c = 59) || decide (c = 58)
def dl3 (c : Int) : Bool := decide (c = 61) || (decide (c = 59) || decide (c = 58))
def valueQ (l : List Int) : Option (List Int × List Int) :=
  if signB 34 l = true then (if l.tail.contains 34 = true then some (l.tail.takeWhile fun c => !decide (c = 34), (l.tail.dropWhile fun c => !decide (c = 34)).tail) else none)
  else some (l.takeWhile fun c => !mkQ c, l.dropWhile fun c => !mkQ c)
def paramQ (l : List Int) : Option ((List Int × List Int) × List Int) :=
  if signB 61 (l.dropWhile fun c => !dl3 c) = true then (valueQ (l.dropWhile fun c => !dl3 c).tail).map fun x => (((l.takeWhile fun c => !dl3 c).map largeZ, x.1), x.2) else none
def parsQ : Nat → List (List Int × List Int) → List Int → Option (List (List Int × List Int) × List Int)
  | 0, _, _ => none
  | m + 1, acc, l =>
    if signB 59 l = true then
      match paramQ l.tail with
      | none => none
      | some (p, r) => parsQ m (acc ++ [p]) r
    else some (acc, l)
def oneQ (l : List Int) : Option Ln := oneF ((l.takeWhile fun c => !dl2 c).map largeZ) (parsQ (l.length + 1) [] (l.dropWhile fun c => !dl2 c))
theorem tw_nm {d : Int → Bool} (hd : ∀ c, nmC c = true → d c = false) : ∀ l : List Int, (l.takeWhile fun c => !d c).all nmC = true → (∀ c, d c = true → nmC c = false) → l.takeWhile nmC = (l.takeWhile fun c => !d c) ∧ l.dropWhile nmC = l.dropWhile fun c => !d c
  | [], _, _ => by simp
  | c :: l, h, h2 => by
    by_cases hc : d c = true
    · have := h2 c hc
      simp [hc, this]
    · have hc' : d c = false := by simpa using hc
      simp only [List.takeWhile_cons, hc', Bool.not_false, if_true, List.all_cons, Bool.and_eq_true] at h
      obtain ⟨i1, i2⟩ := tw_nm hd l h.2 h2
      simp [hc', h.1, i1, i2]
theorem dw_bad {d : Int → Bool} : ∀ l : List Int, (l.takeWhile fun c => !d c).all nmC = false → ∃ c r, l.dropWhile nmC = c :: r ∧ nmC c = false ∧ d c = false
  | [], h => by simp at h
  | c :: l, h => by
    by_cases hc : d c = true
    · simp [hc] at h
    · have hc' : d c = false := by simpa using hc
      simp only [List.takeWhile_cons, hc', Bool.not_false, if_true, List.all_cons] at h
      by_cases hn : nmC c = true
      · rw [hn, Bool.true_and] at h
        obtain ⟨x, r, h1, h2⟩ := dw_bad l h
        exact ⟨x, r, by simp [hn, h1], h2⟩
      · exact ⟨c, l, by simp [hn], by simpa using hn, hc'⟩
theorem bad_up {l : List Int} (h : l.all nmC = false) : (l.map largeZ).all upC = false := by
  induction l with
  | nil => simp at h
  | cons c l ih =>
    simp only [List.all_cons, List.map_cons] at h ⊢
    cases hn : nmC c with
    | true => rw [hn, Bool.true_and] at h; rw [ih h, Bool.and_false]
    | false =>
      have : upC (largeZ c) = false := by
        unfold nmC at hn
        simp at hn
        unfold upC largeZ
        split <;> simp <;> omega
      rw [this, Bool.false_and]
theorem nm_dl2 (c : Int) (h : nmC c = true) : dl2 c = false := by
  unfold nmC at h; unfold dl2; simp at h ⊢; omega
theorem nm_dl3 (c : Int) (h : nmC c = true) : dl3 c = false := by
  unfold nmC at h; unfold dl3; simp at h ⊢; omega
theorem dl2_nm (c : Int) (h : dl2 c = true) : nmC c = false := by
  cases hn : nmC c with
  | false => rfl
  | true => rw [nm_dl2 c hn] at h; cases h
theorem dl3_nm (c : Int) (h : dl3 c = true) : nmC c = false := by
  cases hn : nmC c with
  | false => rfl
  | true => rw [nm_dl3 c hn] at h; cases h
theorem dw_nil {p : Int → Bool} : ∀ l : List Int, (∀ x ∈ l, p x = true) → l.dropWhile p = []
  | [], _ => rfl
  | c :: l, h => by
    rw [List.dropWhile_cons, if_pos (h c (by simp))]
    exact dw_nil l (fun x hx => h x (by simp [hx]))
theorem value_rq {l : List Int} {y : List Int × List Int} (h : valueR l = some y) : valueQ l = some y := by
  unfold valueR at h
  unfold valueQ
  split
  · rename_i hs; rw [if_pos hs] at h; exact h
  · rename_i hs; rw [if_neg hs] at h
    split at h
    · exact h
    · cases h
theorem value_qr {l : List Int} {y : List Int × List Int} (h : valueQ l = some y) (hn : valueR l = none) : y.2 = [] := by
  unfold valueR at hn
  unfold valueQ at h
  split at h
  · rename_i hs; rw [if_pos hs] at hn; rw [hn] at h; cases h
  · rename_i hs; rw [if_neg hs] at hn
    split at hn
    · cases hn
    · rename_i ha
      cases h
      show l.dropWhile (fun c => !mkQ c) = []
      have : ∀ x ∈ l, (fun c => !mkQ c) x = true := by
        intro x hx
        cases hm : mkQ x with
        | false => simp [hm]
        | true => exact absurd (List.any_eq_true.2 ⟨x, hx, hm⟩) ha
      exact dw_nil l this
theorem param_name {l : List Int} : signB 61 (l.dropWhile nmC) = true → (l.takeWhile fun c => !dl3 c).all nmC = true := by
  intro h
  cases ha : (l.takeWhile fun c => !dl3 c).all nmC with
  | true => rfl
  | false =>
    obtain ⟨c, r, h1, h2, h3⟩ := dw_bad l ha
    rw [h1] at h
    simp [signB] at h
    subst h
    simp [dl3] at h3
theorem param_rq {l : List Int} {y} (h : paramR l = some y) : paramQ l = some y := by
  unfold paramR at h
  split at h
  · rename_i hs
    obtain ⟨e1, e2⟩ := tw_nm nm_dl3 l (param_name hs) dl3_nm
    rw [Option.map_eq_some_iff] at h
    obtain ⟨x, hx, rfl⟩ := h
    have e3 : signR 61 (l.dropWhile nmC) = (l.dropWhile nmC).tail := by unfold signR; rw [if_pos hs]
    unfold paramQ
    rw [← e2, ← e1, if_pos hs, ← e3, value_rq hx]
    rfl
  · cases h
theorem param_qr {l : List Int} {p : List Int × List Int} {r : List Int} (h : paramQ l = some (p, r)) (hn : paramR l = none) : p.1.all upC = false ∨ r = [] := by
  unfold paramQ at h
  split at h
  · rename_i hs
    rw [Option.map_eq_some_iff] at h
    obtain ⟨x, hx, h⟩ := h
    simp only [Prod.mk.injEq] at h
    obtain ⟨rfl, rfl⟩ := h
    cases ha : (l.takeWhile fun c => !dl3 c).all nmC with
    | false => exact .inl (bad_up ha)
    | true =>
      right
      obtain ⟨e1, e2⟩ := tw_nm nm_dl3 l ha dl3_nm
      unfold paramR at hn
      have e3 : signR 61 (l.dropWhile nmC) = (l.dropWhile nmC).tail := by unfold signR; rw [if_pos (by rw [e2]; exact hs)]
      rw [if_pos (by rw [e2]; exact hs), e3, e2, Option.map_eq_none_iff] at hn
      exact value_qr hx hn
  · cases h
theorem valueQ_len {l v t : List Int} (h : valueQ l = some (v, t)) : v.length + t.length ≤ l.length := by
  cases hv : valueR l with
  | some y => have := value_rq hv; rw [h] at this; cases this; exact value_len hv
  | none =>
    have e := value_qr h hv
    simp only at e
    subst e
    unfold valueQ at h
    split at h
    · rename_i hs
      unfold valueR at hv
      rw [if_pos hs] at hv; rw [hv] at h; cases h
    · simp only [Option.some.injEq, Prod.mk.injEq] at h
      obtain ⟨rfl, _⟩ := h
      have := tw_le (fun c => !mkQ c) l
      simpa using this
theorem paramQ_len {l : List Int} {p : List Int × List Int} {t : List Int} (h : paramQ l = some (p, t)) : p.1.length + p.2.length + t.length ≤ l.length := by
  unfold paramQ at h
  split at h
  · rw [Option.map_eq_some_iff] at h
    obtain ⟨⟨a, b⟩, h1, h2⟩ := h
    simp only [Prod.mk.injEq] at h2
    obtain ⟨rfl, rfl⟩ := h2
    have q1 := valueQ_len h1
    have q3 := congrArg List.length (List.takeWhile_append_dropWhile (p := fun c => !dl3 c) (l := l))
    simp only [List.length_append, List.length_map, List.length_tail] at q1 q3 ⊢
    omega
  · cases h
theorem parsQ_pre : ∀ (m : Nat) (acc : List (List Int × List Int)) (l : List Int) (ps : List (List Int × List Int)) (r : List Int), parsQ m acc l = some (ps, r) → ∃ t, ps = acc ++ t
  | 0, acc, l, ps, r, h => by simp [parsQ] at h
  | m + 1, acc, l, ps, r, h => by
    rw [parsQ] at h
    split at h
    · split at h
      · cases h
      · rename_i p x _
        obtain ⟨t, rfl⟩ := parsQ_pre m _ _ _ _ h
        exact ⟨p :: t, by simp⟩
    · simp only [Option.some.injEq, Prod.mk.injEq] at h
      obtain ⟨rfl, rfl⟩ := h
      exact ⟨[], by simp⟩
theorem right_false {nm v : List Int} {ps acc : List (List Int × List Int)} (h : (∃ p ∈ acc, p.1.all upC = false) ∨ 16 < acc.length) (t : List (List Int × List Int)) (e : ps = acc ++ t) : rightZ ⟨nm, ps, v⟩ = false := by
  subst e
  cases hr : rightZ ⟨nm, acc ++ t, v⟩ with
  | false => rfl
  | true =>
    exfalso
    unfold rightZ at hr
    simp only [Bool.and_eq_true, decide_eq_true_eq] at hr
    obtain ⟨⟨_, h16⟩, h4⟩ := hr
    rcases h with ⟨p, hp, h⟩ | h
    · have := right_pars _ _ h4 p (by simp [hp])
      unfold parZ nameZ at this
      simp only [Bool.and_eq_true] at this
      rw [this.1.1.2] at h
      cases h
    · rw [List.length_append] at h16; omega
theorem oneF_false {nm l : List Int} {m : Nat} {acc : List (List Int × List Int)} (h : (∃ p ∈ acc, p.1.all upC = false) ∨ 16 < acc.length) : oneF nm (parsQ m acc l) = none := by
  cases hq : parsQ m acc l with
  | none => rfl
  | some y =>
    obtain ⟨ps, r⟩ := y
    obtain ⟨t, e⟩ := parsQ_pre _ _ _ _ _ hq
    unfold oneF
    simp only [right_false h t e, Bool.false_eq_true, if_false, ite_self]
theorem pars_eq : ∀ (m : Nat) (acc : List (List Int × List Int)) (l nm : List Int) (k : Nat), l.length < m → acc.length + k = 17 → 0 < k → oneF nm (parsQ m acc l) = oneF nm (parsR k acc l)
  | 0, acc, l, nm, k, h, _, _ => by omega
  | m + 1, acc, l, nm, k, h, hk, h0 => by
    obtain ⟨k, rfl⟩ : ∃ j, k = j + 1 := ⟨k - 1, by omega⟩
    rw [parsQ, parsR]
    by_cases hs : signB 59 l = true
    · rw [if_pos hs, if_pos hs]
      have hl := congrArg List.length (sign_cons hs)
      rw [List.length_cons] at hl
      cases hR : paramR l.tail with
      | some y =>
        obtain ⟨p, r⟩ := y
        rw [param_rq hR]
        have hlen := paramQ_len (param_rq hR)
        simp only
        by_cases h16 : acc.length = 16
        · rw [if_pos h16, oneF_false (.inr (by simp; omega))]
          rfl
        · rw [if_neg h16]
          exact pars_eq m (acc ++ [p]) r nm k (by omega) (by simp; omega) (by omega)
      | none =>
        cases hQ : paramQ l.tail with
        | none => rfl
        | some y =>
          obtain ⟨p, r⟩ := y
          show oneF nm (parsQ m (acc ++ [p]) r) = none
          rcases param_qr hQ hR with hb | rfl
          · exact oneF_false (.inl ⟨p, by simp, hb⟩)
          · cases m with
            | zero => rfl
            | succ m => simp [parsQ, signB, oneF]
    · rw [if_neg hs, if_neg hs]
theorem one_eq (l : List Int) : oneQ l = oneR l := by
  rw [one_f]
  unfold oneQ
  have hlen : (l.dropWhile fun c => !dl2 c).length < l.length + 1 := by
    have q3 := congrArg List.length (List.takeWhile_append_dropWhile (p := fun c => !dl2 c) (l := l))
    rw [List.length_append] at q3
    omega
  cases ha : (l.takeWhile fun c => !dl2 c).all nmC with
  | true =>
    obtain ⟨e1, e2⟩ := tw_nm nm_dl2 l ha dl2_nm
    rw [e1, e2]
    exact pars_eq _ _ _ _ 17 hlen (by simp) (by omega)
  | false =>
    obtain ⟨c, r, h1, h2, h3⟩ := dw_bad l ha
    have e : oneF ((l.takeWhile nmC).map largeZ) (parsR 17 [] (l.dropWhile nmC)) = none := by
      rw [h1]
      have hc : c ≠ 59 ∧ c ≠ 58 := by unfold dl2 at h3; simp at h3; exact h3
      simp [parsR, signB, oneF, hc.1, hc.2]
    rw [e]
    cases hq : parsQ (l.length + 1) [] (l.dropWhile fun c => !dl2 c) with
    | none => rfl
    | some y =>
      obtain ⟨ps, x⟩ := y
      unfold oneF
      have : rightZ ⟨(l.takeWhile fun c => !dl2 c).map largeZ, ps, x.tail⟩ = false := by
        unfold rightZ nameZ
        rw [bad_up ha]
        simp
      simp only [this, Bool.false_eq_true, if_false, ite_self]
end Go.Proofs.YtenclgnkogmgiaaDoor
namespace Go.Proofs.YtenclgnkogmgiaaDoor
open Go.RowKit
set_option linter.unusedVariables false

theorem Tryd.info87 : (Tryd.prog.info? 87).map (fun i => (i.zero, i.size, i.bytes)) = some (some (.agg #[.int .i64 0, .slice none 0 0, .bool false]), 3, 40) := by kernel_rfl

/-- Does a pair begin at a place? -/
def pairB (zs : List Int) (i : Nat) : Bool := decide (pairI (zs.drop i) = 0)

theorem pairB_iff (zs : List Int) (i : Nat) : pairB zs i = true ↔ (zs[i]? = some 13 ∧ zs[i + 1]? = some 10) := by
  unfold pairB
  rw [decide_eq_true_eq]
  have h1 : (zs.drop i)[0]? = zs[i]? := by simp
  have h2 : (zs.drop i)[1]? = zs[i + 1]? := by simp
  rw [← h1, ← h2]
  generalize zs.drop i = l
  cases l with
  | nil => simp [pairI]
  | cons c l =>
    have hg := pairI_ge l
    unfold pairI
    by_cases q : c = 13 ∧ l.head? = some 10
    · rw [if_pos q]
      obtain ⟨rfl, q2⟩ := q
      cases l with
      | nil => simp at q2
      | cons d l => simp at q2 ⊢; exact q2
    · rw [if_neg q]
      constructor
      · intro h; split at h <;> omega
      · rintro ⟨q1, q2⟩
        exact absurd ⟨by simpa using q1, by cases l with | nil => simp at q2 | cons d l => simpa using q2⟩ q

set_option maxRecDepth 100000 in
set_option maxHeartbeats 1000000 in
theorem pair_ref (a : Option Addr) (len cap i : Nat) (zs : List Int) (w : World) (hl : zs.length = len) (hb : len ≤ 20000000) (hr : Row w a zs) (hi : i < len) :
    Calls Tryd.prog 81 #[.slice a len cap, .int .i64 (i : Nat)] w fun e w' => e = .returned (.bool (pairB zs i)) ∧ w = w' := by
  rcases hr with rfl | ⟨b, off, rfl, hc⟩
  · simp at hl; omega
  have hi0 : i < zs.length := by omega
  have hadd : (⟨b, off, none⟩ : Addr).add i = ⟨b, off + i, none⟩ := add_plain b off i
  have hadd1 : (⟨b, off, none⟩ : Addr).add (i + 1) = ⟨b, off + (i + 1), none⟩ := add_plain b off (i + 1)
  obtain ⟨x, hx⟩ : ∃ x, zs[i]'hi0 = x := ⟨_, rfl⟩
  have c0 : w.cell? ⟨b, off + i, none⟩ = some (.int .u8 x) := by rw [hc i hi0]; simp [List.getD_eq_getElem?_getD, List.getElem?_eq_getElem hi0, hx]
  have hx' : zs[i]? = some x := by rw [List.getElem?_eq_getElem hi0, hx]
  by_cases h1 : i + 1 < len
  · have hi1 : i + 1 < zs.length := by omega
    obtain ⟨y, hy⟩ : ∃ y, zs[i + 1]'hi1 = y := ⟨_, rfl⟩
    have c1 : w.cell? ⟨b, off + (i + 1), none⟩ = some (.int .u8 y) := by rw [hc (i + 1) hi1]; simp [List.getD_eq_getElem?_getD, List.getElem?_eq_getElem hi1, hy]
    have hy' : zs[i + 1]? = some y := by rw [List.getElem?_eq_getElem hi1, hy]
    have HV : Hid (pairB zs i = (x == 13 && y == 10)) := by
      unfold Hid
      rw [Bool.eq_iff_iff, pairB_iff, hx', hy']
      simp
    have hd : decide ((i : Int) + 1 < (len : Int)) = true := by simp; omega
    rw [HV.out]
    clear hc hx hy hx' hy' hi0 hi1 hl
    by_cases hx13 : x = 13
    · subst hx13
      go_enter Tryd.func81, Tryd.ntmps81
      go_wp2
      go_ret
      exact ⟨by simp, rfl⟩
    · have hx' : (x == 13) = false := by rw [beq_eq_false_iff_ne]; exact hx13
      go_enter Tryd.func81, Tryd.ntmps81
      go_wp2
      go_ret
      exact ⟨by simp [hx'], rfl⟩
  · have hd : decide ((i : Int) + 1 < (len : Int)) = false := by simp; omega
    have HV : Hid (pairB zs i = false) := by
      unfold Hid
      rw [Bool.eq_false_iff]
      intro h
      rw [pairB_iff, List.getElem?_eq_none (i := i + 1) (by omega)] at h
      simp at h
    rw [HV.out]
    clear hc hx hx' hi0 hl
    go_enter Tryd.func81, Tryd.ntmps81
    go_wp2
    go_ret
    exact ⟨rfl, rfl⟩

/-- A line as it lies in a row of lines. -/
def cellL (b off cap : Nat) (x : Nat × Nat × Bool) : List Value := [.int .i64 (x.1 : Nat), .slice (some ⟨b, off + x.1, none⟩) x.2.1 (cap - x.1), .bool x.2.2]
def OwnL (w : World) (B : Nat) (v : Value) (b off cap : Nat) (ls : List (Nat × Nat × Bool)) : Prop := w.ownsRow B 87 3 v ls.length (ls.flatMap (cellL b off cap))

theorem pairI_cons (c : Int) (l : List Int) : pairI (c :: l) = if c = 13 ∧ l.head? = some 10 then 0 else if pairI l = -1 then -1 else pairI l + 1 := rfl
theorem noP_step {zs : List Int} {frm i : Nat} (hi : i < zs.length) (h : pairI (zs.drop frm) = if pairI (zs.drop i) = -1 then -1 else pairI (zs.drop i) + ((i : Int) - frm)) (hp : pairB zs i = false) :
    pairI (zs.drop frm) = if pairI (zs.drop (i + 1)) = -1 then -1 else pairI (zs.drop (i + 1)) + (((i + 1 : Nat) : Int) - frm) := by
  rw [h]
  have hp' : ¬ pairI (zs.drop i) = 0 := by unfold pairB at hp; simpa using hp
  rw [List.drop_eq_getElem_cons hi] at hp' ⊢
  have hg := pairI_ge (zs.drop (i + 1))
  rw [pairI_cons] at hp' ⊢
  by_cases q : zs[i] = 13 ∧ (zs.drop (i + 1)).head? = some 10
  · rw [if_pos q] at hp'; exact absurd rfl hp'
  · rw [if_neg q]
    by_cases q2 : pairI (zs.drop (i + 1)) = -1
    · simp [q2]
    · rw [if_neg q2, if_neg (by omega), if_neg q2]; omega

theorem cellL_one (b off cap : Nat) (x : Nat × Nat × Bool) : ∀ u ∈ cellL b off cap x, u.oneCell' = true := by
  intro u hu
  simp [cellL] at hu
  rcases hu with rfl | rfl | rfl <;> rfl
theorem ownL_snoc {w : World} {B : Nat} {v : Value} {b off cap : Nat} {ls : List (Nat × Nat × Bool)} {x : Nat × Nat × Bool} (h : w.ownsRow B 87 3 v (ls.length + 1) (ls.flatMap (cellL b off cap) ++ cellL b off cap x)) : OwnL w B v b off cap (ls ++ [x]) := by
  unfold OwnL
  rw [List.length_append, List.flatMap_append]
  simpa using h

theorem app_line {ops : Array Oper} {rest : List Oper} {o : Oper} {a : Act} {Q : Exit → Act → World → Prop} (W : World) (hgd : o.guard = none) (s x : Operand)
    (ho : o.op = .call { callee := .builtin .append, args := #[s, x], argTypes := #[84, 84] }) (B : Nat) (v : Value) (b off cap : Nat) (ls : List (Nat × Nat × Bool)) (hs : a.eval s = v) (hown : OwnL W B v b off cap ls)
    (p n : Nat) (t : Bool) (hx : a.eval x = .slice (some ⟨W.heap.size, 0, none⟩) 1 1) (hlen : ls.length ≤ 3000000) (hB : B ≤ W.heap.size)
    (h : ∀ v' w', OwnL w' B v' b off cap (ls ++ [(p, n, t)]) → Below B W w' → wpList Tryd.prog ops Q rest (a.put o.dst v') w') :
    wpList Tryd.prog ops Q (o :: rest) a (W.alloc (.cells #[.int .i64 (p : Nat), .slice (some ⟨b, off + p, none⟩) n (cap - p), .bool t] 87)) := by
  obtain ⟨j0, hi, hz0, hz1, hz2⟩ := info_parts Tryd.info87
  refine wpList_append_own _ hgd s x 84 ho B 87 j0 _ 3 40 Tryd.underlying84 hi hz0 hz1 hz2 rfl (by decide) v ls.length (ls.flatMap (cellL b off cap)) hs (own_keep hown (keep W _)) ⟨W.heap.size, 0, none⟩ 1 1 (cellL b off cap (p, n, t)) hx rfl ?_ (cellL_one _ _ _ _) (by unfold maxLen; omega) (by omega) (by simp; omega) ?_
  · intro j u hu
    have hadd' : (⟨W.heap.size, 0, none⟩ : Addr).add j = ⟨W.heap.size, j, none⟩ := by rw [add_plain]; simp
    rw [hadd', World.cell?_alloc_mark]
    simpa [cellL] using hu
  · intro v2 w2 hown2 hgrow2 _
    refine h v2 w2 (ownL_snoc hown2) (((keep W _).mono hB).trans ((Below.refl _ _).grown hgrow2 (by simp; omega) ?_))
    intro k hk
    rcases hown.2 with ⟨rfl, _⟩ | ⟨g, cp, cur, rfl, h2, _⟩
    · simp [Value.ownBlock] at hk
    · simp [Value.ownBlock] at hk; omega

set_option maxRecDepth 100000 in
set_option maxHeartbeats 4000000 in
theorem lines_ref (a : Option Addr) (b off len cap : Nat) (zs : List Int) (w : World) (hl : zs.length = len) (hb : len ≤ 2000000) (hcap : len ≤ cap) (hmax : cap ≤ maxLen) (hr : Row w a zs) (ha : zs ≠ [] → a = some ⟨b, off, none⟩) :
    Calls Tryd.prog 57 #[.slice a len cap] w fun e w' => ∃ v, e = .returned v ∧ OwnL w' w.heap.size v b off cap (linesZ 0 zs) ∧ Below w.heap.size w w' := by
  obtain ⟨j0, hi, hz0, hz1, hz2⟩ := info_parts Tryd.info87
  have HR : Hid (Row w a zs) := hr
  have HL : Hid (zs.length = len) := hl
  have HA : Hid (zs ≠ [] → a = some ⟨b, off, none⟩) := ha
  unfold maxLen at hmax
  clear hr hl ha
  go_enter Tryd.func57, Tryd.ntmps57
  go_wp2_with fail
  go_loopw [3, 4, 5] (fun v f j wr => ∃ (frm i : Nat) (ls : List (Nat × Nat × Bool)), f = .int .i64 frm ∧ j = .int .i64 i ∧ frm ≤ i ∧ i ≤ len ∧ ls.length ≤ frm ∧ wr.ownsRow w.heap.size 87 3 v ls.length (ls.flatMap (cellL b off cap)) ∧ linesZ 0 zs = ls ++ linesZ frm (zs.drop frm) ∧ (pairI (zs.drop frm) = if pairI (zs.drop i) = -1 then -1 else pairI (zs.drop i) + ((i : Int) - frm)) ∧ Below w.heap.size w wr) (fun _ _ j _ => len - (intOf j).toNat)
  case atStart => exact ⟨0, 0, [], rfl, rfl, by omega, by omega, by simp, World.ownsRow_nil _ _ _ _, by simp, by simp, Below.refl _ _⟩
  case round =>
    obtain ⟨frm, i, ls, rfl, rfl, h1, h2, h3, hown, hlin, hnp, hbel⟩ := hrel
    have HO : Hid (wr.ownsRow w.heap.size 87 3 u3 ls.length (ls.flatMap (cellL b off cap))) := hown
    have HLN : Hid (linesZ 0 zs = ls ++ linesZ frm (zs.drop frm)) := hlin
    have HNP : Hid (pairI (zs.drop frm) = if pairI (zs.drop i) = -1 then -1 else pairI (zs.drop i) + ((i : Int) - frm)) := hnp
    have HB : Hid (Below w.heap.size w wr) := hbel
    have hsz : w.heap.size ≤ wr.heap.size := hbel.size
    clear hown hlin hnp hbel
    by_cases hlt : i < len
    · have hd : decide ((i : Int) < (len : Int)) = true := by simp; omega
      have hne : zs ≠ [] := by intro h; have := HL.out; rw [h] at this; simp at this; omega
      obtain rfl := HA.out hne
      have hPr := pair_ref (some ⟨b, off, none⟩) len cap i zs wr HL.out (by omega) (row_below HR.out HB.out) hlt
      by_cases hp : pairB zs i = true
      · rw [hp] at hPr
        have hroom := pairI_room (zs.drop i) (by have := hp; unfold pairB at this; simp at this; omega)
        have hp0 : pairI (zs.drop i) = 0 := by have := hp; unfold pairB at this; simpa using this
        rw [List.length_drop, HL.out, hp0] at hroom
        have hfr : pairI (zs.drop frm) = (i : Int) - frm := by rw [HNP.out, hp0]; simp
        have HST : Hid (linesZ frm (zs.drop frm) = (frm, i - frm, true) :: linesZ (i + 2) (zs.drop (i + 2))) := by
          unfold Hid
          rw [linesZ_pair frm (zs.drop frm) (by omega), hfr, List.drop_drop]
          rw [show ((i : Int) - frm).toNat = i - frm from by omega, show frm + (i - frm) + 2 = i + 2 from by omega, show frm + (i - frm + 2) = i + 2 from by omega]
        have hi2 : i + 2 ≤ len := by omega
        clear hp hp0 hroom hfr
        have hadd : (⟨b, off, none⟩ : Addr).add frm = ⟨b, off + frm, none⟩ := add_plain b off frm
        have hfc : ¬ cap = frm := by omega
        go_wp2_with fail
        refine hPr.mono ?_
        clear hPr
        rintro e w' ⟨rfl, rfl⟩
        go_wp2_with (at_builtin; refine app_line wr rfl (.tmp 15) (.tmp 22) rfl w.heap.size u3 b off cap ls rfl HO.out frm (i - frm) true rfl (by omega) hsz ?_)
        intro v2 w2 hO2 hB2
        have HB2 : Hid (Below w.heap.size w w2) := HB.out.trans hB2
        have HO2 : Hid (OwnL w2 w.heap.size v2 b off cap (ls ++ [(frm, i - frm, true)])) := hO2
        clear hO2 hB2
        go_wp2
        go_roundw
        case rel => exact ⟨i + 2, i + 2, ls ++ [(frm, i - frm, true)], by rw [show ((i + 2 : Nat) : Int) = (i : Int) + 1 + 1 from by omega], by rw [show ((i + 2 : Nat) : Int) = (i : Int) + 1 + 1 from by omega], by omega, hi2, by simp; omega, HO2.out, by rw [HLN.out, HST.out]; simp, by simp, HB2.out⟩
        case measure => simp [intOf]; omega
      · have hp' : pairB zs i = false := by simpa using hp
        rw [hp'] at hPr
        have HN2 := noP_step (by have := HL.out; omega) HNP.out hp'
        have HNH : Hid _ := HN2
        clear HN2 hp hp'
        go_wp2_with fail
        refine hPr.mono ?_
        clear hPr
        rintro e w' ⟨rfl, rfl⟩
        go_wp2
        go_roundw
        case rel => exact ⟨frm, i + 1, ls, rfl, by rw [show ((i + 1 : Nat) : Int) = (i : Int) + 1 from by omega], by omega, by omega, h3, HO.out, HLN.out, HNH.out, HB.out⟩
        case measure => simp [intOf]; omega
    · have hd : decide ((i : Int) < (len : Int)) = false := by simp; omega
      have hno : pairI (zs.drop frm) = -1 := by
        rw [HNP.out, List.drop_eq_nil_of_le (by have := HL.out; omega)]; rfl
      by_cases hf : frm < len
      · have hd2 : decide ((frm : Int) < (len : Int)) = true := by simp; omega
        have hne : zs ≠ [] := by intro h; have := HL.out; rw [h] at this; simp at this; omega
        obtain rfl := HA.out hne
        have hadd : (⟨b, off, none⟩ : Addr).add frm = ⟨b, off + frm, none⟩ := add_plain b off frm
        have hfc : ¬ cap = frm := by omega
        have HST : Hid (linesZ frm (zs.drop frm) = [(frm, len - frm, false)]) := by
          unfold Hid
          have hl := HL.out
          rw [linesZ_last frm _ (by intro h; have := congrArg List.length h; simp at this; omega) (by omega), List.length_drop, hl]
        go_wp2_with (at_builtin; refine app_line wr rfl (.tmp 32) (.tmp 38) rfl w.heap.size u3 b off cap ls rfl HO.out frm (len - frm) false rfl (by omega) hsz ?_)
        intro v2 w2 hO2 hB2
        have HB2 : Hid (Below w.heap.size w w2) := HB.out.trans hB2
        have HO2 : Hid (OwnL w2 w.heap.size v2 b off cap (ls ++ [(frm, len - frm, false)])) := hO2
        clear hO2 hB2
        go_wp2
        go_ret
        exact ⟨v2, rfl, by rw [HLN.out, HST.out]; exact HO2.out, HB2.out⟩
      · have hd2 : decide ((frm : Int) < (len : Int)) = false := by simp; omega
        have HST : Hid (linesZ 0 zs = ls) := by
          unfold Hid
          rw [HLN.out, List.drop_eq_nil_of_le (by have := HL.out; omega), linesZ_nil, List.append_nil]
        go_wp2
        go_ret
        exact ⟨u3, rfl, by rw [HST.out]; exact HO.out, HB.out⟩
end Go.Proofs.YtenclgnkogmgiaaDoor
namespace Go.Proofs.YtenclgnkogmgiaaDoor
open Go.RowKit
set_option linter.unusedVariables false

theorem map_take_snoc (f : Int → Int) (l : List Int) (k : Nat) (c : Int) (h : l[k]? = some c) : (l.take (k + 1)).map f = (l.take k).map f ++ [f c] := by
  rw [List.take_add_one, h]; simp
set_option maxHeartbeats 8000000 in
set_option maxRecDepth 100000 in
theorem rupper_any (s : ByteArray) (w : World) (hs : s.size ≤ 1000000000) : Calls Tryd.prog 59 #[.string s] w fun e w' => e = .returned (.string (strOfNums ((nums s).map largeZ))) ∧ Below w.heap.size w w' := by
  obtain ⟨j0, hi, hz0, hz1, hz2⟩ := info_parts Tryd.info5
  go_enter Tryd.func59, Tryd.ntmps59
  go_wp2
  go_loopw [4, 3, 5] (fun i v c wr => ∃ k : Nat, i = .int .i64 k ∧ k ≤ s.size ∧ Own wr w.heap.size v (((nums s).take k).map largeZ) ∧ Below w.heap.size w wr) (fun i _ _ _ => s.size - (intOf i).toNat)
  case atStart => exact ⟨0, rfl, by omega, ⟨rfl, .inl ⟨rfl, rfl⟩⟩, Below.refl _ _⟩
  case round =>
    obtain ⟨k, rfl, hk, hown, hb⟩ := hrel
    obtain ⟨pre, hpre⟩ : ∃ pre, ((nums s).take k).map largeZ = pre := ⟨_, rfl⟩
    have hle : pre.length ≤ k := by rw [← hpre, List.length_map, List.length_take]; omega
    rw [hpre] at hown
    have HPR : Hid (((nums s).take k).map largeZ = pre) := hpre
    have HO : Hid (Own wr w.heap.size u3 pre) := hown
    have HB : Hid (Below w.heap.size w wr) := hb
    clear hpre
    have hsz := hb.size
    clear hown hb
    by_cases hlt : k < s.size
    · have hc1 : (s[k].toNat : Int) < 256 := by have := s[k].toNat_lt; omega
      have hc0 : (0 : Int) ≤ (s[k].toNat : Int) := by omega
      have HT : Hid ((nums s)[k]? = some (s[k].toNat : Int)) := nums_at s k hlt
      obtain ⟨c, hc⟩ : ∃ c : Int, ((s[k]'hlt).toNat : Int) = c := ⟨_, rfl⟩
      rw [hc] at HT hc1 hc0
      have HE := map_take_snoc largeZ (nums s) k c HT.out
      rw [HPR.out] at HE
      by_cases hq : 97 ≤ c ∧ c ≤ 122
      · have e1 : decide (97 ≤ c) = true := decide_eq_true hq.1
        have e2 : decide (c ≤ 122) = true := decide_eq_true hq.2
        have hw : IntKind.u8.wrap (c - 32) = c - 32 := by rw [IntKind.wrap_u8]; omega
        have hlz : largeZ c = c - 32 := by unfold largeZ; rw [if_pos hq]
        rw [hlz] at HE
        have HE' : Hid (((nums s).take (k + 1)).map largeZ = pre ++ [c - 32]) := HE
        clear HE hlz
        go_wp2_with (at_builtin; refine wpList_append_own _ rfl (.tmp 23) (.tmp 25) 29 rfl w.heap.size 5 j0 _ 1 1 Tryd.underlying29 hi hz0 hz1 hz2 rfl (by decide) u3 _ _ rfl (own_keep HO.out (keep _ _)) ⟨wr.heap.size, 0, none⟩ 1 1 [.int .u8 (c - 32)] rfl rfl ?a0 ?a4 ?a1 ?a2 ?a3 ?_)
        try case a0 => exact cells_new wr [.int .u8 (c - 32)] 5
        case a4 => first | exact ints_one [c - 32] | rfl | (intro u hu; simp at hu; subst hu; rfl)
        case a1 => unfold maxLen; omega
        case a2 => omega
        case a3 => first | omega | (simp; omega)
        intro v' w2 hown2 hgrow2 _
        have HO2 : Hid (Own w2 w.heap.size v' (((nums s).take (k + 1)).map largeZ)) := by
          have := own_snoc (m := [c - 32]) hown2
          unfold Hid; rw [HE'.out]; exact this
        have HB2 : Hid (Below w.heap.size w w2) := (HB.out.alloc HB.out.size _).grown hgrow2 (HB.out.alloc HB.out.size _).size (fun j hj => (HO.out.lt j hj).1)
        clear hown2 hgrow2
        go_wp2
        go_roundw
        case rel => exact ⟨k + 1, by go_num, by omega, HO2.out, HB2.out⟩
        case measure => simp [intOf]; omega
      · have HE' : Hid (((nums s).take (k + 1)).map largeZ = pre ++ [c]) := by
          unfold Hid; rw [HE]; unfold largeZ; rw [if_neg hq]
        clear HE
        by_cases q1 : 97 ≤ c
        · have e1 : decide (97 ≤ c) = true := decide_eq_true q1
          have e2 : decide (c ≤ 122) = false := decide_eq_false (by omega)
          go_wp2_with (at_builtin; refine wpList_append_own _ rfl (.tmp 23) (.tmp 25) 29 rfl w.heap.size 5 j0 _ 1 1 Tryd.underlying29 hi hz0 hz1 hz2 rfl (by decide) u3 _ _ rfl (own_keep HO.out (keep _ _)) ⟨wr.heap.size, 0, none⟩ 1 1 [.int .u8 (c)] rfl rfl ?a0 ?a4 ?a1 ?a2 ?a3 ?_)
          try case a0 => exact cells_new wr [.int .u8 (c)] 5
          case a4 => first | exact ints_one [c] | rfl | (intro u hu; simp at hu; subst hu; rfl)
          case a1 => unfold maxLen; omega
          case a2 => omega
          case a3 => first | omega | (simp; omega)
          intro v' w2 hown2 hgrow2 _
          have HO2 : Hid (Own w2 w.heap.size v' (((nums s).take (k + 1)).map largeZ)) := by
            have := own_snoc (m := [c]) hown2
            unfold Hid; rw [HE'.out]; exact this
          have HB2 : Hid (Below w.heap.size w w2) := (HB.out.alloc HB.out.size _).grown hgrow2 (HB.out.alloc HB.out.size _).size (fun j hj => (HO.out.lt j hj).1)
          clear hown2 hgrow2
          go_wp2
          go_roundw
          case rel => exact ⟨k + 1, by go_num, by omega, HO2.out, HB2.out⟩
          case measure => simp [intOf]; omega
        · have e1 : decide (97 ≤ c) = false := decide_eq_false q1
          go_wp2_with (at_builtin; refine wpList_append_own _ rfl (.tmp 23) (.tmp 25) 29 rfl w.heap.size 5 j0 _ 1 1 Tryd.underlying29 hi hz0 hz1 hz2 rfl (by decide) u3 _ _ rfl (own_keep HO.out (keep _ _)) ⟨wr.heap.size, 0, none⟩ 1 1 [.int .u8 (c)] rfl rfl ?a0 ?a4 ?a1 ?a2 ?a3 ?_)
          try case a0 => exact cells_new wr [.int .u8 (c)] 5
          case a4 => first | exact ints_one [c] | rfl | (intro u hu; simp at hu; subst hu; rfl)
          case a1 => unfold maxLen; omega
          case a2 => omega
          case a3 => first | omega | (simp; omega)
          intro v' w2 hown2 hgrow2 _
          have HO2 : Hid (Own w2 w.heap.size v' (((nums s).take (k + 1)).map largeZ)) := by
            have := own_snoc (m := [c]) hown2
            unfold Hid; rw [HE'.out]; exact this
          have HB2 : Hid (Below w.heap.size w w2) := (HB.out.alloc HB.out.size _).grown hgrow2 (HB.out.alloc HB.out.size _).size (fun j hj => (HO.out.lt j hj).1)
          clear hown2 hgrow2
          go_wp2
          go_roundw
          case rel => exact ⟨k + 1, by go_num, by omega, HO2.out, HB2.out⟩
          case measure => simp [intOf]; omega
    · have HPE : Hid (pre = (nums s).map largeZ) := by
        have := HPR.out
        rw [List.take_of_length_le (by rw [nums_len]; omega)] at this
        exact this.symm
      obtain ⟨a2, cap2, rfl, _, _, hrow, _⟩ := row_of_own HO.out
      have kc2 := conv_row _ cap2 rfl hrow
      clear hrow
      go_wp2
      go_ret
      exact ⟨by rw [← HPE.out]; rfl, HB.out⟩
set_option maxHeartbeats 4000000 in
set_option maxRecDepth 100000 in
theorem place_any (s ends : ByteArray) (p : Nat) (w : World) (hs : s.size ≤ 1000000000) (he : ends.size ≤ 100) (hp : p ≤ s.size) :
    Calls Tryd.prog 82 #[.string s, .int .i64 (p : Nat), .string ends] w fun e w' => e = .returned (.int .i64 ((p + (((nums s).drop p).takeWhile fun c => !decide (c ∈ nums ends)).length : Nat) : Int)) ∧ w = w' := by
  go_enter Tryd.func82, Tryd.ntmps82
  go_wp2
  go_loopw [1] (fun i wr => ∃ k : Nat, i = .int .i64 k ∧ k ≤ s.size ∧ k + (((nums s).drop k).takeWhile fun c => !decide (c ∈ nums ends)).length = p + (((nums s).drop p).takeWhile fun c => !decide (c ∈ nums ends)).length ∧ w = wr) (fun i _ => s.size - (intOf i).toNat)
  case atStart => exact ⟨p, rfl, hp, rfl, rfl⟩
  case round =>
    obtain ⟨k, rfl, hk, hh, rfl⟩ := hrel
    obtain ⟨r, hr⟩ : ∃ r, p + (((nums s).drop p).takeWhile fun c => !decide (c ∈ nums ends)).length = r := ⟨_, rfl⟩
    rw [hr] at hh
    have HRR : Hid (p + (((nums s).drop p).takeWhile fun c => !decide (c ∈ nums ends)).length = r) := hr
    clear hr
    by_cases hlt : k < s.size
    · have hd := nums_drop s k hlt
      have k0 : (0 : Int) ≤ (k : Int) := by omega
      have k1 : (k : Int) ≤ (k : Int) + 1 := by omega
      have k2 : (k : Int) + 1 ≤ (s.size : Int) := by omega
      have k3 : ((k : Int) + 1).toNat = k + 1 := by omega
      obtain ⟨c, hc⟩ : ∃ c : Int, ((s[k]'hlt).toNat : Int) = c := ⟨_, rfl⟩
      have hx : nums (s.extract k (k + 1)) = [c] := by
        rw [nums_extract, show k + 1 - k = 1 by omega, hd]; simp [hc]
      have hhas := has_any ends (s.extract k (k + 1)) w (by omega) (by rw [← nums_len, hx]; simp) (by rw [← nums_len, hx]; simp)
      rw [hx, has_one] at hhas
      rw [hd] at hh
      rw [hc] at hh
      clear hd hx
      by_cases hin : c ∈ nums ends
      · rw [decide_eq_true hin] at hhas
        have hh2 : k = r := by
          rw [List.takeWhile_cons, decide_eq_true hin] at hh
          simpa using hh
        clear hh
        subst hh2
        go_wp2_with (go_at_call 70; refine hhas.mono ?_; rintro e w2 ⟨rfl, rfl⟩)
        go_ret
        exact ⟨by rw [HRR.out]; rfl, rfl⟩
      · rw [decide_eq_false hin] at hhas
        have HH : Hid (k + 1 + (((nums s).drop (k + 1)).takeWhile fun c => !decide (c ∈ nums ends)).length = r) := by
          rw [List.takeWhile_cons, decide_eq_false hin] at hh
          unfold Hid
          simp only [Bool.not_false, if_true, List.length_cons] at hh
          omega
        clear hh
        go_wp2_with (go_at_call 70; refine hhas.mono ?_; rintro e w2 ⟨rfl, rfl⟩)
        go_roundw
        case rel => exact ⟨k + 1, by go_num, by omega, HH.out.trans HRR.out.symm, by first | trivial | rfl⟩
        case measure => simp [intOf]; omega
    · have hh2 : k = r := by
        rw [List.drop_of_length_le (by rw [nums_len]; omega)] at hh
        simpa using hh
      clear hh
      subst hh2
      go_wp2
      go_ret
      exact ⟨by rw [HRR.out]; rfl, rfl⟩
theorem folds_ref (l : List Int) (k : Nat) : foldsZ (l.drop k) = (pairB l k && (decide (l[k + 2]? = some 32) || decide (l[k + 2]? = some 9))) := by
  unfold foldsZ
  have h1 : decide ((l.drop k).take 2 = [13, 10]) = pairB l k := by
    rw [Bool.eq_iff_iff, decide_eq_true_eq, pairB_iff]
    constructor
    · intro h
      have h0 := congrArg (·[0]?) h
      have h1 := congrArg (·[1]?) h
      simp only [List.getElem?_take, List.getElem?_drop] at h0 h1
      simpa using ⟨h0, h1⟩
    · rintro ⟨h0, h1⟩
      have hlt := (List.getElem?_eq_some_iff.1 h1).1
      have e0 := (List.getElem?_eq_some_iff.1 h0).2
      have e1 := (List.getElem?_eq_some_iff.1 h1).2
      rw [List.drop_eq_getElem_cons (by omega), List.drop_eq_getElem_cons (i := k + 1) (by omega), e0, e1]
      simp
  rw [h1, List.getElem?_drop]
set_option maxHeartbeats 8000000 in
set_option maxRecDepth 100000 in
theorem runfold_any (a : Option Addr) (len cap : Nat) (l : List Int) (w : World) (hl : l.length = len) (hb : Byt l) (hbig : len ≤ 10000000) (hcap : len ≤ cap) (hcm : cap ≤ maxLen) (hr : Row w a l) :
    Calls Tryd.prog 55 #[.slice a len cap] w fun e w' => ∃ v, e = .returned v ∧ Own w' w.heap.size v (unfoldZ l) ∧ Below w.heap.size w w' := by
  obtain ⟨j0, hi, hz0, hz1, hz2⟩ := info_parts Tryd.info5
  have HL : Hid (l.length = len) := hl
  have HB : Hid (Byt l) := hb
  have HRW : Hid (Row w a l) := hr
  clear hl hb hr hcm
  go_enter Tryd.func55, Tryd.ntmps55
  go_wp2
  go_loopw [4, 3] (fun i v wr => ∃ (k : Nat) (pre : List Int), i = .int .i64 k ∧ k ≤ len + 2 ∧ Own wr w.heap.size v pre ∧ pre.length ≤ k ∧ pre ++ unfoldZ (l.drop k) = unfoldZ l ∧ Below w.heap.size w wr) (fun i _ _ => len + 3 - (intOf i).toNat)
  case atStart => exact ⟨0, [], rfl, by omega, ⟨rfl, .inl ⟨rfl, rfl⟩⟩, by simp, by simp, Below.refl _ _⟩
  case round =>
    obtain ⟨k, pre, rfl, hk, hown, hpl, hun, hb⟩ := hrel
    have HO : Hid (Own wr w.heap.size u3 pre) := hown
    have HU : Hid (pre ++ unfoldZ (l.drop k) = unfoldZ l) := hun
    have HBl : Hid (Below w.heap.size w wr) := hb
    have hsz := hb.size
    clear hown hun hb
    by_cases hlt : k < len
    · have dl : decide ((k : Int) < (len : Int)) = true := by simp; omega
      have hlk : k < l.length := by rw [HL.out]; exact hlt
      have HD : Hid (l.drop k = l[k] :: l.drop (k + 1)) := List.drop_eq_getElem_cons hlk
      obtain ⟨c, hc⟩ : ∃ c, l[k] = c := ⟨_, rfl⟩
      rw [hc] at HD
      have hcb : 0 ≤ c ∧ c < 256 := HB.out c (by rw [← hc]; exact List.getElem_mem hlk)
      have hRk := row_below HRW.out HBl.out
      have hpr := pair_ref a len cap k l wr HL.out (by omega) hRk hlt
      have hfr := folds_ref l k
      obtain ⟨b, off, rfl, hcells⟩ : ∃ b off, a = some ⟨b, off, none⟩ ∧ ∀ i, i < l.length → wr.cell? ⟨b, off + i, none⟩ = some (.int .u8 (l.getD i 0)) := by
        rcases hRk with h | h
        · rw [h] at hlk; simp at hlk
        · exact h
      have hck : wr.cell? ⟨b, off + k, none⟩ = some (.int .u8 c) := by
        rw [hcells k hlk, List.getD_eq_getElem?_getD, List.getElem?_eq_getElem hlk, hc]; rfl
      have hadd : (⟨b, off, none⟩ : Addr).add k = ⟨b, off + k, none⟩ := add_plain b off k
      have plain : ∀ (HF : foldsZ (l.drop k) = false), Hid ((pre ++ [c]) ++ unfoldZ (l.drop (k + 1)) = unfoldZ l) := by
        intro hfz
        unfold Hid
        have := HU.out
        rw [HD.out] at this hfz
        rw [unf_plain hfz] at this
        rw [← this]; simp
      have fold : ∀ (HF : foldsZ (l.drop k) = true), Hid (pre ++ unfoldZ (l.drop (k + 3)) = unfoldZ l) := by
        intro hfz
        unfold Hid
        have := HU.out
        rw [HD.out] at this hfz
        rw [unf_fold hfz, ← HD.out, List.drop_drop] at this
        exact this
      by_cases hpb : pairB l k = true
      · rw [hpb] at hpr hfr
        by_cases h2 : k + 2 < len
        · have hl2 : k + 2 < l.length := by rw [HL.out]; exact h2
          have d2 : decide ((k : Int) + 2 < (len : Int)) = true := by simp; omega
          obtain ⟨e, hex⟩ : ∃ e, l[k + 2] = e := ⟨_, rfl⟩
          have hce : wr.cell? ⟨b, off + (k + 2), none⟩ = some (.int .u8 e) := by
            rw [hcells (k + 2) hl2, List.getD_eq_getElem?_getD, List.getElem?_eq_getElem hl2, hex]; rfl
          have hadd2 : (⟨b, off, none⟩ : Addr).add (k + 2) = ⟨b, off + (k + 2), none⟩ := add_plain b off (k + 2)
          have k22 : ((k : Int) + 2).toNat = k + 2 := by omega
          rw [List.getElem?_eq_getElem hl2, hex] at hfr
          by_cases q1 : e = 32
          · subst q1
            have HU2 := fold (by rw [hfr]; simp)
            clear plain fold hfr hcells hc hex
            go_wp2_with (go_at_call 81; refine hpr.mono ?_; rintro e w2 ⟨rfl, rfl⟩)
            go_roundw
            case rel => exact ⟨k + 3, pre, by go_num, by omega, HO.out, by omega, HU2.out, HBl.out⟩
            case measure => simp [intOf]; omega
          · have e1 : (e == 32) = false := by rw [beq_eq_false_iff_ne]; exact q1
            by_cases q2 : e = 9
            · subst q2
              have HU2 := fold (by rw [hfr]; simp)
              clear plain fold hfr hcells hc hex
              go_wp2_with (go_at_call 81; refine hpr.mono ?_; rintro e w2 ⟨rfl, rfl⟩)
              go_roundw
              case rel => exact ⟨k + 3, pre, by go_num, by omega, HO.out, by omega, HU2.out, HBl.out⟩
              case measure => simp [intOf]; omega
            · have e2 : (e == 9) = false := by rw [beq_eq_false_iff_ne]; exact q2
              have HU2 := plain (by rw [hfr]; simp [q1, q2])
              clear plain fold hfr hcells hc hex
              go_wp2_with fail
              refine hpr.mono ?_
              rintro e' w2 ⟨rfl, rfl⟩
              clear hpr
              go_wp2_with (at_builtin; refine wpList_append_own _ rfl (.tmp 39) (.tmp 44) 29 rfl w.heap.size 5 j0 _ 1 1 Tryd.underlying29 hi hz0 hz1 hz2 rfl (by decide) u3 _ _ rfl (own_keep HO.out (keep _ _)) ⟨wr.heap.size, 0, none⟩ 1 1 [.int .u8 c] rfl rfl ?a0 ?a4 ?a1 ?a2 ?a3 ?_)
              case a0 => exact cells_new wr [.int .u8 c] 5
              case a4 => exact ints_one [c]
              case a1 => unfold maxLen; omega
              case a2 => omega
              case a3 => first | omega | (simp; omega)
              intro v' w3 hown3 hgrow3 _
              have HO3 : Hid (Own w3 w.heap.size v' (pre ++ [c])) := own_snoc (m := [c]) hown3
              have HB3 : Hid (Below w.heap.size w w3) := (HBl.out.alloc HBl.out.size _).grown hgrow3 (HBl.out.alloc HBl.out.size _).size (fun j hj => (HO.out.lt j hj).1)
              clear hown3 hgrow3
              go_wp2
              go_roundw
              case rel => exact ⟨k + 1, pre ++ [c], by go_num, by omega, HO3.out, by simp; omega, HU2.out, HB3.out⟩
              case measure => simp [intOf]; omega
        · have d2 : decide ((k : Int) + 2 < (len : Int)) = false := by simp; omega
          have HU2 := plain (by rw [hfr, List.getElem?_eq_none (by rw [HL.out]; omega)]; simp)
          clear plain fold hfr hcells hc
          go_wp2_with fail
          refine hpr.mono ?_
          rintro e' w2 ⟨rfl, rfl⟩
          clear hpr
          go_wp2_with (at_builtin; refine wpList_append_own _ rfl (.tmp 39) (.tmp 44) 29 rfl w.heap.size 5 j0 _ 1 1 Tryd.underlying29 hi hz0 hz1 hz2 rfl (by decide) u3 _ _ rfl (own_keep HO.out (keep _ _)) ⟨wr.heap.size, 0, none⟩ 1 1 [.int .u8 c] rfl rfl ?a0 ?a4 ?a1 ?a2 ?a3 ?_)
          case a0 => exact cells_new wr [.int .u8 c] 5
          case a4 => exact ints_one [c]
          case a1 => unfold maxLen; omega
          case a2 => omega
          case a3 => first | omega | (simp; omega)
          intro v' w3 hown3 hgrow3 _
          have HO3 : Hid (Own w3 w.heap.size v' (pre ++ [c])) := own_snoc (m := [c]) hown3
          have HB3 : Hid (Below w.heap.size w w3) := (HBl.out.alloc HBl.out.size _).grown hgrow3 (HBl.out.alloc HBl.out.size _).size (fun j hj => (HO.out.lt j hj).1)
          clear hown3 hgrow3
          go_wp2
          go_roundw
          case rel => exact ⟨k + 1, pre ++ [c], by go_num, by omega, HO3.out, by simp; omega, HU2.out, HB3.out⟩
          case measure => simp [intOf]; omega
      · rw [Bool.not_eq_true] at hpb
        rw [hpb] at hpr hfr
        have HU2 := plain (by rw [hfr]; simp)
        clear plain fold hfr hcells hc
        go_wp2_with fail
        refine hpr.mono ?_
        rintro e' w2 ⟨rfl, rfl⟩
        clear hpr
        go_wp2_with (at_builtin; refine wpList_append_own _ rfl (.tmp 39) (.tmp 44) 29 rfl w.heap.size 5 j0 _ 1 1 Tryd.underlying29 hi hz0 hz1 hz2 rfl (by decide) u3 _ _ rfl (own_keep HO.out (keep _ _)) ⟨wr.heap.size, 0, none⟩ 1 1 [.int .u8 c] rfl rfl ?a0 ?a4 ?a1 ?a2 ?a3 ?_)
        case a0 => exact cells_new wr [.int .u8 c] 5
        case a4 => exact ints_one [c]
        case a1 => unfold maxLen; omega
        case a2 => omega
        case a3 => first | omega | (simp; omega)
        intro v' w3 hown3 hgrow3 _
        have HO3 : Hid (Own w3 w.heap.size v' (pre ++ [c])) := own_snoc (m := [c]) hown3
        have HB3 : Hid (Below w.heap.size w w3) := (HBl.out.alloc HBl.out.size _).grown hgrow3 (HBl.out.alloc HBl.out.size _).size (fun j hj => (HO.out.lt j hj).1)
        clear hown3 hgrow3
        go_wp2
        go_roundw
        case rel => exact ⟨k + 1, pre ++ [c], by go_num, by omega, HO3.out, by simp; omega, HU2.out, HB3.out⟩
        case measure => simp [intOf]; omega
    · have dl : decide ((k : Int) < (len : Int)) = false := by simp; omega
      have hpe : pre = unfoldZ l := by
        have := HU.out
        rw [List.drop_of_length_le (by rw [HL.out]; omega)] at this
        simpa [unfoldZ, unfK] using this
      subst hpe
      go_wp2
      go_ret
      exact ⟨_, rfl, HO.out, HBl.out⟩
end Go.Proofs.YtenclgnkogmgiaaDoor
