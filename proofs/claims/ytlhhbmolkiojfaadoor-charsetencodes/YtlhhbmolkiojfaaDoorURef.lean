/-
  The contracts of the reference's Put, Next, Points, Valid and Cut.
-/
import Derived.Test.YtlhhbmolkiojfaaDoorUValid
import Derived.Test.YtlhhbmolkiojfaaDoorBase
import Derived.Test.YtlhhbmolkiojfaaDoorUPoints
import Derived.Test.YtlhhbmolkiojfaaDoorUFlat
namespace Go.Proofs.YtlhhbmolkiojfaaDoor.Ut
open Go.RowKit
set_option linter.unusedVariables false

theorem own_row' {w : World} {B : Nat} {e : TypeId} {k : IntKind} {v : Value} {l : List Int} (h : w.ownsRow B e 1 v l.length (l.map (Value.int k))) :
    ∃ a cap, v = .slice a l.length cap ∧ l.length ≤ cap ∧ cap ≤ maxLen ∧ RowK k w a l ∧ (a = none → cap = 0) := by
  rcases h.2 with ⟨rfl, hn⟩ | ⟨g, cap, cur, rfl, hb, hg, hn, hm, hs, ht⟩
  · exact ⟨none, 0, by rw [hn], by omega, by simp [maxLen], .inl (List.eq_nil_of_length_eq_zero hn), fun _ => rfl⟩
  · refine ⟨some ⟨g, 0, none⟩, cap, rfl, hn, hm, .inr ⟨g, 0, rfl, fun i hi => ?_⟩, by simp⟩
    have hc := h.cells (g := g) rfl i (.int k (l.getD i 0)) (by simp [List.getElem?_eq_getElem hi, List.getD_eq_getElem?_getD])
    rw [add_plain] at hc
    exact hc
theorem cellA (w : World) (x y : Value) : (w.alloc (.cells #[x, y] 26)).cell? ⟨w.heap.size, 0, none⟩ = some x := by simp
theorem cellB (w : World) (x y : Value) : (w.alloc (.cells #[x, y] 26)).cell? ⟨w.heap.size, 1, none⟩ = some y := by simp
theorem keep (w : World) (o : Obj) : Below w.heap.size w (w.alloc o) := (Below.refl _ _).alloc (Nat.le_refl _) _
theorem own_row {w : World} {B : Nat} {v : Value} {l : List Int} (h : Own w B v l) :
    ∃ a cap, v = .slice a l.length cap ∧ l.length ≤ cap ∧ cap ≤ maxLen ∧ Row w a l := by
  rcases h.2 with ⟨rfl, hn⟩ | ⟨g, cap, cur, rfl, hb, hg, hn, hm, hs, ht⟩
  · exact ⟨none, 0, by rw [hn], by omega, by simp [maxLen], .inl (List.eq_nil_of_length_eq_zero hn)⟩
  · refine ⟨some ⟨g, 0, none⟩, cap, rfl, hn, hm, .inr ⟨g, 0, rfl, fun i hi => ?_⟩⟩
    have hc := h.cells (g := g) rfl i (.int .u8 (l.getD i 0)) (by simp [List.getElem?_eq_getElem hi, List.getD_eq_getElem?_getD])
    rw [add_plain] at hc
    exact hc

end Go.Proofs.YtlhhbmolkiojfaaDoor.Ut
namespace Go.Proofs.YtlhhbmolkiojfaaDoor.Ut
open Go.RowKit
set_option linter.unusedVariables false

set_option maxRecDepth 100000 in
theorem ret_bool {a b : Bool} (h : a = b) : Ending.returned (.bool a) = .returned (.bool b) := by rw [h]
set_option maxRecDepth 100000 in
theorem rpoint_any (p : Int) (w : World) :
    Calls Tryd.prog 46 #[.int .i32 p] w fun e w' => e = .returned (.bool (ptB p)) ∧ w = w' := by
  rcases (show p < 0 ∨ (0 ≤ p ∧ p < 55296) ∨ (55296 ≤ p ∧ p ≤ 57343) ∨ (57343 < p ∧ p ≤ 1114111) ∨ 1114111 < p from by omega) with h | ⟨h, h'⟩ | ⟨h, h'⟩ | ⟨h, h'⟩ | h
  · have HP : Hid (ptB p = false) := by unfold Hid ptB; rw [decide_eq_false_iff_not]; omega
    go_enter Tryd.func46, Tryd.ntmps46
    go_wp2
    go_ret
    exact ⟨ret_bool (by first | exact HP.out.symm | (rw [HP.out]; simp; omega)), rfl⟩
  · have HP : Hid (ptB p = true) := by unfold Hid; rw [ptB_iff]; omega
    go_enter Tryd.func46, Tryd.ntmps46
    go_wp2
    go_ret
    exact ⟨ret_bool (by first | exact HP.out.symm | (rw [HP.out]; simp; omega)), rfl⟩
  · have HP : Hid (ptB p = false) := by unfold Hid ptB; rw [decide_eq_false_iff_not]; omega
    go_enter Tryd.func46, Tryd.ntmps46
    go_wp2
    go_ret
    exact ⟨ret_bool (by first | exact HP.out.symm | (rw [HP.out]; simp; omega)), rfl⟩
  · have HP : Hid (ptB p = true) := by unfold Hid; rw [ptB_iff]; omega
    go_enter Tryd.func46, Tryd.ntmps46
    go_wp2
    go_ret
    exact ⟨ret_bool (by first | exact HP.out.symm | (rw [HP.out]; simp; omega)), rfl⟩
  · have HP : Hid (ptB p = false) := by unfold Hid ptB; rw [decide_eq_false_iff_not]; omega
    go_enter Tryd.func46, Tryd.ntmps46
    go_wp2
    go_ret
    exact ⟨ret_bool (by first | exact HP.out.symm | (rw [HP.out]; simp; omega)), rfl⟩

set_option maxRecDepth 100000 in
theorem rput_no (p : Int) (w : World) (hp : ptB p = false) :
    Calls Tryd.prog 32 #[.int .i32 p] w fun e w' => e = .returned (.tuple #[.slice none 0 0, .int .i64 20]) ∧ w = w' := by
  have HP : Hid (ptB p = false) := hp
  clear hp
  go_enter Tryd.func32, Tryd.ntmps32
  go_wp2_with (go_at_call 46; refine (rpoint_any _ _).mono ?_; rintro e w' ⟨rfl, rfl⟩; rw [HP.out])
  go_ret2
  exact ⟨rfl, rfl⟩

set_option maxRecDepth 100000 in
set_option maxHeartbeats 1000000 in
theorem rput1 (p : Int) (w : World) (h0 : 0 ≤ p) (h1 : p < 128) (hp : ptB p = true) :
    Calls Tryd.prog 32 #[.int .i32 p] w fun e w' => ∃ v, e = .returned (.tuple #[v, .int .i64 0]) ∧ Own w' w.heap.size v (encZ p) ∧ Below w.heap.size w w' := by
  obtain ⟨i0, hi, hz0, hz1, hz2⟩ := info_parts Tryd.info5
  have HE : Hid (encZ p = [p]) := enc1 h1
  have HP : Hid (ptB p = true) := hp
  clear hp
  go_enter Tryd.func32, Tryd.ntmps32
  go_wp2_with (first
    | (go_at_call 46; refine (rpoint_any _ _).mono ?_; rintro e w' ⟨rfl, rfl⟩; rw [HP.out])
    | (at_builtin; refine wpList_append_own _ rfl _ _ 22 rfl w.heap.size 5 i0 (.int .u8 0) 1 1 Tryd.underlying22 hi hz0 hz1 hz2 rfl (by decide) _ _ _ rfl ((World.ownsRow_nil w w.heap.size 5 1).alloc _) ⟨w.heap.size, 0, none⟩ 1 1 ([p].map (Value.int .u8)) rfl rfl (cells_new _ _ _) (ints_one _) ?c3 ?c4 ?c5 ?_))
  case c3 => unfold maxLen; omega
  case c4 => omega
  case c5 => simp
  intro v' w1 hown' hgrow _
  go_wp2
  go_ret2
  exact ⟨v', rfl, by rw [HE.out]; exact own_snoc (l := []) hown', ((Below.refl _ w).alloc (Nat.le_refl _) _).grown hgrow (by simp) (by intro k hk; simp [Value.ownBlock] at hk)⟩

set_option maxRecDepth 100000 in
set_option maxHeartbeats 1000000 in
theorem rput2 (p : Int) (w : World) (h0 : 128 ≤ p) (h1 : p < 2048) (hp : ptB p = true) :
    Calls Tryd.prog 32 #[.int .i32 p] w fun e w' => ∃ v, e = .returned (.tuple #[v, .int .i64 0]) ∧ Own w' w.heap.size v (encZ p) ∧ Below w.heap.size w w' := by
  obtain ⟨i0, hi, hz0, hz1, hz2⟩ := info_parts Tryd.info5
  have HE : Hid (encZ p = [192 + p / 64, 128 + p % 64]) := enc2 h0 h1
  have HP : Hid (ptB p = true) := hp
  clear hp
  go_enter Tryd.func32, Tryd.ntmps32
  go_wp2_with (first
    | (go_at_call 46; refine (rpoint_any _ _).mono ?_; rintro e w' ⟨rfl, rfl⟩; rw [HP.out])
    | (at_builtin; refine wpList_append_own _ rfl _ _ 22 rfl w.heap.size 5 i0 (.int .u8 0) 1 1 Tryd.underlying22 hi hz0 hz1 hz2 rfl (by decide) _ _ _ rfl ((World.ownsRow_nil w w.heap.size 5 1).alloc _) ⟨w.heap.size, 0, none⟩ 2 2 ([192 + p / 64, 128 + p % 64].map (Value.int .u8)) rfl rfl (cells_new _ _ _) (ints_one _) ?c3 ?c4 ?c5 ?_))
  case c3 => unfold maxLen; omega
  case c4 => omega
  case c5 => simp
  intro v' w1 hown' hgrow _
  go_wp2
  go_ret2
  exact ⟨v', rfl, by rw [HE.out]; exact own_snoc (l := []) hown', ((Below.refl _ w).alloc (Nat.le_refl _) _).grown hgrow (by simp) (by intro k hk; simp [Value.ownBlock] at hk)⟩

set_option maxRecDepth 100000 in
set_option maxHeartbeats 1000000 in
theorem rput3 (p : Int) (w : World) (h0 : 2048 ≤ p) (h1 : p < 65536) (hp : ptB p = true) :
    Calls Tryd.prog 32 #[.int .i32 p] w fun e w' => ∃ v, e = .returned (.tuple #[v, .int .i64 0]) ∧ Own w' w.heap.size v (encZ p) ∧ Below w.heap.size w w' := by
  obtain ⟨i0, hi, hz0, hz1, hz2⟩ := info_parts Tryd.info5
  have HE : Hid (encZ p = [224 + p / 4096, 128 + p / 64 % 64, 128 + p % 64]) := enc3 h0 h1
  have HP : Hid (ptB p = true) := hp
  clear hp
  go_enter Tryd.func32, Tryd.ntmps32
  go_wp2_with (first
    | (go_at_call 46; refine (rpoint_any _ _).mono ?_; rintro e w' ⟨rfl, rfl⟩; rw [HP.out])
    | (at_builtin; refine wpList_append_own _ rfl _ _ 22 rfl w.heap.size 5 i0 (.int .u8 0) 1 1 Tryd.underlying22 hi hz0 hz1 hz2 rfl (by decide) _ _ _ rfl ((World.ownsRow_nil w w.heap.size 5 1).alloc _) ⟨w.heap.size, 0, none⟩ 3 3 ([224 + p / 4096, 128 + p / 64 % 64, 128 + p % 64].map (Value.int .u8)) rfl rfl (cells_new _ _ _) (ints_one _) ?c3 ?c4 ?c5 ?_))
  case c3 => unfold maxLen; omega
  case c4 => omega
  case c5 => simp
  intro v' w1 hown' hgrow _
  go_wp2
  go_ret2
  exact ⟨v', rfl, by rw [HE.out]; exact own_snoc (l := []) hown', ((Below.refl _ w).alloc (Nat.le_refl _) _).grown hgrow (by simp) (by intro k hk; simp [Value.ownBlock] at hk)⟩

set_option maxRecDepth 100000 in
set_option maxHeartbeats 1000000 in
theorem rput4 (p : Int) (w : World) (h0 : 65536 ≤ p) (h1 : p ≤ 1114111) (hp : ptB p = true) :
    Calls Tryd.prog 32 #[.int .i32 p] w fun e w' => ∃ v, e = .returned (.tuple #[v, .int .i64 0]) ∧ Own w' w.heap.size v (encZ p) ∧ Below w.heap.size w w' := by
  obtain ⟨i0, hi, hz0, hz1, hz2⟩ := info_parts Tryd.info5
  have HE : Hid (encZ p = [240 + p / 262144, 128 + p / 4096 % 64, 128 + p / 64 % 64, 128 + p % 64]) := enc4 h0
  have HP : Hid (ptB p = true) := hp
  clear hp
  go_enter Tryd.func32, Tryd.ntmps32
  go_wp2_with (first
    | (go_at_call 46; refine (rpoint_any _ _).mono ?_; rintro e w' ⟨rfl, rfl⟩; rw [HP.out])
    | (at_builtin; refine wpList_append_own _ rfl _ _ 22 rfl w.heap.size 5 i0 (.int .u8 0) 1 1 Tryd.underlying22 hi hz0 hz1 hz2 rfl (by decide) _ _ _ rfl ((World.ownsRow_nil w w.heap.size 5 1).alloc _) ⟨w.heap.size, 0, none⟩ 4 4 ([240 + p / 262144, 128 + p / 4096 % 64, 128 + p / 64 % 64, 128 + p % 64].map (Value.int .u8)) rfl rfl (cells_new _ _ _) (ints_one _) ?c3 ?c4 ?c5 ?_))
  case c3 => unfold maxLen; omega
  case c4 => omega
  case c5 => simp
  intro v' w1 hown' hgrow _
  go_wp2
  go_ret2
  exact ⟨v', rfl, by rw [HE.out]; exact own_snoc (l := []) hown', ((Below.refl _ w).alloc (Nat.le_refl _) _).grown hgrow (by simp) (by intro k hk; simp [Value.ownBlock] at hk)⟩

set_option maxRecDepth 100000 in
theorem rput_yes (p : Int) (w : World) (hp : ptB p = true) :
    Calls Tryd.prog 32 #[.int .i32 p] w fun e w' => ∃ v, e = .returned (.tuple #[v, .int .i64 0]) ∧ Own w' w.heap.size v (encZ p) ∧ Below w.heap.size w w' := by
  rcases pt_cases p hp with h | h | h | h
  · exact rput1 p w h.1 h.2 hp
  · exact rput2 p w h.1 h.2 hp
  · exact rput3 p w h.1 h.2 hp
  · exact rput4 p w h.1 h.2 hp
end Go.Proofs.YtlhhbmolkiojfaaDoor.Ut
namespace Go.Proofs.YtlhhbmolkiojfaaDoor.Ut
open Go.RowKit

/-- What n bytes at a text's front would be. -/
def candZ (l : List Int) (n : Nat) : Int :=
  if n = 2 then 64 * (l.getD 0 0 % 32) + l.getD 1 0 % 64
  else if n = 3 then 64 * (64 * (l.getD 0 0 % 16) + l.getD 1 0 % 64) + l.getD 2 0 % 64
  else 64 * (64 * (64 * (l.getD 0 0 % 8) + l.getD 1 0 % 64) + l.getD 2 0 % 64) + l.getD 3 0 % 64
def okB (l : List Int) (n : Nat) : Bool := ptB (candZ l n) && decide (encZ (candZ l n) = l.take n)

theorem ok_dec {l : List Int} {n : Nat} (hn : n ≤ l.length) (h : okB l n = true) : decZ l = some (candZ l n) ∧ (encZ (candZ l n)).length = n := by
  simp only [okB, Bool.and_eq_true, decide_eq_true_eq] at h
  constructor
  · have : l = encZ (candZ l n) ++ l.drop n := by rw [h.2, List.take_append_drop]
    rw [this]
    have hh := dec_enc h.1 (l.drop n)
    rwa [← this] at hh ⊢
  · rw [h.2, List.length_take]; omega

theorem dec_ok {l : List Int} (hl : Byt l) {p : Int} (h : decZ l = some p) (hc : 128 ≤ l.getD 0 0) :
    2 ≤ (encZ p).length ∧ (encZ p).length ≤ 4 ∧ (encZ p).length ≤ l.length ∧ okB l (encZ p).length = true ∧ candZ l (encZ p).length = p := by
  obtain ⟨hp, r, rfl⟩ := dec_sound hl h
  have hb := (ptB_iff p).1 hp
  have h4 := enc_len p
  have key : 2 ≤ (encZ p).length ∧ candZ (encZ p ++ r) (encZ p).length = p := by
    rcases pt_cases p hp with k | k | k | k
    · exfalso; rw [enc1 k.2] at hc; simp at hc; omega
    · rw [enc2 k.1 k.2]; simp [candZ]; omega
    · rw [enc3 k.1 k.2]; simp [candZ]; omega
    · rw [enc4 k.1]; simp [candZ]; omega
  refine ⟨key.1, h4.2, by simp, ?_, key.2⟩
  simp only [okB, key.2, hp, Bool.true_and, decide_eq_true_eq]
  simp
end Go.Proofs.YtlhhbmolkiojfaaDoor.Ut
namespace Go.Proofs.YtlhhbmolkiojfaaDoor.Ut
open Go.RowKit
set_option linter.unusedVariables false

/-- What Next tells. -/
def nxV (l : List Int) : Value :=
  match decZ l with
  | some p => .tuple #[.int .i32 p, .int .i64 (encZ p).length, .int .i64 0]
  | none => .tuple #[.int .i32 0, .int .i64 0, .int .i64 (if l = [] then 42 else 20)]
theorem nx_some {l : List Int} {p : Int} (h : decZ l = some p) : nxV l = .tuple #[.int .i32 p, .int .i64 (encZ p).length, .int .i64 0] := by simp [nxV, h]
theorem nx_none {l : List Int} (h : decZ l = none) (hl : l ≠ []) : nxV l = .tuple #[.int .i32 0, .int .i64 0, .int .i64 20] := by simp [nxV, h, hl]

theorem more_no {l : List Int} {n len : Nat} (h : ∀ m, 2 ≤ m → m < n → m ≤ len → okB l m = false) (h' : okB l n = false) : ∀ m, 2 ≤ m → m < n + 1 → m ≤ len → okB l m = false := by
  intro m h1 h2 h3
  rcases (show m < n ∨ m = n from by omega) with h4 | rfl
  · exact h m h1 h4 h3
  · exact h'
set_option maxRecDepth 100000 in
theorem rnext_nil (a : Option Addr) (cap : Nat) (w : World) :
    Calls Tryd.prog 44 #[.slice a 0 cap] w fun e w' => e = .returned (.tuple #[.int .i32 0, .int .i64 0, .int .i64 42]) ∧ w = w' := by
  go_enter Tryd.func44, Tryd.ntmps44
  go_wp2
  go_ret3
  exact ⟨rfl, rfl⟩

set_option maxRecDepth 100000 in
theorem rnext_one (b off len cap : Nat) (c : Int) (w : World) (hc0 : 0 ≤ c) (hc1 : c < 128) (hlen : 1 ≤ len) (c0 : w.cell? ⟨b, off, none⟩ = some (.int .u8 c)) :
    Calls Tryd.prog 44 #[.slice (some ⟨b, off, none⟩) len cap] w fun e w' => e = .returned (.tuple #[.int .i32 c, .int .i64 1, .int .i64 0]) ∧ w = w' := by
  go_enter Tryd.func44, Tryd.ntmps44
  go_wp2
  go_ret3
  exact ⟨rfl, rfl⟩

set_option maxRecDepth 100000 in
set_option maxHeartbeats 4000000 in
theorem rnext_more (b off len cap : Nat) (l : List Int) (w : World) (hl : l.length = len) (hlen : 1 ≤ len) (hcap : len ≤ cap) (hm : cap ≤ maxLen) (hb : Byt l) (hc : ∀ i, i < l.length → w.cell? ⟨b, off + i, none⟩ = some (.int .u8 (l.getD i 0))) (h128 : 128 ≤ l.getD 0 0) :
    Calls Tryd.prog 44 #[.slice (some ⟨b, off, none⟩) len cap] w fun e w' => e = .returned (nxV l) ∧ Below w.heap.size w w' := by
  unfold maxLen at hm
  have HL : Hid (l.length = len) := hl
  have HB : Hid (Byt l) := hb
  have hcb : ∀ i, 0 ≤ l.getD i 0 ∧ l.getD i 0 < 256 := by
    intro i
    rcases Nat.lt_or_ge i l.length with h | h
    · rw [List.getD_eq_getElem?_getD, List.getElem?_eq_getElem h]; exact hb _ (List.getElem_mem h)
    · rw [List.getD_eq_getElem?_getD, List.getElem?_eq_none h]; simp
  have HC : Hid (∀ i, i < l.length → w.cell? ⟨b, off + i, none⟩ = some (.int .u8 (l.getD i 0))) := hc
  have HCB : Hid (∀ i, 0 ≤ l.getD i 0 ∧ l.getD i 0 < 256) := hcb
  obtain ⟨c, hcd⟩ : ∃ c, c = l.getD 0 0 := ⟨_, rfl⟩
  have c0 : w.cell? ⟨b, off, none⟩ = some (.int .u8 c) := by have := hc 0 (by omega); rw [hcd]; exact this
  have hc0 : 128 ≤ c := by rw [hcd]; exact h128
  have hc1 : c < 256 := by rw [hcd]; exact (hcb 0).2
  have H0 : Hid (c = l.getD 0 0) := hcd
  have H128 : Hid (128 ≤ l.getD 0 0) := h128
  clear hl hb hc hcb hcd h128
  have hl0 : ((len : Int) == 0) = false := by rw [beq_eq_false_iff_ne]; omega
  go_enter Tryd.func44, Tryd.ntmps44
  go_wp2
  go_loopw [5] (fun v wr => ∃ n : Nat, v = .int .i64 n ∧ 2 ≤ n ∧ n ≤ 5 ∧ (∀ m, 2 ≤ m → m < n → m ≤ len → okB l m = false) ∧ Below w.heap.size w wr) (fun v _ => 5 - (intOf v).toNat)
  case atStart => exact ⟨2, rfl, by omega, by omega, fun m h1 h2 _ => by omega, Below.refl _ _⟩
  case round =>
    obtain ⟨n, rfl, hn2, hn5, hno, hbel⟩ := hrel
    have HNO : Hid (∀ m, 2 ≤ m → m < n → m ≤ len → okB l m = false) := hno
    have HW : Hid (Below w.heap.size w wr) := hbel
    have c0r : wr.cell? ⟨b, off, none⟩ = some (.int .u8 c) := by rw [hbel.cell (World.block_lt_of_cell? w _ c0)]; exact c0
    clear hno hbel
    by_cases hgo : n ≤ 4 ∧ n ≤ len
    · obtain ⟨hn4, hnl⟩ := hgo
      rcases (show n = 2 ∨ n = 3 ∨ n = 4 from by omega) with rfl | rfl | rfl
      · obtain ⟨d, hd⟩ : ∃ d, d = l.getD 1 0 := ⟨_, rfl⟩
        have c1 : wr.cell? ⟨b, off + 1, none⟩ = some (.int .u8 d) := by rw [HW.out.cell (World.block_lt_of_cell? w _ (HC.out 1 (by have := HL.out; omega))), HC.out 1 (by have := HL.out; omega), hd]
        have bd : 0 ≤ d ∧ d < 256 := by rw [hd]; exact HCB.out 1
        have H1 : Hid (d = l.getD 1 0) := hd
        clear hd
        have HV : Hid (candZ l 2 = 64 * (c % 32) + d % 64) := by unfold Hid candZ; rw [← H0.out, ← H1.out]; simp
        have HT : Hid ((l.take 2).length = 2) := by unfold Hid; rw [List.length_take]; have := HL.out; omega
        have hrow : Row wr (some ⟨b, off, none⟩) (l.take 2) := row_take 2 (row_below (.inr ⟨b, off, rfl, HC.out⟩) HW.out)
        have HR : Hid (Row wr (some ⟨b, off, none⟩) (l.take 2)) := hrow
        clear hrow
        by_cases hp : ptB (64 * (c % 32) + d % 64) = true
        · have HP : Hid (ptB (64 * (c % 32) + d % 64) = true) := hp
          clear hp
          go_wp2
          refine wp_loop_rounds 2 ?_; rw [rounds_succ]
          go_wp2
          rw [rounds_succ]
          go_wp2_with fail
          refine (rput_yes (64 * (c % 32) + d % 64) wr HP.out).mono ?_
          rintro e w1 ⟨v1, rfl, hown, hb1⟩
          obtain ⟨a1, cap1, rfl, hcap1, hm1, hrow1⟩ := own_row hown
          have HX1 : Hid (Below w.heap.size w w1) := HW.out.trans (hb1.mono HW.out.size)
          have k1 : ∀ j, (convert 22 9 (.slice a1 (encZ (64 * (c % 32) + d % 64)).length cap1)).run Tryd.prog (w1.drewN j) = .ok (.string (strOfNums (encZ (64 * (c % 32) + d % 64)))) (w1.drewN j) := fun j => conv_row _ _ rfl (row_drewN hrow1 j)
          have k2 : ∀ j, (convert 22 9 (.slice (some ⟨b, off, none⟩) 2 cap)).run Tryd.prog (w1.drewN j) = .ok (.string (strOfNums (l.take 2))) (w1.drewN j) := fun j => conv_row _ _ HT.out (row_drewN (row_below HR.out hb1) j)
          clear hown hrow1 hb1
          have hnc : (2 : Int) ≤ (cap : Int) := by omega
          by_cases he : encZ (64 * (c % 32) + d % 64) = l.take 2
          · have k3 : ((strOfNums (encZ (64 * (c % 32) + d % 64))).toList == (strOfNums (l.take 2)).toList) = true := by rw [he]; simp
            have HD : Hid (nxV l = .tuple #[.int .i32 (64 * (c % 32) + d % 64), .int .i64 2, .int .i64 0]) := by
              have ho : okB l 2 = true := by simp only [okB, HV.out, HP.out, he, Bool.true_and, decide_true]
              have hd := ok_dec (by have := HL.out; omega) ho
              unfold Hid; rw [nx_some hd.1, hd.2, HV.out]; rfl
            clear he
            go_wp2_with fail
            go_quiet (fail)
            go_wp2
            go_ret3
            exact ⟨by rw [HD.out]; rfl, below_drewN HX1.out _⟩
          · have k3 : ((strOfNums (encZ (64 * (c % 32) + d % 64))).toList == (strOfNums (l.take 2)).toList) = false := by
              rw [toList_str, toList_str, beq_eq_false_iff_ne]
              exact fun h => he (bytes_inj (enc_byte _ HP.out) (HB.out.take _) h)
            have HF : Hid (okB l 2 = false) := by unfold Hid okB; rw [HV.out, HP.out, decide_eq_false he]; rfl
            clear he
            go_wp2_with fail
            go_quiet (fail)
            have HX : Hid (Below w.heap.size w (w1.drewN nq)) := below_drewN HX1.out _
            clear k1 k2 k3
            go_wp2
            go_roundw
            case rel => first | exact ⟨2 + 1, by go_num, by omega, by omega, more_no HNO.out HF.out, HX.out⟩ | ((repeat apply Exists.intro); refine ⟨?_, rfl⟩; exact ⟨2 + 1, by go_num, by omega, by omega, more_no HNO.out HF.out, HX.out⟩)
            case measure => simp [intOf]
        · have HP : Hid (ptB (64 * (c % 32) + d % 64) = false) := by simpa [Hid] using hp
          have HF : Hid (okB l 2 = false) := by unfold Hid okB; rw [HV.out, HP.out]; rfl
          clear hp
          go_wp2
          refine wp_loop_rounds 2 ?_; rw [rounds_succ]
          go_wp2
          rw [rounds_succ]
          go_wp2_with fail
          refine (rput_no (64 * (c % 32) + d % 64) wr HP.out).mono ?_
          rintro e w1 ⟨rfl, rfl⟩
          go_wp2_with fail
          go_quiet (fail)
          have HX : Hid (Below w.heap.size w (wr.drewN nq)) := below_drewN HW.out _
          go_wp2
          go_roundw
          case rel => first | exact ⟨2 + 1, by go_num, by omega, by omega, more_no HNO.out HF.out, HX.out⟩ | ((repeat apply Exists.intro); refine ⟨?_, rfl⟩; exact ⟨2 + 1, by go_num, by omega, by omega, more_no HNO.out HF.out, HX.out⟩)
          case measure => simp [intOf]
      · obtain ⟨d, hd⟩ : ∃ d, d = l.getD 1 0 := ⟨_, rfl⟩
        have c1 : wr.cell? ⟨b, off + 1, none⟩ = some (.int .u8 d) := by rw [HW.out.cell (World.block_lt_of_cell? w _ (HC.out 1 (by have := HL.out; omega))), HC.out 1 (by have := HL.out; omega), hd]
        have bd : 0 ≤ d ∧ d < 256 := by rw [hd]; exact HCB.out 1
        have H1 : Hid (d = l.getD 1 0) := hd
        clear hd
        obtain ⟨g, hg⟩ : ∃ g, g = l.getD 2 0 := ⟨_, rfl⟩
        have c2 : wr.cell? ⟨b, off + 2, none⟩ = some (.int .u8 g) := by rw [HW.out.cell (World.block_lt_of_cell? w _ (HC.out 2 (by have := HL.out; omega))), HC.out 2 (by have := HL.out; omega), hg]
        have bg : 0 ≤ g ∧ g < 256 := by rw [hg]; exact HCB.out 2
        have H2 : Hid (g = l.getD 2 0) := hg
        clear hg
        have HV : Hid (candZ l 3 = 64 * (64 * (c % 16) + d % 64) + g % 64) := by unfold Hid candZ; rw [← H0.out, ← H1.out, ← H2.out]; simp
        have HT : Hid ((l.take 3).length = 3) := by unfold Hid; rw [List.length_take]; have := HL.out; omega
        have hrow : Row wr (some ⟨b, off, none⟩) (l.take 3) := row_take 3 (row_below (.inr ⟨b, off, rfl, HC.out⟩) HW.out)
        have HR : Hid (Row wr (some ⟨b, off, none⟩) (l.take 3)) := hrow
        clear hrow
        by_cases hp : ptB (64 * (64 * (c % 16) + d % 64) + g % 64) = true
        · have HP : Hid (ptB (64 * (64 * (c % 16) + d % 64) + g % 64) = true) := hp
          clear hp
          go_wp2
          refine wp_loop_rounds 3 ?_; rw [rounds_succ]
          go_wp2
          rw [rounds_succ]
          go_wp2
          rw [rounds_succ]
          go_wp2_with fail
          refine (rput_yes (64 * (64 * (c % 16) + d % 64) + g % 64) wr HP.out).mono ?_
          rintro e w1 ⟨v1, rfl, hown, hb1⟩
          obtain ⟨a1, cap1, rfl, hcap1, hm1, hrow1⟩ := own_row hown
          have HX1 : Hid (Below w.heap.size w w1) := HW.out.trans (hb1.mono HW.out.size)
          have k1 : ∀ j, (convert 22 9 (.slice a1 (encZ (64 * (64 * (c % 16) + d % 64) + g % 64)).length cap1)).run Tryd.prog (w1.drewN j) = .ok (.string (strOfNums (encZ (64 * (64 * (c % 16) + d % 64) + g % 64)))) (w1.drewN j) := fun j => conv_row _ _ rfl (row_drewN hrow1 j)
          have k2 : ∀ j, (convert 22 9 (.slice (some ⟨b, off, none⟩) 3 cap)).run Tryd.prog (w1.drewN j) = .ok (.string (strOfNums (l.take 3))) (w1.drewN j) := fun j => conv_row _ _ HT.out (row_drewN (row_below HR.out hb1) j)
          clear hown hrow1 hb1
          have hnc : (3 : Int) ≤ (cap : Int) := by omega
          by_cases he : encZ (64 * (64 * (c % 16) + d % 64) + g % 64) = l.take 3
          · have k3 : ((strOfNums (encZ (64 * (64 * (c % 16) + d % 64) + g % 64))).toList == (strOfNums (l.take 3)).toList) = true := by rw [he]; simp
            have HD : Hid (nxV l = .tuple #[.int .i32 (64 * (64 * (c % 16) + d % 64) + g % 64), .int .i64 3, .int .i64 0]) := by
              have ho : okB l 3 = true := by simp only [okB, HV.out, HP.out, he, Bool.true_and, decide_true]
              have hd := ok_dec (by have := HL.out; omega) ho
              unfold Hid; rw [nx_some hd.1, hd.2, HV.out]; rfl
            clear he
            go_wp2_with fail
            go_quiet (fail)
            go_wp2
            go_ret3
            exact ⟨by rw [HD.out]; rfl, below_drewN HX1.out _⟩
          · have k3 : ((strOfNums (encZ (64 * (64 * (c % 16) + d % 64) + g % 64))).toList == (strOfNums (l.take 3)).toList) = false := by
              rw [toList_str, toList_str, beq_eq_false_iff_ne]
              exact fun h => he (bytes_inj (enc_byte _ HP.out) (HB.out.take _) h)
            have HF : Hid (okB l 3 = false) := by unfold Hid okB; rw [HV.out, HP.out, decide_eq_false he]; rfl
            clear he
            go_wp2_with fail
            go_quiet (fail)
            have HX : Hid (Below w.heap.size w (w1.drewN nq)) := below_drewN HX1.out _
            clear k1 k2 k3
            go_wp2
            go_roundw
            case rel => first | exact ⟨3 + 1, by go_num, by omega, by omega, more_no HNO.out HF.out, HX.out⟩ | ((repeat apply Exists.intro); refine ⟨?_, rfl⟩; exact ⟨3 + 1, by go_num, by omega, by omega, more_no HNO.out HF.out, HX.out⟩)
            case measure => simp [intOf]
        · have HP : Hid (ptB (64 * (64 * (c % 16) + d % 64) + g % 64) = false) := by simpa [Hid] using hp
          have HF : Hid (okB l 3 = false) := by unfold Hid okB; rw [HV.out, HP.out]; rfl
          clear hp
          go_wp2
          refine wp_loop_rounds 3 ?_; rw [rounds_succ]
          go_wp2
          rw [rounds_succ]
          go_wp2
          rw [rounds_succ]
          go_wp2_with fail
          refine (rput_no (64 * (64 * (c % 16) + d % 64) + g % 64) wr HP.out).mono ?_
          rintro e w1 ⟨rfl, rfl⟩
          go_wp2_with fail
          go_quiet (fail)
          have HX : Hid (Below w.heap.size w (wr.drewN nq)) := below_drewN HW.out _
          go_wp2
          go_roundw
          case rel => first | exact ⟨3 + 1, by go_num, by omega, by omega, more_no HNO.out HF.out, HX.out⟩ | ((repeat apply Exists.intro); refine ⟨?_, rfl⟩; exact ⟨3 + 1, by go_num, by omega, by omega, more_no HNO.out HF.out, HX.out⟩)
          case measure => simp [intOf]
      · obtain ⟨d, hd⟩ : ∃ d, d = l.getD 1 0 := ⟨_, rfl⟩
        have c1 : wr.cell? ⟨b, off + 1, none⟩ = some (.int .u8 d) := by rw [HW.out.cell (World.block_lt_of_cell? w _ (HC.out 1 (by have := HL.out; omega))), HC.out 1 (by have := HL.out; omega), hd]
        have bd : 0 ≤ d ∧ d < 256 := by rw [hd]; exact HCB.out 1
        have H1 : Hid (d = l.getD 1 0) := hd
        clear hd
        obtain ⟨g, hg⟩ : ∃ g, g = l.getD 2 0 := ⟨_, rfl⟩
        have c2 : wr.cell? ⟨b, off + 2, none⟩ = some (.int .u8 g) := by rw [HW.out.cell (World.block_lt_of_cell? w _ (HC.out 2 (by have := HL.out; omega))), HC.out 2 (by have := HL.out; omega), hg]
        have bg : 0 ≤ g ∧ g < 256 := by rw [hg]; exact HCB.out 2
        have H2 : Hid (g = l.getD 2 0) := hg
        clear hg
        obtain ⟨k, hk⟩ : ∃ k, k = l.getD 3 0 := ⟨_, rfl⟩
        have c3 : wr.cell? ⟨b, off + 3, none⟩ = some (.int .u8 k) := by rw [HW.out.cell (World.block_lt_of_cell? w _ (HC.out 3 (by have := HL.out; omega))), HC.out 3 (by have := HL.out; omega), hk]
        have bk : 0 ≤ k ∧ k < 256 := by rw [hk]; exact HCB.out 3
        have H3 : Hid (k = l.getD 3 0) := hk
        clear hk
        have HV : Hid (candZ l 4 = 64 * (64 * (64 * (c % 8) + d % 64) + g % 64) + k % 64) := by unfold Hid candZ; rw [← H0.out, ← H1.out, ← H2.out, ← H3.out]; simp
        have HT : Hid ((l.take 4).length = 4) := by unfold Hid; rw [List.length_take]; have := HL.out; omega
        have hrow : Row wr (some ⟨b, off, none⟩) (l.take 4) := row_take 4 (row_below (.inr ⟨b, off, rfl, HC.out⟩) HW.out)
        have HR : Hid (Row wr (some ⟨b, off, none⟩) (l.take 4)) := hrow
        clear hrow
        by_cases hp : ptB (64 * (64 * (64 * (c % 8) + d % 64) + g % 64) + k % 64) = true
        · have HP : Hid (ptB (64 * (64 * (64 * (c % 8) + d % 64) + g % 64) + k % 64) = true) := hp
          clear hp
          go_wp2
          refine wp_loop_rounds 4 ?_; rw [rounds_succ]
          go_wp2
          rw [rounds_succ]
          go_wp2
          rw [rounds_succ]
          go_wp2
          rw [rounds_succ]
          go_wp2_with fail
          refine (rput_yes (64 * (64 * (64 * (c % 8) + d % 64) + g % 64) + k % 64) wr HP.out).mono ?_
          rintro e w1 ⟨v1, rfl, hown, hb1⟩
          obtain ⟨a1, cap1, rfl, hcap1, hm1, hrow1⟩ := own_row hown
          have HX1 : Hid (Below w.heap.size w w1) := HW.out.trans (hb1.mono HW.out.size)
          have k1 : ∀ j, (convert 22 9 (.slice a1 (encZ (64 * (64 * (64 * (c % 8) + d % 64) + g % 64) + k % 64)).length cap1)).run Tryd.prog (w1.drewN j) = .ok (.string (strOfNums (encZ (64 * (64 * (64 * (c % 8) + d % 64) + g % 64) + k % 64)))) (w1.drewN j) := fun j => conv_row _ _ rfl (row_drewN hrow1 j)
          have k2 : ∀ j, (convert 22 9 (.slice (some ⟨b, off, none⟩) 4 cap)).run Tryd.prog (w1.drewN j) = .ok (.string (strOfNums (l.take 4))) (w1.drewN j) := fun j => conv_row _ _ HT.out (row_drewN (row_below HR.out hb1) j)
          clear hown hrow1 hb1
          have hnc : (4 : Int) ≤ (cap : Int) := by omega
          by_cases he : encZ (64 * (64 * (64 * (c % 8) + d % 64) + g % 64) + k % 64) = l.take 4
          · have k3 : ((strOfNums (encZ (64 * (64 * (64 * (c % 8) + d % 64) + g % 64) + k % 64))).toList == (strOfNums (l.take 4)).toList) = true := by rw [he]; simp
            have HD : Hid (nxV l = .tuple #[.int .i32 (64 * (64 * (64 * (c % 8) + d % 64) + g % 64) + k % 64), .int .i64 4, .int .i64 0]) := by
              have ho : okB l 4 = true := by simp only [okB, HV.out, HP.out, he, Bool.true_and, decide_true]
              have hd := ok_dec (by have := HL.out; omega) ho
              unfold Hid; rw [nx_some hd.1, hd.2, HV.out]; rfl
            clear he
            go_wp2_with fail
            go_quiet (fail)
            go_wp2
            go_ret3
            exact ⟨by rw [HD.out]; rfl, below_drewN HX1.out _⟩
          · have k3 : ((strOfNums (encZ (64 * (64 * (64 * (c % 8) + d % 64) + g % 64) + k % 64))).toList == (strOfNums (l.take 4)).toList) = false := by
              rw [toList_str, toList_str, beq_eq_false_iff_ne]
              exact fun h => he (bytes_inj (enc_byte _ HP.out) (HB.out.take _) h)
            have HF : Hid (okB l 4 = false) := by unfold Hid okB; rw [HV.out, HP.out, decide_eq_false he]; rfl
            clear he
            go_wp2_with fail
            go_quiet (fail)
            have HX : Hid (Below w.heap.size w (w1.drewN nq)) := below_drewN HX1.out _
            clear k1 k2 k3
            go_wp2
            go_roundw
            case rel => first | exact ⟨4 + 1, by go_num, by omega, by omega, more_no HNO.out HF.out, HX.out⟩ | ((repeat apply Exists.intro); refine ⟨?_, rfl⟩; exact ⟨4 + 1, by go_num, by omega, by omega, more_no HNO.out HF.out, HX.out⟩)
            case measure => simp [intOf]
        · have HP : Hid (ptB (64 * (64 * (64 * (c % 8) + d % 64) + g % 64) + k % 64) = false) := by simpa [Hid] using hp
          have HF : Hid (okB l 4 = false) := by unfold Hid okB; rw [HV.out, HP.out]; rfl
          clear hp
          go_wp2
          refine wp_loop_rounds 4 ?_; rw [rounds_succ]
          go_wp2
          rw [rounds_succ]
          go_wp2
          rw [rounds_succ]
          go_wp2
          rw [rounds_succ]
          go_wp2_with fail
          refine (rput_no (64 * (64 * (64 * (c % 8) + d % 64) + g % 64) + k % 64) wr HP.out).mono ?_
          rintro e w1 ⟨rfl, rfl⟩
          go_wp2_with fail
          go_quiet (fail)
          have HX : Hid (Below w.heap.size w (wr.drewN nq)) := below_drewN HW.out _
          go_wp2
          go_roundw
          case rel => first | exact ⟨4 + 1, by go_num, by omega, by omega, more_no HNO.out HF.out, HX.out⟩ | ((repeat apply Exists.intro); refine ⟨?_, rfl⟩; exact ⟨4 + 1, by go_num, by omega, by omega, more_no HNO.out HF.out, HX.out⟩)
          case measure => simp [intOf]
    · have HE : Hid (nxV l = .tuple #[.int .i32 0, .int .i64 0, .int .i64 20]) := by
        have hd : decZ l = none := by
          cases hd : decZ l with
          | none => rfl
          | some p =>
            exfalso
            obtain ⟨q1, q2, q3, q4, q5⟩ := dec_ok HB.out hd H128.out
            have hl := HL.out
            have := HNO.out _ q1 (by omega) (by omega)
            rw [q4] at this; cases this
        exact nx_none hd (by intro h; have hl := HL.out; rw [h] at hl; simp at hl; omega)
      rcases (show (n ≤ 4 ∧ len < n) ∨ 4 < n from by omega) with ⟨h1, h2⟩ | h1
      · clear hgo
        go_wp2
        go_ret3
        exact ⟨by rw [HE.out]; rfl, HW.out⟩
      · clear hgo
        go_wp2
        go_ret3
        exact ⟨by rw [HE.out]; rfl, HW.out⟩

set_option maxRecDepth 100000 in
theorem rnext_some (a : Option Addr) (len cap : Nat) (l : List Int) (p : Int) (w : World) (hlen : l.length = len) (hl : Byt l) (hcap : len ≤ cap) (hm : cap ≤ maxLen) (hr : Row w a l) (hd : decZ l = some p) :
    Calls Tryd.prog 44 #[.slice a len cap] w fun e w' => e = .returned (.tuple #[.int .i32 p, .int .i64 (encZ p).length, .int .i64 0]) ∧ Below w.heap.size w w' := by
  rcases hr with rfl | ⟨b, off, rfl, hc⟩
  · simp [decZ] at hd
  · cases l with
    | nil => simp [decZ] at hd
    | cons c r =>
      have h1 : 1 ≤ len := by simp at hlen; omega
      by_cases h : c < 128
      · have c0 := hc 0 (by simp)
        simp only [Nat.add_zero, List.getD_cons_zero] at c0
        have he : c = p := by simp [decZ, h] at hd; exact hd
        subst he
        rw [enc1 h]
        exact (rnext_one b off len cap c w hl.head.1 h h1 c0).mono fun e w' ⟨he, hw⟩ => ⟨he, hw ▸ Below.refl _ _⟩
      · exact (rnext_more b off len cap (c :: r) w hlen h1 hcap hm hl hc (by simp; omega)).mono fun e w' ⟨he, hw⟩ => ⟨by rw [he, nx_some hd], hw⟩

set_option maxRecDepth 100000 in
theorem rnext_none (a : Option Addr) (len cap : Nat) (l : List Int) (w : World) (hlen : l.length = len) (hl : Byt l) (hcap : len ≤ cap) (hm : cap ≤ maxLen) (hr : Row w a l) (hne : l ≠ []) (hd : decZ l = none) :
    Calls Tryd.prog 44 #[.slice a len cap] w fun e w' => e = .returned (.tuple #[.int .i32 0, .int .i64 0, .int .i64 20]) ∧ Below w.heap.size w w' := by
  rcases hr with rfl | ⟨b, off, rfl, hc⟩
  · exact absurd rfl hne
  · cases l with
    | nil => exact absurd rfl hne
    | cons c r =>
      have h1 : 1 ≤ len := by simp at hlen; omega
      by_cases h : c < 128
      · simp [decZ, h] at hd
      · exact (rnext_more b off len cap (c :: r) w hlen h1 hcap hm hl hc (by simp; omega)).mono fun e w' ⟨he, hw⟩ => ⟨by rw [he, nx_none hd hne], hw⟩
end Go.Proofs.YtlhhbmolkiojfaaDoor.Ut
namespace Go.Proofs.YtlhhbmolkiojfaaDoor.Ut
open Go.RowKit
set_option linter.unusedVariables false

theorem own_keep {w w' : World} {B : Nat} {e : TypeId} {size : Nat} {v : Value} {n : Nat} {xs : List Value} (h : w.ownsRow B e size v n xs) (hb : Below w.heap.size w w') : w'.ownsRow B e size v n xs := by
  refine ⟨h.1, ?_⟩
  rcases h.2 with h | ⟨g, cap, cur, h1, h2, h3, h4⟩
  · exact .inl h
  · exact .inr ⟨g, cap, cur, h1, h2, (hb.block g (Array.getElem?_eq_some_iff.1 h3).1).trans h3, h4⟩

set_option maxRecDepth 100000 in
set_option maxHeartbeats 2000000 in
theorem rpoints_yes (a : Option Addr) (len cap : Nat) (ps : List Int) (w : World) (hlen : (flat ps).length = len) (hps : AllPt ps) (hcap : len ≤ cap) (hm : cap ≤ maxLen) (hsmall : len ≤ 100000000) (hrow : Row w a (flat ps)) :
    Calls Tryd.prog 30 #[.slice a len cap] w fun e w' => ∃ v, e = .returned (.tuple #[v, .agg #[.int .i64 0, .int .i64 0]]) ∧ Own32 w' w.heap.size v ps ∧ Below w.heap.size w w' := by
  obtain ⟨i0, hi, hz0, hz1, hz2⟩ := info_parts Tryd.info21
  have hm' := hm
  unfold maxLen at hm'
  have HL : Hid ((flat ps).length = len) := hlen
  have HW : Hid (Row w a (flat ps)) := hrow
  clear hlen hrow
  go_enter Tryd.func30, Tryd.ntmps30
  go_wp2
  go_loopw [4, 5] (fun v i wr => ∃ qs rs : List Int, ps = qs ++ rs ∧ i = .int .i64 (flat qs).length ∧ Own32 wr (w.heap.size + 1) v qs ∧ Below (w.heap.size + 1) (w.alloc (.cells #[.int .i64 0, .int .i64 0] 26)) wr) (fun _ i _ => len - (intOf i).toNat)
  case atStart => exact ⟨[], ps, rfl, rfl, World.ownsRow_nil _ _ _ _, Below.refl _ _⟩
  case round =>
    obtain ⟨qs, rs, hqr, rfl, hown, hbel⟩ := hrel
    have hlen := HL.out
    obtain ⟨k, hk⟩ : ∃ k, k = (flat qs).length := ⟨_, rfl⟩
    rw [← hk]
    have HK : Hid (k = (flat qs).length) := hk
    have HQ : Hid (ps = qs ++ rs) := hqr
    have HB : Hid (Below (w.heap.size + 1) (w.alloc (.cells #[.int .i64 0, .int .i64 0] 26)) wr) := hbel
    have HO : Hid (Below w.heap.size w wr) := ((Below.refl _ w).alloc (Nat.le_refl _) _).trans (hbel.mono (Nat.le_succ _))
    have hsz : w.heap.size + 1 ≤ wr.heap.size := by have := hbel.size; simpa using this
    cases rs with
    | nil =>
      have hkl : k = len := by rw [hk, ← hlen, hqr, List.append_nil]
      obtain rfl := hkl
      have c0 : wr.cell? ⟨w.heap.size, 0, none⟩ = some (.int .i64 0) := by rw [hbel.cell (by simp)]; simp
      have c1 : wr.cell? ⟨w.heap.size, 1, none⟩ = some (.int .i64 0) := by rw [hbel.cell (by simp)]; simp
      have f0 : wr.frozen? ⟨w.heap.size, 0, none⟩ = false := by rw [hbel.frozen (by simp)]; simp
      have f1 : wr.frozen? ⟨w.heap.size, 1, none⟩ = false := by rw [hbel.frozen (by simp)]; simp
      clear hk hqr hbel hlen
      have HV : Hid (Own32 wr (w.heap.size + 1) u4 ps) := by unfold Hid; rw [HQ.out, List.append_nil]; exact hown
      clear hown
      go_wp2
      exact bodyPost_ret (v := .tuple #[u4, .agg #[.int .i64 0, .int .i64 0]]) (by simp [results, Tryd.results30, go_sem, c0, c1]) rfl
        ⟨u4, rfl, own_base (Nat.le_succ _) (ownsRow_setCell_below (ownsRow_setCell_below HV.out (by simp) _) (by simp) _), (HO.out.setCell (by simp) _).setCell (by simp) _⟩
    | cons p rs =>
      have hpl := enc_len p
      have hkl : k + (encZ p).length ≤ len := by
        rw [← hlen, hqr, flat_append, flat_cons, List.length_append, List.length_append]; omega
      have HD : Hid ((flat ps).drop k = flat (p :: rs) ++ []) := by
        unfold Hid; rw [hqr, flat_append, hk, List.drop_left, List.append_nil]
      have HR : Hid (Row wr (Option.map (fun x => x.add k) a) (flat (p :: rs) ++ [])) := by
        have := row_drop (n := k) (cap := cap) (row_below HW.out HO.out) (by omega)
        rw [if_neg (by omega), HD.out] at this
        exact this
      have HN : Hid ((flat (p :: rs) ++ []).length = len - k) := by unfold Hid; rw [← HD.out, List.length_drop, hlen]
      have HA : Hid (AllPt (p :: rs)) := by rw [hqr] at hps; exact hps.right
      have hq2 : qs.length ≤ k := by rw [hk]; exact flat_ge qs
      clear hk hqr hbel hlen
      unfold Own32 at hown
      go_wp2_with (first
        | (go_at_call 44; refine (rnext_some (Option.map (fun x => x.add k) a) (len - k) (cap - k) (flat (p :: rs) ++ []) p wr HN.out ((flat_byt HA.out).append (by intro x hx; simp at hx)) (by omega) (by unfold maxLen; omega) HR.out (dec_flat HA.out)).mono ?_; rintro e wn ⟨rfl, hbn⟩)
        | (at_builtin; refine wpList_append_own _ rfl _ _ 34 rfl (w.heap.size + 1) 21 i0 (.int .i32 0) 1 4 Tryd.underlying34 hi hz0 hz1 hz2 rfl (by decide) _ _ _ rfl ((own_keep hown hbn).alloc _) ⟨wn.heap.size, 0, none⟩ 1 1 ([p].map (Value.int .i32)) rfl rfl (cells_new _ _ _) (ints_one32 _) ?c3 ?c4 ?c5 ?_))
      case c3 => unfold maxLen; omega
      case c4 => omega
      case c5 => have := hbn.size; simp; omega
      intro v' w1 hown' hgrow _
      have HO' : Hid (Own32 w1 (w.heap.size + 1) v' (qs ++ [p])) := by
        unfold Hid Own32; rw [List.length_append, List.map_append]; exact hown'
      have HB' : Hid (Below (w.heap.size + 1) (w.alloc (.cells #[.int .i64 0, .int .i64 0] 26)) w1) :=
        ((HB.out.trans (hbn.mono hsz)).alloc (by have := hbn.size; omega) _).grown hgrow (by have := hbn.size; simp; omega) (fun k hk => (hown.lt k hk).1)
      clear hown' hgrow hown hbn
      go_wp2
      go_roundw
      case rel => exact ⟨qs ++ [p], rs, by rw [HQ.out]; simp, by rw [flat_append, List.length_append, ← HK.out]; simp [flat], HO'.out, HB'.out⟩
      case measure => simp [intOf]; omega


set_option maxRecDepth 100000 in
set_option maxHeartbeats 2000000 in
theorem rpoints_no (a : Option Addr) (len cap : Nat) (ps r : List Int) (w : World) (hlen : (flat ps ++ r).length = len) (hps : AllPt ps) (hr : decZ r = none) (hne : r ≠ []) (hb : Byt r) (hcap : len ≤ cap) (hm : cap ≤ maxLen) (hsmall : len ≤ 100000000) (hrow : Row w a (flat ps ++ r)) :
    Calls Tryd.prog 30 #[.slice a len cap] w fun e w' => e = .returned (.tuple #[.slice none 0 0, .agg #[.int .i64 (flat ps).length, .int .i64 20]]) ∧ Below w.heap.size w w' := by
  obtain ⟨i0, hi, hz0, hz1, hz2⟩ := info_parts Tryd.info21
  have hm' := hm
  unfold maxLen at hm'
  have HL : Hid ((flat ps ++ r).length = len) := hlen
  have HW : Hid (Row w a (flat ps ++ r)) := hrow
  have HZ : Hid (decZ r = none) := hr
  have HE : Hid (r ≠ []) := hne
  clear hlen hrow hr hne
  go_enter Tryd.func30, Tryd.ntmps30
  go_wp2
  go_loopw [4, 5] (fun v i wr => ∃ qs rs : List Int, ps = qs ++ rs ∧ i = .int .i64 (flat qs).length ∧ Own32 wr (w.heap.size + 1) v qs ∧ Below (w.heap.size + 1) (w.alloc (.cells #[.int .i64 0, .int .i64 0] 26)) wr) (fun _ i _ => len - (intOf i).toNat)
  case atStart => exact ⟨[], ps, rfl, rfl, World.ownsRow_nil _ _ _ _, Below.refl _ _⟩
  case round =>
    obtain ⟨qs, rs, hqr, rfl, hown, hbel⟩ := hrel
    have hlen := HL.out
    obtain ⟨k, hk⟩ : ∃ k, k = (flat qs).length := ⟨_, rfl⟩
    rw [← hk]
    have HK : Hid (k = (flat qs).length) := hk
    have HQ : Hid (ps = qs ++ rs) := hqr
    have HB : Hid (Below (w.heap.size + 1) (w.alloc (.cells #[.int .i64 0, .int .i64 0] 26)) wr) := hbel
    have HO : Hid (Below w.heap.size w wr) := ((Below.refl _ w).alloc (Nat.le_refl _) _).trans (hbel.mono (Nat.le_succ _))
    have hsz : w.heap.size + 1 ≤ wr.heap.size := by have := hbel.size; simpa using this
    cases rs with
    | nil =>
      have hpq : ps = qs := by rw [hqr, List.append_nil]
      have hrp : 0 < r.length := List.length_pos_iff.2 HE.out
      have hkl : k + r.length = len := by rw [hk, ← hlen, hpq, List.length_append]
      have hkl' : k < len := by omega
      have HKP : Hid (k = (flat ps).length) := by unfold Hid; rw [hpq]; exact hk
      have HR : Hid (Row wr (Option.map (fun x => x.add k) a) r) := by
        have := row_drop (n := k) (cap := cap) (row_below HW.out HO.out) (by omega)
        rw [if_neg (by omega), HKP.out, List.drop_left] at this
        unfold Hid; rw [HKP.out]; exact this
      have HN : Hid (r.length = len - k) := by unfold Hid; omega
      clear hk hqr hbel hlen hpq hkl
      go_wp2_with fail
      refine (rnext_none (Option.map (fun x => x.add k) a) (len - k) (cap - k) r wr HN.out hb (by omega) (by unfold maxLen; omega) HR.out HE.out HZ.out).mono ?_
      rintro e wn ⟨rfl, hbn⟩
      have hbw := HB.out
      have c0 : wn.cell? ⟨w.heap.size, 0, none⟩ = some (.int .i64 0) := by rw [hbn.cell (by simp; omega), hbw.cell (by simp)]; simp
      have c1 : wn.cell? ⟨w.heap.size, 1, none⟩ = some (.int .i64 0) := by rw [hbn.cell (by simp; omega), hbw.cell (by simp)]; simp
      have f0 : wn.frozen? ⟨w.heap.size, 0, none⟩ = false := by rw [hbn.frozen (by simp; omega), hbw.frozen (by simp)]; simp
      have f1 : wn.frozen? ⟨w.heap.size, 1, none⟩ = false := by rw [hbn.frozen (by simp; omega), hbw.frozen (by simp)]; simp
      have hsn : w.heap.size + 1 ≤ wn.heap.size := by have := hbn.size; omega
      have HON : Hid (Below w.heap.size w wn) := HO.out.trans (hbn.mono HO.out.size)
      clear hbn hbw
      go_wp2
      exact bodyPost_ret (v := .tuple #[.slice none 0 0, .agg #[.int .i64 (flat ps).length, .int .i64 20]]) (by rw [← HKP.out]; simp [results, Tryd.results30, go_sem, c0, c1]) rfl
        ⟨rfl, (HON.out.setCell (by simp) _).setCell (by simp) _⟩
    | cons p rs =>
      have hpl := enc_len p
      have hkl : k + (encZ p).length ≤ len := by
        rw [← hlen, hqr, flat_append, flat_cons, List.length_append, List.length_append, List.length_append]; omega
      have HD : Hid ((flat ps ++ r).drop k = flat (p :: rs) ++ r) := by
        unfold Hid; rw [hqr, flat_append, hk, List.append_assoc, List.drop_left]
      have HR : Hid (Row wr (Option.map (fun x => x.add k) a) (flat (p :: rs) ++ r)) := by
        have := row_drop (n := k) (cap := cap) (row_below HW.out HO.out) (by omega)
        rw [if_neg (by omega), HD.out] at this
        exact this
      have HN : Hid ((flat (p :: rs) ++ r).length = len - k) := by unfold Hid; rw [← HD.out, List.length_drop, hlen]
      have HA : Hid (AllPt (p :: rs)) := by rw [hqr] at hps; exact hps.right
      have hq2 : qs.length ≤ k := by rw [hk]; exact flat_ge qs
      clear hk hqr hbel hlen
      unfold Own32 at hown
      go_wp2_with (first
        | (go_at_call 44; refine (rnext_some (Option.map (fun x => x.add k) a) (len - k) (cap - k) (flat (p :: rs) ++ r) p wr HN.out ((flat_byt HA.out).append hb) (by omega) (by unfold maxLen; omega) HR.out (dec_flat HA.out)).mono ?_; rintro e wn ⟨rfl, hbn⟩)
        | (at_builtin; refine wpList_append_own _ rfl _ _ 34 rfl (w.heap.size + 1) 21 i0 (.int .i32 0) 1 4 Tryd.underlying34 hi hz0 hz1 hz2 rfl (by decide) _ _ _ rfl ((own_keep hown hbn).alloc _) ⟨wn.heap.size, 0, none⟩ 1 1 ([p].map (Value.int .i32)) rfl rfl (cells_new _ _ _) (ints_one32 _) ?c3 ?c4 ?c5 ?_))
      case c3 => unfold maxLen; omega
      case c4 => omega
      case c5 => have := hbn.size; simp; omega
      intro v' w1 hown' hgrow _
      have HO' : Hid (Own32 w1 (w.heap.size + 1) v' (qs ++ [p])) := by
        unfold Hid Own32; rw [List.length_append, List.map_append]; exact hown'
      have HB' : Hid (Below (w.heap.size + 1) (w.alloc (.cells #[.int .i64 0, .int .i64 0] 26)) w1) :=
        ((HB.out.trans (hbn.mono hsz)).alloc (by have := hbn.size; omega) _).grown hgrow (by have := hbn.size; simp; omega) (fun k hk => (hown.lt k hk).1)
      clear hown' hgrow hown hbn
      go_wp2
      go_roundw
      case rel => exact ⟨qs ++ [p], rs, by rw [HQ.out]; simp, by rw [flat_append, List.length_append, ← HK.out]; simp [flat], HO'.out, HB'.out⟩
      case measure => simp [intOf]; omega

end Go.Proofs.YtlhhbmolkiojfaaDoor.Ut
