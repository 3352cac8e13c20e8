/-
  The contracts of unitAt, nextOfUnits, ordered, pointOf and next.
-/
import Derived.Test.YtlhhbmolkiojfaaDoorCs
import Derived.Test.YtlhhbmolkiojfaaDoorUApp
import Derived.Test.YtlhhbmolkiojfaaDoorUValid
namespace Go.Proofs.YtlhhbmolkiojfaaDoor
open Go.RowKit
set_option linter.unusedVariables false

theorem i32_or8 (x y : Int) (h0 : 0 ≤ x) (h1 : x < 65536) (h2 : x % 256 = 0) (h3 : 0 ≤ y) (h4 : y < 256) : bits .or .i32 x y = x + y :=
  bits_join .i32 31 (by decide) (fun n h0 h1 => by simp [IntKind.wrap, IntKind.bits, IntKind.signed]; omega) 8 x y h0 (by simpa using h2) (by simp; omega) h3 (by simpa using h4) (by simp; omega)
theorem row_two {w : World} {a : Option Addr} {x y : Int} {r : List Int} (h : Row w a (x :: y :: r)) : ∃ b off, a = some ⟨b, off, none⟩ ∧ w.cell? ⟨b, off, none⟩ = some (.int .u8 x) ∧ w.cell? ⟨b, off + 1, none⟩ = some (.int .u8 y) := by
  rcases h with h | ⟨b, off, rfl, hc⟩
  · simp at h
  · exact ⟨b, off, rfl, by simpa using hc 0 (by simp), by simpa using hc 1 (by simp)⟩
theorem row_one {w : World} {a : Option Addr} {x : Int} {r : List Int} (h : Row w a (x :: r)) : ∃ b off, a = some ⟨b, off, none⟩ ∧ w.cell? ⟨b, off, none⟩ = some (.int .u8 x) := by
  rcases h with h | ⟨b, off, rfl, hc⟩
  · simp at h
  · exact ⟨b, off, rfl, by simpa using hc 0 (by simp)⟩
set_option maxRecDepth 100000 in
set_option maxHeartbeats 4000000 in
theorem unitAt_any (s x y : Int) (a : Option Addr) (len cap : Nat) (r : List Int) (w : World) (hx : 0 ≤ x ∧ x < 256) (hy : 0 ≤ y ∧ y < 256) (hlen : 2 ≤ len) (hcap : len ≤ cap) (hrow : Row w a (x :: y :: r)) :
    Calls Tryd.prog 33 #[.int .i64 s, .slice a len cap] w fun e w' => e = .returned (.int .i32 (unitZ s x y)) ∧ Below w.heap.size w w' := by
  obtain ⟨b, off, rfl, c0, c1⟩ := row_two hrow
  obtain ⟨hx0, hx1⟩ := hx
  obtain ⟨hy0, hy1⟩ := hy
  have e1 := i32_or8 (x * 256) y (by omega) (by omega) (by omega) hy0 hy1
  have e2 := i32_or8 (y * 256) x (by omega) (by omega) (by omega) hx0 hx1
  clear hrow
  by_cases h8 : s = 8
  · subst h8
    have HS : Hid (unitZ 8 x y = y * 256 + x) := rfl
    go_enter Tryd.func33, Tryd.ntmps33
    go_wp2_with fail
    go_quiet (fail)
    go_wp2
    go_ret
    exact ⟨ret_int (by rw [HS.out]), below_drewN (Below.refl _ _) _⟩
  · have HS : Hid (unitZ s x y = x * 256 + y) := by unfold Hid unitZ; rw [if_neg h8]
    have hs : (s == 8) = false := by simpa using h8
    go_enter Tryd.func33, Tryd.ntmps33
    go_wp2_with fail
    go_quiet (fail)
    go_wp2
    go_ret
    exact ⟨ret_int (by rw [HS.out]), below_drewN (Below.refl _ _) _⟩

/-- A point and its width, as they are handed back. -/
def npV : Option (Int × Nat) → Value
  | some (p, n) => .tuple #[.int .i32 p, .int .i64 n]
  | none => .tuple #[.int .i32 0, .int .i64 0]
theorem fault2 (t : Array Value) (h : t.size = 45) (x y : Value) :
    Ending.returned (.tuple #[((t.setIfInBounds 4 x).setIfInBounds 5 y).getD 4 undef, ((t.setIfInBounds 4 x).setIfInBounds 5 y).getD 5 undef]) = .returned (.tuple #[x, y]) := by
  simp [Array.getD_eq_getD_getElem?, h]
set_option maxRecDepth 100000 in
set_option maxHeartbeats 4000000 in
theorem nextU_any (s : Int) (a : Option Addr) (len cap : Nat) (l : List Int) (w : World) (hlen : l.length = len) (hl : Byt l) (hcap : len ≤ cap) (hm : cap ≤ maxLen) (hrow : Row w a l) :
    Calls Tryd.prog 34 #[.int .i64 s, .slice a len cap] w fun e w' => e = .returned (npV (nextU s l)) ∧ Below w.heap.size w w' := by
  unfold maxLen at hm
  match l, hlen, hl, hrow with
  | [], hlen, _, _ =>
    have hn : len < 2 := by simp at hlen; omega
    clear hlen
    go_enter Tryd.func34, Tryd.ntmps34
    go_wp2_with fail
    refine wp_scope_jumps 0 (fun a' w' => Below w.heap.size w w' ∧ a'.defers = [] ∧ a'.tmps.size = 45) (fun _ _ => 0) rfl ?_ ?_
    · go_wp2
      go_step3
      exact ⟨rfl, Below.refl _ _, rfl, rfl⟩
    · rintro ⟨t, df⟩ w' ⟨hb', rfl, hsz⟩
      go_wp2
      rw [Ut.jump_ret]
      go_ret2
      exact ⟨fault2 t hsz _ _, hb'⟩
  | [_], hlen, _, _ =>
    have hn : len < 2 := by simp at hlen; omega
    clear hlen
    go_enter Tryd.func34, Tryd.ntmps34
    go_wp2_with fail
    refine wp_scope_jumps 0 (fun a' w' => Below w.heap.size w w' ∧ a'.defers = [] ∧ a'.tmps.size = 45) (fun _ _ => 0) rfl ?_ ?_
    · go_wp2
      go_step3
      exact ⟨rfl, Below.refl _ _, rfl, rfl⟩
    · rintro ⟨t, df⟩ w' ⟨hb', rfl, hsz⟩
      go_wp2
      rw [Ut.jump_ret]
      go_ret2
      exact ⟨fault2 t hsz _ _, hb'⟩
  | x :: y :: r, hlen, hl, hrow =>
    have hx := hl x (by simp)
    have hy := hl y (by simp)
    have hn : 2 ≤ len := by simp at hlen; omega
    have hu := unit_lt s hx hy
    have K : ∀ W : World, Below w.heap.size w W → Calls Tryd.prog 33 #[.int .i64 s, .slice a len cap] W fun e w' => e = .returned (.int .i32 (unitZ s x y)) ∧ Below W.heap.size W w' := fun W hW => unitAt_any s x y a len cap r W hx hy hn hcap (row_below hrow hW)
    have HN : Hid (nextU s (x :: y :: r) = if unitZ s x y < 55296 ∨ 57343 < unitZ s x y then some (unitZ s x y, 2) else if 56320 ≤ unitZ s x y then none else tailU s (unitZ s x y) r) := rfl
    unfold Hid at HN
    rw [HN]
    clear HN
    generalize unitZ s x y = u at K hu
    obtain ⟨hu0, hu1⟩ := hu
    by_cases c1 : u < 55296
    · rw [if_pos (.inl c1)]
      go_enter Tryd.func34, Tryd.ntmps34
      go_wp2
      go_step3
      go_wp2_with (go_at_call 33; refine (K _ (Below.refl _ _)).mono ?_; rintro e w1 ⟨rfl, hb⟩)
      rw [Exit.noGoto_ret]
      go_ret2
      exact ⟨rfl, hb⟩
    · by_cases c2 : 57343 < u
      · rw [if_pos (.inr c2)]
        go_enter Tryd.func34, Tryd.ntmps34
        go_wp2
        go_step3
        go_wp2_with (go_at_call 33; refine (K _ (Below.refl _ _)).mono ?_; rintro e w1 ⟨rfl, hb⟩)
        rw [Exit.noGoto_ret]
        go_ret2
        exact ⟨rfl, hb⟩
      · rw [if_neg (by omega)]
        by_cases c3 : 56320 ≤ u
        · rw [if_pos c3]
          go_enter Tryd.func34, Tryd.ntmps34
          go_wp2_with fail
          refine wp_scope_jumps 0 (fun a' w' => Below w.heap.size w w' ∧ a'.defers = [] ∧ a'.tmps.size = 45) (fun _ _ => 0) rfl ?_ ?_
          · go_wp2_with (go_at_call 33; refine (K _ (Below.refl _ _)).mono ?_; rintro e w1 ⟨rfl, hb⟩)
            go_step3
            exact ⟨rfl, hb, rfl, rfl⟩
          · rintro ⟨t, df⟩ w' ⟨hb', rfl, hsz⟩
            go_wp2
            rw [Ut.jump_ret]
            go_ret2
            exact ⟨fault2 t hsz _ _, hb'⟩
        · rw [if_neg c3]
          match r, hlen, hl, hrow with
          | [], hlen, _, _ =>
            have hn4 : len < 4 := by simp at hlen; omega
            clear hlen
            go_enter Tryd.func34, Tryd.ntmps34
            go_wp2_with fail
            refine wp_scope_jumps 0 (fun a' w' => Below w.heap.size w w' ∧ a'.defers = [] ∧ a'.tmps.size = 45) (fun _ _ => 0) rfl ?_ ?_
            · go_wp2_with (go_at_call 33; refine (K _ (Below.refl _ _)).mono ?_; rintro e w1 ⟨rfl, hb⟩)
              go_step3
              exact ⟨rfl, hb, rfl, rfl⟩
            · rintro ⟨t, df⟩ w' ⟨hb', rfl, hsz⟩
              go_wp2
              rw [Ut.jump_ret]
              go_ret2
              exact ⟨fault2 t hsz _ _, hb'⟩
          | [_], hlen, _, _ =>
            have hn4 : len < 4 := by simp at hlen; omega
            clear hlen
            go_enter Tryd.func34, Tryd.ntmps34
            go_wp2_with fail
            refine wp_scope_jumps 0 (fun a' w' => Below w.heap.size w w' ∧ a'.defers = [] ∧ a'.tmps.size = 45) (fun _ _ => 0) rfl ?_ ?_
            · go_wp2_with (go_at_call 33; refine (K _ (Below.refl _ _)).mono ?_; rintro e w1 ⟨rfl, hb⟩)
              go_step3
              exact ⟨rfl, hb, rfl, rfl⟩
            · rintro ⟨t, df⟩ w' ⟨hb', rfl, hsz⟩
              go_wp2
              rw [Ut.jump_ret]
              go_ret2
              exact ⟨fault2 t hsz _ _, hb'⟩
          | c :: d :: r', hlen, hl, hrow =>
            have hc := hl c (by simp)
            have hd := hl d (by simp)
            have hn4 : 4 ≤ len := by simp at hlen; omega
            have hv := unit_lt s hc hd
            have hrow2 := row_drop (n := 2) (cap := cap) hrow (by simp at hlen ⊢; omega)
            have K2 : ∀ W : World, Below w.heap.size w W → Calls Tryd.prog 33 #[.int .i64 s, .slice (if cap = 2 then a else a.map fun z => z.add 2) (len - 2) (cap - 2)] W fun e w' => e = .returned (.int .i32 (unitZ s c d)) ∧ Below W.heap.size W w' := fun W hW => unitAt_any s c d _ (len - 2) (cap - 2) r' W hc hd (by omega) (by omega) (row_below hrow2 hW)
            rw [if_neg (by omega)] at K2
            have HN : Hid (tailU s u (c :: d :: r') = if unitZ s c d < 56320 ∨ 57343 < unitZ s c d then none else some (65536 + (u - 55296) * 1024 + (unitZ s c d - 56320), 4)) := rfl
            unfold Hid at HN
            rw [HN]
            clear HN hrow2
            generalize unitZ s c d = v at K2 hv
            obtain ⟨hv0, hv1⟩ := hv
            clear hlen
            by_cases c4 : v < 56320
            · rw [if_pos (.inl c4)]
              go_enter Tryd.func34, Tryd.ntmps34
              go_wp2_with fail
              refine wp_scope_jumps 0 (fun a' w' => Below w.heap.size w w' ∧ a'.defers = [] ∧ a'.tmps.size = 45) (fun _ _ => 0) rfl ?_ ?_
              · go_wp2_with (first | (go_at_call_of 33 (Value.slice a len cap); refine (K _ (Below.refl _ _)).mono ?_; rintro e w1 ⟨rfl, hb⟩) | (go_at_call 33; refine (K2 _ hb).mono ?_; rintro e w2 ⟨rfl, hb2⟩))
                have hb := hb.trans (hb2.mono hb.size)
                go_step3
                exact ⟨rfl, hb, rfl, rfl⟩
              · rintro ⟨t, df⟩ w' ⟨hb', rfl, hsz⟩
                go_wp2
                rw [Ut.jump_ret]
                go_ret2
                exact ⟨fault2 t hsz _ _, hb'⟩
            · by_cases c5 : 57343 < v
              · rw [if_pos (.inr c5)]
                go_enter Tryd.func34, Tryd.ntmps34
                go_wp2_with fail
                refine wp_scope_jumps 0 (fun a' w' => Below w.heap.size w w' ∧ a'.defers = [] ∧ a'.tmps.size = 45) (fun _ _ => 0) rfl ?_ ?_
                · go_wp2_with (first | (go_at_call_of 33 (Value.slice a len cap); refine (K _ (Below.refl _ _)).mono ?_; rintro e w1 ⟨rfl, hb⟩) | (go_at_call 33; refine (K2 _ hb).mono ?_; rintro e w2 ⟨rfl, hb2⟩))
                  have hb := hb.trans (hb2.mono hb.size)
                  go_step3
                  exact ⟨rfl, hb, rfl, rfl⟩
                · rintro ⟨t, df⟩ w' ⟨hb', rfl, hsz⟩
                  go_wp2
                  rw [Ut.jump_ret]
                  go_ret2
                  exact ⟨fault2 t hsz _ _, hb'⟩
              · rw [if_neg (by omega)]
                go_enter Tryd.func34, Tryd.ntmps34
                go_wp2
                go_step3
                go_wp2_with (first | (go_at_call_of 33 (Value.slice a len cap); refine (K _ (Below.refl _ _)).mono ?_; rintro e w1 ⟨rfl, hb⟩) | (go_at_call 33; refine (K2 _ hb).mono ?_; rintro e w2 ⟨rfl, hb2⟩))
                rw [Exit.noGoto_ret]
                go_ret2
                exact ⟨rfl, hb.trans (hb2.mono hb.size)⟩
/-- What utf-16 tells of its order: the set, and how many bytes go. -/
def ordL : List Int → Int × Nat
  | x :: y :: _ => if x * 256 + y = 65279 then (7, 2) else if x * 256 + y = 65534 then (8, 2) else (7, 0)
  | _ => (7, 0)
def ordZ (s : Int) (l : List Int) : Int × Nat := if s = 6 then ordL l else (s, 0)
set_option maxRecDepth 100000 in
set_option maxHeartbeats 4000000 in
theorem ordered_any (s : Int) (a : Option Addr) (len cap : Nat) (l : List Int) (w : World) (hlen : l.length = len) (hl : Byt l) (hcap : len ≤ cap) (hm : cap ≤ maxLen) (hrow : Row w a l) :
    Calls Tryd.prog 20 #[.int .i64 s, .slice a len cap] w fun e w' => e = .returned (.tuple #[.int .i64 (ordZ s l).1, .int .i64 (ordZ s l).2]) ∧ Below w.heap.size w w' := by
  unfold maxLen at hm
  by_cases h6 : s = 6
  · subst h6
    rw [show ordZ 6 l = ordL l from rfl]
    match l, hlen, hl, hrow with
    | [], hlen, _, _ =>
      have hn : len < 2 := by simp at hlen; omega
      clear hlen
      go_enter Tryd.func20, Tryd.ntmps20
      go_wp2
      go_ret2
      exact ⟨rfl, Below.refl _ _⟩
    | [_], hlen, _, _ =>
      have hn : len < 2 := by simp at hlen; omega
      clear hlen
      go_enter Tryd.func20, Tryd.ntmps20
      go_wp2
      go_ret2
      exact ⟨rfl, Below.refl _ _⟩
    | x :: y :: r, hlen, hl, hrow =>
      have hx := hl x (by simp)
      have hy := hl y (by simp)
      have hn : 2 ≤ len := by simp at hlen; omega
      have K : Calls Tryd.prog 33 #[.int .i64 7, .slice a len cap] w fun e w' => e = .returned (.int .i32 (x * 256 + y)) ∧ Below w.heap.size w w' := unitAt_any 7 x y a len cap r w hx hy hn hcap hrow
      have HN : Hid (ordL (x :: y :: r) = if x * 256 + y = 65279 then (7, 2) else if x * 256 + y = 65534 then (8, 2) else (7, 0)) := rfl
      unfold Hid at HN
      rw [HN]
      clear HN hlen hrow
      generalize x * 256 + y = u at K
      by_cases c1 : u = 65279
      · rw [if_pos c1]
        subst c1
        go_enter Tryd.func20, Tryd.ntmps20
        go_wp2_with (go_at_call 33; refine K.mono ?_; rintro e w1 ⟨rfl, hb⟩)
        go_ret2
        exact ⟨rfl, hb⟩
      · rw [if_neg c1]
        have b1 : (u == 65279) = false := by simpa using c1
        by_cases c2 : u = 65534
        · rw [if_pos c2]
          subst c2
          go_enter Tryd.func20, Tryd.ntmps20
          go_wp2_with (go_at_call 33; refine K.mono ?_; rintro e w1 ⟨rfl, hb⟩)
          go_ret2
          exact ⟨rfl, hb⟩
        · rw [if_neg c2]
          have b2 : (u == 65534) = false := by simpa using c2
          go_enter Tryd.func20, Tryd.ntmps20
          go_wp2_with (go_at_call 33; refine K.mono ?_; rintro e w1 ⟨rfl, hb⟩)
          go_ret2
          exact ⟨rfl, hb⟩
  · rw [show ordZ s l = (s, 0) by unfold ordZ; rw [if_neg h6]]
    have b6 : (s != 6) = true := by simpa using h6
    clear hrow
    go_enter Tryd.func20, Tryd.ntmps20
    go_wp2
    go_ret2
    exact ⟨rfl, Below.refl _ _⟩
/-- The two tables as they lie. -/
def T9 (w : World) : Prop := ∀ i, i < 32 → w.cell? ⟨0, i, none⟩ = some (.int .i32 (s9.getD i 0))
def TW (w : World) : Prop := ∀ i, i < 32 → w.cell? ⟨1, i, none⟩ = some (.int .i32 (sW.getD i 0))
theorem T9.below {w w' : World} (h : T9 w) (b : Below w.heap.size w w') : T9 w' := by
  intro i hi
  rw [b.cell (World.block_lt_of_cell? w _ (h i hi))]; exact h i hi
theorem TW.below {w w' : World} (h : TW w) (b : Below w.heap.size w w') : TW w' := by
  intro i hi
  rw [b.cell (World.block_lt_of_cell? w _ (h i hi))]; exact h i hi
set_option maxRecDepth 100000 in
set_option maxHeartbeats 4000000 in
theorem pointOf_any (s c : Int) (w : World) (hc0 : 0 ≤ c) (hc1 : c < 256) (h9 : T9 w) (hW : TW w) :
    Calls Tryd.prog 35 #[.int .i64 s, .int .u8 c] w fun e w' => e = .returned (.int .i32 (ptOf s c)) ∧ w = w' := by
  by_cases a1 : s = 1 ∧ 127 < c
  · obtain ⟨rfl, h127⟩ := a1
    have HS : Hid (ptOf 1 c = -1) := by unfold Hid ptOf; rw [if_pos ⟨rfl, h127⟩]
    go_enter Tryd.func35, Tryd.ntmps35
    go_wp2
    go_ret
    exact ⟨ret_int HS.out.symm, rfl⟩
  · by_cases a4 : s = 4 ∧ 160 ≤ c ∧ c < 192
    · obtain ⟨rfl, h160, h192⟩ := a4
      have hcell := h9 (c - 160).toNat (by omega)
      have HS : Hid (ptOf 4 c = s9.getD (c - 160).toNat 0) := by unfold Hid ptOf; rw [if_neg (by omega), if_pos ⟨rfl, h160, h192⟩]
      have hi : ((c - 160).toNat : Int) = c - 160 := by omega
      go_enter Tryd.func35, Tryd.ntmps35
      go_wp2
      go_ret
      exact ⟨ret_int HS.out.symm, rfl⟩
    · by_cases a5 : s = 5 ∧ 128 ≤ c ∧ c < 160
      · obtain ⟨rfl, h128, h160⟩ := a5
        have hcell := hW (c - 128).toNat (by omega)
        have HS : Hid (ptOf 5 c = sW.getD (c - 128).toNat 0) := by unfold Hid ptOf; rw [if_neg (by omega), if_neg (by omega), if_pos ⟨rfl, h128, h160⟩]
        have hi : ((c - 128).toNat : Int) = c - 128 := by omega
        go_enter Tryd.func35, Tryd.ntmps35
        go_wp2
        go_ret
        exact ⟨ret_int HS.out.symm, rfl⟩
      · have HS : Hid (ptOf s c = c) := by unfold Hid ptOf; rw [if_neg a1, if_neg a4, if_neg a5]
        have k1 : (s == 1) = false ∨ (s = 1 ∧ decide (c > 127) = false) := by simp; omega
        have k4 : (s == 4) = false ∨ (s = 4 ∧ decide (c ≥ 160) = false) ∨ (s = 4 ∧ decide (c ≥ 160) = true ∧ decide (c < 192) = false) := by simp; omega
        have k5 : (s == 5) = false ∨ (s = 5 ∧ decide (c ≥ 128) = false) ∨ (s = 5 ∧ decide (c ≥ 128) = true ∧ decide (c < 160) = false) := by simp; omega
        clear a1 a4 a5 h9 hW
        rcases k1 with e1 | ⟨rfl, e1⟩
        · rcases k4 with e4 | ⟨rfl, e4⟩ | ⟨rfl, e4, e4'⟩
          · rcases k5 with e5 | ⟨rfl, e5⟩ | ⟨rfl, e5, e5'⟩
            all_goals (
              go_enter Tryd.func35, Tryd.ntmps35
              go_wp2
              go_ret
              exact ⟨ret_int HS.out.symm, rfl⟩)
          all_goals (
            go_enter Tryd.func35, Tryd.ntmps35
            go_wp2
            go_ret
            exact ⟨ret_int HS.out.symm, rfl⟩)
        · go_enter Tryd.func35, Tryd.ntmps35
          go_wp2
          go_ret
          exact ⟨ret_int HS.out.symm, rfl⟩
end Go.Proofs.YtlhhbmolkiojfaaDoor
