/-
  CharsetWide: how many bytes a text takes in units, and that the two orders are each other turned. The tables of the package are as the program lays them (the card ties them).
-/
import Derived.Test.YtlhhbmolkiojfaaDoorCards
import Derived.Test.YtlhhbmolkiojfaaDoorTie
import Derived.Test.YtlhhbmolkiojfaaDoorCm
import Derived.WalkKit
import Derived.ProofKit
import Derived.OpenShut
import Derived.ShutString
import Derived.ChangeOld
import Derived.Below
import Derived.LaidMore
import Derived.Lay
import Derived.SevenTiedAt
import Derived.Stop.Joined
namespace Go.Proofs.YtlhhbmolkiojfaaDoor.charsetWide
open Go.ChangeShapes Go.WideShapes Go.ChangeAt Go.RowKit
open Go.ChangeMaps (open_string shut_string)
set_option linter.unusedVariables false


theorem set_be : setB (lowS ⟨#[117, 116, 102, 45, 49, 54, 98, 101]⟩) = 7 := by kernel_rfl
theorem set_le' : setB (lowS ⟨#[117, 116, 102, 45, 49, 54, 108, 101]⟩) = 8 := by kernel_rfl
theorem set_16 : setB (lowS ⟨#[117, 116, 102, 45, 49, 54]⟩) = 6 := by kernel_rfl
/-- How many bytes points take in units. -/
def wideZ : List Int → Nat
  | [] => 0
  | p :: ps => (if p < 65536 then 2 else 4) + wideZ ps
theorem wide_append : ∀ ps qs : List Int, wideZ (ps ++ qs) = wideZ ps + wideZ qs
  | [], qs => by simp [wideZ]
  | p :: ps, qs => by rw [List.cons_append, wideZ, wideZ, wide_append ps qs]; omega
theorem encS_units {s p : Int} (hs : s = 7 ∨ s = 8) : encS s p = encU s p := by unfold encS; rw [if_neg (by omega), if_pos hs]
theorem units_in {s : Int} (hs : s = 7 ∨ s = 8) {ps : List Int} (h : Ut.AllPt ps) : AllIn s ps := fun p hp => by
  refine ⟨h p hp, fun e => ?_⟩
  have := encU_len s (h p hp)
  rw [encS_units hs] at e
  rw [e] at this
  simp at this
  split at this <;> omega
theorem flat_wide {s : Int} (hs : s = 7 ∨ s = 8) : ∀ {ps : List Int}, Ut.AllPt ps → (flatS s ps).length = wideZ ps
  | [], _ => rfl
  | p :: ps, h => by rw [flatS_cons, List.length_append, encS_units hs, encU_len s h.head, flat_wide hs h.tail, wideZ]
/-- Two texts, each pair of the one turned in the other. -/
def turned : List Int → List Int → Prop
  | a :: b :: l, c :: d :: m => a = d ∧ b = c ∧ turned l m
  | [], [] => True
  | _, _ => False
theorem turned_two (u : Int) {l m : List Int} (h : turned l m) : turned (twoZ 7 u ++ l) (twoZ 8 u ++ m) := ⟨rfl, rfl, h⟩
theorem turned_flat : ∀ ps : List Int, turned (flatS 7 ps) (flatS 8 ps)
  | [] => trivial
  | p :: ps => by
    have ih := turned_flat ps
    rw [flatS_cons, flatS_cons, encS_units (.inl rfl), encS_units (.inr rfl)]
    unfold encU
    split
    · exact turned_two _ ih
    · rw [List.append_assoc, List.append_assoc]; exact turned_two _ (turned_two _ ih)
theorem turned_at : ∀ (l m : List Int) (k : Nat), turned l m → k % 2 = 0 → k + 1 < l.length → l.getD k 0 = m.getD (k + 1) 0 ∧ l.getD (k + 1) 0 = m.getD k 0 ∧ k + 1 < m.length
  | a :: b :: l, c :: d :: m, 0, h, _, _ => by simpa [turned] using ⟨h.1, h.2.1⟩
  | a :: b :: l, c :: d :: m, 1, h, hk, _ => by omega
  | a :: b :: l, c :: d :: m, k + 2, h, hk, hl => by
    have := turned_at l m k h.2.2 (by omega) (by simp at hl; omega)
    simp at this ⊢
    exact ⟨this.1, this.2.1, by omega⟩
  | [], [], k, _, _, hl => by simp at hl
set_option maxRecDepth 100000 in
set_option maxHeartbeats 8000000 in
theorem walk_long (a : Option Addr) (len cap : Nat) (w : World) (h2 : 1000 < len) (h9 : T9 w) (hW : TW w) :
    Calls Tryd.prog 8 #[.slice a len cap] w fun e w' => e = .returned (.bool true) ∧ Below w.heap.size w w' := by
  have K := alive_any w h9 hW
  go_enter Tryd.func8, Tryd.ntmps8
  go_wp2_with (go_at_call 9; refine K.mono ?_; rintro e w' ⟨rfl, hb⟩)
  go_ret
  exact ⟨rfl, hb⟩
set_option maxRecDepth 100000 in
set_option maxHeartbeats 8000000 in
theorem walk_bad (a : Option Addr) (cap : Nat) (l ps r : List Int) (w : World) (h2 : l.length ≤ 1000) (hlp : Ut.flat ps ++ r = l) (hps : Ut.AllPt ps) (hr : Ut.decZ r = none) (hne : r ≠ []) (hb : Byt r) (hcap : l.length ≤ cap) (hm : cap ≤ maxLen) (hrow : Row w a l) (h9 : T9 w) (hW : TW w) :
    Calls Tryd.prog 8 #[.slice a l.length cap] w fun e w' => e = .returned (.bool true) ∧ Below w.heap.size w w' := by
  have K : ∀ W : World, Below w.heap.size w W → Calls Tryd.prog 9 #[] W fun e w' => e = .returned (.bool true) ∧ Below W.heap.size W w' := fun W hb => alive_any W (h9.below hb) (hW.below hb)
  have KP := Ut.points_no a l.length cap ps r w (by rw [hlp]) hps hr hne hb hcap hm (by omega) (by rw [hlp]; exact hrow)
  obtain ⟨len, hlen⟩ : ∃ len, l.length = len := ⟨_, rfl⟩
  rw [hlen] at h2 hcap KP ⊢
  obtain ⟨z, hz⟩ : ∃ z : Int, (((Ut.flat ps).length : Nat) : Int) = z := ⟨_, rfl⟩
  rw [hz] at KP
  clear hrow hlen hlp hr hne h9 hW hz
  go_enter Tryd.func8, Tryd.ntmps8
  go_wp2_with fail
  refine KP.mono ?_
  rintro e w1 ⟨rfl, hb1⟩
  have B1 := hb1.alloc hb1.size (.cells #[.int .i64 z, .int .i64 20] 26)
  go_wp2_with fail
  refine (K _ B1).mono ?_
  rintro e w2 ⟨rfl, hb2⟩
  have HB : Hid (Below w.heap.size w w2) := B1.trans (hb2.mono B1.size)
  clear hb1 hb2 B1 KP K
  go_wp2
  go_ret
  exact ⟨rfl, HB.out⟩
set_option maxRecDepth 100000 in
set_option maxHeartbeats 8000000 in
theorem walk_ok (a : Option Addr) (cap : Nat) (l ps : List Int) (w : World) (h2 : l.length ≤ 1000) (hlp : l = Ut.flat ps) (hps : Ut.AllPt ps) (hcap : l.length ≤ cap) (hm : cap ≤ maxLen) (hrow : Row w a l) (h9 : T9 w) (hW : TW w) :
    Calls Tryd.prog 8 #[.slice a l.length cap] w fun e w' => e = .returned (.bool true) ∧ Below w.heap.size w w' := by
  have K : ∀ W : World, Below w.heap.size w W → Calls Tryd.prog 9 #[] W fun e w' => e = .returned (.bool true) ∧ Below W.heap.size W w' := fun W hb => alive_any W (h9.below hb) (hW.below hb)
  have KP := Ut.points_yes a l.length cap ps w (by rw [hlp]) hps hcap hm (by omega) (by rw [← hlp]; exact hrow)
  have HA : ∀ W : World, Below w.heap.size w W → Calls Tryd.prog 14 #[.string ⟨#[117, 116, 102, 45, 49, 54, 98, 101]⟩, .slice a l.length cap] W fun e w' => ∃ v, e = .returned (.tuple #[v, .agg #[.int .i64 0, .int .i64 0]]) ∧ Own w' W.heap.size v (flatS 7 ps) ∧ Below W.heap.size W w' := fun W hb =>
    encode_yes _ a l.length cap ps W 7 (by decide) set_be (by decide) (by decide) (by rw [hlp]) (units_in (.inl rfl) hps) hcap hm (by omega) (by rw [← hlp]; exact row_below hrow hb) (h9.below hb) (hW.below hb)
  have HB : ∀ W : World, Below w.heap.size w W → Calls Tryd.prog 14 #[.string ⟨#[117, 116, 102, 45, 49, 54, 108, 101]⟩, .slice a l.length cap] W fun e w' => ∃ v, e = .returned (.tuple #[v, .agg #[.int .i64 0, .int .i64 0]]) ∧ Own w' W.heap.size v (flatS 8 ps) ∧ Below W.heap.size W w' := fun W hb =>
    encode_yes _ a l.length cap ps W 8 (by decide) set_le' (by decide) (by decide) (by rw [hlp]) (units_in (.inr rfl) hps) hcap hm (by omega) (by rw [← hlp]; exact row_below hrow hb) (h9.below hb) (hW.below hb)
  have HC : ∀ W : World, Below w.heap.size w W → Calls Tryd.prog 14 #[.string ⟨#[117, 116, 102, 45, 49, 54]⟩, .slice a l.length cap] W fun e w' => ∃ v, e = .returned (.tuple #[v, .agg #[.int .i64 0, .int .i64 0]]) ∧ Own w' W.heap.size v ([254, 255] ++ flatS 7 ps) ∧ Below W.heap.size W w' := fun W hb =>
    encode_yes6 _ a l.length cap ps W (by decide) set_16 (by rw [hlp]) (units_in (.inl rfl) hps) hcap hm (by omega) (by rw [← hlp]; exact row_below hrow hb) (h9.below hb) (hW.below hb)
  have hpl : ps.length ≤ 1000 := by have := Ut.flat_ge ps; rw [← hlp] at this; omega
  have hal := flat_wide (.inl rfl : (7 : Int) = 7 ∨ (7 : Int) = 8) hps
  have hbl := flat_wide (.inr rfl : (8 : Int) = 7 ∨ (8 : Int) = 8) hps
  have HT := turned_flat ps
  have hab : Byt (flatS 7 ps) := flatS_byt hps
  have hwl : wideZ ps ≤ 4000 := by rw [← hal]; have := flatS_le (s := 7) hps; omega
  obtain ⟨A, hA⟩ : ∃ A, flatS 7 ps = A := ⟨_, rfl⟩
  obtain ⟨B, hB⟩ : ∃ B, flatS 8 ps = B := ⟨_, rfl⟩
  rw [hA] at HA HC hal HT hab
  rw [hB] at HB hbl HT
  obtain ⟨len, hlen⟩ : ∃ len, l.length = len := ⟨_, rfl⟩
  rw [hlen] at h2 hcap KP HA HB HC ⊢
  clear hrow hlen hlp h9 hW hA hB
  have HAL : Hid (A.length = wideZ ps) := hal
  have HBL : Hid (B.length = wideZ ps) := hbl
  have HTT : Hid (turned A B) := HT
  clear hal hbl HT
  go_enter Tryd.func8, Tryd.ntmps8
  go_wp2_with fail
  refine KP.mono ?_
  rintro e w1 ⟨v1, rfl, hown1, hb1⟩
  unfold Ut.Own32 at hown1
  obtain ⟨a1, cap1, rfl, hc1, hm1, hrow1, hn1⟩ := own_row' hown1
  have B1 := hb1.alloc hb1.size (.cells #[.int .i64 0, .int .i64 0] 26)
  have R1 := rowK_below hrow1 (keep w1 (.cells #[.int .i64 0, .int .i64 0] 26))
  obtain ⟨W1, hW1⟩ : ∃ W1, w1.alloc (.cells #[.int .i64 0, .int .i64 0] 26) = W1 := ⟨_, rfl⟩
  rw [hW1] at B1 R1
  have HW1 : Hid (w1.alloc (.cells #[.int .i64 0, .int .i64 0] 26) = W1) := hW1
  clear hW1 hown1 hb1 KP hrow1
  go_wp2
  rw [HW1.out]
  have HR1 : Hid (RowK .i32 W1 a1 ps) := R1
  have HB1 : Hid (Below w.heap.size w W1) := B1
  clear R1 B1
  go_loopw [5, 6] (fun n i wr => ∃ k : Nat, i = .int .i64 k ∧ k ≤ ps.length ∧ n = .int .i64 (wideZ (ps.take k) : Nat) ∧ wr = W1) (fun _ i _ => ps.length - (intOf i).toNat)
  case atStart => exact ⟨0, rfl, by omega, rfl, rfl⟩
  case round =>
    obtain ⟨k, rfl, hk, rfl, rfl⟩ := hrel
    by_cases hlt : k < ps.length
    · obtain ⟨p, hp⟩ : ∃ p, ps[k]? = some p := ⟨_, List.getElem?_eq_getElem hlt⟩
      have HN : Hid (wideZ (ps.take (k + 1)) = wideZ (ps.take k) + if p < 65536 then 2 else 4) := by
        unfold Hid
        rw [List.take_add_one, hp, wide_append]; simp [wideZ]
      have hle : wideZ (ps.take k) ≤ wideZ ps := by
        have := congrArg wideZ (List.take_append_drop k ps)
        rw [wide_append] at this; omega
      rcases HR1.out with h | ⟨b, off, rfl, hcell⟩
      · rw [h] at hp; simp at hp
      · have c0 := hcell k hlt
        rw [List.getD_eq_getElem?_getD, hp] at c0
        simp only [Option.getD_some] at c0
        clear hcell hp
        obtain ⟨n, hn⟩ : ∃ n, wideZ (ps.take k) = n := ⟨_, rfl⟩
        rw [hn] at HN hle ⊢
        have hn4 : n ≤ 4000 := by omega
        clear hn hle
        by_cases h6 : p < 65536
        · rw [if_pos h6] at HN
          have bp : decide (p ≥ 65536) = false := by simpa using h6
          go_wp2
          go_roundw
          case rel => exact ⟨k + 1, by go_num, by omega, by rw [HN.out]; go_num, trivial⟩
          case measure => simp [intOf]; omega
        · rw [if_neg h6] at HN
          have bp : decide (p ≥ 65536) = true := by simp; omega
          go_wp2
          go_roundw
          case rel => exact ⟨k + 1, by go_num, by omega, by rw [HN.out]; go_num, trivial⟩
          case measure => simp [intOf]; omega
    · obtain rfl : k = ps.length := by omega
      rw [List.take_length]
      obtain ⟨n, hn⟩ : ∃ n, wideZ ps = n := ⟨_, rfl⟩
      rw [hn] at HAL HBL hwl ⊢
      clear hn
      go_wp2_with fail
      refine (HA _ HB1.out).mono ?_
      rintro e w2 ⟨v2, rfl, hown2, hb2⟩
      obtain ⟨a2, cap2, rfl, hc2, hm2, hrow2, hn2⟩ := own_row' hown2
      have B2 := HB1.out.trans (hb2.mono HB1.out.size)
      have B2' := B2.alloc B2.size (.cells #[.int .i64 0, .int .i64 0] 26)
      go_wp2_with fail
      refine (HB _ B2').mono ?_
      rintro e w3 ⟨v3, rfl, hown3, hb3⟩
      obtain ⟨a3, cap3, rfl, hc3, hm3, hrow3, hn3⟩ := own_row' hown3
      have B3 := B2'.trans (hb3.mono B2'.size)
      have B3' := B3.alloc B3.size (.cells #[.int .i64 0, .int .i64 0] 26)
      go_wp2_with fail
      refine (HC _ B3').mono ?_
      rintro e w4 ⟨v4, rfl, hown4, hb4⟩
      obtain ⟨a4, cap4, rfl, hc4, hm4, hrow4, hn4⟩ := own_row' hown4
      have B4 := B3'.trans (hb4.mono B3'.size)
      have B4' := B4.alloc B4.size (.cells #[.int .i64 0, .int .i64 0] 26)
      have hs2 := B2.size
      have hs3 : w2.heap.size + 1 ≤ w3.heap.size := by have := hb3.size; simpa using this
      have hs4 : w3.heap.size + 1 ≤ w4.heap.size := by have := hb4.size; simpa using this
      have k4 := keep w4 (.cells #[.int .i64 0, .int .i64 0] 26)
      have R2 := row_below (row_below (row_below (row_below (row_below (row_k hrow2) (keep w2 (.cells #[.int .i64 0, .int .i64 0] 26))) hb3) (keep w3 (.cells #[.int .i64 0, .int .i64 0] 26))) hb4) k4
      have R3 := row_below (row_below (row_below (row_k hrow3) (keep w3 (.cells #[.int .i64 0, .int .i64 0] 26))) hb4) k4
      have R4 := row_below (row_k hrow4) k4
      obtain ⟨W4, hW4⟩ : ∃ W4, w4.alloc (.cells #[.int .i64 0, .int .i64 0] 26) = W4 := ⟨_, rfl⟩
      have a1' : W4.cell? ⟨w2.heap.size, 1, none⟩ = some (.int .i64 0) := by
        rw [← hW4, k4.cell (by simp; omega), hb4.cell (by simp; omega), (keep w3 _).cell (by simp; omega), hb3.cell (by simp)]; simp
      have b1' : W4.cell? ⟨w3.heap.size, 1, none⟩ = some (.int .i64 0) := by
        rw [← hW4, k4.cell (by simp; omega), hb4.cell (by simp)]; simp
      have d1' : W4.cell? ⟨w4.heap.size, 1, none⟩ = some (.int .i64 0) := by rw [← hW4]; simp
      rw [hW4] at R2 R3 R4 B4'
      obtain ⟨b4, o4, rfl, _, _⟩ := row_two (show Row W4 a4 (254 :: 255 :: A) from R4)
      have R4d := row_drop (n := 2) (cap := cap4) R4 hc4
      have hl4 : ([254, 255] ++ A).length = n + 2 := by rw [List.length_append, HAL.out]; simp; omega
      rw [hl4] at hc4
      have hcap4 : cap4 ≠ 2 ∨ n = 0 := by omega
      rw [show (([254, 255] : List Int) ++ A).drop 2 = A from rfl] at R4d
      have hw2 : IntKind.i64.wrap ((n : Int) + 2) = (n : Int) + 2 := by rw [IntKind.wrap_i64]; omega
      have hnn : (((n : Int) + 2) != ((n : Int) + 2)) = false := by simp
      have hnn2 : (((n + 2 : Nat) : Int) != ((n : Int) + 2)) = false := by simp
      have hnn3 : ((n : Int) != (n : Int)) = false := by simp
      have hne : ((strOfNums A).toList != (strOfNums A).toList) = false := by simp
      have HW4 : Hid (w4.alloc (.cells #[.int .i64 0, .int .i64 0] 26) = W4) := hW4
      have HB4 : Hid (Below w.heap.size w W4) := B4'
      have HR2 : Hid (Row W4 a2 A) := R2
      have HR3 : Hid (Row W4 a3 B) := R3
      rw [HAL.out] at hc2
      rw [HBL.out] at hc3
      rw [HAL.out, HBL.out]
      simp only [hl4]
      clear hW4 R3 R4 B2 B2' B3 B3' B4 B4' k4 hown2 hown3 hown4 hrow2 hrow3 hrow4 hb2 hb3 hb4 HA HB HC hl4
      by_cases hc42 : cap4 = 2
      · have hn0 : n = 0 := by omega
        subst hc42
        rw [if_pos rfl] at R4d
        have kA : ∀ j, (convert 22 9 (.slice a2 n cap2)).run Tryd.prog (W4.drewN j) = .ok (.string (strOfNums A)) (W4.drewN j) := fun j => conv_row n cap2 HAL.out (row_drewN HR2.out j)
        have kC : ∀ j, (convert 22 9 (.slice (some ⟨b4, o4, none⟩) n 0)).run Tryd.prog (W4.drewN j) = .ok (.string (strOfNums A)) (W4.drewN j) := fun j => conv_row n 0 HAL.out (row_drewN R4d j)
        have kA0 := kA 0
        have kC0 := kC 0
        rw [World.drewN_zero] at kA0 kC0
        have hw0 : IntKind.i64.wrap 2 = 2 := by decide
        have h22 : ((2 : Int) != 2) = false := by decide
        subst hn0
        clear R4d
        go_wp2_with fail
        rw [HW4.out]
        go_quiet (fail)
        go_wp2
        clear kA kC kA0 kC0 a1' b1' d1'
        go_loopw [13] (fun i wr => ∃ (k j : Nat), i = .int .i64 k ∧ k ≤ 0 ∧ k % 2 = 0 ∧ wr = W4.drewN j) (fun i _ => 0 - (intOf i).toNat)
        case atStart => exact ⟨0, _, rfl, by omega, rfl, rfl⟩
        case round =>
          obtain ⟨k, j, rfl, hk, hk2, rfl⟩ := hrel
          have hlt : ¬ k + 1 < 0 := by omega
          go_wp2_with (go_at_call 9; refine (K _ (below_drewN HB4.out _)).mono ?_; rintro e w5 ⟨rfl, hb5⟩)
          go_ret
          have B5 := below_drewN HB4.out j
          exact ⟨rfl, B5.trans (hb5.mono B5.size)⟩
      · rw [if_neg hc42] at R4d
        simp only [Option.map, add_plain] at R4d
        have kA : ∀ j, (convert 22 9 (.slice a2 n cap2)).run Tryd.prog (W4.drewN j) = .ok (.string (strOfNums A)) (W4.drewN j) := fun j => conv_row n cap2 HAL.out (row_drewN HR2.out j)
        have kC : ∀ j, (convert 22 9 (.slice (some ⟨b4, o4 + 2, none⟩) n (cap4 - 2))).run Tryd.prog (W4.drewN j) = .ok (.string (strOfNums A)) (W4.drewN j) := fun j => conv_row n (cap4 - 2) HAL.out (row_drewN R4d j)
        have kA0 := kA 0
        have kC0 := kC 0
        rw [World.drewN_zero] at kA0 kC0
        have hx1 : (2 : Int) ≤ (n : Int) + 2 := by omega
        have hx2 : (2 : Int) ≤ ((n + 2 : Nat) : Int) := by omega
        have hx3 : (n : Int) + 2 ≤ (cap4 : Int) := by omega
        have hx4 : 2 ≤ n + 2 := by omega
        have hx5 : 2 ≤ cap4 := by omega
        clear R4d
        go_wp2_with fail
        rw [HW4.out]
        go_quiet (fail)
        go_wp2
        clear kA kC kA0 kC0 a1' b1' d1'
        go_loopw [13] (fun i wr => ∃ (k j : Nat), i = .int .i64 k ∧ k ≤ n ∧ k % 2 = 0 ∧ wr = W4.drewN j) (fun i _ => n - (intOf i).toNat)
        case atStart => exact ⟨0, _, rfl, by omega, rfl, rfl⟩
        case round =>
          obtain ⟨k, j, rfl, hk, hk2, rfl⟩ := hrel
          by_cases hlt : k + 1 < n
          · obtain ⟨ht1, ht2, ht3⟩ := turned_at A B k HTT.out hk2 (by rw [HAL.out]; exact hlt)
            rcases HR2.out with h | ⟨b2, o2, rfl, hc2'⟩
            · rw [h] at HAL; have := HAL.out; simp at this; omega
            · rcases HR3.out with h | ⟨b3, o3, rfl, hc3'⟩
              · rw [h] at HBL; have := HBL.out; simp at this; omega
              · have x0 := hc2' k (by rw [HAL.out]; omega)
                have x1 := hc2' (k + 1) (by rw [HAL.out]; omega)
                have y0 := hc3' k (by rw [HBL.out]; omega)
                have y1 := hc3' (k + 1) (by rw [HBL.out]; omega)
                rw [← ht1] at y1
                rw [← ht2] at y0
                obtain ⟨x, hx⟩ : ∃ x, A.getD k 0 = x := ⟨_, rfl⟩
                obtain ⟨y, hy⟩ : ∃ y, A.getD (k + 1) 0 = y := ⟨_, rfl⟩
                rw [hx] at x0 y1
                rw [hy] at x1 y0
                have hxx : (x != x) = false := by simp
                have hyy : (y != y) = false := by simp
                clear hx hy ht1 ht2 ht3 hc2' hc3'
                go_wp2_with fail
                go_quiet (fail)
                go_wp2
                go_roundw
                case rel => exact ⟨k + 2, _, by go_num, by omega, by omega, rfl⟩
                case measure => simp [intOf]; omega
          · go_wp2_with (go_at_call 9; refine (K _ (below_drewN HB4.out _)).mono ?_; rintro e w5 ⟨rfl, hb5⟩)
            go_ret
            have B5 := below_drewN HB4.out j
            exact ⟨rfl, B5.trans (hb5.mono B5.size)⟩
theorem walk (a : Option Addr) (len cap : Nat) (z : List Int) (w : World) (hz : IsRow .u8 w a len cap z) (h9 : T9 w) (hW : TW w) :
    Calls Tryd.prog 8 #[.slice a len cap] w fun e w' => e = .returned (.bool true) ∧ Below w.heap.size w w' := by
  obtain ⟨l, hlen, hcap, hm, hl, hrow⟩ := byte_view hz
  subst hlen
  rcases Nat.lt_or_ge 1000 l.length with h2 | h2
  · exact walk_long a _ cap w h2 h9 hW
  obtain ⟨ps, r, hps, hlr, hr⟩ := Ut.split_ex l hl
  by_cases hne : r = []
  · subst hne
    exact walk_ok a cap l ps w h2 (by rw [hlr, List.append_nil]) hps hcap hm hrow h9 hW
  · exact walk_bad a cap l ps r w h2 hlr.symm hps hr hne (fun x hx => hl x (by rw [hlr]; simp [hx])) hcap hm hrow h9 hW

set_option maxRecDepth 100000 in
theorem lifted (os : Os) (started : os.Started) (H : Type) (enc : TypeId × Value → H) :
    ReturnsInHanded {} Tryd.checked os 8 .any (fun w args => (Rows.charsetWideSpec.pre enc Tryd.prog Tryd.f8 Rows.charsetWideRow.domain false w args ∧ laidMetH Tryd.prog Rows.charsetWideRow.laid w) ∧ sizedMet enc Tryd.prog Tryd.f8 (OpenSpec.ofChange Rows.charsetWideSpec) false w args)
      (Rows.charsetWideSpec.post enc Tryd.prog Tryd.f8 false true false false) := by
  refine returnsInHanded_of_change_and (C := Tryd.checked) (X := fun w _ => laidMetH Tryd.prog Rows.charsetWideRow.laid w) (fun _ _ _ hh h => h.of_heap hh) own started (by kernel_rfl) Tryd.func8
    (ChangeSpec.witness_shaped (enc := enc) (C := Tryd.checked) (os := os) (X := fun w _ => laidMetH Tryd.prog Rows.charsetWideRow.laid w) false (World.laidAll Tryd.prog os Rows.charsetWideRow.laid) #[.slice none 0 0] 8 (World.laidAll_os _ _ _)
      (World.shaped_of_ZipB (by kernel_rfl) (by kernel_rfl)) (by kernel_rfl) (by kernel_rfl) (by kernel_rfl)
      (by rw [MakeChecks.laidMetH_plain _ _ _ (by kernel_rfl)]; exact laidMet_laidAll _ (by kernel_rfl) (by kernel_rfl))) ?_
  intro W base args ds gs before hval0 hW0 hcnd _ hL0 _
  have hL : laidMet Tryd.prog Rows.charsetWideRow.laid W := by
    have : laidMetH Tryd.prog Rows.charsetWideRow.laid W := hL0
    rwa [MakeChecks.laidMetH_plain _ _ _ (by kernel_rfl)] at this
  have hval : ∀ (j : Nat) t v, Tryd.f8.params[j]? = some t → args[j]? = some v → Value.okWide Tryd.prog W .any base t v := hval0
  have hW' := hW0
  obtain ⟨p, q, hA0, hV, rfl, hfz, hnd⟩ := hW0
  have hA : DataW.TrodAll enc Tryd.prog W 0 (fun _ => true) true Tryd.f8.params.toList args.toList ds p := hA0
  rw [Tryd.params8] at hA hval
  obtain ⟨v0, vs0, d0, ds0, p0, q0, hargs, rfl, rfl, h0, r0⟩ := trodAll_cons hA
  obtain ⟨rfl, rfl, rfl⟩ := trodAll_nil r0
  obtain rfl : args = #[v0] := by cases args; simp_all
  obtain ⟨rfl, rfl⟩ := trodVars_none hV
  have k0 := h0
  have lt0 : ∀ x ∈ p0, x.block < W.heap.size := by obtain ⟨m, hm⟩ := k0; exact DataW.trod_lt m _ _ _ hm
  obtain ⟨a0, len0, cap0, rfl⟩ := okWide_slice Tryd.underlying22 (hval 0 22 v0 rfl rfl)
  obtain ⟨z0, w0⟩ : ∃ zs, IsRow .u8 W a0 len0 cap0 zs := by
    obtain ⟨fuel, hf⟩ := h0
    rcases open_ints Tryd.underlying22 Tryd.underlying5 (by kernel_rfl) hf with ⟨hcs, _⟩ | ⟨x, l, c, zs, hcs, _, hl, hm, hz, _, hcell, hwz⟩
    · simp [Value.cells] at hcs
      obtain ⟨rfl, rfl, rfl⟩ := hcs
      exact ⟨[], .inl ⟨rfl, rfl, rfl, rfl⟩⟩
    · simp [Value.cells] at hcs
      obtain ⟨rfl, rfl, rfl⟩ := hcs
      exact ⟨zs, .inr ⟨_, rfl, hl, hm, by simpa using hz, hcell, hwz⟩⟩
  clear hA0 hval0
  have h9 := t9_of hL
  have hWt := tW_of (laidMet.tail hL)
  simp only [List.append_nil] at hW'
  refine (walk a0 len0 cap0 z0 W w0 h9 hWt).mono fun e W' ⟨he, bel⟩ => ?_
  subst he
  exact ⟨_, rfl, _, _, _, [], _, [], hW', trodAll_mk1 (shut_bool Tryd.underlying4 _), (trodAll_cons_mk (Below.trod laidOut (by kernel_rfl) (of_decide_eq_true (by kernel_rfl)) k0 bel lt0) trodAll_mk0), rfl, bel.frame _, fun h => by cases h⟩

theorem over : Rows.CharsetWideSaid :=
  OpenClaim.holds_of_wide 8 Tryd.f8 rfl rfl rfl rfl rfl rfl rfl ⟨rfl, rfl, rfl, rfl, rfl⟩ rfl rfl rfl rfl rfl (by kernel_rfl) Tryd.func8 (by kernel_rfl)
    (of_decide_eq_true (by kernel_rfl)) (by unfold Func.isWrapper; first | (rw [if_pos (by decide +kernel)]; kernel_rfl) | (rw [if_neg (by decide +kernel)]; exact ⟨rfl, rfl⟩))
    (fun os started H enc _ => lifted os started H enc)
end Go.Proofs.YtlhhbmolkiojfaaDoor.charsetWide
namespace Go.Proofs.YtlhhbmolkiojfaaDoor
theorem charsetWide_card : Rows.CharsetWideCardSaid :=
  Claim7.holds_tied_plain_at .later [] _ _ _ _ charsetWide.over (fun _ h => by cases h) (by kernel_rfl) (fun _ h => by cases h) charsetWide_row_tie rfl ⟨rfl, rfl⟩ (by kernel_rfl) rfl
    (fun f fn hf hfn => by
      obtain rfl : f = 8 := Option.some.inj ((show Tryd.prog.funcNamed Rows.charsetWideRow.func = some 8 by kernel_rfl).symm.trans hf) |>.symm
      obtain rfl : fn = Tryd.f8 := (Option.some.inj (Tryd.func8.symm.trans hfn)).symm
      exact ⟨by kernel_rfl, fun j t ht => by
        rw [Tryd.params8] at ht
        have hm : t ∈ [22] := by simpa using Array.mem_of_getElem? ht
        have hall : ([22].all fun u => !Tryd.prog.wantsStandIn u) = true := by kernel_rfl
        exact (show Tryd.prog.wantsStandIn t = false by simpa using List.all_eq_true.1 hall t hm)⟩)
    (by kernel_rfl)
#print axioms charsetWide_card
end Go.Proofs.YtlhhbmolkiojfaaDoor
