/-
  CharsetBytes: what is decoded is valid, can be encoded, and is, of all sets but utf-16, the bytes that were read. The tables of the package are as the program lays them (the card ties them).
-/
import Derived.Test.YtlhhbmolkiojfaaDoorCards
import Derived.Test.YtlhhbmolkiojfaaDoorTie
import Derived.Test.YtlhhbmolkiojfaaDoorCm
import Derived.WalkKit
import Derived.ProofKit
import Derived.OpenShut
import Derived.ShutString
import Derived.ChangeOld
import Derived.Below
import Derived.LaidMore
import Derived.Lay
import Derived.SevenTiedAt
import Derived.Stop.Joined
namespace Go.Proofs.YtlhhbmolkiojfaaDoor.charsetBytes
open Go.ChangeShapes Go.WideShapes Go.ChangeAt Go.RowKit
open Go.ChangeMaps (open_string shut_string)
set_option linter.unusedVariables false

set_option maxRecDepth 100000 in
set_option maxHeartbeats 8000000 in
theorem walk_long1 (s : ByteArray) (a : Option Addr) (len cap : Nat) (w : World) (h : 100 < s.size) (h9 : T9 w) (hW : TW w) :
    Calls Tryd.prog 6 #[.string s, .slice a len cap] w fun e w' => e = .returned (.bool true) ∧ Below w.heap.size w w' := by
  have K := alive_any w h9 hW
  go_enter Tryd.func6, Tryd.ntmps6
  go_wp2_with (go_at_call 9; refine K.mono ?_; rintro e w' ⟨rfl, hb⟩)
  go_ret
  exact ⟨rfl, hb⟩
set_option maxRecDepth 100000 in
set_option maxHeartbeats 8000000 in
theorem walk_long2 (s : ByteArray) (a : Option Addr) (len cap : Nat) (w : World) (h : s.size ≤ 100) (h2 : 1000 < len) (h9 : T9 w) (hW : TW w) :
    Calls Tryd.prog 6 #[.string s, .slice a len cap] w fun e w' => e = .returned (.bool true) ∧ Below w.heap.size w w' := by
  have K := alive_any w h9 hW
  go_enter Tryd.func6, Tryd.ntmps6
  go_wp2_with (go_at_call 9; refine K.mono ?_; rintro e w' ⟨rfl, hb⟩)
  go_ret
  exact ⟨rfl, hb⟩
set_option maxRecDepth 100000 in
set_option maxHeartbeats 8000000 in
theorem walk_fail (s : ByteArray) (a : Option Addr) (cap : Nat) (l : List Int) (w : World) (h : s.size ≤ 100) (h2 : l.length ≤ 1000) (hl : Byt l) (hcap : l.length ≤ cap) (hm : cap ≤ maxLen) (hrow : Row w a l) (h9 : T9 w) (hW : TW w) (n c : Int) (hc0 : c ≠ 0) (hn0 : 0 ≤ n) (hn1 : n ≤ l.length)
    (KE : Calls Tryd.prog 10 #[.string s, .slice a l.length cap] w fun e w' => e = .returned (.tuple #[.slice none 0 0, .agg #[.int .i64 n, .int .i64 c]]) ∧ Below w.heap.size w w') :
    Calls Tryd.prog 6 #[.string s, .slice a l.length cap] w fun e w' => e = .returned (.bool true) ∧ Below w.heap.size w w' := by
  have K : ∀ W : World, Below w.heap.size w W → Calls Tryd.prog 9 #[] W fun e w' => e = .returned (.bool true) ∧ Below W.heap.size W w' := fun W hb => alive_any W (h9.below hb) (hW.below hb)
  obtain ⟨len, hlen⟩ : ∃ len, l.length = len := ⟨_, rfl⟩
  rw [hlen] at h2 hcap KE hn1 ⊢
  have bc : (c != 0) = true := by simpa using hc0
  clear hrow h9 hW hlen hc0
  go_enter Tryd.func6, Tryd.ntmps6
  go_wp2_with fail
  refine KE.mono ?_
  rintro e w1 ⟨rfl, hb1⟩
  have B1 := hb1.alloc hb1.size (.cells #[.int .i64 n, .int .i64 c] 26)
  go_wp2_with fail
  refine (K _ B1).mono ?_
  rintro e w2 ⟨rfl, hb2⟩
  have HB : Hid (Below w.heap.size w w2) := B1.trans (hb2.mono B1.size)
  have c0 : w2.cell? ⟨w1.heap.size, 0, none⟩ = some (.int .i64 n) := by rw [hb2.cell (by simp)]; simp
  clear hb1 hb2 B1 KE K
  go_wp2
  go_ret
  exact ⟨rfl, HB.out⟩
set_option maxRecDepth 100000 in
set_option maxHeartbeats 8000000 in
theorem walk_marked (s : ByteArray) (a : Option Addr) (cap : Nat) (l : List Int) (w : World) (h : s.size ≤ 100) (h2 : l.length ≤ 1000) (hl : Byt l) (hcap : l.length ≤ cap) (hm : cap ≤ maxLen) (hrow : Row w a l) (h9 : T9 w) (hW : TW w) (X y : List Int) (qs : List Int) (h6 : s.size = 6) (h5 : 5 < s.size) (e3 : (s[3].toNat : Int) = 45) (e4 : (s[4].toNat : Int) = 49) (e5 : (s[5].toNat : Int) = 54) (hX : X = Ut.flat qs) (hqs : Ut.AllPt qs)
    (KD : Calls Tryd.prog 10 #[.string s, .slice a l.length cap] w fun e w' => ∃ v, e = .returned (.tuple #[v, .agg #[.int .i64 0, .int .i64 0]]) ∧ Own w' w.heap.size v X ∧ Below w.heap.size w w')
    (KE : ∀ W a cap, Row W a X → X.length ≤ cap → cap ≤ maxLen → T9 W → TW W → Calls Tryd.prog 14 #[.string s, .slice a X.length cap] W fun e w' => ∃ v, e = .returned (.tuple #[v, .agg #[.int .i64 0, .int .i64 0]]) ∧ Own w' W.heap.size v y ∧ Below W.heap.size W w')
    (KD2 : ∀ W a cap, Row W a y → y.length ≤ cap → cap ≤ maxLen → T9 W → TW W → Calls Tryd.prog 10 #[.string s, .slice a y.length cap] W fun e w' => ∃ v, e = .returned (.tuple #[v, .agg #[.int .i64 0, .int .i64 0]]) ∧ Own w' W.heap.size v X ∧ Below W.heap.size W w') :
    Calls Tryd.prog 6 #[.string s, .slice a l.length cap] w fun e w' => e = .returned (.bool true) ∧ Below w.heap.size w w' := by
  have K : ∀ W : World, Below w.heap.size w W → Calls Tryd.prog 9 #[] W fun e w' => e = .returned (.bool true) ∧ Below W.heap.size W w' := fun W hb => alive_any W (h9.below hb) (hW.below hb)
  have KV : ∀ (W : World) a cap, Row W a X → X.length ≤ cap → cap ≤ maxLen → Calls Tryd.prog 17 #[.slice a X.length cap] W fun e w' => e = .returned (.bool true) ∧ W = w' := fun W a cap hr h1 h2 => by
    rw [hX] at h1 hr ⊢
    have := Ut.valid_any a _ cap qs [] W (by rw [List.append_nil]) hqs rfl (by intro x hx; simp at hx) h1 h2 (by rw [List.append_nil]; exact hr)
    exact this
  have HR : Row w a l := hrow
  clear hX
  go_enter Tryd.func6, Tryd.ntmps6
  go_wp2_with fail
  refine KD.mono ?_
  rintro e w1 ⟨v1, rfl, hown1, hb1⟩
  obtain ⟨a1, cap1, rfl, hc1, hm1, hrow1, hn1⟩ := own_row' hown1
  have B1 := hb1
  have B1' := B1.alloc B1.size (.cells #[.int .i64 0, .int .i64 0] 26)
  have R1 := row_below (row_k hrow1) (keep w1 (.cells #[.int .i64 0, .int .i64 0] 26))
  go_wp2_with fail
  refine (KE _ a1 cap1 R1 hc1 hm1 (h9.below B1') (hW.below B1')).mono ?_
  rintro e w2 ⟨v2, rfl, hown2, hb2⟩
  obtain ⟨a2, cap2, rfl, hc2, hm2, hrow2, hn2⟩ := own_row' hown2
  have B2 := B1'.trans (hb2.mono B1'.size)
  have B2' := B2.alloc B2.size (.cells #[.int .i64 0, .int .i64 0] 26)
  have R1b := row_below (row_below R1 hb2) (keep w2 (.cells #[.int .i64 0, .int .i64 0] 26))
  have R2 := row_below (row_k hrow2) (keep w2 (.cells #[.int .i64 0, .int .i64 0] 26))
  go_wp2_with fail
  refine (KV _ a1 cap1 R1b hc1 hm1).mono ?_
  rintro e w2' ⟨rfl, hw2⟩
  subst hw2
  go_wp2_with fail
  refine (KD2 _ a2 cap2 R2 hc2 hm2 (h9.below B2') (hW.below B2')).mono ?_
  rintro e w3 ⟨v3, rfl, hown3, hb3⟩
  obtain ⟨a3, cap3, rfl, hc3, hm3, hrow3, hn3⟩ := own_row' hown3
  have B3 := B2'.trans (hb3.mono B2'.size)
  have B3' := B3.alloc B3.size (.cells #[.int .i64 0, .int .i64 0] 26)
  have R1c := row_below (row_below R1b hb3) (keep w3 (.cells #[.int .i64 0, .int .i64 0] 26))
  have R3 := row_below (row_k hrow3) (keep w3 (.cells #[.int .i64 0, .int .i64 0] 26))
  skip
  go_wp2_with fail
  refine (K _ B3').mono ?_
  rintro e w4 ⟨rfl, hb4⟩
  have c1 : w4.cell? ⟨w3.heap.size, 1, none⟩ = some (.int .i64 0) := by rw [hb4.cell (by simp)]; simp
  have HB : Hid (Below w.heap.size w w4) := B3'.trans (hb4.mono B3'.size)
  have k3 := conv_row X.length cap3 rfl (row_below R3 hb4)
  have k1 := conv_row X.length cap1 rfl (row_below R1c hb4)
  skip
  clear R1 R1b R1c R2 R3 HR hown1 hown2 hown3 hrow1 hrow2 hrow3 hb1 hb2 hb3 hb4 B1 B1' B2 B2' B3 B3' KE KD KD2 K
  go_wp2
  go_ret
  exact ⟨rfl, HB.out⟩
set_option maxRecDepth 100000 in
set_option maxHeartbeats 8000000 in
theorem walk_p0 (s : ByteArray) (a : Option Addr) (cap : Nat) (l : List Int) (w : World) (h : s.size ≤ 100) (h2 : l.length ≤ 1000) (hl : Byt l) (hcap : l.length ≤ cap) (hm : cap ≤ maxLen) (hrow : Row w a l) (h9 : T9 w) (hW : TW w) (X y : List Int) (qs : List Int) (hn6 : s.size ≠ 6) (hyl : y = l) (hX : X = Ut.flat qs) (hqs : Ut.AllPt qs)
    (KD : Calls Tryd.prog 10 #[.string s, .slice a l.length cap] w fun e w' => ∃ v, e = .returned (.tuple #[v, .agg #[.int .i64 0, .int .i64 0]]) ∧ Own w' w.heap.size v X ∧ Below w.heap.size w w')
    (KE : ∀ W a cap, Row W a X → X.length ≤ cap → cap ≤ maxLen → T9 W → TW W → Calls Tryd.prog 14 #[.string s, .slice a X.length cap] W fun e w' => ∃ v, e = .returned (.tuple #[v, .agg #[.int .i64 0, .int .i64 0]]) ∧ Own w' W.heap.size v y ∧ Below W.heap.size W w')
    (KD2 : ∀ W a cap, Row W a y → y.length ≤ cap → cap ≤ maxLen → T9 W → TW W → Calls Tryd.prog 10 #[.string s, .slice a y.length cap] W fun e w' => ∃ v, e = .returned (.tuple #[v, .agg #[.int .i64 0, .int .i64 0]]) ∧ Own w' W.heap.size v X ∧ Below W.heap.size W w') :
    Calls Tryd.prog 6 #[.string s, .slice a l.length cap] w fun e w' => e = .returned (.bool true) ∧ Below w.heap.size w w' := by
  have K : ∀ W : World, Below w.heap.size w W → Calls Tryd.prog 9 #[] W fun e w' => e = .returned (.bool true) ∧ Below W.heap.size W w' := fun W hb => alive_any W (h9.below hb) (hW.below hb)
  have KV : ∀ (W : World) a cap, Row W a X → X.length ≤ cap → cap ≤ maxLen → Calls Tryd.prog 17 #[.slice a X.length cap] W fun e w' => e = .returned (.bool true) ∧ W = w' := fun W a cap hr h1 h2 => by
    rw [hX] at h1 hr ⊢
    have := Ut.valid_any a _ cap qs [] W (by rw [List.append_nil]) hqs rfl (by intro x hx; simp at hx) h1 h2 (by rw [List.append_nil]; exact hr)
    exact this
  have HR : Row w a l := hrow
  clear hX
  subst hyl
  go_enter Tryd.func6, Tryd.ntmps6
  go_wp2_with fail
  refine KD.mono ?_
  rintro e w1 ⟨v1, rfl, hown1, hb1⟩
  obtain ⟨a1, cap1, rfl, hc1, hm1, hrow1, hn1⟩ := own_row' hown1
  have B1 := hb1
  have B1' := B1.alloc B1.size (.cells #[.int .i64 0, .int .i64 0] 26)
  have R1 := row_below (row_k hrow1) (keep w1 (.cells #[.int .i64 0, .int .i64 0] 26))
  go_wp2_with fail
  refine (KE _ a1 cap1 R1 hc1 hm1 (h9.below B1') (hW.below B1')).mono ?_
  rintro e w2 ⟨v2, rfl, hown2, hb2⟩
  obtain ⟨a2, cap2, rfl, hc2, hm2, hrow2, hn2⟩ := own_row' hown2
  have B2 := B1'.trans (hb2.mono B1'.size)
  have B2' := B2.alloc B2.size (.cells #[.int .i64 0, .int .i64 0] 26)
  have R1b := row_below (row_below R1 hb2) (keep w2 (.cells #[.int .i64 0, .int .i64 0] 26))
  have R2 := row_below (row_k hrow2) (keep w2 (.cells #[.int .i64 0, .int .i64 0] 26))
  go_wp2_with fail
  refine (KV _ a1 cap1 R1b hc1 hm1).mono ?_
  rintro e w2' ⟨rfl, hw2⟩
  subst hw2
  go_wp2_with fail
  refine (KD2 _ a2 cap2 R2 hc2 hm2 (h9.below B2') (hW.below B2')).mono ?_
  rintro e w3 ⟨v3, rfl, hown3, hb3⟩
  obtain ⟨a3, cap3, rfl, hc3, hm3, hrow3, hn3⟩ := own_row' hown3
  have B3 := B2'.trans (hb3.mono B2'.size)
  have B3' := B3.alloc B3.size (.cells #[.int .i64 0, .int .i64 0] 26)
  have R1c := row_below (row_below R1b hb3) (keep w3 (.cells #[.int .i64 0, .int .i64 0] 26))
  have R3 := row_below (row_k hrow3) (keep w3 (.cells #[.int .i64 0, .int .i64 0] 26))
  have b6 : ((s.size : Int) == 6) = false := by simpa using fun e => hn6 (by omega)
  go_wp2_with fail
  refine (K _ B3').mono ?_
  rintro e w4 ⟨rfl, hb4⟩
  have c1 : w4.cell? ⟨w3.heap.size, 1, none⟩ = some (.int .i64 0) := by rw [hb4.cell (by simp)]; simp
  have HB : Hid (Below w.heap.size w w4) := B3'.trans (hb4.mono B3'.size)
  have k3 := conv_row X.length cap3 rfl (row_below R3 hb4)
  have k1 := conv_row X.length cap1 rfl (row_below R1c hb4)
  have R2c := row_below (row_below (row_below R2 hb3) (keep w3 (.cells #[.int .i64 0, .int .i64 0] 26))) hb4
  have ky := conv_row y.length cap2 rfl R2c
  have kl := conv_row y.length cap rfl (row_below HR HB.out)
  clear R1 R1b R1c R2 R3 HR hown1 hown2 hown3 hrow1 hrow2 hrow3 hb1 hb2 hb3 hb4 B1 B1' B2 B2' B3 B3' KE KD KD2 K
  go_wp2
  go_ret
  exact ⟨rfl, HB.out⟩
set_option maxRecDepth 100000 in
set_option maxHeartbeats 8000000 in
theorem walk_p1 (s : ByteArray) (a : Option Addr) (cap : Nat) (l : List Int) (w : World) (h : s.size ≤ 100) (h2 : l.length ≤ 1000) (hl : Byt l) (hcap : l.length ≤ cap) (hm : cap ≤ maxLen) (hrow : Row w a l) (h9 : T9 w) (hW : TW w) (X y : List Int) (qs : List Int) (h6 : s.size = 6) (h5 : 5 < s.size) (e3 : (s[3].toNat : Int) ≠ 45) (hyl : y = l) (hX : X = Ut.flat qs) (hqs : Ut.AllPt qs)
    (KD : Calls Tryd.prog 10 #[.string s, .slice a l.length cap] w fun e w' => ∃ v, e = .returned (.tuple #[v, .agg #[.int .i64 0, .int .i64 0]]) ∧ Own w' w.heap.size v X ∧ Below w.heap.size w w')
    (KE : ∀ W a cap, Row W a X → X.length ≤ cap → cap ≤ maxLen → T9 W → TW W → Calls Tryd.prog 14 #[.string s, .slice a X.length cap] W fun e w' => ∃ v, e = .returned (.tuple #[v, .agg #[.int .i64 0, .int .i64 0]]) ∧ Own w' W.heap.size v y ∧ Below W.heap.size W w')
    (KD2 : ∀ W a cap, Row W a y → y.length ≤ cap → cap ≤ maxLen → T9 W → TW W → Calls Tryd.prog 10 #[.string s, .slice a y.length cap] W fun e w' => ∃ v, e = .returned (.tuple #[v, .agg #[.int .i64 0, .int .i64 0]]) ∧ Own w' W.heap.size v X ∧ Below W.heap.size W w') :
    Calls Tryd.prog 6 #[.string s, .slice a l.length cap] w fun e w' => e = .returned (.bool true) ∧ Below w.heap.size w w' := by
  have K : ∀ W : World, Below w.heap.size w W → Calls Tryd.prog 9 #[] W fun e w' => e = .returned (.bool true) ∧ Below W.heap.size W w' := fun W hb => alive_any W (h9.below hb) (hW.below hb)
  have KV : ∀ (W : World) a cap, Row W a X → X.length ≤ cap → cap ≤ maxLen → Calls Tryd.prog 17 #[.slice a X.length cap] W fun e w' => e = .returned (.bool true) ∧ W = w' := fun W a cap hr h1 h2 => by
    rw [hX] at h1 hr ⊢
    have := Ut.valid_any a _ cap qs [] W (by rw [List.append_nil]) hqs rfl (by intro x hx; simp at hx) h1 h2 (by rw [List.append_nil]; exact hr)
    exact this
  have HR : Row w a l := hrow
  clear hX
  subst hyl
  go_enter Tryd.func6, Tryd.ntmps6
  go_wp2_with fail
  refine KD.mono ?_
  rintro e w1 ⟨v1, rfl, hown1, hb1⟩
  obtain ⟨a1, cap1, rfl, hc1, hm1, hrow1, hn1⟩ := own_row' hown1
  have B1 := hb1
  have B1' := B1.alloc B1.size (.cells #[.int .i64 0, .int .i64 0] 26)
  have R1 := row_below (row_k hrow1) (keep w1 (.cells #[.int .i64 0, .int .i64 0] 26))
  go_wp2_with fail
  refine (KE _ a1 cap1 R1 hc1 hm1 (h9.below B1') (hW.below B1')).mono ?_
  rintro e w2 ⟨v2, rfl, hown2, hb2⟩
  obtain ⟨a2, cap2, rfl, hc2, hm2, hrow2, hn2⟩ := own_row' hown2
  have B2 := B1'.trans (hb2.mono B1'.size)
  have B2' := B2.alloc B2.size (.cells #[.int .i64 0, .int .i64 0] 26)
  have R1b := row_below (row_below R1 hb2) (keep w2 (.cells #[.int .i64 0, .int .i64 0] 26))
  have R2 := row_below (row_k hrow2) (keep w2 (.cells #[.int .i64 0, .int .i64 0] 26))
  go_wp2_with fail
  refine (KV _ a1 cap1 R1b hc1 hm1).mono ?_
  rintro e w2' ⟨rfl, hw2⟩
  subst hw2
  go_wp2_with fail
  refine (KD2 _ a2 cap2 R2 hc2 hm2 (h9.below B2') (hW.below B2')).mono ?_
  rintro e w3 ⟨v3, rfl, hown3, hb3⟩
  obtain ⟨a3, cap3, rfl, hc3, hm3, hrow3, hn3⟩ := own_row' hown3
  have B3 := B2'.trans (hb3.mono B2'.size)
  have B3' := B3.alloc B3.size (.cells #[.int .i64 0, .int .i64 0] 26)
  have R1c := row_below (row_below R1b hb3) (keep w3 (.cells #[.int .i64 0, .int .i64 0] 26))
  have R3 := row_below (row_k hrow3) (keep w3 (.cells #[.int .i64 0, .int .i64 0] 26))
  obtain ⟨c3, hc3⟩ : ∃ c : Int, (s[3].toNat : Int) = c := ⟨_, rfl⟩
  have b3 : (c3 == 45) = false := by rw [← hc3]; simpa using e3
  clear e3
  go_wp2_with fail
  refine (K _ B3').mono ?_
  rintro e w4 ⟨rfl, hb4⟩
  have c1 : w4.cell? ⟨w3.heap.size, 1, none⟩ = some (.int .i64 0) := by rw [hb4.cell (by simp)]; simp
  have HB : Hid (Below w.heap.size w w4) := B3'.trans (hb4.mono B3'.size)
  have k3 := conv_row X.length cap3 rfl (row_below R3 hb4)
  have k1 := conv_row X.length cap1 rfl (row_below R1c hb4)
  have R2c := row_below (row_below (row_below R2 hb3) (keep w3 (.cells #[.int .i64 0, .int .i64 0] 26))) hb4
  have ky := conv_row y.length cap2 rfl R2c
  have kl := conv_row y.length cap rfl (row_below HR HB.out)
  clear R1 R1b R1c R2 R3 HR hown1 hown2 hown3 hrow1 hrow2 hrow3 hb1 hb2 hb3 hb4 B1 B1' B2 B2' B3 B3' KE KD KD2 K
  go_wp2
  go_ret
  exact ⟨rfl, HB.out⟩
set_option maxRecDepth 100000 in
set_option maxHeartbeats 8000000 in
theorem walk_p2 (s : ByteArray) (a : Option Addr) (cap : Nat) (l : List Int) (w : World) (h : s.size ≤ 100) (h2 : l.length ≤ 1000) (hl : Byt l) (hcap : l.length ≤ cap) (hm : cap ≤ maxLen) (hrow : Row w a l) (h9 : T9 w) (hW : TW w) (X y : List Int) (qs : List Int) (h6 : s.size = 6) (h5 : 5 < s.size) (e3 : (s[3].toNat : Int) = 45) (e4 : (s[4].toNat : Int) ≠ 49) (hyl : y = l) (hX : X = Ut.flat qs) (hqs : Ut.AllPt qs)
    (KD : Calls Tryd.prog 10 #[.string s, .slice a l.length cap] w fun e w' => ∃ v, e = .returned (.tuple #[v, .agg #[.int .i64 0, .int .i64 0]]) ∧ Own w' w.heap.size v X ∧ Below w.heap.size w w')
    (KE : ∀ W a cap, Row W a X → X.length ≤ cap → cap ≤ maxLen → T9 W → TW W → Calls Tryd.prog 14 #[.string s, .slice a X.length cap] W fun e w' => ∃ v, e = .returned (.tuple #[v, .agg #[.int .i64 0, .int .i64 0]]) ∧ Own w' W.heap.size v y ∧ Below W.heap.size W w')
    (KD2 : ∀ W a cap, Row W a y → y.length ≤ cap → cap ≤ maxLen → T9 W → TW W → Calls Tryd.prog 10 #[.string s, .slice a y.length cap] W fun e w' => ∃ v, e = .returned (.tuple #[v, .agg #[.int .i64 0, .int .i64 0]]) ∧ Own w' W.heap.size v X ∧ Below W.heap.size W w') :
    Calls Tryd.prog 6 #[.string s, .slice a l.length cap] w fun e w' => e = .returned (.bool true) ∧ Below w.heap.size w w' := by
  have K : ∀ W : World, Below w.heap.size w W → Calls Tryd.prog 9 #[] W fun e w' => e = .returned (.bool true) ∧ Below W.heap.size W w' := fun W hb => alive_any W (h9.below hb) (hW.below hb)
  have KV : ∀ (W : World) a cap, Row W a X → X.length ≤ cap → cap ≤ maxLen → Calls Tryd.prog 17 #[.slice a X.length cap] W fun e w' => e = .returned (.bool true) ∧ W = w' := fun W a cap hr h1 h2 => by
    rw [hX] at h1 hr ⊢
    have := Ut.valid_any a _ cap qs [] W (by rw [List.append_nil]) hqs rfl (by intro x hx; simp at hx) h1 h2 (by rw [List.append_nil]; exact hr)
    exact this
  have HR : Row w a l := hrow
  clear hX
  subst hyl
  go_enter Tryd.func6, Tryd.ntmps6
  go_wp2_with fail
  refine KD.mono ?_
  rintro e w1 ⟨v1, rfl, hown1, hb1⟩
  obtain ⟨a1, cap1, rfl, hc1, hm1, hrow1, hn1⟩ := own_row' hown1
  have B1 := hb1
  have B1' := B1.alloc B1.size (.cells #[.int .i64 0, .int .i64 0] 26)
  have R1 := row_below (row_k hrow1) (keep w1 (.cells #[.int .i64 0, .int .i64 0] 26))
  go_wp2_with fail
  refine (KE _ a1 cap1 R1 hc1 hm1 (h9.below B1') (hW.below B1')).mono ?_
  rintro e w2 ⟨v2, rfl, hown2, hb2⟩
  obtain ⟨a2, cap2, rfl, hc2, hm2, hrow2, hn2⟩ := own_row' hown2
  have B2 := B1'.trans (hb2.mono B1'.size)
  have B2' := B2.alloc B2.size (.cells #[.int .i64 0, .int .i64 0] 26)
  have R1b := row_below (row_below R1 hb2) (keep w2 (.cells #[.int .i64 0, .int .i64 0] 26))
  have R2 := row_below (row_k hrow2) (keep w2 (.cells #[.int .i64 0, .int .i64 0] 26))
  go_wp2_with fail
  refine (KV _ a1 cap1 R1b hc1 hm1).mono ?_
  rintro e w2' ⟨rfl, hw2⟩
  subst hw2
  go_wp2_with fail
  refine (KD2 _ a2 cap2 R2 hc2 hm2 (h9.below B2') (hW.below B2')).mono ?_
  rintro e w3 ⟨v3, rfl, hown3, hb3⟩
  obtain ⟨a3, cap3, rfl, hc3, hm3, hrow3, hn3⟩ := own_row' hown3
  have B3 := B2'.trans (hb3.mono B2'.size)
  have B3' := B3.alloc B3.size (.cells #[.int .i64 0, .int .i64 0] 26)
  have R1c := row_below (row_below R1b hb3) (keep w3 (.cells #[.int .i64 0, .int .i64 0] 26))
  have R3 := row_below (row_k hrow3) (keep w3 (.cells #[.int .i64 0, .int .i64 0] 26))
  obtain ⟨c4, hc4⟩ : ∃ c : Int, (s[4].toNat : Int) = c := ⟨_, rfl⟩
  have b4 : (c4 == 49) = false := by rw [← hc4]; simpa using e4
  clear e4
  go_wp2_with fail
  refine (K _ B3').mono ?_
  rintro e w4 ⟨rfl, hb4⟩
  have c1 : w4.cell? ⟨w3.heap.size, 1, none⟩ = some (.int .i64 0) := by rw [hb4.cell (by simp)]; simp
  have HB : Hid (Below w.heap.size w w4) := B3'.trans (hb4.mono B3'.size)
  have k3 := conv_row X.length cap3 rfl (row_below R3 hb4)
  have k1 := conv_row X.length cap1 rfl (row_below R1c hb4)
  have R2c := row_below (row_below (row_below R2 hb3) (keep w3 (.cells #[.int .i64 0, .int .i64 0] 26))) hb4
  have ky := conv_row y.length cap2 rfl R2c
  have kl := conv_row y.length cap rfl (row_below HR HB.out)
  clear R1 R1b R1c R2 R3 HR hown1 hown2 hown3 hrow1 hrow2 hrow3 hb1 hb2 hb3 hb4 B1 B1' B2 B2' B3 B3' KE KD KD2 K
  go_wp2
  go_ret
  exact ⟨rfl, HB.out⟩
set_option maxRecDepth 100000 in
set_option maxHeartbeats 8000000 in
theorem walk_p3 (s : ByteArray) (a : Option Addr) (cap : Nat) (l : List Int) (w : World) (h : s.size ≤ 100) (h2 : l.length ≤ 1000) (hl : Byt l) (hcap : l.length ≤ cap) (hm : cap ≤ maxLen) (hrow : Row w a l) (h9 : T9 w) (hW : TW w) (X y : List Int) (qs : List Int) (h6 : s.size = 6) (h5 : 5 < s.size) (e3 : (s[3].toNat : Int) = 45) (e4 : (s[4].toNat : Int) = 49) (e5 : (s[5].toNat : Int) ≠ 54) (hyl : y = l) (hX : X = Ut.flat qs) (hqs : Ut.AllPt qs)
    (KD : Calls Tryd.prog 10 #[.string s, .slice a l.length cap] w fun e w' => ∃ v, e = .returned (.tuple #[v, .agg #[.int .i64 0, .int .i64 0]]) ∧ Own w' w.heap.size v X ∧ Below w.heap.size w w')
    (KE : ∀ W a cap, Row W a X → X.length ≤ cap → cap ≤ maxLen → T9 W → TW W → Calls Tryd.prog 14 #[.string s, .slice a X.length cap] W fun e w' => ∃ v, e = .returned (.tuple #[v, .agg #[.int .i64 0, .int .i64 0]]) ∧ Own w' W.heap.size v y ∧ Below W.heap.size W w')
    (KD2 : ∀ W a cap, Row W a y → y.length ≤ cap → cap ≤ maxLen → T9 W → TW W → Calls Tryd.prog 10 #[.string s, .slice a y.length cap] W fun e w' => ∃ v, e = .returned (.tuple #[v, .agg #[.int .i64 0, .int .i64 0]]) ∧ Own w' W.heap.size v X ∧ Below W.heap.size W w') :
    Calls Tryd.prog 6 #[.string s, .slice a l.length cap] w fun e w' => e = .returned (.bool true) ∧ Below w.heap.size w w' := by
  have K : ∀ W : World, Below w.heap.size w W → Calls Tryd.prog 9 #[] W fun e w' => e = .returned (.bool true) ∧ Below W.heap.size W w' := fun W hb => alive_any W (h9.below hb) (hW.below hb)
  have KV : ∀ (W : World) a cap, Row W a X → X.length ≤ cap → cap ≤ maxLen → Calls Tryd.prog 17 #[.slice a X.length cap] W fun e w' => e = .returned (.bool true) ∧ W = w' := fun W a cap hr h1 h2 => by
    rw [hX] at h1 hr ⊢
    have := Ut.valid_any a _ cap qs [] W (by rw [List.append_nil]) hqs rfl (by intro x hx; simp at hx) h1 h2 (by rw [List.append_nil]; exact hr)
    exact this
  have HR : Row w a l := hrow
  clear hX
  subst hyl
  go_enter Tryd.func6, Tryd.ntmps6
  go_wp2_with fail
  refine KD.mono ?_
  rintro e w1 ⟨v1, rfl, hown1, hb1⟩
  obtain ⟨a1, cap1, rfl, hc1, hm1, hrow1, hn1⟩ := own_row' hown1
  have B1 := hb1
  have B1' := B1.alloc B1.size (.cells #[.int .i64 0, .int .i64 0] 26)
  have R1 := row_below (row_k hrow1) (keep w1 (.cells #[.int .i64 0, .int .i64 0] 26))
  go_wp2_with fail
  refine (KE _ a1 cap1 R1 hc1 hm1 (h9.below B1') (hW.below B1')).mono ?_
  rintro e w2 ⟨v2, rfl, hown2, hb2⟩
  obtain ⟨a2, cap2, rfl, hc2, hm2, hrow2, hn2⟩ := own_row' hown2
  have B2 := B1'.trans (hb2.mono B1'.size)
  have B2' := B2.alloc B2.size (.cells #[.int .i64 0, .int .i64 0] 26)
  have R1b := row_below (row_below R1 hb2) (keep w2 (.cells #[.int .i64 0, .int .i64 0] 26))
  have R2 := row_below (row_k hrow2) (keep w2 (.cells #[.int .i64 0, .int .i64 0] 26))
  go_wp2_with fail
  refine (KV _ a1 cap1 R1b hc1 hm1).mono ?_
  rintro e w2' ⟨rfl, hw2⟩
  subst hw2
  go_wp2_with fail
  refine (KD2 _ a2 cap2 R2 hc2 hm2 (h9.below B2') (hW.below B2')).mono ?_
  rintro e w3 ⟨v3, rfl, hown3, hb3⟩
  obtain ⟨a3, cap3, rfl, hc3, hm3, hrow3, hn3⟩ := own_row' hown3
  have B3 := B2'.trans (hb3.mono B2'.size)
  have B3' := B3.alloc B3.size (.cells #[.int .i64 0, .int .i64 0] 26)
  have R1c := row_below (row_below R1b hb3) (keep w3 (.cells #[.int .i64 0, .int .i64 0] 26))
  have R3 := row_below (row_k hrow3) (keep w3 (.cells #[.int .i64 0, .int .i64 0] 26))
  obtain ⟨c5, hc5⟩ : ∃ c : Int, (s[5].toNat : Int) = c := ⟨_, rfl⟩
  have b5 : (c5 == 54) = false := by rw [← hc5]; simpa using e5
  clear e5
  go_wp2_with fail
  refine (K _ B3').mono ?_
  rintro e w4 ⟨rfl, hb4⟩
  have c1 : w4.cell? ⟨w3.heap.size, 1, none⟩ = some (.int .i64 0) := by rw [hb4.cell (by simp)]; simp
  have HB : Hid (Below w.heap.size w w4) := B3'.trans (hb4.mono B3'.size)
  have k3 := conv_row X.length cap3 rfl (row_below R3 hb4)
  have k1 := conv_row X.length cap1 rfl (row_below R1c hb4)
  have R2c := row_below (row_below (row_below R2 hb3) (keep w3 (.cells #[.int .i64 0, .int .i64 0] 26))) hb4
  have ky := conv_row y.length cap2 rfl R2c
  have kl := conv_row y.length cap rfl (row_below HR HB.out)
  clear R1 R1b R1c R2 R3 HR hown1 hown2 hown3 hrow1 hrow2 hrow3 hb1 hb2 hb3 hb4 B1 B1' B2 B2' B3 B3' KE KD KD2 K
  go_wp2
  go_ret
  exact ⟨rfl, HB.out⟩

theorem name6 {s : ByteArray} (h : setB (lowS s) = 6) : ∃ (h6 : s.size = 6) (h5 : 5 < s.size), (s[3].toNat : Int) = 45 ∧ (s[4].toNat : Int) = 49 ∧ (s[5].toNat : Int) = 54 := by
  have key : (lowS s).toList = [117, 116, 102, 45, 49, 54] := by
    unfold setB at h
    repeat' split at h
    all_goals first
      | (exfalso; omega)
      | (rename_i hh; simpa using hh)
  unfold lowS at key
  rw [toList_str] at key
  have hlen : s.size = 6 := by
    have := congrArg List.length key
    simp [nums_len] at this
    omega
  have at_k : ∀ (k : Nat) (hk : k < s.size) (v : UInt8), ([117, 116, 102, 45, 49, 54] : List UInt8)[k]? = some v → UInt8.ofNat (smallZ (s[k].toNat : Int)).toNat = v := by
    intro k hk v hv
    rw [← key, List.getElem?_map, List.getElem?_map, nums_at s k hk] at hv
    simpa using hv
  have one : ∀ (k : Nat) (hk : k < s.size) (v : UInt8), v.toNat < 65 → ([117, 116, 102, 45, 49, 54] : List UInt8)[k]? = some v → (s[k].toNat : Int) = v.toNat := by
    intro k hk v hv he
    have h4 := at_k k hk v he
    have hb := s[k].toNat_lt
    have := congrArg UInt8.toNat h4
    have hs : 0 ≤ smallZ (s[k].toNat : Int) ∧ smallZ (s[k].toNat : Int) < 256 := smallZ_byt (by omega)
    rw [UInt8.toNat_ofNat_of_lt' (by simp; omega)] at this
    unfold smallZ at this
    split at this <;> omega
  exact ⟨hlen, by omega, one 3 (by omega) 45 (by decide) rfl, one 4 (by omega) 49 (by decide) rfl, one 5 (by omega) 54 (by decide) rfl⟩
theorem in_units {s t : Int} (hs : s = 7 ∨ s = 8) {ps : List Int} (h : AllIn t ps) : AllIn s ps := fun p hp => by
  refine ⟨(h p hp).1, fun e => ?_⟩
  have := encU_len s (h p hp).1
  unfold encS at e
  rw [if_neg (by omega), if_pos hs] at e
  rw [e] at this
  simp at this
  split at this <;> omega
theorem walk (s : ByteArray) (a : Option Addr) (len cap : Nat) (z : List Int) (w : World) (hz : IsRow .u8 w a len cap z) (h9 : T9 w) (hW : TW w) :
    Calls Tryd.prog 6 #[.string s, .slice a len cap] w fun e w' => e = .returned (.bool true) ∧ Below w.heap.size w w' := by
  obtain ⟨l, hlen, hcap, hm, hl, hrow⟩ := byte_view hz
  subst hlen
  rcases Nat.lt_or_ge 100 s.size with h | h
  · exact walk_long1 s a _ cap w h h9 hW
  rcases Nat.lt_or_ge 1000 l.length with h2 | h2
  · exact walk_long2 s a _ cap w h h2 h9 hW
  rcases dec_any s l hl (by omega) (by omega) with ⟨n, c, hc0, hn0, hn1, _, KD⟩ | ⟨t, k0, ps, hq, ho, hd, hA, KD⟩
  · exact walk_fail s a cap l w h h2 hl hcap hm hrow h9 hW n c hc0 hn0 hn1 (KD w a cap hrow hcap hm h9 hW)
  · have hpl : ps.length ≤ l.length := by
      have h3 := flatS_ge hA
      have h4 := congrArg List.length hd
      rw [List.length_drop] at h4
      omega
    have hxl := Ut.flat_le ps
    have hxb : Byt (Ut.flat ps) := Ut.flat_byt hA.pts
    have hA2 : AllIn (setS (setB (lowS s))) ps := by
      by_cases h6 : setB (lowS s) = 6
      · rw [show setS (setB (lowS s)) = 7 by unfold setS; rw [if_pos h6]]; exact in_units (.inl rfl) hA
      · have : ordZ (setB (lowS s)) l = (setB (lowS s), 0) := by unfold ordZ; rw [if_neg h6]
        rw [this] at ho
        have e := (Prod.mk.inj ho).1
        rw [show setS (setB (lowS s)) = setB (lowS s) by unfold setS; rw [if_neg h6], e]; exact hA
    have hs2 := flatS_len2 (s := setS (setB (lowS s))) hA2.pts
    have hyl : (markS (setB (lowS s)) ++ flatS (setS (setB (lowS s))) ps).length ≤ 4000 := by
      have h5 := flatS_le (s := setS (setB (lowS s))) hA2.pts
      by_cases h6 : setB (lowS s) = 6
      · have h7 : (flatS (setS (setB (lowS s))) ps).length ≤ l.length := by
          have hst : t = 7 ∨ t = 8 := by
            have := ho
            unfold ordZ at this
            rw [if_pos h6] at this
            unfold ordL at this
            split at this
            · split at this
              · exact .inl (Prod.mk.inj this).1.symm
              · split at this
                · exact .inr (Prod.mk.inj this).1.symm
                · exact .inl (Prod.mk.inj this).1.symm
            · exact .inl (Prod.mk.inj this).1.symm
          have h8 : ∀ ps : List Int, Ut.AllPt ps → (flatS (setS (setB (lowS s))) ps).length = (flatS t ps).length := by
            intro ps
            induction ps with
            | nil => intro _; rfl
            | cons p ps ih =>
              intro hp
              have e1 : ∀ z : Int, z = 7 ∨ z = 8 → encS z p = encU z p := fun z hz => by unfold encS; rw [if_neg (by omega), if_pos hz]
              rw [flatS_cons, flatS_cons, List.length_append, List.length_append, ih hp.tail, e1 t hst, e1 (setS (setB (lowS s))) (by unfold setS; rw [if_pos h6]; exact .inl rfl), encU_len _ hp.head, encU_len _ hp.head]
          rw [h8 ps hA.pts, ← hd, List.length_drop]
          omega
        have h9 := mark_len (setB (lowS s))
        rw [List.length_append]; omega
      · have h7 : markS (setB (lowS s)) = [] := by unfold markS; rw [if_neg h6]
        have : ordZ (setB (lowS s)) l = (setB (lowS s), 0) := by unfold ordZ; rw [if_neg h6]
        rw [this] at ho
        obtain ⟨e1, e2⟩ := Prod.mk.inj ho
        rw [h7, List.nil_append, show setS (setB (lowS s)) = t by unfold setS; rw [if_neg h6, e1], ← hd, List.length_drop]
        omega
    rcases enc_any s (Ut.flat ps) hxb (by omega) (by omega) with ⟨n, c, _, _, _, _, hwhy, _⟩ | ⟨ps', _, hps', hA', KE⟩
    · exfalso
      rcases hwhy with ⟨h0, _⟩ | ⟨_, qs, r, he, hqs, hr, hne, _⟩ | ⟨_, qs, p, rs, he, hqs, hp, hrs, hno, _⟩
      · exact hq h0
      · have := Ut.split_one hA.pts hqs Ut.dec_nil hr (by rw [List.append_nil]; exact he)
        exact hne this.2.symm
      · have hall : Ut.AllPt (qs ++ p :: rs) := hqs.pts.append (fun x hx => by rcases List.mem_cons.1 hx with rfl | hx; exact hp; exact hrs x hx)
        have := Ut.split_one (r := []) (s := []) hA.pts hall Ut.dec_nil Ut.dec_nil (by rw [List.append_nil, List.append_nil]; exact he)
        exact (hA2 p (by rw [this.1]; simp)).2 hno
    · have hpp : ps = ps' := (Ut.split_one (r := []) (s := []) hA.pts hA'.pts Ut.dec_nil Ut.dec_nil (by rw [List.append_nil, List.append_nil]; exact hps')).1
      subst hpp
      have KD2 := back_dec s ps (by omega) hq hA2 _ rfl hyl
      by_cases h6 : setB (lowS s) = 6
      · obtain ⟨g6, g5, e3, e4, e5⟩ := name6 h6
        exact walk_marked s a cap l w h h2 hl hcap hm hrow h9 hW _ _ ps g6 g5 e3 e4 e5 rfl hA.pts (KD w a cap hrow hcap hm h9 hW) KE KD2
      · have hy : markS (setB (lowS s)) ++ flatS (setS (setB (lowS s))) ps = l := by
          have h7 : markS (setB (lowS s)) = [] := by unfold markS; rw [if_neg h6]
          have : ordZ (setB (lowS s)) l = (setB (lowS s), 0) := by unfold ordZ; rw [if_neg h6]
          rw [this] at ho
          obtain ⟨e1, e2⟩ := Prod.mk.inj ho
          rw [h7, List.nil_append, show setS (setB (lowS s)) = t by unfold setS; rw [if_neg h6, e1], ← hd, ← e2]
          rfl
        by_cases g6 : s.size = 6
        · have g5 : 5 < s.size := by omega
          by_cases e3 : (s[3].toNat : Int) = 45
          · by_cases e4 : (s[4].toNat : Int) = 49
            · by_cases e5 : (s[5].toNat : Int) = 54
              · exact walk_marked s a cap l w h h2 hl hcap hm hrow h9 hW _ _ ps g6 g5 e3 e4 e5 rfl hA.pts (KD w a cap hrow hcap hm h9 hW) KE KD2
              · exact walk_p3 s a cap l w h h2 hl hcap hm hrow h9 hW _ _ ps g6 g5 e3 e4 e5 hy rfl hA.pts (KD w a cap hrow hcap hm h9 hW) KE KD2
            · exact walk_p2 s a cap l w h h2 hl hcap hm hrow h9 hW _ _ ps g6 g5 e3 e4 hy rfl hA.pts (KD w a cap hrow hcap hm h9 hW) KE KD2
          · exact walk_p1 s a cap l w h h2 hl hcap hm hrow h9 hW _ _ ps g6 g5 e3 hy rfl hA.pts (KD w a cap hrow hcap hm h9 hW) KE KD2
        · exact walk_p0 s a cap l w h h2 hl hcap hm hrow h9 hW _ _ ps g6 hy rfl hA.pts (KD w a cap hrow hcap hm h9 hW) KE KD2

set_option maxRecDepth 100000 in
theorem lifted (os : Os) (started : os.Started) (H : Type) (enc : TypeId × Value → H) :
    ReturnsInHanded {} Tryd.checked os 6 .any (fun w args => (Rows.charsetBytesSpec.pre enc Tryd.prog Tryd.f6 Rows.charsetBytesRow.domain false w args ∧ laidMetH Tryd.prog Rows.charsetBytesRow.laid w) ∧ sizedMet enc Tryd.prog Tryd.f6 (OpenSpec.ofChange Rows.charsetBytesSpec) false w args)
      (Rows.charsetBytesSpec.post enc Tryd.prog Tryd.f6 false true false false) := by
  refine returnsInHanded_of_change_and (C := Tryd.checked) (X := fun w _ => laidMetH Tryd.prog Rows.charsetBytesRow.laid w) (fun _ _ _ hh h => h.of_heap hh) own started (by kernel_rfl) Tryd.func6
    (ChangeSpec.witness_shaped (enc := enc) (C := Tryd.checked) (os := os) (X := fun w _ => laidMetH Tryd.prog Rows.charsetBytesRow.laid w) false (World.laidAll Tryd.prog os Rows.charsetBytesRow.laid) #[.string ⟨#[]⟩, .slice none 0 0] 8 (World.laidAll_os _ _ _)
      (World.shaped_of_ZipB (by kernel_rfl) (by kernel_rfl)) (by kernel_rfl) (by kernel_rfl) (by kernel_rfl)
      (by rw [MakeChecks.laidMetH_plain _ _ _ (by kernel_rfl)]; exact laidMet_laidAll _ (by kernel_rfl) (by kernel_rfl))) ?_
  intro W base args ds gs before hval0 hW0 hcnd _ hL0 _
  have hL : laidMet Tryd.prog Rows.charsetBytesRow.laid W := by
    have : laidMetH Tryd.prog Rows.charsetBytesRow.laid W := hL0
    rwa [MakeChecks.laidMetH_plain _ _ _ (by kernel_rfl)] at this
  have hval : ∀ (j : Nat) t v, Tryd.f6.params[j]? = some t → args[j]? = some v → Value.okWide Tryd.prog W .any base t v := hval0
  have hW' := hW0
  obtain ⟨p, q, hA0, hV, rfl, hfz, hnd⟩ := hW0
  have hA : DataW.TrodAll enc Tryd.prog W 0 (fun _ => true) true Tryd.f6.params.toList args.toList ds p := hA0
  rw [Tryd.params6] at hA hval
  obtain ⟨v0, vs0, d0, ds0, p0, q0, hargs, rfl, rfl, h0, r0⟩ := trodAll_cons hA
  obtain ⟨v1, vs1, d1, ds1, p1, q1, rfl, rfl, rfl, h1, r1⟩ := trodAll_cons r0
  obtain ⟨rfl, rfl, rfl⟩ := trodAll_nil r1
  obtain rfl : args = #[v0, v1] := by cases args; simp_all
  obtain ⟨rfl, rfl⟩ := trodVars_none hV
  have k0 := h0
  have lt0 : ∀ x ∈ p0, x.block < W.heap.size := by obtain ⟨m, hm⟩ := k0; exact DataW.trod_lt m _ _ _ hm
  obtain ⟨s0, rfl, _, _, hs0⟩ := open_string Tryd.underlying9 (hval 0 9 v0 rfl rfl) h0
  have k1 := h1
  have lt1 : ∀ x ∈ p1, x.block < W.heap.size := by obtain ⟨m, hm⟩ := k1; exact DataW.trod_lt m _ _ _ hm
  obtain ⟨a1, len1, cap1, rfl⟩ := okWide_slice Tryd.underlying22 (hval 1 22 v1 rfl rfl)
  obtain ⟨z1, w1⟩ : ∃ zs, IsRow .u8 W a1 len1 cap1 zs := by
    obtain ⟨fuel, hf⟩ := h1
    rcases open_ints Tryd.underlying22 Tryd.underlying5 (by kernel_rfl) hf with ⟨hcs, _⟩ | ⟨x, l, c, zs, hcs, _, hl, hm, hz, _, hcell, hwz⟩
    · simp [Value.cells] at hcs
      obtain ⟨rfl, rfl, rfl⟩ := hcs
      exact ⟨[], .inl ⟨rfl, rfl, rfl, rfl⟩⟩
    · simp [Value.cells] at hcs
      obtain ⟨rfl, rfl, rfl⟩ := hcs
      exact ⟨zs, .inr ⟨_, rfl, hl, hm, by simpa using hz, hcell, hwz⟩⟩
  clear hA0 hval0
  have h9 := t9_of hL
  have hWt := tW_of (laidMet.tail hL)
  simp only [List.append_nil] at hW'
  refine (walk s0 a1 len1 cap1 z1 W w1 h9 hWt).mono fun e W' ⟨he, bel⟩ => ?_
  subst he
  exact ⟨_, rfl, _, _, _, [], _, [], hW', trodAll_mk1 (shut_bool Tryd.underlying4 _), (trodAll_cons_mk (Below.trod laidOut (by kernel_rfl) (of_decide_eq_true (by kernel_rfl)) k0 bel lt0) (trodAll_cons_mk (Below.trod laidOut (by kernel_rfl) (of_decide_eq_true (by kernel_rfl)) k1 bel lt1) trodAll_mk0)), rfl, bel.frame _, fun h => by cases h⟩

theorem over : Rows.CharsetBytesSaid :=
  OpenClaim.holds_of_wide 6 Tryd.f6 rfl rfl rfl rfl rfl rfl rfl ⟨rfl, rfl, rfl, rfl, rfl⟩ rfl rfl rfl rfl rfl (by kernel_rfl) Tryd.func6 (by kernel_rfl)
    (of_decide_eq_true (by kernel_rfl)) (by unfold Func.isWrapper; first | (rw [if_pos (by decide +kernel)]; kernel_rfl) | (rw [if_neg (by decide +kernel)]; exact ⟨rfl, rfl⟩))
    (fun os started H enc _ => lifted os started H enc)
end Go.Proofs.YtlhhbmolkiojfaaDoor.charsetBytes
namespace Go.Proofs.YtlhhbmolkiojfaaDoor
theorem charsetBytes_card : Rows.CharsetBytesCardSaid :=
  Claim7.holds_tied_plain_at .later [] _ _ _ _ charsetBytes.over (fun _ h => by cases h) (by kernel_rfl) (fun _ h => by cases h) charsetBytes_row_tie rfl ⟨rfl, rfl⟩ (by kernel_rfl) rfl
    (fun f fn hf hfn => by
      obtain rfl : f = 6 := Option.some.inj ((show Tryd.prog.funcNamed Rows.charsetBytesRow.func = some 6 by kernel_rfl).symm.trans hf) |>.symm
      obtain rfl : fn = Tryd.f6 := (Option.some.inj (Tryd.func6.symm.trans hfn)).symm
      exact ⟨by kernel_rfl, fun j t ht => by
        rw [Tryd.params6] at ht
        have hm : t ∈ [9, 22] := by simpa using Array.mem_of_getElem? ht
        have hall : ([9, 22].all fun u => !Tryd.prog.wantsStandIn u) = true := by kernel_rfl
        exact (show Tryd.prog.wantsStandIn t = false by simpa using List.all_eq_true.1 hall t hm)⟩)
    (by kernel_rfl)
#print axioms charsetBytes_card
end Go.Proofs.YtlhhbmolkiojfaaDoor
