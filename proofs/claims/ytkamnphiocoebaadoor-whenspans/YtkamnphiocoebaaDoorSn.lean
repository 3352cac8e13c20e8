/-
  Lengths are written: the contracts of counted, clock and Span.
-/
import Derived.Test.YtkamnphiocoebaaDoorMd
import Derived.Test.YtkamnphiocoebaaDoorShelf
import Derived.Lib.LaidTab
import Derived.Lib.AppendIntMem
namespace Go.Proofs.YtkamnphiocoebaaDoor
open Go.RowKit
set_option linter.unusedVariables false

/-- The library's table of powers lies there. -/
def Tb (w : World) : Prop := Lib.TabIs Tryd.prog w "internal/strconv.uint64pow10" .u64 Lib.pow10Tab
theorem glob_pow : ∃ g, Tryd.prog.globalNamed "internal/strconv.uint64pow10" = some g := ⟨3, by kernel_rfl⟩
theorem Tb.below {w w' : World} (h : Tb w) (b : Below w.heap.size w w') : Tb w' := by
  obtain ⟨g, hg⟩ := glob_pow
  unfold Tb Lib.TabIs World.var? at h ⊢
  rw [hg] at h ⊢
  simp only [Option.bind_some] at h ⊢
  have hlt : g < w.heap.size := by
    rcases Nat.lt_or_ge g w.heap.size with q | q
    · exact q
    · rw [Array.getElem?_eq_none q] at h; cases h
  rw [b.block g hlt]; exact h
theorem nums_append (s t : ByteArray) : nums (s ++ t) = nums s ++ nums t := by
  simp [nums, ByteArray.data_append]
theorem byte_dig (n : Nat) (h : n < 10) : ((UInt8.ofNat (48 + n)).toNat : Int) = 48 + n := by
  rw [UInt8.toNat_ofNat']; omega
theorem dec_digits : ∀ (k u : Nat), u < 10 ^ (k + 1) → (Lib.decDigits u).map (fun b => (b.toNat : Int)) = decF k u
  | 0, u, h => by
    have h' : u < 10 := by simpa using h
    rw [Lib.decDigits, dif_pos h']
    simp only [decF, List.map_cons, List.map_nil, byte_dig u h']
    congr 1; omega
  | k + 1, u, h => by
    rw [Lib.decDigits]
    by_cases hu : u < 10
    · rw [dif_pos hu]
      simp only [decF, List.map_cons, List.map_nil, byte_dig u hu]
      rw [if_pos (by omega)]
    · rw [dif_neg hu, List.map_append, dec_digits k (u / 10) (by rw [Nat.pow_succ] at h; omega)]
      simp only [decF, List.map_cons, List.map_nil, byte_dig (u % 10) (by omega)]
      rw [if_neg (by omega)]
      congr 1
theorem itoa_dec (n : Int) (h0 : 0 ≤ n) (h1 : n < 1000000000000000) : nums ⟨(Lib.itoa n).toArray⟩ = decL n := by
  unfold Lib.itoa
  rw [if_neg (by omega)]
  have e : nums ⟨(Lib.decDigits n.toNat).toArray⟩ = (Lib.decDigits n.toNat).map (fun b => (b.toNat : Int)) := by simp [nums]
  rw [e, dec_digits 20 n.toNat (by have : (1000000000000000 : Nat) ≤ 10 ^ (20 + 1) := by decide
                                   omega)]
  unfold decL
  rw [show ((n.toNat : Nat) : Int) = n by omega]
theorem dec_len (n : Int) : (decL n).length ≤ 21 := by
  have key : ∀ k n, (decF k n).length ≤ k + 1 := by
    intro k
    induction k with
    | zero => intro n; simp [decF]
    | succ k ih =>
      intro n
      simp only [decF]
      split
      · simp
      · have := ih (n / 10); simp; omega
  exact key 20 n
theorem counted_any (n : Int) (u : ByteArray) (w : World) (h0 : 0 ≤ n) (h1 : n < 1000000000000000) (hu : u.size ≤ 100) (hT : Tb w) :
    Calls Tryd.prog 33 #[.int .i64 n, .string u] w fun e w' => ∃ x, e = .returned (.string x) ∧ (nums x = decL n ++ nums u ∧ x.size ≤ 200) ∧ Below w.heap.size w w' := by
  have hd := itoa_dec n h0 h1
  have hl : (⟨(Lib.itoa n).toArray⟩ : ByteArray).size ≤ 21 := by
    rw [← nums_len, hd]; exact dec_len n
  have HT : Hid (Tb w) := hT
  have HD : Hid (nums ⟨(Lib.itoa n).toArray⟩ = decL n) := hd
  clear hd hT
  have HC : Hid (Calls Tryd.prog 42 #[.int .i64 n, .int .i64 10] w fun e w' => e = .returned (.string ⟨(Lib.itoa n).toArray⟩) ∧ Below w.heap.size w w') := by
    refine (strconv_FormatInt_10 n (by omega) (by omega) w HT.out).mono ?_
    rintro e w' ⟨rfl, k, os, rfl⟩
    exact ⟨rfl, Lib.below_grow _ _ (Nat.le_refl _) _ _⟩
  obtain ⟨x, hx⟩ : ∃ x : ByteArray, (⟨(Lib.itoa n).toArray⟩ : ByteArray) = x := ⟨_, rfl⟩
  rw [hx] at HC HD hl
  clear hx
  go_enter Tryd.func33, Tryd.ntmps33
  go_wp2_with fail
  refine HC.out.mono ?_
  rintro e w1 ⟨rfl, hb⟩
  have HB : Hid (Below w.heap.size w w1) := hb
  clear hb
  go_wp2
  go_ret
  exact ⟨_, rfl, ⟨by rw [nums_append, HD.out], by rw [ByteArray.size_append]; omega⟩, HB.out⟩

theorem n72 : nums { data := #[72] } = [72] := by decide
theorem n77 : nums { data := #[77] } = [77] := by decide
theorem n83 : nums { data := #[83] } = [83] := by decide
theorem n84 : nums { data := #[84] } = [84] := by decide
theorem n87 : nums { data := #[87] } = [87] := by decide
theorem n68 : nums { data := #[68] } = [68] := by decide
theorem n80 : nums { data := #[80] } = [80] := by decide
theorem n45 : nums { data := #[45, 80] } = [45, 80] := by decide
theorem z72 : (⟨#[72]⟩ : ByteArray).size = 1 := rfl
theorem z77 : (⟨#[77]⟩ : ByteArray).size = 1 := rfl
theorem z83 : (⟨#[83]⟩ : ByteArray).size = 1 := rfl
theorem n0 : nums { data := #[] } = [] := by decide
set_option maxHeartbeats 2000000 in
theorem clock_any (n : Int) (w : World) (h0 : 0 ≤ n) (h1 : n < 86400) (hT : Tb w) :
    Calls Tryd.prog 34 #[.int .i64 n] w fun e w' => ∃ x, e = .returned (.string x) ∧ (nums x = clockL n ∧ x.size ≤ 1000) ∧ Below w.heap.size w w' := by
  have HT : Hid (Tb w) := hT
  clear hT
  unfold clockL
  by_cases b1 : n / 3600 = 0
  · have t1 : (n / 3600 != 0) = false := by simp [b1]
    by_cases b2 : n % 3600 / 60 = 0
    · have t2 : (n % 3600 / 60 != 0) = false := by simp [b2]
      have HR : Hid (n % 60 ≠ 0 ∨ n = 0) := by unfold Hid; omega
      rw [if_neg (by omega), if_neg (by omega), if_pos HR.out]
      by_cases b3 : n % 60 = 0
      · have t3 : (n % 60 != 0) = false := by simp [b3]
        have t4 : (n == 0) = true := by simp; omega
        clear b1 b2 b3
        go_enter Tryd.func34, Tryd.ntmps34
        go_wp2_with fail
        refine (counted_any (n % 60) _ _ (by omega) (by omega) (by decide) HT.out).mono ?_
        rintro e w3 ⟨x3, rfl, ⟨e3, l3⟩, hb3⟩
        have HB3 : Hid (Below w.heap.size w w3) := hb3
        have E3 : Hid (nums x3 = decL (n % 60) ++ nums { data := #[83] }) := e3
        clear e3 hb3
        go_wp2
        go_ret
        exact ⟨_, rfl, ⟨by simp only [nums_append, E3.out, n83, n0, List.nil_append], by simp only [ByteArray.size_append]; (try have hz : (⟨#[]⟩ : ByteArray).size = 0 := rfl); omega⟩, HB3.out⟩
      · have t3 : (n % 60 != 0) = true := by simp [b3]
        clear b1 b2 b3
        go_enter Tryd.func34, Tryd.ntmps34
        go_wp2_with fail
        refine (counted_any (n % 60) _ _ (by omega) (by omega) (by decide) HT.out).mono ?_
        rintro e w3 ⟨x3, rfl, ⟨e3, l3⟩, hb3⟩
        have HB3 : Hid (Below w.heap.size w w3) := hb3
        have E3 : Hid (nums x3 = decL (n % 60) ++ nums { data := #[83] }) := e3
        clear e3 hb3
        go_wp2
        go_ret
        exact ⟨_, rfl, ⟨by simp only [nums_append, E3.out, n83, n0, List.nil_append], by simp only [ByteArray.size_append]; (try have hz : (⟨#[]⟩ : ByteArray).size = 0 := rfl); omega⟩, HB3.out⟩
    · have t2 : (n % 3600 / 60 != 0) = true := by simp [b2]
      rw [if_neg (by omega), if_pos (by omega)]
      by_cases b3 : n % 60 = 0
      · have t3 : (n % 60 != 0) = false := by simp [b3]
        have t4 : (n == 0) = false := by simp; omega
        rw [if_neg (by omega)]
        clear b1 b2 b3
        go_enter Tryd.func34, Tryd.ntmps34
        go_wp2_with fail
        refine (counted_any (n % 3600 / 60) _ _ (by omega) (by omega) (by decide) HT.out).mono ?_
        rintro e w2 ⟨x2, rfl, ⟨e2, l2⟩, hb2⟩
        have HB2 : Hid (Below w.heap.size w w2) := hb2
        have E2 : Hid (nums x2 = decL (n % 3600 / 60) ++ nums { data := #[77] }) := e2
        clear e2 hb2
        go_wp2
        go_ret
        exact ⟨_, rfl, ⟨by simp only [nums_append, E2.out, n77, n0, List.nil_append, List.append_nil], by simp only [ByteArray.size_append]; (try have hz : (⟨#[]⟩ : ByteArray).size = 0 := rfl); omega⟩, HB2.out⟩
      · have t3 : (n % 60 != 0) = true := by simp [b3]
        rw [if_pos (by omega)]
        clear b1 b2 b3
        go_enter Tryd.func34, Tryd.ntmps34
        go_wp2_with fail
        refine (counted_any (n % 3600 / 60) _ _ (by omega) (by omega) (by decide) HT.out).mono ?_
        rintro e w2 ⟨x2, rfl, ⟨e2, l2⟩, hb2⟩
        have HB2 : Hid (Below w.heap.size w w2) := hb2
        have E2 : Hid (nums x2 = decL (n % 3600 / 60) ++ nums { data := #[77] }) := e2
        clear e2 hb2
        go_wp2_with fail
        refine (counted_any (n % 60) _ _ (by omega) (by omega) (by decide) (HT.out.below HB2.out)).mono ?_
        rintro e w3 ⟨x3, rfl, ⟨e3, l3⟩, hb3⟩
        have HB3 : Hid (Below w.heap.size w w3) := HB2.out.trans (hb3.mono HB2.out.size)
        have E3 : Hid (nums x3 = decL (n % 60) ++ nums { data := #[83] }) := e3
        clear e3 hb3
        go_wp2
        go_ret
        exact ⟨_, rfl, ⟨by simp only [nums_append, E2.out, E3.out, n77, n83, n0, List.nil_append, List.append_assoc, List.cons_append], by simp only [ByteArray.size_append]; (try have hz : (⟨#[]⟩ : ByteArray).size = 0 := rfl); omega⟩, HB3.out⟩
  · have t1 : (n / 3600 != 0) = true := by simp [b1]
    have t4 : (n == 0) = false := by simp; omega
    rw [if_pos b1]
    by_cases b3 : n % 60 = 0
    · have t3 : (n % 60 != 0) = false := by simp [b3]
      by_cases b2 : n % 3600 / 60 = 0
      · have t2 : (n % 3600 / 60 != 0) = false := by simp [b2]
        rw [if_neg (by omega), if_neg (by omega)]
        clear b1 b2 b3
        go_enter Tryd.func34, Tryd.ntmps34
        go_wp2_with fail
        refine (counted_any (n / 3600) _ _ (by omega) (by omega) (by decide) HT.out).mono ?_
        rintro e w1 ⟨x1, rfl, ⟨e1, l1⟩, hb1⟩
        have HB1 : Hid (Below w.heap.size w w1) := hb1
        have E1 : Hid (nums x1 = decL (n / 3600) ++ nums { data := #[72] }) := e1
        clear e1 hb1
        go_wp2
        go_ret
        exact ⟨_, rfl, ⟨by simp only [nums_append, E1.out, n72, n0, List.nil_append, List.append_nil], by simp only [ByteArray.size_append]; (try have hz : (⟨#[]⟩ : ByteArray).size = 0 := rfl); omega⟩, HB1.out⟩
      · have t2 : (n % 3600 / 60 != 0) = true := by simp [b2]
        rw [if_pos (by omega), if_neg (by omega)]
        clear b1 b2 b3
        go_enter Tryd.func34, Tryd.ntmps34
        go_wp2_with fail
        refine (counted_any (n / 3600) _ _ (by omega) (by omega) (by decide) HT.out).mono ?_
        rintro e w1 ⟨x1, rfl, ⟨e1, l1⟩, hb1⟩
        have HB1 : Hid (Below w.heap.size w w1) := hb1
        have E1 : Hid (nums x1 = decL (n / 3600) ++ nums { data := #[72] }) := e1
        clear e1 hb1
        go_wp2_with fail
        refine (counted_any (n % 3600 / 60) _ _ (by omega) (by omega) (by decide) (HT.out.below HB1.out)).mono ?_
        rintro e w2 ⟨x2, rfl, ⟨e2, l2⟩, hb2⟩
        have HB2 : Hid (Below w.heap.size w w2) := HB1.out.trans (hb2.mono HB1.out.size)
        have E2 : Hid (nums x2 = decL (n % 3600 / 60) ++ nums { data := #[77] }) := e2
        clear e2 hb2
        go_wp2
        go_ret
        exact ⟨_, rfl, ⟨by simp only [nums_append, E1.out, E2.out, n72, n77, n0, List.nil_append, List.append_nil, List.append_assoc, List.cons_append], by simp only [ByteArray.size_append]; (try have hz : (⟨#[]⟩ : ByteArray).size = 0 := rfl); omega⟩, HB2.out⟩
    · have t3 : (n % 60 != 0) = true := by simp [b3]
      rw [if_pos (by omega), if_pos (by omega)]
      by_cases b2 : n % 3600 / 60 = 0
      · have t2 : (n % 3600 / 60 != 0) = false := by simp [b2]
        clear b1 b2 b3
        go_enter Tryd.func34, Tryd.ntmps34
        go_wp2_with fail
        refine (counted_any (n / 3600) _ _ (by omega) (by omega) (by decide) HT.out).mono ?_
        rintro e w1 ⟨x1, rfl, ⟨e1, l1⟩, hb1⟩
        have HB1 : Hid (Below w.heap.size w w1) := hb1
        have E1 : Hid (nums x1 = decL (n / 3600) ++ nums { data := #[72] }) := e1
        clear e1 hb1
        go_wp2_with fail
        refine (counted_any (n % 3600 / 60) _ _ (by omega) (by omega) (by decide) (HT.out.below HB1.out)).mono ?_
        rintro e w2 ⟨x2, rfl, ⟨e2, l2⟩, hb2⟩
        have HB2 : Hid (Below w.heap.size w w2) := HB1.out.trans (hb2.mono HB1.out.size)
        have E2 : Hid (nums x2 = decL (n % 3600 / 60) ++ nums { data := #[77] }) := e2
        clear e2 hb2
        go_wp2_with fail
        refine (counted_any (n % 60) _ _ (by omega) (by omega) (by decide) (HT.out.below HB2.out)).mono ?_
        rintro e w3 ⟨x3, rfl, ⟨e3, l3⟩, hb3⟩
        have HB3 : Hid (Below w.heap.size w w3) := HB2.out.trans (hb3.mono HB2.out.size)
        have E3 : Hid (nums x3 = decL (n % 60) ++ nums { data := #[83] }) := e3
        clear e3 hb3
        go_wp2
        go_ret
        exact ⟨_, rfl, ⟨by simp only [nums_append, E1.out, E2.out, E3.out, n72, n77, n83, n0, List.nil_append, List.append_assoc, List.cons_append], by simp only [ByteArray.size_append]; (try have hz : (⟨#[]⟩ : ByteArray).size = 0 := rfl); omega⟩, HB3.out⟩
      · have t2 : (n % 3600 / 60 != 0) = true := by simp [b2]
        clear b1 b2 b3
        go_enter Tryd.func34, Tryd.ntmps34
        go_wp2_with fail
        refine (counted_any (n / 3600) _ _ (by omega) (by omega) (by decide) HT.out).mono ?_
        rintro e w1 ⟨x1, rfl, ⟨e1, l1⟩, hb1⟩
        have HB1 : Hid (Below w.heap.size w w1) := hb1
        have E1 : Hid (nums x1 = decL (n / 3600) ++ nums { data := #[72] }) := e1
        clear e1 hb1
        go_wp2_with fail
        refine (counted_any (n % 3600 / 60) _ _ (by omega) (by omega) (by decide) (HT.out.below HB1.out)).mono ?_
        rintro e w2 ⟨x2, rfl, ⟨e2, l2⟩, hb2⟩
        have HB2 : Hid (Below w.heap.size w w2) := HB1.out.trans (hb2.mono HB1.out.size)
        have E2 : Hid (nums x2 = decL (n % 3600 / 60) ++ nums { data := #[77] }) := e2
        clear e2 hb2
        go_wp2_with fail
        refine (counted_any (n % 60) _ _ (by omega) (by omega) (by decide) (HT.out.below HB2.out)).mono ?_
        rintro e w3 ⟨x3, rfl, ⟨e3, l3⟩, hb3⟩
        have HB3 : Hid (Below w.heap.size w w3) := HB2.out.trans (hb3.mono HB2.out.size)
        have E3 : Hid (nums x3 = decL (n % 60) ++ nums { data := #[83] }) := e3
        clear e3 hb3
        go_wp2
        go_ret
        exact ⟨_, rfl, ⟨by simp only [nums_append, E1.out, E2.out, E3.out, n72, n77, n83, n0, List.nil_append, List.append_assoc, List.cons_append], by simp only [ByteArray.size_append]; (try have hz : (⟨#[]⟩ : ByteArray).size = 0 := rfl); omega⟩, HB3.out⟩

/-- What Span answers. -/
def spanE (n : Int) : Int := if -mostZ ≤ n ∧ n ≤ mostZ then 0 else 110
def spanT (n : Int) : List Int := if -mostZ ≤ n ∧ n ≤ mostZ then spanL n else []
theorem span_no (n : Int) (w : World) (h : ¬ (-mostZ ≤ n ∧ n ≤ mostZ)) (h0 : -9223372036854775808 ≤ n) (h1 : n ≤ 9223372036854775807) :
    Calls Tryd.prog 20 #[.int .i64 n] w fun e w' => e = .returned (.tuple #[.string ⟨#[]⟩, .int .i64 110]) ∧ w = w' := by
  unfold mostZ at h
  by_cases a : n < -1099511627776
  · clear h
    go_enter Tryd.func20, Tryd.ntmps20
    go_wp2
    go_ret2
    exact ⟨rfl, rfl⟩
  · have b : n > 1099511627776 := by omega
    clear h
    go_enter Tryd.func20, Tryd.ntmps20
    go_wp2
    go_ret2
    exact ⟨rfl, rfl⟩
set_option maxHeartbeats 2000000 in
theorem span_pos (n : Int) (w : World) (h0 : 0 ≤ n) (h1 : n ≤ 1099511627776) (hT : Tb w) :
    Calls Tryd.prog 20 #[.int .i64 n] w fun e w' => ∃ x, e = .returned (.tuple #[.string x, .int .i64 0]) ∧ (nums x = 80 :: bodyL n ∧ x.size ≤ 2000) ∧ Below w.heap.size w w' := by
  have HT : Hid (Tb w) := hT
  clear hT
  unfold bodyL
  by_cases b1 : n ≠ 0 ∧ n % 604800 = 0
  · rw [if_pos b1]
    obtain ⟨b2, b3⟩ := b1
    have t1 : (n != 0) = true := by simp [b2]
    have t2 : (n % 604800 == 0) = true := by simp [b3]
    clear b2 b3
    go_enter Tryd.func20, Tryd.ntmps20
    go_wp2_with fail
    refine (counted_any (n / 604800) _ _ (by omega) (by omega) (by decide) HT.out).mono ?_
    rintro e w1 ⟨x1, rfl, ⟨e1, l1⟩, hb1⟩
    have E1 : Hid (nums x1 = decL (n / 604800) ++ nums { data := #[87] }) := e1
    have HB1 : Hid (Below w.heap.size w w1) := hb1
    clear e1 hb1
    go_wp2
    go_ret2
    exact ⟨_, rfl, ⟨by simp only [nums_append, E1.out, n87, n80, List.nil_append, List.cons_append], by simp only [ByteArray.size_append]; have hz1 : (⟨#[80]⟩ : ByteArray).size = 1 := rfl; have hz2 : (⟨#[45, 80]⟩ : ByteArray).size = 2 := rfl; have hz3 : (⟨#[84]⟩ : ByteArray).size = 1 := rfl; omega⟩, HB1.out⟩
  · rw [if_neg b1]
    by_cases b4 : 86400 ≤ n
    · rw [if_pos b4]
      have t1 : (n != 0) = true := by simp; omega
      have t2 : (n % 604800 == 0) = false := by simp; omega
      have t3 : (n == 0) = false := by simp; omega
      by_cases b5 : n % 86400 = 0
      · rw [if_neg (by omega)]
        have t4 : (n % 86400 != 0) = false := by simp [b5]
        clear b1 b5
        go_enter Tryd.func20, Tryd.ntmps20
        go_wp2_with fail
        refine (counted_any (n / 86400) _ _ (by omega) (by omega) (by decide) HT.out).mono ?_
        rintro e w1 ⟨x1, rfl, ⟨e1, l1⟩, hb1⟩
        have E1 : Hid (nums x1 = decL (n / 86400) ++ nums { data := #[68] }) := e1
        have HB1 : Hid (Below w.heap.size w w1) := hb1
        clear e1 hb1
        go_wp2
        go_ret2
        exact ⟨_, rfl, ⟨by simp only [nums_append, E1.out, n68, n80, List.nil_append, List.append_nil, List.cons_append], by simp only [ByteArray.size_append]; have hz1 : (⟨#[80]⟩ : ByteArray).size = 1 := rfl; have hz2 : (⟨#[45, 80]⟩ : ByteArray).size = 2 := rfl; have hz3 : (⟨#[84]⟩ : ByteArray).size = 1 := rfl; omega⟩, HB1.out⟩
      · rw [if_pos (by omega)]
        have t4 : (n % 86400 != 0) = true := by simp [b5]
        clear b1 b5
        go_enter Tryd.func20, Tryd.ntmps20
        go_wp2_with fail
        refine (counted_any (n / 86400) _ _ (by omega) (by omega) (by decide) HT.out).mono ?_
        rintro e w1 ⟨x1, rfl, ⟨e1, l1⟩, hb1⟩
        have E1 : Hid (nums x1 = decL (n / 86400) ++ nums { data := #[68] }) := e1
        have HB1 : Hid (Below w.heap.size w w1) := hb1
        clear e1 hb1
        go_wp2_with fail
        refine (clock_any (n % 86400) _ (by omega) (by omega) (HT.out.below HB1.out)).mono ?_
        rintro e w2 ⟨x2, rfl, ⟨e2, l2⟩, hb2⟩
        have E2 : Hid (nums x2 = clockL (n % 86400)) := e2
        have HB2 : Hid (Below w.heap.size w w2) := HB1.out.trans (hb2.mono HB1.out.size)
        clear e2 hb2
        go_wp2
        go_ret2
        exact ⟨_, rfl, ⟨by simp only [nums_append, E1.out, E2.out, n68, n84, n80, List.nil_append, List.append_assoc, List.cons_append], by simp only [ByteArray.size_append]; have hz1 : (⟨#[80]⟩ : ByteArray).size = 1 := rfl; have hz2 : (⟨#[45, 80]⟩ : ByteArray).size = 2 := rfl; have hz3 : (⟨#[84]⟩ : ByteArray).size = 1 := rfl; omega⟩, HB2.out⟩
    · rw [if_neg b4, if_pos (by omega)]
      by_cases b6 : n = 0
      · subst b6
        rw [show (0 : Int) % 86400 = 0 from rfl]
        go_enter Tryd.func20, Tryd.ntmps20
        go_wp2_with fail
        refine (clock_any 0 _ (by omega) (by omega) HT.out).mono ?_
        rintro e w1 ⟨x1, rfl, ⟨e1, l1⟩, hb1⟩
        have E1 : Hid (nums x1 = clockL 0) := e1
        have HB1 : Hid (Below w.heap.size w w1) := hb1
        clear e1 hb1
        go_wp2
        go_ret2
        exact ⟨_, rfl, ⟨by simp only [nums_append, E1.out, n84, n80, List.nil_append, List.cons_append], by simp only [ByteArray.size_append]; have hz1 : (⟨#[80]⟩ : ByteArray).size = 1 := rfl; have hz2 : (⟨#[45, 80]⟩ : ByteArray).size = 2 := rfl; have hz3 : (⟨#[84]⟩ : ByteArray).size = 1 := rfl; omega⟩, HB1.out⟩
      · have t1 : (n != 0) = true := by simp [b6]
        have t2 : (n % 604800 == 0) = false := by simp; omega
        have t3 : (n == 0) = false := by simp [b6]
        have t4 : (n % 86400 != 0) = true := by simp; omega
        clear b1 b6
        go_enter Tryd.func20, Tryd.ntmps20
        go_wp2_with fail
        refine (clock_any (n % 86400) _ (by omega) (by omega) HT.out).mono ?_
        rintro e w1 ⟨x1, rfl, ⟨e1, l1⟩, hb1⟩
        have E1 : Hid (nums x1 = clockL (n % 86400)) := e1
        have HB1 : Hid (Below w.heap.size w w1) := hb1
        clear e1 hb1
        go_wp2
        go_ret2
        exact ⟨_, rfl, ⟨by simp only [nums_append, E1.out, n84, n80, List.nil_append, List.cons_append], by simp only [ByteArray.size_append]; have hz1 : (⟨#[80]⟩ : ByteArray).size = 1 := rfl; have hz2 : (⟨#[45, 80]⟩ : ByteArray).size = 2 := rfl; have hz3 : (⟨#[84]⟩ : ByteArray).size = 1 := rfl; omega⟩, HB1.out⟩
set_option maxHeartbeats 2000000 in
theorem span_neg (n : Int) (w : World) (h0 : 0 < n) (h1 : n ≤ 1099511627776) (hT : Tb w) :
    Calls Tryd.prog 20 #[.int .i64 (-n)] w fun e w' => ∃ x, e = .returned (.tuple #[.string x, .int .i64 0]) ∧ (nums x = 45 :: 80 :: bodyL n ∧ x.size ≤ 2000) ∧ Below w.heap.size w w' := by
  have HT : Hid (Tb w) := hT
  clear hT
  unfold bodyL
  by_cases b1 : n ≠ 0 ∧ n % 604800 = 0
  · rw [if_pos b1]
    obtain ⟨b2, b3⟩ := b1
    have t1 : (n != 0) = true := by simp [b2]
    have t2 : (n % 604800 == 0) = true := by simp [b3]
    clear b2 b3
    go_enter Tryd.func20, Tryd.ntmps20
    go_wp2_with fail
    refine (counted_any (n / 604800) _ _ (by omega) (by omega) (by decide) HT.out).mono ?_
    rintro e w1 ⟨x1, rfl, ⟨e1, l1⟩, hb1⟩
    have E1 : Hid (nums x1 = decL (n / 604800) ++ nums { data := #[87] }) := e1
    have HB1 : Hid (Below w.heap.size w w1) := hb1
    clear e1 hb1
    go_wp2
    go_ret2
    exact ⟨_, rfl, ⟨by simp only [nums_append, E1.out, n87, n45, List.nil_append, List.cons_append], by simp only [ByteArray.size_append]; have hz1 : (⟨#[80]⟩ : ByteArray).size = 1 := rfl; have hz2 : (⟨#[45, 80]⟩ : ByteArray).size = 2 := rfl; have hz3 : (⟨#[84]⟩ : ByteArray).size = 1 := rfl; omega⟩, HB1.out⟩
  · rw [if_neg b1]
    by_cases b4 : 86400 ≤ n
    · rw [if_pos b4]
      have t1 : (n != 0) = true := by simp; omega
      have t2 : (n % 604800 == 0) = false := by simp; omega
      have t3 : (n == 0) = false := by simp; omega
      by_cases b5 : n % 86400 = 0
      · rw [if_neg (by omega)]
        have t4 : (n % 86400 != 0) = false := by simp [b5]
        clear b1 b5
        go_enter Tryd.func20, Tryd.ntmps20
        go_wp2_with fail
        refine (counted_any (n / 86400) _ _ (by omega) (by omega) (by decide) HT.out).mono ?_
        rintro e w1 ⟨x1, rfl, ⟨e1, l1⟩, hb1⟩
        have E1 : Hid (nums x1 = decL (n / 86400) ++ nums { data := #[68] }) := e1
        have HB1 : Hid (Below w.heap.size w w1) := hb1
        clear e1 hb1
        go_wp2
        go_ret2
        exact ⟨_, rfl, ⟨by simp only [nums_append, E1.out, n68, n45, List.nil_append, List.append_nil, List.cons_append], by simp only [ByteArray.size_append]; have hz1 : (⟨#[80]⟩ : ByteArray).size = 1 := rfl; have hz2 : (⟨#[45, 80]⟩ : ByteArray).size = 2 := rfl; have hz3 : (⟨#[84]⟩ : ByteArray).size = 1 := rfl; omega⟩, HB1.out⟩
      · rw [if_pos (by omega)]
        have t4 : (n % 86400 != 0) = true := by simp [b5]
        clear b1 b5
        go_enter Tryd.func20, Tryd.ntmps20
        go_wp2_with fail
        refine (counted_any (n / 86400) _ _ (by omega) (by omega) (by decide) HT.out).mono ?_
        rintro e w1 ⟨x1, rfl, ⟨e1, l1⟩, hb1⟩
        have E1 : Hid (nums x1 = decL (n / 86400) ++ nums { data := #[68] }) := e1
        have HB1 : Hid (Below w.heap.size w w1) := hb1
        clear e1 hb1
        go_wp2_with fail
        refine (clock_any (n % 86400) _ (by omega) (by omega) (HT.out.below HB1.out)).mono ?_
        rintro e w2 ⟨x2, rfl, ⟨e2, l2⟩, hb2⟩
        have E2 : Hid (nums x2 = clockL (n % 86400)) := e2
        have HB2 : Hid (Below w.heap.size w w2) := HB1.out.trans (hb2.mono HB1.out.size)
        clear e2 hb2
        go_wp2
        go_ret2
        exact ⟨_, rfl, ⟨by simp only [nums_append, E1.out, E2.out, n68, n84, n45, List.nil_append, List.append_assoc, List.cons_append], by simp only [ByteArray.size_append]; have hz1 : (⟨#[80]⟩ : ByteArray).size = 1 := rfl; have hz2 : (⟨#[45, 80]⟩ : ByteArray).size = 2 := rfl; have hz3 : (⟨#[84]⟩ : ByteArray).size = 1 := rfl; omega⟩, HB2.out⟩
    · rw [if_neg b4, if_pos (by omega)]
      by_cases b6 : n = 0
      · subst b6
        rw [show (0 : Int) % 86400 = 0 from rfl]
        omega
      · have t1 : (n != 0) = true := by simp [b6]
        have t2 : (n % 604800 == 0) = false := by simp; omega
        have t3 : (n == 0) = false := by simp [b6]
        have t4 : (n % 86400 != 0) = true := by simp; omega
        clear b1 b6
        go_enter Tryd.func20, Tryd.ntmps20
        go_wp2_with fail
        refine (clock_any (n % 86400) _ (by omega) (by omega) HT.out).mono ?_
        rintro e w1 ⟨x1, rfl, ⟨e1, l1⟩, hb1⟩
        have E1 : Hid (nums x1 = clockL (n % 86400)) := e1
        have HB1 : Hid (Below w.heap.size w w1) := hb1
        clear e1 hb1
        go_wp2
        go_ret2
        exact ⟨_, rfl, ⟨by simp only [nums_append, E1.out, n84, n45, List.nil_append, List.cons_append], by simp only [ByteArray.size_append]; have hz1 : (⟨#[80]⟩ : ByteArray).size = 1 := rfl; have hz2 : (⟨#[45, 80]⟩ : ByteArray).size = 2 := rfl; have hz3 : (⟨#[84]⟩ : ByteArray).size = 1 := rfl; omega⟩, HB1.out⟩
theorem span_any (n : Int) (w : World) (h0 : -9223372036854775808 ≤ n) (h1 : n ≤ 9223372036854775807) (hT : Tb w) :
    Calls Tryd.prog 20 #[.int .i64 n] w fun e w' => ∃ x, e = .returned (.tuple #[.string x, .int .i64 (spanE n)]) ∧ (nums x = spanT n ∧ x.size ≤ 2000) ∧ Below w.heap.size w w' := by
  by_cases h : -mostZ ≤ n ∧ n ≤ mostZ
  · have e1 : spanE n = 0 := by unfold spanE; rw [if_pos h]
    have e2 : spanT n = spanL n := by unfold spanT; rw [if_pos h]
    rw [e1, e2]
    unfold mostZ at h
    unfold spanL
    by_cases hn : n < 0
    · rw [if_pos hn]
      have := span_neg (-n) w (by omega) (by omega) hT
      rwa [Int.neg_neg] at this
    · rw [if_neg hn]
      exact span_pos n w (by omega) (by omega) hT
  · refine (span_no n w h h0 h1).mono ?_
    rintro e w' ⟨rfl, rfl⟩
    have e1 : spanE n = 110 := by unfold spanE; rw [if_neg h]
    have e2 : spanT n = [] := by unfold spanT; rw [if_neg h]
    rw [e1, e2]
    exact ⟨_, rfl, ⟨n0, by decide⟩, Below.refl _ _⟩
end Go.Proofs.YtkamnphiocoebaaDoor
