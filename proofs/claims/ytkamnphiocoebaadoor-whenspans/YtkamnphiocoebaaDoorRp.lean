/-
  The document's own times as texts: the contracts of its Digits and Print.
-/
import Derived.Test.YtkamnphiocoebaaDoorRd
import Derived.Test.YtkamnphiocoebaaDoorSn
namespace Go.Proofs.YtkamnphiocoebaaDoor
open Go.RowKit
set_option linter.unusedVariables false

theorem conv_one (w : World) (c : Int) : (convert 41 9 (.slice (some ⟨w.heap.size, 0, none⟩) 1 1)).run Tryd.prog (w.alloc (.cells #[.int .u8 c] 5)) = .ok (.string (strOfNums [c])) (w.alloc (.cells #[.int .u8 c] 5)) :=
  conv_row 1 1 rfl (row_new w [c])
theorem one_size (c : Int) : (strOfNums [c]).size = 1 := by rfl
def digN : Nat → Int → List Int
  | 0, _ => []
  | k + 1, n => digN k (n / 10) ++ [48 + n % 10]
theorem digN_two (n : Int) : digN 2 n = two n := rfl
theorem digN_four (n : Int) : digN 4 n = four n := rfl
set_option maxHeartbeats 2000000 in
theorem rdigits_any (n : Int) (k0 : Nat) (w : World) (h0 : 0 ≤ n) (h1 : n < 1000000000000) (hk0 : k0 ≤ 20) :
    Calls Tryd.prog 29 #[.int .i64 n, .int .i64 k0] w fun e w' => ∃ x, e = .returned (.string x) ∧ (nums x = digN k0 n ∧ x.size ≤ 20) ∧ Below w.heap.size w w' := by
  go_enter Tryd.func29, Tryd.ntmps29
  go_wp2
  go_loopw [0, 5, 6] (fun a b c wr => ∃ (k : Nat) (m : Int) (x : ByteArray), a = .int .i64 m ∧ b = .string x ∧ c = .int .i64 k ∧ k ≤ k0 ∧ (0 ≤ m ∧ m ≤ n) ∧ digN k0 n = digN (k0 - k) m ++ nums x ∧ x.size ≤ k ∧ Below w.heap.size w wr) (fun _ _ c _ => k0 - (intOf c).toNat)
  case atStart => exact ⟨0, n, ⟨#[]⟩, rfl, rfl, rfl, by omega, by omega, by rw [n0]; simp, by decide, Below.refl _ _⟩
  case round =>
    obtain ⟨k, m, x, rfl, rfl, rfl, hk, ⟨hm0, hm1⟩, he, hx, hb⟩ := hrel
    have HE : Hid (digN k0 n = digN (k0 - k) m ++ nums x) := he
    have HB : Hid (Below w.heap.size w wr) := hb
    clear he hb
    by_cases hlt : k < k0
    · have kc := conv_one wr (48 + m % 10)
      have hs1 := one_size (48 + m % 10)
      have HN : Hid (digN k0 n = digN (k0 - (k + 1)) (m / 10) ++ (nums (strOfNums [48 + m % 10]) ++ nums x)) := by
        unfold Hid
        rw [HE.out, show k0 - k = (k0 - (k + 1)) + 1 by omega, nums_str (l := [48 + m % 10]) (by intro y hy; simp at hy; omega)]
        simp [digN]
      have HB2 : Hid (Below w.heap.size w (wr.alloc (.cells #[.int .u8 (48 + m % 10)] 5))) := HB.out.alloc HB.out.size _
      generalize strOfNums [48 + m % 10] = y at kc hs1 HN
      clear HE HB
      go_wp2
      go_roundw
      case rel => exact ⟨k + 1, m / 10, y ++ x, rfl, rfl, by go_num, by omega, by omega, by rw [nums_append]; exact HN.out, by rw [ByteArray.size_append]; omega, HB2.out⟩
      case measure => simp [intOf]; omega
    · obtain rfl : k = k0 := by omega
      have HX : Hid (nums x = digN k n) := by
        have := HE.out
        rw [Nat.sub_self] at this
        exact this.symm
      clear HE
      go_wp2
      go_ret
      exact ⟨x, rfl, ⟨HX.out, by omega⟩, HB.out⟩
theorem n90 : nums { data := #[90] } = [90] := by decide
set_option maxHeartbeats 2000000 in
theorem rprint_yes (t : Int) (w : World) (h : rightB t = true) :
    Calls Tryd.prog 17 #[.int .i64 t] w fun e w' => (∃ y m d x, Civ (t / 86400) y m d ∧ e = .returned (.tuple #[.string x, .int .i64 0]) ∧ nums x = timeL y m d t) ∧ Below w.heap.size w w' := by
  have ht : 0 ≤ t ∧ t < 253402300800 := by simpa [rightB] using h
  have HR : Hid (Calls Tryd.prog 15 #[.int .i64 t] w fun e w' => e = .returned (.bool true) ∧ w = w') := by
    have := rtime_any t w (by omega) (by omega)
    rwa [h] at this
  obtain ⟨ht0, ht1⟩ := ht
  clear h
  go_enter Tryd.func17, Tryd.ntmps17
  go_wp2_with fail
  refine HR.out.mono ?_
  rintro e w' ⟨rfl, rfl⟩
  go_wp2_with fail
  refine (rcivil_yes (t / 86400) w (by omega) (by omega)).mono ?_
  rintro e w' ⟨⟨y, m, d, hc, rfl⟩, rfl⟩
  have hcd := (day_iff _ _ _).1 hc.hd
  have hm31 := (mon_ge y m hcd.2.2.1 hcd.2.2.2.1).2
  have HC : Hid (Civ (t / 86400) y m d) := hc
  have y0 : 0 ≤ y := by omega
  have y1 : y ≤ 9999 := by omega
  have m0 : 0 ≤ m := by omega
  have m1 : m ≤ 12 := by omega
  have d0 : 0 ≤ d := by omega
  have d1 : d ≤ 31 := by omega
  clear hc hcd hm31
  go_wp2_with fail
  refine (rdigits_any y 4 _ (by omega) (by omega) (by omega)).mono ?_
  rintro e w1 ⟨x1, rfl, ⟨e1, z1⟩, hb1⟩
  have E1 : Hid (nums x1 = digN 4 y) := e1
  have HB1 : Hid (Below w.heap.size w w1) := hb1
  clear e1 hb1
  go_wp2_with fail
  refine (rdigits_any m 2 _ (by omega) (by omega) (by omega)).mono ?_
  rintro e w2 ⟨x2, rfl, ⟨e2, z2⟩, hb2⟩
  have E2 : Hid (nums x2 = digN 2 m) := e2
  have HB2 : Hid (Below w.heap.size w w2) := HB1.out.trans (hb2.mono HB1.out.size)
  clear e2 hb2
  go_wp2_with fail
  refine (rdigits_any d 2 _ (by omega) (by omega) (by omega)).mono ?_
  rintro e w3 ⟨x3, rfl, ⟨e3, z3⟩, hb3⟩
  have E3 : Hid (nums x3 = digN 2 d) := e3
  have HB3 : Hid (Below w.heap.size w w3) := HB2.out.trans (hb3.mono HB2.out.size)
  clear e3 hb3
  go_wp2_with fail
  refine (rdigits_any (t % 86400 / 3600) 2 _ (by omega) (by omega) (by omega)).mono ?_
  rintro e w4 ⟨x4, rfl, ⟨e4, z4⟩, hb4⟩
  have E4 : Hid (nums x4 = digN 2 (t % 86400 / 3600)) := e4
  have HB4 : Hid (Below w.heap.size w w4) := HB3.out.trans (hb4.mono HB3.out.size)
  clear e4 hb4
  go_wp2_with fail
  refine (rdigits_any (t % 3600 / 60) 2 _ (by omega) (by omega) (by omega)).mono ?_
  rintro e w5 ⟨x5, rfl, ⟨e5, z5⟩, hb5⟩
  have E5 : Hid (nums x5 = digN 2 (t % 3600 / 60)) := e5
  have HB5 : Hid (Below w.heap.size w w5) := HB4.out.trans (hb5.mono HB4.out.size)
  clear e5 hb5
  go_wp2_with fail
  refine (rdigits_any (t % 60) 2 _ (by omega) (by omega) (by omega)).mono ?_
  rintro e w6 ⟨x6, rfl, ⟨e6, z6⟩, hb6⟩
  have E6 : Hid (nums x6 = digN 2 (t % 60)) := e6
  have HB6 : Hid (Below w.heap.size w w6) := HB5.out.trans (hb6.mono HB5.out.size)
  clear e6 hb6
  go_wp2
  go_ret2
  refine ⟨⟨y, m, d, _, HC.out, rfl, ?_⟩, HB6.out⟩
  simp only [nums_append, E1.out, E2.out, E3.out, E4.out, E5.out, E6.out, n84, n90, digN_two, digN_four]
  rfl
theorem rprint_no (t : Int) (w : World) (h : rightB t = false) (h0 : -9223372036854775808 ≤ t) (h1 : t ≤ 9223372036854775807) :
    Calls Tryd.prog 17 #[.int .i64 t] w fun e w' => e = .returned (.tuple #[.string ⟨#[]⟩, .int .i64 110]) ∧ w = w' := by
  have H : Hid (rightB t = false) := h
  clear h
  go_enter Tryd.func17, Tryd.ntmps17
  go_wp2_with fail
  refine (rtime_any t _ h0 h1).mono ?_
  rintro e w' ⟨rfl, rfl⟩
  rw [H.out]
  go_wp2
  go_ret2
  exact ⟨rfl, rfl⟩
end Go.Proofs.YtkamnphiocoebaaDoor
