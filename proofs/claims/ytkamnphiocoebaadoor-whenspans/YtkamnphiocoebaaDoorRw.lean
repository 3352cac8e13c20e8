/-
  The document's own lengths: the contract of its ParseSpan.
-/
import Derived.Test.YtkamnphiocoebaaDoorSu
import Derived.Test.YtkamnphiocoebaaDoorLe
namespace Go.Proofs.YtkamnphiocoebaaDoor
open Go.RowKit
set_option linter.unusedVariables false

/-- What is read behind a P. -/
def bodyR (l : List Int) : Option Int := (refFull l).bind fun n => if mostZ < n then none else some n
theorem full_body (neg : Bool) (r : List Int) : fullR neg (80 :: r) = (bodyR r).map fun n => if neg = true then -n else n := by
  unfold fullR bodyR
  rw [ref_full, show lengthR (80 :: r) = lenR r from rfl]
  cases lenR r with
  | none => rfl
  | some p =>
    obtain ⟨n, t⟩ := p
    cases t with
    | nil =>
      show (if mostZ < n then none else some (if neg = true then -n else n)) = Option.map _ (if mostZ < n then none else some n)
      split <;> rfl
    | cons a b => rfl
theorem full_noP (neg : Bool) (l : List Int) (h : ∀ r, l ≠ 80 :: r) : fullR neg l = none := full_none (lengthR_no l h)
theorem body_none1 {l : List Int} (h : pcs [] l = none) : bodyR l = none := by unfold bodyR refFull; rw [h]; rfl
theorem body_val {l : List Int} {ps : List (Int × Int)} (h : pcs [] l = some ps) : bodyR l = if sumR ps < 0 ∨ mostZ < sumR ps then none else some (sumR ps) := by
  unfold bodyR refFull
  rw [h]
  show (given (sumR ps)).bind _ = _
  unfold given
  by_cases a : sumR ps < 0
  · rw [if_pos a, if_pos (.inl a)]; rfl
  · rw [if_neg a]
    show (if mostZ < sumR ps then none else some (sumR ps)) = _
    by_cases b : mostZ < sumR ps
    · rw [if_pos b, if_pos (.inr b)]
    · rw [if_neg b, if_neg (fun q => q.elim a b)]
theorem sumK_in : ∀ (ps : List (Int × Int)) (was acc : Int), (∀ p ∈ ps, 0 ≤ p.1 ∧ p.1 < 10000000000) → 0 ≤ acc → -1 ≤ sumK was acc ps ∧ sumK was acc ps ≤ acc + (ps.length : Int) * 864000000000000
  | [], was, acc, _, ha => by
    simp only [sumK]
    split
    · simp; omega
    · simp; omega
  | p :: ps, was, acc, hp, ha => by
    simp only [sumK]
    split
    · simp; omega
    · have h := hp p (by simp)
      have hw := worth_in p.2
      have m0 := Int.mul_nonneg h.1 hw.1
      have m1 : p.1 * worthZ p.2 ≤ 864000000000000 := by
        have a := Int.mul_le_mul_of_nonneg_left hw.2 h.1
        omega
      have := sumK_in ps (ordZ p.2) (acc + p.1 * worthZ p.2) (fun q hq => hp q (by simp [hq])) (by omega)
      simp only [List.length_cons]
      omega
theorem sumR_in (ps : List (Int × Int)) (hp : ∀ p ∈ ps, 0 ≤ p.1 ∧ p.1 < 10000000000) (hl : ps.length ≤ 1000) : -1 ≤ sumR ps ∧ sumR ps ≤ 1000000000000000000 := by
  unfold sumR
  split
  · rename_i n
    have := hp (n, 87) (by simp)
    simp only at this
    omega
  · have := sumK_in ps (-1) 0 hp (by omega)
    omega
set_option maxHeartbeats 8000000 in
set_option maxRecDepth 100000 in
theorem rparseSpan_any (s : ByteArray) (w : World) (hs : s.size ≤ 300) :
    Calls Tryd.prog 23 #[.string s] w fun e w' => e = .returned (.tuple #[.int .i64 (psV (nums s)), .int .i64 (psE (nums s))]) ∧ Below w.heap.size w w' := by
  by_cases hs0 : s.size = 0
  · have HV : Hid (psV (nums s) = 0 ∧ psE (nums s) = 110) := ps_none (by rw [List.eq_nil_of_length_eq_zero (show (nums s).length = 0 by rw [nums_len]; exact hs0)]; rfl)
    have t0 : ((s.size : Int) == 0) = true := by simp [hs0]
    go_enter Tryd.func23, Tryd.ntmps23
    go_wp2
    go_ret2
    exact ⟨by rw [HV.out.1, HV.out.2]; rfl, Below.refl _ _⟩
  · have hpos : 0 < s.size := by omega
    have HC : Hid (nums s = (s[0].toNat : Int) :: (nums s).drop 1) := nums_drop s 0 hpos
    obtain ⟨c, hc⟩ : ∃ c : Int, ((s[0]'hpos).toNat : Int) = c := ⟨_, rfl⟩
    rw [hc] at HC
    by_cases h43 : c = 43
    · have a1 : (c == 43) = true := by simp [h43]
      have a2 : (c == 45) = false := by simp [h43]
      have HS : Hid (spanR (nums s) = fullR false (nums (s.extract 1 s.size))) := by
        unfold Hid; rw [HC.out, h43, nums_from]; rfl
      have hxz : (s.extract 1 s.size).size ≤ 300 := by rw [ByteArray.size_extract]; omega
      obtain ⟨x, hx⟩ : ∃ x, s.extract 1 s.size = x := ⟨_, rfl⟩
      rw [hx] at HS hxz
      clear HC h43
      by_cases hx0 : x.size = 0
      · have HV : Hid (psV (nums s) = 0 ∧ psE (nums s) = 110) := ps_none (by rw [HS.out]; exact full_noP _ _ (fun r e => by have := congrArg List.length e; rw [nums_len, hx0] at this; simp at this))
        have t0 : ((x.size : Int) == 0) = true := by simp [hx0]
        clear HS
        go_enter Tryd.func23, Tryd.ntmps23
        go_wp2
        go_ret2
        exact ⟨by rw [HV.out.1, HV.out.2]; rfl, Below.refl _ _⟩
      · have t0 : ((x.size : Int) == 0) = false := by simp [hx0]
        have hxl : 0 < x.size := by omega
        have HD : Hid (nums x = (x[0].toNat : Int) :: (nums x).drop 1) := nums_drop x 0 hxl
        obtain ⟨d, hd⟩ : ∃ d : Int, ((x[0]'hxl).toNat : Int) = d := ⟨_, rfl⟩
        rw [hd] at HD
        by_cases h80 : d = 80
        · have t8 : (d != 80) = false := by simp [h80]
          have HS2 : Hid (spanR (nums s) = (bodyR (nums (x.extract 1 x.size))).map fun n => if false = true then -n else n) := by
            unfold Hid; rw [HS.out, HD.out, h80, full_body, nums_from]
          have PC := pieces_any (x.extract 1 x.size) w (by rw [ByteArray.size_extract]; omega)
          have hlen : (nums (x.extract 1 x.size)).length ≤ 1000 := by rw [nums_len, ByteArray.size_extract]; omega
          obtain ⟨z, hz⟩ : ∃ z, x.extract 1 x.size = z := ⟨_, rfl⟩
          rw [hz] at HS2 PC hlen
          clear HS HD h80
          go_enter Tryd.func23, Tryd.ntmps23
          go_wp2_with fail
          refine PC.mono ?_
          rintro e w1 ⟨v, b, rfl, ⟨ps, ho, hpl, hok, hb1, hb2⟩, hbl⟩
          have HB1 : Hid (Below w.heap.size w w1) := hbl
          have SM := sum_any ps v w1 w.heap.size ho (by omega) hok
          have hin := sumR_in ps (fun p hp => (hok p hp).1) (by omega)
          have HB2 : Hid (b = true → bodyR (nums z) = if sumR ps < 0 ∨ mostZ < sumR ps then none else some (sumR ps)) := fun q => body_val (hb1 q)
          have HB3 : Hid (b = false → bodyR (nums z) = none) := fun q => body_none1 (hb2 q)
          clear ho hok hb1 hb2 hbl hpl PC
          generalize sumR ps = S at SM hin HB2
          go_wp2_with fail
          refine SM.mono ?_
          rintro e w2 ⟨rfl, hbl⟩
          have HB4 : Hid (Below w.heap.size w w2) := HB1.out.trans (hbl.mono HB1.out.size)
          clear hbl SM
          cases b with
          | false =>
            have HV : Hid (psV (nums s) = 0 ∧ psE (nums s) = 110) := ps_none (by rw [HS2.out, HB3.out rfl]; rfl)
            clear HS2 HB2 HB3
            go_wp2
            go_ret2
            exact ⟨by rw [HV.out.1, HV.out.2]; rfl, HB4.out⟩
          | true =>
            have hbr := HB2.out rfl
            by_cases g1 : S < 0
            · have HV : Hid (psV (nums s) = 0 ∧ psE (nums s) = 110) := ps_none (by rw [HS2.out, hbr, if_pos (.inl g1)]; rfl)
              clear HS2 HB2 HB3 hbr
              go_wp2
              go_ret2
              exact ⟨by rw [HV.out.1, HV.out.2]; rfl, HB4.out⟩
            · by_cases g2 : 1099511627776 < S
              · have HV : Hid (psV (nums s) = 0 ∧ psE (nums s) = 110) := ps_none (by rw [HS2.out, hbr, if_pos (.inr g2)]; rfl)
                clear HS2 HB2 HB3 hbr
                go_wp2
                go_ret2
                exact ⟨by rw [HV.out.1, HV.out.2]; rfl, HB4.out⟩
              · have HV : Hid (psV (nums s) = S ∧ psE (nums s) = 0) := ps_some (by rw [HS2.out, hbr, if_neg (fun q => q.elim g1 g2)]; rfl)
                clear HS2 HB2 HB3 hbr
                go_wp2
                go_ret2
                exact ⟨by rw [HV.out.1, HV.out.2]; rfl, HB4.out⟩
        · have t8 : (d != 80) = true := by simp [h80]
          have HV : Hid (psV (nums s) = 0 ∧ psE (nums s) = 110) := ps_none (by rw [HS.out]; exact full_noP _ _ (fun r e => by rw [HD.out] at e; injection e with a _; exact h80 a))
          clear HS HD h80
          go_enter Tryd.func23, Tryd.ntmps23
          go_wp2
          go_ret2
          exact ⟨by rw [HV.out.1, HV.out.2]; rfl, Below.refl _ _⟩
    · have a1 : (c == 43) = false := by simp [h43]
      by_cases h45 : c = 45
      · have a2 : (c == 45) = true := by simp [h45]
        clear h43
        have HS : Hid (spanR (nums s) = fullR true (nums (s.extract 1 s.size))) := by
          unfold Hid; rw [HC.out, h45, nums_from]; rfl
        have hxz : (s.extract 1 s.size).size ≤ 300 := by rw [ByteArray.size_extract]; omega
        obtain ⟨x, hx⟩ : ∃ x, s.extract 1 s.size = x := ⟨_, rfl⟩
        rw [hx] at HS hxz
        clear HC h45
        by_cases hx0 : x.size = 0
        · have HV : Hid (psV (nums s) = 0 ∧ psE (nums s) = 110) := ps_none (by rw [HS.out]; exact full_noP _ _ (fun r e => by have := congrArg List.length e; rw [nums_len, hx0] at this; simp at this))
          have t0 : ((x.size : Int) == 0) = true := by simp [hx0]
          clear HS
          go_enter Tryd.func23, Tryd.ntmps23
          go_wp2
          go_ret2
          exact ⟨by rw [HV.out.1, HV.out.2]; rfl, Below.refl _ _⟩
        · have t0 : ((x.size : Int) == 0) = false := by simp [hx0]
          have hxl : 0 < x.size := by omega
          have HD : Hid (nums x = (x[0].toNat : Int) :: (nums x).drop 1) := nums_drop x 0 hxl
          obtain ⟨d, hd⟩ : ∃ d : Int, ((x[0]'hxl).toNat : Int) = d := ⟨_, rfl⟩
          rw [hd] at HD
          by_cases h80 : d = 80
          · have t8 : (d != 80) = false := by simp [h80]
            have HS2 : Hid (spanR (nums s) = (bodyR (nums (x.extract 1 x.size))).map fun n => if true = true then -n else n) := by
              unfold Hid; rw [HS.out, HD.out, h80, full_body, nums_from]
            have PC := pieces_any (x.extract 1 x.size) w (by rw [ByteArray.size_extract]; omega)
            have hlen : (nums (x.extract 1 x.size)).length ≤ 1000 := by rw [nums_len, ByteArray.size_extract]; omega
            obtain ⟨z, hz⟩ : ∃ z, x.extract 1 x.size = z := ⟨_, rfl⟩
            rw [hz] at HS2 PC hlen
            clear HS HD h80
            go_enter Tryd.func23, Tryd.ntmps23
            go_wp2_with fail
            refine PC.mono ?_
            rintro e w1 ⟨v, b, rfl, ⟨ps, ho, hpl, hok, hb1, hb2⟩, hbl⟩
            have HB1 : Hid (Below w.heap.size w w1) := hbl
            have SM := sum_any ps v w1 w.heap.size ho (by omega) hok
            have hin := sumR_in ps (fun p hp => (hok p hp).1) (by omega)
            have HB2 : Hid (b = true → bodyR (nums z) = if sumR ps < 0 ∨ mostZ < sumR ps then none else some (sumR ps)) := fun q => body_val (hb1 q)
            have HB3 : Hid (b = false → bodyR (nums z) = none) := fun q => body_none1 (hb2 q)
            clear ho hok hb1 hb2 hbl hpl PC
            generalize sumR ps = S at SM hin HB2
            go_wp2_with fail
            refine SM.mono ?_
            rintro e w2 ⟨rfl, hbl⟩
            have HB4 : Hid (Below w.heap.size w w2) := HB1.out.trans (hbl.mono HB1.out.size)
            clear hbl SM
            cases b with
            | false =>
              have HV : Hid (psV (nums s) = 0 ∧ psE (nums s) = 110) := ps_none (by rw [HS2.out, HB3.out rfl]; rfl)
              clear HS2 HB2 HB3
              go_wp2
              go_ret2
              exact ⟨by rw [HV.out.1, HV.out.2]; rfl, HB4.out⟩
            | true =>
              have hbr := HB2.out rfl
              by_cases g1 : S < 0
              · have HV : Hid (psV (nums s) = 0 ∧ psE (nums s) = 110) := ps_none (by rw [HS2.out, hbr, if_pos (.inl g1)]; rfl)
                clear HS2 HB2 HB3 hbr
                go_wp2
                go_ret2
                exact ⟨by rw [HV.out.1, HV.out.2]; rfl, HB4.out⟩
              · by_cases g2 : 1099511627776 < S
                · have HV : Hid (psV (nums s) = 0 ∧ psE (nums s) = 110) := ps_none (by rw [HS2.out, hbr, if_pos (.inr g2)]; rfl)
                  clear HS2 HB2 HB3 hbr
                  go_wp2
                  go_ret2
                  exact ⟨by rw [HV.out.1, HV.out.2]; rfl, HB4.out⟩
                · have HV : Hid (psV (nums s) = -S ∧ psE (nums s) = 0) := ps_some (by rw [HS2.out, hbr, if_neg (fun q => q.elim g1 g2)]; rfl)
                  clear HS2 HB2 HB3 hbr
                  go_wp2
                  go_ret2
                  exact ⟨by rw [HV.out.1, HV.out.2]; rfl, HB4.out⟩
          · have t8 : (d != 80) = true := by simp [h80]
            have HV : Hid (psV (nums s) = 0 ∧ psE (nums s) = 110) := ps_none (by rw [HS.out]; exact full_noP _ _ (fun r e => by rw [HD.out] at e; injection e with a _; exact h80 a))
            clear HS HD h80
            go_enter Tryd.func23, Tryd.ntmps23
            go_wp2
            go_ret2
            exact ⟨by rw [HV.out.1, HV.out.2]; rfl, Below.refl _ _⟩
      · have a2 : (c == 45) = false := by simp [h45]
        have HS : Hid (spanR (nums s) = fullR false (nums s)) := spanR_bare _ (fun r e => by rw [HC.out] at e; injection e with a _; exact h45 a) (fun r e => by rw [HC.out] at e; injection e with a _; exact h43 a)
        clear HC h43 h45
        by_cases hx0 : s.size = 0
        · exact absurd hx0 hs0
        · have t0 : ((s.size : Int) == 0) = false := by simp [hx0]
          have hxl : 0 < s.size := by omega
          have HD : Hid (nums s = (s[0].toNat : Int) :: (nums s).drop 1) := nums_drop s 0 hxl
          obtain ⟨d, hd⟩ : ∃ d : Int, ((s[0]'hxl).toNat : Int) = d := ⟨_, rfl⟩
          rw [hd] at HD
          by_cases h80 : d = 80
          · have t8 : (d != 80) = false := by simp [h80]
            have HS2 : Hid (spanR (nums s) = (bodyR (nums (s.extract 1 s.size))).map fun n => if false = true then -n else n) := by
              unfold Hid; rw [HS.out, HD.out, h80, full_body, nums_from]
            have PC := pieces_any (s.extract 1 s.size) w (by rw [ByteArray.size_extract]; omega)
            have hlen : (nums (s.extract 1 s.size)).length ≤ 1000 := by rw [nums_len, ByteArray.size_extract]; omega
            obtain ⟨z, hz⟩ : ∃ z, s.extract 1 s.size = z := ⟨_, rfl⟩
            rw [hz] at HS2 PC hlen
            clear HS HD h80
            go_enter Tryd.func23, Tryd.ntmps23
            go_wp2_with fail
            refine PC.mono ?_
            rintro e w1 ⟨v, b, rfl, ⟨ps, ho, hpl, hok, hb1, hb2⟩, hbl⟩
            have HB1 : Hid (Below w.heap.size w w1) := hbl
            have SM := sum_any ps v w1 w.heap.size ho (by omega) hok
            have hin := sumR_in ps (fun p hp => (hok p hp).1) (by omega)
            have HB2 : Hid (b = true → bodyR (nums z) = if sumR ps < 0 ∨ mostZ < sumR ps then none else some (sumR ps)) := fun q => body_val (hb1 q)
            have HB3 : Hid (b = false → bodyR (nums z) = none) := fun q => body_none1 (hb2 q)
            clear ho hok hb1 hb2 hbl hpl PC
            generalize sumR ps = S at SM hin HB2
            go_wp2_with fail
            refine SM.mono ?_
            rintro e w2 ⟨rfl, hbl⟩
            have HB4 : Hid (Below w.heap.size w w2) := HB1.out.trans (hbl.mono HB1.out.size)
            clear hbl SM
            cases b with
            | false =>
              have HV : Hid (psV (nums s) = 0 ∧ psE (nums s) = 110) := ps_none (by rw [HS2.out, HB3.out rfl]; rfl)
              clear HS2 HB2 HB3
              go_wp2
              go_ret2
              exact ⟨by rw [HV.out.1, HV.out.2]; rfl, HB4.out⟩
            | true =>
              have hbr := HB2.out rfl
              by_cases g1 : S < 0
              · have HV : Hid (psV (nums s) = 0 ∧ psE (nums s) = 110) := ps_none (by rw [HS2.out, hbr, if_pos (.inl g1)]; rfl)
                clear HS2 HB2 HB3 hbr
                go_wp2
                go_ret2
                exact ⟨by rw [HV.out.1, HV.out.2]; rfl, HB4.out⟩
              · by_cases g2 : 1099511627776 < S
                · have HV : Hid (psV (nums s) = 0 ∧ psE (nums s) = 110) := ps_none (by rw [HS2.out, hbr, if_pos (.inr g2)]; rfl)
                  clear HS2 HB2 HB3 hbr
                  go_wp2
                  go_ret2
                  exact ⟨by rw [HV.out.1, HV.out.2]; rfl, HB4.out⟩
                · have HV : Hid (psV (nums s) = S ∧ psE (nums s) = 0) := ps_some (by rw [HS2.out, hbr, if_neg (fun q => q.elim g1 g2)]; rfl)
                  clear HS2 HB2 HB3 hbr
                  go_wp2
                  go_ret2
                  exact ⟨by rw [HV.out.1, HV.out.2]; rfl, HB4.out⟩
          · have t8 : (d != 80) = true := by simp [h80]
            have HV : Hid (psV (nums s) = 0 ∧ psE (nums s) = 110) := ps_none (by rw [HS.out]; exact full_noP _ _ (fun r e => by rw [HD.out] at e; injection e with a _; exact h80 a))
            clear HS HD h80
            go_enter Tryd.func23, Tryd.ntmps23
            go_wp2
            go_ret2
            exact ⟨by rw [HV.out.1, HV.out.2]; rfl, Below.refl _ _⟩
end Go.Proofs.YtkamnphiocoebaaDoor
