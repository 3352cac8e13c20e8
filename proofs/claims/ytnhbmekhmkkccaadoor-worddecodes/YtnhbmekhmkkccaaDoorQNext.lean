/-
  The contracts of value, escaped and next.
-/
import Derived.Test.YtnhbmekhmkkccaaDoorQEnc
import Derived.Test.YtnhbmekhmkkccaaDoorQTrim
namespace Go.Proofs.YtnhbmekhmkkccaaDoor.Qu
open Go.RowKit
set_option linter.unusedVariables false

set_option maxRecDepth 100000 in
/-- A digit's number, and whether it is one. -/
theorem value_any (c : Int) (w : World) (h0 : 0 ≤ c) (h1 : c < 256) : Calls Tryd.prog 101 #[.int .u8 c] w fun e w' => e = .returned (.tuple #[.int .u8 (if valQ c < 0 then 0 else valQ c), .bool (decide (0 ≤ valQ c))]) ∧ w = w' := by
  have hcase : (48 ≤ c ∧ c ≤ 57 ∧ valQ c = c - 48) ∨ (65 ≤ c ∧ c ≤ 70 ∧ valQ c = c - 55) ∨ (97 ≤ c ∧ c ≤ 102 ∧ valQ c = c - 87) ∨ ((c < 48 ∨ (57 < c ∧ c < 65) ∨ (70 < c ∧ c < 97) ∨ 102 < c) ∧ valQ c = -1) := by
    unfold valQ
    split <;> (try split) <;> (try split) <;> omega
  rcases hcase with ⟨ha, hb, hv⟩ | ⟨ha, hb, hv⟩ | ⟨ha, hb, hv⟩ | ⟨ha, hv⟩
  · rw [hv, if_neg (by omega), decide_eq_true (by omega)]
    clear hv
    go_enter Tryd.func101, Tryd.ntmps101
    go_wp2
    go_ret2
    exact ⟨rfl, rfl⟩
  · rw [hv, if_neg (by omega), decide_eq_true (by omega), show c - 55 = c - 65 + 10 from by omega]
    clear hv
    go_enter Tryd.func101, Tryd.ntmps101
    go_wp2
    go_ret2
    exact ⟨rfl, rfl⟩
  · rw [hv, if_neg (by omega), decide_eq_true (by omega), show c - 87 = c - 97 + 10 from by omega]
    clear hv
    go_enter Tryd.func101, Tryd.ntmps101
    go_wp2
    go_ret2
    exact ⟨rfl, rfl⟩
  · rw [hv, if_pos (by omega), decide_eq_false (by omega)]
    clear hv
    rcases ha with ha | ha | ha | ha
    all_goals
      go_enter Tryd.func101, Tryd.ntmps101
      go_wp2
      all_goals go_ret2
      all_goals exact ⟨rfl, rfl⟩
theorem u8_or4 (x y : Int) (h0 : 0 ≤ x) (h1 : x < 256) (h2 : x % 16 = 0) (h3 : 0 ≤ y) (h4 : y < 16) : bits .or .u8 x y = x + y :=
  bits_join .u8 8 (by decide) (fun n h0 h1 => by simp [IntKind.wrap, IntKind.bits, IntKind.signed]; omega) 4 x y h0 (by simpa using h2) (by simpa using h1) h3 (by simpa using h4) (by simp; omega)
theorem take_soft (l : List Int) : decide ((61 :: l).take 3 = [61, 13, 10]) = pairQ l := by
  rw [← take_pair]
  simp
/-- What an = says, with what stands behind it. -/
def escQ : List Int → List Int × Int × Int
  | a :: b :: _ => if a = 13 ∧ b = 10 then ([], 3, 0) else if valQ a < 0 ∨ valQ b < 0 then ([], 0, 3) else ([16 * valQ a + valQ b], 3, 0)
  | _ => ([], 0, 3)
set_option maxRecDepth 100000 in
set_option maxHeartbeats 2000000 in
theorem escaped_any (s : ByteArray) (r : List Int) (w : World) (hn : nums s = 61 :: r) (hs : s.size ≤ 100000000) :
    Calls Tryd.prog 99 #[.string s] w fun e w' => e = .returned (.tuple #[.string (strOfNums (escQ r).1), .int .i64 (escQ r).2.1, .int .i64 (escQ r).2.2]) ∧ Below w.heap.size w w' := by
  have hp : decide ((nums s).take 3 = [61, 13, 10]) = pairQ r := by rw [hn, take_soft]
  have hl : s.size = r.length + 1 := by rw [← nums_len, hn]; rfl
  have hpx : ∀ W : World, Calls Tryd.prog 25 #[.string s, .string ⟨#[61, 13, 10]⟩] W fun e w' => e = .returned (.bool (pairQ r)) ∧ W = w' := by
    intro W
    refine (hasPrefix_any s ⟨#[61, 13, 10]⟩ W).mono ?_
    rintro e w' ⟨rfl, rfl⟩
    refine ⟨ret_bool ?_, rfl⟩
    rw [soft_str, ← hp]; rfl
  rcases r with _ | ⟨a, _ | ⟨b, t⟩⟩
  · simp only [List.length_nil] at hl
    clear hp hn
    go_enter Tryd.func99, Tryd.ntmps99
    go_wp2_with (go_at_call 25; refine (hpx _).mono ?_; rintro e w' ⟨rfl, rfl⟩)
    all_goals go_ret3
    all_goals exact ⟨rfl, Below.refl _ _⟩
  · simp only [List.length_cons, List.length_nil] at hl
    clear hp hn
    go_enter Tryd.func99, Tryd.ntmps99
    go_wp2_with (go_at_call 25; refine (hpx _).mono ?_; rintro e w' ⟨rfl, rfl⟩)
    all_goals go_ret3
    all_goals exact ⟨rfl, Below.refl _ _⟩
  · simp only [List.length_cons] at hl
    have hb := nums_byt s
    rw [hn] at hb
    have ha := hb.tail.head
    have hbb := hb.tail.tail.head
    have h1 : 1 < s.size := by omega
    have h2 : 2 < s.size := by omega
    have e1 : ((s[1]'h1).toNat : Int) = a := by
      have := nums_drop s 1 h1
      rw [hn] at this
      simp at this
      exact this.symm
    have e2 : ((s[2]'h2).toNat : Int) = b := by
      have := nums_drop s 2 h2
      rw [hn] at this
      simp at this
      exact this.symm
    clear hp hn hb
    by_cases hpr : a = 13 ∧ b = 10
    · obtain ⟨rfl, rfl⟩ := hpr
      go_enter Tryd.func99, Tryd.ntmps99
      go_wp2_with (go_at_call 25; refine (hpx _).mono ?_; rintro e w' ⟨rfl, rfl⟩; rw [show pairQ (13 :: 10 :: t) = true from rfl])
      all_goals go_ret3
      all_goals exact ⟨by simp [escQ]; rfl, Below.refl _ _⟩
    · have HPQ : Hid (pairQ (a :: b :: t) = false) := by unfold Hid; simpa [pairQ] using hpr
      have HE : Hid (escQ (a :: b :: t) = if valQ a < 0 ∨ valQ b < 0 then ([], 0, 3) else ([16 * valQ a + valQ b], 3, 0)) := by
        unfold Hid; simp only [escQ]; rw [if_neg hpr]
      have hva := val_bd a
      have hvb := val_bd b
      have HVA : ∀ W : World, Calls Tryd.prog 101 #[.int .u8 a] W fun e w' => e = .returned (.tuple #[.int .u8 (if valQ a < 0 then 0 else valQ a), .bool (decide (0 ≤ valQ a))]) ∧ W = w' := fun W => value_any a W ha.1 ha.2
      have HVB : ∀ W : World, Calls Tryd.prog 101 #[.int .u8 b] W fun e w' => e = .returned (.tuple #[.int .u8 (if valQ b < 0 then 0 else valQ b), .bool (decide (0 ≤ valQ b))]) ∧ W = w' := fun W => value_any b W hbb.1 hbb.2
      clear hpr
      generalize valQ a = x at hva HVA HE
      generalize valQ b = y at hvb HVB HE
      have kc := conv_one
      by_cases hx : x < 0
      · rw [if_pos hx, decide_eq_false (by omega)] at HVA
        clear hvb
        generalize (if y < 0 then (0 : Int) else y) = yy at HVB
        generalize decide (0 ≤ y) = yb at HVB
        go_enter Tryd.func99, Tryd.ntmps99
        go_wp2_with fail
        refine (hpx _).mono ?_
        rintro e w' ⟨rfl, rfl⟩
        rw [HPQ.out]
        go_wp2_with fail
        refine (HVA _).mono ?_
        rintro e w' ⟨rfl, rfl⟩
        go_wp2_with fail
        refine (HVB _).mono ?_
        rintro e w' ⟨rfl, rfl⟩
        go_wp2
        all_goals go_ret3
        all_goals refine ⟨?_, Below.refl _ _⟩
        all_goals (rw [HE.out, if_pos (by omega)]; rfl)
      · rw [if_neg hx, decide_eq_true (by omega)] at HVA
        by_cases hy : y < 0
        · rw [if_pos hy, decide_eq_false (by omega)] at HVB
          go_enter Tryd.func99, Tryd.ntmps99
          go_wp2_with fail
          refine (hpx _).mono ?_
          rintro e w' ⟨rfl, rfl⟩
          rw [HPQ.out]
          go_wp2_with fail
          refine (HVA _).mono ?_
          rintro e w' ⟨rfl, rfl⟩
          go_wp2_with fail
          refine (HVB _).mono ?_
          rintro e w' ⟨rfl, rfl⟩
          go_wp2
          all_goals go_ret3
          all_goals refine ⟨?_, Below.refl _ _⟩
          all_goals (rw [HE.out, if_pos (by omega)]; rfl)
        · rw [if_neg hy, decide_eq_true (by omega)] at HVB
          go_enter Tryd.func99, Tryd.ntmps99
          go_wp2_with fail
          refine (hpx _).mono ?_
          rintro e w' ⟨rfl, rfl⟩
          rw [HPQ.out]
          go_wp2_with fail
          refine (HVA _).mono ?_
          rintro e w' ⟨rfl, rfl⟩
          go_wp2_with fail
          refine (HVB _).mono ?_
          rintro e w' ⟨rfl, rfl⟩
          go_wp2
          go_ret3
          refine ⟨?_, keep w _⟩
          rw [HE.out, if_neg (by omega), u8_or4 (x * 16) y (by omega) (by omega) (by omega) (by omega) (by omega), show x * 16 = 16 * x from by omega]
          rfl
/-- What next says of a text's front: what it says, how many bytes say it, what is wrong. -/
def Nx (l x : List Int) (t : Nat) (z : Int) : Prop :=
  (z = 0 ∧ 1 ≤ t ∧ t ≤ l.length ∧ x.length ≤ t ∧ Byt x ∧ ∀ p, decQ 0 p l = preQ (if (decide (l.head? = some 32 ∨ l.head? = some 9) && lastQ (l.drop t)) = true then [] else x) (decQ 0 (p + t) (l.drop t))) ∨
  ((z = 3 ∨ z = 10) ∧ ∀ p, decQ 0 p l = .error (p, z))
theorem nx_esc (r : List Int) (hb : Byt r) : ∃ t : Nat, (escQ r).2.1 = t ∧ Nx (61 :: r) (escQ r).1 t (escQ r).2.2 := by
  match r, hb with
  | [], _ => exact ⟨0, rfl, .inr ⟨.inl rfl, fun p => dec_form_short p [] (by simp)⟩⟩
  | [a], _ => exact ⟨0, rfl, .inr ⟨.inl rfl, fun p => dec_form_short p [a] (by simp)⟩⟩
  | a :: b :: r, hb =>
    simp only [escQ]
    split
    · rename_i h
      obtain ⟨rfl, rfl⟩ := h
      refine ⟨3, rfl, .inl ⟨rfl, by omega, by simp, by simp, by intro x hx; simp at hx, fun p => ?_⟩⟩
      rw [dec_soft]
      simp [pre_nil]
    · rename_i hp
      split
      · rename_i hv
        exact ⟨0, rfl, .inr ⟨.inl rfl, fun p => dec_form p a b r hp hv⟩⟩
      · rename_i hv
        have := val_bd a
        have := val_bd b
        refine ⟨3, rfl, .inl ⟨rfl, by omega, by simp, by simp, by intro x hx; simp at hx; omega, fun p => ?_⟩⟩
        rw [dec_esc p a b r (by omega) (by omega)]
        simp
theorem nx_pair (r : List Int) : Nx (13 :: 10 :: r) [13, 10] 2 0 := by
  refine .inl ⟨rfl, by omega, by simp, by simp, by intro x hx; simp at hx; omega, fun p => ?_⟩
  rw [dec_pair]
  simp
theorem nx_char {c : Int} (r : List Int) (h1 : 33 ≤ c) (h2 : c ≤ 126) (h3 : c ≠ 61) : Nx (c :: r) [c] 1 0 := by
  refine .inl ⟨rfl, by omega, by simp, by simp, by intro x hx; simp at hx; omega, fun p => ?_⟩
  rw [dec_char h1 h2 h3, show decide ((c :: r).head? = some 32 ∨ (c :: r).head? = some 9) = false from by simp; omega]
  simp
theorem nx_byte {c : Int} (r : List Int) (hp : pairQ (c :: r) = false) (h1 : c ≠ 61) (h2 : c ≠ 9 ∧ (c < 32 ∨ 126 < c)) : Nx (c :: r) [] 0 10 := .inr ⟨.inr rfl, fun p => dec_byte p c r hp h1 h2⟩
theorem nx_blank {c : Int} (r : List Int) (h : c = 32 ∨ c = 9) : Nx (c :: r) ((c :: r).take ((c :: r).length - (trimQ (c :: r)).length)) ((c :: r).length - (trimQ (c :: r)).length) 0 := by
  have ht : trimQ (c :: r) = trimQ r := by simp only [trimQ, if_pos h]
  have hl := trim_len r
  obtain ⟨b, hb, hx⟩ := trim_split (c :: r)
  have hbl : b.length = (c :: r).length - (trimQ (c :: r)).length := by
    have := congrArg List.length hb
    rw [List.length_append] at this
    omega
  have htk : (c :: r).take b.length = b := by
    conv => lhs; rw [hb]
    exact List.take_left
  have hdr : (c :: r).drop b.length = trimQ (c :: r) := by
    conv => lhs; rw [hb]
    exact List.drop_left
  rw [← hbl, htk]
  refine .inl ⟨rfl, by rw [hbl, ht]; simp; omega, by rw [hbl]; omega, by omega, fun x hx' => by have := hx x hx'; omega, fun p => ?_⟩
  rw [hdr]
  conv => lhs; rw [hb]
  rw [dec_run b p _ hx (fun c' t h' => trim_head _ c' t h'), show decide ((c :: r).head? = some 32 ∨ (c :: r).head? = some 9) = true from by simp; exact h, Bool.true_and]
set_option maxRecDepth 100000 in
set_option maxHeartbeats 2000000 in
theorem next_any (s : ByteArray) (c : Int) (r : List Int) (w : World) (hn : nums s = c :: r) (hs : s.size ≤ 100000000) :
    Calls Tryd.prog 96 #[.string s] w fun e w' => ∃ x t z, e = .returned (.tuple #[.string (strOfNums x), .int .i64 ((t : Nat) : Int), .int .i64 z]) ∧ Nx (c :: r) x t z ∧ Below w.heap.size w w' := by
  have hb := nums_byt s
  rw [hn] at hb
  have hc := hb.head
  have hl : s.size = r.length + 1 := by rw [← nums_len, hn]; rfl
  have h0 : 0 < s.size := by omega
  have e0 : ((s[0]'h0).toNat : Int) = c := by
    have := nums_drop s 0 h0
    rw [hn] at this
    simp at this
    exact this.symm
  have HN : Hid (nums s = c :: r) := hn
  have HBR : Hid (Byt r) := hb.tail
  have hpx : ∀ W : World, Calls Tryd.prog 25 #[.string s, .string ⟨#[13, 10]⟩] W fun e w' => e = .returned (.bool (pairQ (c :: r))) ∧ W = w' := fun W => by
    have := hasPair_any s W
    rw [hn] at this
    exact this
  clear hn hb
  by_cases h61 : c = 61
  · subst h61
    obtain ⟨t, ht, HX⟩ := nx_esc r HBR.out
    have HX' : Hid (Nx (61 :: r) (escQ r).1 t (escQ r).2.2) := HX
    clear HX
    go_enter Tryd.func96, Tryd.ntmps96
    go_wp2_with (go_at_call 99; refine (escaped_any s r _ HN.out hs).mono ?_; rintro e w' ⟨rfl, hb⟩; rw [ht])
    go_ret3
    refine ⟨_, t, _, rfl, HX'.out, by assumption⟩
  · have hb61 : (c == 61) = false := by rw [beq_eq_false_iff_ne]; exact h61
    have H61 : Hid (c ≠ 61) := h61
    clear h61
    cases hp : pairQ (c :: r) with
    | true =>
      obtain ⟨r', hr⟩ := pairQ_two hp
      rw [hp] at hpx
      have HX : Hid (Nx (c :: r) [13, 10] 2 0) := by unfold Hid; rw [hr]; exact nx_pair r'
      clear hp hr
      go_enter Tryd.func96, Tryd.ntmps96
      go_wp2_with (go_at_call 25; refine (hpx _).mono ?_; rintro e w' ⟨rfl, rfl⟩)
      go_ret3
      refine ⟨[13, 10], 2, 0, rfl, HX.out, Below.refl _ _⟩
    | false =>
      rw [hp] at hpx
      have HP : Hid (pairQ (c :: r) = false) := hp
      clear hp
      by_cases hbl : c = 32 ∨ c = 9
      · have HX := nx_blank r hbl
        have hkb : decide (c = 32 ∨ c = 9) = true := by simpa using hbl
        have htl : (trimQ (c :: r)).length ≤ s.size := by rw [hl]; exact trim_len (c :: r)
        rw [show (c :: r).length = s.size from by rw [hl]; rfl] at HX
        have htr : ∀ W : World, Calls Tryd.prog 100 #[.string s, .string ⟨#[32, 9]⟩] W fun e w' => e = .returned (.string (strOfNums (trimQ (c :: r)))) ∧ Below W.heap.size W w' := fun W => by
          have := trimLeft_any s W h0
          rw [HN.out] at this
          exact this
        have hsz := size_str (trimQ (c :: r))
        have hex : ∀ n, strOfNums ((c :: r).take n) = s.extract 0 n := fun n => by rw [← HN.out, ← nums_to, str_nums]
        generalize trimQ (c :: r) = q at HX htl htr hsz
        have HX' : Hid (Nx (c :: r) ((c :: r).take (s.size - q.length)) (s.size - q.length) 0) := HX
        have HEX : Hid (∀ n, strOfNums ((c :: r).take n) = s.extract 0 n) := hex
        clear HX hex hbl hl
        obtain ⟨m, hm⟩ : ∃ m, s.size = q.length + m := ⟨s.size - q.length, by omega⟩
        go_enter Tryd.func96, Tryd.ntmps96
        go_wp2_with fail
        refine (hpx _).mono ?_
        rintro e w' ⟨rfl, rfl⟩
        go_wp2_with fail
        refine (isBlank_any _ _).mono ?_
        rintro e w' ⟨rfl, rfl⟩
        rw [hkb]
        go_wp2_with fail
        refine (htr _).mono ?_
        rintro e w' ⟨rfl, hb⟩
        have HM : Hid (m = s.size - q.length) := by unfold Hid; omega
        go_wp2
        go_ret3
        have E1 : q.length + m - q.length = m := by omega
        have E2 : (q.length : Int) + m - q.length = m := by omega
        refine ⟨(c :: r).take m, m, 0, ?_, by rw [HM.out]; exact HX'.out, hb⟩
        rw [HEX.out]
        show Ending.returned (.tuple #[.string (s.extract 0 (q.length + m - q.length)), .int .i64 ((q.length : Int) + m - q.length), .int .i64 0]) = _
        rw [E1, E2]
      · have hkb : decide (c = 32 ∨ c = 9) = false := by simpa using hbl
        by_cases hch : 33 ≤ c ∧ c ≤ 126
        · have HX : Hid (Nx (c :: r) [c] 1 0) := nx_char r hch.1 hch.2 H61.out
          have HE1 : Hid (s.extract 0 1 = strOfNums [c]) := by apply str_ext; rw [nums_to, HN.out]; rfl
          clear hbl
          go_enter Tryd.func96, Tryd.ntmps96
          go_wp2_with (first
            | (go_at_call 25; refine (hpx _).mono ?_; rintro e w' ⟨rfl, rfl⟩)
            | (go_at_call 97; refine (isBlank_any _ _).mono ?_; rintro e w' ⟨rfl, rfl⟩; rw [hkb]))
          all_goals go_ret3
          all_goals exact ⟨[c], 1, 0, by rw [HE1.out]; rfl, HX.out, Below.refl _ _⟩
        · have HX : Hid (Nx (c :: r) [] 0 10) := nx_byte r HP.out H61.out (by omega)
          have hch' : c ≤ 32 ∨ 126 < c := by omega
          clear hbl hch
          go_enter Tryd.func96, Tryd.ntmps96
          go_wp2_with (first
            | (go_at_call 25; refine (hpx _).mono ?_; rintro e w' ⟨rfl, rfl⟩)
            | (go_at_call 97; refine (isBlank_any _ _).mono ?_; rintro e w' ⟨rfl, rfl⟩; rw [hkb]))
          all_goals go_ret3
          all_goals exact ⟨[], 0, 10, rfl, HX.out, Below.refl _ _⟩
end Go.Proofs.YtnhbmekhmkkccaaDoor.Qu
