/-
  The reference's reader of signs: what it holds; the contracts of Value, Bare and tail; the plain mathematics of One.
-/
import Derived.Test.YtnhbmekhmkkccaaDoorRp
import Derived.Test.YtnhbmekhmkkccaaDoorBRef
namespace Go.Proofs.YtnhbmekhmkkccaaDoor
open Go.RowKit
set_option linter.unusedVariables false

set_option maxHeartbeats 2000000 in
set_option maxRecDepth 100000 in
theorem rval_any (c : Int) (w : World) (h0 : 0 ≤ c) (h1 : c < 256) : Calls Tryd.prog 62 #[.int .u8 c] w fun e w' => e = .returned (.int .i64 (Bt.valZ c)) ∧ w = w' := by
  go_enter Tryd.func62, Tryd.ntmps62
  go_wp2
  go_loopw [3, 4, 5] (fun i _ _ wr => ∃ k : Nat, i = .int .i64 k ∧ k ≤ 64 ∧ (∀ j, j < k → Bt.sgn j ≠ c) ∧ w = wr) (fun i _ _ _ => 64 - (intOf i).toNat)
  case atStart => exact ⟨0, rfl, by omega, fun j hj => by omega, rfl⟩
  case round =>
    obtain ⟨k, rfl, hk, hall, rfl⟩ := hrel
    have HA : Hid (∀ j, j < k → Bt.sgn j ≠ c) := hall
    clear hall
    by_cases hlt : k < 64
    · have hsg := Bt.rsign_any (k : Int) w (by omega) (by omega)
      rw [show Bt.sgnZ (k : Int) = Bt.sgn k from by unfold Bt.sgnZ; rw [if_pos (by omega)]; rfl] at hsg
      have hl1 : decide ((k : Int) < 64) = true := decide_eq_true (by omega)
      by_cases hq : Bt.sgn k = c
      · have HV : Hid (Bt.valZ c = (k : Int)) := by
          have := (Bt.val_sgn_all ⟨k, hlt⟩).1
          unfold Hid; rw [← hq]; exact this
        rw [hq] at hsg
        generalize decide (0 ≤ (k : Int) ∧ (k : Int) < 64) = bb at hsg
        clear hq
        go_wp2_with (go_at_call 51; refine hsg.mono ?_; rintro e w' ⟨rfl, rfl⟩)
        go_ret
        exact ⟨ret_int (by rw [HV.out]), by first | trivial | rfl⟩
      · have hqb : (Bt.sgn k == c) = false := by rw [beq_eq_false_iff_ne]; exact hq
        have HA2 : Hid (∀ j, j < k + 1 → Bt.sgn j ≠ c) := fun j hj => by
          rcases Nat.lt_or_ge j k with h | h
          · exact HA.out j h
          · rw [show j = k by omega]; exact hq
        generalize decide (0 ≤ (k : Int) ∧ (k : Int) < 64) = bb at hsg
        generalize Bt.sgn k = sg at hsg hqb
        clear hq
        go_wp2_with (go_at_call 51; refine hsg.mono ?_; rintro e w' ⟨rfl, rfl⟩)
        go_roundw
        case rel => exact ⟨k + 1, by go_num, by omega, HA2.out, by first | trivial | rfl⟩
        case measure => simp [intOf]; omega
    · obtain rfl : k = 64 := by omega
      have HV : Hid (Bt.valZ c = -1) := by
        have h := Bt.val_all ⟨c.toNat, by omega⟩
        have e : ((c.toNat : Nat) : Int) = c := by omega
        simp only [e] at h
        rcases h with h | ⟨h2, h3, h4⟩
        · exact h.1
        · exact absurd h4 (HA.out _ (by omega))
      go_wp2
      go_ret
      exact ⟨ret_int (by rw [HV.out]), by first | trivial | rfl⟩
/-- A text without its pairs of 13 and 10. -/
def bareZ : Nat → List Int → List Int
  | _, [] => []
  | k + 1, _ :: r => bareZ k r
  | 0, c :: r => if c = 13 ∧ r.head? = some 10 then bareZ 1 r else c :: bareZ 0 r
theorem bare_len : ∀ (l : List Int) (k : Nat), (bareZ k l).length ≤ l.length
  | [], k => by cases k <;> simp [bareZ]
  | c :: r, k + 1 => by have := bare_len r k; rw [bareZ]; simp; omega
  | c :: r, 0 => by
    rw [bareZ]
    split
    · have := bare_len r 1; simp; omega
    · have := bare_len r 0; simp; omega
theorem bare_byt : ∀ (l : List Int) (k : Nat), Byt l → Byt (bareZ k l)
  | [], k, h => by cases k <;> (intro x hx; simp [bareZ] at hx)
  | c :: r, k + 1, h => by rw [bareZ]; exact bare_byt r k h.tail
  | c :: r, 0, h => by
    rw [bareZ]
    split
    · exact bare_byt r 1 h.tail
    · intro x hx
      rcases List.mem_cons.1 hx with rfl | hx
      · exact h.head
      · exact bare_byt r 0 h.tail x hx
/-- Two readers that hold the same, but for the places. -/
def Core (s t : Bt.Rs) : Prop := s.out = t.out ∧ s.dg = t.dg ∧ s.cnt = t.cnt ∧ s.pads = t.pads ∧ s.cl = t.cl
theorem Core.refl (s : Bt.Rs) : Core s s := ⟨rfl, rfl, rfl, rfl, rfl⟩
theorem take_core {s t : Bt.Rs} (h : Core s t) (c i j : Int) : ((∃ f, Bt.takeZ s c i = .inl f) ∧ ∃ f, Bt.takeZ t c j = .inl f) ∨ ∃ s' t', Bt.takeZ s c i = .inr s' ∧ Bt.takeZ t c j = .inr t' ∧ Core s' t' := by
  obtain ⟨h1, h2, h3, h4, h5⟩ := h
  unfold Bt.takeZ
  rw [h1, h2, h3, h4, h5]
  generalize Bt.valZ c = v
  by_cases c1 : v < 0 ∧ c ≠ 61
  · simp only [if_pos c1]; exact .inl ⟨⟨_, rfl⟩, _, rfl⟩
  simp only [if_neg c1]
  by_cases c2 : t.cl = true
  · simp only [if_pos c2]; exact .inl ⟨⟨_, rfl⟩, _, rfl⟩
  simp only [if_neg c2]
  by_cases c3 : c = 61
  · simp only [if_pos c3]
    by_cases c4 : t.cnt < 2
    · simp only [if_pos c4]; exact .inl ⟨⟨_, rfl⟩, _, rfl⟩
    simp only [if_neg c4]
    by_cases c5 : t.cnt = 2
    · simp only [if_pos c5]; exact .inr ⟨_, _, rfl, rfl, by simp [Core]⟩
    simp only [if_neg c5]
    by_cases c6 : t.pads = 0
    · simp only [if_pos c6]
      by_cases c7 : t.dg * 64 % 256 = 0
      · simp only [if_pos c7]; exact .inr ⟨_, _, rfl, rfl, Core.refl _⟩
      simp only [if_neg c7]
      exact .inl ⟨⟨_, rfl⟩, _, rfl⟩
    · simp only [if_neg c6]
      by_cases c7 : t.dg * 64 % 65536 = 0
      · simp only [if_pos c7]; exact .inr ⟨_, _, rfl, rfl, Core.refl _⟩
      simp only [if_neg c7]
      exact .inl ⟨⟨_, rfl⟩, _, rfl⟩
  · simp only [if_neg c3]
    by_cases c4 : 0 < t.pads
    · simp only [if_pos c4]; exact .inl ⟨⟨_, rfl⟩, _, rfl⟩
    simp only [if_neg c4]
    by_cases c5 : t.cnt = 0
    · simp only [if_pos c5]; exact .inr ⟨_, _, rfl, rfl, by simp [Core]⟩
    simp only [if_neg c5]
    by_cases c6 : t.cnt = 1
    · simp only [if_pos c6]; exact .inr ⟨_, _, rfl, rfl, by simp [Core]⟩
    simp only [if_neg c6]
    by_cases c7 : t.cnt = 2
    · simp only [if_pos c7]; exact .inr ⟨_, _, rfl, rfl, by simp [Core]⟩
    simp only [if_neg c7]
    exact .inr ⟨_, _, rfl, rfl, Core.refl _⟩
/-- What bytes without pairs do to a reader. -/
def foldB : List Int → Bt.Rs → Option Bt.Rs
  | [], s => some s
  | c :: r, s => match Bt.takeZ s c 0 with | .inl _ => none | .inr s' => foldB r s'
theorem byte_ten {x : Int} (h0 : 0 ≤ x) (h1 : x < 256) (n : Int) (hn0 : 0 ≤ n) (hn1 : n < 256) : (UInt8.ofNat x.toNat = UInt8.ofNat n.toNat) ↔ x = n := ⟨byte_inj h0 h1 hn0 hn1, fun h => by rw [h]⟩
theorem crlf_B (c : Int) (r : List Int) (hb : Byt (c :: r)) : Bt.crlf (Bt.B (c :: r)) = true ↔ (c = 13 ∧ r.head? = some 10) := by
  constructor
  · intro h
    obtain ⟨q, hq⟩ := Bt.crlf_two h
    cases r with
    | nil => simp [Bt.B] at hq
    | cons d r =>
      simp only [Bt.B, List.map_cons, List.cons.injEq] at hq
      obtain ⟨e1, e2, _⟩ := hq
      have h1 := (byte_ten hb.head.1 hb.head.2 13 (by omega) (by omega)).1 e1
      have h2 := (byte_ten hb.tail.head.1 hb.tail.head.2 10 (by omega) (by omega)).1 e2
      exact ⟨h1, by rw [h2]; rfl⟩
  · rintro ⟨rfl, h⟩
    cases r with
    | nil => simp at h
    | cons d r =>
      simp at h
      subst h
      rfl
theorem scan_fold : ∀ (n : Nat) (l : List Int) (i : Int) (s t : Bt.Rs), l.length ≤ n → Byt l → Core s t →
    ((∃ f, Bt.scanU i (Bt.B l) s = .inl f) ∧ foldB (bareZ 0 l) t = none) ∨ ∃ s' t', Bt.scanU i (Bt.B l) s = .inr s' ∧ foldB (bareZ 0 l) t = some t' ∧ Core s' t'
  | n, [], i, s, t, _, _, h => .inr ⟨s, t, by simp [Bt.B, Bt.scanU], rfl, h⟩
  | 0, c :: r, i, s, t, hn, _, _ => by simp at hn
  | n + 1, c :: r, i, s, t, hn, hb, h => by
    by_cases hc : c = 13 ∧ r.head? = some 10
    · obtain ⟨rfl, hr⟩ := hc
      cases r with
      | nil => simp at hr
      | cons d r =>
        simp at hr
        subst hr
        have e1 : bareZ 0 (13 :: 10 :: r) = bareZ 0 r := by rw [bareZ, if_pos ⟨rfl, rfl⟩, bareZ]
        have e2 : Bt.scanU i (Bt.B (13 :: 10 :: r)) s = Bt.scanU (i + 2) (Bt.B r) s := Bt.scan_yes i _ s
        rw [e1, e2]
        exact scan_fold n r _ s t (by simp at hn; omega) hb.tail.tail h
    · have e1 : bareZ 0 (c :: r) = c :: bareZ 0 r := by rw [bareZ, if_neg hc]
      have hcr : Bt.crlf (Bt.B (c :: r)) = false := by
        cases hh : Bt.crlf (Bt.B (c :: r)) with
        | false => rfl
        | true => exact absurd ((crlf_B c r hb).1 hh) hc
      have e2 : Bt.scanU i (Bt.B (c :: r)) s = match Bt.takeZ s c i with | .inl f => .inl f | .inr s' => Bt.scanU (i + 1) (Bt.B r) s' := by
        have := Bt.scan_no (i := i) (c := UInt8.ofNat c.toNat) (r := Bt.B r) (s := s) hcr
        rw [Bt.byte_back hb.head.1 hb.head.2] at this
        exact this
      rw [e1, e2, foldB]
      rcases take_core h c i 0 with ⟨⟨f, hf⟩, g, hg⟩ | ⟨s', t', hs', ht', hst⟩
      · rw [hf, hg]; exact .inl ⟨⟨f, rfl⟩, rfl⟩
      · rw [hs', ht']
        exact scan_fold n r _ s' t' (by simp at hn; omega) hb.tail hst
/-- What a reader that came to the end says. -/
def finR : Option Bt.Rs → Option (List Int)
  | some t => if t.cnt = 0 then some t.out else none
  | none => none
theorem decB_fold {l : List Int} (hb : Byt l) : decB l = finR (foldB (bareZ 0 l) (Bt.fresh [] false)) := by
  unfold decB
  rcases scan_fold _ l 0 (Bt.fresh [] false) (Bt.fresh [] false) (Nat.le_refl _) hb (Core.refl _) with ⟨⟨f, h1⟩, h2⟩ | ⟨s', t', h1, h2, h3⟩
  · rw [h1, h2]; rfl
  · rw [h1, h2]
    simp only [finR, h3.2.2.1, h3.1]
/-- The six digits of a sign's number. -/
def dig6 (v : Int) : List Int := [v / 32 % 2, v / 16 % 2, v / 8 % 2, v / 4 % 2, v / 2 % 2, v / 1 % 2]
/-- The digits that are left are not all noughts. -/
def tailD (d : List Int) : Bool := (d.drop (d.length / 8 * 8)).any (fun x => decide (0 < x))
def V6 (v : Int) : Prop := 0 ≤ v ∧ v < 64
/-- What the reference's reader holds behind i bytes. -/
def RelB (t : Bt.Rs) (pad : Int) (i : Nat) (d : List Int) : Prop :=
  (t.cl = false ∧ t.pads = 0 ∧ pad = -1 ∧
    ((i % 4 = 0 ∧ t.cnt = 0 ∧ t.dg = 0 ∧ d = Bt.binZ t.out) ∨
     (i % 4 = 1 ∧ t.cnt = 1 ∧ ∃ a, V6 a ∧ t.dg = a ∧ d = Bt.binZ t.out ++ dig6 a) ∨
     (i % 4 = 2 ∧ t.cnt = 2 ∧ ∃ a b, V6 a ∧ V6 b ∧ t.dg = a * 64 + b ∧ d = Bt.binZ t.out ++ (dig6 a ++ dig6 b)) ∨
     (i % 4 = 3 ∧ t.cnt = 3 ∧ ∃ a b c, V6 a ∧ V6 b ∧ V6 c ∧ t.dg = (a * 64 + b) * 64 + c ∧ d = Bt.binZ t.out ++ (dig6 a ++ (dig6 b ++ dig6 c))))) ∨
  (t.cl = false ∧ t.pads = 1 ∧ t.cnt = 3 ∧ i % 4 = 3 ∧ 1 ≤ pad ∧ pad ≤ i ∧ ∃ a b, V6 a ∧ V6 b ∧ t.dg = (a * 64 + b) * 64 ∧ d = Bt.binZ t.out ++ (dig6 a ++ dig6 b)) ∨
  (t.cl = true ∧ t.cnt = 0 ∧ i % 4 = 0 ∧ 1 ≤ pad ∧ pad ≤ i ∧ ∃ g, g.length < 8 ∧ d = Bt.binZ t.out ++ g)
theorem bin_app (l m : List Int) : Bt.binZ (l ++ m) = Bt.binZ l ++ Bt.binZ m := by simp [Bt.binZ]
theorem rel_sign {t : Bt.Rs} {i : Nat} {d : List Int} {c : Int} (h : RelB t (-1) i d) (hv0 : 0 ≤ Bt.valZ c) (hv1 : Bt.valZ c < 64) (hc : c ≠ 61) :
    ∃ t', Bt.takeZ t c 0 = .inr t' ∧ RelB t' (-1) (i + 1) (d ++ dig6 (Bt.valZ c)) := by
  rcases h with ⟨h1, h2, _, h⟩ | ⟨_, _, _, _, h, _⟩ | ⟨_, _, _, h, _⟩
  · unfold Bt.takeZ
    rw [if_neg (by omega), if_neg (by rw [h1]; simp), if_neg hc, if_neg (by omega)]
    generalize Bt.valZ c = v at hv0 hv1 ⊢
    rcases h with ⟨hi, hn, hg, hd⟩ | ⟨hi, hn, a, ha, hg, hd⟩ | ⟨hi, hn, a, b, ha, hb, hg, hd⟩ | ⟨hi, hn, a, b, e, ha, hb, he, hg, hd⟩
    · rw [if_pos hn]
      exact ⟨_, rfl, .inl ⟨rfl, rfl, rfl, .inr (.inl ⟨by omega, rfl, v, ⟨hv0, hv1⟩, by simp only [hg]; omega, by rw [hd]⟩)⟩⟩
    · rw [if_neg (by omega), if_pos hn]
      exact ⟨_, rfl, .inl ⟨rfl, rfl, rfl, .inr (.inr (.inl ⟨by omega, rfl, a, v, ha, ⟨hv0, hv1⟩, by simp only [hg], by rw [hd, List.append_assoc]⟩))⟩⟩
    · rw [if_neg (by omega), if_neg (by omega), if_pos hn]
      exact ⟨_, rfl, .inl ⟨rfl, rfl, rfl, .inr (.inr (.inr ⟨by omega, rfl, a, b, v, ha, hb, ⟨hv0, hv1⟩, by simp only [hg], by rw [hd]; simp only [List.append_assoc]⟩))⟩⟩
    · rw [if_neg (by omega), if_neg (by omega), if_neg (by omega)]
      refine ⟨_, rfl, .inl ⟨rfl, rfl, rfl, .inl ⟨by omega, rfl, rfl, ?_⟩⟩⟩
      simp only [Bt.fresh]
      rw [hd, bin_app, List.append_assoc]
      congr 1
      obtain ⟨a0, a1⟩ := ha
      obtain ⟨b0, b1⟩ := hb
      obtain ⟨e0, e1⟩ := he
      rw [hg]
      simp only [Bt.bytesD, List.take_succ_cons, List.take_zero, Bt.binZ, List.flatMap_cons, List.flatMap_nil, List.append_nil, Bt.bin1, dig6, List.cons_append, List.nil_append, List.cons.injEq, and_true]
      omega
  · omega
  · omega
theorem rel_fault_sign {t : Bt.Rs} {pad : Int} {i : Nat} {d : List Int} {c : Int} (h : RelB t pad i d) (hp : 0 ≤ pad) (hv0 : 0 ≤ Bt.valZ c) (hc : c ≠ 61) : ∃ f, Bt.takeZ t c 0 = .inl f := by
  unfold Bt.takeZ
  rw [if_neg (by omega)]
  rcases h with ⟨_, _, h, _⟩ | ⟨h1, h2, _, _, h, _⟩ | ⟨h1, _, _, h, _⟩
  · omega
  · rw [if_neg (by rw [h1]; simp), if_neg hc, if_pos (by omega)]; exact ⟨_, rfl⟩
  · rw [if_pos h1]; exact ⟨_, rfl⟩
theorem rel_fault_eq {t : Bt.Rs} {pad : Int} {i : Nat} {d : List Int} (h : RelB t pad i d) (hi : i % 4 < 2) : ∃ f, Bt.takeZ t 61 0 = .inl f := by
  unfold Bt.takeZ
  rw [if_neg (by simp)]
  rcases h with ⟨h1, h2, _, h⟩ | ⟨_, _, _, h, _⟩ | ⟨h1, _, _, h, _⟩
  · rw [if_neg (by rw [h1]; simp), if_pos rfl, if_pos (by omega)]; exact ⟨_, rfl⟩
  · omega
  · rw [if_pos h1]; exact ⟨_, rfl⟩
theorem rel_eq2 {t : Bt.Rs} {pad : Int} {i : Nat} {d : List Int} (h : RelB t pad i d) (hi : i % 4 = 2) : pad = -1 ∧ ∃ t', Bt.takeZ t 61 0 = .inr t' ∧ RelB t' i (i + 1) d := by
  rcases h with ⟨h1, h2, h3, h⟩ | ⟨_, _, _, h, _⟩ | ⟨_, _, h, _⟩
  · refine ⟨h3, ?_⟩
    unfold Bt.takeZ
    rw [if_neg (by simp), if_neg (by rw [h1]; simp), if_pos rfl]
    rcases h with ⟨hi, _⟩ | ⟨hi, _⟩ | ⟨_, hn, a, b, ha, hb, hg, hd⟩ | ⟨hi, _⟩
    · omega
    · omega
    · rw [if_neg (by omega), if_pos hn]
      exact ⟨_, rfl, .inr (.inl ⟨rfl, rfl, rfl, by omega, by omega, by omega, a, b, ha, hb, by simp only [hg], hd⟩)⟩
    · omega
  · omega
  · omega
theorem bin_tail (l g : List Int) (n : Nat) (hn : g.length / 8 * 8 = n) : tailD (Bt.binZ l ++ g) = (g.drop n).any (fun x => decide (0 < x)) := by
  unfold tailD
  rw [List.length_append, Bt.bin_len, show (8 * l.length + g.length) / 8 * 8 = 8 * l.length + n by omega, List.drop_append, Bt.bin_len, show 8 * l.length + n - 8 * l.length = n by omega, List.drop_of_length_le (by rw [Bt.bin_len]; omega), List.nil_append]
/-- The last = of a group. -/
theorem rel_eq3 {t : Bt.Rs} {pad : Int} {i : Nat} {d : List Int} (h : RelB t pad i d) (hi : i % 4 = 3) :
    (tailD d = true ∧ ∃ f, Bt.takeZ t 61 0 = .inl f) ∨ (tailD d = false ∧ ∃ t', Bt.takeZ t 61 0 = .inr t' ∧ RelB t' (if pad < 0 then (i : Int) else pad) (i + 1) d) := by
  rcases h with ⟨h1, h2, h3, h⟩ | ⟨h1, h2, hn, _, hp, hp2, a, b, ha, hb, hg, hd⟩ | ⟨_, _, h, _⟩
  · rcases h with ⟨hi, _⟩ | ⟨hi, _⟩ | ⟨hi, _⟩ | ⟨_, hn, a, b, c, ha, hb, hc, hg, hd⟩
    · omega
    · omega
    · omega
    · have ht : tailD d = (decide (0 < c / 2 % 2) || decide (0 < c / 1 % 2)) := by
        rw [hd, bin_tail _ _ 16 (by simp [dig6])]; simp [dig6]
      unfold Bt.takeZ
      rw [if_neg (by simp), if_neg (by rw [h1]; simp), if_pos rfl, if_neg (by omega), if_neg (by omega), if_pos h2]
      obtain ⟨a0, a1⟩ := ha
      obtain ⟨b0, b1⟩ := hb
      obtain ⟨c0, c1⟩ := hc
      by_cases hz : t.dg * 64 % 256 = 0
      · refine .inr ⟨?_, ?_⟩
        · rw [ht]; simp only [Bool.or_eq_false_iff, decide_eq_false_iff_not]; rw [hg] at hz; omega
        · rw [if_pos hz]
          refine ⟨_, rfl, .inr (.inr ⟨rfl, rfl, by omega, by rw [h3]; simp; omega, by rw [h3]; simp; omega, [c / 2 % 2, c / 1 % 2], by simp, ?_⟩)⟩
          simp only [Bt.fresh]
          rw [hd, bin_app, List.append_assoc]
          congr 1
          rw [hg]
          simp only [Bt.bytesD, List.take_succ_cons, List.take_zero, Bt.binZ, List.flatMap_cons, List.flatMap_nil, List.append_nil, Bt.bin1, dig6, List.cons_append, List.nil_append, List.cons.injEq, and_true]
          omega
      · refine .inl ⟨?_, ?_⟩
        · rw [ht]; simp only [Bool.or_eq_true, decide_eq_true_eq]; rw [hg] at hz; omega
        · rw [if_neg hz]; exact ⟨_, rfl⟩
  · have ht : tailD d = (decide (0 < b / 8 % 2) || (decide (0 < b / 4 % 2) || (decide (0 < b / 2 % 2) || decide (0 < b / 1 % 2)))) := by
      rw [hd, bin_tail _ _ 8 (by simp [dig6])]; simp [dig6]
    unfold Bt.takeZ
    rw [if_neg (by simp), if_neg (by rw [h1]; simp), if_pos rfl, if_neg (by omega), if_neg (by omega), if_neg (by omega)]
    obtain ⟨a0, a1⟩ := ha
    obtain ⟨b0, b1⟩ := hb
    by_cases hz : t.dg * 64 % 65536 = 0
    · refine .inr ⟨?_, ?_⟩
      · rw [ht]; simp only [Bool.or_eq_false_iff, decide_eq_false_iff_not]; rw [hg] at hz; omega
      · rw [if_pos hz, if_neg (by omega)]
        refine ⟨_, rfl, .inr (.inr ⟨rfl, rfl, by omega, hp, by omega, [b / 8 % 2, b / 4 % 2, b / 2 % 2, b / 1 % 2], by simp, ?_⟩)⟩
        simp only [Bt.fresh]
        rw [hd, bin_app, List.append_assoc]
        congr 1
        rw [hg]
        simp only [Bt.bytesD, List.take_succ_cons, List.take_zero, Bt.binZ, List.flatMap_cons, List.flatMap_nil, List.append_nil, Bt.bin1, dig6, List.cons_append, List.nil_append, List.cons.injEq, and_true]
        omega
    · refine .inl ⟨?_, ?_⟩
      · rw [ht]; simp only [Bool.or_eq_true, decide_eq_true_eq]; rw [hg] at hz; omega
      · rw [if_neg hz]; exact ⟨_, rfl⟩
  · omega
end Go.Proofs.YtnhbmekhmkkccaaDoor
namespace Go.Proofs.YtnhbmekhmkkccaaDoor
open Go.RowKit
set_option linter.unusedVariables false

theorem own_other {w w' : World} {B B' e1 e2 : Nat} {v1 v2 : Value} {n1 n2 : Nat} {xs1 xs2 : List Value} (h : w.ownsRow B e2 1 v2 n2 xs2) (hne : e1 ≠ e2) (h1 : w.ownsRow B' e1 1 v1 n1 xs1) (hg : w.grownBy w' v1.ownBlock) : w'.ownsRow B e2 1 v2 n2 xs2 := by
  refine ⟨h.1, ?_⟩
  rcases h.2 with h2 | ⟨g, cap, cur, a1, a2, a3, a4⟩
  · exact .inl h2
  · refine .inr ⟨g, cap, cur, a1, a2, ?_, a4⟩
    rw [hg.block g (Array.getElem?_eq_some_iff.1 a3).1 ?_]
    · exact a3
    · intro e
      rcases h1.2 with ⟨q, _⟩ | ⟨g', cp, cur', q, _, hg', _⟩
      · rw [q] at e; cases e
      · rw [q] at e
        obtain rfl : g = g' := by simpa [Value.ownBlock] using e
        rw [hg'] at a3
        simp at a3
        exact hne a3.2
theorem own_snocI {w : World} {B : Nat} {v : Value} {l : List Int} {c : Int} (h : w.ownsRow B 3 1 v (l.length + 1) (l.map (Value.int .i64) ++ [c].map (Value.int .i64))) : w.ownsRow B 3 1 v (l ++ [c]).length ((l ++ [c]).map (Value.int .i64)) := by
  rw [List.length_append, List.map_append]; exact h
theorem ints_oneI (l : List Int) : ∀ u ∈ l.map (Value.int .i64), u.oneCell' = true := by
  intro u hu; simp at hu; obtain ⟨a, _, rfl⟩ := hu; rfl
theorem own_snoc2 {w : World} {B : Nat} {v : Value} {l : List Int} {c : Int} (h : w.ownsRow B 5 1 v (l.length + 1) (l.map (Value.int .u8) ++ [c].map (Value.int .u8))) : w.ownsRow B 5 1 v (l ++ [c]).length ((l ++ [c]).map (Value.int .u8)) := by
  rw [List.length_append, List.map_append]; exact h
/-- What Bare answers. -/
def BPost (w : World) (l : List Int) (e : Ending) (w' : World) : Prop :=
  ∃ v1 v2 ats, e = .returned (.tuple #[v1, v2]) ∧ w'.ownsRow w.heap.size 5 1 v1 (bareZ 0 l).length ((bareZ 0 l).map (Value.int .u8)) ∧ w'.ownsRow w.heap.size 3 1 v2 (ats : List Int).length (ats.map (Value.int .i64)) ∧ ats.length = (bareZ 0 l).length ∧ Below w.heap.size w w'
set_option maxHeartbeats 4000000 in
set_option maxRecDepth 100000 in
theorem rbare_any (s : ByteArray) (w : World) (hs : s.size ≤ 10000) : Calls Tryd.prog 61 #[.string s] w (BPost w (nums s)) := by
  obtain ⟨j0, hi, hz0, hz1, hz2⟩ := info_parts Tryd.info5
  obtain ⟨j1, ki, kz0, kz1, kz2⟩ := info_parts Bt.Tryd.info3'
  go_enter Tryd.func61, Tryd.ntmps61
  go_wp2
  go_loopw [4, 5, 6] (fun v u i wr => ∃ (k : Nat) (pre ats : List Int), i = .int .i64 k ∧ k ≤ s.size ∧ pre.length ≤ k ∧ ats.length = pre.length ∧ pre ++ bareZ 0 ((nums s).drop k) = bareZ 0 (nums s) ∧ wr.ownsRow w.heap.size 5 1 v pre.length (pre.map (Value.int .u8)) ∧ wr.ownsRow w.heap.size 3 1 u ats.length (ats.map (Value.int .i64)) ∧ Below w.heap.size w wr) (fun _ _ i _ => s.size - (intOf i).toNat)
  case atStart => exact ⟨0, [], [], rfl, by omega, by simp, rfl, by simp, World.ownsRow_nil _ _ _ _, World.ownsRow_nil _ _ _ _, Below.refl _ _⟩
  case round =>
    obtain ⟨k, pre, ats, rfl, hk, hpl, hal, hpre, hown, hown2, hb⟩ := hrel
    have HP : Hid (pre ++ bareZ 0 ((nums s).drop k) = bareZ 0 (nums s)) := hpre
    have HO : Hid (wr.ownsRow w.heap.size 5 1 u4 pre.length (pre.map (Value.int .u8))) := hown
    have HO2 : Hid (wr.ownsRow w.heap.size 3 1 u5 ats.length (ats.map (Value.int .i64))) := hown2
    have HB : Hid (Below w.heap.size w wr) := hb
    have HAL : Hid (ats.length = pre.length) := hal
    have hal2 : ats.length ≤ 10000 := by omega
    have hsz := hb.size
    clear hpre hown hown2 hb hal
    by_cases hlt : k < s.size
    · have hl1 : decide ((k : Int) < (s.size : Int)) = true := decide_eq_true (by omega)
      have HD : Hid ((nums s).drop k = (s[k].toNat : Int) :: (nums s).drop (k + 1)) := nums_drop s k hlt
      have i0 : (0 : Int) ≤ (k : Int) + 1 := by omega
      have i1 : ((k : Int) + 1).toNat = k + 1 := by omega
      obtain ⟨c, hcc⟩ : ∃ c : Int, ((s[k]'hlt).toNat : Int) = c := ⟨_, rfl⟩
      rw [hcc] at HD
      by_cases hp : c = 13 ∧ ((nums s).drop (k + 1)).head? = some 10
      · obtain ⟨rfl, hh⟩ := hp
        have hk1 : k + 1 < s.size := by
          rcases Nat.lt_or_ge (k + 1) s.size with h | h
          · exact h
          · rw [List.drop_of_length_le (by rw [nums_len]; exact h)] at hh; cases hh
        have hd1 := nums_drop s (k + 1) hk1
        rw [hd1] at hh
        simp only [List.head?_cons, Option.some.injEq] at hh
        have HP2 : Hid (pre ++ bareZ 0 ((nums s).drop (k + 2)) = bareZ 0 (nums s)) := by
          unfold Hid; rw [← HP.out, HD.out, bareZ, if_pos ⟨rfl, by rw [hd1, hh]; rfl⟩, hd1, bareZ]
        have i2 : (k : Int) + 1 < (s.size : Int) := by omega
        have hl2 : decide ((k : Int) + 1 < (s.size : Int)) = true := decide_eq_true (by omega)
        clear hd1
        go_wp2
        all_goals exact ⟨⟨k + 2, pre, ats, by first | go_num | rfl, by omega, by omega, HAL.out, HP2.out, HO.out, HO2.out, HB.out⟩, by simp [intOf]; omega⟩
      · have HP2 : Hid ((pre ++ [c]) ++ bareZ 0 ((nums s).drop (k + 1)) = bareZ 0 (nums s)) := by
          unfold Hid; rw [← HP.out, HD.out, bareZ, if_neg hp]; simp
        have hcase : ((c == 13) = false) ∨ ((c == 13) = true ∧ ((decide ((k : Int) + 1 < (s.size : Int)) = false) ∨ ∃ h : k + 1 < s.size, decide ((k : Int) + 1 < (s.size : Int)) = true ∧ (((s[k + 1]'h).toNat : Int) == 10) = false)) := by
          by_cases h13 : c = 13
          · refine .inr ⟨by rw [h13]; rfl, ?_⟩
            by_cases hk1 : k + 1 < s.size
            · refine .inr ⟨hk1, decide_eq_true (by omega), ?_⟩
              rw [beq_eq_false_iff_ne]
              intro e
              apply hp
              refine ⟨h13, ?_⟩
              rw [nums_drop s (k + 1) hk1, e]; rfl
            · exact .inl (decide_eq_false (by omega))
          · exact .inl (by rw [beq_eq_false_iff_ne]; exact h13)
        have i2 : k + 1 < s.size → (k : Int) + 1 < (s.size : Int) := fun h => by omega
        clear hp
        rcases hcase with h1 | ⟨h1, h2 | ⟨hk1, h2, h3⟩⟩
        all_goals (
          try (have i3 := i2 hk1; obtain ⟨d, hdd⟩ : ∃ d : Int, ((s[k + 1]'hk1).toNat : Int) = d := ⟨_, rfl⟩; rw [hdd] at h3)
          clear i2
          go_wp2_with (first
            | (at_builtin; refine wpList_append_own _ rfl (.tmp 33) (.tmp 37) 31 rfl w.heap.size 5 j0 (.int .u8 0) 1 1 Tryd.underlying31 hi hz0 hz1 hz2 rfl (by decide) _ _ _ rfl (HO.out.alloc _) ⟨wr.heap.size, 0, none⟩ 1 1 (([c] : List Int).map (Value.int .u8)) rfl rfl (cells_new _ _ _) (ints_one _) (by unfold maxLen; omega) (by omega) (by simp; omega) ?_; intro v4 w4 hown4 hgrow4 _; have HB4 : Hid (Below w.heap.size w w4) := (HB.out.alloc hsz _).grown hgrow4 (by simp; omega) (fun k hk => (HO.out.lt k hk).1); have HO4 : Hid (w4.ownsRow w.heap.size 5 1 v4 (pre ++ [c]).length ((pre ++ [c]).map (Value.int .u8))) := own_snoc2 hown4; have HO5 : Hid (w4.ownsRow w.heap.size 3 1 u5 ats.length (ats.map (Value.int .i64))) := own_other (HO2.out.alloc _) (by decide) (HO.out.alloc _) hgrow4; have hs4 := HB4.out.size; clear hown4 hgrow4)
            | (at_builtin; refine wpList_append_own _ rfl (.tmp 39) (.tmp 41) 73 rfl w.heap.size 3 j1 (.int .i64 0) 1 8 Tryd.underlying73 ki kz0 kz1 kz2 rfl (by decide) _ _ _ rfl (HO5.out.alloc _) ⟨w4.heap.size, 0, none⟩ 1 1 (([(k : Int)] : List Int).map (Value.int .i64)) rfl rfl (cells_new _ _ _) (ints_oneI _) (by unfold maxLen; omega) (by omega) (by simp; omega) ?_; intro v6 w6 hown6 hgrow6 _; have HB6 : Hid (Below w.heap.size w w6) := (HB4.out.alloc hs4 _).grown hgrow6 (by simp; omega) (fun k hk => (HO5.out.lt k hk).1); have HO6 : Hid (w6.ownsRow w.heap.size 3 1 v6 (ats ++ [(k : Int)]).length ((ats ++ [(k : Int)]).map (Value.int .i64))) := own_snocI hown6; have HO7 : Hid (w6.ownsRow w.heap.size 5 1 v4 (pre ++ [c]).length ((pre ++ [c]).map (Value.int .u8))) := own_other (HO4.out.alloc _) (by decide) (HO5.out.alloc _) hgrow6; clear hown6 hgrow6))
          all_goals exact ⟨⟨k + 1, pre ++ [c], ats ++ [(k : Int)], by first | go_num | rfl, by omega, by simp; omega, by have := HAL.out; simp [this], HP2.out, HO7.out, HO6.out, HB6.out⟩, by simp [intOf]; omega⟩)
    · obtain rfl : k = s.size := by omega
      have hl1 : decide ((s.size : Int) < (s.size : Int)) = false := by simp
      have HE : Hid (pre = bareZ 0 (nums s)) := by
        have := HP.out
        rw [List.drop_of_length_le (by rw [nums_len]; exact Nat.le_refl _), bareZ, List.append_nil] at this
        exact this
      go_wp2
      go_ret2
      refine ⟨u4, u5, ats, rfl, ?_, HO2.out, by rw [← HE.out]; exact HAL.out, HB.out⟩
      rw [← HE.out]; exact HO.out
set_option maxHeartbeats 2000000 in
set_option maxRecDepth 100000 in
theorem rtail_any (a : Option Addr) (cap : Nat) (d : List Int) (w : World) (hl : d.length ≤ 100000) (hcap : d.length ≤ cap) (hrow : RowK .i64 w a d) :
    Calls Tryd.prog 63 #[.slice a d.length cap] w fun e w' => e = .returned (.bool (tailD d)) ∧ w = w' := by
  obtain ⟨len, hlen⟩ : ∃ len, d.length = len := ⟨_, rfl⟩
  have HR : Hid (RowK .i64 w a d) := hrow
  have HL : Hid (d.length = len) := hlen
  rw [hlen] at hl hcap ⊢
  have hdiv : (len : Int) / 8 * 8 = ((len / 8 * 8 : Nat) : Int) := by omega
  obtain ⟨n0, hn0⟩ : ∃ n0, len / 8 * 8 = n0 := ⟨_, rfl⟩
  have HN0 : Hid (tailD d = (d.drop n0).any (fun x => decide (0 < x))) := by unfold Hid tailD; rw [hlen, hn0]
  rw [hn0] at hdiv
  have hn1 : n0 ≤ len := by omega
  clear hrow hlen hn0
  go_enter Tryd.func63, Tryd.ntmps63
  go_wp2
  go_loopw [3] (fun i wr => ∃ k : Nat, i = .int .i64 k ∧ n0 ≤ k ∧ k ≤ len ∧ tailD d = (d.drop k).any (fun x => decide (0 < x)) ∧ w = wr) (fun i _ => len - (intOf i).toNat)
  case atStart => exact ⟨n0, by first | rw [hdiv] | rfl, Nat.le_refl _, hn1, HN0.out, rfl⟩
  case round =>
    obtain ⟨k, rfl, hk0, hk, ht, rfl⟩ := hrel
    have HT : Hid (tailD d = (d.drop k).any (fun x => decide (0 < x))) := ht
    clear ht
    by_cases hlt : k < len
    · have hl1 : decide ((k : Int) < (len : Int)) = true := decide_eq_true (by omega)
      obtain ⟨x, hx⟩ : ∃ x, d[k]? = some x := ⟨_, List.getElem?_eq_getElem (by rw [HL.out]; exact hlt)⟩
      have hdr : d.drop k = x :: d.drop (k + 1) := by
        obtain ⟨hk', e⟩ := List.getElem?_eq_some_iff.1 hx
        rw [List.drop_eq_getElem_cons hk', e]
      obtain ⟨b, off, rfl, hcell⟩ : ∃ b off, a = some ⟨b, off, none⟩ ∧ w.cell? ⟨b, off + k, none⟩ = some (.int .i64 x) := by
        rcases HR.out with h | ⟨b, off, e, h⟩
        · rw [h] at hx; simp at hx
        · have := h k (by rw [HL.out]; exact hlt)
          rw [List.getD_eq_getElem?_getD, hx] at this
          exact ⟨b, off, e, this⟩
      have k0 : (0 : Int) ≤ (k : Int) := by omega
      have k1 : (k : Int) < (len : Int) := by omega
      by_cases hx0 : 0 < x
      · have HV : Hid (tailD d = true) := by unfold Hid; rw [HT.out, hdr, List.any_cons, decide_eq_true hx0, Bool.true_or]
        have hd : decide (x > 0) = true := decide_eq_true hx0
        clear hdr hx
        go_wp2
        go_ret
        exact ⟨ret_bool HV.out.symm, by first | trivial | rfl⟩
      · have HV : Hid (tailD d = (d.drop (k + 1)).any (fun x => decide (0 < x))) := by unfold Hid; rw [HT.out, hdr, List.any_cons, decide_eq_false hx0, Bool.false_or]
        have hd : decide (x > 0) = false := decide_eq_false hx0
        clear hdr hx
        go_wp2
        go_roundw
        case rel => exact ⟨k + 1, by go_num, by omega, by omega, HV.out, by first | trivial | rfl⟩
        case measure => simp [intOf]; omega
    · obtain rfl : k = len := by omega
      have hl1 : decide ((k : Int) < (k : Int)) = false := by simp
      have HV : Hid (tailD d = false) := by unfold Hid; rw [HT.out, List.drop_of_length_le (by rw [HL.out]; exact Nat.le_refl _)]; rfl
      go_wp2
      go_ret
      exact ⟨ret_bool HV.out.symm, by first | trivial | rfl⟩
end Go.Proofs.YtnhbmekhmkkccaaDoor
namespace Go.Proofs.YtnhbmekhmkkccaaDoor
open Go.RowKit
set_option linter.unusedVariables false

theorem pieces_mid {c : Int} : ∀ (a b : List Int), pieces c (a ++ c :: b) = pieces c a ++ pieces c b
  | [], b => by simp [pieces]
  | d :: a, b => by
    have ih := pieces_mid (c := c) a b
    have e1 : pieces c (d :: a ++ c :: b) = if d = c then [] :: pieces c (a ++ c :: b) else ((d :: (pieces c (a ++ c :: b)).headD []) :: (pieces c (a ++ c :: b)).tail) := rfl
    have e2 : pieces c (d :: a) = if d = c then [] :: pieces c a else ((d :: (pieces c a).headD []) :: (pieces c a).tail) := rfl
    rw [e1, e2, ih]
    split
    · rfl
    · have hne := pieces_ne c a
      obtain ⟨p, ps, hps⟩ : ∃ p ps, pieces c a = p :: ps := by cases h : pieces c a with | nil => exact absurd h hne | cons p ps => exact ⟨p, ps, rfl⟩
      rw [hps]; rfl
/-- Texts with a sign between any two. -/
def joinB (c : Int) : List (List Int) → List Int
  | [] => []
  | [p] => p
  | p :: q :: r => p ++ c :: joinB c (q :: r)
theorem joinB_flat (c : Int) : ∀ (p : List Int) (ps : List (List Int)), joinB c (p :: ps) = p ++ ps.flatMap (fun q => c :: q)
  | p, [] => by simp [joinB]
  | p, q :: r => by rw [joinB, joinB_flat c q r]; simp
theorem joinB_pieces (c : Int) : ∀ l : List Int, joinB c (pieces c l) = l
  | [] => rfl
  | d :: r => by
    have ih := joinB_pieces c r
    have hne := pieces_ne c r
    unfold pieces
    obtain ⟨p, ps, hps⟩ : ∃ p ps, pieces c r = p :: ps := by cases h : pieces c r with | nil => exact absurd h hne | cons p ps => exact ⟨p, ps, rfl⟩
    split
    · rename_i h; rw [hps] at ih ⊢; rw [joinB, ih, h]; rfl
    · rw [hps] at ih ⊢
      rw [joinB_flat] at ih ⊢
      simp only [List.headD_cons, List.tail_cons, List.cons_append, ih]
/-- What a word is made of. -/
theorem one_shape {l x : List Int} (h : oneR l = some x) : ∃ set way txt, pieces 63 l = [[61], set, way, txt, [61]] ∧ saidR set way txt = some x := by
  unfold oneR at h
  split at h
  · cases h
  · split at h
    · rename_i i hi
      have hl : l = [61, 63] ++ i ++ [63, 61] := by
        unfold innerR at hi
        split at hi
        · rename_i hh
          obtain ⟨h1, h2, h3⟩ := hh
          simp only [Option.some.injEq] at hi
          have e1 : l = l.take 2 ++ l.drop 2 := (List.take_append_drop 2 l).symm
          have e2 : l.drop 2 = (l.drop 2).take (l.length - 4) ++ (l.drop 2).drop (l.length - 4) := (List.take_append_drop _ _).symm
          have e3 : (l.drop 2).drop (l.length - 4) = [63, 61] := by rw [List.drop_drop, show 2 + (l.length - 4) = l.length - 2 by omega]; exact h3
          rw [e3, hi] at e2
          conv => lhs; rw [e1, h1, e2]
          simp
        · cases hi
      have hp : pieces 63 l = [61] :: (pieces 63 i ++ [[61]]) := by
        rw [hl, show ([61, 63] ++ i ++ [63, 61] : List Int) = [61] ++ 63 :: (i ++ 63 :: [61]) by simp, pieces_app _ (by decide), pieces_mid, pieces_none (l := [61]) (by decide)]
      unfold partsR at h
      split at h
      · rename_i set way txt hpp
        exact ⟨set, way, txt, by rw [hp, hpp]; rfl, h⟩
      · cases h
    · cases h
theorem one_parts {l set way txt : List Int} (h75 : ¬ 75 < l.length) (h : pieces 63 l = [[61], set, way, txt, [61]]) : oneR l = saidR set way txt := by
  have hj := joinB_pieces 63 l
  rw [h] at hj
  have hi : l = [61, 63] ++ joinB 63 [set, way, txt] ++ [63, 61] := by
    rw [← hj]; simp [joinB]
  have hp : pieces 63 (joinB 63 [set, way, txt]) = [set, way, txt] := by
    have e := h
    rw [hi, show ([61, 63] ++ joinB 63 [set, way, txt] ++ [63, 61] : List Int) = [61] ++ 63 :: (joinB 63 [set, way, txt] ++ 63 :: [61]) by simp, pieces_app _ (by decide), pieces_mid, pieces_none (l := [61]) (by decide)] at e
    simp only [List.cons.injEq, true_and] at e
    have e2 : pieces 63 (joinB 63 [set, way, txt]) ++ [[61]] = [set, way, txt] ++ [[61]] := e
    exact List.append_cancel_right e2
  unfold oneR
  rw [if_neg h75]
  have hin : innerR l = some (joinB 63 [set, way, txt]) := by
    conv => lhs; rw [hi]
    exact inner_some _
  rw [hin]
  simp only
  rw [hp]; rfl
theorem mark_blank : ∀ (l : List Int) (k : Nat) (x : List Int), markR k l = some x → (32 : Int) ∉ l.drop k
  | [], k, x, h => by simp
  | c :: r, k + 1, x, h => by
    rw [markR] at h
    rw [List.drop_succ_cons]
    exact mark_blank r k x h
  | c :: r, 0, x, h => by
    rw [markR] at h
    rw [List.drop_zero]
    split at h
    · cases h
    · rename_i hc
      have hc32 : (32 : Int) ≠ c := by omega
      split at h
      · obtain ⟨y, hy, _⟩ := Option.map_eq_some_iff.1 h
        have := mark_blank r 0 y hy
        rw [List.drop_zero] at this
        simp [hc32, this]
      · split at h
        · split at h
          · rename_i v hv
            obtain ⟨y, hy, _⟩ := Option.map_eq_some_iff.1 h
            have h2 := mark_blank r 2 y hy
            match r, hv, h2 with
            | a :: b :: t, hv, h2 =>
              simp only [escU] at hv
              split at hv
              · rename_i hh
                have ha : (32 : Int) ≠ a := by rintro rfl; have := hh.1; simp [hexU] at this
                have hb : (32 : Int) ≠ b := by rintro rfl; have := hh.2; simp [hexU] at this
                simp only [List.drop_succ_cons, List.drop_zero] at h2
                simp [hc32, ha, hb, h2]
              · cases hv
          · cases h
        · obtain ⟨y, hy, _⟩ := Option.map_eq_some_iff.1 h
          have := mark_blank r 0 y hy
          rw [List.drop_zero] at this
          simp [hc32, this]
theorem bare_mem : ∀ (l : List Int) (k : Nat), k ≤ 1 → (k = 1 → l.head? = some 10) → (32 : Int) ∈ l → (32 : Int) ∈ bareZ k l
  | [], k, _, _, h => by simp at h
  | c :: r, 0, _, _, h => by
    rw [bareZ]
    split
    · rename_i hh
      refine bare_mem r 1 (by omega) (fun _ => hh.2) ?_
      rcases List.mem_cons.1 h with e | h
      · omega
      · exact h
    · rcases List.mem_cons.1 h with e | h
      · rw [e]; simp
      · exact List.mem_cons_of_mem _ (bare_mem r 0 (by omega) (by omega) h)
  | c :: r, 1, _, hh, h => by
    rw [bareZ]
    have hc : c = 10 := by simpa using hh rfl
    refine bare_mem r 0 (by omega) (by omega) ?_
    rcases List.mem_cons.1 h with e | h
    · omega
    · exact h
  | c :: r, k + 2, hk, _, _ => by omega
theorem val_32 : Bt.valZ 32 = -1 := by decide +kernel
theorem fold_blank : ∀ (b : List Int) (t : Bt.Rs), (32 : Int) ∈ b → foldB b t = none
  | [], t, h => by simp at h
  | c :: r, t, h => by
    rw [foldB]
    by_cases hc : c = 32
    · subst hc
      have : Bt.takeZ t 32 0 = .inl (0, 10) := by unfold Bt.takeZ; rw [if_pos ⟨by rw [val_32]; omega, by omega⟩]
      rw [this]
    · have hm : (32 : Int) ∈ r := by
        rcases List.mem_cons.1 h with e | h
        · exact absurd e.symm hc
        · exact h
      cases hz : Bt.takeZ t c 0 with
      | inl f => rfl
      | inr t' => exact fold_blank r t' hm
theorem dec_blank {l : List Int} (hb : Byt l) (h : (32 : Int) ∈ l) : decB l = none := by
  rw [decB_fold hb, fold_blank _ _ (bare_mem l 0 (by omega) (by omega) h)]; rfl
theorem small_32 {l : List Int} (h : (32 : Int) ∈ l) : (32 : Int) ∈ l.map smallZ := List.mem_map.2 ⟨32, h, by decide⟩
theorem one_blank {l : List Int} (hb : Byt l) (h : (32 : Int) ∈ l) : oneR l = none := by
  cases ho : oneR l with
  | none => rfl
  | some x =>
    obtain ⟨set, way, txt, hp, hs⟩ := one_shape ho
    have hj := joinB_pieces 63 l
    rw [hp] at hj
    simp only [joinB] at hj
    unfold saidR at hs
    split at hs
    · rename_i said hc
      split at hs
      · rename_i hset
        rw [← hj] at h
        simp only [List.mem_append, List.mem_cons, List.not_mem_nil, or_false] at h
        have hset2 : (32 : Int) ∉ set := by
          intro hm
          have := small_32 hm
          unfold setR at hset
          split at hset
          · rename_i e; rw [e] at this; revert this; decide
          · split at hset
            · rename_i e; rw [e] at this; revert this; decide
            · cases hset
        have htb : Byt txt := fun y hy => hb y (by rw [← hj]; simp [hy])
        unfold contR at hc
        split at hc
        · rename_i hw
          have hw2 : (32 : Int) ∉ way := by rcases hw with rfl | rfl <;> decide
          have ht2 : (32 : Int) ∉ txt := fun hm => by rw [dec_blank htb hm] at hc; cases hc
          simp [hset2, hw2, ht2] at h
        · split at hc
          · rename_i hw
            have hw2 : (32 : Int) ∉ way := by rcases hw with rfl | rfl <;> decide
            have ht2 : (32 : Int) ∉ txt := by have := mark_blank txt 0 said hc; rwa [List.drop_zero] at this
            simp [hset2, hw2, ht2] at h
          · cases hc
      · cases hs
    · cases hs
theorem valid_ascii {l : List Int} (hb : Byt l) (h : l.all (fun c => decide (c < 128)) = true) : validZ l = true := by
  have hl : Ut.flat l = l := by
    clear hb
    induction l with
    | nil => rfl
    | cons c r ih =>
      simp only [List.all_cons, Bool.and_eq_true, decide_eq_true_eq] at h
      rw [Ut.flat_cons, Ut.enc1 h.1, ih h.2]; rfl
  have hp : Ut.AllPt l := fun p hp => by
    have h1 := hb p hp
    have h2 := List.all_eq_true.1 h p hp
    simp only [decide_eq_true_eq] at h2
    rw [Ut.ptB_iff]; omega
  have := valid_pts hp
  rwa [hl] at this
end Go.Proofs.YtnhbmekhmkkccaaDoor
