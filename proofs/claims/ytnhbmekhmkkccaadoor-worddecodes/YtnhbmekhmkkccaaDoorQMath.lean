/-
  Bytes as lines, and lines as bytes, over lists of numbers.
-/
import Derived.Test.YtnhbmekhmkkccaaDoorBase
namespace Go.Proofs.YtnhbmekhmkkccaaDoor.Qu
set_option linter.unusedVariables false

/-- A pair stands at the front. -/
def pairQ : List Int → Bool
  | a :: b :: _ => decide (a = 13) && decide (b = 10)
  | _ => false
/-- A pair, or the end. -/
def lastQ (l : List Int) : Bool := l.isEmpty || pairQ l
def hexQ (n : Int) : Int := if n < 10 then 48 + n else 55 + n
def digQ (c : Int) : List Int := [hexQ (c / 16), hexQ (c % 16)]
/-- A byte that is its own sign. -/
def selfQ (c : Int) (last : Bool) : Bool := (decide (33 ≤ c) && decide (c ≤ 126) && !decide (c = 61)) || ((decide (c = 32) || decide (c = 9)) && !last)
def signQ (c : Int) (last : Bool) : List Int := if selfQ c last = true then [c] else 61 :: digQ c
/-- Bytes as lines, from a line's place on. -/
def encQ (text : Bool) : Int → List Int → List Int
  | _, [] => []
  | ln, [c] => if 75 < ln + (signQ c true).length then 61 :: 13 :: 10 :: signQ c true else signQ c true
  | ln, c :: d :: r =>
    if text = true ∧ c = 13 ∧ d = 10 then 13 :: 10 :: encQ text 0 r
    else if 75 < ln + (signQ c (lastQ (d :: r))).length then 61 :: 13 :: 10 :: (signQ c (lastQ (d :: r)) ++ encQ text (signQ c (lastQ (d :: r))).length (d :: r))
    else signQ c (lastQ (d :: r)) ++ encQ text (ln + (signQ c (lastQ (d :: r))).length) (d :: r)

theorem pairQ_two {l : List Int} (h : pairQ l = true) : ∃ r, l = 13 :: 10 :: r := by
  match l, h with
  | a :: b :: r, h =>
    simp [pairQ] at h
    exact ⟨r, by rw [h.1, h.2]⟩
theorem sign_len (c : Int) (b : Bool) : 1 ≤ (signQ c b).length ∧ (signQ c b).length ≤ 3 := by unfold signQ digQ; split <;> simp
theorem enc_pair (ln : Int) (r : List Int) : encQ true ln (13 :: 10 :: r) = 13 :: 10 :: encQ true 0 r := by simp [encQ]
theorem enc_fit {text : Bool} {ln c : Int} {r : List Int} (h : (text && pairQ (c :: r)) = false) (hl : ln + (signQ c (lastQ r)).length ≤ 75) : encQ text ln (c :: r) = signQ c (lastQ r) ++ encQ text (ln + (signQ c (lastQ r)).length) r := by
  match r, h, hl with
  | [], h, hl =>
    have hl' : ln + (signQ c true).length ≤ 75 := hl
    simp only [encQ]
    rw [if_neg (by omega)]
    simp [lastQ]
  | d :: r, h, hl =>
    simp only [encQ]
    rw [if_neg, if_neg (by omega)]
    rintro ⟨rfl, rfl, rfl⟩
    simp [pairQ] at h
theorem enc_soft {text : Bool} {ln c : Int} {r : List Int} (h : (text && pairQ (c :: r)) = false) (hl : 75 < ln + (signQ c (lastQ r)).length) : encQ text ln (c :: r) = [61, 13, 10] ++ signQ c (lastQ r) ++ encQ text (signQ c (lastQ r)).length r := by
  match r, h, hl with
  | [], h, hl =>
    have hl' : 75 < ln + (signQ c true).length := hl
    simp only [encQ]
    rw [if_pos (by omega)]
    simp [lastQ]
  | d :: r, h, hl =>
    simp only [encQ]
    rw [if_neg, if_pos (by omega)]
    · simp
    · rintro ⟨rfl, rfl, rfl⟩
      simp [pairQ] at h

/-- A proof over bytes as lines: step by step. -/
theorem enc_ind {text : Bool} {P : Int → List Int → Prop} (h0 : ∀ ln, P ln []) (h1 : text = true → ∀ ln r, P 0 r → P ln (13 :: 10 :: r))
    (h2 : ∀ (ln c : Int) (r : List Int), (text && pairQ (c :: r)) = false → ln + (signQ c (lastQ r)).length ≤ 75 → P (ln + (signQ c (lastQ r)).length) r → P ln (c :: r))
    (h3 : ∀ (ln c : Int) (r : List Int), (text && pairQ (c :: r)) = false → 75 < ln + (signQ c (lastQ r)).length → P (signQ c (lastQ r)).length r → P ln (c :: r)) : ∀ (n : Nat) (l : List Int), l.length ≤ n → ∀ ln, P ln l
  | _, [], _, ln => h0 ln
  | 0, c :: r, h, _ => by simp at h
  | n + 1, c :: r, h, ln => by
    cases hp : (text && pairQ (c :: r)) with
    | true =>
      rw [Bool.and_eq_true] at hp
      obtain ⟨r', hr⟩ := pairQ_two hp.2
      rw [hr] at h ⊢
      exact h1 hp.1 ln r' (enc_ind h0 h1 h2 h3 n r' (by simp at h; omega) 0)
    | false =>
      by_cases hl : ln + (signQ c (lastQ r)).length ≤ 75
      · exact h2 ln c r hp hl (enc_ind h0 h1 h2 h3 n r (by simp at h; omega) _)
      · exact h3 ln c r hp (by omega) (enc_ind h0 h1 h2 h3 n r (by simp at h; omega) _)
theorem enc_len (text : Bool) (ln : Int) (l : List Int) : (encQ text ln l).length ≤ 6 * l.length := by
  refine enc_ind (text := text) (P := fun ln l => (encQ text ln l).length ≤ 6 * l.length) ?_ ?_ ?_ ?_ l.length l (Nat.le_refl _) ln
  · intro ln; simp [encQ]
  · rintro rfl ln r h; rw [enc_pair]; simp; omega
  · intro ln c r hp hl h; rw [enc_fit hp hl]; have := sign_len c (lastQ r); simp; omega
  · intro ln c r hp hl h; rw [enc_soft hp hl]; have := sign_len c (lastQ r); simp; omega
theorem hex_byt {n : Int} (h0 : 0 ≤ n) (h1 : n < 16) : 48 ≤ hexQ n ∧ hexQ n ≤ 70 := by unfold hexQ; split <;> omega
theorem sign_byt {c : Int} {b : Bool} (h0 : 0 ≤ c) (h1 : c < 256) : Byt (signQ c b) := by
  have := hex_byt (n := c / 16) (by omega) (by omega)
  have := hex_byt (n := c % 16) (by omega) (by omega)
  unfold signQ digQ
  split <;> intro x hx <;> simp at hx <;> omega
theorem enc_byt (text : Bool) (ln : Int) (l : List Int) : Byt l → Byt (encQ text ln l) := by
  refine enc_ind (text := text) (P := fun ln l => Byt l → Byt (encQ text ln l)) ?_ ?_ ?_ ?_ l.length l (Nat.le_refl _) ln
  · intro ln h; simp [encQ]; exact h
  · rintro rfl ln r h hb; rw [enc_pair]
    have : Byt [13, 10] := by intro x hx; simp at hx; omega
    exact this.append (h hb.tail.tail)
  · intro ln c r hp hl h hb; rw [enc_fit hp hl]
    exact (sign_byt hb.head.1 hb.head.2).append (h hb.tail)
  · intro ln c r hp hl h hb; rw [enc_soft hp hl]
    have : Byt [61, 13, 10] := by intro x hx; simp at hx; omega
    exact (this.append (sign_byt hb.head.1 hb.head.2)).append (h hb.tail)

/-- A digit's number; -1: it is none. -/
def valQ (c : Int) : Int := if 48 ≤ c ∧ c ≤ 57 then c - 48 else if 65 ≤ c ∧ c ≤ 70 then c - 55 else if 97 ≤ c ∧ c ≤ 102 then c - 87 else -1
theorem val_hex {n : Int} (h0 : 0 ≤ n) (h1 : n < 16) : valQ (hexQ n) = n := by
  unfold valQ hexQ; split <;> split <;> (try split) <;> omega
theorem val_bd (c : Int) : -1 ≤ valQ c ∧ valQ c ≤ 15 := by unfold valQ; split <;> (try split) <;> (try split) <;> omega
/-- Blanks and tabs alone up to a pair or the end. -/
def trailQ : List Int → Bool
  | [] => true
  | c :: r => if c = 32 ∨ c = 9 then trailQ r else pairQ (c :: r)
abbrev Res := Except (Nat × Int) (List Int)
def preQ (p : List Int) : Res → Res
  | .ok l => .ok (p ++ l)
  | .error e => .error e
theorem pre_pre (p q : List Int) (x : Res) : preQ p (preQ q x) = preQ (p ++ q) x := by cases x <;> simp [preQ]
theorem pre_nil (x : Res) : preQ [] x = x := by cases x <;> simp [preQ]
/-- Lines as bytes: how many bytes are passed over first; the place. -/
def decQ : Nat → Nat → List Int → Res
  | _, _, [] => .ok []
  | k + 1, p, _ :: r => decQ k (p + 1) r
  | 0, p, c :: r =>
    if pairQ (c :: r) = true then preQ [13, 10] (decQ 1 (p + 1) r)
    else if c = 61 then
      if pairQ r = true then decQ 2 (p + 1) r
      else match r with
        | a :: b :: _ => if valQ a < 0 ∨ valQ b < 0 then .error (p, 3) else preQ [16 * valQ a + valQ b] (decQ 2 (p + 1) r)
        | _ => .error (p, 3)
    else if c ≠ 9 ∧ (c < 32 ∨ 126 < c) then .error (p, 10)
    else if trailQ (c :: r) = true then decQ 0 (p + 1) r
    else preQ [c] (decQ 0 (p + 1) r)
theorem dec_nil (p : Nat) : decQ 0 p [] = .ok [] := rfl
theorem dec_pair (p : Nat) (r : List Int) : decQ 0 p (13 :: 10 :: r) = preQ [13, 10] (decQ 0 (p + 2) r) := by simp [decQ, pairQ]
theorem dec_soft (p : Nat) (r : List Int) : decQ 0 p (61 :: 13 :: 10 :: r) = decQ 0 (p + 3) r := by simp [decQ, pairQ]
theorem val_not {a : Int} (h : 0 ≤ valQ a) : a ≠ 13 := by rintro rfl; simp [valQ] at h
theorem dec_esc (p : Nat) (a b : Int) (r : List Int) (ha : 0 ≤ valQ a) (hb : 0 ≤ valQ b) : decQ 0 p (61 :: a :: b :: r) = preQ [16 * valQ a + valQ b] (decQ 0 (p + 3) r) := by
  have := val_not ha
  simp only [decQ]
  rw [if_neg (by simp [pairQ]), if_pos trivial, if_neg (by simp [pairQ, this]), if_neg (by omega)]
theorem dec_form_short (p : Nat) (r : List Int) (h : r.length < 2) : decQ 0 p (61 :: r) = .error (p, 3) := by
  match r, h with
  | [], _ => simp [decQ, pairQ]
  | [a], _ => simp [decQ, pairQ]
  | a :: b :: r, h => simp at h; omega
theorem dec_form (p : Nat) (a b : Int) (r : List Int) (hp : ¬ (a = 13 ∧ b = 10)) (h : valQ a < 0 ∨ valQ b < 0) : decQ 0 p (61 :: a :: b :: r) = .error (p, 3) := by
  simp only [decQ]
  rw [if_neg (by simp [pairQ]), if_pos trivial, if_neg (by simpa [pairQ] using hp), if_pos h]
theorem dec_byte (p : Nat) (c : Int) (r : List Int) (hp : pairQ (c :: r) = false) (h1 : c ≠ 61) (h2 : c ≠ 9 ∧ (c < 32 ∨ 126 < c)) : decQ 0 p (c :: r) = .error (p, 10) := by
  simp only [decQ]
  rw [if_neg (by rw [hp]; simp), if_neg h1, if_pos h2]
theorem dec_blank {p : Nat} {c : Int} {r : List Int} (h : c = 32 ∨ c = 9) : decQ 0 p (c :: r) = if trailQ r = true then decQ 0 (p + 1) r else preQ [c] (decQ 0 (p + 1) r) := by
  have hp : pairQ (c :: r) = false := by cases r <;> simp [pairQ]; omega
  simp only [decQ]
  rw [if_neg (by rw [hp]; simp), if_neg (by omega), if_neg (by omega)]
  simp only [trailQ, if_pos h]
theorem dec_char {p : Nat} {c : Int} {r : List Int} (h1 : 33 ≤ c) (h2 : c ≤ 126) (h3 : c ≠ 61) : decQ 0 p (c :: r) = preQ [c] (decQ 0 (p + 1) r) := by
  have hp : pairQ (c :: r) = false := by cases r <;> simp [pairQ]; omega
  simp only [decQ]
  rw [if_neg (by rw [hp]; simp), if_neg h3, if_neg (by omega)]
  have ht : trailQ (c :: r) = false := by simp only [trailQ]; rw [if_neg (by omega)]; exact hp
  rw [if_neg (by rw [ht]; simp)]
/-- A run of blanks and tabs, as a whole. -/
theorem dec_run : ∀ (b : List Int) (p : Nat) (r : List Int), (∀ x ∈ b, x = 32 ∨ x = 9) → (∀ c t, r = c :: t → c ≠ 32 ∧ c ≠ 9) → decQ 0 p (b ++ r) = preQ (if lastQ r = true then [] else b) (decQ 0 (p + b.length) r)
  | [], p, r, _, _ => by simp [pre_nil]
  | c :: b, p, r, hb, hr => by
    have ht : trailQ (b ++ r) = lastQ r := by
      clear dec_run
      have hb' : ∀ x ∈ b, x = 32 ∨ x = 9 := fun x hx => hb x (by simp [hx])
      clear hb
      induction b with
      | nil =>
        cases r with
        | nil => rfl
        | cons d t =>
          have := hr d t rfl
          simp only [List.nil_append, trailQ, lastQ, List.isEmpty_cons, Bool.false_or]
          rw [if_neg (by omega)]
      | cons d b ih =>
        simp only [List.cons_append, trailQ]
        rw [if_pos (hb' d (by simp))]
        exact ih (fun x hx => hb' x (by simp [hx]))
    rw [List.cons_append, dec_blank (hb c (by simp)), ht, dec_run b (p + 1) r (fun x hx => hb x (by simp [hx])) hr]
    have e : p + 1 + b.length = p + (c :: b).length := by simp; omega
    rw [e]
    cases lastQ r <;> simp [pre_pre, pre_nil]

/-- Where bytes are that are not at a line's end, no end stands in their lines. -/
theorem trail_enc {text : Bool} (ln : Int) (l : List Int) : Byt l → lastQ l = false → trailQ (encQ text ln l) = false ∧ lastQ (encQ text ln l) = false := by
  refine enc_ind (text := text) (P := fun ln l => Byt l → lastQ l = false → trailQ (encQ text ln l) = false ∧ lastQ (encQ text ln l) = false) ?_ ?_ ?_ ?_ l.length l (Nat.le_refl _) ln
  · intro ln _ h; simp [lastQ] at h
  · intro _ ln r _ _ h; simp [lastQ, pairQ] at h
  · intro ln c r hp hl ih hb h
    rw [enc_fit hp hl]
    have hc := hb.head
    unfold signQ
    split
    · rename_i hs
      simp only [List.singleton_append]
      simp only [selfQ, Bool.or_eq_true, Bool.and_eq_true, Bool.not_eq_true', decide_eq_true_eq, decide_eq_false_iff_not] at hs
      have hpp : ∀ t, pairQ (c :: t) = false := by intro t; cases t <;> simp [pairQ]; omega
      refine ⟨?_, by simp [lastQ, hpp]⟩
      simp only [trailQ]
      by_cases h32 : c = 32 ∨ c = 9
      · rw [if_pos h32]
        have hlr : lastQ r = false := by rcases hs with h | h; · omega
                                         · exact h.2
        have := ih hb.tail hlr
        have e : signQ c (lastQ r) = [c] := by unfold signQ; rw [if_pos]; simp [selfQ, h32, hlr]
        rw [e] at this
        exact this.1
      · rw [if_neg h32]; exact hpp _
    · simp [trailQ, lastQ, pairQ, digQ]
  · intro ln c r hp hl ih hb h
    rw [enc_soft hp hl]
    simp [trailQ, lastQ, pairQ]

/-- THERE AND BACK. -/
theorem dec_enc (text : Bool) (ln : Int) (l : List Int) : Byt l → ∀ p, decQ 0 p (encQ text ln l) = .ok l := by
  have step : ∀ (ln' c : Int) (r : List Int), Byt (c :: r) → (∀ p, decQ 0 p (encQ text ln' r) = .ok r) → ∀ p, decQ 0 p (signQ c (lastQ r) ++ encQ text ln' r) = .ok (c :: r) := by
    intro ln' c r hb ih p
    have hc := hb.head
    unfold signQ
    split
    · rename_i hs
      simp only [selfQ, Bool.or_eq_true, Bool.and_eq_true, Bool.not_eq_true', decide_eq_true_eq, decide_eq_false_iff_not] at hs
      simp only [List.singleton_append]
      rcases hs with h | h
      · rw [dec_char h.1.1 h.1.2 h.2, ih]; rfl
      · rw [dec_blank h.1, (trail_enc ln' r hb.tail h.2).1, ih]; rfl
    · have h1 : 0 ≤ c / 16 ∧ c / 16 < 16 := by omega
      have h2 : 0 ≤ c % 16 ∧ c % 16 < 16 := by omega
      simp only [digQ, List.cons_append, List.nil_append]
      rw [dec_esc _ _ _ _ (by rw [val_hex h1.1 h1.2]; exact h1.1) (by rw [val_hex h2.1 h2.2]; exact h2.1), val_hex h1.1 h1.2, val_hex h2.1 h2.2, ih]
      rw [show 16 * (c / 16) + c % 16 = c from by omega]; rfl
  refine enc_ind (text := text) (P := fun ln l => Byt l → ∀ p, decQ 0 p (encQ text ln l) = .ok l) ?_ ?_ ?_ ?_ l.length l (Nat.le_refl _) ln
  · intro ln _ p; simp [encQ, decQ]
  · rintro rfl ln r ih hb p; rw [enc_pair, dec_pair, ih hb.tail.tail]; rfl
  · intro ln c r hp hl ih hb p
    rw [enc_fit hp hl]
    exact step _ c r hb (ih hb.tail) p
  · intro ln c r hp hl ih hb p
    rw [enc_soft hp hl, show [61, 13, 10] ++ signQ c (lastQ r) ++ encQ text (signQ c (lastQ r)).length r = 61 :: 13 :: 10 :: (signQ c (lastQ r) ++ encQ text (signQ c (lastQ r)).length r) from by simp, dec_soft]
    exact step _ c r hb (ih hb.tail) _

/-- What is read is no longer than what was there; a fault lies in it. -/
theorem dec_bd : ∀ (l : List Int) (k p : Nat), Byt l → (∀ x, decQ k p l = .ok x → x.length ≤ l.length - k ∧ Byt x) ∧ ∀ e, decQ k p l = .error e → p ≤ e.1 ∧ e.1 < p + l.length ∧ (e.2 = 3 ∨ e.2 = 10) := by
  intro l
  induction l with
  | nil => intro k p _; refine ⟨?_, ?_⟩ <;> intro x h <;> cases k <;> simp [decQ] at h <;> subst h <;> simp [Byt]
  | cons c r ih =>
    intro k p hb
    have hbr := hb.tail
    have up : ∀ (q : List Int) (k' : Nat), Byt q → q.length + (r.length - k') ≤ (c :: r).length - k →
        (∀ x, preQ q (decQ k' (p + 1) r) = .ok x → x.length ≤ (c :: r).length - k ∧ Byt x) ∧ ∀ e, preQ q (decQ k' (p + 1) r) = .error e → p ≤ e.1 ∧ e.1 < p + (c :: r).length ∧ (e.2 = 3 ∨ e.2 = 10) := by
      intro q k' hq hn
      have h := ih k' (p + 1) hbr
      cases hd : decQ k' (p + 1) r with
      | ok y =>
        refine ⟨fun x h2 => ?_, fun e h2 => by simp [preQ] at h2⟩
        simp only [preQ, Except.ok.injEq] at h2
        subst h2
        have := h.1 y hd
        refine ⟨by rw [List.length_append]; omega, hq.append this.2⟩
      | error e' =>
        refine ⟨fun x h2 => by simp [preQ] at h2, fun e h2 => ?_⟩
        simp only [preQ, Except.error.injEq] at h2
        subst h2
        have := h.2 e' hd
        simp only [List.length_cons]
        omega
    have bad : ∀ (z : Int), (z = 3 ∨ z = 10) → (∀ x, (Except.error (p, z) : Res) = .ok x → x.length ≤ (c :: r).length - k ∧ Byt x) ∧ ∀ e, (Except.error (p, z) : Res) = .error e → p ≤ e.1 ∧ e.1 < p + (c :: r).length ∧ (e.2 = 3 ∨ e.2 = 10) := by
      intro z hz
      refine ⟨fun x h => by simp at h, fun e h => ?_⟩
      simp only [Except.error.injEq] at h
      subst h
      simp only [List.length_cons]
      omega
    have nil : Byt [] := by intro x hx; simp at hx
    cases k with
    | succ k =>
      simp only [decQ]
      have := up [] k nil (by simp)
      rw [pre_nil] at this
      exact this
    | zero =>
      have hc := hb.head
      simp only [decQ]
      split
      · rename_i hp
        obtain ⟨r', hr⟩ := pairQ_two hp
        have hr2 : r = 10 :: r' := by simp at hr; exact hr.2
        exact up [13, 10] 1 (by intro x hx; simp at hx; omega) (by rw [hr2]; simp; omega)
      · split
        · split
          · have := up [] 2 nil (by simp; omega)
            rw [pre_nil] at this
            exact this
          · match r, up, bad with
            | [], up, bad => exact bad 3 (.inl rfl)
            | [a], up, bad => exact bad 3 (.inl rfl)
            | a :: b :: r, up, bad =>
              dsimp only
              split
              · exact bad 3 (.inl rfl)
              · have := val_bd a
                have := val_bd b
                exact up [16 * valQ a + valQ b] 2 (by intro x hx; simp at hx; omega) (by simp; omega)
        · split
          · exact bad 10 (.inr rfl)
          · split
            · have := up [] 0 nil (by simp)
              rw [pre_nil] at this
              exact this
            · exact up [c] 0 (by intro x hx; simp at hx; omega) (by simp; omega)
/-- Lines as they should be: how far the line is. -/
def linesQ : Int → List Int → Bool
  | _, [] => true
  | n, [c] => decide (n < 76 ∧ c ≤ 126 ∧ (32 ≤ c ∨ c = 9) ∧ c ≠ 32 ∧ c ≠ 9)
  | n, c :: d :: r =>
    if c = 13 ∧ d = 10 then linesQ 0 r
    else decide (n < 76 ∧ c ≤ 126 ∧ (32 ≤ c ∨ c = 9)) && (!(decide (c = 32 ∨ c = 9) && pairQ (d :: r))) && linesQ (n + 1) (d :: r)
theorem lines_pair (n : Int) (r : List Int) : linesQ n (13 :: 10 :: r) = linesQ 0 r := by simp [linesQ]
theorem lines_cons {n c : Int} {r : List Int} (hp : pairQ (c :: r) = false) : linesQ n (c :: r) = (decide (n < 76 ∧ c ≤ 126 ∧ (32 ≤ c ∨ c = 9)) && (!(decide (c = 32 ∨ c = 9) && lastQ r)) && linesQ (n + 1) r) := by
  match r, hp with
  | [], _ =>
    simp only [linesQ, lastQ, List.isEmpty_nil, Bool.true_or, Bool.and_true]
    rw [Bool.eq_iff_iff]
    simp
    omega
  | d :: r, hp =>
    simp only [linesQ]
    rw [if_neg (by simpa [pairQ] using hp)]
    simp [lastQ]
theorem lines_sign {text : Bool} {n m c : Int} {r : List Int} (hb : Byt (c :: r)) (hn : n + (signQ c (lastQ r)).length ≤ 76) (hm : m = n + (signQ c (lastQ r)).length) (h : linesQ m (encQ text m r) = true) : linesQ n (signQ c (lastQ r) ++ encQ text m r) = true := by
  have hc := hb.head
  unfold signQ at hn hm ⊢
  split
  · rename_i hs
    rw [if_pos hs] at hn hm
    simp only [selfQ, Bool.or_eq_true, Bool.and_eq_true, Bool.not_eq_true', decide_eq_true_eq, decide_eq_false_iff_not] at hs
    simp only [List.length_cons, List.length_nil] at hn hm
    have hm' : n + 1 = m := by omega
    rw [List.singleton_append, lines_cons (by cases encQ text m r <;> simp [pairQ]; omega), hm', h]
    rcases hs with k | k
    · have : decide (c = 32 ∨ c = 9) = false := by simp; omega
      rw [this]
      simp
      omega
    · rw [(trail_enc m r hb.tail k.2).2]
      simp
      omega
  · rename_i hs
    rw [if_neg hs] at hn hm
    have h1 := hex_byt (n := c / 16) (by omega) (by omega)
    have h2 := hex_byt (n := c % 16) (by omega) (by omega)
    simp only [digQ, List.length_cons, List.length_nil] at hn hm
    have hm' : n + 1 + 1 + 1 = m := by omega
    simp only [digQ, List.cons_append, List.nil_append]
    rw [lines_cons (by simp [pairQ]), lines_cons (by simp [pairQ]; omega), lines_cons (by cases encQ text m r <;> simp [pairQ]; omega), hm', h]
    have e1 : decide (hexQ (c / 16) = 32 ∨ hexQ (c / 16) = 9) = false := by simp; omega
    have e2 : decide (hexQ (c % 16) = 32 ∨ hexQ (c % 16) = 9) = false := by simp; omega
    rw [e1, e2]
    simp
    omega
theorem lines_enc (text : Bool) (ln : Int) (l : List Int) : Byt l → ln ≤ 75 → 0 ≤ ln → linesQ ln (encQ text ln l) = true := by
  refine enc_ind (text := text) (P := fun ln l => Byt l → ln ≤ 75 → 0 ≤ ln → linesQ ln (encQ text ln l) = true) ?_ ?_ ?_ ?_ l.length l (Nat.le_refl _) ln
  · intro ln _ _ _; simp [encQ, linesQ]
  · rintro rfl ln r ih hb _ _; rw [enc_pair, lines_pair]; exact ih hb.tail.tail (by omega) (by omega)
  · intro ln c r hp hl ih hb h1 h0
    rw [enc_fit hp hl]
    exact lines_sign hb (by omega) rfl (ih hb.tail (by omega) (by omega))
  · intro ln c r hp hl ih hb h1 h0
    have hs := sign_len c (lastQ r)
    rw [enc_soft hp hl, show [61, 13, 10] ++ signQ c (lastQ r) ++ encQ text (signQ c (lastQ r)).length r = 61 :: 13 :: 10 :: (signQ c (lastQ r) ++ encQ text (signQ c (lastQ r)).length r) from by simp,
      lines_cons (by simp [pairQ]), lines_pair, lines_sign hb (by omega) (by omega) (ih hb.tail (by omega) (by omega))]
    simp
    omega
/-- A text of printable bytes without =, whose lines are short. -/
def plainQ : Int → List Int → Bool
  | _, [] => true
  | n, [c] => decide (n < 75 ∧ 33 ≤ c ∧ c ≤ 126 ∧ c ≠ 61)
  | n, c :: d :: r =>
    if c = 13 ∧ d = 10 then plainQ 0 r else decide (n < 75 ∧ 33 ≤ c ∧ c ≤ 126 ∧ c ≠ 61) && plainQ (n + 1) (d :: r)
theorem plain_pair (n : Int) (r : List Int) : plainQ n (13 :: 10 :: r) = plainQ 0 r := by simp [plainQ]
theorem plain_cons {n c : Int} {r : List Int} (hp : pairQ (c :: r) = false) : plainQ n (c :: r) = (decide (n < 75 ∧ 33 ≤ c ∧ c ≤ 126 ∧ c ≠ 61) && plainQ (n + 1) r) := by
  match r, hp with
  | [], _ => simp [plainQ]
  | d :: r, hp =>
    simp only [plainQ]
    rw [if_neg (by simpa [pairQ] using hp)]
theorem enc_plain (n : Int) (l : List Int) : plainQ n l = true → encQ true n l = l := by
  refine enc_ind (text := true) (P := fun n l => plainQ n l = true → encQ true n l = l) ?_ ?_ ?_ ?_ l.length l (Nat.le_refl _) n
  · intro n _; simp [encQ]
  · intro _ n r ih h; rw [plain_pair] at h; rw [enc_pair, ih h]
  · intro n c r hp hl ih h
    rw [plain_cons (by simpa using hp), Bool.and_eq_true, decide_eq_true_eq] at h
    have e : signQ c (lastQ r) = [c] := by unfold signQ; rw [if_pos]; simp [selfQ]; omega
    rw [enc_fit hp hl]
    rw [e] at ih ⊢
    simp only [List.length_singleton] at ih ⊢
    rw [show ((1 : Nat) : Int) = 1 from rfl] at ih ⊢
    rw [ih h.2]; rfl
  · intro n c r hp hl ih h
    rw [plain_cons (by simpa using hp), Bool.and_eq_true, decide_eq_true_eq] at h
    have e : signQ c (lastQ r) = [c] := by unfold signQ; rw [if_pos]; simp [selfQ]; omega
    rw [e] at hl
    simp at hl
    omega
end Go.Proofs.YtnhbmekhmkkccaaDoor.Qu
