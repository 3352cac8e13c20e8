/-
  The sets of signs: what a byte, or a unit, is in each of them.
-/
import Derived.Test.YtlhhbmolkiojfaaDoorUFlat
namespace Go.Proofs.YtlhhbmolkiojfaaDoor
open Go.RowKit
set_option linter.unusedVariables false

/-- The points of iso-8859-15's bytes from 160 to 191. -/
def s9 : List Int := [160, 161, 162, 163, 8364, 165, 352, 167, 353, 169, 170, 171, 172, 173, 174, 175, 176, 177, 178, 179, 381, 181, 182, 183, 382, 185, 186, 187, 338, 339, 376, 191]
/-- The points of windows-1252's bytes from 128 to 159; -1: none. -/
def sW : List Int := [8364, -1, 8218, 402, 8222, 8230, 8224, 8225, 710, 8240, 352, 8249, 338, -1, 381, -1, -1, 8216, 8217, 8220, 8221, 8226, 8211, 8212, 732, 8482, 353, 8250, 339, -1, 382, 376]
/-- A byte's point in a set of one byte; -1: none. -/
def ptOf (s c : Int) : Int :=
  if s = 1 ∧ 127 < c then -1 else if s = 4 ∧ 160 ≤ c ∧ c < 192 then s9.getD (c - 160).toNat 0 else if s = 5 ∧ 128 ≤ c ∧ c < 160 then sW.getD (c - 128).toNat 0 else c
/-- The place of a point in a table, from the number f on; -1: none. -/
def placeZ : List Int → Int → Int → Int
  | [], _, _ => -1
  | x :: l, f, p => if x = p then f else placeZ l (f + 1) p
/-- The byte of a point in a set of one byte; -1: none. -/
def byOf (s p : Int) : Int :=
  if p < 256 ∧ ptOf s p = p then p else if s = 4 then placeZ s9 160 p else if s = 5 then placeZ sW 128 p else -1
/-- A unit of two bytes. -/
def unitZ (s a b : Int) : Int := if s = 8 then b * 256 + a else a * 256 + b
/-- The two bytes of a unit. -/
def twoZ (s u : Int) : List Int := if s = 8 then [u % 256, u / 256] else [u / 256, u % 256]
/-- The bytes of a point in units. -/
def encU (s p : Int) : List Int :=
  if p < 65536 then twoZ s p else twoZ s (55296 + (p - 65536) / 1024) ++ twoZ s (56320 + (p - 65536) % 1024)
/-- The point of a unit and the one behind it. -/
def tailU (s u : Int) : List Int → Option (Int × Nat)
  | c :: d :: _ => if unitZ s c d < 56320 ∨ 57343 < unitZ s c d then none else some (65536 + (u - 55296) * 1024 + (unitZ s c d - 56320), 4)
  | _ => none
/-- The point at the front of bytes of units. -/
def nextU (s : Int) : List Int → Option (Int × Nat)
  | a :: b :: r =>
    if unitZ s a b < 55296 ∨ 57343 < unitZ s a b then some (unitZ s a b, 2) else if 56320 ≤ unitZ s a b then none else tailU s (unitZ s a b) r
  | _ => none
/-- The point at the front of bytes of a set. -/
def nxS (s : Int) (l : List Int) : Option (Int × Nat) :=
  if s = 2 then (Ut.decZ l).map (fun p => (p, (Ut.encZ p).length))
  else if s = 7 ∨ s = 8 then nextU s l
  else match l with
    | [] => none
    | c :: _ => if ptOf s c = -1 then none else some (ptOf s c, 1)
/-- The bytes of a point in a set; none, if it has none. -/
def encS (s p : Int) : List Int :=
  if s = 2 then Ut.encZ p else if s = 7 ∨ s = 8 then encU s p else if byOf s p = -1 then [] else [byOf s p]
/-- The sets whose texts are read as they lie. -/
def SetOk (s : Int) : Prop := s = 1 ∨ s = 2 ∨ s = 3 ∨ s = 4 ∨ s = 5 ∨ s = 7 ∨ s = 8

theorem two_unit (s : Int) {a b : Int} (ha : 0 ≤ a ∧ a < 256) (hb : 0 ≤ b ∧ b < 256) : twoZ s (unitZ s a b) = [a, b] := by
  unfold twoZ unitZ
  by_cases h : s = 8
  · rw [if_pos h, if_pos h]
    rw [show (b * 256 + a) % 256 = a by omega, show (b * 256 + a) / 256 = b by omega]
  · rw [if_neg h, if_neg h]
    rw [show (a * 256 + b) % 256 = b by omega, show (a * 256 + b) / 256 = a by omega]
theorem unit_lt (s : Int) {a b : Int} (ha : 0 ≤ a ∧ a < 256) (hb : 0 ≤ b ∧ b < 256) : 0 ≤ unitZ s a b ∧ unitZ s a b < 65536 := by
  unfold unitZ; split <;> omega
theorem unit_two (s : Int) {u : Int} (h : 0 ≤ u ∧ u < 65536) : ∃ a b, twoZ s u = [a, b] ∧ (0 ≤ a ∧ a < 256) ∧ (0 ≤ b ∧ b < 256) ∧ unitZ s a b = u := by
  unfold twoZ unitZ
  by_cases h8 : s = 8
  · simp only [if_pos h8]; exact ⟨_, _, rfl, by omega, by omega, by omega⟩
  · simp only [if_neg h8]; exact ⟨_, _, rfl, by omega, by omega, by omega⟩
theorem nextU_sound (s : Int) {l : List Int} (hl : ∀ x ∈ l, 0 ≤ x ∧ x < 256) {p : Int} {n : Nat} (h : nextU s l = some (p, n)) :
    Ut.ptB p = true ∧ n = (encU s p).length ∧ ∃ r, l = encU s p ++ r := by
  match l with
  | [] => simp [nextU] at h
  | [_] => simp [nextU] at h
  | a :: b :: r =>
    have ha := hl a (by simp)
    have hb := hl b (by simp)
    have hu := unit_lt s ha hb
    have ht := two_unit s ha hb
    rw [nextU] at h
    generalize unitZ s a b = u at h hu ht
    by_cases c1 : u < 55296 ∨ 57343 < u
    · rw [if_pos c1] at h
      simp only [Option.some.injEq, Prod.mk.injEq] at h
      obtain ⟨rfl, rfl⟩ := h
      have he : encU s u = [a, b] := by unfold encU; rw [if_pos hu.2, ht]
      refine ⟨(Ut.ptB_iff _).2 (by omega), by rw [he]; rfl, r, by rw [he]; rfl⟩
    · rw [if_neg c1] at h
      by_cases c2 : 56320 ≤ u
      · rw [if_pos c2] at h; simp at h
      · rw [if_neg c2] at h
        match r with
        | [] => simp [tailU] at h
        | [_] => simp [tailU] at h
        | c :: d :: r' =>
          have hc := hl c (by simp)
          have hd := hl d (by simp)
          have hv := unit_lt s hc hd
          have ht2 := two_unit s hc hd
          rw [tailU] at h
          generalize unitZ s c d = v at h hv ht2
          by_cases c3 : v < 56320 ∨ 57343 < v
          · rw [if_pos c3] at h; simp at h
          · rw [if_neg c3] at h
            simp only [Option.some.injEq, Prod.mk.injEq] at h
            obtain ⟨rfl, rfl⟩ := h
            have he : encU s (65536 + (u - 55296) * 1024 + (v - 56320)) = [a, b, c, d] := by
              unfold encU
              rw [if_neg (by omega), show 55296 + (65536 + (u - 55296) * 1024 + (v - 56320) - 65536) / 1024 = u by omega, show 56320 + (65536 + (u - 55296) * 1024 + (v - 56320) - 65536) % 1024 = v by omega, ht, ht2]
              rfl
            refine ⟨(Ut.ptB_iff _).2 (by omega), by rw [he]; rfl, r', by rw [he]; rfl⟩
theorem nextU_enc (s : Int) {p : Int} (hp : Ut.ptB p = true) (r : List Int) : nextU s (encU s p ++ r) = some (p, (encU s p).length) := by
  have hp' := (Ut.ptB_iff p).1 hp
  by_cases hlt : p < 65536
  · obtain ⟨a, b, h2, ha, hb, hu⟩ := unit_two s (u := p) ⟨hp'.1, hlt⟩
    have he : encU s p = [a, b] := by unfold encU; rw [if_pos hlt, h2]
    rw [he]
    show nextU s (a :: b :: r) = _
    rw [nextU, hu, if_pos (by omega)]
    rfl
  · obtain ⟨a, b, h2, ha, hb, hu⟩ := unit_two s (u := 55296 + (p - 65536) / 1024) (by omega)
    obtain ⟨c, d, h3, hc, hd, hv⟩ := unit_two s (u := 56320 + (p - 65536) % 1024) (by omega)
    have he : encU s p = [a, b, c, d] := by unfold encU; rw [if_neg hlt, h2, h3]; rfl
    rw [he]
    show nextU s (a :: b :: c :: d :: r) = _
    rw [nextU, hu, if_neg (by omega), if_neg (by omega), tailU, hv, if_neg (by omega)]
    simp
    omega
theorem encU_len (s : Int) {p : Int} (hp : Ut.ptB p = true) : (encU s p).length = if p < 65536 then 2 else 4 := by
  have hl : ∀ u, (twoZ s u).length = 2 := fun u => by unfold twoZ; split <;> rfl
  unfold encU
  split
  · rw [hl]
  · rw [List.length_append, hl, hl]
theorem encU_byt (s : Int) {p : Int} (hp : Ut.ptB p = true) : ∀ x ∈ encU s p, 0 ≤ x ∧ x < 256 := by
  have hp' := (Ut.ptB_iff p).1 hp
  have h2 : ∀ u : Int, 0 ≤ u ∧ u < 65536 → ∀ x ∈ twoZ s u, 0 ≤ x ∧ x < 256 := by
    intro u hu x hx
    obtain ⟨a, b, h, ha, hb, _⟩ := unit_two s hu
    rw [h] at hx
    simp at hx
    rcases hx with rfl | rfl
    · exact ha
    · exact hb
  unfold encU
  split
  · exact h2 _ (by omega)
  · intro x hx
    rcases List.mem_append.1 hx with hx | hx
    · exact h2 _ (by omega) x hx
    · exact h2 _ (by omega) x hx

theorem place_sound : ∀ (l : List Int) (f p : Int), 0 ≤ f → placeZ l f p ≠ -1 → ∃ k : Nat, k < l.length ∧ placeZ l f p = f + k ∧ l.getD k 0 = p
  | [], f, p, _, h => absurd rfl h
  | x :: l, f, p, hf, h => by
    by_cases hx : x = p
    · exact ⟨0, by simp, by simp [placeZ, hx], by simp [hx]⟩
    · rw [placeZ, if_neg hx] at h
      obtain ⟨k, hk, he, hg⟩ := place_sound l (f + 1) p (by omega) h
      exact ⟨k + 1, by simp; omega, by rw [placeZ, if_neg hx, he]; omega, by simpa using hg⟩
def pt_byB (s : Int) (n : Nat) : Bool := decide (ptOf s n = -1) || (decide (byOf s (ptOf s n) = n) && Ut.ptB (ptOf s n) && decide (0 ≤ ptOf s n))
theorem pt_by_all : ∀ n < 256, (pt_byB 1 n && pt_byB 3 n && pt_byB 4 n && pt_byB 5 n) = true := by decide +kernel
theorem pt_by {s c : Int} (hs : s = 1 ∨ s = 3 ∨ s = 4 ∨ s = 5) (hc : 0 ≤ c ∧ c < 256) (h : ptOf s c ≠ -1) : byOf s (ptOf s c) = c ∧ Ut.ptB (ptOf s c) = true := by
  have h1 := pt_by_all c.toNat (by omega)
  simp only [Bool.and_eq_true] at h1
  obtain ⟨n, rfl⟩ : ∃ n : Nat, c = n := ⟨c.toNat, by omega⟩
  rw [Int.toNat_natCast] at h1
  have h2 : pt_byB s n = true := by
    rcases hs with rfl | rfl | rfl | rfl
    · exact h1.1.1.1
    · exact h1.1.1.2
    · exact h1.1.2
    · exact h1.2
  unfold pt_byB at h2
  simp only [Bool.or_eq_true, Bool.and_eq_true, decide_eq_true_eq] at h2
  rcases h2 with h2 | h2
  · exact absurd h2 h
  · exact h2.1
theorem by_pt {s p : Int} (hp : 0 ≤ p) (h : byOf s p ≠ -1) : (0 ≤ byOf s p ∧ byOf s p < 256) ∧ ptOf s (byOf s p) = p := by
  by_cases h1 : p < 256 ∧ ptOf s p = p
  · have e : byOf s p = p := by unfold byOf; rw [if_pos h1]
    rw [e]; exact ⟨⟨hp, h1.1⟩, h1.2⟩
  · by_cases h4 : s = 4
    · have e : byOf s p = placeZ s9 160 p := by unfold byOf; rw [if_neg h1, if_pos h4]
      rw [e] at h ⊢
      obtain ⟨k, hk, hv, hg⟩ := place_sound s9 160 p (by omega) h
      have hk' : k < 32 := hk
      rw [hv]
      refine ⟨by omega, ?_⟩
      unfold ptOf
      rw [if_neg (by omega), if_pos (by omega), show ((160 : Int) + k - 160).toNat = k by omega, hg]
    · by_cases h5 : s = 5
      · have e : byOf s p = placeZ sW 128 p := by unfold byOf; rw [if_neg h1, if_neg h4, if_pos h5]
        rw [e] at h ⊢
        obtain ⟨k, hk, hv, hg⟩ := place_sound sW 128 p (by omega) h
        have hk' : k < 32 := hk
        rw [hv]
        refine ⟨by omega, ?_⟩
        unfold ptOf
        rw [if_neg (by omega), if_neg (by omega), if_pos (by omega), show ((128 : Int) + k - 128).toNat = k by omega, hg]
      · exact absurd (by unfold byOf; rw [if_neg h1, if_neg h4, if_neg h5]) h

theorem nxS_sound {s : Int} (hs : SetOk s) {l : List Int} (hl : ∀ x ∈ l, 0 ≤ x ∧ x < 256) {p : Int} {n : Nat} (h : nxS s l = some (p, n)) :
    Ut.ptB p = true ∧ encS s p ≠ [] ∧ n = (encS s p).length ∧ ∃ r, l = encS s p ++ r := by
  unfold nxS at h
  by_cases h2 : s = 2
  · rw [if_pos h2, Option.map_eq_some_iff] at h
    obtain ⟨q, hq, e⟩ := h
    simp only [Prod.mk.injEq] at e
    obtain ⟨rfl, rfl⟩ := e
    have := Ut.dec_sound hl hq
    unfold encS
    rw [if_pos h2]
    exact ⟨this.1, Ut.enc_ne q, rfl, this.2⟩
  · rw [if_neg h2] at h
    by_cases h7 : s = 7 ∨ s = 8
    · rw [if_pos h7] at h
      have hh := nextU_sound s hl h
      unfold encS
      rw [if_neg h2, if_pos h7]
      refine ⟨hh.1, fun e => ?_, hh.2.1, hh.2.2⟩
      have := encU_len s hh.1
      rw [e] at this
      simp at this
      split at this <;> omega
    · rw [if_neg h7] at h
      have hs' : s = 1 ∨ s = 3 ∨ s = 4 ∨ s = 5 := by unfold SetOk at hs; omega
      match l with
      | [] => simp at h
      | c :: r =>
        simp only at h
        by_cases hc : ptOf s c = -1
        · rw [if_pos hc] at h; simp at h
        · rw [if_neg hc] at h
          simp only [Option.some.injEq, Prod.mk.injEq] at h
          obtain ⟨rfl, rfl⟩ := h
          have := pt_by hs' (hl c (by simp)) hc
          have hc0 := hl c (by simp)
          unfold encS
          rw [if_neg h2, if_neg h7, if_neg (by rw [this.1]; omega), this.1]
          exact ⟨this.2, by simp, rfl, r, rfl⟩
theorem nxS_enc {s : Int} (hs : SetOk s) {p : Int} (hp : Ut.ptB p = true) (he : encS s p ≠ []) (r : List Int) : nxS s (encS s p ++ r) = some (p, (encS s p).length) := by
  unfold nxS
  unfold encS at he ⊢
  by_cases h2 : s = 2
  · rw [if_pos h2, if_pos h2, Ut.dec_enc hp]; rfl
  · rw [if_neg h2, if_neg h2]
    by_cases h7 : s = 7 ∨ s = 8
    · rw [if_pos h7, if_pos h7]; exact nextU_enc s hp r
    · rw [if_neg h7, if_neg h7]
      rw [if_neg h2, if_neg h7] at he
      by_cases hb : byOf s p = -1
      · rw [if_pos hb] at he; exact absurd rfl he
      · rw [if_neg hb]
        have hp' := (Ut.ptB_iff p).1 hp
        have := by_pt hp'.1 hb
        show (if _ then _ else _) = _
        rw [this.2, if_neg (by omega)]
        rfl
theorem encS_byt {s : Int} {p : Int} (hp : Ut.ptB p = true) : ∀ x ∈ encS s p, 0 ≤ x ∧ x < 256 := by
  unfold encS
  split
  · exact Ut.enc_byte p hp
  · split
    · exact encU_byt s hp
    · split
      · intro x hx; simp at hx
      · rename_i hb
        intro x hx
        simp at hx
        subst hx
        exact (by_pt ((Ut.ptB_iff p).1 hp).1 hb).1

/-- All are points that a set has. -/
def AllIn (s : Int) (ps : List Int) : Prop := ∀ p ∈ ps, Ut.ptB p = true ∧ encS s p ≠ []
/-- The bytes of points in a set. -/
def flatS (s : Int) (ps : List Int) : List Int := ps.flatMap (encS s)
theorem flatS_nil (s : Int) : flatS s [] = [] := rfl
theorem flatS_cons (s p : Int) (ps : List Int) : flatS s (p :: ps) = encS s p ++ flatS s ps := by simp [flatS]
theorem flatS_append (s : Int) (ps qs : List Int) : flatS s (ps ++ qs) = flatS s ps ++ flatS s qs := by simp [flatS]
theorem AllIn.pts {s : Int} {ps : List Int} (h : AllIn s ps) : Ut.AllPt ps := fun p hp => (h p hp).1
theorem AllIn.right {s : Int} {ps qs : List Int} (h : AllIn s (ps ++ qs)) : AllIn s qs := fun x hx => h x (by simp [hx])
theorem AllIn.left {s : Int} {ps qs : List Int} (h : AllIn s (ps ++ qs)) : AllIn s ps := fun x hx => h x (by simp [hx])
theorem AllIn.head {s p : Int} {ps : List Int} (h : AllIn s (p :: ps)) : Ut.ptB p = true ∧ encS s p ≠ [] := h p (by simp)
theorem flatS_byt {s : Int} {ps : List Int} (h : Ut.AllPt ps) : ∀ x ∈ flatS s ps, 0 ≤ x ∧ x < 256 := by
  intro x hx
  obtain ⟨p, hp, hx⟩ := List.mem_flatMap.1 hx
  exact encS_byt (h p hp) x hx
theorem flatS_ge {s : Int} : ∀ {ps : List Int}, AllIn s ps → ps.length ≤ (flatS s ps).length
  | [], _ => by simp
  | p :: ps, h => by
    have h1 := flatS_ge (fun x hx => h x (by simp [hx]) : AllIn s ps)
    have h2 := List.length_pos_iff.2 (h p (by simp)).2
    rw [flatS_cons, List.length_append, List.length_cons]; omega
theorem encS_len {s p : Int} (hp : Ut.ptB p = true) : (encS s p).length ≤ 4 := by
  unfold encS
  split
  · exact (Ut.enc_len p).2
  · split
    · rw [encU_len s hp]; split <;> omega
    · split <;> simp
theorem splitS_n {s : Int} (hs : SetOk s) : ∀ (n : Nat) (l : List Int), l.length ≤ n → (∀ x ∈ l, 0 ≤ x ∧ x < 256) → ∃ ps r, AllIn s ps ∧ l = flatS s ps ++ r ∧ nxS s r = none
  | 0, l, hn, hl => by
    have : l = [] := List.length_eq_zero_iff.1 (by omega)
    subst this
    cases h : nxS s [] with
    | none => exact ⟨[], [], fun x hx => by simp at hx, rfl, h⟩
    | some q =>
      obtain ⟨p, n⟩ := q
      obtain ⟨_, h1, _, r, h2⟩ := nxS_sound hs hl h
      exact absurd (List.append_eq_nil_iff.1 h2.symm).1 h1
  | n + 1, l, hn, hl => by
    cases h : nxS s l with
    | none => exact ⟨[], l, fun x hx => by simp at hx, rfl, h⟩
    | some q =>
      obtain ⟨p, m⟩ := q
      obtain ⟨h0, h1, _, r, h2⟩ := nxS_sound hs hl h
      have h3 := List.length_pos_iff.2 h1
      subst h2
      obtain ⟨ps, r', h4, h5, h6⟩ := splitS_n hs n r (by rw [List.length_append] at hn; omega) (fun x hx => hl x (by simp [hx]))
      refine ⟨p :: ps, r', fun x hx => ?_, by rw [flatS_cons, h5, List.append_assoc], h6⟩
      rcases List.mem_cons.1 hx with rfl | hx
      · exact ⟨h0, h1⟩
      · exact h4 x hx
theorem splitS_ex {s : Int} (hs : SetOk s) (l : List Int) (hl : ∀ x ∈ l, 0 ≤ x ∧ x < 256) : ∃ ps r, AllIn s ps ∧ l = flatS s ps ++ r ∧ nxS s r = none := splitS_n hs l.length l (Nat.le_refl _) hl
end Go.Proofs.YtlhhbmolkiojfaaDoor
