/-
  A day's name and its comma, taken off a date's words: the contract of takeWeekday.
-/
import Derived.Test.YtomcjkghneingabDoorTm
namespace Go.Proofs.YtomcjkghneingabDoor
open Go.RowKit Go.Shelf
set_option linter.unusedVariables false
set_option linter.unusedSimpArgs false

/-- A day's name and its comma, taken off the words: the weekday, or -1, and the words behind it. -/
def takeZ : List (List Int) → Int × List (List Int)
  | [] => (-1, [])
  | [a] => (-1, [a])
  | a :: b :: r =>
    if wofZ (if a.getLast? = some 44 then a.dropLast else a) = -1 ∨ (a.getLast? ≠ some 44 ∧ b.head? ≠ some 44) then (-1, a :: b :: r)
    else (wofZ (if a.getLast? = some 44 then a.dropLast else a), if a.getLast? = some 44 then b :: r else if b.drop 1 = [] then r else b.drop 1 :: r)
theorem sfx_if {s x : ByteArray} {b : Bool} (h : SfxA 44 s x b) : (b = true ↔ (nums s).getLast? = some 44) ∧ nums x = if (nums s).getLast? = some 44 then (nums s).dropLast else nums s := by
  cases b with
  | true => have e := h.1 rfl; rw [e]; simp
  | false =>
    obtain ⟨rfl, h2⟩ := h.2 rfl
    have : ¬ (nums x).getLast? = some 44 := by
      intro e
      obtain ⟨r, hr⟩ := List.getLast?_eq_some_iff.1 e
      exact h2 r hr
    simp [this]
theorem pfx_if {s x : ByteArray} {b : Bool} (h : PfxA 44 s x b) : (b = true ↔ (nums s).head? = some 44) ∧ (b = true → nums x = (nums s).drop 1) := by
  cases b with
  | true => have e := h.1 rfl; rw [e]; simp
  | false =>
    obtain ⟨rfl, h2⟩ := h.2 rfl
    have : ¬ (nums x).head? = some 44 := by
      intro e
      cases hq : nums x with
      | nil => rw [hq] at e; cases e
      | cons c r => rw [hq] at e; simp at e; exact h2 r (by rw [hq, e])
    simp [this]
theorem take_two (a b : List Int) (r : List (List Int)) : takeZ (a :: b :: r) =
    if wofZ (if a.getLast? = some 44 then a.dropLast else a) = -1 ∨ (a.getLast? ≠ some 44 ∧ b.head? ≠ some 44) then (-1, a :: b :: r)
    else (wofZ (if a.getLast? = some 44 then a.dropLast else a), if a.getLast? = some 44 then b :: r else if b.drop 1 = [] then r else b.drop 1 :: r) := rfl
/-- No word that opens with a comma and says more. -/
def NoD (a b : List Int) : Prop := a.getLast? ≠ some 44 → b.drop 1 = []
def TakeP (W : World) (L : List (List Int)) (e : Ending) (W' : World) : Prop := ∃ a' cap' ys, e = .returned (.tuple #[.int .i64 (takeZ L).1, .slice a' (ys : List ByteArray).length cap']) ∧ ys.map nums = (takeZ L).2 ∧ ys.length ≤ cap' ∧ SRow W' a' ys ∧ Below W.heap.size W W'
theorem SRow.tail {W : World} {g off : Nat} {xs : List ByteArray} (k : Nat) (h : ∀ i x, xs[i]? = some x → W.cell? ⟨g, off + i, none⟩ = some (.string x)) : SRow W (some ⟨g, off + k, none⟩) (xs.drop k) :=
  .inr ⟨g, off + k, rfl, fun i x hx => by rw [List.getElem?_drop] at hx; rw [Nat.add_assoc]; exact h _ _ hx⟩
set_option maxHeartbeats 8000000 in
set_option maxRecDepth 100000 in
theorem take_short (a : Option Addr) (cap : Nat) (xs : List ByteArray) (W : World) (hl : xs.length < 2) (hc : xs.length ≤ cap) (hr : SRow W a xs) : Calls Tryd.prog 13 #[.slice a xs.length cap] W (TakeP W (xs.map nums)) := by
  have HT : Hid (takeZ (xs.map nums) = (-1, xs.map nums)) := by
    unfold Hid
    match xs, hl with
    | [], _ => rfl
    | [x], _ => rfl
  have d1 : decide ((xs.length : Int) < 2) = true := decide_eq_true (by omega)
  have d2 : (xs.length : Int) < 2 := by omega
  go_enter Tryd.func13, Tryd.ntmps13
  go_wp2
  go_ret2
  exact ⟨a, cap, xs, by rw [HT.out] <;> rfl, by rw [HT.out], hc, hr, Below.refl _ _⟩
set_option maxHeartbeats 8000000 in
set_option maxRecDepth 100000 in
theorem take_long (g off cap : Nat) (x y : ByteArray) (r : List ByteArray) (W : World) (hx : x.size ≤ 100000000) (hy : y.size ≤ 100000000) (hn : r.length ≤ 100) (hc : r.length + 2 ≤ cap) (hD : NoD (nums x) (nums y)) (hr : ∀ (i : Nat) (z : ByteArray), (x :: y :: r)[i]? = some z → W.cell? ⟨g, off + i, none⟩ = some (.string z)) (hg : Gl W) :
    Calls Tryd.prog 13 #[.slice (some ⟨g, off, none⟩) (r.length + 2) cap] W (TakeP W ((x :: y :: r).map nums)) := by
  have c0 : W.cell? ⟨g, off, none⟩ = some (.string x) := hr 0 x rfl
  have c1 : W.cell? ⟨g, off + 1, none⟩ = some (.string y) := hr 1 y rfl
  have HR : Hid (∀ (i : Nat) (z : ByteArray), (x :: y :: r)[i]? = some z → W.cell? ⟨g, off + i, none⟩ = some (.string z)) := hr
  have HG : Hid (Gl W) := hg
  have HD : Hid (NoD (nums x) (nums y)) := hD
  have h56 : Calls Tryd.prog 26 #[.string x, .string ⟨#[44]⟩] W _ := cutSuffix_any x 44 W (by omega)
  have h57 : Calls Tryd.prog 27 #[.string y, .string ⟨#[44]⟩] W _ := cutPrefix_any y 44 W (by omega)
  have HTT : Hid (takeZ ((x :: y :: r).map nums) = _) := take_two (nums x) (nums y) (r.map nums)
  obtain ⟨n, hnn⟩ : ∃ n, r.length = n := ⟨_, rfl⟩
  have HN : Hid (r.length = n) := hnn
  rw [hnn] at hn hc ⊢
  have d1 : ¬ (n : Int) + 2 < 2 := by omega
  have d2 : (0 : Int) < (n : Int) + 2 := by omega
  have d3 : (1 : Int) < (n : Int) + 2 := by omega
  have d4 : (1 : Int) ≤ (n : Int) + 2 := by omega
  have d5 : (2 : Int) ≤ (n : Int) + 2 := by omega
  have d6 : (n : Int) + 2 ≤ (cap : Int) := by omega
  clear hr hg hnn hD
  go_enter Tryd.func13, Tryd.ntmps13
  go_wp2_with fail
  refine h56.mono ?_
  clear h56
  rintro e w' ⟨x', b, rfl, hsf, rfl, hxz⟩
  go_wp2_with fail
  refine h57.mono ?_
  clear h57
  rintro e w' ⟨y', b2, rfl, hpf, rfl, hyz⟩
  have h58 := wof_any x' W (by omega) HG.out
  obtain ⟨hb1, hx1⟩ := sfx_if hsf
  obtain ⟨hb2, hy1⟩ := pfx_if hpf
  have HTT2 : Hid (takeZ ((x :: y :: r).map nums) = if wofZ (nums x') = -1 ∨ (b = false ∧ b2 = false) then (-1, (x :: y :: r).map nums) else (wofZ (nums x'), if b = true then (y :: r).map nums else if (nums y).drop 1 = [] then r.map nums else (nums y).drop 1 :: r.map nums)) := by
    unfold Hid
    rw [HTT.out, ← hx1]
    have e1 : ((nums x).getLast? = some 44) = (b = true) := propext hb1.symm
    have e2 : ((nums y).head? = some 44) = (b2 = true) := propext hb2.symm
    simp only [e1, e2, ne_eq, Bool.not_eq_true]
    rfl
  have HND : Hid (b = false → (nums y).drop 1 = []) := fun h => HD.out (fun q => by rw [hb1.2 q] at h; cases h)
  have HY1 : Hid (b2 = true → nums y' = (nums y).drop 1) := hy1
  obtain ⟨wd, hwd⟩ : ∃ wd, wofZ (nums x') = wd := ⟨_, rfl⟩
  rw [hwd] at h58 HTT2
  clear hb1 hx1 hb2 hy1 hsf hpf HTT hwd
  go_wp2_with fail
  refine h58.mono ?_
  clear h58
  rintro e w2 ⟨rfl, hB⟩
  have HB : Hid (Below W.heap.size W w2) := hB
  clear hB c0 c1
  by_cases hA : wd = -1 ∨ (b = false ∧ b2 = false)
  · have HT3 := HTT2.out
    rw [if_pos hA] at HT3
    have HT : Hid (takeZ ((x :: y :: r).map nums) = _) := HT3
    clear HT3 HTT2
    have fin : SRow w2 (some ⟨g, off, none⟩) (x :: y :: r) := .inr ⟨g, off, rfl, fun i z hz => cell_keep HB.out (HR.out i z hz)⟩
    have HF : Hid (TakeP W ((x :: y :: r).map nums) (.returned (.tuple #[.int .i64 (-1), .slice (some ⟨g, off, none⟩) (n + 2) cap])) w2) := ⟨some ⟨g, off, none⟩, cap, x :: y :: r, by rw [HT.out, List.length_cons, List.length_cons, HN.out], by rw [HT.out], by rw [List.length_cons, List.length_cons, HN.out]; omega, fin, HB.out⟩
    clear fin
    rcases hA with rfl | ⟨rfl, rfl⟩
    · go_wp2
      go_ret2
      exact HF.out
    · by_cases hw : wd = -1
      · subst hw
        go_wp2
        go_ret2
        exact HF.out
      · have hw1 : (wd == -1) = false := by simpa using hw
        go_wp2
        go_ret2
        exact HF.out
  · have HT3 := HTT2.out
    rw [if_neg hA] at HT3
    have HT : Hid (takeZ ((x :: y :: r).map nums) = _) := HT3
    clear HT3 HTT2
    have hw : ¬ wd = -1 := fun h => hA (.inl h)
    have hw1 : (wd == -1) = false := by simpa using hw
    cases b with
    | true =>
      have HT4 : Hid (takeZ ((x :: y :: r).map nums) = (wd, (y :: r).map nums)) := HT.out
      have fin : SRow w2 (some ⟨g, off + 1, none⟩) (y :: r) := SRow.tail (xs := x :: y :: r) 1 (fun i z hz => cell_keep HB.out (HR.out i z hz))
      clear HT hA
      have HF : Hid (∀ V, Below W.heap.size W V → SRow V (some ⟨g, off + 1, none⟩) (y :: r) → TakeP W ((x :: y :: r).map nums) (.returned (.tuple #[.int .i64 wd, .slice (some ⟨g, off + 1, none⟩) (n + 1) (cap - 1)])) V) := fun V hV hf => ⟨some ⟨g, off + 1, none⟩, cap - 1, y :: r, by rw [HT4.out, List.length_cons, HN.out], by rw [HT4.out], by rw [List.length_cons, HN.out]; omega, hf, hV⟩
      go_wp2
      go_quiet (fail)
      have HX : Hid (Below W.heap.size W (w2.drewN nq)) := below_drewN HB.out _
      go_wp2
      go_ret2
      exact HF.out _ HX.out fin
    | false =>
      have hb2 : b2 = true := by cases b2 with | true => rfl | false => exact absurd (.inr ⟨rfl, rfl⟩) hA
      subst hb2
      have hy2 := HY1.out rfl
      have hyn : (nums y).drop 1 = [] := HND.out rfl
      have hye : y' = ⟨#[]⟩ := nums_inj (by rw [hy2, hyn]; rfl)
      subst hye
      have HT4 : Hid (takeZ ((x :: y :: r).map nums) = (wd, r.map nums)) := by
        have := HT.out
        rw [if_neg (by decide), if_pos hyn] at this
        exact this
      have fin : SRow w2 (some ⟨g, off + 2, none⟩) r := SRow.tail (xs := x :: y :: r) 2 (fun i z hz => cell_keep HB.out (HR.out i z hz))
      have HF : Hid (∀ V o, Below W.heap.size W V → SRow V (some ⟨g, o, none⟩) r → TakeP W ((x :: y :: r).map nums) (.returned (.tuple #[.int .i64 wd, .slice (some ⟨g, o, none⟩) n (cap - 2)])) V) := fun V o hV hf => ⟨some ⟨g, o, none⟩, cap - 2, r, by rw [HT4.out, HN.out], by rw [HT4.out], by rw [HN.out]; omega, hf, hV⟩
      clear HT hA hy2 hyn
      by_cases h2 : cap = 2
      · subst h2
        obtain rfl : n = 0 := by omega
        have hrn : r = [] := List.eq_nil_of_length_eq_zero (by have := HN.out; omega)
        go_wp2
        go_quiet (fail)
        have HX : Hid (Below W.heap.size W (w2.drewN nq)) := below_drewN HB.out _
        go_wp2
        go_ret2
        exact HF.out _ _ HX.out (.inl hrn)
      · have h3 : ¬ cap - 2 = 0 := by omega
        go_wp2
        go_quiet (fail)
        have HX : Hid (Below W.heap.size W (w2.drewN nq)) := below_drewN HB.out _
        go_wp2
        go_ret2
        exact HF.out _ _ HX.out fin
end Go.Proofs.YtomcjkghneingabDoor
