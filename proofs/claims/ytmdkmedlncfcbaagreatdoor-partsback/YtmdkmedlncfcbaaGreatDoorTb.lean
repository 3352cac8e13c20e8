/-
  A knot's content: its lines, without pairs and blanks at their ends; what stands between its borders.
-/
import Derived.Test.YtmdkmedlncfcbaaGreatDoorShelfC
import Derived.Test.YtmdkmedlncfcbaaGreatDoorBg
namespace Go.Proofs.YtmdkmedlncfcbaaGreatDoor
open Go.RowKit Go.Shelf
set_option linter.unusedVariables false
attribute [local go_sem] Oper.semAt_some

def endsZ (l : List Int) : Bool := decide (2 ≤ l.length ∧ l.drop (l.length - 2) = [13, 10])
def stemZ (q : List Int) : List Int := if endsZ q = true then q.take (q.length - 2) else q
/-- A line, without its pair, and without the blanks at its end. -/
def bareZ (q : List Int) : List Int := trimR (stemZ q)
theorem suffix_ends {l : List Int} (h : Byt l) : Lib.hasSuffix (Lib.bytesOf l) (Lib.bytesOf [13, 10]) = endsZ l := by
  unfold Lib.hasSuffix endsZ
  rw [Bool.eq_iff_iff, List.isSuffixOf_iff_suffix, decide_eq_true_eq]
  have e2 : Lib.bytesOf [13, 10] = [13, 10] := rfl
  rw [e2, List.suffix_iff_eq_drop]
  have hlen : (Lib.bytesOf l).length = l.length := by unfold Lib.bytesOf; rw [List.length_map]
  rw [hlen]
  constructor
  · intro hh
    have h2 : 2 ≤ l.length := by
      have := congrArg List.length hh
      rw [List.length_drop, hlen] at this
      simp at this; omega
    refine ⟨h2, ?_⟩
    have h3 := congrArg (List.map fun b : UInt8 => (b.toNat : Int)) hh
    unfold Lib.bytesOf at h3
    simp only [List.length_cons, List.length_nil, Nat.reduceAdd] at h3
    rw [← List.map_drop, bytesOf_nums' _ (h.drop _)] at h3
    exact h3.symm
  · rintro ⟨h2, hh⟩
    unfold Lib.bytesOf
    simp only [List.length_cons, List.length_nil, Nat.reduceAdd]
    rw [← List.map_drop, hh]
    rfl
theorem trimSuffix_any (a p : Option Addr) (n c c2 : Nat) (l : List Int) (w : World) (hl : l.length = n) (hb : Byt l) (hr : Row w a l) (hp : Row w p [13, 10]) (hc : n ≤ c) (hn : n ≤ 10000000) :
    Calls Tryz.prog 68 #[.slice a n c, .slice p 2 c2] w fun e w' => e = .returned (.slice a (stemZ l).length c) ∧ w' = w := by
  have h := bytes_TrimSuffix_all a p n c 2 c2 l [13, 10] w hl rfl hc (by omega) (by rw [← hl]; exact bytesIn_row hr) (bytesIn_row hp)
  have e : Lib.trimSuffixV a n c l [13, 10] = .slice a (stemZ l).length c := by
    have key : ∀ b o, Lib.bytesTrimSuffix b o n c l [13, 10] = .slice (some ⟨b, o, none⟩) (stemZ l).length c := by
      intro b o
      unfold Lib.bytesTrimSuffix stemZ Lib.sliceTo
      rw [suffix_ends hb]
      split
      · rw [List.length_take, Nat.min_eq_left (by omega), hl]
        rfl
      · rw [hl]
    rcases hr with rfl | ⟨b, off, rfl, _⟩
    · unfold Lib.trimSuffixV
      split
      · exact key _ _
      · have : (stemZ []).length = 0 := by decide
        rw [this, ← hl]; rfl
    · exact key b off
  rw [e] at h
  exact h
set_option maxRecDepth 100000 in
theorem info_setW : (Tryz.prog.info? (laysSlV7_ren.t 27)).map (fun i => (i.zero, i.size)) = some (some (.agg (Array.replicate 256 (.bool false))), 256) := by kernel_rfl
set_option maxRecDepth 100000 in
theorem trimRight_any (a : Option Addr) (n c : Nat) (l : List Int) (w : World) (hl : l.length = n) (hnc : n ≤ c) (hbig : c ≤ 9223372036854775807) (hr : Row w a l) (hb : Byt l) :
    Calls Tryz.prog 67 #[.slice a n c, .string ⟨#[32, 9]⟩] w fun e w' => e = .returned (.slice a (trimR l).length c) ∧ Below w.heap.size w w' := by
  have h := Any.bytes_TrimRight_laid laysSlV7 info_setW a n c l ⟨#[32, 9]⟩ w hl hnc hbig (by rw [← hl]; exact bytesIn_row hr) hb (by decide) (ascii_of_all (by decide))
  have e1 : (Lib.trimRightS (Lib.bytesOf l) [32, 9]).length = (trimR l).length := by
    rw [← bytesOf_nums hb, ← map_trimR, List.length_map, bytesOf_nums hb]
  simp only [e1] at h
  exact h
theorem stem_take (q : List Int) : ∃ m, m ≤ q.length ∧ stemZ q = q.take m := by
  unfold stemZ
  split
  · exact ⟨q.length - 2, by omega, rfl⟩
  · exact ⟨q.length, Nat.le_refl _, by simp⟩
theorem trimR_take (l : List Int) : trimR l = l.take (trimR l).length := List.prefix_iff_eq_take.1 (trimR_prefix l)
theorem bare_take (q : List Int) : bareZ q = q.take (bareZ q).length := by
  obtain ⟨m, hm, e⟩ := stem_take q
  unfold bareZ
  have h1 := trimR_take (stemZ q)
  conv => lhs; rw [h1]
  have hle := (trimR_prefix (stemZ q)).length_le
  rw [e] at hle ⊢
  rw [List.take_take, List.length_take] at *
  congr 1
  omega
theorem sbV_at2 : ∀ (f : Nat) (l : List Int) (a : Option Addr) (cap k : Nat) (x : Array Value), l.length ≤ cap → (sbV 2 a cap (splitP f l))[k]? = some x → ∃ q a', (splitP f l)[k]? = some q ∧ x = #[.slice a' q.length q.length] ∧ (∀ V, Row V a l → Row V a' q)
  | 0, l, a, cap, k, x, hc, h => by
    rw [splitP, sbV, if_pos rfl] at h
    rw [splitP]
    cases k with
    | zero => simp at h; exact ⟨l, a, rfl, h.symm, fun _ q => q⟩
    | succ k => simp at h
  | f + 1, l, a, cap, k, x, hc, h => by
    by_cases hp : 0 ≤ pairI l
    · obtain ⟨i, hi⟩ : ∃ i : Nat, pairI l = i := ⟨(pairI l).toNat, by omega⟩
      have hrm := pairI_room l hp
      rw [sbV_pair hi (by omega)] at h
      rw [splitP_pair hi]
      cases k with
      | zero =>
        simp at h
        exact ⟨l.take (i + 2), a, rfl, by rw [← h, List.length_take, Nat.min_eq_left (by omega)], fun V hV => row_take (i + 2) hV⟩
      | succ k =>
        simp only [List.getElem?_cons_succ] at h ⊢
        obtain ⟨q, a', h1, h2, h3⟩ := sbV_at2 f _ _ _ k x (by rw [List.length_drop]; omega) h
        exact ⟨q, a', h1, h2, fun V hV => h3 V (row_drop hV hc)⟩
    · rw [sbV_last hp] at h
      rw [splitP, if_neg hp]
      cases k with
      | zero => simp at h; exact ⟨l, a, rfl, h.symm, fun _ q => q⟩
      | succ k => simp at h
theorem split_flat : ∀ (n : Nat) (l : List Int), (splitP n l).flatten = l
  | 0, l => by simp [splitP]
  | n + 1, l => by
    rw [splitP]
    split
    · rw [List.flatten_cons, split_flat n, List.take_append_drop]
    · simp
/-- What stands between the borders: where each part begins and ends. -/
def betwL (nx : List Int) : Nat → Nat → Bool → List (Nat × Nat) → List (List Int) → Option (List (Nat × Nat))
  | _, _, _, _, [] => none
  | p, bg, op, out, q :: r =>
    if op = true ∧ bareZ q = nx ++ [45, 45] then some (out ++ [(bg, max bg (p - 2))])
    else betwL nx (p + q.length) (if bareZ q = nx then p + q.length else bg) (op || decide (bareZ q = nx)) (if op = true ∧ bareZ q = nx then out ++ [(bg, max bg (p - 2))] else out) r
def betw (l bd : List Int) : Option (List (Nat × Nat)) := betwL (45 :: 45 :: bd) 0 0 false [] (splitP l.length l)
/-- A piece of a slice. -/
def cutV (a : Option Addr) (c : Nat) (p : Nat × Nat) : Value := .slice (dropA a c p.1) (p.2 - p.1) (c - p.1)
end Go.Proofs.YtmdkmedlncfcbaaGreatDoor
