/-
  Kinds as they come in.
-/
import Derived.Test.YtfhgkkdbkbbpkaaDoorRight
import Derived.Deep.SlicePairs
import Derived.WideShapes
import Derived.OpenShut
import Derived.SizedLaws
namespace Go.Proofs.YtfhgkkdbkbbpkaaDoor
open Go.RowKit Go.ChangeShapes Go.WideShapes
set_option linter.unusedVariables false

theorem Tryd.two37 : Tryd.prog.cellsOf 37 = 2 := by kernel_rfl
theorem Tryd.one9 : Tryd.prog.cellsOf 9 = 1 := by kernel_rfl
theorem Tryd.one22 : Tryd.prog.cellsOf 22 = 1 := by kernel_rfl
theorem Tryd.three24 : Tryd.prog.cellsOf 24 = 3 := by kernel_rfl
theorem mem_weightsAll {H : Type} {P : Program} {e : TypeId} {x : DataW H} {n : Nat} (hn : n ∈ x.weights P e) : ∀ {l : List (DataW H)}, x ∈ l → n ∈ DataW.weightsAll P e l
  | [], h => by cases h
  | y :: l, h => by
    rw [DataW.weightsAll, List.mem_append]
    rcases List.mem_cons.1 h with rfl | h
    · exact .inl hn
    · exact .inr (mem_weightsAll hn h)
/-- A list of parameters that came in. -/
def IsK (W : World) (ty sub : ByteArray) (a : Option Addr) (len : Nat) (fs : List (ByteArray × ByteArray)) : Prop :=
  fs.length = len ∧ len ≤ 9223372036854775807 ∧ FRow W a fs ∧ ty.size ≤ 140737488355328 ∧ sub.size ≤ 140737488355328 ∧ ∀ f ∈ fs, f.1.size ≤ 140737488355328 ∧ f.2.size ≤ 140737488355328
theorem reach_le {n : Nat} (h : n ≤ reachBytes) : n ≤ 140737488355328 := Nat.le_trans h (Nat.le_of_lt (by have := reachBytes_lt; omega))
set_option maxRecDepth 100000 in
theorem kind_arg {H : Type} {enc : TypeId × Value → H} {W : World} {base b0 : Nat} {sp : Nat → Bool} {held : Bool} {v : Value} {d : DataW H} {ps : List MemPlace} {r : Reach} (hv : Value.okWide Tryd.prog W r b0 24 v) (h : DataW.Trod enc Tryd.prog W base sp held 24 v d ps) (hw : ∀ n ∈ d.weights Tryd.prog 24, n ≤ reachBytes) :
    ∃ ty sub a len cap fs, v = .agg #[.string ty, .string sub, .slice a len cap] ∧ IsK W ty sub a len fs := by
  obtain ⟨cs, rfl, hsz⟩ := okWide_struct Tryd.underlying24 hv
  rw [Tryd.three24] at hsz
  obtain ⟨fuel, hf⟩ := h
  obtain ⟨xs, n, rfl, hd, hlen, hxl, hx⟩ := DataW.trod_struct Tryd.underlying24 hf
  obtain ⟨c0, c1, c2, rfl⟩ : ∃ c0 c1 c2, cs = #[c0, c1, c2] := by
    obtain ⟨l⟩ := cs
    match l, hsz with
    | [c0, c1, c2], _ => exact ⟨c0, c1, c2, rfl⟩
  match xs, hxl with
  | [y0, y1, y2], _ =>
    have g0 : DataW.trod enc Tryd.prog W base sp held n 9 ((([c0, c1, c2] : List Value).drop 0).take (Tryd.prog.cellsOf 9)) = some y0 := hx 0 _ rfl
    have g1 : DataW.trod enc Tryd.prog W base sp held n 9 ((([c0, c1, c2] : List Value).drop 1).take (Tryd.prog.cellsOf 9)) = some y1 := hx 1 _ rfl
    have g2 : DataW.trod enc Tryd.prog W base sp held n 22 ((([c0, c1, c2] : List Value).drop 2).take (Tryd.prog.cellsOf 22)) = some y2 := hx 2 _ rfl
    rw [Tryd.one9] at g0 g1
    rw [Tryd.one22] at g2
    obtain ⟨s, e0, f0, z0⟩ := DataW.trod_string Tryd.underlying9 g0
    obtain ⟨t, e1, f1, z1⟩ := DataW.trod_string Tryd.underlying9 g1
    simp at e0 e1
    subst f0
    subst f1
    have hd2 : d = .agg [.lit (.string s.data.toList), .lit (.string t.data.toList), y2.1] := by
      have := congrArg Prod.fst hd
      simpa using this
    subst hd2
    have hwe : ∀ n, n ∈ (.lit (.string s.data.toList) : DataW H).weights Tryd.prog 9 ++ ((.lit (.string t.data.toList) : DataW H).weights Tryd.prog 9 ++ (y2.1.weights Tryd.prog 22 ++ [])) → n ≤ reachBytes := by
      intro n hn
      apply hw n
      simp only [DataW.weights, Tryd.underlying24]
      exact hn
    have hs : s.size ≤ reachBytes := hwe _ (by simp [DataW.weights])
    have ht : t.size ≤ reachBytes := hwe _ (by simp [DataW.weights])
    have hwy : ∀ n, n ∈ y2.1.weights Tryd.prog 22 → n ≤ reachBytes := fun n hn => hwe n (by simp [hn])
    clear hwe hw hd hf hx hv
    rcases Go.Deep.open_slice_pairs Tryd.underlying22 Tryd.underlying37 Tryd.two37 rfl rfl Tryd.one9 Tryd.one9 g2 with ⟨hcs, _⟩ | ⟨x, len, cap, m, n', V0, V1, D0, D1, P0, P1, hcs, _, hl, hm, hmm, hy, hx⟩
    · simp at hcs
      subst hcs
      exact ⟨s, t, none, 0, 0, [], by rw [e0, e1], rfl, by omega, .inl rfl, reach_le hs, reach_le ht, by intro f hf; cases hf⟩
    · simp at hcs
      subst hcs
      have hlm : len ≤ m := by rw [hmm]; split <;> omega
      have each : ∀ i, i < len → ∃ f : ByteArray × ByteArray, (W.cell? (x.add (i * 2)) = some (.string f.1) ∧ W.cell? (x.add (i * 2 + 1)) = some (.string f.2)) ∧ f.1.size ≤ reachBytes ∧ f.2.size ≤ reachBytes := by
        intro i hi
        obtain ⟨h0, h1, t0, t1⟩ := hx i (by omega)
        obtain ⟨s0, q0, p0, z0⟩ := DataW.trod_string Tryd.underlying9 t0
        obtain ⟨s1, q1, p1, z1⟩ := DataW.trod_string Tryd.underlying9 t1
        simp at q0 q1
        rw [q0] at h0
        rw [q1] at h1
        have hD : (.agg [.lit (.string s0.data.toList), .lit (.string s1.data.toList)] : DataW H) ∈ (List.range len).map fun i => .agg [D0 i, D1 i] := by
          rw [List.mem_map]
          refine ⟨i, List.mem_range.2 hi, ?_⟩
          have k0 : D0 i = _ := congrArg Prod.fst p0
          have k1 : D1 i = _ := congrArg Prod.fst p1
          rw [k0, k1]
        have hin : ∀ n ∈ (.agg [.lit (.string s0.data.toList), .lit (.string s1.data.toList)] : DataW H).weights Tryd.prog 37, n ≤ reachBytes := by
          intro n hn
          apply hwy n
          have k2 : y2.1 = _ := congrArg Prod.fst hy
          rw [k2]
          simp only [DataW.weights, Tryd.underlying22]
          exact List.mem_cons_of_mem _ (List.mem_append_left _ (mem_weightsAll hn hD))
        have hwe : ∀ n, n ∈ (.lit (.string s0.data.toList) : DataW H).weights Tryd.prog 9 ++ ((.lit (.string s1.data.toList) : DataW H).weights Tryd.prog 9 ++ []) → n ≤ reachBytes := by
          intro n hn
          apply hin n
          simp only [DataW.weights, Tryd.underlying37]
          exact hn
        exact ⟨(s0, s1), ⟨h0, h1⟩, hwe _ (by simp [DataW.weights]), hwe _ (by simp [DataW.weights])⟩
      obtain ⟨q, hq⟩ := Go.Deep.choose_lt each
      refine ⟨s, t, some x, len, cap, (List.range len).map q, by rw [e0, e1], by simp, by unfold maxLen at hm; omega, ?_, reach_le hs, reach_le ht, ?_⟩
      · by_cases h0 : len = 0
        · exact .inl (by simp [h0])
        · obtain ⟨b, off, spot⟩ := x
          have hspot : spot = none := by simpa [Addr.add] using World.cell?_spot (hq 0 (by omega)).1.1
          subst hspot
          refine .inr ⟨b, off, rfl, fun i f hf => ?_⟩
          have hi : i < len := by
            rcases Nat.lt_or_ge i len with h | h
            · exact h
            · rw [List.getElem?_eq_none (by simpa using h)] at hf; simp at hf
          rw [List.getElem?_map, List.getElem?_range hi] at hf
          simp at hf
          subst hf
          have := (hq i hi).1
          rw [add_plain, add_plain] at this
          exact ⟨this.1, by rw [Nat.add_assoc]; exact this.2⟩
      · intro f hf
        obtain ⟨i, hi, rfl⟩ := List.mem_map.1 hf
        have := (hq i (List.mem_range.1 hi)).2
        exact ⟨reach_le this.1, reach_le this.2⟩
end Go.Proofs.YtfhgkkdbkbbpkaaDoor
