/-
  Lines as they come in; are they too great?
-/
import Derived.Test.YtenclgnkogmgiaaDoorWr
import Derived.Deep.SlicePairs
import Derived.WideShapes
import Derived.OpenShut
import Derived.SizedLaws
namespace Go.Proofs.YtenclgnkogmgiaaDoor
open Go.RowKit Go.ChangeShapes Go.WideShapes
set_option linter.unusedVariables false

theorem Tryd.two65 : Tryd.prog.cellsOf 65 = 2 := by kernel_rfl
theorem Tryd.one9 : Tryd.prog.cellsOf 9 = 1 := by kernel_rfl
theorem Tryd.one37 : Tryd.prog.cellsOf 37 = 1 := by kernel_rfl
theorem Tryd.three32 : Tryd.prog.cellsOf 39 = 3 := by kernel_rfl
theorem mem_weightsAll {H : Type} {P : Program} {e : TypeId} {x : DataW H} {n : Nat} (hn : n ∈ x.weights P e) : ∀ {l : List (DataW H)}, x ∈ l → n ∈ DataW.weightsAll P e l
  | [], h => by cases h
  | y :: l, h => by
    rw [DataW.weightsAll, List.mem_append]
    rcases List.mem_cons.1 h with rfl | h
    · exact .inl hn
    · exact .inr (mem_weightsAll hn h)
theorem reach_le {n : Nat} (h : n ≤ reachBytes) : n ≤ 140737488355328 := Nat.le_trans h (Nat.le_of_lt (by have := reachBytes_lt; omega))
/-- A line whose texts can be held. -/
def Wide (m : Lm) : Prop := m.nm.size ≤ 140737488355328 ∧ m.vl.size ≤ 140737488355328 ∧ m.fs.length ≤ 9223372036854775807 ∧ ∀ f ∈ m.fs, f.1.size ≤ 140737488355328 ∧ f.2.size ≤ 140737488355328
/-- A list of lines that came in. -/
def IsLs (W : World) (a : Option Addr) (len : Nat) (ls : List Lm) : Prop := ls.length = len ∧ len ≤ 9223372036854775807 ∧ LRow W a ls ∧ ∀ m ∈ ls, Wide m
theorem pars_arg {H : Type} {enc : TypeId × Value → H} {W : World} {base n : Nat} {sp : Nat → Bool} {held : Bool} {c1 : Value} {y2 : DataW H × List MemPlace} (g2 : DataW.trod enc Tryd.prog W base sp held n 37 [c1] = some y2) (hwy : ∀ n, n ∈ y2.1.weights Tryd.prog 37 → n ≤ reachBytes) :
    ∃ a cap fs, c1 = .slice a fs.length cap ∧ FRow W a fs ∧ fs.length ≤ 9223372036854775807 ∧ ∀ f ∈ fs, f.1.size ≤ 140737488355328 ∧ f.2.size ≤ 140737488355328 := by
  rcases Go.Deep.open_slice_pairs Tryd.underlying37 Tryd.underlying65 Tryd.two65 rfl rfl Tryd.one9 Tryd.one9 g2 with ⟨hcs, _⟩ | ⟨x, len, cap, m, n', V0, V1, D0, D1, P0, P1, hcs, _, hl, hm, hmm, hy, hx⟩
  · simp at hcs
    subst hcs
    exact ⟨none, 0, [], rfl, .inl rfl, by simp, by intro f hf; cases hf⟩
  · simp at hcs
    subst hcs
    have hlm : len ≤ m := by rw [hmm]; split <;> omega
    have each : ∀ i, i < len → ∃ f : ByteArray × ByteArray, (W.cell? (x.add (i * 2)) = some (.string f.1) ∧ W.cell? (x.add (i * 2 + 1)) = some (.string f.2)) ∧ f.1.size ≤ reachBytes ∧ f.2.size ≤ reachBytes := by
      intro i hi
      obtain ⟨h0, h1, t0, t1⟩ := hx i (by omega)
      obtain ⟨s0, q0, p0, z0⟩ := DataW.trod_string Tryd.underlying9 t0
      obtain ⟨s1, q1, p1, z1⟩ := DataW.trod_string Tryd.underlying9 t1
      simp at q0 q1
      rw [q0] at h0
      rw [q1] at h1
      have hD : (.agg [.lit (.string s0.data.toList), .lit (.string s1.data.toList)] : DataW H) ∈ (List.range len).map fun i => .agg [D0 i, D1 i] := by
        rw [List.mem_map]
        refine ⟨i, List.mem_range.2 hi, ?_⟩
        have k0 : D0 i = _ := congrArg Prod.fst p0
        have k1 : D1 i = _ := congrArg Prod.fst p1
        rw [k0, k1]
      have hin : ∀ n, n ∈ (.agg [.lit (.string s0.data.toList), .lit (.string s1.data.toList)] : DataW H).weights Tryd.prog 65 → n ≤ reachBytes := by
        intro n hn
        apply hwy n
        have k2 : y2.1 = _ := congrArg Prod.fst hy
        rw [k2]
        simp only [DataW.weights, Tryd.underlying37]
        exact List.mem_cons_of_mem _ (List.mem_append_left _ (mem_weightsAll hn hD))
      have hwe : ∀ n, n ∈ (.lit (.string s0.data.toList) : DataW H).weights Tryd.prog 9 ++ ((.lit (.string s1.data.toList) : DataW H).weights Tryd.prog 9 ++ []) → n ≤ reachBytes := by
        intro n hn
        apply hin n
        simp only [DataW.weights, Tryd.underlying65]
        exact hn
      exact ⟨(s0, s1), ⟨h0, h1⟩, hwe _ (by simp [DataW.weights]), hwe _ (by simp [DataW.weights])⟩
    obtain ⟨q, hq⟩ := Go.Deep.choose_lt each
    refine ⟨some x, cap, (List.range len).map q, by simp, ?_, by simp; unfold maxLen at hm; omega, ?_⟩
    · by_cases h0 : len = 0
      · exact .inl (by simp [h0])
      · obtain ⟨b, off, spot⟩ := x
        have hspot : spot = none := by simpa [Addr.add] using World.cell?_spot (hq 0 (by omega)).1.1
        subst hspot
        refine .inr ⟨b, off, rfl, fun i f hf => ?_⟩
        have hi : i < len := by
          rcases Nat.lt_or_ge i len with h | h
          · exact h
          · rw [List.getElem?_eq_none (by simpa using h)] at hf; simp at hf
        rw [List.getElem?_map, List.getElem?_range hi] at hf
        simp at hf
        subst hf
        have := (hq i hi).1
        rw [add_plain, add_plain] at this
        exact ⟨this.1, by rw [Nat.add_assoc]; exact this.2⟩
    · intro f hf
      obtain ⟨i, hi, rfl⟩ := List.mem_map.1 hf
      have := (hq i (List.mem_range.1 hi)).2
      exact ⟨reach_le this.1, reach_le this.2⟩
set_option maxRecDepth 100000 in
theorem lines_arg {H : Type} {enc : TypeId × Value → H} {W : World} {base : Nat} {sp : Nat → Bool} {held : Bool} {a : Option Addr} {len cap : Nat} {x : DataW H} {ps : List MemPlace} (h : DataW.Trod enc Tryd.prog W base sp held 22 (.slice a len cap) x ps) (hw : ∀ n, n ∈ x.weights Tryd.prog 22 → n ≤ reachBytes) :
    ∃ ls, IsLs W a len ls := by
  obtain ⟨fuel, hf⟩ := h
  rcases Go.Deep.open_slice Tryd.underlying22 hf with ⟨hcs, _⟩ | ⟨y, l, c, m, n, D, Pl, hcs, _, hl, hm, hmm, hy, hx⟩
  · simp [Value.cells] at hcs
    obtain ⟨rfl, rfl, rfl⟩ := hcs
    exact ⟨[], rfl, by simp, .inl rfl, by intro f hf; cases hf⟩
  · simp [Value.cells] at hcs
    obtain ⟨rfl, rfl, rfl⟩ := hcs
    have hlm : len ≤ m := by rw [hmm]; split <;> omega
    have each : ∀ i, i < len → ∃ f : Lm, (W.cell? (y.add (i * 3)) = some (.string f.nm) ∧ W.cell? (y.add (i * 3 + 1)) = some (.slice f.a f.fs.length f.c) ∧ W.cell? (y.add (i * 3 + 2)) = some (.string f.vl)) ∧ FRow W f.a f.fs ∧ Wide f := by
      intro i hi
      obtain ⟨cs', h1, h2⟩ := hx i (by omega)
      rw [Tryd.three32] at h1
      obtain ⟨_, hlen, hcell⟩ := World.cells?_some h1
      obtain ⟨xs, k, hk, hxy, _, hxl, hfd⟩ := DataW.trod_struct Tryd.underlying39 h2
      match xs, hxl, cs', hlen with
      | [y0, y1, y2], _, [v0, v1, v2], _ =>
        have g0 : DataW.trod enc Tryd.prog W base sp held k 9 ((([v0, v1, v2] : List Value).drop 0).take (Tryd.prog.cellsOf 9)) = some y0 := hfd 0 _ rfl
        have g1 : DataW.trod enc Tryd.prog W base sp held k 37 ((([v0, v1, v2] : List Value).drop 1).take (Tryd.prog.cellsOf 37)) = some y1 := hfd 1 _ rfl
        have g2 : DataW.trod enc Tryd.prog W base sp held k 9 ((([v0, v1, v2] : List Value).drop 2).take (Tryd.prog.cellsOf 9)) = some y2 := hfd 2 _ rfl
        rw [Tryd.one9] at g0 g2
        rw [Tryd.one37] at g1
        obtain ⟨s, e0, f0, z0⟩ := DataW.trod_string Tryd.underlying9 g0
        obtain ⟨q, e2, f2, z2⟩ := DataW.trod_string Tryd.underlying9 g2
        simp at e0 e2
        subst f0
        subst f2
        have c0 := hcell 0 (by simp)
        have c1 := hcell 1 (by simp)
        have c2 := hcell 2 (by simp)
        rw [Go.Deep.add_add] at c0 c1 c2
        have hd2 : D i = .agg [.lit (.string s.data.toList), y1.1, .lit (.string q.data.toList)] := by
          have := congrArg Prod.fst hxy
          simpa using this
        have hD : D i ∈ (List.range len).map D := List.mem_map.2 ⟨i, List.mem_range.2 hi, rfl⟩
        have hin : ∀ n, n ∈ (D i).weights Tryd.prog 39 → n ≤ reachBytes := by
          intro n hn
          apply hw n
          have k2 : x = _ := congrArg Prod.fst hy
          rw [k2]
          simp only [DataW.weights, Tryd.underlying22]
          exact List.mem_cons_of_mem _ (List.mem_append_left _ (mem_weightsAll hn hD))
        rw [hd2] at hin
        have hwe : ∀ n, n ∈ (.lit (.string s.data.toList) : DataW H).weights Tryd.prog 9 ++ (y1.1.weights Tryd.prog 37 ++ ((.lit (.string q.data.toList) : DataW H).weights Tryd.prog 9 ++ [])) → n ≤ reachBytes := by
          intro n hn
          apply hin n
          simp only [DataW.weights, Tryd.underlying39]
          exact hn
        obtain ⟨pa, pc, fs, e1, hfr, hfl, hfz⟩ := pars_arg (c1 := v1) (by simpa using g1) (fun n hn => hwe n (by simp [hn]))
        have hs : s.size ≤ reachBytes := hwe _ (by simp [DataW.weights])
        have hq : q.size ≤ reachBytes := hwe _ (by simp [DataW.weights])
        refine ⟨⟨s, q, pa, pc, fs⟩, ⟨?_, ?_, ?_⟩, hfr, reach_le hs, reach_le hq, hfl, hfz⟩
        · simpa [e0] using c0
        · simpa [e1] using c1
        · simpa [e2] using c2
    have : Inhabited Lm := ⟨⟨⟨#[]⟩, ⟨#[]⟩, none, 0, []⟩⟩
    obtain ⟨q, hq⟩ := Go.Deep.choose_lt each
    refine ⟨(List.range len).map q, by simp, by unfold maxLen at hm; omega, ?_, ?_⟩
    · by_cases h0 : len = 0
      · exact .inl (by simp [h0])
      · obtain ⟨b, off, spot⟩ := y
        have hspot : spot = none := by simpa [Addr.add] using World.cell?_spot (hq 0 (by omega)).1.1
        subst hspot
        refine .inr ⟨b, off, rfl, fun i f hf => ?_⟩
        have hi : i < len := by
          rcases Nat.lt_or_ge i len with h | h
          · exact h
          · rw [List.getElem?_eq_none (by simpa using h)] at hf; simp at hf
        rw [List.getElem?_map, List.getElem?_range hi] at hf
        simp at hf
        subst hf
        have := (hq i hi).1
        rw [add_plain, add_plain, add_plain] at this
        exact ⟨⟨this.1, by rw [Nat.add_assoc]; exact this.2.1, by rw [Nat.add_assoc]; exact this.2.2⟩, (hq i hi).2.1⟩
    · intro f hf
      obtain ⟨i, hi, rfl⟩ := List.mem_map.1 hf
      exact (hq i (List.mem_range.1 hi)).2.2
/-- A line that is not great. -/
def Smally (m : Lm) : Prop := m.nm.size ≤ 300 ∧ m.vl.size ≤ 5000 ∧ m.fs.length ≤ 30 ∧ ∀ f ∈ m.fs, f.1.size + f.2.size ≤ 500
theorem Smally.fit {m : Lm} (h : Smally m) : Fitm m := ⟨by have := h.1; omega, by have := h.2.1; omega, by have := h.2.2.1; omega, fun f hf => by have := h.2.2.2 f hf; omega⟩
end Go.Proofs.YtenclgnkogmgiaaDoor
