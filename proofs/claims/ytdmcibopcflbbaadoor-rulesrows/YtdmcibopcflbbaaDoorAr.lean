/-
  Messages and marks as they come in.
-/
import Derived.Test.YtdmcibopcflbbaaDoorAl
import Derived.Deep.SlicePairs
import Derived.WideShapes
import Derived.OpenShut
import Derived.HandedShaped
namespace Go.Proofs.YtdmcibopcflbbaaDoor
open Go.RowKit Go.ChangeShapes Go.WideShapes
set_option linter.unusedVariables false

theorem Tryd.two43 : Tryd.prog.cellsOf 43 = 2 := by kernel_rfl
theorem Tryd.two36 : Tryd.prog.cellsOf 36 = 2 := by kernel_rfl
theorem Tryd.all24 : Tryd.prog.cellsOf 24 = 11 := by kernel_rfl
theorem Tryd.one9 : Tryd.prog.cellsOf 9 = 1 := by kernel_rfl
theorem Tryd.one2 : Tryd.prog.cellsOf 2 = 1 := by kernel_rfl
theorem Tryd.one3 : Tryd.prog.cellsOf 3 = 1 := by kernel_rfl
theorem Tryd.one22 : Tryd.prog.cellsOf 22 = 1 := by kernel_rfl
/-- A list of attendees that came in. -/
def IsFs (w : World) (a : Option Addr) (len : Nat) (fs : List (ByteArray × ByteArray)) : Prop :=
  fs.length = len ∧ FRow w a fs ∧ ∀ f ∈ fs, f.1.size ≤ 140737488355328 ∧ f.2.size ≤ 140737488355328
theorem reach_le {n : Nat} (h : n ≤ reachBytes) : n ≤ 140737488355328 := Nat.le_trans h (Nat.le_of_lt (by have := reachBytes_lt; omega))
theorem mem_weightsAll {H : Type} {P : Program} {e : TypeId} {x : DataW H} {n : Nat} (hn : n ∈ x.weights P e) : ∀ {l : List (DataW H)}, x ∈ l → n ∈ DataW.weightsAll P e l
  | [], h => by cases h
  | y :: l, h => by
    rw [DataW.weightsAll, List.mem_append]
    rcases List.mem_cons.1 h with rfl | h
    · exact .inl hn
    · exact .inr (mem_weightsAll hn h)
set_option maxRecDepth 100000 in
theorem fields_arg {H : Type} {enc : TypeId × Value → H} {W : World} {base : Nat} {sp : Nat → Bool} {held : Bool} {a : Option Addr} {len cap : Nat} {x : DataW H} {ps : List MemPlace} (h : DataW.Trod enc Tryd.prog W base sp held 22 (.slice a len cap) x ps) (hw : ∀ n ∈ x.weights Tryd.prog 22, n ≤ reachBytes) :
    ∃ fs, IsFs W a len fs := by
  obtain ⟨fuel, hf⟩ := h
  rcases Go.Deep.open_slice Tryd.underlying22 hf with ⟨hcs, _⟩ | ⟨y, l, c, m, n, D, Pl, hcs, _, hl, hm, hmm, hy, hx⟩
  · simp [Value.cells] at hcs
    obtain ⟨rfl, rfl, rfl⟩ := hcs
    exact ⟨[], rfl, .inl rfl, by simp⟩
  · simp [Value.cells] at hcs
    obtain ⟨rfl, rfl, rfl⟩ := hcs
    have hlm : len ≤ m := by rw [hmm]; split <;> omega
    have each : ∀ i, i < len → ∃ f : ByteArray × ByteArray, (W.cell? (y.add (i * 2)) = some (.string f.1) ∧ W.cell? (y.add (i * 2 + 1)) = some (.string f.2)) ∧ f.1.size ≤ reachBytes ∧ f.2.size ≤ reachBytes := by
      intro i hi
      obtain ⟨cs', h1, h2⟩ := hx i (by omega)
      rw [Tryd.two43] at h1
      obtain ⟨_, hlen, hcell⟩ := World.cells?_some h1
      obtain ⟨xs, k, hk, hxy, _, hxl, hfd⟩ := DataW.trod_struct Tryd.underlying43 h2
      match xs, hxl, cs', hlen with
      | [y0, y1], _, [v0, v1], _ =>
        have g0 : DataW.trod enc Tryd.prog W base sp held k 9 ((([v0, v1] : List Value).drop 0).take (Tryd.prog.cellsOf 9)) = some y0 := hfd 0 _ rfl
        have g1 : DataW.trod enc Tryd.prog W base sp held k 9 ((([v0, v1] : List Value).drop 1).take (Tryd.prog.cellsOf 9)) = some y1 := hfd 1 _ rfl
        rw [Tryd.one9] at g0 g1
        obtain ⟨s, e0, f0, z0⟩ := DataW.trod_string Tryd.underlying9 g0
        obtain ⟨t, e1, f1, z1⟩ := DataW.trod_string Tryd.underlying9 g1
        simp at e0 e1
        subst f0
        subst f1
        have c0 := hcell 0 (by simp)
        have c1 := hcell 1 (by simp)
        rw [Go.Deep.add_add] at c0 c1
        have hd2 : D i = .agg [.lit (.string s.data.toList), .lit (.string t.data.toList)] := by
          have := congrArg Prod.fst hxy
          simpa using this
        have hD : D i ∈ (List.range len).map D := List.mem_map.2 ⟨i, List.mem_range.2 hi, rfl⟩
        have hin : ∀ n ∈ (D i).weights Tryd.prog 43, n ≤ reachBytes := by
          intro n hn
          apply hw n
          have k2 : x = _ := congrArg Prod.fst hy
          rw [k2]
          simp only [DataW.weights, Tryd.underlying22]
          exact List.mem_cons_of_mem _ (List.mem_append_left _ (mem_weightsAll hn hD))
        rw [hd2] at hin
        have hwe : ∀ n, n ∈ (.lit (.string s.data.toList) : DataW H).weights Tryd.prog 9 ++ ((.lit (.string t.data.toList) : DataW H).weights Tryd.prog 9 ++ []) → n ≤ reachBytes := by
          intro n hn
          apply hin n
          simp only [DataW.weights, Tryd.underlying43]
          exact hn
        refine ⟨(s, t), ⟨?_, ?_⟩, hwe _ (by simp [DataW.weights]), hwe _ (by simp [DataW.weights])⟩
        · simpa [e0] using c0
        · simpa [e1] using c1
    obtain ⟨q, hq⟩ := Go.Deep.choose_lt each
    refine ⟨(List.range len).map q, by simp, ?_, ?_⟩
    · by_cases h0 : len = 0
      · exact .inl (by simp [h0])
      · obtain ⟨b, off, spot⟩ := y
        have hspot : spot = none := by simpa [Addr.add] using World.cell?_spot (hq 0 (by omega)).1.1
        subst hspot
        refine .inr ⟨b, off, rfl, fun i f hf => ?_⟩
        have hi : i < len := by
          rcases Nat.lt_or_ge i len with h | h
          · exact h
          · rw [List.getElem?_eq_none (by simpa using h)] at hf; simp at hf
        rw [List.getElem?_map, List.getElem?_range hi] at hf
        simp at hf
        subst hf
        have := (hq i hi).1
        rw [add_plain, add_plain] at this
        exact ⟨this.1, by rw [Nat.add_assoc]; exact this.2⟩
    · intro f hf
      obtain ⟨i, hi, rfl⟩ := List.mem_map.1 hf
      have := (hq i (List.mem_range.1 hi)).2
      exact ⟨reach_le this.1, reach_le this.2⟩
theorem fields_at {H : Type} {enc : TypeId × Value → H} {W : World} {base fuel : Nat} {sp : Nat → Bool} {held : Bool} {v : Value} {x : DataW H × List MemPlace} (h : DataW.trod enc Tryd.prog W base sp held fuel 22 [v] = some x) (hw : ∀ n ∈ x.1.weights Tryd.prog 22, n ≤ reachBytes) : ∃ a len cap fs, v = .slice a len cap ∧ IsFs W a len fs := by
  have hv : ∃ a len cap, v = .slice a len cap := by
    rcases DataW.trod_slice Tryd.underlying22 h with ⟨q, _⟩ | ⟨a, len, cap, _, _, _, _, q, _⟩
    · cases q; exact ⟨_, _, _, rfl⟩
    · cases q; exact ⟨_, _, _, rfl⟩
  obtain ⟨a, len, cap, rfl⟩ := hv
  obtain ⟨d, ps⟩ := x
  obtain ⟨fs, hfs⟩ := fields_arg (W := W) (a := a) (len := len) (cap := cap) (x := d) (ps := ps) ⟨fuel, by simpa [Value.cells] using h⟩ hw
  exact ⟨a, len, cap, fs, rfl, hfs⟩
set_option maxRecDepth 100000 in
theorem msg_arg {H : Type} {enc : TypeId × Value → H} {W : World} {base b0 : Nat} {sp : Nat → Bool} {held : Bool} {v : Value} {d : DataW H} {ps : List MemPlace} {r : Reach} (hv : Value.okWide Tryd.prog W r b0 24 v) (h : DataW.Trod enc Tryd.prog W base sp held 24 v d ps) (hw : ∀ n ∈ d.weights Tryd.prog 24, n ≤ reachBytes) :
    ∃ m fs, v = msgV m ∧ FRow W m.a fs ∧ MWide m fs := by
  obtain ⟨cs, rfl, hsz⟩ := okWide_struct Tryd.underlying24 hv
  rw [Tryd.all24] at hsz
  obtain ⟨fuel, hf⟩ := h
  obtain ⟨xs, n, rfl, hd, hlen, hxl, hx⟩ := DataW.trod_struct Tryd.underlying24 hf
  obtain ⟨c0, c1, c2, c3, c4, c5, c6, c7, c8, c9, c10, rfl⟩ : ∃ c0 c1 c2 c3 c4 c5 c6 c7 c8 c9 c10, cs = #[c0, c1, c2, c3, c4, c5, c6, c7, c8, c9, c10] := by
    obtain ⟨l⟩ := cs
    match l, hsz with
    | [c0, c1, c2, c3, c4, c5, c6, c7, c8, c9, c10], _ => exact ⟨c0, c1, c2, c3, c4, c5, c6, c7, c8, c9, c10, rfl⟩
  match xs, hxl with
  | [y0, y1, y2, y3, y4, y5, y6, y7, y8, y9, y10], _ =>
    have hd2 : d = .agg [y0.1, y1.1, y2.1, y3.1, y4.1, y5.1, y6.1, y7.1, y8.1, y9.1, y10.1] := by
      have := congrArg Prod.fst hd
      simpa using this
    have hww : ∀ n ∈ DataW.weightsEach Tryd.prog [9, 9, 3, 2, 2, 9, 22, 2, 2, 9, 9] [y0.1, y1.1, y2.1, y3.1, y4.1, y5.1, y6.1, y7.1, y8.1, y9.1, y10.1], n ≤ reachBytes := by
      intro n hn
      apply hw n
      rw [hd2]
      simp only [DataW.weights, Tryd.underlying24]
      exact hn
    have g0 : DataW.trod enc Tryd.prog W base sp held n 9 ((([c0, c1, c2, c3, c4, c5, c6, c7, c8, c9, c10] : List Value).drop 0).take (Tryd.prog.cellsOf 9)) = some y0 := hx 0 _ rfl
    rw [Tryd.one9] at g0
    have g1 : DataW.trod enc Tryd.prog W base sp held n 9 ((([c0, c1, c2, c3, c4, c5, c6, c7, c8, c9, c10] : List Value).drop 1).take (Tryd.prog.cellsOf 9)) = some y1 := hx 1 _ rfl
    rw [Tryd.one9] at g1
    have g2 : DataW.trod enc Tryd.prog W base sp held n 3 ((([c0, c1, c2, c3, c4, c5, c6, c7, c8, c9, c10] : List Value).drop 2).take (Tryd.prog.cellsOf 3)) = some y2 := hx 2 _ rfl
    rw [Tryd.one3] at g2
    have g3 : DataW.trod enc Tryd.prog W base sp held n 2 ((([c0, c1, c2, c3, c4, c5, c6, c7, c8, c9, c10] : List Value).drop 3).take (Tryd.prog.cellsOf 2)) = some y3 := hx 3 _ rfl
    rw [Tryd.one2] at g3
    have g4 : DataW.trod enc Tryd.prog W base sp held n 2 ((([c0, c1, c2, c3, c4, c5, c6, c7, c8, c9, c10] : List Value).drop 4).take (Tryd.prog.cellsOf 2)) = some y4 := hx 4 _ rfl
    rw [Tryd.one2] at g4
    have g5 : DataW.trod enc Tryd.prog W base sp held n 9 ((([c0, c1, c2, c3, c4, c5, c6, c7, c8, c9, c10] : List Value).drop 5).take (Tryd.prog.cellsOf 9)) = some y5 := hx 5 _ rfl
    rw [Tryd.one9] at g5
    have g6 : DataW.trod enc Tryd.prog W base sp held n 22 ((([c0, c1, c2, c3, c4, c5, c6, c7, c8, c9, c10] : List Value).drop 6).take (Tryd.prog.cellsOf 22)) = some y6 := hx 6 _ rfl
    rw [Tryd.one22] at g6
    have g7 : DataW.trod enc Tryd.prog W base sp held n 2 ((([c0, c1, c2, c3, c4, c5, c6, c7, c8, c9, c10] : List Value).drop 7).take (Tryd.prog.cellsOf 2)) = some y7 := hx 7 _ rfl
    rw [Tryd.one2] at g7
    have g8 : DataW.trod enc Tryd.prog W base sp held n 2 ((([c0, c1, c2, c3, c4, c5, c6, c7, c8, c9, c10] : List Value).drop 8).take (Tryd.prog.cellsOf 2)) = some y8 := hx 8 _ rfl
    rw [Tryd.one2] at g8
    have g9 : DataW.trod enc Tryd.prog W base sp held n 9 ((([c0, c1, c2, c3, c4, c5, c6, c7, c8, c9, c10] : List Value).drop 9).take (Tryd.prog.cellsOf 9)) = some y9 := hx 9 _ rfl
    rw [Tryd.one9] at g9
    have g10 : DataW.trod enc Tryd.prog W base sp held n 9 ((([c0, c1, c2, c3, c4, c5, c6, c7, c8, c9, c10] : List Value).drop 10).take (Tryd.prog.cellsOf 9)) = some y10 := hx 10 _ rfl
    rw [Tryd.one9] at g10
    obtain ⟨s0, e0, f0, _⟩ := DataW.trod_string Tryd.underlying9 g0
    have z0 : s0.size ≤ 140737488355328 := reach_le (hww _ (DataW.weights_mem_each (j := 0) rfl rfl _ (by rw [f0]; simp [DataW.weights])))
    simp at e0
    obtain ⟨s1, e1, f1, _⟩ := DataW.trod_string Tryd.underlying9 g1
    have z1 : s1.size ≤ 140737488355328 := reach_le (hww _ (DataW.weights_mem_each (j := 1) rfl rfl _ (by rw [f1]; simp [DataW.weights])))
    simp at e1
    obtain ⟨s2, e2, _, z2⟩ := DataW.trod_int Tryd.underlying3 g2
    simp at e2
    have b2 := bounds_i64 z2
    obtain ⟨s3, e3, _, z3⟩ := DataW.trod_int Tryd.underlying2 g3
    simp at e3
    have b3 := bounds_i64 z3
    obtain ⟨s4, e4, _, z4⟩ := DataW.trod_int Tryd.underlying2 g4
    simp at e4
    have b4 := bounds_i64 z4
    obtain ⟨s5, e5, f5, _⟩ := DataW.trod_string Tryd.underlying9 g5
    have z5 : s5.size ≤ 140737488355328 := reach_le (hww _ (DataW.weights_mem_each (j := 5) rfl rfl _ (by rw [f5]; simp [DataW.weights])))
    simp at e5
    obtain ⟨a, len, cap, fs, e6, hfs⟩ := fields_at g6 (fun n hn => hww n (DataW.weights_mem_each (j := 6) rfl rfl n hn))
    obtain ⟨s7, e7, _, z7⟩ := DataW.trod_int Tryd.underlying2 g7
    simp at e7
    have b7 := bounds_i64 z7
    obtain ⟨s8, e8, _, z8⟩ := DataW.trod_int Tryd.underlying2 g8
    simp at e8
    have b8 := bounds_i64 z8
    obtain ⟨s9, e9, f9, _⟩ := DataW.trod_string Tryd.underlying9 g9
    have z9 : s9.size ≤ 140737488355328 := reach_le (hww _ (DataW.weights_mem_each (j := 9) rfl rfl _ (by rw [f9]; simp [DataW.weights])))
    simp at e9
    obtain ⟨s10, e10, f10, _⟩ := DataW.trod_string Tryd.underlying9 g10
    have z10 : s10.size ≤ 140737488355328 := reach_le (hww _ (DataW.weights_mem_each (j := 10) rfl rfl _ (by rw [f10]; simp [DataW.weights])))
    simp at e10
    obtain ⟨q1, q2, q3⟩ := hfs
    refine ⟨⟨s0, s1, s2, s3, s4, s5, a, len, cap, s7, s8, s9, s10⟩, fs, by rw [e0, e1, e2, e3, e4, e5, e6, e7, e8, e9, e10]; rfl, q2, ⟨q1, q3, z0, z1, z5, z9, z10, b2, b3, b4, b7, b8⟩⟩
set_option maxRecDepth 100000 in
theorem mark_arg {H : Type} {enc : TypeId × Value → H} {W : World} {base b0 : Nat} {sp : Nat → Bool} {held : Bool} {v : Value} {d : DataW H} {ps : List MemPlace} {r : Reach} (hv : Value.okWide Tryd.prog W r b0 36 v) (h : DataW.Trod enc Tryd.prog W base sp held 36 v d ps) :
    ∃ s t : Int, v = .agg #[.int .i64 s, .int .i64 t] := by
  obtain ⟨cs, rfl, hsz⟩ := okWide_struct Tryd.underlying36 hv
  rw [Tryd.two36] at hsz
  obtain ⟨fuel, hf⟩ := h
  obtain ⟨xs, n, rfl, _, hlen, hxl, hx⟩ := DataW.trod_struct Tryd.underlying36 hf
  obtain ⟨c0, c1, rfl⟩ : ∃ c0 c1, cs = #[c0, c1] := by
    obtain ⟨l⟩ := cs
    match l, hsz with
    | [c0, c1], _ => exact ⟨c0, c1, rfl⟩
  match xs, hxl with
  | [y0, y1], _ =>
    have g0 : DataW.trod enc Tryd.prog W base sp held n 3 ((([c0, c1] : List Value).drop 0).take (Tryd.prog.cellsOf 3)) = some y0 := hx 0 _ rfl
    have g1 : DataW.trod enc Tryd.prog W base sp held n 2 ((([c0, c1] : List Value).drop 1).take (Tryd.prog.cellsOf 2)) = some y1 := hx 1 _ rfl
    rw [Tryd.one3] at g0
    rw [Tryd.one2] at g1
    obtain ⟨s, e0, _, z0⟩ := DataW.trod_int Tryd.underlying3 g0
    obtain ⟨t, e1, _, z1⟩ := DataW.trod_int Tryd.underlying2 g1
    simp at e0 e1
    exact ⟨s, t, by rw [e0, e1]⟩
end Go.Proofs.YtdmcibopcflbbaaDoor
