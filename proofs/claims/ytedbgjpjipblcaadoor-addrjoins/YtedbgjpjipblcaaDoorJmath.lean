/-
  The reference's Same; lists of addresses as they come in; addresses with commas between.
-/
import Derived.Test.YtedbgjpjipblcaaDoorList
import Derived.Deep.Slices
namespace Go.Proofs.YtedbgjpjipblcaaDoor
open Go.RowKit Go.ChangeShapes Go.WideShapes
set_option linter.unusedVariables false

theorem ARow.below {w w' : World} {a : Option Addr} {fs : List Ad} (h : ARow w a fs) (hb : Below w.heap.size w w') : ARow w' a fs := by
  rcases h with h | ⟨b, off, ha, h⟩
  · exact .inl h
  · refine .inr ⟨b, off, ha, fun i f hf => ?_⟩
    have := h i f hf
    exact ⟨cell_keep hb this.1, cell_keep hb this.2.1, cell_keep hb this.2.2⟩
set_option maxHeartbeats 2000000 in
theorem same_any (a b : Option Addr) (n m c d : Nat) (fs : List Ad) (w : World) (hn : fs.length = n) (hm : fs.length = m) (hbig : n ≤ 1000000) (hr : ARow w a fs) (hr2 : ARow w b fs) :
    Calls Tryd.prog 18 #[.slice a n c, .slice b m d] w fun e w' => e = .returned (.bool true) ∧ Below w.heap.size w w' := by
  obtain rfl : n = m := by omega
  have HR : Hid (ARow w a fs) := hr
  have HR2 : Hid (ARow w b fs) := hr2
  clear hr hr2
  go_enter Tryd.func18, Tryd.ntmps18
  go_wp2
  go_loopw [5] (fun i wr => ∃ (k q : Nat), i = .int .i64 k ∧ k ≤ n ∧ wr = w.drewN q) (fun i _ => n - (intOf i).toNat)
  case atStart => exact ⟨0, 0, rfl, by omega, rfl⟩
  case round =>
    obtain ⟨k, q, rfl, hk, rfl⟩ := hrel
    by_cases hlt : k < n
    · obtain ⟨f, hfk⟩ : ∃ f, fs[k]? = some f := ⟨_, List.getElem?_eq_getElem (by omega)⟩
      obtain ⟨f1, f2, f3⟩ := f
      rcases HR.out with h | ⟨b1, off1, rfl, h⟩
      · rw [h] at hn; simp at hn; omega
      rcases HR2.out with h' | ⟨b2, off2, rfl, h'⟩
      · rw [h'] at hn; simp at hn; omega
      obtain ⟨x0, x1, x2⟩ := h k _ hfk
      obtain ⟨y0, y1, y2⟩ := h' k _ hfk
      simp only at x0 x1 x2 y0 y1 y2
      have k0 : (0 : Int) ≤ (k : Int) := by omega
      have k1 : (k : Int) < (n : Int) := by omega
      clear h h' hfk
      go_wp2
      go_quiet (fail)
      go_wp2
      go_roundw
      case rel => exact ⟨k + 1, q + nq, by go_num, by omega, by simp [World.drewN]⟩
      case measure => simp [intOf]; omega
    · go_wp2
      go_ret
      exact ⟨rfl, rfl, rfl, rfl, Nat.le_refl _, fun _ _ => rfl⟩
/-- A list of addresses that came in. -/
def IsL (w : World) (a : Option Addr) (len : Nat) (fs : List Ad) : Prop :=
  fs.length = len ∧ ARow w a fs ∧ ∀ f ∈ fs, f.1.size ≤ 140737488355328 ∧ f.2.1.size ≤ 140737488355328 ∧ f.2.2.size ≤ 140737488355328
theorem mem_weightsAll {H : Type} {P : Program} {e : TypeId} {x : DataW H} {n : Nat} (hn : n ∈ x.weights P e) : ∀ {l : List (DataW H)}, x ∈ l → n ∈ DataW.weightsAll P e l
  | [], h => by cases h
  | y :: l, h => by
    rw [DataW.weightsAll, List.mem_append]
    rcases List.mem_cons.1 h with rfl | h
    · exact .inl hn
    · exact .inr (mem_weightsAll hn h)
set_option maxRecDepth 100000 in
theorem addrs_arg {H : Type} {enc : TypeId × Value → H} {W : World} {base : Nat} {sp : Nat → Bool} {held : Bool} {a : Option Addr} {len cap : Nat} {x : DataW H} {ps : List MemPlace} (h : DataW.Trod enc Tryd.prog W base sp held 36 (.slice a len cap) x ps) (hw : ∀ n ∈ x.weights Tryd.prog 36, n ≤ reachBytes) :
    ∃ fs, IsL W a len fs := by
  obtain ⟨fuel, hf⟩ := h
  rcases Go.Deep.open_slice Tryd.underlying36 hf with ⟨hcs, _⟩ | ⟨y, l, c, m, n, D, Pl, hcs, _, hl, hm, hmm, hy, hx⟩
  · simp [Value.cells] at hcs
    obtain ⟨rfl, rfl, rfl⟩ := hcs
    exact ⟨[], rfl, .inl rfl, by simp⟩
  · simp [Value.cells] at hcs
    obtain ⟨rfl, rfl, rfl⟩ := hcs
    have hlm : len ≤ m := by rw [hmm]; split <;> omega
    have each : ∀ i, i < len → ∃ f : Ad, (W.cell? (y.add (i * 3)) = some (.string f.1) ∧ W.cell? (y.add (i * 3 + 1)) = some (.string f.2.1) ∧ W.cell? (y.add (i * 3 + 2)) = some (.string f.2.2)) ∧ f.1.size ≤ reachBytes ∧ f.2.1.size ≤ reachBytes ∧ f.2.2.size ≤ reachBytes := by
      intro i hi
      obtain ⟨cs', h1, h2⟩ := hx i (by omega)
      rw [Tryd.three24] at h1
      obtain ⟨_, hlen, hcell⟩ := World.cells?_some h1
      obtain ⟨xs, k, hk, hxy, _, hxl, hfd⟩ := DataW.trod_struct Tryd.underlying24 h2
      match xs, hxl, cs', hlen with
      | [y0, y1, y2], _, [v0, v1, v2], _ =>
        have g0 : DataW.trod enc Tryd.prog W base sp held k 9 ((([v0, v1, v2] : List Value).drop 0).take (Tryd.prog.cellsOf 9)) = some y0 := hfd 0 _ rfl
        have g1 : DataW.trod enc Tryd.prog W base sp held k 9 ((([v0, v1, v2] : List Value).drop 1).take (Tryd.prog.cellsOf 9)) = some y1 := hfd 1 _ rfl
        have g2 : DataW.trod enc Tryd.prog W base sp held k 9 ((([v0, v1, v2] : List Value).drop 2).take (Tryd.prog.cellsOf 9)) = some y2 := hfd 2 _ rfl
        rw [Tryd.one9] at g0 g1 g2
        obtain ⟨s, e0, f0, z0⟩ := DataW.trod_string Tryd.underlying9 g0
        obtain ⟨t, e1, f1, z1⟩ := DataW.trod_string Tryd.underlying9 g1
        obtain ⟨q, e2, f2, z2⟩ := DataW.trod_string Tryd.underlying9 g2
        simp at e0 e1 e2
        subst f0
        subst f1
        subst f2
        have c0 := hcell 0 (by simp)
        have c1 := hcell 1 (by simp)
        have c2 := hcell 2 (by simp)
        rw [Go.Deep.add_add] at c0 c1 c2
        have hd2 : D i = .agg [.lit (.string s.data.toList), .lit (.string t.data.toList), .lit (.string q.data.toList)] := by
          have := congrArg Prod.fst hxy
          simpa using this
        have hD : D i ∈ (List.range len).map D := List.mem_map.2 ⟨i, List.mem_range.2 hi, rfl⟩
        have hin : ∀ n ∈ (D i).weights Tryd.prog 24, n ≤ reachBytes := by
          intro n hn
          apply hw n
          have k2 : x = _ := congrArg Prod.fst hy
          rw [k2]
          simp only [DataW.weights, Tryd.underlying36]
          exact List.mem_cons_of_mem _ (List.mem_append_left _ (mem_weightsAll hn hD))
        rw [hd2] at hin
        have hwe : ∀ n, n ∈ (.lit (.string s.data.toList) : DataW H).weights Tryd.prog 9 ++ ((.lit (.string t.data.toList) : DataW H).weights Tryd.prog 9 ++ ((.lit (.string q.data.toList) : DataW H).weights Tryd.prog 9 ++ [])) → n ≤ reachBytes := by
          intro n hn
          apply hin n
          simp only [DataW.weights, Tryd.underlying24]
          exact hn
        refine ⟨(s, t, q), ⟨?_, ?_, ?_⟩, hwe _ (by simp [DataW.weights]), hwe _ (by simp [DataW.weights]), hwe _ (by simp [DataW.weights])⟩
        · simpa [e0] using c0
        · simpa [e1] using c1
        · simpa [e2] using c2
    obtain ⟨q, hq⟩ := Go.Deep.choose_lt each
    refine ⟨(List.range len).map q, by simp, ?_, ?_⟩
    · by_cases h0 : len = 0
      · exact .inl (by simp [h0])
      · obtain ⟨b, off, spot⟩ := y
        have hspot : spot = none := by simpa [Addr.add] using World.cell?_spot (hq 0 (by omega)).1.1
        subst hspot
        refine .inr ⟨b, off, rfl, fun i f hf => ?_⟩
        have hi : i < len := by
          rcases Nat.lt_or_ge i len with h | h
          · exact h
          · rw [List.getElem?_eq_none (by simpa using h)] at hf; simp at hf
        rw [List.getElem?_map, List.getElem?_range hi] at hf
        simp at hf
        subst hf
        have := (hq i hi).1
        rw [add_plain, add_plain, add_plain] at this
        exact ⟨this.1, by rw [Nat.add_assoc]; exact this.2.1, by rw [Nat.add_assoc]; exact this.2.2⟩
    · intro f hf
      obtain ⟨i, hi, rfl⟩ := List.mem_map.1 hf
      have := (hq i (List.mem_range.1 hi)).2
      exact ⟨reach_le this.1, reach_le this.2.1, reach_le this.2.2⟩
end Go.Proofs.YtedbgjpjipblcaaDoor
