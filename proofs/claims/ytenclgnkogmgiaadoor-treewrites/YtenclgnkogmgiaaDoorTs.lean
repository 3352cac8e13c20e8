/-
  A component as it comes in.
-/
import Derived.Test.YtenclgnkogmgiaaDoorXc
import Derived.Deep.SlicePairs
import Derived.Deep.Strs
import Derived.WideShapes
import Derived.OpenShut
import Derived.HandedShaped
namespace Go.Proofs.YtenclgnkogmgiaaDoor
open Go.RowKit Go.ChangeShapes Go.WideShapes
set_option linter.unusedVariables false
set_option linter.unusedSimpArgs false

theorem Tryd.one22 : Tryd.prog.cellsOf 22 = 1 := by kernel_rfl
theorem Tryd.one23 : Tryd.prog.cellsOf 23 = 1 := by kernel_rfl
theorem Tryd.three25 : Tryd.prog.cellsOf 25 = 3 := by kernel_rfl
theorem wide_ln {m : Lm} (h : Wide m) : WdN m.ln := by
  obtain ⟨h1, h2, _, h4⟩ := h
  refine ⟨by show (nums m.nm).length ≤ _; rw [nums_len]; exact h1, by show (nums m.vl).length ≤ _; rw [nums_len]; exact h2, fun f hf => ?_⟩
  obtain ⟨g, hg, rfl⟩ := List.mem_map.1 hf
  simp only [nums_len]
  exact h4 g hg
theorem lines_at {H : Type} {enc : TypeId × Value → H} {W : World} {base fuel : Nat} {held : Bool} {v : Value} {x : DataW H × List MemPlace} (h : DataW.trod enc Tryd.prog W base (fun _ => true) held fuel 22 [v] = some x) (hw : ∀ n, n ∈ x.1.weights Tryd.prog 22 → n ≤ reachBytes) : ∃ l, LsAt W v l ∧ ∀ q ∈ l, WdN q := by
  have hv : ∃ a len cap, v = .slice a len cap ∧ (a = none → cap = 0) := by
    rcases DataW.trod_slice Tryd.underlying22 h with ⟨q, _⟩ | ⟨a, len, cap, _, _, _, _, q, _⟩
    · cases q; exact ⟨_, _, _, rfl, fun _ => rfl⟩
    · cases q; exact ⟨_, _, _, rfl, fun q => by cases q⟩
  obtain ⟨a, len, cap, rfl, hc⟩ := hv
  obtain ⟨d, ps⟩ := x
  obtain ⟨ls, h1, h2, h3, h4⟩ := lines_arg (W := W) (a := a) (len := len) (cap := cap) (x := d) (ps := ps) ⟨fuel, by simpa [Value.cells] using h⟩ hw
  subst h1
  exact ⟨ls.map Lm.ln, ⟨a, cap, ls, rfl, h3, rfl, h2, hc, fun m hm => (h4 m hm).2.2.1⟩, fun q hq => by
    obtain ⟨m, hm, rfl⟩ := List.mem_map.1 hq
    exact wide_ln (h4 m hm)⟩
set_option maxRecDepth 100000 in
theorem comp_at {H : Type} {enc : TypeId × Value → H} {W : World} {base : Nat} {held : Bool} : ∀ (k fuel : Nat) (cs : List Value) (x : DataW H × List MemPlace), fuel ≤ k → DataW.trod enc Tryd.prog W base (fun _ => true) held fuel 25 cs = some x → (∀ n, n ∈ x.1.weights Tryd.prog 25 → n ≤ reachBytes) → ∃ v0 v1 v2 t, cs = [v0, v1, v2] ∧ CpAt (k + 1) W t v0 v1 v2 ∧ WdC (k + 1) t := by
  intro k
  induction k with
  | zero =>
    intro fuel cs x hk h _
    obtain rfl : fuel = 0 := by omega
    simp [DataW.trod] at h
  | succ k ih =>
    intro fuel cs x hk h hw
    obtain ⟨xs, n, hn, hxy, hlen, hxl, hf⟩ := DataW.trod_struct Tryd.underlying25 h
    rw [Tryd.three25] at hlen
    match cs, hlen, xs, hxl with
    | [v0, v1, v2], _, [y0, y1, y2], _ =>
      have g0 := hf 0 _ rfl
      have g1 := hf 1 _ rfl
      have g2 := hf 2 _ rfl
      simp [Tryd.one9, Tryd.one22, Tryd.one23] at g0 g1 g2
      obtain ⟨s, e0, f0, z0⟩ := DataW.trod_string Tryd.underlying9 g0
      simp at e0
      subst e0
      have hd2 : x.1 = .agg [y0.1, y1.1, y2.1] := by
        have := congrArg Prod.fst hxy
        simpa using this
      rw [hd2] at hw
      have hwe : ∀ n, n ∈ y0.1.weights Tryd.prog 9 ++ (y1.1.weights Tryd.prog 22 ++ (y2.1.weights Tryd.prog 23 ++ [])) → n ≤ reachBytes := by
        intro n hn
        apply hw n
        simp only [DataW.weights, Tryd.underlying25]
        exact hn
      have hs : s.size ≤ reachBytes := hwe _ (by rw [f0]; simp [DataW.weights])
      obtain ⟨l, hl, hlw⟩ := lines_at g1 (fun n hn => hwe n (by simp [hn]))
      have htr : ∃ ts, TRow W v2 ts (CpAt (k + 1) W) ∧ ∀ q ∈ ts, WdC (k + 1) q := by
        rcases DataW.trod_slice Tryd.underlying23 g2 with ⟨q, _⟩ | ⟨a, len, cap, elems, rest, m, hm, q, hy, hb, hle, hcm, hel, hx, _⟩
        · cases q
          exact ⟨[], ⟨Nat.zero_le _, none, 0, rfl, .inl rfl⟩, fun q hq => by simp at hq⟩
        · cases q
          have each : ∀ i, i < len → ∃ t : Cp, (∃ x y z, W.cell? (a.add (i * 3)) = some x ∧ W.cell? (a.add (i * 3 + 1)) = some y ∧ W.cell? (a.add (i * 3 + 2)) = some z ∧ CpAt (k + 1) W t x y z) ∧ WdC (k + 1) t := by
            intro i hi
            have hxi := hx i hi
            rw [List.getElem?_eq_getElem (by omega), Tryd.three25] at hxi
            cases hcs : W.cells? base (a.add (i * 3)) 3 with
            | none => rw [hcs] at hxi; simp at hxi
            | some cs' =>
              rw [hcs] at hxi
              simp only [Option.bind_some] at hxi
              obtain ⟨_, hlen', hcell⟩ := World.cells?_some hcs
              obtain ⟨u0, u1, u2, t, rfl, hpt, hst⟩ := ih m cs' _ (by omega) hxi (fun n hn => by
                apply hwe n
                have k2 : y2.1 = _ := congrArg Prod.fst hy
                rw [k2]
                simp only [DataW.weights, Tryd.underlying23]
                exact List.mem_append_right _ (List.mem_append_right _ (List.mem_append_left _ (List.mem_cons_of_mem _ (List.mem_append_left _ (mem_weightsAll hn (List.mem_map.2 ⟨_, List.getElem_mem _, rfl⟩)))))))
              have e0 := hcell 0 (by omega)
              have e1 := hcell 1 (by omega)
              have e2 := hcell 2 (by omega)
              rw [Go.Deep.add_add] at e0 e1 e2
              exact ⟨t, ⟨u0, u1, u2, by simpa using e0, by simpa using e1, by simpa using e2, hpt⟩, hst⟩
          have : Inhabited Cp := ⟨⟨[], [], []⟩⟩
          obtain ⟨q, hq⟩ := Go.Deep.choose_lt each
          refine ⟨(List.range len).map q, ⟨by simp; omega, some a, cap, by simp, ?_⟩, ?_⟩
          · by_cases h0 : len = 0
            · exact .inl (by simp [h0])
            · obtain ⟨b, off, spot⟩ := a
              obtain ⟨x, y, z, c0, _⟩ := (hq 0 (by omega)).1
              have hspot : spot = none := by simpa [Addr.add] using World.cell?_spot c0
              subst hspot
              refine .inr ⟨b, off, rfl, fun i t ht => ?_⟩
              have hi : i < len := by
                rcases Nat.lt_or_ge i len with h | h
                · exact h
                · rw [List.getElem?_eq_none (by simpa using h)] at ht; simp at ht
              rw [List.getElem?_map, List.getElem?_range hi] at ht
              simp at ht
              subst ht
              obtain ⟨x, y, z, c0, c1, c2, hp⟩ := (hq i hi).1
              rw [add_plain] at c0 c1 c2
              exact ⟨x, y, z, c0, by rw [Nat.add_assoc]; exact c1, by rw [Nat.add_assoc]; exact c2, hp⟩
          · intro u hu
            obtain ⟨i, hi, rfl⟩ := List.mem_map.1 hu
            exact (hq i (List.mem_range.1 hi)).2
      obtain ⟨ts, htr, hsz2⟩ := htr
      exact ⟨_, v1, v2, ⟨nums s, l, ts⟩, rfl, ⟨⟨s, rfl, rfl⟩, hl, htr⟩, ⟨by show (nums s).length ≤ _; rw [nums_len]; exact reach_le hs, hlw, hsz2⟩⟩
set_option maxRecDepth 100000 in
theorem comp_arg {H : Type} {enc : TypeId × Value → H} {W : World} {base b0 : Nat} {held : Bool} {v : Value} {d : DataW H} {ps : List MemPlace} {r : Reach} (hv : Value.okWide Tryd.prog W r b0 25 v) (h : DataW.Trod enc Tryd.prog W base (fun _ => true) held 25 v d ps) (hw : ∀ n, n ∈ d.weights Tryd.prog 25 → n ≤ reachBytes) :
    ∃ x y z t k, v = compV x y z ∧ CpAt k W t x y z ∧ WdC k t := by
  obtain ⟨fuel, hf⟩ := h
  obtain ⟨cs, rfl, hsz⟩ := okWide_struct Tryd.underlying25 hv
  obtain ⟨l⟩ := cs
  obtain ⟨x, y, z, t, hl, hp, hq⟩ := comp_at fuel fuel l (d, ps) (Nat.le_refl _) (by simpa [Value.cells] using hf) hw
  subst hl
  exact ⟨x, y, z, t, fuel + 1, rfl, hp, hq⟩
end Go.Proofs.YtenclgnkogmgiaaDoor
