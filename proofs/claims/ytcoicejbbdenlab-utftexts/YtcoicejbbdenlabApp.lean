/-
  An append of whatever row of integers, onto what the call owns.
-/
import Derived.Test.YtcoicejbbdenlabText
import Derived.Laws.AppendOwnNone
namespace Go.Proofs.Ytcoicejbbdenlab
open Go.RowKit
set_option linter.unusedVariables false

theorem wpList_append_rowk {P : Program} {w : World} {ops : Array Oper} {rest : List Oper} {o : Oper} {a : Act} {Q : Exit → Act → World → Prop} (hgd : o.guard = none) (s x : Operand) (t : TypeId)
    (ho : o.op = .call { callee := .builtin .append, args := #[s, x], argTypes := #[t, t] })
    (base : Nat) (e : TypeId) (i : TypeInfo) (z : Value) (bytes : Nat) (ht : P.underlying t = some (.slice e)) (hi : P.info? e = some i) (hz : i.zero = some z)
    (hsize : i.size = 1) (hby : i.bytes = bytes) (hzs : z.cells.size = 1) (k : IntKind)
    (v : Value) (n : Nat) (xs : List Value) (hs : a.eval s = v) (hown : w.ownsRow base e 1 v n xs)
    (ad : Option Addr) (m c : Nat) (l : List Int) (hx : a.eval x = .slice ad m c) (hl : l.length = m) (hnil : ad = none → c = 0) (hrow : RowK k w ad l)
    (h63 : n + m ≤ maxLen) (hbytes : (n + m) * bytes ≤ 140737488355328) (hbase : base ≤ w.heap.size)
    (h : ∀ v' w', w'.ownsRow base e 1 v' (n + m) (xs ++ l.map (Value.int k)) → w.grownBy w' v.ownBlock → wpList P ops Q rest (a.put o.dst v') w') : wpList P ops Q (o :: rest) a w := by
  have one : ∀ u ∈ l.map (Value.int k), u.oneCell' = true := by
    intro u hu; simp at hu; obtain ⟨_, _, rfl⟩ := hu; rfl
  cases ad with
  | none =>
    have hl0 : l = [] := by
      rcases hrow with h | ⟨b, off, h, _⟩
      · exact h
      · cases h
    subst hl0
    obtain rfl : m = 0 := by simpa using hl.symm
    obtain rfl : c = 0 := hnil rfl
    refine wpList_append_own_none hgd s x t ho base e i 1 ht hi v n xs hs hown hx ?_
    refine h v w (by simpa using hown) ⟨rfl, rfl, rfl, Nat.le_refl _, fun _ _ _ => rfl⟩
  | some y =>
    refine wpList_append_own w hgd s x t ho base e i z 1 bytes ht hi hz hsize hby hzs (by decide) v n xs hs hown y m c (l.map (Value.int k)) hx (by simp [hl]) ?_ one h63 hbytes hbase (fun v' w' h1 h2 _ => h v' w' h1 h2)
    intro j u hu
    rcases hrow with rfl | ⟨b, off, hy, hc⟩
    · simp at hu
    · obtain rfl : y = ⟨b, off, none⟩ := by simpa using hy
      rw [add_plain]
      rw [List.getElem?_map] at hu
      have hj : j < l.length := by
        rcases Nat.lt_or_ge j l.length with h | h
        · exact h
        · rw [List.getElem?_eq_none h] at hu; simp at hu
      rw [hc j hj]
      rw [List.getElem?_eq_getElem hj] at hu
      simp at hu
      simp [List.getD_eq_getElem?_getD, List.getElem?_eq_getElem hj, hu]

theorem isRow_nil {k : IntKind} {w : World} {a : Option Addr} {len cap : Nat} {zs : List Int} (h : IsRow k w a len cap zs) : a = none → cap = 0 := by
  intro e
  rcases h with ⟨_, _, h, _⟩ | ⟨x, h, _⟩
  · exact h
  · rw [e] at h; cases h
theorem own_row' {w : World} {B : Nat} {e : TypeId} {k : IntKind} {v : Value} {l : List Int} (h : w.ownsRow B e 1 v l.length (l.map (Value.int k))) :
    ∃ a cap, v = .slice a l.length cap ∧ l.length ≤ cap ∧ cap ≤ maxLen ∧ RowK k w a l ∧ (a = none → cap = 0) := by
  rcases h.2 with ⟨rfl, hn⟩ | ⟨g, cap, cur, rfl, hb, hg, hn, hm, hs, ht⟩
  · exact ⟨none, 0, by rw [hn], by omega, by simp [maxLen], .inl (List.eq_nil_of_length_eq_zero hn), fun _ => rfl⟩
  · refine ⟨some ⟨g, 0, none⟩, cap, rfl, hn, hm, .inr ⟨g, 0, rfl, fun i hi => ?_⟩, by simp⟩
    have hc := h.cells (g := g) rfl i (.int k (l.getD i 0)) (by simp [List.getElem?_eq_getElem hi, List.getD_eq_getElem?_getD])
    rw [add_plain] at hc
    exact hc
theorem cellA (w : World) (x y : Value) : (w.alloc (.cells #[x, y] 32)).cell? ⟨w.heap.size, 0, none⟩ = some x := by simp
theorem cellB (w : World) (x y : Value) : (w.alloc (.cells #[x, y] 32)).cell? ⟨w.heap.size, 1, none⟩ = some y := by simp
theorem keep (w : World) (o : Obj) : Below w.heap.size w (w.alloc o) := (Below.refl _ _).alloc (Nat.le_refl _) _
end Go.Proofs.Ytcoicejbbdenlab
