/-
  Between two parts of a knot that is read.
-/
import Derived.Test.YtmdkmedlncfcbaaGreatDoorPq
namespace Go.Proofs.YtmdkmedlncfcbaaGreatDoor
open Go.RowKit Go.Shelf
set_option linter.unusedVariables false
set_option linter.unusedSimpArgs false

theorem Tryz.info28 : (Tryz.prog.info? 28).map (fun i => (i.zero, i.size, i.bytes)) = some (some (.agg #[.slice none 0 0, .slice none 0 0, .slice none 0 0]), 3, 72) := by kernel_rfl
def rdF (C R : Nat) : Value := .func (.func 29) #[] #[.pointer (some ⟨C, 0, none⟩), .pointer (some ⟨R, 0, none⟩)]
/-- What lies between two parts. -/
def LK (w : World) (C R G Z Bq B8 h : Nat) (vf v8 : Value) (fs : List (ByteArray × ByteArray)) (nts : Nat) (cs : List Value) (ct : Nat) (acc : List Prt) (xs : List (Value × Value × Value)) (vp : Value) (V : World) : Prop :=
  Tg (fun b => b = C) w V ∧ Blk V C #[.int .i64 (ct : Nat)] 3 ∧ Blk V G #[.slice none 0 0, .slice none 0 0, .slice none 0 0] 28 ∧ Blk V R #[rdF C R] 53 ∧ Blk V (Z + 1) #[vf, .slice none 0 0, vp] 28 ∧
    V.ownsRow B8 28 3 vp acc.length (xs.flatMap cell3) ∧ xs.length = acc.length ∧ (∀ (i : Nat) (t : Prt) (x : Value × Value × Value), acc[i]? = some t → xs[i]? = some x → Stay (fun b => b < B8 ∨ vp.ownBlock = some b) V (fun W => PtAt h W t x.1 x.2.1 x.2.2)) ∧
    Stay (fun b => b ≤ G ∨ Z ≤ b) V (fun W => FAt W vf fs) ∧ Stay (fun b => b < Bq ∨ B8 ≤ b) V (fun W => W.ownsRow Bq 22 1 v8 nts cs) ∧ B8 ≤ V.heap.size
theorem LK.next {w : World} {C R G Z Bq B8 h : Nat} {vf v8 : Value} {fs : List (ByteArray × ByteArray)} {nts : Nat} {cs : List Value} {ct ct1 : Nat} {acc : List Prt} {xs : List (Value × Value × Value)} {vp : Value} {V V1 V2 V4 : World} {q : Prt} {x : Value × Value × Value} {g cap n' : Nat}
    (hk : LK w C R G Z Bq B8 h vf v8 fs nts cs ct acc xs vp V) (hG : w.heap.size = G) (hC : C < G) (hR : R < G) (hne : C ≠ R) (hGZ : G < Z) (hZ : Z + 1 < Bq) (hB : Bq ≤ B8)
    (h1 : Tg (fun b => b = C) V V1) (hC1 : Blk V1 C #[.int .i64 (ct1 : Nat)] 3) (hs1 : Stay (fun b => b < V.heap.size) V1 (fun W => PtAt h W q x.1 x.2.1 x.2.2)) (h2 : Below V1.heap.size V1 V2) (hg : V2.grownBy V4 vp.ownBlock) (hfr : vp.ownBlock = some g ∨ V1.heap.size ≤ g)
    (ho : V4.ownsRow B8 28 3 (.slice (some ⟨g, 0, none⟩) n' cap) (acc.length + 1) (xs.flatMap cell3 ++ cell3 x)) :
    LK w C R G Z Bq B8 h vf v8 fs nts cs ct1 (acc ++ [q]) (xs ++ [x]) (.slice (some ⟨g, 0, none⟩) n' cap) (V4.setCell ⟨Z + 1, 2, none⟩ (.slice (some ⟨g, 0, none⟩) n' cap)) := by
  obtain ⟨k1, k2, k3, k4, k5, k6, k7, k8, k9, k10, k11⟩ := hk
  have hown : ∀ k, vp.ownBlock = some k → B8 ≤ k ∧ k < V.heap.size := fun k hk => ⟨(k6.lt k hk).1, own_block_lt k6 k hk⟩
  have t12 : Tg (fun b => b = C) V V2 := h1.trans (.of_below h2)
  have t24 : Tg (fun b => vp.ownBlock = some b) V2 V4 := Tg.grown hg (fun b hb => hb)
  have t45 : Tg (fun b => b = Z + 1) V4 (V4.setCell ⟨Z + 1, 2, none⟩ (.slice (some ⟨g, 0, none⟩) n' cap)) := Tg.set (O := fun b => b = Z + 1) _ _ _ _ rfl
  have t25 : Tg (fun b => vp.ownBlock = some b ∨ b = Z + 1) V2 (V4.setCell ⟨Z + 1, 2, none⟩ (.slice (some ⟨g, 0, none⟩) n' cap)) := t24.two t45 (fun b _ q => .inl q) (fun b _ q => .inr q)
  have t15 : Tg (fun b => vp.ownBlock = some b ∨ b = Z + 1) V1 (V4.setCell ⟨Z + 1, 2, none⟩ (.slice (some ⟨g, 0, none⟩) n' cap)) := (Tg.of_below (O := fun _ => False) h2).two t25 (fun b _ q => q.elim) (fun b _ q => q)
  have t05 : Tg (fun b => b = C ∨ vp.ownBlock = some b ∨ b = Z + 1) V (V4.setCell ⟨Z + 1, 2, none⟩ (.slice (some ⟨g, 0, none⟩) n' cap)) := h1.two t15 (fun b _ q => .inl q) (fun b _ q => .inr q)
  have hlt5 : Z + 1 < V.heap.size := k5.lt
  have nown : ∀ b, b < B8 → ¬ vp.ownBlock = some b := fun b hb q => by have := hown b q; omega
  have key : ∀ b, b < B8 → b ≠ C → b ≠ Z + 1 → ¬ (b = C ∨ vp.ownBlock = some b ∨ b = Z + 1) := fun b hb h1 h2 q => by
    rcases q with q | q | q
    · exact h1 q
    · exact nown b hb q
    · exact h2 q
  refine ⟨?_, ?_, ?_, ?_, ?_, ?_, ?_, ?_, ?_, ?_, ?_⟩
  · refine k1.two t05 (fun _ _ q => q) (fun b hb q => ?_)
    rcases q with q | q | q
    · exact q
    · exact (nown b (by omega) q).elim
    · omega
  · refine t15.kept hC1 (fun q => ?_)
    rcases q with q | q
    · exact nown C (by omega) q
    · omega
  · exact t05.kept k3 (key _ (by omega) (by omega) (by omega))
  · exact t05.kept k4 (key _ (by omega) (fun q => hne q.symm) (by omega))
  · have h5 : Blk V4 (Z + 1) #[vf, .slice none 0 0, vp] 28 := t24.kept (t12.kept k5 (by omega)) (nown _ (by omega))
    exact heap_setCell_same _ _ 2 _ 28 _ h5
  · rw [List.length_append, List.flatMap_append]
    have := own_set (f := Z + 1) (o := 2) (u := .slice (some ⟨g, 0, none⟩) n' cap) (by omega) ho
    simpa using this
  · rw [List.length_append, List.length_append, k7]; simp
  · intro i t y ht hy
    by_cases hi : i < acc.length
    · rw [List.getElem?_append_left hi] at ht
      rw [List.getElem?_append_left (by omega)] at hy
      refine (k8 i t y ht hy).go t05 (fun b hb q => ?_) (fun b hb q => ?_)
      · rcases q with q | q | q
        · left; omega
        · right; exact q
        · left; omega
      · rcases q with q | q
        · left; exact q
        · have e : g = b := by simpa [Value.ownBlock] using q
          rcases hfr with hf | hf
          · right; rw [hf, e]
          · have := h1.size; omega
    · have hi2 : i = acc.length := by have := (List.getElem?_eq_some_iff.1 ht).1; rw [List.length_append] at this; simp at this; omega
      subst hi2
      have e1 : t = q := by simpa using ht.symm
      have e2 : y = x := by rw [← k7] at hy; simpa using hy.symm
      subst e1; subst e2
      refine hs1.go t15 (fun b hb q => ?_) (fun b hb q => ?_)
      · rcases q with q | q
        · exact (hown b q).2
        · omega
      · rcases q with q | q
        · omega
        · have e : g = b := by simpa [Value.ownBlock] using q
          rcases hfr with hf | hf
          · exact (hown b (by rw [hf, e])).2
          · omega
  · refine k9.go t05 (fun b hb q => ?_) (fun b hb q => q)
    rcases q with q | q | q
    · left; omega
    · right; have := hown b q; omega
    · right; omega
  · refine k10.go t05 (fun b hb q => ?_) (fun b hb q => q)
    rcases q with q | q | q
    · left; omega
    · right; exact (hown b q).1
    · left; omega
  · have := t05.size; omega
theorem LK.tg {w : World} {C R G Z Bq B8 h : Nat} {vf v8 : Value} {fs : List (ByteArray × ByteArray)} {nts : Nat} {cs : List Value} {ct : Nat} {acc : List Prt} {xs : List (Value × Value × Value)} {vp : Value} {V V' : World} (hk : LK w C R G Z Bq B8 h vf v8 fs nts cs ct acc xs vp V) (ht : Tg (fun _ => False) V V') : LK w C R G Z Bq B8 h vf v8 fs nts cs ct acc xs vp V' := by
  obtain ⟨k1, k2, k3, k4, k5, k6, k7, k8, k9, k10, k11⟩ := hk
  exact ⟨k1.two ht (fun _ _ q => q) (fun _ _ q => q.elim), ht.kept k2 id, ht.kept k3 id, ht.kept k4 id, ht.kept k5 id, own_tg k6 ht (fun b hb => hb.elim), k7, fun i t x h1 h2 => (k8 i t x h1 h2).go ht (fun _ _ q => q.elim) (fun _ _ q => q), k9.go ht (fun _ _ q => q.elim) (fun _ _ q => q), k10.go ht (fun _ _ q => q.elim) (fun _ _ q => q), Nat.le_trans k11 ht.size⟩
/-- The knot, when all of its parts are read. -/
theorem LK.whole {w : World} {C R G Z Bq B8 h : Nat} {vf v8 : Value} {fs : List (ByteArray × ByteArray)} {nts : Nat} {cs : List Value} {ct : Nat} {acc : List Prt} {xs : List (Value × Value × Value)} {vp : Value} {V : World} (hk : LK w C R G Z Bq B8 h vf v8 fs nts cs ct acc xs vp V) (hG : w.heap.size = G) (hGZ : G < Z) (hZ : Z + 1 < Bq) (hB : Bq ≤ B8) (hl : acc.length ≤ maxLen) :
    Stay (fun b => b ≤ w.heap.size) V (fun W => PtAt (h + 1) W ⟨fs, [], acc⟩ vf (.slice none 0 0) vp) := by
  obtain ⟨k1, k2, k3, k4, k5, k6, k7, k8, k9, k10, k11⟩ := hk
  intro W hW
  refine ⟨k9 W (hW.mono (fun b hb => by omega)), ⟨none, 0, rfl, by simp, by simp, fun _ => rfl, fun x hx => by simp at hx, .inl rfl⟩, ?_⟩
  exact own_trow (own_tg k6 hW (fun b hb => by omega)) hl k7 (fun i t x h1 h2 => k8 i t x h1 h2 W (hW.mono (fun b hb => .inl (by omega))))
end Go.Proofs.YtmdkmedlncfcbaaGreatDoor
