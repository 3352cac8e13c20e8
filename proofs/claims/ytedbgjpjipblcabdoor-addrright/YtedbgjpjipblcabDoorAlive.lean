/-
  The contracts of long and of the reference's Lower; what must come of fixed calls; addresses as they come in.
-/
import Derived.Test.YtedbgjpjipblcabDoorRead
import Derived.WideShapes
import Derived.OpenShut
import Derived.SizedLaws
namespace Go.Proofs.YtedbgjpjipblcabDoor
open Go.RowKit Go.ChangeShapes Go.WideShapes
set_option linter.unusedVariables false

def alS : ByteArray := ⟨#[34, 65, 44, 32, 66, 34, 32, 60, 67, 64, 68, 46, 111, 114, 103, 62]⟩
theorem al_read : readR (nums alS) = some ([65, 44, 32, 66], [67], [68, 46, 111, 114, 103]) := by decide +kernel
theorem al_plain : plainR (nums ⟨#[97]⟩) = none := by decide +kernel
theorem al_right : rightZ (nums (⟨#[65, 44, 32, 66]⟩ : ByteArray)) (nums (⟨#[67]⟩ : ByteArray)) (nums (⟨#[68, 46, 111, 114, 103]⟩ : ByteArray)) = true := by decide +kernel
theorem al_norm : normL (nums (⟨#[67]⟩ : ByteArray)) (nums (⟨#[68, 46, 111, 114, 103]⟩ : ByteArray)) = nums (⟨#[99, 64, 100, 46, 111, 114, 103]⟩ : ByteArray) := by decide +kernel
set_option maxRecDepth 100000 in
set_option maxHeartbeats 4000000 in
theorem alive_any (w : World) : Calls Tryd.prog 4 #[] w fun e w' => e = .returned (.bool true) ∧ Below w.heap.size w w' := by
  have hread := read_any alS w (by decide)
  unfold RPost at hread
  rw [al_read] at hread
  unfold alS at hread
  go_enter Tryd.func4, Tryd.ntmps4
  go_wp2_with fail
  refine hread.mono ?_
  clear hread
  rintro e w1 ⟨n, l, d, c, rfl, hb1, hans, _⟩
  rcases hans with ⟨rfl, h⟩ | ⟨_, _, _, _, h⟩
  case inr => cases h
  simp only [Option.some.injEq, Prod.mk.injEq] at h
  obtain ⟨e1, e2, e3⟩ := h
  obtain rfl : n = ⟨#[65, 44, 32, 66]⟩ := nums_inj (e1.symm.trans rfl)
  obtain rfl : l = ⟨#[67]⟩ := nums_inj (e2.symm.trans rfl)
  obtain rfl : d = ⟨#[68, 46, 111, 114, 103]⟩ := nums_inj (e3.symm.trans rfl)
  clear e1 e2 e3
  have HB1 : Hid (Below w.heap.size w w1) := hb1
  have hs1 := hb1.size
  clear hb1
  unfold addrV
  have hpl := plain_any ⟨#[97]⟩ (w1.alloc (.cells #[.string ⟨#[65, 44, 32, 66]⟩, .string ⟨#[67]⟩, .string ⟨#[68, 46, 111, 114, 103]⟩] 24)) (by decide)
  go_wp2_with fail
  refine hpl.mono ?_
  clear hpl
  rintro e w2 ⟨n, l, d, c, rfl, hb2, hpa⟩
  obtain ⟨rfl, hpr⟩ := plain_R hpa
  rcases hpr with ⟨_, hpr, _⟩ | ⟨rfl, rfl, rfl, _⟩
  · rw [al_plain] at hpr; cases hpr
  have HA2 : Hid (AAt w2 w1.heap.size ⟨#[65, 44, 32, 66]⟩ ⟨#[67]⟩ ⟨#[68, 46, 111, 114, 103]⟩) := (aat_new w1 _ _ _).below hb2
  have HB2 : Hid (Below w.heap.size w w2) := (HB1.out.alloc hs1 _).trans (hb2.mono (by simp; omega))
  have hs2 := HB2.out.size
  clear hpa hb2
  obtain ⟨_, x0, x1, x2⟩ := HA2.out
  unfold addrV
  have hno := fun V => normal_any ⟨#[65, 44, 32, 66]⟩ ⟨#[67]⟩ ⟨#[68, 46, 111, 114, 103]⟩ V (by decide) (by decide) (by decide)
  rw [al_right] at hno
  unfold addrV at hno
  go_wp2_with (go_at_call 9; refine (hno _).mono ?_; rintro e w3 ⟨x, rfl, hb3, hna⟩; obtain rfl : x = ⟨#[99, 64, 100, 46, 111, 114, 103]⟩ := nums_inj ((hna.1 rfl).trans al_norm))
  go_ret
  exact ⟨rfl, (HB2.out.alloc hs2 _).trans (hb3.mono (by simp; omega))⟩
theorem Tryd.one9 : Tryd.prog.cellsOf 9 = 1 := by kernel_rfl
theorem Tryd.three24 : Tryd.prog.cellsOf 24 = 3 := by kernel_rfl
theorem reach_le {n : Nat} (h : n ≤ reachBytes) : n ≤ 140737488355328 := Nat.le_trans h (Nat.le_of_lt (by have := reachBytes_lt; omega))
def IsA (n l d : ByteArray) : Prop := n.size ≤ 140737488355328 ∧ l.size ≤ 140737488355328 ∧ d.size ≤ 140737488355328
set_option maxRecDepth 100000 in
theorem addr_arg {H : Type} {enc : TypeId × Value → H} {W : World} {base b0 : Nat} {sp : Nat → Bool} {held : Bool} {v : Value} {x : DataW H} {ps : List MemPlace} {r : Reach} (hv : Value.okWide Tryd.prog W r b0 24 v) (h : DataW.Trod enc Tryd.prog W base sp held 24 v x ps) (hw : ∀ n ∈ x.weights Tryd.prog 24, n ≤ reachBytes) :
    ∃ n l d, v = .agg #[.string n, .string l, .string d] ∧ IsA n l d := by
  obtain ⟨cs, rfl, hsz⟩ := okWide_struct Tryd.underlying24 hv
  rw [Tryd.three24] at hsz
  obtain ⟨fuel, hf⟩ := h
  obtain ⟨xs, n, rfl, hd, hlen, hxl, hx⟩ := DataW.trod_struct Tryd.underlying24 hf
  obtain ⟨c0, c1, c2, rfl⟩ : ∃ c0 c1 c2, cs = #[c0, c1, c2] := by
    obtain ⟨l⟩ := cs
    match l, hsz with
    | [c0, c1, c2], _ => exact ⟨c0, c1, c2, rfl⟩
  match xs, hxl with
  | [y0, y1, y2], _ =>
    have g0 : DataW.trod enc Tryd.prog W base sp held n 9 ((([c0, c1, c2] : List Value).drop 0).take (Tryd.prog.cellsOf 9)) = some y0 := hx 0 _ rfl
    have g1 : DataW.trod enc Tryd.prog W base sp held n 9 ((([c0, c1, c2] : List Value).drop 1).take (Tryd.prog.cellsOf 9)) = some y1 := hx 1 _ rfl
    have g2 : DataW.trod enc Tryd.prog W base sp held n 9 ((([c0, c1, c2] : List Value).drop 2).take (Tryd.prog.cellsOf 9)) = some y2 := hx 2 _ rfl
    rw [Tryd.one9] at g0 g1 g2
    obtain ⟨s, e0, f0, z0⟩ := DataW.trod_string Tryd.underlying9 g0
    obtain ⟨t, e1, f1, z1⟩ := DataW.trod_string Tryd.underlying9 g1
    obtain ⟨q, e2, f2, z2⟩ := DataW.trod_string Tryd.underlying9 g2
    simp at e0 e1 e2
    subst f0
    subst f1
    subst f2
    have hd2 : x = .agg [.lit (.string s.data.toList), .lit (.string t.data.toList), .lit (.string q.data.toList)] := by
      have := congrArg Prod.fst hd
      simpa using this
    subst hd2
    have hwe : ∀ n, n ∈ (.lit (.string s.data.toList) : DataW H).weights Tryd.prog 9 ++ ((.lit (.string t.data.toList) : DataW H).weights Tryd.prog 9 ++ ((.lit (.string q.data.toList) : DataW H).weights Tryd.prog 9 ++ [])) → n ≤ reachBytes := by
      intro n hn
      apply hw n
      simp only [DataW.weights, Tryd.underlying24]
      exact hn
    have hs : s.size ≤ reachBytes := hwe _ (by simp [DataW.weights])
    have ht : t.size ≤ reachBytes := hwe _ (by simp [DataW.weights])
    have hq : q.size ≤ reachBytes := hwe _ (by simp [DataW.weights])
    exact ⟨s, t, q, by rw [e0, e1, e2], reach_le hs, reach_le ht, reach_le hq⟩
end Go.Proofs.YtedbgjpjipblcabDoor
