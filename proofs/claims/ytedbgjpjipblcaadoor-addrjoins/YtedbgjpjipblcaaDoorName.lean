/-
  The contract of takeName.
-/
import Derived.Test.YtedbgjpjipblcaaDoorQn
import Derived.Deep.RegionHeld3
namespace Go.Proofs.YtedbgjpjipblcaaDoor
open Go.RowKit
set_option linter.unusedVariables false

theorem below_drew {n : Nat} {w w' : World} (h : Below n w w') : Below n w w'.drew := below_drewN h 1
theorem cell_keep {w w' : World} {p : Addr} {v : Value} (hb : Below w.heap.size w w') (h : w.cell? p = some v) : w'.cell? p = some v := (hb.cell (World.block_lt_of_cell? w p h)).trans h
/-- A name off the front of a text, and what is left. -/
def nameR : List Int → Option (List Int × List Int)
  | 34 :: q => if endZ q = -1 then none else (unqR (q.take (endZ q).toNat)).map fun x => (x, q.drop ((endZ q).toNat + 1))
  | h => if idxZ 60 h = -1 then none else if atomsZ 32 (rtrim (h.take (idxZ 60 h).toNat)) = true then some (rtrim (h.take (idxZ 60 h).toNat), h.drop (idxZ 60 h).toNat) else none
theorem nameR_34 (q : List Int) : nameR (34 :: q) = if endZ q = -1 then none else (unqR (q.take (endZ q).toNat)).map fun x => (x, q.drop ((endZ q).toNat + 1)) := rfl
theorem nameR_oth {h : List Int} (hn : ∀ r, h ≠ 34 :: r) : nameR h = if idxZ 60 h = -1 then none else if atomsZ 32 (rtrim (h.take (idxZ 60 h).toNat)) = true then some (rtrim (h.take (idxZ 60 h).toNat), h.drop (idxZ 60 h).toNat) else none := by
  unfold nameR
  split
  · rename_i q
    exact absurd rfl (hn q)
  · rfl
def TAns (b : Bool) (x : Option (List Int × List Int)) (n r : List Int) : Prop := (b = true → x = some (n, r)) ∧ (b = false → x = none)
set_option maxHeartbeats 4000000 in
set_option maxRecDepth 100000 in
theorem takeName_any (s : ByteArray) (w : World) (hs : s.size ≤ 1000000000) :
    Calls Tryd.prog 21 #[.string s] w fun e w' => ∃ x r b, e = .returned (.tuple #[.string x, .string r, .bool b]) ∧ Below w.heap.size w w' ∧ TAns b (nameR (nums s)) (nums x) (nums r) ∧ x.size ≤ s.size ∧ r.size ≤ s.size := by
  go_enter Tryd.func21, Tryd.ntmps21
  go_wp2_with fail
  refine (cutPrefix_any s 34 _ hs).mono ?_
  rintro e w1 ⟨q, b, rfl, hp, rfl, hqz⟩
  have HP : Hid (PfxA 34 s q b) := hp
  clear hp
  cases b with
  | true =>
    have HS : Hid (nums s = 34 :: nums q) := HP.out.1 rfl
    have hq1 : q.size + 1 = s.size := by rw [← nums_len, ← nums_len, HS.out]; rfl
    have hcall := nameEnd_any q w (by omega)
    obtain ⟨en, hen⟩ : ∃ en, endZ (nums q) = en := ⟨_, rfl⟩
    rw [hen] at hcall
    have HEN : Hid (endZ (nums q) = en) := hen
    rcases end_ge (nums q) with h | ⟨h, hl⟩
    · obtain rfl : en = -1 := by omega
      have HN : Hid (nameR (nums s) = none) := by unfold Hid; rw [HS.out, nameR_34, if_pos h]
      clear hen h
      go_wp2_with (go_at_call 44; refine hcall.mono ?_; rintro e w' ⟨rfl, rfl⟩)
      go_ret3
      exact ⟨_, _, false, rfl, Below.refl _ _, ⟨fun q => (by cases q), fun _ => HN.out⟩, Nat.zero_le _, Nat.zero_le _⟩
    · obtain ⟨k, rfl⟩ : ∃ k : Nat, en = k := ⟨en.toNat, by omega⟩
      rw [hen, nums_len] at hl
      have d0 : decide ((k : Int) < 0) = false := by simp
      have k0 : (0 : Int) ≤ (k : Int) := by omega
      have k1 : (k : Int) ≤ (q.size : Int) := by omega
      have k2 : (k : Int) + 1 ≤ (q.size : Int) := by omega
      have k3 : (0 : Int) ≤ (k : Int) + 1 := by omega
      have k4 : ((k : Int) + 1).toNat = k + 1 := by omega
      have z1 : (q.extract 0 k).size ≤ q.size := by rw [← nums_len, nums_to, List.length_take, nums_len]; omega
      have z2 : (q.extract (k + 1) q.size).size ≤ q.size := by rw [← nums_len, nums_from, List.length_drop, nums_len]; omega
      have hwf : wfU (nums (q.extract 0 k)) = true := by rw [nums_to]; exact wf_end _ _ hen
      have HN : Hid (nameR (nums s) = (unqR (nums (q.extract 0 k))).map fun x => (x, nums (q.extract (k + 1) q.size))) := by
        unfold Hid; rw [HS.out, nameR_34, if_neg (by omega), HEN.out, nums_to, nums_from]; rfl
      have hun := unquote_any (q.extract 0 k) w (by omega) hwf
      clear hen h
      go_wp2_with fail
      refine hcall.mono ?_
      rintro e w' ⟨rfl, rfl⟩
      go_wp2_with fail
      refine hun.mono ?_
      clear hun hcall
      rintro e w2 ⟨x, b, rfl, hb2, hua, hxz⟩
      have HUA : Hid (UAns b (unqR (nums (q.extract 0 k))) (nums x)) := hua
      have HB2 : Hid (Below w.heap.size w w2) := hb2
      clear hua hb2
      go_wp2
      go_quiet (fail)
      go_wp2
      go_ret3
      refine ⟨x, _, b, rfl, below_drewN HB2.out _, ⟨fun hb => ?_, fun hb => ?_⟩, by omega, by omega⟩
      · rw [HN.out, HUA.out.1 hb]; rfl
      · rw [HN.out, HUA.out.2 hb]; rfl
  | false =>
    obtain ⟨rfl, hno⟩ := HP.out.2 rfl
    have HNR : Hid (nameR (nums q) = if idxZ 60 (nums q) = -1 then none else if atomsZ 32 (rtrim ((nums q).take (idxZ 60 (nums q)).toNat)) = true then some (rtrim ((nums q).take (idxZ 60 (nums q)).toNat), (nums q).drop (idxZ 60 (nums q)).toNat) else none) := nameR_oth hno
    clear hno
    have hcall := index46_any q 60 w (by omega) (by omega)
    obtain ⟨en, hen⟩ : ∃ en, idxZ 60 (nums q) = en := ⟨_, rfl⟩
    rw [hen] at hcall
    have HEN : Hid (idxZ 60 (nums q) = en) := hen
    rcases idx_ge 60 (nums q) with h | ⟨h, hl⟩
    · obtain rfl : en = -1 := by omega
      have HN : Hid (nameR (nums q) = none) := by unfold Hid; rw [HNR.out, if_pos h]
      clear hen h
      go_wp2_with (go_at_call 46; refine hcall.mono ?_; rintro e w' ⟨rfl, rfl⟩)
      go_ret3
      exact ⟨_, _, false, rfl, Below.refl _ _, ⟨fun q => (by cases q), fun _ => HN.out⟩, Nat.zero_le _, Nat.zero_le _⟩
    · obtain ⟨k, rfl⟩ : ∃ k : Nat, en = k := ⟨en.toNat, by omega⟩
      rw [hen, nums_len] at hl
      have d0 : decide ((k : Int) < 0) = false := by simp
      have k0 : (0 : Int) ≤ (k : Int) := by omega
      have k1 : (k : Int) ≤ (q.size : Int) := by omega
      have z1 : (q.extract 0 k).size ≤ q.size := by rw [← nums_len, nums_to, List.length_take, nums_len]; omega
      have z2 : (q.extract k q.size).size ≤ q.size := by rw [← nums_len, nums_from, List.length_drop, nums_len]; omega
      have z3 := rt_size (q.extract 0 k)
      have htr := trimRight_any (q.extract 0 k) w (by omega)
      have HX : Hid (nums (rtS (q.extract 0 k)) = rtrim ((nums q).take k)) := by unfold Hid; rw [nums_rt, nums_to]
      obtain ⟨x, hx⟩ : ∃ x, rtS (q.extract 0 k) = x := ⟨_, rfl⟩
      rw [hx] at htr HX z3
      have hat := fun V => isAtoms_any x 32 V (by omega)
      obtain ⟨b, hb⟩ : ∃ b, atomsZ (((32 : UInt8).toNat : Nat) : Int) (nums x) = b := ⟨_, rfl⟩
      rw [hb] at hat
      have HN : Hid (nameR (nums q) = if b = true then some (nums x, nums (q.extract k q.size)) else none) := by
        unfold Hid; rw [HNR.out, if_neg (by omega), HEN.out, ← hb, nums_from, HX.out]; rfl
      clear hen h hx hb HX
      go_wp2_with fail
      refine hcall.mono ?_
      rintro e w' ⟨rfl, rfl⟩
      go_wp2_with fail
      refine htr.mono ?_
      rintro e w' ⟨rfl, rfl⟩
      clear htr hcall
      go_wp2_with fail
      go_region_held3 (fun V => Below w.heap.size w V) (first | assumption | exact below_drew (Below.refl _ _)) (first
        | (go_at_call 30; refine (hat _).mono ?_; rintro e w5 ⟨rfl, hb5⟩; have hB5 : Below w.heap.size w w5 := (show Below w.heap.size w _ by first | assumption | exact below_drew (Below.refl _ _)).trans (hb5.mono (show Below w.heap.size w _ by first | assumption | exact below_drew (Below.refl _ _)).size); clear hb5))
      go_wp2
      go_ret3
      refine ⟨x, _, b, rfl, hB5, ⟨fun hb => ?_, fun hb => ?_⟩, by omega, by omega⟩
      · rw [HN.out, if_pos hb]
      · rw [HN.out, if_neg (by rw [hb]; simp)]
end Go.Proofs.YtedbgjpjipblcaaDoor
