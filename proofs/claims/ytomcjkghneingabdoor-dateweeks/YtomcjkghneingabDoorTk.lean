/-
  Where a word ends: the contract of wordEnd.
-/
import Derived.Test.YtomcjkghneingabDoorTj
import Derived.Test.YtomcjkghneingabDoorAn
namespace Go.Proofs.YtomcjkghneingabDoor
open Go.RowKit
set_option linter.unusedVariables false
set_option linter.unusedSimpArgs false

theorem tw_all (p : Int → Bool) : ∀ l : List Int, l.takeWhile p = l → ∀ x ∈ l, p x = true
  | [], _, x, h => by cases h
  | c :: l, h, x, hx => by
    by_cases q : p c = true
    · rw [List.takeWhile_cons_of_pos q] at h
      have h2 := (List.cons.inj h).2
      rcases List.mem_cons.1 hx with e | e
      · rw [e]; exact q
      · exact tw_all p l h2 x e
    · rw [List.takeWhile_cons_of_neg q] at h
      cases h
theorem any_range (cs l : List Int) : anyI cs l = -1 ∨ ∃ k : Nat, anyI cs l = k ∧ k < l.length := by
  unfold anyI
  by_cases h : l.any cs.contains = true
  · rw [if_pos h]
    right
    refine ⟨_, rfl, ?_⟩
    obtain ⟨x, hx, hc⟩ := List.any_eq_true.1 h
    have hle : (l.takeWhile fun c => !cs.contains c).length ≤ l.length := (List.takeWhile_sublist _).length_le
    rcases Nat.lt_or_eq_of_le hle with h1 | h1
    · exact h1
    · exfalso
      have he : l.takeWhile (fun c => !cs.contains c) = l := (List.takeWhile_sublist _).eq_of_length h1
      have := tw_all _ l he x hx
      simp only [hc] at this
      cases this
  · rw [if_neg h]
    exact .inl rfl
/-- Where the word at a text's front ends. -/
def weZ (l : List Int) : Int :=
  if anyI [32, 9, 40] l < 0 ∨ (l.getD (anyI [32, 9, 40] l).toNat 0 = 40 ∧ idxZ 41 (l.drop (anyI [32, 9, 40] l).toNat) < 0) then l.length else anyI [32, 9, 40] l
set_option maxHeartbeats 8000000 in
set_option maxRecDepth 100000 in
theorem wordEnd_any (s : ByteArray) (w : World) (hs : s.size ≤ 100000000) : Calls Tryd.prog 50 #[.string s] w fun e w' => e = .returned (.int .i64 (weZ (nums s))) ∧ Below w.heap.size w w' := by
  have ha := indexAny_any s ⟨#[32, 9, 40]⟩ w (by decide) (by decide) (by omega) (by
    intro i h
    have h : i < 3 := h
    match i, h with
    | 0, _ => show (32 : UInt8).toNat < 128; decide
    | 1, _ => show (9 : UInt8).toNat < 128; decide
    | 2, _ => show (40 : UInt8).toNat < 128; decide)
  rw [show nums ⟨#[32, 9, 40]⟩ = [32, 9, 40] from rfl] at ha
  have HI : Hid (∀ x V, Calls Tryd.prog 22 #[.string x, .int .u8 41] V fun e w' => e = .returned (.int .i64 (idxZ 41 (nums x))) ∧ V = w') := fun x V => index46_any x 41 V (by decide) (by decide)
  obtain ⟨n, hn⟩ : ∃ n, s.size = n := ⟨_, rfl⟩
  have hln : (nums s).length = n := by rw [nums_len]; exact hn
  rcases any_range [32, 9, 40] (nums s) with hr | ⟨k, hr, hk⟩
  · have HZ : Hid (weZ (nums s) = (n : Int)) := by
      unfold Hid weZ
      rw [hr, if_pos (.inl (by decide)), hln]
    rw [hr] at ha
    clear hr hln
    go_enter Tryd.func50, Tryd.ntmps50
    go_wp2_with fail
    refine ha.mono ?_
    rintro e w2 ⟨rfl, hb⟩
    go_wp2
    go_ret
    exact ⟨by rw [HZ.out] <;> rfl, hb⟩
  · rw [nums_len] at hk
    have k0 : (0 : Int) ≤ (k : Int) := by omega
    have k1 : (k : Int) < (s.size : Int) := by omega
    have k2 : (k : Int) ≤ (s.size : Int) := by omega
    have k3 : ¬ (k : Int) < 0 := by omega
    have hat : (nums s).getD k 0 = ((s[k]'hk).toNat : Int) := by rw [List.getD_eq_getElem?_getD, nums_at s k hk]; rfl
    have hcb : ((s[k]'hk).toNat : Int) < 256 := by have := (s[k]'hk).toNat_lt; omega
    obtain ⟨c, hc⟩ : ∃ c : Int, ((s[k]'hk).toNat : Int) = c := ⟨_, rfl⟩
    rw [hc] at hat hcb
    have HW : Hid (weZ (nums s) = if c = 40 ∧ idxZ 41 ((nums s).drop k) < 0 then (n : Int) else (k : Int)) := by
      unfold Hid weZ
      rw [hr, Int.toNat_natCast, hat, hln]
      by_cases q : c = 40 ∧ idxZ 41 ((nums s).drop k) < 0
      · rw [if_pos (.inr q), if_pos q]
      · rw [if_neg q, if_neg (fun h => h.elim (fun h => k3 h) q)]
    rw [hr] at ha
    clear hr hat hln
    have hidx := HI.out (s.extract k s.size)
    rw [nums_from] at hidx
    obtain ⟨j, hj⟩ : ∃ j, idxZ 41 ((nums s).drop k) = j := ⟨_, rfl⟩
    rw [hj] at hidx HW
    have HJ : Hid (∀ V, Calls Tryd.prog 22 #[.string (s.extract k s.size), .int .u8 41] V fun e w' => e = .returned (.int .i64 j) ∧ V = w') := hidx
    have hjb : -1 ≤ j := by rw [← hj]; rcases idx_ge 41 ((nums s).drop k) with h | h <;> omega
    clear hidx hj
    by_cases pc : c = 40
    · have d1 : (c == 40) = true := by simpa using pc
      by_cases pj : j < 0
      · have d2 : decide (j < 0) = true := by simpa using pj
        rw [if_pos ⟨pc, pj⟩] at HW
        clear pc
        go_enter Tryd.func50, Tryd.ntmps50
        go_wp2_with fail
        refine ha.mono ?_
        rintro e w2 ⟨rfl, hb⟩
        go_wp2_with fail
        have hj2 := HJ.out w2
        rw [hn] at hj2
        refine hj2.mono ?_
        rintro e w3 ⟨rfl, rfl⟩
        go_wp2
        go_ret
        exact ⟨by rw [HW.out] <;> rfl, hb⟩
      · have d2 : decide (j < 0) = false := by simpa using pj
        rw [if_neg (fun h => pj h.2)] at HW
        clear pc
        go_enter Tryd.func50, Tryd.ntmps50
        go_wp2_with fail
        refine ha.mono ?_
        rintro e w2 ⟨rfl, hb⟩
        go_wp2_with fail
        have hj2 := HJ.out w2
        rw [hn] at hj2
        refine hj2.mono ?_
        rintro e w3 ⟨rfl, rfl⟩
        go_wp2
        go_ret
        exact ⟨by rw [HW.out] <;> rfl, hb⟩
    · have d1 : (c == 40) = false := by simpa using pc
      rw [if_neg (fun h => pc h.1)] at HW
      go_enter Tryd.func50, Tryd.ntmps50
      go_wp2_with fail
      refine ha.mono ?_
      rintro e w2 ⟨rfl, hb⟩
      go_wp2
      go_ret
      exact ⟨by rw [HW.out] <;> rfl, hb⟩
end Go.Proofs.YtomcjkghneingabDoor
