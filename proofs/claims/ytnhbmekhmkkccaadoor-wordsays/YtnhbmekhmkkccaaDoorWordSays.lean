/-
  For every text and either front: a text that is valid and short, put as signs between =?utf-8?B? (or =?UTF-8?b?) and ?=, is a word that says it; no condition but what the row lists.
-/
import Derived.Test.YtnhbmekhmkkccaaDoorCards
import Derived.Test.YtnhbmekhmkkccaaDoorTie
import Derived.Test.YtnhbmekhmkkccaaDoorSh
import Derived.WalkKit
import Derived.ProofKit
import Derived.OpenShut
import Derived.ShutString
import Derived.ChangeOld
import Derived.Below
import Derived.LaidMore
import Derived.Lay
import Derived.SevenTiedAt
import Derived.Stop.Joined
namespace Go.Proofs.YtnhbmekhmkkccaaDoor.wordSays
open Go.ChangeShapes Go.WideShapes Go.ChangeAt Go.RowKit
open Go.ChangeMaps (open_string shut_string)
set_option linter.unusedVariables false

theorem eq_self (s : ByteArray) : (s.toList == s.toList) = true := by simp
theorem says_dec {p l : List Int} (ho : oneR p = some l) (hb : (32 : Int) ∉ p) : decodeL ([97] ++ 32 :: (p ++ 32 :: p)) = [97] ++ 32 :: (l ++ l) := by
  unfold decodeL
  rw [pieces_app _ (by decide), pieces_app _ hb, pieces_none hb]
  have h1 : oneR [97] = none := one_not (by decide)
  simp only [decP, h1, ho]
  simp
set_option maxHeartbeats 4000000 in
set_option maxRecDepth 100000 in
theorem walk_f (s : ByteArray) (w : World) (hsz : s.size ≤ 45) (hv : validZ (nums s) = true) (m : Int) (hm : w.cell? ⟨0, 0, none⟩ = some (.int .i64 m)) :
    Calls Tryd.prog 7 #[.string s, .bool false] w fun e w' => e = .returned (.bool true) ∧ Below w.heap.size w w' := by
  have hd : decide ((s.size : Int) > 45) = false := decide_eq_false (by omega)
  obtain ⟨cap, w1, kc, hcap, hmx, hrow, hb, hfz⟩ := conv_bytes s w (by unfold maxLen; omega)
  have hval := valid_row _ s.size cap (nums s) w1 (nums_len s) (nums_byt s) hcap (by unfold maxLen; omega) hrow
  rw [hv] at hval
  have hmV : Hid (∀ V, Below w.heap.size w V → V.cell? ⟨0, 0, none⟩ = some (.int .i64 m)) := fun V hb => (hb.cell (World.block_lt_of_cell? w _ hm)).trans hm
  have HV : Hid (validZ (nums s) = true) := hv
  have HB : Hid (Below w.heap.size w w1) := hb
  obtain ⟨cap2, w2, kc2, hcap2, hmx2, hrow2, hb2, hfz2⟩ := conv_bytes s w1 (by unfold maxLen; omega)
  have henc := Bt.encode_ok _ s.size cap2 0 (nums s) w2 (nums_len s) (nums_byt s) hcap2 (by unfold maxLen; omega) (by omega) (by omega) (by omega) (by omega) hrow2
  have hel := (enc0_sgb _ 0 (nums s) (Nat.le_refl _)).2
  rw [nums_len] at hel
  have hez : (strOfNums (Bt.encW 0 0 (nums s))).size ≤ 60 := by rw [strOfNums_size, hel]; omega
  have hbe : Byt (Bt.encW 0 0 (nums s)) := fun y hy => by have := (enc0_sgb _ 0 (nums s) (Nat.le_refl _)).1 y hy; unfold SgB at this; omega
  have HBS : Hid (nums (strOfNums (Bt.encW 0 0 (nums s))) = Bt.encW 0 0 (nums s)) := nums_str hbe
  generalize strOfNums (Bt.encW 0 0 (nums s)) = bs at henc hez HBS
  have HB2 : Hid (Below w.heap.size w w2) := HB.out.trans (hb2.mono HB.out.size)
  clear hrow hfz hv hb hm hrow2 hfz2 hb2 hel hbe
  go_enter Tryd.func7, Tryd.ntmps7
  go_wp2_with (go_at_call 18; refine hval.mono ?_; rintro e w' ⟨rfl, rfl⟩)
  refine henc.mono ?_
  clear henc hval kc kc2
  rintro e w3 ⟨rfl, hb3⟩
  have HB3 : Hid (Below w.heap.size w w3) := HB2.out.trans (hb3.mono HB2.out.size)
  clear hb3
  have HW : Hid (nums (⟨#[61, 63, 117, 116, 102, 45, 56, 63, 66, 63]⟩ ++ bs ++ ⟨#[63, 61]⟩) = wordL [117, 116, 102, 45, 56] [66] (nums s)) := by
    unfold Hid; rw [nums_append, nums_append, HBS.out]; simp [wordL, nums]
  have HO : Hid (oneR (wordL [117, 116, 102, 45, 56] [66] (nums s)) = some (nums s)) := one_word (by decide) rfl (by simp) (by decide) (nums_byt s) (by rw [nums_len]; omega) HV.out
  have HNB : Hid ((32 : Int) ∉ wordL [117, 116, 102, 45, 56] [66] (nums s)) := word_blank (by decide) (by decide)
  have HDD : Hid (decodeL (nums (⟨#[97, 32]⟩ ++ ⟨#[61, 63, 117, 116, 102, 45, 56, 63, 66, 63]⟩ ++ bs ++ ⟨#[63, 61, 32]⟩ ++ ⟨#[61, 63, 117, 116, 102, 45, 56, 63, 66, 63]⟩ ++ bs ++ ⟨#[63, 61]⟩)) = nums (⟨#[97, 32]⟩ ++ s ++ s)) := by
    have e1 : nums (⟨#[97, 32]⟩ ++ ⟨#[61, 63, 117, 116, 102, 45, 56, 63, 66, 63]⟩ ++ bs ++ ⟨#[63, 61, 32]⟩ ++ ⟨#[61, 63, 117, 116, 102, 45, 56, 63, 66, 63]⟩ ++ bs ++ ⟨#[63, 61]⟩) = [97] ++ 32 :: (wordL [117, 116, 102, 45, 56] [66] (nums s) ++ 32 :: wordL [117, 116, 102, 45, 56] [66] (nums s)) := by
      rw [nums_append, nums_append, nums_append, nums_append, nums_append, nums_append, HBS.out]; simp [wordL, nums]
    have e2 : nums (⟨#[97, 32]⟩ ++ s ++ s) = [97] ++ 32 :: (nums s ++ nums s) := by rw [nums_append, nums_append]; simp [nums]
    unfold Hid; rw [e1, e2]
    exact says_dec HO.out HNB.out
  have z0 : ¬ 9223372036854775807 < 10 + bs.size := by omega
  have z1 : ¬ 9223372036854775807 < 10 + bs.size + 2 := by omega
  have hone := one_any (⟨#[61, 63, 117, 116, 102, 45, 56, 63, 66, 63]⟩ ++ bs ++ ⟨#[63, 61]⟩) m w3 (by simp only [ByteArray.size_append, show (⟨#[61, 63, 117, 116, 102, 45, 56, 63, 66, 63]⟩ : ByteArray).size = 10 from rfl, show (⟨#[63, 61]⟩ : ByteArray).size = 2 from rfl]; omega) (hmV.out w3 HB3.out)
  rw [HW.out, HO.out] at hone
  go_wp2_with fail
  refine hone.mono ?_
  clear hone
  rintro e w4 ⟨y, b, rfl, hans, hb4⟩
  have hbt : b = true := by
    cases b with
    | true => rfl
    | false => have := (hans.2 rfl).1; cases this
  subst hbt
  obtain rfl : y = s := nums_inj (Option.some.inj (hans.1 rfl)).symm
  have HB4 : Hid (Below w.heap.size w w4) := HB3.out.trans (hb4.mono HB3.out.size)
  have hal := alive_any m w4 (hmV.out w4 HB4.out)
  clear hans hb4 HW HO HNB HBS
  have hself := eq_self y
  have hself2 := eq_self (⟨#[97, 32]⟩ ++ y ++ y)
  go_wp2_with fail
  refine hal.mono ?_
  clear hal
  rintro e w5 ⟨rfl, hb5⟩
  have HB5 : Hid (Below w.heap.size w w5) := HB4.out.trans (hb5.mono HB4.out.size)
  have hdec := decode_any (⟨#[97, 32]⟩ ++ ⟨#[61, 63, 117, 116, 102, 45, 56, 63, 66, 63]⟩ ++ bs ++ ⟨#[63, 61, 32]⟩ ++ ⟨#[61, 63, 117, 116, 102, 45, 56, 63, 66, 63]⟩ ++ bs ++ ⟨#[63, 61]⟩) m w5 (by simp only [ByteArray.size_append, show (⟨#[61, 63, 117, 116, 102, 45, 56, 63, 66, 63]⟩ : ByteArray).size = 10 from rfl, show (⟨#[63, 61]⟩ : ByteArray).size = 2 from rfl, show (⟨#[63, 61, 32]⟩ : ByteArray).size = 3 from rfl, show (⟨#[97, 32]⟩ : ByteArray).size = 2 from rfl]; omega) (hmV.out w5 HB5.out)
  rw [HDD.out, str_nums] at hdec
  clear hb5 HB4 HDD
  go_wp2_with fail
  refine hdec.mono ?_
  clear hdec
  rintro e w6 ⟨rfl, hb6⟩
  go_wp2
  go_ret
  exact ⟨rfl, HB5.out.trans (hb6.mono HB5.out.size)⟩
set_option maxHeartbeats 4000000 in
set_option maxRecDepth 100000 in
theorem walk_t (s : ByteArray) (w : World) (hsz : s.size ≤ 45) (hv : validZ (nums s) = true) (m : Int) (hm : w.cell? ⟨0, 0, none⟩ = some (.int .i64 m)) :
    Calls Tryd.prog 7 #[.string s, .bool true] w fun e w' => e = .returned (.bool true) ∧ Below w.heap.size w w' := by
  have hd : decide ((s.size : Int) > 45) = false := decide_eq_false (by omega)
  obtain ⟨cap, w1, kc, hcap, hmx, hrow, hb, hfz⟩ := conv_bytes s w (by unfold maxLen; omega)
  have hval := valid_row _ s.size cap (nums s) w1 (nums_len s) (nums_byt s) hcap (by unfold maxLen; omega) hrow
  rw [hv] at hval
  have hmV : Hid (∀ V, Below w.heap.size w V → V.cell? ⟨0, 0, none⟩ = some (.int .i64 m)) := fun V hb => (hb.cell (World.block_lt_of_cell? w _ hm)).trans hm
  have HV : Hid (validZ (nums s) = true) := hv
  have HB : Hid (Below w.heap.size w w1) := hb
  obtain ⟨cap2, w2, kc2, hcap2, hmx2, hrow2, hb2, hfz2⟩ := conv_bytes s w1 (by unfold maxLen; omega)
  have henc := Bt.encode_ok _ s.size cap2 0 (nums s) w2 (nums_len s) (nums_byt s) hcap2 (by unfold maxLen; omega) (by omega) (by omega) (by omega) (by omega) hrow2
  have hel := (enc0_sgb _ 0 (nums s) (Nat.le_refl _)).2
  rw [nums_len] at hel
  have hez : (strOfNums (Bt.encW 0 0 (nums s))).size ≤ 60 := by rw [strOfNums_size, hel]; omega
  have hbe : Byt (Bt.encW 0 0 (nums s)) := fun y hy => by have := (enc0_sgb _ 0 (nums s) (Nat.le_refl _)).1 y hy; unfold SgB at this; omega
  have HBS : Hid (nums (strOfNums (Bt.encW 0 0 (nums s))) = Bt.encW 0 0 (nums s)) := nums_str hbe
  generalize strOfNums (Bt.encW 0 0 (nums s)) = bs at henc hez HBS
  have HB2 : Hid (Below w.heap.size w w2) := HB.out.trans (hb2.mono HB.out.size)
  clear hrow hfz hv hb hm hrow2 hfz2 hb2 hel hbe
  go_enter Tryd.func7, Tryd.ntmps7
  go_wp2_with (go_at_call 18; refine hval.mono ?_; rintro e w' ⟨rfl, rfl⟩)
  refine henc.mono ?_
  clear henc hval kc kc2
  rintro e w3 ⟨rfl, hb3⟩
  have HB3 : Hid (Below w.heap.size w w3) := HB2.out.trans (hb3.mono HB2.out.size)
  clear hb3
  have HW : Hid (nums (⟨#[61, 63, 85, 84, 70, 45, 56, 63, 98, 63]⟩ ++ bs ++ ⟨#[63, 61]⟩) = wordL [85, 84, 70, 45, 56] [98] (nums s)) := by
    unfold Hid; rw [nums_append, nums_append, HBS.out]; simp [wordL, nums]
  have HO : Hid (oneR (wordL [85, 84, 70, 45, 56] [98] (nums s)) = some (nums s)) := one_word (by decide) rfl (by simp) (by decide) (nums_byt s) (by rw [nums_len]; omega) HV.out
  have HNB : Hid ((32 : Int) ∉ wordL [85, 84, 70, 45, 56] [98] (nums s)) := word_blank (by decide) (by decide)
  have HDD : Hid (decodeL (nums (⟨#[97, 32]⟩ ++ ⟨#[61, 63, 85, 84, 70, 45, 56, 63, 98, 63]⟩ ++ bs ++ ⟨#[63, 61, 32]⟩ ++ ⟨#[61, 63, 85, 84, 70, 45, 56, 63, 98, 63]⟩ ++ bs ++ ⟨#[63, 61]⟩)) = nums (⟨#[97, 32]⟩ ++ s ++ s)) := by
    have e1 : nums (⟨#[97, 32]⟩ ++ ⟨#[61, 63, 85, 84, 70, 45, 56, 63, 98, 63]⟩ ++ bs ++ ⟨#[63, 61, 32]⟩ ++ ⟨#[61, 63, 85, 84, 70, 45, 56, 63, 98, 63]⟩ ++ bs ++ ⟨#[63, 61]⟩) = [97] ++ 32 :: (wordL [85, 84, 70, 45, 56] [98] (nums s) ++ 32 :: wordL [85, 84, 70, 45, 56] [98] (nums s)) := by
      rw [nums_append, nums_append, nums_append, nums_append, nums_append, nums_append, HBS.out]; simp [wordL, nums]
    have e2 : nums (⟨#[97, 32]⟩ ++ s ++ s) = [97] ++ 32 :: (nums s ++ nums s) := by rw [nums_append, nums_append]; simp [nums]
    unfold Hid; rw [e1, e2]
    exact says_dec HO.out HNB.out
  have z0 : ¬ 9223372036854775807 < 10 + bs.size := by omega
  have z1 : ¬ 9223372036854775807 < 10 + bs.size + 2 := by omega
  have hone := one_any (⟨#[61, 63, 85, 84, 70, 45, 56, 63, 98, 63]⟩ ++ bs ++ ⟨#[63, 61]⟩) m w3 (by simp only [ByteArray.size_append, show (⟨#[61, 63, 85, 84, 70, 45, 56, 63, 98, 63]⟩ : ByteArray).size = 10 from rfl, show (⟨#[63, 61]⟩ : ByteArray).size = 2 from rfl]; omega) (hmV.out w3 HB3.out)
  rw [HW.out, HO.out] at hone
  go_wp2_with fail
  refine hone.mono ?_
  clear hone
  rintro e w4 ⟨y, b, rfl, hans, hb4⟩
  have hbt : b = true := by
    cases b with
    | true => rfl
    | false => have := (hans.2 rfl).1; cases this
  subst hbt
  obtain rfl : y = s := nums_inj (Option.some.inj (hans.1 rfl)).symm
  have HB4 : Hid (Below w.heap.size w w4) := HB3.out.trans (hb4.mono HB3.out.size)
  have hal := alive_any m w4 (hmV.out w4 HB4.out)
  clear hans hb4 HW HO HNB HBS
  have hself := eq_self y
  have hself2 := eq_self (⟨#[97, 32]⟩ ++ y ++ y)
  go_wp2_with fail
  refine hal.mono ?_
  clear hal
  rintro e w5 ⟨rfl, hb5⟩
  have HB5 : Hid (Below w.heap.size w w5) := HB4.out.trans (hb5.mono HB4.out.size)
  have hdec := decode_any (⟨#[97, 32]⟩ ++ ⟨#[61, 63, 85, 84, 70, 45, 56, 63, 98, 63]⟩ ++ bs ++ ⟨#[63, 61, 32]⟩ ++ ⟨#[61, 63, 85, 84, 70, 45, 56, 63, 98, 63]⟩ ++ bs ++ ⟨#[63, 61]⟩) m w5 (by simp only [ByteArray.size_append, show (⟨#[61, 63, 85, 84, 70, 45, 56, 63, 98, 63]⟩ : ByteArray).size = 10 from rfl, show (⟨#[63, 61]⟩ : ByteArray).size = 2 from rfl, show (⟨#[63, 61, 32]⟩ : ByteArray).size = 3 from rfl, show (⟨#[97, 32]⟩ : ByteArray).size = 2 from rfl]; omega) (hmV.out w5 HB5.out)
  rw [HDD.out, str_nums] at hdec
  clear hb5 HB4 HDD
  go_wp2_with fail
  refine hdec.mono ?_
  clear hdec
  rintro e w6 ⟨rfl, hb6⟩
  go_wp2
  go_ret
  exact ⟨rfl, HB5.out.trans (hb6.mono HB5.out.size)⟩
set_option maxHeartbeats 4000000 in
set_option maxRecDepth 100000 in
theorem walk (s : ByteArray) (b : Bool) (w : World) (hs : s.size ≤ maxLen) (m : Int) (hm : w.cell? ⟨0, 0, none⟩ = some (.int .i64 m)) :
    Calls Tryd.prog 7 #[.string s, .bool b] w fun e w' => e = .returned (.bool true) ∧ Below w.heap.size w w' := by
  by_cases hlong : 45 < s.size
  · have hal := alive_any m w hm
    have hd : decide ((s.size : Int) > 45) = true := decide_eq_true (by omega)
    go_enter Tryd.func7, Tryd.ntmps7
    go_wp2_with (go_at_call 9; refine hal.mono ?_; rintro e w1 ⟨rfl, hb1⟩)
    go_ret
    exact ⟨rfl, hb1⟩
  cases hv : validZ (nums s) with
  | false =>
    have hd : decide ((s.size : Int) > 45) = false := decide_eq_false (by omega)
    obtain ⟨cap, w1, kc, hcap, hmx, hrow, hb, hfz⟩ := conv_bytes s w (by unfold maxLen; omega)
    have hval := valid_row _ s.size cap (nums s) w1 (nums_len s) (nums_byt s) hcap (by unfold maxLen; omega) hrow
    rw [hv] at hval
    have hal := alive_any m w1 ((hb.cell (World.block_lt_of_cell? w _ hm)).trans hm)
    have HB : Hid (Below w.heap.size w w1) := hb
    clear hrow hfz hv hb hm
    go_enter Tryd.func7, Tryd.ntmps7
    go_wp2_with (first
      | (go_at_call 18; refine hval.mono ?_; rintro e w' ⟨rfl, rfl⟩)
      | (go_at_call 9; refine hal.mono ?_; rintro e w2 ⟨rfl, hb2⟩))
    go_ret
    exact ⟨rfl, HB.out.trans (hb2.mono HB.out.size)⟩
  | true =>
    cases b with
    | false => exact walk_f s w (by omega) hv m hm
    | true => exact walk_t s w (by omega) hv m hm

set_option maxRecDepth 100000 in
theorem lifted (os : Os) (started : os.Started) (H : Type) (enc : TypeId × Value → H) :
    ReturnsInHanded {} Tryd.checked os 7 .any (fun w args => (Rows.wordSaysSpec.pre enc Tryd.prog Tryd.f7 Rows.wordSaysRow.domain false w args ∧ laidMetH Tryd.prog Rows.wordSaysRow.laid w) ∧ sizedMet enc Tryd.prog Tryd.f7 (OpenSpec.ofChange Rows.wordSaysSpec) false w args)
      (Rows.wordSaysSpec.post enc Tryd.prog Tryd.f7 false true false false) := by
  refine step_both (C := Tryd.checked) (X := fun w _ => laidMetH Tryd.prog Rows.wordSaysRow.laid w) (fun _ _ _ hh h => h.of_heap hh) own started (by kernel_rfl) Tryd.func7
    (ChangeSpec.witness_shaped (enc := enc) (C := Tryd.checked) (os := os) (X := fun w _ => laidMetH Tryd.prog Rows.wordSaysRow.laid w) false (World.laidAll Tryd.prog os Rows.wordSaysRow.laid) #[.string ⟨#[]⟩, .bool false] 8 (World.laidAll_os _ _ _)
      (World.shaped_of_ZipB (by kernel_rfl) (by kernel_rfl)) (by kernel_rfl) (by kernel_rfl) (by kernel_rfl)
      (by rw [MakeChecks.laidMetH_plain _ _ _ (by kernel_rfl)]; exact laidMet_laidAll _ (by kernel_rfl) (by kernel_rfl))) ?_
  intro W base args ds gs before hval0 hW hcnd hsh hL
  have hval : ∀ (j : Nat) t v, Tryd.f7.params[j]? = some t → args[j]? = some v → Value.okWide Tryd.prog W .any base t v := hval0
  have hW' := hW
  obtain ⟨p, q, hA0, hV, rfl, hfz, hnd⟩ := hW
  have hA : DataW.TrodAll enc Tryd.prog W 0 (fun _ => true) true Tryd.f7.params.toList args.toList ds p := hA0
  rw [Tryd.params7] at hA hval
  obtain ⟨v0, vs0, d0, ds0, p0, q0, hargs, rfl, rfl, h0, r0⟩ := trodAll_cons hA
  obtain ⟨v1, vs1, d1, ds1, p1, q1, rfl, rfl, rfl, h1, r1⟩ := trodAll_cons r0
  obtain ⟨rfl, rfl, rfl⟩ := trodAll_nil r1
  obtain rfl : args = #[v0, v1] := by cases args; simp_all
  obtain ⟨rfl, rfl⟩ := trodVars_none hV
  have k0 := h0
  have lt0 : ∀ x ∈ p0, x.block < W.heap.size := by obtain ⟨m, hm⟩ := k0; exact DataW.trod_lt m _ _ _ hm
  obtain ⟨s0, rfl, _, _, hs0⟩ := open_string Tryd.underlying9 (hval 0 9 v0 rfl rfl) h0
  have k1 := h1
  have lt1 : ∀ x ∈ p1, x.block < W.heap.size := by obtain ⟨m, hm⟩ := k1; exact DataW.trod_lt m _ _ _ hm
  obtain ⟨b1, rfl, _, _⟩ := open_bool Tryd.underlying4 (hval 1 4 v1 rfl rfl) h1
  clear hA0 hval0
  obtain ⟨m, hm⟩ := shape_cell W hsh
  refine (walk s0 b1 W hs0 m hm).mono fun e W' ⟨he, bel⟩ => ?_
  subst he
  exact ⟨_, rfl, _, _, _, [], _, [], hW', trodAll_mk1 (shut_bool Tryd.underlying4 _), (trodAll_cons_mk (Below.trod laidOut (by kernel_rfl) (of_decide_eq_true (by kernel_rfl)) k0 bel lt0) (trodAll_cons_mk (Below.trod laidOut (by kernel_rfl) (of_decide_eq_true (by kernel_rfl)) k1 bel lt1) trodAll_mk0)), rfl, bel.frame _, fun h => by cases h⟩

theorem over : Rows.WordSaysSaid :=
  OpenClaim.holds_of_wide 7 Tryd.f7 rfl rfl rfl rfl rfl rfl rfl ⟨rfl, rfl, rfl, rfl, rfl⟩ rfl rfl rfl rfl rfl (by kernel_rfl) Tryd.func7 (by kernel_rfl)
    (of_decide_eq_true (by kernel_rfl)) (by unfold Func.isWrapper; first | (rw [if_pos (by decide +kernel)]; kernel_rfl) | (rw [if_neg (by decide +kernel)]; exact ⟨rfl, rfl⟩))
    (fun os started H enc _ => lifted os started H enc)
end Go.Proofs.YtnhbmekhmkkccaaDoor.wordSays
namespace Go.Proofs.YtnhbmekhmkkccaaDoor
theorem wordSays_card : Rows.WordSaysCardSaid :=
  Claim7.holds_tied_plain_at .later [] _ _ _ _ wordSays.over (fun _ h => by cases h) (by kernel_rfl) (fun _ h => by cases h) wordSays_row_tie rfl ⟨rfl, rfl⟩ (by kernel_rfl) rfl
    (fun f fn hf hfn => by
      obtain rfl : f = 7 := Option.some.inj ((show Tryd.prog.funcNamed Rows.wordSaysRow.func = some 7 by kernel_rfl).symm.trans hf) |>.symm
      obtain rfl : fn = Tryd.f7 := (Option.some.inj (Tryd.func7.symm.trans hfn)).symm
      exact ⟨by kernel_rfl, fun j t ht => by
        rw [Tryd.params7] at ht
        have hm : t ∈ [9, 4] := by simpa using Array.mem_of_getElem? ht
        have hall : ([9, 4].all fun u => !Tryd.prog.wantsStandIn u) = true := by kernel_rfl
        exact (show Tryd.prog.wantsStandIn t = false by simpa using List.all_eq_true.1 hall t hm)⟩)
    (by kernel_rfl)
#print axioms wordSays_card
end Go.Proofs.YtnhbmekhmkkccaaDoor
