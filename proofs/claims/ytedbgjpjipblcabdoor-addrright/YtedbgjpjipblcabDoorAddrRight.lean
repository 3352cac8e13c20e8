/-
  For every text: what is read as an address may be, can be written, and is read as the same; no condition but what the row lists.
-/
import Derived.Test.YtedbgjpjipblcabDoorCards
import Derived.Test.YtedbgjpjipblcabDoorTie
import Derived.Test.YtedbgjpjipblcabDoorBmath
import Derived.WalkKit
import Derived.ProofKit
import Derived.OpenShut
import Derived.ShutString
import Derived.ChangeOld
import Derived.Below
import Derived.LaidMore
import Derived.Lay
import Derived.SevenTiedAt
import Derived.Stop.Joined
namespace Go.Proofs.YtedbgjpjipblcabDoor.addrRight
open Go.ChangeShapes Go.WideShapes Go.ChangeAt Go.RowKit
open Go.ChangeMaps (open_string shut_string)
set_option linter.unusedVariables false

theorem plain_right {s : List Int} {x : List Int × List Int} (h : plainR s = some x) : rightZ [] x.1 x.2 = true := by
  unfold plainR at h
  split at h
  · cases h
  · split at h
    · rename_i hr; simp only [Option.some.injEq] at h; subst h; exact hr
    · cases h
theorem read_right {s : List Int} {z : List Int × List Int × List Int} (h : readR s = some z) : rightZ z.1 z.2.1 z.2.2 = true := by
  unfold readR readT at h
  split at h
  · unfold pointR at h
    split at h
    · cases h
    · unfold bareR at h
      split at h
      · split at h
        · split at h
          · rename_i hr; simp only [Option.some.injEq] at h; subst h; exact hr
          · cases h
        · cases h
      · cases h
  · rw [Option.map_eq_some_iff] at h
    obtain ⟨x, hx, rfl⟩ := h
    exact plain_right hx
set_option maxHeartbeats 8000000 in
set_option maxRecDepth 100000 in
theorem walk (s : ByteArray) (w : World) (hs : s.size ≤ maxLen) : Calls Tryd.prog 3 #[.string s] w fun e w' => e = .returned (.bool true) ∧ Below w.heap.size w w' := by
  unfold maxLen at hs
  by_cases h3 : 2000 < s.size
  · have hd : decide ((s.size : Int) > 2000) = true := decide_eq_true (by omega)
    go_enter Tryd.func3, Tryd.ntmps3
    go_wp2_with (go_at_call 4; refine (alive_any _).mono ?_; rintro e w1 ⟨rfl, hb1⟩)
    go_ret
    exact ⟨rfl, hb1⟩
  have hd : decide ((s.size : Int) > 2000) = false := decide_eq_false (by omega)
  have hread := read_any s w (by omega)
  unfold RPost at hread
  go_enter Tryd.func3, Tryd.ntmps3
  go_wp2_with fail
  refine hread.mono ?_
  clear hread
  rintro e w1 ⟨n, l, d, c, rfl, hb1, hans, hz1, hz2, hz3⟩
  have HB1 : Hid (Below w.heap.size w w1) := hb1
  have hs1 := hb1.size
  clear hb1
  unfold addrV
  rcases hans with ⟨rfl, hr⟩ | ⟨rfl, rfl, rfl, rfl, _⟩
  case inr =>
    have HA1 : Hid (AAt (w1.alloc (.cells #[.string ⟨#[]⟩, .string ⟨#[]⟩, .string ⟨#[]⟩] 24)) w1.heap.size ⟨#[]⟩ ⟨#[]⟩ ⟨#[]⟩) := aat_new w1 _ _ _
    go_wp2_with fail
    refine (alive_any _).mono ?_
    rintro e w2 ⟨rfl, hb2⟩
    obtain ⟨_, x0, x1, x2⟩ := HA1.out.below hb2
    have HB2 : Hid (Below w.heap.size w w2) := (HB1.out.alloc hs1 _).trans (hb2.mono (by simp; omega))
    clear hb2
    go_wp2
    go_ret
    exact ⟨rfl, HB2.out⟩
  have hrz : rightZ (nums n) (nums l) (nums d) = true := read_right hr
  have HRZ : Hid (rightZ (nums n) (nums l) (nums d) = true) := hrz
  have hwl := write_len hrz
  have HA1 : Hid (AAt (w1.alloc (.cells #[.string n, .string l, .string d] 24)) w1.heap.size n l d) := aat_new w1 n l d
  have HBA : Hid (Below w.heap.size w (w1.alloc (.cells #[.string n, .string l, .string d] 24))) := HB1.out.alloc hs1 _
  have hwr := write_any n l d (w1.alloc (.cells #[.string n, .string l, .string d] 24)) (by omega) (by omega) (by omega)
  rw [hrz] at hwr
  unfold addrV at hwr
  clear hr hrz
  go_wp2_with fail
  refine hwr.mono ?_
  clear hwr
  rintro e w2 ⟨x, cc, rfl, hb2, hwa⟩
  obtain ⟨hx, rfl⟩ := hwa.1 rfl
  have HA2 : Hid (AAt w2 w1.heap.size n l d) := HA1.out.below hb2
  have HB2 : Hid (Below w.heap.size w w2) := HBA.out.trans (hb2.mono HBA.out.size)
  have hxz : x.size ≤ 2000 := by rw [← nums_len, hx]; exact hwl
  have hread := read_any x w2 (by omega)
  unfold RPost at hread
  have hrb := read_back (p := []) (fun _ q => by cases q) HRZ.out
  rw [List.nil_append, List.append_nil, ← hx] at hrb
  rw [hrb] at hread
  clear hb2 hwa hx hrb hwl HA1 HBA
  go_wp2_with fail
  refine hread.mono ?_
  clear hread
  rintro e w3 ⟨n3, l3, d3, c3, rfl, hb3, hans3, _⟩
  rcases hans3 with ⟨rfl, h⟩ | ⟨_, _, _, _, h⟩
  case inr => cases h
  simp only [Option.some.injEq, Prod.mk.injEq] at h
  obtain ⟨e1, e2, e3⟩ := h
  obtain rfl := nums_inj e1
  obtain rfl := nums_inj e2
  obtain rfl := nums_inj e3
  have HA3 : Hid (AAt (w3.alloc (.cells #[.string n, .string l, .string d] 24)) w1.heap.size n l d) := (HA2.out.below hb3).below (keep w3 _)
  have HC3 : Hid (AAt (w3.alloc (.cells #[.string n, .string l, .string d] 24)) w3.heap.size n l d) := aat_new w3 n l d
  have HB3 : Hid (Below w.heap.size w (w3.alloc (.cells #[.string n, .string l, .string d] 24))) := (HB2.out.trans (hb3.mono HB2.out.size)).alloc (HB2.out.trans (hb3.mono HB2.out.size)).size _
  clear e1 e2 e3 hb3 HA2
  unfold addrV
  go_wp2_with fail
  refine (alive_any _).mono ?_
  rintro e w4 ⟨rfl, hb4⟩
  have HA4 : Hid (AAt w4 w1.heap.size n l d) := HA3.out.below hb4
  have HC4 : Hid (AAt w4 w3.heap.size n l d) := HC3.out.below hb4
  have HB4 : Hid (Below w.heap.size w w4) := HB3.out.trans (hb4.mono HB3.out.size)
  clear hb4 HA3 HC3
  obtain ⟨_, x0, x1, x2⟩ := HA4.out
  have hright := right_any n l d w4 (by omega) (by omega) (by omega)
  rw [HRZ.out] at hright
  unfold addrV at hright
  go_wp2_with fail
  refine hright.mono ?_
  clear hright x0 x1 x2
  rintro e w5 ⟨rfl, hb5⟩
  obtain ⟨_, x0, x1, x2⟩ := HA4.out.below hb5
  obtain ⟨_, y0, y1, y2⟩ := HC4.out.below hb5
  have HB5 : Hid (Below w.heap.size w w5) := HB4.out.trans (hb5.mono HB4.out.size)
  clear hb5
  go_wp2
  go_ret
  exact ⟨rfl, HB5.out⟩

set_option maxRecDepth 100000 in
theorem lifted (os : Os) (started : os.Started) (H : Type) (enc : TypeId × Value → H) :
    ReturnsInHanded {} Tryd.checked os 3 .any (fun w args => (Rows.addrRightSpec.pre enc Tryd.prog Tryd.f3 Rows.addrRightRow.domain false w args ∧ laidMetH Tryd.prog Rows.addrRightRow.laid w) ∧ sizedMet enc Tryd.prog Tryd.f3 (OpenSpec.ofChange Rows.addrRightSpec) false w args)
      (Rows.addrRightSpec.post enc Tryd.prog Tryd.f3 false true false false) := by
  refine returnsInHanded_of_change_and (C := Tryd.checked) (X := fun w _ => laidMetH Tryd.prog Rows.addrRightRow.laid w) (fun _ _ _ hh h => h.of_heap hh) own started (by kernel_rfl) Tryd.func3
    (ChangeSpec.witness_shaped (enc := enc) (C := Tryd.checked) (os := os) (X := fun w _ => laidMetH Tryd.prog Rows.addrRightRow.laid w) false (World.laidAll Tryd.prog os Rows.addrRightRow.laid) #[.string ⟨#[]⟩] 8 (World.laidAll_os _ _ _)
      (World.shaped_of_ZipB (by kernel_rfl) (by kernel_rfl)) (by kernel_rfl) (by kernel_rfl) (by kernel_rfl)
      (by rw [MakeChecks.laidMetH_plain _ _ _ (by kernel_rfl)]; exact laidMet_laidAll _ (by kernel_rfl) (by kernel_rfl))) ?_
  intro W base args ds gs before hval0 hW hcnd hsz0 hL _
  have hval : ∀ (j : Nat) t v, Tryd.f3.params[j]? = some t → args[j]? = some v → Value.okWide Tryd.prog W .any base t v := hval0
  have hsz : (DataW.weightsEach Tryd.prog (Tryd.f3.params.toList ++ Rows.addrRightSpec.plain.varTypes Tryd.prog) (ds ++ gs)).all (· ≤ reachBytes) = true := hsz0
  have hW' := hW
  obtain ⟨p, q, hA0, hV, rfl, hfz, hnd⟩ := hW
  have hA : DataW.TrodAll enc Tryd.prog W 0 (fun _ => true) true Tryd.f3.params.toList args.toList ds p := hA0
  rw [Tryd.params3] at hA hval hsz
  obtain ⟨v0, vs0, d0, ds0, p0, q0, hargs, rfl, rfl, h0, r0⟩ := trodAll_cons hA
  obtain ⟨rfl, rfl, rfl⟩ := trodAll_nil r0
  obtain rfl : args = #[v0] := by cases args; simp_all
  obtain ⟨rfl, rfl⟩ := trodVars_none hV
  have k0 := h0
  have lt0 : ∀ x ∈ p0, x.block < W.heap.size := by obtain ⟨m, hm⟩ := k0; exact DataW.trod_lt m _ _ _ hm
  obtain ⟨s0, rfl, _, _, hs0⟩ := open_string Tryd.underlying9 (hval 0 9 v0 rfl rfl) h0
  clear hA0 hval0
  refine (walk s0 W hs0).mono fun e W' ⟨he, bel⟩ => ?_
  subst he
  exact ⟨_, rfl, _, _, _, [], _, [], hW', trodAll_mk1 (shut_bool Tryd.underlying4 _), (trodAll_cons_mk (Below.trod laidOut (by kernel_rfl) (of_decide_eq_true (by kernel_rfl)) k0 bel lt0) trodAll_mk0), rfl, bel.frame _, fun h => by cases h⟩

theorem over : Rows.AddrRightSaid :=
  OpenClaim.holds_of_wide 3 Tryd.f3 rfl rfl rfl rfl rfl rfl rfl ⟨rfl, rfl, rfl, rfl, rfl⟩ rfl rfl rfl rfl rfl (by kernel_rfl) Tryd.func3 (by kernel_rfl)
    (of_decide_eq_true (by kernel_rfl)) (by unfold Func.isWrapper; first | (rw [if_pos (by decide +kernel)]; kernel_rfl) | (rw [if_neg (by decide +kernel)]; exact ⟨rfl, rfl⟩))
    (fun os started H enc _ => lifted os started H enc)
end Go.Proofs.YtedbgjpjipblcabDoor.addrRight
namespace Go.Proofs.YtedbgjpjipblcabDoor
theorem addrRight_card : Rows.AddrRightCardSaid :=
  Claim7.holds_tied_plain_at .later [] _ _ _ _ addrRight.over (fun _ h => by cases h) (by kernel_rfl) (fun _ h => by cases h) addrRight_row_tie rfl ⟨rfl, rfl⟩ (by kernel_rfl) rfl
    (fun f fn hf hfn => by
      obtain rfl : f = 3 := Option.some.inj ((show Tryd.prog.funcNamed Rows.addrRightRow.func = some 3 by kernel_rfl).symm.trans hf) |>.symm
      obtain rfl : fn = Tryd.f3 := (Option.some.inj (Tryd.func3.symm.trans hfn)).symm
      exact ⟨by kernel_rfl, fun j t ht => by
        rw [Tryd.params3] at ht
        have hm : t ∈ [9] := by simpa using Array.mem_of_getElem? ht
        have hall : ([9].all fun u => !Tryd.prog.wantsStandIn u) = true := by kernel_rfl
        exact (show Tryd.prog.wantsStandIn t = false by simpa using List.all_eq_true.1 hall t hm)⟩)
    (by kernel_rfl)
#print axioms addrRight_card
end Go.Proofs.YtedbgjpjipblcabDoor
