/-
  For every text: what is read as a kind may be, and written it is read as the same; no condition but what the row lists.
-/
import Derived.Test.YtkbkajipkdlmbaaDoorCards
import Derived.Test.YtkbkajipkdlmbaaDoorTie
import Derived.Test.YtkbkajipkdlmbaaDoorArgs
import Derived.WalkKit
import Derived.ProofKit
import Derived.OpenShut
import Derived.ShutString
import Derived.ChangeOld
import Derived.Below
import Derived.LaidMore
import Derived.Lay
import Derived.SevenTiedAt
import Derived.Stop.Joined
namespace Go.Proofs.YtkbkajipkdlmbaaDoor.kindRight
open Go.ChangeShapes Go.WideShapes Go.ChangeAt Go.RowKit
open Go.ChangeMaps (open_string shut_string)
set_option linter.unusedVariables false

set_option maxHeartbeats 4000000 in
set_option maxRecDepth 100000 in
theorem walk (s : ByteArray) (w : World) (hs : s.size ≤ maxLen) : Calls Tryd.prog 6 #[.string s] w fun e w' => e = .returned (.bool true) ∧ Below w.heap.size w w' := by
  unfold maxLen at hs
  by_cases h3 : 3000 < s.size
  · have hd : decide ((s.size : Int) > 3000) = true := by simp; omega
    go_enter Tryd.func6, Tryd.ntmps6
    go_wp2_with (go_at_call 9; refine (alive_any _).mono ?_; rintro e w1 ⟨rfl, hb1⟩)
    go_ret
    exact ⟨rfl, hb1⟩
  have hd : decide ((s.size : Int) > 3000) = false := by simp; omega
  have hread := read_any s w (by omega)
  go_enter Tryd.func6, Tryd.ntmps6
  go_wp2_with fail
  refine hread.mono ?_
  clear hread
  rintro e w1 ⟨ty, sub, a, cap, fs, c, rfl, hfr, ⟨hz1, hz2, hz3⟩, hb1, hans⟩
  have HB1 : Hid (Below w.heap.size w w1) := hb1
  have hw1 := hb1.size
  have HF : Hid (FRow w1 a fs) := hfr
  clear hfr hb1
  unfold kindV
  rcases hans with ⟨_, rfl, rfl, rfl, rfl⟩ | ⟨hrd, rfl⟩
  · go_wp2_with fail
    refine (alive_any _).mono ?_
    rintro e w2 ⟨rfl, hb2⟩
    have x0 : w2.cell? ⟨w1.heap.size, 0, none⟩ = some (.string ⟨#[]⟩) := by rw [hb2.cell (p := ⟨w1.heap.size, 0, none⟩) (by simp)]; rw [World.cell?_alloc_mark]; rfl
    have x1 : w2.cell? ⟨w1.heap.size, 1, none⟩ = some (.string ⟨#[]⟩) := by rw [hb2.cell (p := ⟨w1.heap.size, 1, none⟩) (by simp)]; rw [World.cell?_alloc_mark]; rfl
    have x2 : w2.cell? ⟨w1.heap.size, 2, none⟩ = some (.slice a 0 cap) := by rw [hb2.cell (p := ⟨w1.heap.size, 2, none⟩) (by simp)]; rw [World.cell?_alloc_mark]; rfl
    have HB2 : Hid (Below w.heap.size w w2) := (HB1.out.alloc hw1 _).trans (hb2.mono (by simp; omega))
    have hsame := same_any ⟨#[]⟩ ⟨#[]⟩ ⟨#[]⟩ ⟨#[]⟩ a none cap 0 [] [] w2 rfl rfl rfl (by simp) (.inl rfl) (.inl rfl)
    unfold kindV at hsame
    simp only [List.length_nil] at hsame
    clear hb2
    go_wp2_with (go_at_call 19; refine hsame.mono ?_; rintro e w3 ⟨rfl, hb3⟩)
    go_ret
    exact ⟨rfl, HB2.out.trans (hb3.mono HB2.out.size)⟩
  · have hrz : rightZ (nums ty) (nums sub) (numsP fs) = true := read_right hrd
    have HRZ : Hid (rightZ (nums ty) (nums sub) (numsP fs) = true) := hrz
    have hlen := write_len hrz
    have hwr := write_any ty sub a fs.length cap fs (w1.alloc (.cells #[.string ty, .string sub, .slice a fs.length cap] 24)) rfl (HF.out.below (keep w1 _)) hz1 hz2 hz3
    unfold kindV at hwr
    have hn16 : fs.length ≤ 16 := by have := (right_all hrz).2.2.1; simpa [numsP] using this
    clear hrz hrd
    go_wp2_with fail
    refine hwr.mono ?_
    clear hwr
    rintro e w2 ⟨x, cc, rfl, hb2, hwa⟩
    obtain ⟨hx, rfl⟩ := hwa.1 HRZ.out
    have hlt2 : w1.heap.size < w2.heap.size := by have := hb2.size; simp at this; omega
    have x0 : w2.cell? ⟨w1.heap.size, 0, none⟩ = some (.string ty) := by rw [hb2.cell (p := ⟨w1.heap.size, 0, none⟩) (by simp)]; rw [World.cell?_alloc_mark]; rfl
    have x1 : w2.cell? ⟨w1.heap.size, 1, none⟩ = some (.string sub) := by rw [hb2.cell (p := ⟨w1.heap.size, 1, none⟩) (by simp)]; rw [World.cell?_alloc_mark]; rfl
    have x2 : w2.cell? ⟨w1.heap.size, 2, none⟩ = some (.slice a fs.length cap) := by rw [hb2.cell (p := ⟨w1.heap.size, 2, none⟩) (by simp)]; rw [World.cell?_alloc_mark]; rfl
    have HB2 : Hid (Below w.heap.size w w2) := (HB1.out.alloc hw1 _).trans (hb2.mono (by simp; omega))
    have HF2 : Hid (FRow w2 a fs) := (HF.out.below (keep w1 _)).below hb2
    have hread2 := read_any x w2 (by rw [← nums_len, hx]; omega)
    have hrb := read_back (P := []) (T := []) (fun _ hq => by cases hq) tail_nil HRZ.out
    rw [List.nil_append, List.append_nil, ← hx] at hrb
    rw [hrb] at hread2
    clear hb2 hwa hrb hx hlen
    go_wp2_with fail
    refine hread2.mono ?_
    clear hread2
    rintro e w3 ⟨ty3, sub3, a3, cap3, fs3, c3, rfl, hfr3, _, hb3, hans3⟩
    rcases hans3 with ⟨h, _⟩ | ⟨h, rfl⟩
    · cases h
    simp only [Option.some.injEq, Prod.mk.injEq] at h
    obtain ⟨hty, hsub, hps⟩ := h
    obtain rfl := nums_inj hty
    obtain rfl := nums_inj hsub
    obtain rfl := numsP_inj hps
    have y0 : w3.cell? ⟨w1.heap.size, 0, none⟩ = some (.string ty) := (hb3.cell (p := ⟨w1.heap.size, 0, none⟩) hlt2).trans x0
    have y1 : w3.cell? ⟨w1.heap.size, 1, none⟩ = some (.string sub) := (hb3.cell (p := ⟨w1.heap.size, 1, none⟩) hlt2).trans x1
    have y2 : w3.cell? ⟨w1.heap.size, 2, none⟩ = some (.slice a fs.length cap) := (hb3.cell (p := ⟨w1.heap.size, 2, none⟩) hlt2).trans x2
    have HB3 : Hid (Below w.heap.size w w3) := HB2.out.trans (hb3.mono HB2.out.size)
    have hlt3 : w1.heap.size < w3.heap.size := by have := hb3.size; omega
    have HF3 : Hid (FRow w3 a fs) := HF2.out.below hb3
    have HG3 : Hid (FRow w3 a3 fs) := hfr3
    clear hb3 x0 x1 x2 hty hsub hps hfr3
    unfold kindV
    go_wp2_with fail
    refine (alive_any _).mono ?_
    rintro e w4 ⟨rfl, hb4⟩
    have z0 : w4.cell? ⟨w1.heap.size, 0, none⟩ = some (.string ty) := by rw [hb4.cell (p := ⟨w1.heap.size, 0, none⟩) (by simp; omega)]; exact ((keep w3 _).cell (p := ⟨w1.heap.size, 0, none⟩) hlt3).trans y0
    have z1 : w4.cell? ⟨w1.heap.size, 1, none⟩ = some (.string sub) := by rw [hb4.cell (p := ⟨w1.heap.size, 1, none⟩) (by simp; omega)]; exact ((keep w3 _).cell (p := ⟨w1.heap.size, 1, none⟩) hlt3).trans y1
    have z2 : w4.cell? ⟨w1.heap.size, 2, none⟩ = some (.slice a fs.length cap) := by rw [hb4.cell (p := ⟨w1.heap.size, 2, none⟩) (by simp; omega)]; exact ((keep w3 _).cell (p := ⟨w1.heap.size, 2, none⟩) hlt3).trans y2
    have v0 : w4.cell? ⟨w3.heap.size, 0, none⟩ = some (.string ty) := by rw [hb4.cell (p := ⟨w3.heap.size, 0, none⟩) (by simp)]; rw [World.cell?_alloc_mark]; rfl
    have v1 : w4.cell? ⟨w3.heap.size, 1, none⟩ = some (.string sub) := by rw [hb4.cell (p := ⟨w3.heap.size, 1, none⟩) (by simp)]; rw [World.cell?_alloc_mark]; rfl
    have v2 : w4.cell? ⟨w3.heap.size, 2, none⟩ = some (.slice a3 fs.length cap3) := by rw [hb4.cell (p := ⟨w3.heap.size, 2, none⟩) (by simp)]; rw [World.cell?_alloc_mark]; rfl
    have HB4 : Hid (Below w.heap.size w w4) := (HB3.out.alloc HB3.out.size _).trans (hb4.mono (by have := HB3.out.size; simp; omega))
    have HF4 : Hid (FRow w4 a fs) := (HF3.out.below (keep w3 _)).below hb4
    have HG4 : Hid (FRow w4 a3 fs) := (HG3.out.below (keep w3 _)).below hb4
    have hlt4 : w3.heap.size < w4.heap.size := World.block_lt_of_cell? w4 _ v0
    clear hb4 y0 y1 y2
    have hright := right_any ty sub a fs.length cap fs w4 rfl HF4.out hz1 hz2 hz3
    rw [HRZ.out] at hright
    unfold kindV at hright
    go_wp2_with fail
    refine hright.mono ?_
    clear hright
    rintro e w5 ⟨rfl, hb5⟩
    have hsame := same_any ty sub ty sub a a3 cap cap3 fs fs w5 rfl rfl rfl (by omega) (HF4.out.below hb5) (HG4.out.below hb5)
    unfold kindV at hsame
    have z0' : w5.cell? ⟨w1.heap.size, 0, none⟩ = some (.string ty) := (hb5.cell (p := ⟨w1.heap.size, 0, none⟩) (World.block_lt_of_cell? w4 _ z0)).trans z0
    have z1' : w5.cell? ⟨w1.heap.size, 1, none⟩ = some (.string sub) := (hb5.cell (p := ⟨w1.heap.size, 1, none⟩) (World.block_lt_of_cell? w4 _ z1)).trans z1
    have z2' : w5.cell? ⟨w1.heap.size, 2, none⟩ = some (.slice a fs.length cap) := (hb5.cell (p := ⟨w1.heap.size, 2, none⟩) (World.block_lt_of_cell? w4 _ z2)).trans z2
    have v0' : w5.cell? ⟨w3.heap.size, 0, none⟩ = some (.string ty) := (hb5.cell (p := ⟨w3.heap.size, 0, none⟩) (World.block_lt_of_cell? w4 _ v0)).trans v0
    have v1' : w5.cell? ⟨w3.heap.size, 1, none⟩ = some (.string sub) := (hb5.cell (p := ⟨w3.heap.size, 1, none⟩) (World.block_lt_of_cell? w4 _ v1)).trans v1
    have v2' : w5.cell? ⟨w3.heap.size, 2, none⟩ = some (.slice a3 fs.length cap3) := (hb5.cell (p := ⟨w3.heap.size, 2, none⟩) (World.block_lt_of_cell? w4 _ v2)).trans v2
    have HB5 : Hid (Below w.heap.size w w5) := HB4.out.trans (hb5.mono HB4.out.size)
    clear hb5 z0 z1 z2 v0 v1 v2
    go_wp2_with (go_at_call 19; refine hsame.mono ?_; rintro e w6 ⟨rfl, hb6⟩)
    go_ret
    exact ⟨rfl, HB5.out.trans (hb6.mono HB5.out.size)⟩

set_option maxRecDepth 100000 in
theorem lifted (os : Os) (started : os.Started) (H : Type) (enc : TypeId × Value → H) :
    ReturnsInHanded {} Tryd.checked os 6 .any (fun w args => (Rows.kindRightSpec.pre enc Tryd.prog Tryd.f6 Rows.kindRightRow.domain false w args ∧ laidMetH Tryd.prog Rows.kindRightRow.laid w) ∧ sizedMet enc Tryd.prog Tryd.f6 (OpenSpec.ofChange Rows.kindRightSpec) false w args)
      (Rows.kindRightSpec.post enc Tryd.prog Tryd.f6 false true false false) := by
  refine returnsInHanded_of_change_and (C := Tryd.checked) (X := fun w _ => laidMetH Tryd.prog Rows.kindRightRow.laid w) (fun _ _ _ hh h => h.of_heap hh) own started (by kernel_rfl) Tryd.func6
    (ChangeSpec.witness_shaped (enc := enc) (C := Tryd.checked) (os := os) (X := fun w _ => laidMetH Tryd.prog Rows.kindRightRow.laid w) false (World.laidAll Tryd.prog os Rows.kindRightRow.laid) #[.string ⟨#[]⟩] 8 (World.laidAll_os _ _ _)
      (World.shaped_of_ZipB (by kernel_rfl) (by kernel_rfl)) (by kernel_rfl) (by kernel_rfl) (by kernel_rfl)
      (by rw [MakeChecks.laidMetH_plain _ _ _ (by kernel_rfl)]; exact laidMet_laidAll _ (by kernel_rfl) (by kernel_rfl))) ?_
  intro W base args ds gs before hval0 hW hcnd hsz0 hL _
  have hval : ∀ (j : Nat) t v, Tryd.f6.params[j]? = some t → args[j]? = some v → Value.okWide Tryd.prog W .any base t v := hval0
  have hsz : (DataW.weightsEach Tryd.prog (Tryd.f6.params.toList ++ Rows.kindRightSpec.plain.varTypes Tryd.prog) (ds ++ gs)).all (· ≤ reachBytes) = true := hsz0
  have hW' := hW
  obtain ⟨p, q, hA0, hV, rfl, hfz, hnd⟩ := hW
  have hA : DataW.TrodAll enc Tryd.prog W 0 (fun _ => true) true Tryd.f6.params.toList args.toList ds p := hA0
  rw [Tryd.params6] at hA hval hsz
  obtain ⟨v0, vs0, d0, ds0, p0, q0, hargs, rfl, rfl, h0, r0⟩ := trodAll_cons hA
  obtain ⟨rfl, rfl, rfl⟩ := trodAll_nil r0
  obtain rfl : args = #[v0] := by cases args; simp_all
  obtain ⟨rfl, rfl⟩ := trodVars_none hV
  have k0 := h0
  have lt0 : ∀ x ∈ p0, x.block < W.heap.size := by obtain ⟨m, hm⟩ := k0; exact DataW.trod_lt m _ _ _ hm
  obtain ⟨s0, rfl, _, _, hs0⟩ := open_string Tryd.underlying9 (hval 0 9 v0 rfl rfl) h0
  clear hA0 hval0
  refine (walk s0 W hs0).mono fun e W' ⟨he, bel⟩ => ?_
  subst he
  exact ⟨_, rfl, _, _, _, [], _, [], hW', trodAll_mk1 (shut_bool Tryd.underlying4 _), (trodAll_cons_mk (Below.trod laidOut (by kernel_rfl) (of_decide_eq_true (by kernel_rfl)) k0 bel lt0) trodAll_mk0), rfl, bel.frame _, fun h => by cases h⟩

theorem over : Rows.KindRightSaid :=
  OpenClaim.holds_of_wide 6 Tryd.f6 rfl rfl rfl rfl rfl rfl rfl ⟨rfl, rfl, rfl, rfl, rfl⟩ rfl rfl rfl rfl rfl (by kernel_rfl) Tryd.func6 (by kernel_rfl)
    (of_decide_eq_true (by kernel_rfl)) (by unfold Func.isWrapper; first | (rw [if_pos (by decide +kernel)]; kernel_rfl) | (rw [if_neg (by decide +kernel)]; exact ⟨rfl, rfl⟩))
    (fun os started H enc _ => lifted os started H enc)
end Go.Proofs.YtkbkajipkdlmbaaDoor.kindRight
namespace Go.Proofs.YtkbkajipkdlmbaaDoor
theorem kindRight_card : Rows.KindRightCardSaid :=
  Claim7.holds_tied_plain_at .later [] _ _ _ _ kindRight.over (fun _ h => by cases h) (by kernel_rfl) (fun _ h => by cases h) kindRight_row_tie rfl ⟨rfl, rfl⟩ (by kernel_rfl) rfl
    (fun f fn hf hfn => by
      obtain rfl : f = 6 := Option.some.inj ((show Tryd.prog.funcNamed Rows.kindRightRow.func = some 6 by kernel_rfl).symm.trans hf) |>.symm
      obtain rfl : fn = Tryd.f6 := (Option.some.inj (Tryd.func6.symm.trans hfn)).symm
      exact ⟨by kernel_rfl, fun j t ht => by
        rw [Tryd.params6] at ht
        have hm : t ∈ [9] := by simpa using Array.mem_of_getElem? ht
        have hall : ([9].all fun u => !Tryd.prog.wantsStandIn u) = true := by kernel_rfl
        exact (show Tryd.prog.wantsStandIn t = false by simpa using List.all_eq_true.1 hall t hm)⟩)
    (by kernel_rfl)
#print axioms kindRight_card
end Go.Proofs.YtkbkajipkdlmbaaDoor
