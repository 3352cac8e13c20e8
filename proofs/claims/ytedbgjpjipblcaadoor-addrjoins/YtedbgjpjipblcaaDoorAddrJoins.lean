/-
  For every list of addresses: those that are written with commas between are read as they were, and more than 64 are refused; no condition but what the row lists.
-/
import Derived.Test.YtedbgjpjipblcaaDoorCards
import Derived.Test.YtedbgjpjipblcaaDoorTie
import Derived.Test.YtedbgjpjipblcaaDoorJn
import Derived.WalkKit
import Derived.ProofKit
import Derived.OpenShut
import Derived.ShutString
import Derived.ChangeOld
import Derived.Below
import Derived.LaidMore
import Derived.Lay
import Derived.SevenTiedAt
import Derived.Stop.Joined
namespace Go.Proofs.YtedbgjpjipblcaaDoor.addrJoins
open Go.ChangeShapes Go.WideShapes Go.ChangeAt Go.RowKit
open Go.ChangeMaps (open_string shut_string)
set_option linter.unusedVariables false

theorem sz4432 : (⟨#[44, 32]⟩ : ByteArray).size = 2 := rfl
theorem nm4432 : nums (⟨#[44, 32]⟩ : ByteArray) = [44, 32] := rfl
set_option maxHeartbeats 8000000 in
set_option maxRecDepth 100000 in
theorem walk (a : Option Addr) (len cap : Nat) (fs : List Ad) (w : World) (ha : IsL w a len fs) :
    Calls Tryd.prog 6 #[.slice a len cap] w fun e w' => e = .returned (.bool true) ∧ Below w.heap.size w w' := by
  obtain ⟨hlen, hrow, hsz⟩ := ha
  have HR : Hid (ARow w a fs) := hrow
  have HZ : Hid (∀ f ∈ fs, f.1.size ≤ 140737488355328 ∧ f.2.1.size ≤ 140737488355328 ∧ f.2.2.size ≤ 140737488355328) := hsz
  have HN : Hid (fs.length = len) := hlen
  clear hlen hrow hsz
  by_cases h0 : len = 0
  · subst h0
    go_enter Tryd.func6, Tryd.ntmps6
    go_wp2_with (go_at_call 7; refine (alive_any _).mono ?_; rintro e w2 ⟨rfl, hb2⟩)
    go_ret
    exact ⟨rfl, hb2⟩
  by_cases h70 : 70 < len
  · have b0 : ((len : Int) == 0) = false := by rw [beq_eq_false_iff_ne]; omega
    have b1 : decide ((len : Int) > 70) = true := decide_eq_true (by omega)
    go_enter Tryd.func6, Tryd.ntmps6
    go_wp2_with (go_at_call 7; refine (alive_any _).mono ?_; rintro e w2 ⟨rfl, hb2⟩)
    go_ret
    exact ⟨rfl, hb2⟩
  have b0 : ((len : Int) == 0) = false := by rw [beq_eq_false_iff_ne]; omega
  have b1 : decide ((len : Int) > 70) = false := decide_eq_false (by omega)
  go_enter Tryd.func6, Tryd.ntmps6
  go_wp2
  go_loopw [3, 4] (fun sv iv wr => ∃ (s : ByteArray) (k : Nat), sv = .string s ∧ iv = .int .i64 k ∧ k ≤ len ∧ s.size ≤ 2002 * k ∧ Hid (nums s = joinC (pcsF (fs.take k))) ∧ Hid (∀ g ∈ fs.take k, okA g) ∧ Hid (Below w.heap.size w wr)) (fun _ iv _ => len - (intOf iv).toNat)
  case atStart => exact ⟨⟨#[]⟩, 0, rfl, rfl, by omega, by decide, rfl, fun g hg => by simp at hg, Below.refl _ _⟩
  case round =>
    obtain ⟨s, k, rfl, rfl, hk, hss, HS, HO, HB⟩ := hrel
    by_cases hlt : k < len
    · obtain ⟨f, hfk⟩ : ∃ f, fs[k]? = some f := ⟨_, List.getElem?_eq_getElem (by rw [HN.out]; exact hlt)⟩
      obtain ⟨n, l, d⟩ := f
      have HF : Hid (fs[k]? = some (n, l, d)) := hfk
      obtain ⟨z1, z2, z3⟩ := HZ.out _ (List.mem_of_getElem? hfk)
      obtain ⟨b, off, rfl⟩ : ∃ b off, a = some ⟨b, off, none⟩ := by
        rcases HR.out with h | ⟨b, off, h, _⟩
        · rw [h] at hfk; simp at hfk
        · exact ⟨b, off, h⟩
      have HC : Hid (∀ W, Below w.heap.size w W → W.cell? ⟨b, off + k * 3, none⟩ = some (.string n) ∧ W.cell? ⟨b, off + k * 3 + 1, none⟩ = some (.string l) ∧ W.cell? ⟨b, off + k * 3 + 2, none⟩ = some (.string d)) := by
        intro W hb
        rcases HR.out with h | ⟨b', off', h', h⟩
        · rw [h] at hfk; simp at hfk
        · simp only [Option.some.injEq, Addr.mk.injEq, and_true] at h'
          obtain ⟨rfl, rfl⟩ := h'
          have := h k _ hfk
          exact ⟨cell_keep hb this.1, cell_keep hb this.2.1, cell_keep hb this.2.2⟩
      clear hfk
      obtain ⟨x0, x1, x2⟩ := HC.out _ HB.out
      have k0 : (0 : Int) ≤ (k : Int) := by omega
      have k1 : (k : Int) < (len : Int) := by omega
      have hlong := long_any n l d wr z1 z2 z3
      unfold addrV at hlong
      go_wp2_with fail
      refine hlong.mono ?_
      clear hlong x0 x1 x2
      rintro e w1 ⟨rfl, hb1⟩
      have HB1 : Hid (Below w.heap.size w w1) := HB.out.trans (hb1.mono HB.out.size)
      clear hb1
      cases hq1 : (decide (1000 < n.size + l.size) || decide (1000 < d.size)) with
      | true =>
        go_wp2_with (go_at_call 7; refine (alive_any _).mono ?_; rintro e w2 ⟨rfl, hb2⟩)
        go_ret
        exact ⟨rfl, HB1.out.trans (hb2.mono HB1.out.size)⟩
      | false =>
      simp only [Bool.or_eq_false_iff, decide_eq_false_iff_not] at hq1
      have hwr := write_any n l d w1 (by omega) (by omega) (by omega)
      unfold addrV at hwr
      obtain ⟨x0, x1, x2⟩ := HC.out _ HB1.out
      go_wp2_with fail
      refine hwr.mono ?_
      clear hwr x0 x1 x2
      rintro e w2 ⟨x, cc, rfl, hb2, hwa⟩
      have HB2 : Hid (Below w.heap.size w w2) := HB1.out.trans (hb2.mono HB1.out.size)
      clear hb2
      cases hrz : rightZ (nums n) (nums l) (nums d) with
      | false =>
        obtain ⟨rfl, rfl⟩ := hwa.2 hrz
        clear hwa
        go_wp2_with (go_at_call 7; refine (alive_any _).mono ?_; rintro e w3 ⟨rfl, hb3⟩)
        go_ret
        exact ⟨rfl, HB2.out.trans (hb3.mono HB2.out.size)⟩
      | true =>
        obtain ⟨hx, rfl⟩ := hwa.1 hrz
        have hxl := write_len hrz
        rw [← hx, nums_len] at hxl
        have HX : Hid (nums x = wrA (n, l, d)) := hx
        have HO2 : Hid (∀ g ∈ fs.take (k + 1), okA g) := take_okA HF.out HO.out hrz
        clear hx hrz hwa
        by_cases hk0 : k = 0
        · subst hk0
          have HS2 : Hid (nums (s ++ x) = joinC (pcsF (fs.take (0 + 1)))) := by
            unfold Hid
            rw [take_snoc HF.out, nums_append, HS.out, HX.out]; simp [pcsF, joinC]
          go_wp2
          go_roundw
          case rel => exact ⟨s ++ x, 0 + 1, rfl, by go_num, by omega, by rw [ByteArray.size_append]; omega, HS2, HO2, HB2⟩
          case measure => simp [intOf]; omega
        · have bk : decide ((k : Int) > 0) = true := decide_eq_true (by omega)
          have HS2 : Hid (nums (s ++ ⟨#[44, 32]⟩ ++ x) = joinC (pcsF (fs.take (k + 1)))) := by
            unfold Hid
            rw [take_snoc HF.out, pcs_snoc (fun h => by have := congrArg List.length h; simp [HN.out] at this; omega), nums_append, nums_append, HS.out, HX.out]; rfl
          go_wp2
          go_roundw
          case rel => exact ⟨s ++ ⟨#[44, 32]⟩ ++ x, k + 1, rfl, by go_num, by omega, by rw [ByteArray.size_append, ByteArray.size_append, sz4432]; omega, HS2, HO2, HB2⟩
          case measure => simp [intOf]; omega
    · obtain rfl : k = len := by omega
      have htk : fs.take k = fs := by rw [← HN.out, List.take_length]
      rw [htk] at HS HO
      have hne : ¬ s.size = 0 := by
        intro h
        have h1 : joinC (pcsF fs) = [] := by rw [← HS.out]; exact nums_e h
        have hfn : fs ≠ [] := fun e => h0 (by rw [← HN.out, e]; rfl)
        obtain ⟨f, r, rfl⟩ : ∃ f r, fs = f :: r := by cases fs with | nil => exact absurd rfl hfn | cons f r => exact ⟨f, r, rfl⟩
        have h2 := join_len (pcs := pcsF (f :: r)) (p := wrA f) (by simp [pcsF])
        rw [h1] at h2
        obtain ⟨⟨c, m, e, _⟩, _⟩ := write_ends (HO.out f (by simp))
        unfold wrA at h2
        rw [e] at h2
        simp at h2
      have hlist := list_any s (pcsF fs) fs wr (by omega) (pcs_piece HO.out) HS.out hne (pcs_reads HO.out)
      unfold LPost at hlist
      rw [pcs_len, HN.out] at hlist
      clear hne htk
      go_wp2_with fail
      refine hlist.mono ?_
      clear hlist
      rintro e w1 ⟨hb1, hbig, hsm⟩
      have HB1 : Hid (Below w.heap.size w w1) := HB.out.trans (hb1.mono HB.out.size)
      clear hb1
      by_cases h64 : 64 < k
      · obtain rfl := hbig h64
        have b64 : decide ((k : Int) > 64) = true := decide_eq_true (by omega)
        clear hbig hsm
        go_wp2_with (go_at_call 7; refine (alive_any _).mono ?_; rintro e w2 ⟨rfl, hb2⟩)
        go_ret
        exact ⟨rfl, HB1.out.trans (hb2.mono HB1.out.size)⟩
      · obtain ⟨a2, cap2, rfl, hr2⟩ := hsm (by omega)
        have b64 : decide ((k : Int) > 64) = false := decide_eq_false (by omega)
        have HR2 : Hid (ARow w1 a2 fs) := hr2
        clear hbig hsm hr2
        go_wp2_with fail
        refine (alive_any _).mono ?_
        rintro e w2 ⟨rfl, hb2⟩
        have HB2 : Hid (Below w.heap.size w w2) := HB1.out.trans (hb2.mono HB1.out.size)
        have hsame := same_any a a2 k k cap cap2 fs w2 HN.out HN.out (by omega) (HR.out.below HB2.out) (HR2.out.below hb2)
        clear hb2
        go_wp2_with (go_at_call 18; refine hsame.mono ?_; rintro e w3 ⟨rfl, hb3⟩)
        go_ret
        exact ⟨rfl, HB2.out.trans (hb3.mono HB2.out.size)⟩

set_option maxRecDepth 100000 in
theorem lifted (os : Os) (started : os.Started) (H : Type) (enc : TypeId × Value → H) :
    ReturnsInHanded {} Tryd.checked os 6 .any (fun w args => (Rows.addrJoinsSpec.pre enc Tryd.prog Tryd.f6 Rows.addrJoinsRow.domain false w args ∧ laidMetH Tryd.prog Rows.addrJoinsRow.laid w) ∧ sizedMet enc Tryd.prog Tryd.f6 (OpenSpec.ofChange Rows.addrJoinsSpec) false w args)
      (Rows.addrJoinsSpec.post enc Tryd.prog Tryd.f6 false true false false) := by
  refine returnsInHanded_of_change_and (C := Tryd.checked) (X := fun w _ => laidMetH Tryd.prog Rows.addrJoinsRow.laid w) (fun _ _ _ hh h => h.of_heap hh) own started (by kernel_rfl) Tryd.func6
    (ChangeSpec.witness_shaped (enc := enc) (C := Tryd.checked) (os := os) (X := fun w _ => laidMetH Tryd.prog Rows.addrJoinsRow.laid w) false (World.laidAll Tryd.prog os Rows.addrJoinsRow.laid) #[.slice none 0 0] 8 (World.laidAll_os _ _ _)
      (World.shaped_of_ZipB (by kernel_rfl) (by kernel_rfl)) (by kernel_rfl) (by kernel_rfl) (by kernel_rfl)
      (by rw [MakeChecks.laidMetH_plain _ _ _ (by kernel_rfl)]; exact laidMet_laidAll _ (by kernel_rfl) (by kernel_rfl))) ?_
  intro W base args ds gs before hval0 hW hcnd hsz0 hL _
  have hval : ∀ (j : Nat) t v, Tryd.f6.params[j]? = some t → args[j]? = some v → Value.okWide Tryd.prog W .any base t v := hval0
  have hsz : (DataW.weightsEach Tryd.prog (Tryd.f6.params.toList ++ Rows.addrJoinsSpec.plain.varTypes Tryd.prog) (ds ++ gs)).all (· ≤ reachBytes) = true := hsz0
  have hW' := hW
  obtain ⟨p, q, hA0, hV, rfl, hfz, hnd⟩ := hW
  have hA : DataW.TrodAll enc Tryd.prog W 0 (fun _ => true) true Tryd.f6.params.toList args.toList ds p := hA0
  rw [Tryd.params6] at hA hval hsz
  obtain ⟨v0, vs0, d0, ds0, p0, q0, hargs, rfl, rfl, h0, r0⟩ := trodAll_cons hA
  obtain ⟨rfl, rfl, rfl⟩ := trodAll_nil r0
  obtain rfl : args = #[v0] := by cases args; simp_all
  obtain ⟨rfl, rfl⟩ := trodVars_none hV
  have k0 := h0
  have lt0 : ∀ x ∈ p0, x.block < W.heap.size := by obtain ⟨m, hm⟩ := k0; exact DataW.trod_lt m _ _ _ hm
  obtain ⟨a0, len0, cap0, rfl⟩ := okWide_slice Tryd.underlying36 (hval 0 36 v0 rfl rfl)
  obtain ⟨f0, w0⟩ := addrs_arg h0 (fun n hn => by simpa using List.all_eq_true.1 hsz n (DataW.weights_mem_each (j := 0) rfl rfl n hn))
  clear hA0 hval0
  refine (walk a0 len0 cap0 f0 W w0).mono fun e W' ⟨he, bel⟩ => ?_
  subst he
  exact ⟨_, rfl, _, _, _, [], _, [], hW', trodAll_mk1 (shut_bool Tryd.underlying4 _), (trodAll_cons_mk (Below.trod laidOut (by kernel_rfl) (of_decide_eq_true (by kernel_rfl)) k0 bel lt0) trodAll_mk0), rfl, bel.frame _, fun h => by cases h⟩

theorem over : Rows.AddrJoinsSaid :=
  OpenClaim.holds_of_wide 6 Tryd.f6 rfl rfl rfl rfl rfl rfl rfl ⟨rfl, rfl, rfl, rfl, rfl⟩ rfl rfl rfl rfl rfl (by kernel_rfl) Tryd.func6 (by kernel_rfl)
    (of_decide_eq_true (by kernel_rfl)) (by unfold Func.isWrapper; first | (rw [if_pos (by decide +kernel)]; kernel_rfl) | (rw [if_neg (by decide +kernel)]; exact ⟨rfl, rfl⟩))
    (fun os started H enc _ => lifted os started H enc)
end Go.Proofs.YtedbgjpjipblcaaDoor.addrJoins
namespace Go.Proofs.YtedbgjpjipblcaaDoor
theorem addrJoins_card : Rows.AddrJoinsCardSaid :=
  Claim7.holds_tied_plain_at .later [] _ _ _ _ addrJoins.over (fun _ h => by cases h) (by kernel_rfl) (fun _ h => by cases h) addrJoins_row_tie rfl ⟨rfl, rfl⟩ (by kernel_rfl) rfl
    (fun f fn hf hfn => by
      obtain rfl : f = 6 := Option.some.inj ((show Tryd.prog.funcNamed Rows.addrJoinsRow.func = some 6 by kernel_rfl).symm.trans hf) |>.symm
      obtain rfl : fn = Tryd.f6 := (Option.some.inj (Tryd.func6.symm.trans hfn)).symm
      exact ⟨by kernel_rfl, fun j t ht => by
        rw [Tryd.params6] at ht
        have hm : t ∈ [36] := by simpa using Array.mem_of_getElem? ht
        have hall : ([36].all fun u => !Tryd.prog.wantsStandIn u) = true := by kernel_rfl
        exact (show Tryd.prog.wantsStandIn t = false by simpa using List.all_eq_true.1 hall t hm)⟩)
    (by kernel_rfl)
#print axioms addrJoins_card
end Go.Proofs.YtedbgjpjipblcaaDoor
