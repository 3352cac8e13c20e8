/-
  For all bytes: their coded text is read as them, has no signs but letters, digits, hyphens, points, underscores and the sign 37, and two bytes more for each of these, if the bytes are at most 1000; else fixed calls answer as they must. Conditions: the listed tables of the library are tied to the pruned copy of the project that the seat holds, and say nothing of its other packages, commands or tests.
-/
import Derived.Test.YtfhgkkdbkbbpkaaDoorCards
import Derived.Test.YtfhgkkdbkbbpkaaDoorTie
import Derived.Test.YtfhgkkdbkbbpkaaDoorArgs
import Derived.Test.YtfhgkkdbkbbpkaaDoorEk
import Derived.WalkKit
import Derived.ProofKit
import Derived.OpenShut
import Derived.ShutString
import Derived.ChangeOld
import Derived.Below
import Derived.LaidMore
import Derived.Lay
import Derived.SevenTiedAt
import Derived.Stop.Joined
namespace Go.Proofs.YtfhgkkdbkbbpkaaDoor.extraCodeBack
open Go.ChangeShapes Go.WideShapes Go.ChangeAt Go.RowKit
open Go.ChangeMaps (open_string shut_string)
set_option linter.unusedVariables false

def cntP (l : List Int) : Nat := (l.filter fun c => decide (c = 37)).length
theorem cnt_snocP (l : List Int) (c : Int) : cntP (l ++ [c]) = cntP l + if c = 37 then 1 else 0 := by
  unfold cntP
  rw [List.filter_append, List.length_append]
  by_cases e : c = 37 <;> simp [e]
theorem cntP_le (l : List Int) : cntP l ≤ l.length := List.length_filter_le _ _
theorem dig_in {d : Int} (h0 : 0 ≤ d) (h1 : d < 16) : (48 ≤ digC d ∧ digC d ≤ 57) ∨ (65 ≤ digC d ∧ digC d ≤ 70) := by
  unfold digC
  split <;> omega
theorem code_ok (c : Int) (h0 : 0 ≤ c) (h1 : c < 256) : (∀ x ∈ codeC c, (97 ≤ x ∧ x ≤ 122) ∨ (65 ≤ x ∧ x ≤ 90) ∨ (48 ≤ x ∧ x ≤ 57) ∨ x = 45 ∨ x = 46 ∨ x = 95 ∨ x = 37) ∧ (codeC c).length = 1 + 2 * cntP (codeC c) := by
  unfold codeC
  cases h : plainC c with
  | true =>
    have hn := plain_not h
    unfold plainC at h
    simp at h
    refine ⟨fun x hx => ?_, ?_⟩
    · simp at hx; subst hx; omega
    · simp [cntP, hn]
  | false =>
    have d1 := dig_in (d := c / 16) (by omega) (by omega)
    have d2 := dig_in (d := c % 16) (by omega) (by omega)
    refine ⟨fun x hx => ?_, ?_⟩
    · simp at hx; rcases hx with rfl | rfl | rfl <;> omega
    · simp [cntP]
      rw [List.filter_cons_of_neg (by simp; omega), List.filter_cons_of_neg (by simp; omega)]
      rfl
theorem codeL_ok : ∀ {l : List Int}, Byt l → (∀ x ∈ codeL l, (97 ≤ x ∧ x ≤ 122) ∨ (65 ≤ x ∧ x ≤ 90) ∨ (48 ≤ x ∧ x ≤ 57) ∨ x = 45 ∨ x = 46 ∨ x = 95 ∨ x = 37) ∧ (codeL l).length = l.length + 2 * cntP (codeL l)
  | [], _ => ⟨by simp [codeL], by simp [codeL, cntP]⟩
  | c :: l, h => by
    have ih := codeL_ok h.tail
    have hc := code_ok c h.head.1 h.head.2
    have e : codeL (c :: l) = codeC c ++ codeL l := by simp [codeL]
    have e2 : cntP (codeC c ++ codeL l) = cntP (codeC c) + cntP (codeL l) := by unfold cntP; rw [List.filter_append, List.length_append]
    rw [e]
    refine ⟨fun x hx => ?_, ?_⟩
    · rcases List.mem_append.1 hx with q | q
      · exact hc.1 x q
      · exact ih.1 x q
    · rw [List.length_append, e2, hc.2, ih.2, List.length_cons]; omega
theorem codeL_byt {l : List Int} (h : Byt l) : Byt (codeL l) := fun x hx => by have := (codeL_ok h).1 x hx; omega
set_option maxRecDepth 100000 in
set_option maxHeartbeats 8000000 in
theorem walk (a : Option Addr) (len cap : Nat) (z : List Int) (w : World) (hw : IsRow .u8 w a len cap z) : Calls Tryd.prog 6 #[.slice a len cap] w fun e w' => e = .returned (.bool true) ∧ Below w.heap.size w w' := by
  obtain ⟨l, hl, hcap, hm, hb, hrow⟩ := byte_view hw
  clear hw
  have KA := fun V : World => alive_any V
  by_cases h1 : 1000 < len
  · clear hrow
    go_enter Tryd.func6, Tryd.ntmps6
    go_wp2_with (go_at_call 9; refine (KA _).mono ?_; rintro e w' ⟨rfl, hb⟩)
    go_ret
    exact ⟨rfl, hb⟩
  have KC : Calls Tryd.prog 15 #[.slice a len cap] w fun e w' => e = .returned (.string (strOfNums (codeL l))) ∧ Below w.heap.size w w' := code_any a len cap l w hl hb (by omega) hcap hm hrow
  have hns : nums (strOfNums (codeL l)) = codeL l := nums_str (codeL_byt hb)
  have hlen := codeL_len l
  obtain ⟨hok, hcnt⟩ := codeL_ok hb
  obtain ⟨s, hs⟩ : ∃ s, strOfNums (codeL l) = s := ⟨_, rfl⟩
  rw [hs] at KC hns
  have hsz : s.size = (codeL l).length := by rw [← nums_len, hns]
  have KD : ∀ V, Calls Tryd.prog 13 #[.string s] V (DecP V (some l)) := fun V => by
    have := decode_any s V (by omega)
    rw [hns, code_back hb] at this
    exact this
  have HL : Hid (l.length = len) := hl
  have HR : Hid (Row w a l) := hrow
  clear hs hrow
  go_enter Tryd.func6, Tryd.ntmps6
  go_wp2_with fail
  refine KC.mono ?_
  rintro e w1 ⟨rfl, hb1⟩
  go_wp2_with fail
  refine (KD _).mono ?_
  rintro e w2 ⟨_, hd2, hb2⟩
  obtain ⟨v, rfl, hown⟩ := hd2 _ rfl
  have HB2 : Hid (Below w.heap.size w w2) := hb1.trans (hb2.mono hb1.size)
  clear hb1 hb2 KC KD hd2
  obtain ⟨a5, c5, rfl, hc5, hm5, hr5, hn5⟩ := own_row' hown
  have HR5 : Hid (Row w2 a5 l) := hr5
  clear hown hr5 hn5
  go_wp2
  have HCN : Hid ((codeL l).length = l.length + 2 * cntP (codeL l)) := hcnt
  have HOK : Hid (∀ x ∈ codeL l, (97 ≤ x ∧ x ≤ 122) ∨ (65 ≤ x ∧ x ≤ 90) ∨ (48 ≤ x ∧ x ≤ 57) ∨ x = 45 ∨ x = 46 ∨ x = 95 ∨ x = 37) := hok
  have HNS : Hid (nums s = codeL l) := hns
  have HSZ : Hid (s.size = (codeL l).length) := hsz
  have hm3 : s.size ≤ 3000 := by omega
  clear hcnt hok hns hlen hsz hcap hc5 hm5
  obtain ⟨m, hm⟩ : ∃ m, s.size = m := ⟨_, rfl⟩
  go_loopw [6, 7] (fun u i wr => ∃ k : Nat, i = .int .i64 k ∧ u = .int .i64 (cntP ((codeL l).take k)) ∧ k ≤ m ∧ wr = w2) (fun _ i _ => m - (intOf i).toNat)
  case atStart => exact ⟨0, rfl, rfl, by omega, rfl⟩
  case round =>
    obtain ⟨k, rfl, rfl, hk, rfl⟩ := hrel
    have hcl : cntP ((codeL l).take k) ≤ k := Nat.le_trans (cntP_le _) (by simp; omega)
    by_cases hlt : k < m
    · have hks : k < s.size := by omega
      have ks : (k : Int) < (s.size : Int) := by omega
      obtain ⟨c, hc⟩ : ∃ c : Int, (s[k].toNat : Int) = c := ⟨_, rfl⟩
      have hget : (codeL l)[k]? = some c := by rw [← HNS.out, nums_at s k hks, hc]
      have htk : (codeL l).take (k + 1) = (codeL l).take k ++ [c] := by rw [List.take_add_one, hget]; rfl
      have hok2 := HOK.out c (List.mem_of_getElem? hget)
      clear hget
      have hcm : cntP ((codeL l).take k) ≤ 3000 := by omega
      rcases hok2 with ⟨q1, q2⟩ | ⟨q1, q2⟩ | ⟨q1, q2⟩ | rfl | rfl | rfl | rfl
      ·
        have HN : Hid (cntP ((codeL l).take (k + 1)) = cntP ((codeL l).take k)) := by unfold Hid; rw [htk, cnt_snocP]; simp; omega
        have e0 : (c == 37) = false := by simp; omega
        have e1 : decide (c ≥ 97) = true := decide_eq_true (by omega)
        have e2 : decide (c ≤ 122) = true := decide_eq_true (by omega)
        clear q1 q2
        clear htk
        go_wp2
        go_roundw
        case rel => exact ⟨k + 1, by go_num, by rw [HN.out], by omega, trivial⟩
        case measure => simp [intOf]; omega
      ·
        have HN : Hid (cntP ((codeL l).take (k + 1)) = cntP ((codeL l).take k)) := by unfold Hid; rw [htk, cnt_snocP]; simp; omega
        have e0 : (c == 37) = false := by simp; omega
        have e1 : decide (c ≥ 97) = false := decide_eq_false (by omega)
        have e2 : decide (c ≥ 65) = true := decide_eq_true (by omega)
        have e3 : decide (c ≤ 90) = true := decide_eq_true (by omega)
        clear q1 q2
        clear htk
        go_wp2
        go_roundw
        case rel => exact ⟨k + 1, by go_num, by rw [HN.out], by omega, trivial⟩
        case measure => simp [intOf]; omega
      ·
        have HN : Hid (cntP ((codeL l).take (k + 1)) = cntP ((codeL l).take k)) := by unfold Hid; rw [htk, cnt_snocP]; simp; omega
        have e0 : (c == 37) = false := by simp; omega
        have e1 : decide (c ≥ 97) = false := decide_eq_false (by omega)
        have e2 : decide (c ≥ 65) = false := decide_eq_false (by omega)
        have e3 : decide (c ≥ 48) = true := decide_eq_true (by omega)
        have e4 : decide (c ≤ 57) = true := decide_eq_true (by omega)
        clear q1 q2
        clear htk
        go_wp2
        go_roundw
        case rel => exact ⟨k + 1, by go_num, by rw [HN.out], by omega, trivial⟩
        case measure => simp [intOf]; omega
      ·
        have HN : Hid (cntP ((codeL l).take (k + 1)) = cntP ((codeL l).take k)) := by unfold Hid; rw [htk, cnt_snocP]; simp
        clear htk
        go_wp2
        go_roundw
        case rel => exact ⟨k + 1, by go_num, by rw [HN.out], by omega, trivial⟩
        case measure => simp [intOf]; omega
      ·
        have HN : Hid (cntP ((codeL l).take (k + 1)) = cntP ((codeL l).take k)) := by unfold Hid; rw [htk, cnt_snocP]; simp
        clear htk
        go_wp2
        go_roundw
        case rel => exact ⟨k + 1, by go_num, by rw [HN.out], by omega, trivial⟩
        case measure => simp [intOf]; omega
      ·
        have HN : Hid (cntP ((codeL l).take (k + 1)) = cntP ((codeL l).take k)) := by unfold Hid; rw [htk, cnt_snocP]; simp
        clear htk
        go_wp2
        go_roundw
        case rel => exact ⟨k + 1, by go_num, by rw [HN.out], by omega, trivial⟩
        case measure => simp [intOf]; omega
      ·
        have HN : Hid (cntP ((codeL l).take (k + 1)) = cntP ((codeL l).take k) + 1) := by unfold Hid; rw [htk, cnt_snocP]; simp
        clear htk
        go_wp2
        go_roundw
        case rel => exact ⟨k + 1, by go_num, by rw [HN.out]; go_num, by omega, trivial⟩
        case measure => simp [intOf]; omega
    · obtain rfl : k = m := by omega
      have hcnt := HCN.out
      have hsz := HSZ.out
      have hll := HL.out
      have e1 : (s.size : Int) = (len : Int) + 2 * (cntP ((codeL l).take k) : Int) := by rw [List.take_of_length_le (by omega)]; omega
      obtain ⟨q, hq⟩ : ∃ q : Nat, cntP ((codeL l).take k) = q := ⟨_, rfl⟩
      rw [hq] at e1 ⊢
      have hq3 : q ≤ 3000 := by omega
      have dl : decide ((k : Int) < (s.size : Int)) = false := decide_eq_false (by omega)
      clear hcnt hsz hcl
      go_wp2_with fail
      refine (KA _).mono ?_
      rintro e w3 ⟨rfl, hb3⟩
      have kc := conv_row (w := w3) len c5 HL.out (row_below HR5.out hb3)
      have kd := conv_row (w := w3) len cap HL.out (row_below HR.out (HB2.out.trans (hb3.mono HB2.out.size)))
      have HB3 : Hid (Below w.heap.size w w3) := HB2.out.trans (hb3.mono HB2.out.size)
      clear hb3 KA
      go_wp2
      go_ret
      exact ⟨ret_bool (by simp; omega), HB3.out⟩

set_option maxRecDepth 100000 in
theorem lifted (os : Os) (started : os.Started) (H : Type) (enc : TypeId × Value → H) :
    ReturnsInHanded {} Tryd.checked os 6 .any (fun w args => (Rows.extraCodeBackSpec.pre enc Tryd.prog Tryd.f6 Rows.extraCodeBackRow.domain false w args ∧ laidMetH Tryd.prog Rows.extraCodeBackRow.laid w) ∧ sizedMet enc Tryd.prog Tryd.f6 (OpenSpec.ofChange Rows.extraCodeBackSpec) false w args)
      (Rows.extraCodeBackSpec.post enc Tryd.prog Tryd.f6 false true false false) := by
  refine returnsInHanded_of_change_and (C := Tryd.checked) (X := fun w _ => laidMetH Tryd.prog Rows.extraCodeBackRow.laid w) (fun _ _ _ hh h => h.of_heap hh) own started (by kernel_rfl) Tryd.func6
    (ChangeSpec.witness_shaped (enc := enc) (C := Tryd.checked) (os := os) (X := fun w _ => laidMetH Tryd.prog Rows.extraCodeBackRow.laid w) false (World.laidAll Tryd.prog os Rows.extraCodeBackRow.laid) #[.slice none 0 0] 8 (World.laidAll_os _ _ _)
      (World.shaped_of_ZipB (by kernel_rfl) (by kernel_rfl)) (by kernel_rfl) (by kernel_rfl) (by kernel_rfl)
      (by rw [MakeChecks.laidMetH_plain _ _ _ (by kernel_rfl)]; exact laidMet_laidAll _ (by kernel_rfl) (by kernel_rfl))) ?_
  intro W base args ds gs before hval0 hW hcnd hsz0 hL0 _
  have hsz : (DataW.weightsEach Tryd.prog (Tryd.f6.params.toList ++ Rows.extraCodeBackSpec.plain.varTypes Tryd.prog) (ds ++ gs)).all (· ≤ reachBytes) = true := hsz0
  have hval : ∀ (j : Nat) t v, Tryd.f6.params[j]? = some t → args[j]? = some v → Value.okWide Tryd.prog W .any base t v := hval0
  have hW' := hW
  obtain ⟨p, q, hA0, hV, rfl, hfz, hnd⟩ := hW
  have hA : DataW.TrodAll enc Tryd.prog W 0 (fun _ => true) true Tryd.f6.params.toList args.toList ds p := hA0
  rw [Tryd.params6] at hA hval hsz
  obtain ⟨v0, vs0, d0, ds0, p0, q0, hargs, rfl, rfl, h0, r0⟩ := trodAll_cons hA
  obtain ⟨rfl, rfl, rfl⟩ := trodAll_nil r0
  obtain rfl : args = #[v0] := by cases args; simp_all
  obtain ⟨rfl, rfl⟩ := trodVars_none hV
  have k0 := h0
  have lt0 : ∀ x ∈ p0, x.block < W.heap.size := by obtain ⟨m, hm⟩ := k0; exact DataW.trod_lt m _ _ _ hm
  obtain ⟨a0, len0, cap0, rfl⟩ := okWide_slice Tryd.underlying31 (hval 0 31 v0 rfl rfl)
  obtain ⟨z0, w0⟩ : ∃ zs, IsRow .u8 W a0 len0 cap0 zs := by
    obtain ⟨fuel, hf⟩ := h0
    rcases open_ints Tryd.underlying31 Tryd.underlying5 (by kernel_rfl) hf with ⟨hcs, _⟩ | ⟨x, l, c, zs, hcs, _, hl, hm, hz, _, hcell, hwz⟩
    · simp [Value.cells] at hcs
      obtain ⟨rfl, rfl, rfl⟩ := hcs
      exact ⟨[], .inl ⟨rfl, rfl, rfl, rfl⟩⟩
    · simp [Value.cells] at hcs
      obtain ⟨rfl, rfl, rfl⟩ := hcs
      exact ⟨zs, .inr ⟨_, rfl, hl, hm, by simpa using hz, hcell, hwz⟩⟩
  clear hA0 hval0
  simp only [List.append_nil] at hW'
  refine (walk a0 len0 cap0 z0 W w0).mono fun e W' ⟨he, bel⟩ => ?_
  subst he
  exact ⟨_, rfl, _, _, _, [], _, [], hW', trodAll_mk1 (shut_bool Tryd.underlying4 _), (trodAll_cons_mk (Below.trod laidOut (by kernel_rfl) (of_decide_eq_true (by kernel_rfl)) k0 bel lt0) trodAll_mk0), rfl, bel.frame _, fun h => by cases h⟩

theorem over : Rows.ExtraCodeBackSaid :=
  OpenClaim.holds_of_wide 6 Tryd.f6 rfl rfl rfl rfl rfl rfl rfl ⟨rfl, rfl, rfl, rfl, rfl⟩ rfl rfl rfl rfl rfl (by kernel_rfl) Tryd.func6 (by kernel_rfl)
    (of_decide_eq_true (by kernel_rfl)) (by unfold Func.isWrapper; first | (rw [if_pos (by decide +kernel)]; kernel_rfl) | (rw [if_neg (by decide +kernel)]; exact ⟨rfl, rfl⟩))
    (fun os started H enc _ => lifted os started H enc)
end Go.Proofs.YtfhgkkdbkbbpkaaDoor.extraCodeBack
namespace Go.Proofs.YtfhgkkdbkbbpkaaDoor
theorem extraCodeBack_card : Rows.ExtraCodeBackCardSaid :=
  Claim7.holds_tied_plain_at .later [] _ _ _ _ extraCodeBack.over (fun _ h => by cases h) (by kernel_rfl) (fun _ h => by cases h) extraCodeBack_row_tie rfl ⟨rfl, rfl⟩ (by kernel_rfl) rfl
    (fun f fn hf hfn => by
      obtain rfl : f = 6 := Option.some.inj ((show Tryd.prog.funcNamed Rows.extraCodeBackRow.func = some 6 by kernel_rfl).symm.trans hf) |>.symm
      obtain rfl : fn = Tryd.f6 := (Option.some.inj (Tryd.func6.symm.trans hfn)).symm
      exact ⟨by kernel_rfl, fun j t ht => by
        rw [Tryd.params6] at ht
        have hm : t ∈ [31] := by simpa using Array.mem_of_getElem? ht
        have hall : ([31].all fun u => !Tryd.prog.wantsStandIn u) = true := by kernel_rfl
        exact (show Tryd.prog.wantsStandIn t = false by simpa using List.all_eq_true.1 hall t hm)⟩)
    (by kernel_rfl)
#print axioms extraCodeBack_card
end Go.Proofs.YtfhgkkdbkbbpkaaDoor
