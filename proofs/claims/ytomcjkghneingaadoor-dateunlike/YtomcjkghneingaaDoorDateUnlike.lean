/-
  For any two times and counts that are 64-bit numbers and every domain: where both ids are made, they are the same just where time and count are, and the one behind the other they are read as they are. Conditions: the listed tables of the library are tied to the pruned copy of the project that the seat holds, and say nothing of its other packages, commands or tests.
-/
import Derived.Test.YtomcjkghneingaaDoorCards
import Derived.Test.YtomcjkghneingaaDoorTie
import Derived.Test.YtomcjkghneingaaDoorLb
import Derived.WalkKit
import Derived.ProofKit
import Derived.OpenShut
import Derived.ShutString
import Derived.ChangeOld
import Derived.Below
import Derived.LaidMore
import Derived.Lay
import Derived.SevenTiedAt
import Derived.Stop.Joined
namespace Go.Proofs.YtomcjkghneingaaDoor.dateUnlike
open Go.ChangeShapes Go.WideShapes Go.ChangeAt Go.RowKit
open Go.ChangeMaps (open_string shut_string)
set_option linter.unusedVariables false

theorem idL_byt (t n : Int) (d : ByteArray) : Byt (idL t n (nums d)) := by
  have hs : ∀ n : Int, Byt (sgL n) := fun n x hx => by
    have := sgL_ok n x hx
    unfold sgOk at this
    omega
  have hd := nums_byt d
  have hc : ∀ c : Int, 0 ≤ c → c < 256 → Byt [c] := fun c h0 h1 x hx => by rw [List.mem_singleton.1 hx]; exact ⟨h0, h1⟩
  have : idL t n (nums d) = [60] ++ sgL t ++ [46] ++ sgL n ++ [64] ++ nums d ++ [62] := by unfold idL; simp [List.append_assoc]
  rw [this]
  exact ((((((hc 60 (by decide) (by decide)).append (hs t)).append (hc 46 (by decide) (by decide))).append (hs n)).append (hc 64 (by decide) (by decide))).append hd).append (hc 62 (by decide) (by decide))
theorem idL_len (t n : Int) (d : List Int) : (idL t n d).length ≤ 32 + d.length := by
  have h1 := (sgL_len t).1
  have h2 := (sgL_len n).1
  unfold idL
  simp only [List.length_append, List.length_cons, List.length_nil]
  omega
theorem may_parts {t n : Int} {d : List Int} (h : mayB t n d = true) : 0 ≤ t ∧ t ≤ 253402300799 ∧ 0 ≤ n ∧ rightZ [] [120] d = true := by
  unfold mayB timeB at h
  simp only [Bool.and_eq_true, decide_eq_true_eq] at h
  exact ⟨h.1.1.1, h.1.1.2, h.1.2, h.2⟩
theorem two_of {xs : List ByteArray} {A B : ByteArray} (h : xs.map nums = [nums A, nums B]) : xs = [A, B] := by
  have hl : xs.length = 2 := by have := congrArg List.length h; rw [List.length_map] at this; exact this
  match xs, hl, h with
  | [x, y], _, h =>
    simp only [List.map_cons, List.map_nil, List.cons.injEq, and_true] at h
    rw [nums_inj h.1, nums_inj h.2]
theorem ids_ans (A B S : ByteArray) (V : World) (hS : S.size ≤ 1000000) (h : idsZ (nums S) = some [nums A, nums B]) :
    Calls Tryd.prog 18 #[.string S] V fun e w' => ∃ g off cap, e = .returned (.tuple #[.slice (some ⟨g, off, none⟩) 2 cap, .int .i64 0]) ∧ w'.cell? ⟨g, off, none⟩ = some (.string A) ∧ w'.cell? ⟨g, off + 1, none⟩ = some (.string B) ∧ Below V.heap.size V w' := by
  refine (ids_any S V hS).mono fun e w' hq => ?_
  rw [h] at hq
  obtain ⟨a, cap, xs, rfl, hx, hr⟩ := hq.2.2.1 _ rfl (by simp)
  obtain rfl := two_of hx
  rcases hr with hr | ⟨g, off, rfl, hr⟩
  · cases hr
  · exact ⟨g, off, cap, rfl, hr 0 A rfl, hr 1 B rfl, hq.2.2.2⟩
set_option maxHeartbeats 8000000 in
set_option maxRecDepth 100000 in
theorem walk (t u m n : Int) (d : ByteArray) (W : World) (t0 : -9223372036854775808 ≤ t) (t1 : t ≤ 9223372036854775807) (u0 : -9223372036854775808 ≤ u) (u1 : u ≤ 9223372036854775807) (m0 : -9223372036854775808 ≤ m) (m1 : m ≤ 9223372036854775807) (n0 : -9223372036854775808 ≤ n) (n1 : n ≤ 9223372036854775807) (hd : d.size ≤ maxLen) (hg : Gz W) :
    Calls Tryd.prog 8 #[.int .i64 t, .int .i64 u, .int .i64 m, .int .i64 n, .string d] W fun e W' => e = .returned (.bool true) ∧ Below W.heap.size W W' := by
  have HG : Hid (Gz W) := hg
  have HA : Hid (∀ V, Gz V → Calls Tryd.prog 13 #[] V fun e w' => e = .returned (.bool true) ∧ Below V.heap.size V w') := alive_any
  by_cases hz : d.size ≤ 600
  · have hz1 : decide ((600 : Int) < (d.size : Int)) = false := decide_eq_false (by omega)
    have hz2 : ¬ (600 : Int) < (d.size : Int) := by omega
    have h1 := id_any t m d W t0 t1 m0 m1 (by omega)
    have H2 : Hid (∀ V, Calls Tryd.prog 16 #[.int .i64 u, .int .i64 n, .string d] V fun e w' => e = idE (mayB u n (nums d)) (strOfNums (idL u n (nums d))) ∧ Below V.heap.size V w') := fun V => id_any u n d V u0 u1 n0 n1 (by omega)
    have hl1 : (strOfNums (idL t m (nums d))).size ≤ 632 := by rw [so_size]; have := idL_len t m (nums d); rw [nums_len] at this; omega
    have hl2 : (strOfNums (idL u n (nums d))).size ≤ 632 := by rw [so_size]; have := idL_len u n (nums d); rw [nums_len] at this; omega
    cases hma : mayB t m (nums d) with
    | false =>
      rw [hma] at h1
      have h1 : Calls Tryd.prog 16 #[.int .i64 t, .int .i64 m, .string d] W fun e w' => e = .returned (.tuple #[.string ⟨#[]⟩, .int .i64 1]) ∧ Below W.heap.size W w' := h1
      cases hmb : mayB u n (nums d) with
      | false =>
        rw [hmb] at H2
        have H2 : Hid (∀ V, Calls Tryd.prog 16 #[.int .i64 u, .int .i64 n, .string d] V fun e w' => e = .returned (.tuple #[.string ⟨#[]⟩, .int .i64 1]) ∧ Below V.heap.size V w') := H2
        clear hl1 hl2
        go_enter Tryd.func8, Tryd.ntmps8
        go_wp2_with fail
        refine h1.mono ?_
        rintro e w1 ⟨rfl, hb1⟩
        go_wp2_with fail
        refine (H2.out w1).mono ?_
        rintro e w2 ⟨rfl, hb2⟩
        have HB2 := hb1.trans (hb2.mono hb1.size)
        go_wp2_with fail
        refine (HA.out w2 (HG.out.below HB2)).mono ?_
        rintro e w3 ⟨rfl, hb3⟩
        go_wp2
        go_ret
        exact ⟨rfl, HB2.trans (hb3.mono HB2.size)⟩
      | true =>
        rw [hmb] at H2
        obtain ⟨B, hB⟩ : ∃ B, strOfNums (idL u n (nums d)) = B := ⟨_, rfl⟩
        rw [hB] at H2
        have H2 : Hid (∀ V, Calls Tryd.prog 16 #[.int .i64 u, .int .i64 n, .string d] V fun e w' => e = .returned (.tuple #[.string B, .int .i64 0]) ∧ Below V.heap.size V w') := H2
        clear hl1 hl2 hB
        go_enter Tryd.func8, Tryd.ntmps8
        go_wp2_with fail
        refine h1.mono ?_
        rintro e w1 ⟨rfl, hb1⟩
        go_wp2_with fail
        refine (H2.out w1).mono ?_
        rintro e w2 ⟨rfl, hb2⟩
        have HB2 := hb1.trans (hb2.mono hb1.size)
        go_wp2_with fail
        refine (HA.out w2 (HG.out.below HB2)).mono ?_
        rintro e w3 ⟨rfl, hb3⟩
        go_wp2
        go_ret
        exact ⟨rfl, HB2.trans (hb3.mono HB2.size)⟩
    | true =>
      rw [hma] at h1
      obtain ⟨A, hA⟩ : ∃ A, strOfNums (idL t m (nums d)) = A := ⟨_, rfl⟩
      rw [hA] at h1 hl1
      have h1 : Calls Tryd.prog 16 #[.int .i64 t, .int .i64 m, .string d] W fun e w' => e = .returned (.tuple #[.string A, .int .i64 0]) ∧ Below W.heap.size W w' := h1
      cases hmb : mayB u n (nums d) with
      | false =>
        rw [hmb] at H2
        have H2 : Hid (∀ V, Calls Tryd.prog 16 #[.int .i64 u, .int .i64 n, .string d] V fun e w' => e = .returned (.tuple #[.string ⟨#[]⟩, .int .i64 1]) ∧ Below V.heap.size V w') := H2
        clear hl1 hl2 hA
        go_enter Tryd.func8, Tryd.ntmps8
        go_wp2_with fail
        refine h1.mono ?_
        rintro e w1 ⟨rfl, hb1⟩
        go_wp2_with fail
        refine (H2.out w1).mono ?_
        rintro e w2 ⟨rfl, hb2⟩
        have HB2 := hb1.trans (hb2.mono hb1.size)
        go_wp2_with fail
        refine (HA.out w2 (HG.out.below HB2)).mono ?_
        rintro e w3 ⟨rfl, hb3⟩
        go_wp2
        go_ret
        exact ⟨rfl, HB2.trans (hb3.mono HB2.size)⟩
      | true =>
        rw [hmb] at H2
        obtain ⟨B, hB⟩ : ∃ B, strOfNums (idL u n (nums d)) = B := ⟨_, rfl⟩
        rw [hB] at H2 hl2
        have H2 : Hid (∀ V, Calls Tryd.prog 16 #[.int .i64 u, .int .i64 n, .string d] V fun e w' => e = .returned (.tuple #[.string B, .int .i64 0]) ∧ Below V.heap.size V w') := H2
        have hnA : nums A = idL t m (nums d) := by rw [← hA]; exact nums_str (idL_byt t m d)
        have hnB : nums B = idL u n (nums d) := by rw [← hB]; exact nums_str (idL_byt u n d)
        obtain ⟨p0, p1, p2, p3⟩ := may_parts hma
        obtain ⟨q0, q1, q2, q3⟩ := may_parts hmb
        have hse : (A.toList == B.toList) = (decide (t = u) && decide (m = n)) := by
          rw [eq_nums, hnA, hnB, Bool.eq_iff_iff, decide_eq_true_iff, Bool.and_eq_true, decide_eq_true_iff, decide_eq_true_iff]
          constructor
          · intro e; exact id_inj p0 (by omega) p2 m1 q0 (by omega) q2 n1 e
          · rintro ⟨rfl, rfl⟩; rfl
        have H3 : Hid (∀ V, Calls Tryd.prog 18 #[.string (A ++ B)] V fun e w' => ∃ g off cap, e = .returned (.tuple #[.slice (some ⟨g, off, none⟩) 2 cap, .int .i64 0]) ∧ w'.cell? ⟨g, off, none⟩ = some (.string A) ∧ w'.cell? ⟨g, off + 1, none⟩ = some (.string B) ∧ Below V.heap.size V w') := fun V =>
          ids_ans A B (A ++ B) V (by rw [ByteArray.size_append]; omega) (by rw [nums_append, hnA, hnB]; exact ids_two (id_ok p3) (id_ok q3))
        have H4 : Hid (∀ V, Calls Tryd.prog 18 #[.string (⟨#[32]⟩ ++ A ++ ⟨#[9]⟩ ++ B ++ ⟨#[32]⟩)] V fun e w' => ∃ g off cap, e = .returned (.tuple #[.slice (some ⟨g, off, none⟩) 2 cap, .int .i64 0]) ∧ w'.cell? ⟨g, off, none⟩ = some (.string A) ∧ w'.cell? ⟨g, off + 1, none⟩ = some (.string B) ∧ Below V.heap.size V w') := fun V =>
          ids_ans A B _ V (by
            have e1 : (⟨#[32]⟩ : ByteArray).size = 1 := rfl
            have e2 : (⟨#[9]⟩ : ByteArray).size = 1 := rfl
            simp only [ByteArray.size_append, e1, e2]; omega) (by
            rw [nums_append, nums_append, nums_append, nums_append, hnA, hnB]
            have := ids_wide (id_ok (t := t) (n := m) p3) (id_ok (t := u) (n := n) q3)
            rw [← this]
            congr 1
            show (([32] ++ idL t m (nums d)) ++ [9]) ++ idL u n (nums d) ++ [32] = _
            simp [List.append_assoc])
        clear hA hB hnA hnB hma hmb p0 p1 p2 p3 q0 q1 q2 q3
        have HSE : Hid _ := hse
        clear hse
        go_enter Tryd.func8, Tryd.ntmps8
        go_wp2_with fail
        refine h1.mono ?_
        clear h1
        rintro e w1 ⟨rfl, hb1⟩
        go_wp2_with fail
        refine (H2.out w1).mono ?_
        rintro e w2 ⟨rfl, hb2⟩
        have HB2 : Hid (Below W.heap.size W w2) := hb1.trans (hb2.mono hb1.size)
        clear hb1 hb2
        go_wp2_with fail
        refine (H3.out w2).mono ?_
        rintro e w3 ⟨g, off, cap, rfl, c1, c2, hb3⟩
        have HB3 : Hid (Below W.heap.size W w3) := HB2.out.trans (hb3.mono HB2.out.size)
        clear hb3
        go_wp2_with fail
        refine (H4.out w3).mono ?_
        rintro e w4 ⟨g2, off2, cap2, rfl, c3, c4, hb4⟩
        have HB4 : Hid (Below W.heap.size W w4) := HB3.out.trans (hb4.mono HB3.out.size)
        have c5 := cell_keep hb4 c1
        have c6 := cell_keep hb4 c2
        clear hb4 c1 c2
        go_wp2_with fail
        refine (HA.out w4 (HG.out.below HB4.out)).mono ?_
        rintro e w5 ⟨rfl, hb5⟩
        have HB5 : Hid (Below W.heap.size W w5) := HB4.out.trans (hb5.mono HB4.out.size)
        have d1 := cell_keep hb5 c3
        have d2 := cell_keep hb5 c4
        have d3 := cell_keep hb5 c5
        have d4 := cell_keep hb5 c6
        clear hb5 c3 c4 c5 c6
        have hse := HSE.out
        by_cases ht : t = u
        · by_cases hm : m = n
          · have hmm : (m == n) = true := by simpa using hm
            have htt : (t == u) = true := by simpa using ht
            rw [decide_eq_true ht, decide_eq_true hm] at hse
            have hab : (A.toList == B.toList) = true := hse
            clear hse
            subst ht hm
            go_wp2
            go_ret
            exact ⟨rfl, HB5.out⟩
          · have hmm : (m == n) = false := by simpa using hm
            have htt : (t == u) = true := by simpa using ht
            rw [decide_eq_true ht, decide_eq_false hm] at hse
            have hab : (A.toList == B.toList) = false := hse
            clear hse
            subst ht
            go_wp2
            go_ret
            exact ⟨rfl, HB5.out⟩
        · have htt : (t == u) = false := by simpa using ht
          rw [decide_eq_false ht] at hse
          have hab : (A.toList == B.toList) = false := hse
          clear hse
          go_wp2
          go_ret
          exact ⟨rfl, HB5.out⟩
  · have hz1 : decide ((600 : Int) < (d.size : Int)) = true := decide_eq_true (by omega)
    have hz2 : (600 : Int) < (d.size : Int) := by omega
    have ha := alive_any W hg
    go_enter Tryd.func8, Tryd.ntmps8
    go_wp2_with fail
    refine ha.mono ?_
    rintro e w2 ⟨rfl, hb2⟩
    go_wp2
    go_ret
    exact ⟨rfl, hb2⟩

set_option maxRecDepth 100000 in
theorem lifted (os : Os) (started : os.Started) (H : Type) (enc : TypeId × Value → H) :
    ReturnsInHanded {} Tryd.checked os 8 .any (fun w args => (Rows.dateUnlikeSpec.pre enc Tryd.prog Tryd.f8 Rows.dateUnlikeRow.domain false w args ∧ laidMetH Tryd.prog Rows.dateUnlikeRow.laid w) ∧ sizedMet enc Tryd.prog Tryd.f8 (OpenSpec.ofChange Rows.dateUnlikeSpec) false w args)
      (Rows.dateUnlikeSpec.post enc Tryd.prog Tryd.f8 false true false false) := by
  refine returnsInHanded_of_change_and (C := Tryd.checked) (X := fun w _ => laidMetH Tryd.prog Rows.dateUnlikeRow.laid w) (fun _ _ _ hh h => h.of_heap hh) own started (by kernel_rfl) Tryd.func8
    (ChangeSpec.witness_shaped (enc := enc) (C := Tryd.checked) (os := os) (X := fun w _ => laidMetH Tryd.prog Rows.dateUnlikeRow.laid w) false (World.laidAll Tryd.prog os Rows.dateUnlikeRow.laid) #[.int .i64 0, .int .i64 0, .int .i64 0, .int .i64 0, .string ⟨#[]⟩] 8 (World.laidAll_os _ _ _)
      (World.shaped_of_ZipB (by kernel_rfl) (by kernel_rfl)) (by kernel_rfl) (by kernel_rfl) (by kernel_rfl)
      (by rw [MakeChecks.laidMetH_plain _ _ _ (by kernel_rfl)]; exact laidMet_laidAll _ (by kernel_rfl) (by kernel_rfl))) ?_
  intro W base args ds gs before hval0 hW hcnd _ hL0 _
  have hL : laidMet Tryd.prog Rows.dateUnlikeRow.laid W := by
    have : laidMetH Tryd.prog Rows.dateUnlikeRow.laid W := hL0
    rwa [MakeChecks.laidMetH_plain _ _ _ (by kernel_rfl)] at this
  have hval : ∀ (j : Nat) t v, Tryd.f8.params[j]? = some t → args[j]? = some v → Value.okWide Tryd.prog W .any base t v := hval0
  have hW' := hW
  obtain ⟨p, q, hA0, hV, rfl, hfz, hnd⟩ := hW
  have hA : DataW.TrodAll enc Tryd.prog W 0 (fun _ => true) true Tryd.f8.params.toList args.toList ds p := hA0
  rw [Tryd.params8] at hA hval
  obtain ⟨v0, vs0, d0, ds0, p0, q0, hargs, rfl, rfl, h0, r0⟩ := trodAll_cons hA
  obtain ⟨v1, vs1, d1, ds1, p1, q1, rfl, rfl, rfl, h1, r1⟩ := trodAll_cons r0
  obtain ⟨v2, vs2, d2, ds2, p2, q2, rfl, rfl, rfl, h2, r2⟩ := trodAll_cons r1
  obtain ⟨v3, vs3, d3, ds3, p3, q3, rfl, rfl, rfl, h3, r3⟩ := trodAll_cons r2
  obtain ⟨v4, vs4, d4, ds4, p4, q4, rfl, rfl, rfl, h4, r4⟩ := trodAll_cons r3
  obtain ⟨rfl, rfl, rfl⟩ := trodAll_nil r4
  obtain rfl : args = #[v0, v1, v2, v3, v4] := by cases args; simp_all
  obtain ⟨rfl, rfl⟩ := trodVars_none hV
  obtain ⟨a0, rfl, rfl, rfl, w0⟩ := open_int Tryd.underlying2 (hval 0 2 v0 rfl rfl) h0
  have b0 := bounds_i64 w0
  obtain ⟨a1, rfl, rfl, rfl, w1⟩ := open_int Tryd.underlying2 (hval 1 2 v1 rfl rfl) h1
  have b1 := bounds_i64 w1
  obtain ⟨a2, rfl, rfl, rfl, w2⟩ := open_int Tryd.underlying3 (hval 2 3 v2 rfl rfl) h2
  have b2 := bounds_i64 w2
  obtain ⟨a3, rfl, rfl, rfl, w3⟩ := open_int Tryd.underlying3 (hval 3 3 v3 rfl rfl) h3
  have b3 := bounds_i64 w3
  have k4 := h4
  have lt4 : ∀ x ∈ p4, x.block < W.heap.size := by obtain ⟨m, hm⟩ := k4; exact DataW.trod_lt m _ _ _ hm
  obtain ⟨s4, rfl, _, _, hs4⟩ := open_string Tryd.underlying9 (hval 4 9 v4 rfl rfl) h4
  clear hA0 hval0
  have hGz : Gz W := gz_of hL
  simp only [List.append_nil] at hW'
  refine (walk a0 a1 a2 a3 s4 W b0.1 b0.2 b1.1 b1.2 b2.1 b2.2 b3.1 b3.2 hs4 hGz).mono fun e W' ⟨he, bel⟩ => ?_
  subst he
  exact ⟨_, rfl, _, _, _, [], _, [], hW', trodAll_mk1 (shut_bool Tryd.underlying4 _), (trodAll_cons_mk (shut_int Tryd.underlying2 w0) (trodAll_cons_mk (shut_int Tryd.underlying2 w1) (trodAll_cons_mk (shut_int Tryd.underlying3 w2) (trodAll_cons_mk (shut_int Tryd.underlying3 w3) (trodAll_cons_mk (Below.trod laidOut (by kernel_rfl) (of_decide_eq_true (by kernel_rfl)) k4 bel lt4) trodAll_mk0))))), rfl, bel.frame _, fun h => by cases h⟩

theorem over : Rows.DateUnlikeSaid :=
  OpenClaim.holds_of_wide 8 Tryd.f8 rfl rfl rfl rfl rfl rfl rfl ⟨rfl, rfl, rfl, rfl, rfl⟩ rfl rfl rfl rfl rfl (by kernel_rfl) Tryd.func8 (by kernel_rfl)
    (of_decide_eq_true (by kernel_rfl)) (by unfold Func.isWrapper; first | (rw [if_pos (by decide +kernel)]; kernel_rfl) | (rw [if_neg (by decide +kernel)]; exact ⟨rfl, rfl⟩))
    (fun os started H enc _ => lifted os started H enc)
end Go.Proofs.YtomcjkghneingaaDoor.dateUnlike
namespace Go.Proofs.YtomcjkghneingaaDoor
theorem dateUnlike_card : Rows.DateUnlikeCardSaid :=
  Claim7.holds_tied_plain_at .later [] _ _ _ _ dateUnlike.over (fun _ h => by cases h) (by kernel_rfl) (fun _ h => by cases h) dateUnlike_row_tie rfl ⟨rfl, rfl⟩ (by kernel_rfl) rfl
    (fun f fn hf hfn => by
      obtain rfl : f = 8 := Option.some.inj ((show Tryd.prog.funcNamed Rows.dateUnlikeRow.func = some 8 by kernel_rfl).symm.trans hf) |>.symm
      obtain rfl : fn = Tryd.f8 := (Option.some.inj (Tryd.func8.symm.trans hfn)).symm
      exact ⟨by kernel_rfl, fun j t ht => by
        rw [Tryd.params8] at ht
        have hm : t ∈ [2, 2, 3, 3, 9] := by simpa using Array.mem_of_getElem? ht
        have hall : ([2, 2, 3, 3, 9].all fun u => !Tryd.prog.wantsStandIn u) = true := by kernel_rfl
        exact (show Tryd.prog.wantsStandIn t = false by simpa using List.all_eq_true.1 hall t hm)⟩)
    (by kernel_rfl)
#print axioms dateUnlike_card
end Go.Proofs.YtomcjkghneingaaDoor
