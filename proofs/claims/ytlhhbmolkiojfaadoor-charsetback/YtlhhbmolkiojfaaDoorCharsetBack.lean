/-
  CharsetBack: what is encoded is decoded as it was, in every set. The tables of the package are as the program lays them (the card ties them).
-/
import Derived.Test.YtlhhbmolkiojfaaDoorCards
import Derived.Test.YtlhhbmolkiojfaaDoorTie
import Derived.Test.YtlhhbmolkiojfaaDoorCm
import Derived.WalkKit
import Derived.ProofKit
import Derived.OpenShut
import Derived.ShutString
import Derived.ChangeOld
import Derived.Below
import Derived.LaidMore
import Derived.Lay
import Derived.SevenTiedAt
import Derived.Stop.Joined
namespace Go.Proofs.YtlhhbmolkiojfaaDoor.charsetBack
open Go.ChangeShapes Go.WideShapes Go.ChangeAt Go.RowKit
open Go.ChangeMaps (open_string shut_string)
set_option linter.unusedVariables false

set_option maxRecDepth 100000 in
set_option maxHeartbeats 8000000 in
theorem walk_long1 (s : ByteArray) (a : Option Addr) (len cap : Nat) (w : World) (h : 100 < s.size) (h9 : T9 w) (hW : TW w) :
    Calls Tryd.prog 5 #[.string s, .slice a len cap] w fun e w' => e = .returned (.bool true) ∧ Below w.heap.size w w' := by
  have K := alive_any w h9 hW
  go_enter Tryd.func5, Tryd.ntmps5
  go_wp2_with (go_at_call 9; refine K.mono ?_; rintro e w' ⟨rfl, hb⟩)
  go_ret
  exact ⟨rfl, hb⟩
set_option maxRecDepth 100000 in
set_option maxHeartbeats 8000000 in
theorem walk_long2 (s : ByteArray) (a : Option Addr) (len cap : Nat) (w : World) (h : s.size ≤ 100) (h2 : 1000 < len) (h9 : T9 w) (hW : TW w) :
    Calls Tryd.prog 5 #[.string s, .slice a len cap] w fun e w' => e = .returned (.bool true) ∧ Below w.heap.size w w' := by
  have K := alive_any w h9 hW
  go_enter Tryd.func5, Tryd.ntmps5
  go_wp2_with (go_at_call 9; refine K.mono ?_; rintro e w' ⟨rfl, hb⟩)
  go_ret
  exact ⟨rfl, hb⟩
set_option maxRecDepth 100000 in
set_option maxHeartbeats 8000000 in
theorem fail_known (s : ByteArray) (a : Option Addr) (cap : Nat) (l : List Int) (w : World) (h : s.size ≤ 100) (h2 : l.length ≤ 1000) (hl : Byt l) (hcap : l.length ≤ cap) (hm : cap ≤ maxLen) (hrow : Row w a l) (h9 : T9 w) (hW : TW w) (n c : Int) (hc0 : c ≠ 0) 
    (KE : Calls Tryd.prog 14 #[.string s, .slice a l.length cap] w fun e w' => e = .returned (.tuple #[.slice none 0 0, .agg #[.int .i64 n, .int .i64 c]]) ∧ Below w.heap.size w w') (KN : ∀ W : World, Calls Tryd.prog 12 #[.string s] W fun e w' => e = .returned (.bool true) ∧ Below W.heap.size W w') :
    Calls Tryd.prog 5 #[.string s, .slice a l.length cap] w fun e w' => e = .returned (.bool true) ∧ Below w.heap.size w w' := by
  have K : ∀ W : World, Below w.heap.size w W → Calls Tryd.prog 9 #[] W fun e w' => e = .returned (.bool true) ∧ Below W.heap.size W w' := fun W hb => alive_any W (h9.below hb) (hW.below hb)
  obtain ⟨len, hlen⟩ : ∃ len, l.length = len := ⟨_, rfl⟩
  rw [hlen] at h2 hcap KE ⊢
  have bc : (c != 0) = true := by simpa using hc0
  clear hrow h9 hW hlen hc0
  go_enter Tryd.func5, Tryd.ntmps5
  go_wp2_with fail
  refine KE.mono ?_
  rintro e w1 ⟨rfl, hb1⟩
  have B1 := hb1.alloc hb1.size (.cells #[.int .i64 n, .int .i64 c] 26)
  go_wp2_with fail
  refine (K _ B1).mono ?_
  rintro e w2 ⟨rfl, hb2⟩
  have B2 := B1.trans (hb2.mono B1.size)
  go_wp2_with fail
  refine (KN _).mono ?_
  rintro e w3 ⟨rfl, hb3⟩
  have c1 : w3.cell? ⟨w1.heap.size, 1, none⟩ = some (.int .i64 c) := by
    have h1 := hb2.size
    simp at h1
    rw [hb3.cell (by simp; omega), hb2.cell (by simp)]; simp
  have HB : Hid (Below w.heap.size w w3) := B2.trans (hb3.mono B2.size)
  clear hb1 hb2 hb3 B1 B2 KE K KN
  go_wp2
  go_ret
  exact ⟨rfl, HB.out⟩
set_option maxRecDepth 100000 in
set_option maxHeartbeats 8000000 in
theorem fail_unknown (s : ByteArray) (a : Option Addr) (cap : Nat) (l : List Int) (w : World) (h : s.size ≤ 100) (h2 : l.length ≤ 1000) (hl : Byt l) (hcap : l.length ≤ cap) (hm : cap ≤ maxLen) (hrow : Row w a l) (h9 : T9 w) (hW : TW w) (n c : Int) (hc0 : c ≠ 0) (hc : c = 143)
    (KE : Calls Tryd.prog 14 #[.string s, .slice a l.length cap] w fun e w' => e = .returned (.tuple #[.slice none 0 0, .agg #[.int .i64 n, .int .i64 c]]) ∧ Below w.heap.size w w') (KN : ∀ W : World, Calls Tryd.prog 12 #[.string s] W fun e w' => e = .returned (.bool false) ∧ Below W.heap.size W w') :
    Calls Tryd.prog 5 #[.string s, .slice a l.length cap] w fun e w' => e = .returned (.bool true) ∧ Below w.heap.size w w' := by
  have K : ∀ W : World, Below w.heap.size w W → Calls Tryd.prog 9 #[] W fun e w' => e = .returned (.bool true) ∧ Below W.heap.size W w' := fun W hb => alive_any W (h9.below hb) (hW.below hb)
  subst hc
  obtain ⟨len, hlen⟩ : ∃ len, l.length = len := ⟨_, rfl⟩
  rw [hlen] at h2 hcap KE ⊢
  clear hrow h9 hW hlen hc0
  go_enter Tryd.func5, Tryd.ntmps5
  go_wp2_with fail
  refine KE.mono ?_
  rintro e w1 ⟨rfl, hb1⟩
  have B1 := hb1.alloc hb1.size (.cells #[.int .i64 n, .int .i64 143] 26)
  go_wp2_with fail
  refine (K _ B1).mono ?_
  rintro e w2 ⟨rfl, hb2⟩
  have B2 := B1.trans (hb2.mono B1.size)
  go_wp2_with fail
  refine (KN _).mono ?_
  rintro e w3 ⟨rfl, hb3⟩
  have c1 : w3.cell? ⟨w1.heap.size, 1, none⟩ = some (.int .i64 143) := by
    have h1 := hb2.size
    simp at h1
    rw [hb3.cell (by simp; omega), hb2.cell (by simp)]; simp
  have HB : Hid (Below w.heap.size w w3) := B2.trans (hb3.mono B2.size)
  clear hb1 hb2 hb3 B1 B2 KE K KN
  go_wp2
  go_ret
  exact ⟨rfl, HB.out⟩
set_option maxRecDepth 100000 in
set_option maxHeartbeats 8000000 in
theorem walk_ok (s : ByteArray) (a : Option Addr) (cap : Nat) (l : List Int) (w : World) (h : s.size ≤ 100) (h2 : l.length ≤ 1000) (hl : Byt l) (hcap : l.length ≤ cap) (hm : cap ≤ maxLen) (hrow : Row w a l) (h9 : T9 w) (hW : TW w) (ps : List Int) (y : List Int) (hlp : l = Ut.flat ps)
    (KE : Calls Tryd.prog 14 #[.string s, .slice a l.length cap] w fun e w' => ∃ v, e = .returned (.tuple #[v, .agg #[.int .i64 0, .int .i64 0]]) ∧ Own w' w.heap.size v y ∧ Below w.heap.size w w')
    (KD : ∀ W a cap, Row W a y → y.length ≤ cap → cap ≤ maxLen → T9 W → TW W → Calls Tryd.prog 10 #[.string s, .slice a y.length cap] W fun e w' => ∃ v, e = .returned (.tuple #[v, .agg #[.int .i64 0, .int .i64 0]]) ∧ Own w' W.heap.size v (Ut.flat ps) ∧ Below W.heap.size W w') :
    Calls Tryd.prog 5 #[.string s, .slice a l.length cap] w fun e w' => e = .returned (.bool true) ∧ Below w.heap.size w w' := by
  have K : ∀ W : World, Below w.heap.size w W → Calls Tryd.prog 9 #[] W fun e w' => e = .returned (.bool true) ∧ Below W.heap.size W w' := fun W hb => alive_any W (h9.below hb) (hW.below hb)
  rw [← hlp] at KD
  obtain ⟨len, hlen⟩ : ∃ len, l.length = len := ⟨_, rfl⟩
  have HLEN : Hid (l.length = len) := hlen
  have HR : Hid (Row w a l) := hrow
  rw [hlen] at h2 hcap KE ⊢
  clear hrow hlen hlp
  go_enter Tryd.func5, Tryd.ntmps5
  go_wp2_with fail
  refine KE.mono ?_
  rintro e w1 ⟨v1, rfl, hown1, hb1⟩
  obtain ⟨a1, cap1, rfl, hc1, hm1, hrow1, hn1⟩ := own_row' hown1
  have B1 := hb1.alloc hb1.size (.cells #[.int .i64 0, .int .i64 0] 26)
  have R1 := row_below (row_k hrow1) (keep w1 (.cells #[.int .i64 0, .int .i64 0] 26))
  go_wp2_with fail
  refine (KD _ a1 cap1 R1 hc1 hm1 (h9.below B1) (hW.below B1)).mono ?_
  rintro e w2 ⟨v2, rfl, hown2, hb2⟩
  obtain ⟨a2, cap2, rfl, hc2, hm2, hrow2, hn2⟩ := own_row' hown2
  have B2 := B1.trans (hb2.mono B1.size)
  have B2' := B2.alloc B2.size (.cells #[.int .i64 0, .int .i64 0] 26)
  have R2 := row_below (row_k hrow2) (keep w2 (.cells #[.int .i64 0, .int .i64 0] 26))
  go_wp2_with fail
  refine (K _ B2').mono ?_
  rintro e w3 ⟨rfl, hb3⟩
  have c0 : w3.cell? ⟨w2.heap.size, 0, none⟩ = some (.int .i64 0) := by rw [hb3.cell (by simp)]; simp
  have c1 : w3.cell? ⟨w2.heap.size, 1, none⟩ = some (.int .i64 0) := by rw [hb3.cell (by simp)]; simp
  have HB : Hid (Below w.heap.size w w3) := B2'.trans (hb3.mono B2'.size)
  have k2 := conv_row l.length cap2 rfl (row_below R2 hb3)
  have k1 := conv_row len cap HLEN.out (row_below HR.out HB.out)
  rw [HLEN.out] at k2
  have HL3 : Hid (l.length = len) := HLEN.out
  have hl2 := HLEN.out
  rw [hl2] at hc2
  try rw [hl2]
  clear R1 R2 hown1 hown2 hrow1 hrow2 hb1 hb2 hb3 B1 B2 B2' KD KE K hl2
  go_wp2
  go_ret
  exact ⟨rfl, HB.out⟩
theorem walk (s : ByteArray) (a : Option Addr) (len cap : Nat) (z : List Int) (w : World) (hz : IsRow .u8 w a len cap z) (h9 : T9 w) (hW : TW w) :
    Calls Tryd.prog 5 #[.string s, .slice a len cap] w fun e w' => e = .returned (.bool true) ∧ Below w.heap.size w w' := by
  obtain ⟨l, hlen, hcap, hm, hl, hrow⟩ := byte_view hz
  subst hlen
  rcases Nat.lt_or_ge 100 s.size with h | h
  · exact walk_long1 s a _ cap w h h9 hW
  rcases Nat.lt_or_ge 1000 l.length with h2 | h2
  · exact walk_long2 s a _ cap w h h2 h9 hW
  rcases enc_any s l hl (by omega) (by omega) with ⟨n, c, hc0, hcu, _, _, _, KE⟩ | ⟨ps, hq, hlp, hA, KE⟩
  · by_cases h0 : setB (lowS s) = 0
    · refine fail_unknown s a cap l w h h2 hl hcap hm hrow h9 hW n c hc0 (hcu h0) (KE w a cap hrow hcap hm h9 hW) fun W => ?_
      have := known_any s W (by omega)
      rw [h0] at this
      exact this
    · refine fail_known s a cap l w h h2 hl hcap hm hrow h9 hW n c hc0 (KE w a cap hrow hcap hm h9 hW) fun W => ?_
      have := known_any s W (by omega)
      rw [show (!decide (setB (lowS s) = 0)) = true by simp [h0]] at this
      exact this
  · have h3 := flatS_len2 (s := setS (setB (lowS s))) hA.pts
    have h4 := mark_len (setB (lowS s))
    refine walk_ok s a cap l w h h2 hl hcap hm hrow h9 hW ps _ hlp (KE w a cap hrow hcap hm h9 hW) (back_dec s ps (by omega) hq hA _ rfl ?_)
    rw [List.length_append, ← hlp] at *
    omega

set_option maxRecDepth 100000 in
theorem lifted (os : Os) (started : os.Started) (H : Type) (enc : TypeId × Value → H) :
    ReturnsInHanded {} Tryd.checked os 5 .any (fun w args => (Rows.charsetBackSpec.pre enc Tryd.prog Tryd.f5 Rows.charsetBackRow.domain false w args ∧ laidMetH Tryd.prog Rows.charsetBackRow.laid w) ∧ sizedMet enc Tryd.prog Tryd.f5 (OpenSpec.ofChange Rows.charsetBackSpec) false w args)
      (Rows.charsetBackSpec.post enc Tryd.prog Tryd.f5 false true false false) := by
  refine returnsInHanded_of_change_and (C := Tryd.checked) (X := fun w _ => laidMetH Tryd.prog Rows.charsetBackRow.laid w) (fun _ _ _ hh h => h.of_heap hh) own started (by kernel_rfl) Tryd.func5
    (ChangeSpec.witness_shaped (enc := enc) (C := Tryd.checked) (os := os) (X := fun w _ => laidMetH Tryd.prog Rows.charsetBackRow.laid w) false (World.laidAll Tryd.prog os Rows.charsetBackRow.laid) #[.string ⟨#[]⟩, .slice none 0 0] 8 (World.laidAll_os _ _ _)
      (World.shaped_of_ZipB (by kernel_rfl) (by kernel_rfl)) (by kernel_rfl) (by kernel_rfl) (by kernel_rfl)
      (by rw [MakeChecks.laidMetH_plain _ _ _ (by kernel_rfl)]; exact laidMet_laidAll _ (by kernel_rfl) (by kernel_rfl))) ?_
  intro W base args ds gs before hval0 hW0 hcnd _ hL0 _
  have hL : laidMet Tryd.prog Rows.charsetBackRow.laid W := by
    have : laidMetH Tryd.prog Rows.charsetBackRow.laid W := hL0
    rwa [MakeChecks.laidMetH_plain _ _ _ (by kernel_rfl)] at this
  have hval : ∀ (j : Nat) t v, Tryd.f5.params[j]? = some t → args[j]? = some v → Value.okWide Tryd.prog W .any base t v := hval0
  have hW' := hW0
  obtain ⟨p, q, hA0, hV, rfl, hfz, hnd⟩ := hW0
  have hA : DataW.TrodAll enc Tryd.prog W 0 (fun _ => true) true Tryd.f5.params.toList args.toList ds p := hA0
  rw [Tryd.params5] at hA hval
  obtain ⟨v0, vs0, d0, ds0, p0, q0, hargs, rfl, rfl, h0, r0⟩ := trodAll_cons hA
  obtain ⟨v1, vs1, d1, ds1, p1, q1, rfl, rfl, rfl, h1, r1⟩ := trodAll_cons r0
  obtain ⟨rfl, rfl, rfl⟩ := trodAll_nil r1
  obtain rfl : args = #[v0, v1] := by cases args; simp_all
  obtain ⟨rfl, rfl⟩ := trodVars_none hV
  have k0 := h0
  have lt0 : ∀ x ∈ p0, x.block < W.heap.size := by obtain ⟨m, hm⟩ := k0; exact DataW.trod_lt m _ _ _ hm
  obtain ⟨s0, rfl, _, _, hs0⟩ := open_string Tryd.underlying9 (hval 0 9 v0 rfl rfl) h0
  have k1 := h1
  have lt1 : ∀ x ∈ p1, x.block < W.heap.size := by obtain ⟨m, hm⟩ := k1; exact DataW.trod_lt m _ _ _ hm
  obtain ⟨a1, len1, cap1, rfl⟩ := okWide_slice Tryd.underlying22 (hval 1 22 v1 rfl rfl)
  obtain ⟨z1, w1⟩ : ∃ zs, IsRow .u8 W a1 len1 cap1 zs := by
    obtain ⟨fuel, hf⟩ := h1
    rcases open_ints Tryd.underlying22 Tryd.underlying5 (by kernel_rfl) hf with ⟨hcs, _⟩ | ⟨x, l, c, zs, hcs, _, hl, hm, hz, _, hcell, hwz⟩
    · simp [Value.cells] at hcs
      obtain ⟨rfl, rfl, rfl⟩ := hcs
      exact ⟨[], .inl ⟨rfl, rfl, rfl, rfl⟩⟩
    · simp [Value.cells] at hcs
      obtain ⟨rfl, rfl, rfl⟩ := hcs
      exact ⟨zs, .inr ⟨_, rfl, hl, hm, by simpa using hz, hcell, hwz⟩⟩
  clear hA0 hval0
  have h9 := t9_of hL
  have hWt := tW_of (laidMet.tail hL)
  simp only [List.append_nil] at hW'
  refine (walk s0 a1 len1 cap1 z1 W w1 h9 hWt).mono fun e W' ⟨he, bel⟩ => ?_
  subst he
  exact ⟨_, rfl, _, _, _, [], _, [], hW', trodAll_mk1 (shut_bool Tryd.underlying4 _), (trodAll_cons_mk (Below.trod laidOut (by kernel_rfl) (of_decide_eq_true (by kernel_rfl)) k0 bel lt0) (trodAll_cons_mk (Below.trod laidOut (by kernel_rfl) (of_decide_eq_true (by kernel_rfl)) k1 bel lt1) trodAll_mk0)), rfl, bel.frame _, fun h => by cases h⟩

theorem over : Rows.CharsetBackSaid :=
  OpenClaim.holds_of_wide 5 Tryd.f5 rfl rfl rfl rfl rfl rfl rfl ⟨rfl, rfl, rfl, rfl, rfl⟩ rfl rfl rfl rfl rfl (by kernel_rfl) Tryd.func5 (by kernel_rfl)
    (of_decide_eq_true (by kernel_rfl)) (by unfold Func.isWrapper; first | (rw [if_pos (by decide +kernel)]; kernel_rfl) | (rw [if_neg (by decide +kernel)]; exact ⟨rfl, rfl⟩))
    (fun os started H enc _ => lifted os started H enc)
end Go.Proofs.YtlhhbmolkiojfaaDoor.charsetBack
namespace Go.Proofs.YtlhhbmolkiojfaaDoor
theorem charsetBack_card : Rows.CharsetBackCardSaid :=
  Claim7.holds_tied_plain_at .later [] _ _ _ _ charsetBack.over (fun _ h => by cases h) (by kernel_rfl) (fun _ h => by cases h) charsetBack_row_tie rfl ⟨rfl, rfl⟩ (by kernel_rfl) rfl
    (fun f fn hf hfn => by
      obtain rfl : f = 5 := Option.some.inj ((show Tryd.prog.funcNamed Rows.charsetBackRow.func = some 5 by kernel_rfl).symm.trans hf) |>.symm
      obtain rfl : fn = Tryd.f5 := (Option.some.inj (Tryd.func5.symm.trans hfn)).symm
      exact ⟨by kernel_rfl, fun j t ht => by
        rw [Tryd.params5] at ht
        have hm : t ∈ [9, 22] := by simpa using Array.mem_of_getElem? ht
        have hall : ([9, 22].all fun u => !Tryd.prog.wantsStandIn u) = true := by kernel_rfl
        exact (show Tryd.prog.wantsStandIn t = false by simpa using List.all_eq_true.1 hall t hm)⟩)
    (by kernel_rfl)
#print axioms charsetBack_card
end Go.Proofs.YtlhhbmolkiojfaaDoor
