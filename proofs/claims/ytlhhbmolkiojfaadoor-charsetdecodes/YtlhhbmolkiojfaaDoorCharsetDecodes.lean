/-
  CharsetDecodes: which sets are known, and the text that bytes of one are, is told as the document says. The tables of the package are as the program lays them (the card ties them).
-/
import Derived.Test.YtlhhbmolkiojfaaDoorCards
import Derived.Test.YtlhhbmolkiojfaaDoorTie
import Derived.Test.YtlhhbmolkiojfaaDoorDb
import Derived.WalkKit
import Derived.ProofKit
import Derived.OpenShut
import Derived.ShutString
import Derived.ChangeOld
import Derived.Below
import Derived.LaidMore
import Derived.Lay
import Derived.SevenTiedAt
import Derived.Stop.Joined
namespace Go.Proofs.YtlhhbmolkiojfaaDoor.charsetDecodes
open Go.ChangeShapes Go.WideShapes Go.ChangeAt Go.RowKit
open Go.ChangeMaps (open_string shut_string)
set_option linter.unusedVariables false

set_option maxRecDepth 100000 in
set_option maxHeartbeats 8000000 in
theorem walk_long1 (s : ByteArray) (a : Option Addr) (len cap : Nat) (w : World) (h : 100 < s.size) (h9 : T9 w) (hW : TW w) :
    Calls Tryd.prog 3 #[.string s, .slice a len cap] w fun e w' => e = .returned (.bool true) ∧ Below w.heap.size w w' := by
  have K := alive_any w h9 hW
  go_enter Tryd.func3, Tryd.ntmps3
  go_wp2_with (go_at_call 9; refine K.mono ?_; rintro e w' ⟨rfl, hb⟩)
  go_ret
  exact ⟨rfl, hb⟩
set_option maxRecDepth 100000 in
set_option maxHeartbeats 8000000 in
theorem walk_long2 (s : ByteArray) (a : Option Addr) (len cap : Nat) (w : World) (h : s.size ≤ 100) (h2 : 2000 < len) (h9 : T9 w) (hW : TW w) :
    Calls Tryd.prog 3 #[.string s, .slice a len cap] w fun e w' => e = .returned (.bool true) ∧ Below w.heap.size w w' := by
  have K := alive_any w h9 hW
  go_enter Tryd.func3, Tryd.ntmps3
  go_wp2_with (go_at_call 9; refine K.mono ?_; rintro e w' ⟨rfl, hb⟩)
  go_ret
  exact ⟨rfl, hb⟩
set_option maxRecDepth 100000 in
set_option maxHeartbeats 8000000 in
theorem walk_yes (s : ByteArray) (a : Option Addr) (cap : Nat) (l : List Int) (w : World) (h : s.size ≤ 100) (h2 : l.length ≤ 2000) (hl : Byt l) (hcap : l.length ≤ cap) (hm : cap ≤ maxLen) (hrow : Row w a l) (h9 : T9 w) (hW : TW w) (X : List Int) (x : ByteArray) (hx1 : (x.toList == []) = false)
    (KD : Calls Tryd.prog 10 #[.string s, .slice a l.length cap] w fun e w' => ∃ v, e = .returned (.tuple #[v, .agg #[.int .i64 0, .int .i64 0]]) ∧ Own w' w.heap.size v X ∧ Below w.heap.size w w')
    (KR : ∀ W, Below w.heap.size w W → Calls Tryd.prog 11 #[.string s, .slice a l.length cap] W fun e w' => ∃ v, e = .returned (.tuple #[v, .agg #[.int .i64 0, .int .i64 0]]) ∧ Own w' W.heap.size v X ∧ Below W.heap.size W w')
    (KN : ∀ W : World, Calls Tryd.prog 12 #[.string s] W fun e w' => e = .returned (.bool true) ∧ Below W.heap.size W w')
    (KS : ∀ W : World, Calls Tryd.prog 13 #[.string s] W fun e w' => e = .returned (.string x) ∧ Below W.heap.size W w') :
    Calls Tryd.prog 3 #[.string s, .slice a l.length cap] w fun e w' => e = .returned (.bool true) ∧ Below w.heap.size w w' := by
  have K : ∀ W : World, Below w.heap.size w W → Calls Tryd.prog 9 #[] W fun e w' => e = .returned (.bool true) ∧ Below W.heap.size W w' := fun W hb => alive_any W (h9.below hb) (hW.below hb)
  obtain ⟨len, hlen⟩ : ∃ len, l.length = len := ⟨_, rfl⟩
  rw [hlen] at h2 hcap KD KR ⊢
  have hx2 : (x.toList != []) = true := by rw [bne, hx1]; rfl
  have hkk : (true == true) = true := by simp
  clear hrow hlen h9 hW
  go_enter Tryd.func3, Tryd.ntmps3
  go_wp2_with fail
  refine KD.mono ?_
  rintro e w1 ⟨v1, rfl, hown1, hb1⟩
  obtain ⟨a1, cap1, rfl, hc1, hm1, hrow1, hn1⟩ := own_row' hown1
  have B1 := hb1.alloc hb1.size (.cells #[.int .i64 0, .int .i64 0] 26)
  go_wp2_with fail
  refine (KR _ B1).mono ?_
  rintro e w2 ⟨v2, rfl, hown2, hb2⟩
  obtain ⟨a2, cap2, rfl, hc2, hm2, hrow2, hn2⟩ := own_row' hown2
  have B2 := B1.trans (hb2.mono B1.size)
  have B2' := B2.alloc B2.size (.cells #[.int .i64 0, .int .i64 0] 26)
  have hs2 : w1.heap.size + 1 ≤ w2.heap.size := by have := hb2.size; simpa using this
  go_wp2_with fail
  refine (K _ B2').mono ?_
  rintro e w3 ⟨rfl, hb3⟩
  have B3 := B2'.trans (hb3.mono B2'.size)
  go_wp2_with fail
  refine (KN _).mono ?_
  rintro e w4 ⟨rfl, hb4⟩
  go_wp2_with fail
  refine (KS _).mono ?_
  rintro e w5 ⟨rfl, hb5⟩
  have hs3 : w2.heap.size + 1 ≤ w3.heap.size := by have := hb3.size; simpa using this
  have hs4 := hb4.size
  have B35 : Below w3.heap.size w3 w5 := hb4.trans (hb5.mono hs4)
  have HB : Hid (Below w.heap.size w w5) := B3.trans (B35.mono B3.size)
  have a0 : w5.cell? ⟨w1.heap.size, 0, none⟩ = some (.int .i64 0) := by
    rw [B35.cell (by simp; omega), hb3.cell (by simp; omega), (keep w2 _).cell (by simp; omega), hb2.cell (by simp)]; simp
  have a1' : w5.cell? ⟨w1.heap.size, 1, none⟩ = some (.int .i64 0) := by
    rw [B35.cell (by simp; omega), hb3.cell (by simp; omega), (keep w2 _).cell (by simp; omega), hb2.cell (by simp)]; simp
  have b0 : w5.cell? ⟨w2.heap.size, 0, none⟩ = some (.int .i64 0) := by
    rw [B35.cell (by simp; omega), hb3.cell (by simp)]; simp
  have b1' : w5.cell? ⟨w2.heap.size, 1, none⟩ = some (.int .i64 0) := by
    rw [B35.cell (by simp; omega), hb3.cell (by simp)]; simp
  have R1 := row_below (row_below (row_below (row_below (row_below (row_k hrow1) (keep w1 (.cells #[.int .i64 0, .int .i64 0] 26))) hb2) (keep w2 (.cells #[.int .i64 0, .int .i64 0] 26))) hb3) B35
  have R2 := row_below (row_below (row_below (row_k hrow2) (keep w2 (.cells #[.int .i64 0, .int .i64 0] 26))) hb3) B35
  have k1 := conv_row X.length cap1 rfl R1
  have k2 := conv_row X.length cap2 rfl R2
  clear R1 R2 hown1 hown2 hrow1 hrow2
  clear hb1 hb2 hb3 hb4 hb5 B1 B2 B2' B3 B35 KD KR KN KS K
  go_wp2
  go_ret
  exact ⟨rfl, HB.out⟩
set_option maxRecDepth 100000 in
set_option maxHeartbeats 8000000 in
theorem walk_bad (s : ByteArray) (a : Option Addr) (cap : Nat) (l : List Int) (w : World) (h : s.size ≤ 100) (h2 : l.length ≤ 2000) (hl : Byt l) (hcap : l.length ≤ cap) (hm : cap ≤ maxLen) (hrow : Row w a l) (h9 : T9 w) (hW : TW w) (n c : Int) (kn : Bool) (x : ByteArray) (hx1 : (x.toList == []) = !kn)
    (KD : Calls Tryd.prog 10 #[.string s, .slice a l.length cap] w fun e w' => e = .returned (.tuple #[.slice none 0 0, .agg #[.int .i64 n, .int .i64 c]]) ∧ Below w.heap.size w w')
    (KR : ∀ W, Below w.heap.size w W → Calls Tryd.prog 11 #[.string s, .slice a l.length cap] W fun e w' => e = .returned (.tuple #[.slice none 0 0, .agg #[.int .i64 n, .int .i64 c]]) ∧ Below W.heap.size W w')
    (KN : ∀ W : World, Calls Tryd.prog 12 #[.string s] W fun e w' => e = .returned (.bool kn) ∧ Below W.heap.size W w')
    (KS : ∀ W : World, Calls Tryd.prog 13 #[.string s] W fun e w' => e = .returned (.string x) ∧ Below W.heap.size W w') :
    Calls Tryd.prog 3 #[.string s, .slice a l.length cap] w fun e w' => e = .returned (.bool true) ∧ Below w.heap.size w w' := by
  have K : ∀ W : World, Below w.heap.size w W → Calls Tryd.prog 9 #[] W fun e w' => e = .returned (.bool true) ∧ Below W.heap.size W w' := fun W hb => alive_any W (h9.below hb) (hW.below hb)
  obtain ⟨len, hlen⟩ : ∃ len, l.length = len := ⟨_, rfl⟩
  rw [hlen] at h2 hcap KD KR ⊢
  have hx2 : (x.toList != []) = kn := by rw [bne, hx1]; simp
  have hkk : (kn == kn) = true := by simp
  clear hrow hlen h9 hW
  go_enter Tryd.func3, Tryd.ntmps3
  go_wp2_with fail
  refine KD.mono ?_
  rintro e w1 ⟨rfl, hb1⟩
  have B1 := hb1.alloc hb1.size (.cells #[.int .i64 n, .int .i64 c] 26)
  go_wp2_with fail
  refine (KR _ B1).mono ?_
  rintro e w2 ⟨rfl, hb2⟩
  have B2 := B1.trans (hb2.mono B1.size)
  have B2' := B2.alloc B2.size (.cells #[.int .i64 n, .int .i64 c] 26)
  have hs2 : w1.heap.size + 1 ≤ w2.heap.size := by have := hb2.size; simpa using this
  go_wp2_with fail
  refine (K _ B2').mono ?_
  rintro e w3 ⟨rfl, hb3⟩
  have B3 := B2'.trans (hb3.mono B2'.size)
  go_wp2_with fail
  refine (KN _).mono ?_
  rintro e w4 ⟨rfl, hb4⟩
  go_wp2_with fail
  refine (KS _).mono ?_
  rintro e w5 ⟨rfl, hb5⟩
  have hs3 : w2.heap.size + 1 ≤ w3.heap.size := by have := hb3.size; simpa using this
  have hs4 := hb4.size
  have B35 : Below w3.heap.size w3 w5 := hb4.trans (hb5.mono hs4)
  have HB : Hid (Below w.heap.size w w5) := B3.trans (B35.mono B3.size)
  have a0 : w5.cell? ⟨w1.heap.size, 0, none⟩ = some (.int .i64 n) := by
    rw [B35.cell (by simp; omega), hb3.cell (by simp; omega), (keep w2 _).cell (by simp; omega), hb2.cell (by simp)]; simp
  have a1' : w5.cell? ⟨w1.heap.size, 1, none⟩ = some (.int .i64 c) := by
    rw [B35.cell (by simp; omega), hb3.cell (by simp; omega), (keep w2 _).cell (by simp; omega), hb2.cell (by simp)]; simp
  have b0 : w5.cell? ⟨w2.heap.size, 0, none⟩ = some (.int .i64 n) := by
    rw [B35.cell (by simp; omega), hb3.cell (by simp)]; simp
  have b1' : w5.cell? ⟨w2.heap.size, 1, none⟩ = some (.int .i64 c) := by
    rw [B35.cell (by simp; omega), hb3.cell (by simp)]; simp
  have k1 := conv_row 0 0 rfl (.inl rfl : Row w5 none [])
  clear hb1 hb2 hb3 hb4 hb5 B1 B2 B2' B3 B35 KD KR KN KS K
  go_wp2
  go_ret
  exact ⟨rfl, HB.out⟩
theorem walk (s : ByteArray) (a : Option Addr) (len cap : Nat) (z : List Int) (w : World) (hz : IsRow .u8 w a len cap z) (h9 : T9 w) (hW : TW w) :
    Calls Tryd.prog 3 #[.string s, .slice a len cap] w fun e w' => e = .returned (.bool true) ∧ Below w.heap.size w w' := by
  obtain ⟨l, hlen, hcap, hm, hl, hrow⟩ := byte_view hz
  subst hlen
  rcases Nat.lt_or_ge 100 s.size with h_s | h_s
  · exact walk_long1 s a _ cap w h_s h9 hW
  rcases Nat.lt_or_ge 2000 l.length with h2 | h2
  · exact walk_long2 s a _ cap w h_s h2 h9 hW
  have hr8 := setB_range (lowS s)
  have KS := fun W : World => rset_any s W (by omega)
  have KN := fun W : World => known_any s W (by omega)
  by_cases h0 : setB (lowS s) = 0
  · rw [h0] at KS KN
    exact walk_bad s a cap l w h_s h2 hl hcap hm hrow h9 hW 0 143 false (nmS 0) (by rw [nmS0, show (⟨#[]⟩ : ByteArray) = strOfNums [] from rfl, toList_str]; rfl) (decode_unknown s a l.length cap w (by omega) h0) (fun W _ => rdecode_unknown s a l.length cap W (by omega) h0) (fun W => KN W) KS
  · have KN1 : ∀ W : World, Calls Tryd.prog 12 #[.string s] W fun e w' => e = .returned (.bool true) ∧ Below W.heap.size W w' := fun W => by
      have := KN W
      rw [show (!decide (setB (lowS s) = 0)) = true by simp [h0]] at this
      exact this
    have hnz := nm_some (q := setB (lowS s)) (by omega) (by omega)
    obtain ⟨t, k0, h⟩ : ∃ t k0, ordZ (setB (lowS s)) l = (t, k0) := ⟨_, _, rfl⟩
    have hok : SetOk t := by have := ord_set (s := setB (lowS s)) (by omega) (by omega) l; rw [h] at this; exact this
    have hk0 : k0 ≤ l.length := by have := ord_le (setB (lowS s)) l; rw [h] at this; exact this
    obtain ⟨ps, r, hA, hd, hzz⟩ := splitS_ex hok (l.drop k0) (hl.drop k0)
    have KP : ∀ W, Below w.heap.size w W → PtsC W (.string (nmS (setB (lowS s)))) a l.length cap t k0 ps r 23 := fun W hb => rpts_any _ t k0 a l.length cap l ps r W (by omega) (by omega) h hd hA hzz rfl hl hcap hm (by omega) (row_below hrow hb)
    have hpl : ps.length ≤ 4000 := by
      have h3 := flatS_ge hA
      have h4 := congrArg List.length hd
      rw [List.length_drop, List.length_append] at h4
      omega
    by_cases hne : r = []
    · subst hne
      have hd' := hd
      rw [List.append_nil] at hd'
      exact walk_yes s a cap l w h_s h2 hl hcap hm hrow h9 hW (Ut.flat ps) _ hnz (decode_yes s a l.length cap l ps w t k0 (by omega) h0 h rfl hl hA hd' hcap hm (by omega) hrow h9 hW) (fun W hb => rdecode_yes s a l.length cap ps W (by omega) h0 hA.pts hpl (by omega) (fun W2 hb2 => (KP W2 (hb.trans (hb2.mono hb.size))).1 rfl)) KN1 KS
    · exact walk_bad s a cap l w h_s h2 hl hcap hm hrow h9 hW _ 20 true _ hnz (decode_no s a l.length cap l ps r w t k0 (by omega) h0 h rfl hl hA hd hne hzz hcap hm (by omega) hrow h9 hW) (fun W hb => rdecode_no s a l.length cap _ W (by omega) h0 (by omega) (fun W2 hb2 => (KP W2 (hb.trans (hb2.mono hb.size))).2 hne)) KN1 KS

set_option maxRecDepth 100000 in
theorem lifted (os : Os) (started : os.Started) (H : Type) (enc : TypeId × Value → H) :
    ReturnsInHanded {} Tryd.checked os 3 .any (fun w args => (Rows.charsetDecodesSpec.pre enc Tryd.prog Tryd.f3 Rows.charsetDecodesRow.domain false w args ∧ laidMetH Tryd.prog Rows.charsetDecodesRow.laid w) ∧ sizedMet enc Tryd.prog Tryd.f3 (OpenSpec.ofChange Rows.charsetDecodesSpec) false w args)
      (Rows.charsetDecodesSpec.post enc Tryd.prog Tryd.f3 false true false false) := by
  refine returnsInHanded_of_change_and (C := Tryd.checked) (X := fun w _ => laidMetH Tryd.prog Rows.charsetDecodesRow.laid w) (fun _ _ _ hh h => h.of_heap hh) own started (by kernel_rfl) Tryd.func3
    (ChangeSpec.witness_shaped (enc := enc) (C := Tryd.checked) (os := os) (X := fun w _ => laidMetH Tryd.prog Rows.charsetDecodesRow.laid w) false (World.laidAll Tryd.prog os Rows.charsetDecodesRow.laid) #[.string ⟨#[]⟩, .slice none 0 0] 8 (World.laidAll_os _ _ _)
      (World.shaped_of_ZipB (by kernel_rfl) (by kernel_rfl)) (by kernel_rfl) (by kernel_rfl) (by kernel_rfl)
      (by rw [MakeChecks.laidMetH_plain _ _ _ (by kernel_rfl)]; exact laidMet_laidAll _ (by kernel_rfl) (by kernel_rfl))) ?_
  intro W base args ds gs before hval0 hW0 hcnd _ hL0 _
  have hL : laidMet Tryd.prog Rows.charsetDecodesRow.laid W := by
    have : laidMetH Tryd.prog Rows.charsetDecodesRow.laid W := hL0
    rwa [MakeChecks.laidMetH_plain _ _ _ (by kernel_rfl)] at this
  have hval : ∀ (j : Nat) t v, Tryd.f3.params[j]? = some t → args[j]? = some v → Value.okWide Tryd.prog W .any base t v := hval0
  have hW' := hW0
  obtain ⟨p, q, hA0, hV, rfl, hfz, hnd⟩ := hW0
  have hA : DataW.TrodAll enc Tryd.prog W 0 (fun _ => true) true Tryd.f3.params.toList args.toList ds p := hA0
  rw [Tryd.params3] at hA hval
  obtain ⟨v0, vs0, d0, ds0, p0, q0, hargs, rfl, rfl, h0, r0⟩ := trodAll_cons hA
  obtain ⟨v1, vs1, d1, ds1, p1, q1, rfl, rfl, rfl, h1, r1⟩ := trodAll_cons r0
  obtain ⟨rfl, rfl, rfl⟩ := trodAll_nil r1
  obtain rfl : args = #[v0, v1] := by cases args; simp_all
  obtain ⟨rfl, rfl⟩ := trodVars_none hV
  have k0 := h0
  have lt0 : ∀ x ∈ p0, x.block < W.heap.size := by obtain ⟨m, hm⟩ := k0; exact DataW.trod_lt m _ _ _ hm
  obtain ⟨s0, rfl, _, _, hs0⟩ := open_string Tryd.underlying9 (hval 0 9 v0 rfl rfl) h0
  have k1 := h1
  have lt1 : ∀ x ∈ p1, x.block < W.heap.size := by obtain ⟨m, hm⟩ := k1; exact DataW.trod_lt m _ _ _ hm
  obtain ⟨a1, len1, cap1, rfl⟩ := okWide_slice Tryd.underlying22 (hval 1 22 v1 rfl rfl)
  obtain ⟨z1, w1⟩ : ∃ zs, IsRow .u8 W a1 len1 cap1 zs := by
    obtain ⟨fuel, hf⟩ := h1
    rcases open_ints Tryd.underlying22 Tryd.underlying5 (by kernel_rfl) hf with ⟨hcs, _⟩ | ⟨x, l, c, zs, hcs, _, hl, hm, hz, _, hcell, hwz⟩
    · simp [Value.cells] at hcs
      obtain ⟨rfl, rfl, rfl⟩ := hcs
      exact ⟨[], .inl ⟨rfl, rfl, rfl, rfl⟩⟩
    · simp [Value.cells] at hcs
      obtain ⟨rfl, rfl, rfl⟩ := hcs
      exact ⟨zs, .inr ⟨_, rfl, hl, hm, by simpa using hz, hcell, hwz⟩⟩
  clear hA0 hval0
  have h9 := t9_of hL
  have hWt := tW_of (laidMet.tail hL)
  simp only [List.append_nil] at hW'
  refine (walk s0 a1 len1 cap1 z1 W w1 h9 hWt).mono fun e W' ⟨he, bel⟩ => ?_
  subst he
  exact ⟨_, rfl, _, _, _, [], _, [], hW', trodAll_mk1 (shut_bool Tryd.underlying4 _), (trodAll_cons_mk (Below.trod laidOut (by kernel_rfl) (of_decide_eq_true (by kernel_rfl)) k0 bel lt0) (trodAll_cons_mk (Below.trod laidOut (by kernel_rfl) (of_decide_eq_true (by kernel_rfl)) k1 bel lt1) trodAll_mk0)), rfl, bel.frame _, fun h => by cases h⟩

theorem over : Rows.CharsetDecodesSaid :=
  OpenClaim.holds_of_wide 3 Tryd.f3 rfl rfl rfl rfl rfl rfl rfl ⟨rfl, rfl, rfl, rfl, rfl⟩ rfl rfl rfl rfl rfl (by kernel_rfl) Tryd.func3 (by kernel_rfl)
    (of_decide_eq_true (by kernel_rfl)) (by unfold Func.isWrapper; first | (rw [if_pos (by decide +kernel)]; kernel_rfl) | (rw [if_neg (by decide +kernel)]; exact ⟨rfl, rfl⟩))
    (fun os started H enc _ => lifted os started H enc)
end Go.Proofs.YtlhhbmolkiojfaaDoor.charsetDecodes
namespace Go.Proofs.YtlhhbmolkiojfaaDoor
theorem charsetDecodes_card : Rows.CharsetDecodesCardSaid :=
  Claim7.holds_tied_plain_at .later [] _ _ _ _ charsetDecodes.over (fun _ h => by cases h) (by kernel_rfl) (fun _ h => by cases h) charsetDecodes_row_tie rfl ⟨rfl, rfl⟩ (by kernel_rfl) rfl
    (fun f fn hf hfn => by
      obtain rfl : f = 3 := Option.some.inj ((show Tryd.prog.funcNamed Rows.charsetDecodesRow.func = some 3 by kernel_rfl).symm.trans hf) |>.symm
      obtain rfl : fn = Tryd.f3 := (Option.some.inj (Tryd.func3.symm.trans hfn)).symm
      exact ⟨by kernel_rfl, fun j t ht => by
        rw [Tryd.params3] at ht
        have hm : t ∈ [9, 22] := by simpa using Array.mem_of_getElem? ht
        have hall : ([9, 22].all fun u => !Tryd.prog.wantsStandIn u) = true := by kernel_rfl
        exact (show Tryd.prog.wantsStandIn t = false by simpa using List.all_eq_true.1 hall t hm)⟩)
    (by kernel_rfl)
#print axioms charsetDecodes_card
end Go.Proofs.YtlhhbmolkiojfaaDoor
