/-
  For every text the law BitsOnce of signs returns true, and the text reads as before: no condition.
-/
import Derived.Test.YtcoicejbbdenlaaRows
import Derived.Test.YtcoicejbbdenlaaOnceMath
import Derived.WalkKit
import Derived.ProofKit
import Derived.OpenShut
import Derived.ShutString
import Derived.ChangeOld
import Derived.Below
namespace Go.Proofs.Ytcoicejbbdenlaa.bitsOnce
open Go.ChangeShapes Go.WideShapes Go.ChangeAt Go.RowKit
open Go.ChangeMaps (open_string shut_string)
set_option linter.unusedVariables false


theorem once_code {s s' : Rs} {c i : Int} {f : Int × Int} (hk : Ok s) (hp : 0 ≤ s.p1 ∧ s.p1 ≤ i ∧ 0 ≤ s.p2 ∧ s.p2 ≤ i) (hi : 0 ≤ i) (h : takeZ s c i = .inl f) : 0 ≤ f.1 ∧ f.1 ≤ i := by
  unfold takeZ at h
  repeat' split at h
  all_goals first | (cases h; simp; omega; done) | cases h
theorem once_keep {s s' : Rs} {c i : Int} (hp : 0 ≤ s.p1 ∧ s.p1 ≤ i ∧ 0 ≤ s.p2 ∧ s.p2 ≤ i) (hi : 0 ≤ i) (h : takeZ s c i = .inr s') : 0 ≤ s'.p1 ∧ s'.p1 ≤ i ∧ 0 ≤ s'.p2 ∧ s'.p2 ≤ i := by
  unfold takeZ at h
  repeat' split at h
  all_goals first | (cases h; simp [fresh]; omega; done) | (cases h; simp [fresh]; done) | cases h
theorem scan_place : ∀ (n : Nat) (i : Int) (l : List UInt8) (s : Rs) (f : Int × Int), l.length ≤ n → Ok s → 0 ≤ i → (0 ≤ s.p1 ∧ s.p1 ≤ i ∧ 0 ≤ s.p2 ∧ s.p2 ≤ i) → scanU i l s = .inl f → 0 ≤ f.1 ∧ f.1 ≤ i + l.length ∧ (f.2 = 10 ∨ f.2 = 11 ∨ f.2 = 12)
  | n, i, [], s, f, _, _, _, _, h => by rw [scanU.eq_def] at h; cases h
  | 0, i, c :: r, s, f, hl, _, _, _, _ => by simp at hl
  | n + 1, i, c :: r, s, f, hl, hk, hi, hp, h => by
    cases hc : crlf (c :: r) with
    | true =>
      obtain ⟨r', hr⟩ := crlf_two hc
      have hr2 : r = 10 :: r' := by simp at hr; exact hr.2
      rw [hr, scan_yes] at h
      have := scan_place n (i + 2) r' s f (by rw [hr2] at hl; simp at hl; omega) hk (by omega) (by omega) h
      rw [hr2]; simp; omega
    | false =>
      rw [scan_no hc] at h
      cases ht : takeZ s (c.toNat : Int) i with
      | inl f' =>
        rw [ht] at h; cases h
        have := once_code (s' := s) hk hp hi ht
        have := fault_code ht
        simp; omega
      | inr s' =>
        rw [ht] at h
        have h1 := take_ok s s' _ i hk (by omega) (by have := c.toNat_lt; omega) ht
        have h2 := once_keep hp hi ht
        have := scan_place n (i + 1) r s' f (by simp at hl; omega) h1 (by omega) (by omega) h
        simp; omega

theorem take_byt {s s' : Rs} {c i : Int} (hb : Byt s.out) (h : takeZ s c i = .inr s') : Byt s'.out := by
  have hB : ∀ D n, Byt (s.out ++ (bytesD D).take n) := fun D n => hb.append (Byt.take (by intro x hx; simp [bytesD] at hx; omega) n)
  unfold takeZ at h
  repeat' split at h
  all_goals first | (cases h; exact hb) | (cases h; exact hB _ _) | cases h
theorem scan_byt : ∀ (n : Nat) (i : Int) (l : List UInt8) (s st : Rs), l.length ≤ n → Byt s.out → scanU i l s = .inr st → Byt st.out
  | n, i, [], s, st, _, hb, h => by
    have : s = st := by rw [scanU.eq_def] at h; simpa using h
    subst this; exact hb
  | 0, i, c :: r, s, st, hl, _, _ => by simp at hl
  | n + 1, i, c :: r, s, st, hl, hb, h => by
    cases hc : crlf (c :: r) with
    | true =>
      obtain ⟨r', hr⟩ := crlf_two hc
      have hr2 : r = 10 :: r' := by simp at hr; exact hr.2
      rw [hr, scan_yes] at h
      exact scan_byt n (i + 2) r' s st (by rw [hr2] at hl; simp at hl; omega) hb h
    | false =>
      rw [scan_no hc] at h
      cases ht : takeZ s (c.toNat : Int) i with
      | inl f' => rw [ht] at h; cases h
      | inr s' => rw [ht] at h; exact scan_byt n (i + 1) r s' st (by simp at hl; omega) (take_byt hb ht) h
theorem enc_ge : ∀ (n : Nat) (ln : Int) (l : List Int), l.length ≤ n → l.length ≤ (encW 0 ln l).length
  | n, ln, [], h => by simp
  | n, ln, [x], h => by simp [encW, fourL_len]
  | n, ln, [x, y], h => by simp [encW, fourL_len]
  | 0, ln, x :: y :: z :: r, h => by simp at h
  | n + 1, ln, x :: y :: z :: r, h => by
    have := enc_ge n (nxt 0 ln) r (by simp at h; omega)
    simp [encW, fourL_len]; omega

set_option maxHeartbeats 1000000 in
theorem walk_long (s : ByteArray) (w : World) (hs : s.size ≤ maxLen) (h : 3000 < s.size) :
    Calls Try.prog 6 #[.string s] w fun e w' => e = .returned (.bool true) ∧ Below w.heap.size w w' := by
  unfold maxLen at hs
  go_enter Try.func6, Try.ntmps6
  go_wp2_with fail
  refine (alive_any _).mono ?_
  rintro e w3 ⟨rfl, hb3⟩
  have HB : Hid (Below w.heap.size w w3) := hb3
  clear hb3
  go_wp2
  go_ret
  exact ⟨rfl, HB.out⟩

set_option maxHeartbeats 2000000 in
theorem walk_short (s : ByteArray) (w : World) (hs : s.size ≤ 3000) :
    Calls Try.prog 6 #[.string s] w fun e w' => e = .returned (.bool true) ∧ Below w.heap.size w w' := by
  have hok : Ok (fresh [] false) := by unfold Ok fresh; simp
  go_enter Try.func6, Try.ntmps6
  go_wp2_with fail
  refine (decode_any s w (by omega)).mono ?_
  rintro e w1 ⟨v1, fa, fc, rfl, hb1, hd⟩
  have HB1 : Hid (Below w.heap.size w w1) := hb1
  have hcase : (v1 = .slice none 0 0 ∧ (fc != 0) = true ∧ 0 ≤ fa ∧ fa ≤ s.size) ∨ (∃ a cap out, v1 = .slice a out.length cap ∧ fa = 0 ∧ fc = 0 ∧ out.length ≤ cap ∧ cap ≤ 30000 ∧ Row w1 a out ∧ out.length ≤ 10000 ∧ Byt out ∧ encW 0 0 out = bareU s.data.toList) := by
    rcases hd with ⟨f, h, q1, q2, q3⟩ | ⟨st, h, h', q1, q2, q3⟩ | ⟨st, a, cap, h, q1, q2, q3, q4, q5, q6, q7⟩
    · have := scan_place _ 0 s.data.toList _ f (Nat.le_refl _) hok (by omega) (by simp [fresh]) h
      refine .inl ⟨q1, by rw [bne_iff_ne]; omega, by omega, ?_⟩
      simp at this; omega
    · exact .inl ⟨q1, by rw [q3]; rfl, by omega, by omega⟩
    · have := scan_once _ 0 s.data.toList (fresh [] false) st (Nat.le_refl _) ⟨hok, .inr ⟨0, by simp [fresh]⟩, by simp [fresh], by simp [fresh]⟩ h
      have e : encW 0 0 st.out = bareU s.data.toList := by
        have := this.2
        simpa [pend, q1, fresh, encW] using this
      have hlen : st.out.length ≤ 10000 := by
        have g1 := enc_ge _ 0 st.out (Nat.le_refl _)
        rw [e] at g1
        have g2 := bare_len _ s.data.toList (Nat.le_refl _)
        simp at g2; omega
      exact .inr ⟨a, cap, st.out, q2, q3, q4, q5, q6, q7, hlen, scan_byt _ 0 s.data.toList (fresh [] false) st (Nat.le_refl _) (by intro x hx; simp [fresh] at hx) h, e⟩
  clear hb1 hd hok
  rcases hcase with ⟨rfl, h1, h2, h3⟩ | ⟨a, cap, out, rfl, rfl, rfl, h1, h2, h3, h4, h5, h6⟩
  · go_wp2_with fail
    refine (alive_any _).mono ?_
    rintro e w3 ⟨rfl, hb3⟩
    have HB : Hid (Below w.heap.size w w3) := (HB1.out.alloc HB1.out.size _).trans (hb3.mono (HB1.out.alloc HB1.out.size _).size)
    have c0 : w3.cell? ⟨w1.heap.size, 0, none⟩ = some (.int .i64 fa) := by rw [hb3.cell (by simp)]; simp
    clear hb3
    go_wp2
    go_ret
    exact ⟨rfl, HB.out⟩
  · have HR : Hid (Row w1 a out) := h3
    have HY : Hid (Byt out) := h5
    have HE : Hid (encW 0 0 out = bareU s.data.toList) := h6
    clear h3 h5 h6
    go_wp2_with fail
    refine (bare_any s _ (by omega)).mono ?_
    rintro e w2 ⟨v2, u2, rfl, hown2, hb2⟩
    obtain ⟨a2, cap2, rfl, hc2, hm2, hr2, _⟩ := own_row' hown2
    have HB2 : Hid (Below w.heap.size w w2) := (HB1.out.alloc HB1.out.size _).trans (hb2.mono (HB1.out.alloc HB1.out.size _).size)
    have HR2 : Hid (Row w2 a2 (bareU s.data.toList)) := hr2
    have HX2 : Hid (Row w2 a out) := row_below (row_below HR.out (keep _ _)) hb2
    clear hown2 hb2 hr2
    go_wp2_with fail
    refine (encode_ok a out.length cap 0 out w2 rfl HY.out h1 (by unfold maxLen; omega) h4 (by decide) (by decide) (by decide) HX2.out).mono ?_
    rintro e w3 ⟨rfl, hb3⟩
    rw [HE.out]
    have HB3 : Hid (Below w.heap.size w w3) := HB2.out.trans (hb3.mono HB2.out.size)
    have HR3 : Hid (Row w3 a2 (bareU s.data.toList)) := row_below HR2.out hb3
    clear hb3
    go_wp2_with fail
    refine (alive_any _).mono ?_
    rintro e w4 ⟨rfl, hb4⟩
    have HB4 : Hid (Below w.heap.size w w4) := HB3.out.trans (hb4.mono HB3.out.size)
    have k1 : (convert 22 9 (.slice a2 (bareU s.data.toList).length cap2)).run Try.prog w4 = .ok (.string (strOfNums (bareU s.data.toList))) w4 := conv_row _ _ rfl (row_below HR3.out hb4)
    clear hb4
    go_wp2
    go_ret
    exact ⟨rfl, HB4.out⟩

theorem walk (a0 : ByteArray) (w0 : a0.size ≤ maxLen) (w : World) :
    Calls Try.prog 6 #[.string a0] w fun e w' => e = .returned (.bool true) ∧ Below w.heap.size w w' := by
  by_cases h : 3000 < a0.size
  · exact walk_long a0 w w0 h
  · exact walk_short a0 w (by omega)

set_option maxRecDepth 100000 in
theorem lifted (os : Os) (started : os.Started) (H : Type) (enc : TypeId × Value → H) :
    ReturnsInHanded {} Try.checked os 6 .any (Rows.bitsOnceSpec.pre6 enc Try.prog Try.f6 Rows.bitsOnceRow.domain false) (Rows.bitsOnceSpec.post enc Try.prog Try.f6 false true false false) := by
  refine returnsInHanded_of_change (C := Try.checked) own started (by kernel_rfl) Try.func6
    (ChangeSpec.witness6 (enc := enc) (C := Try.checked) false ⟨#[], #[.string ByteArray.empty], []⟩ 8 (by kernel_rfl) (by kernel_rfl) (by kernel_rfl) (by kernel_rfl)) ?_
  intro W base args ds gs before hval0 hW hcnd _
  have hval : ∀ (j : Nat) t v, Try.f6.params[j]? = some t → args[j]? = some v → Value.okWide Try.prog W .any base t v := hval0
  have hW' := hW
  obtain ⟨p, q, hA0, hV, rfl, hfz, hnd⟩ := hW
  have hA : DataW.TrodAll enc Try.prog W 0 (fun _ => true) true Try.f6.params.toList args.toList ds p := hA0
  rw [Try.params6] at hA hval
  obtain ⟨v0, vs0, d0, ds0, p0, q0, hargs, rfl, rfl, h0, r0⟩ := trodAll_cons hA
  obtain ⟨rfl, rfl, rfl⟩ := trodAll_nil r0
  obtain rfl : args = #[v0] := by cases args; simp_all
  obtain ⟨rfl, rfl⟩ := trodVars_none hV
  obtain ⟨a0, rfl, rfl, rfl, w0⟩ := open_string Try.underlying9 (hval 0 9 v0 rfl rfl) h0
  clear hA0 hval0
  simp only [List.append_nil] at hW'
  refine (walk a0 w0 W).mono fun e W' ⟨he, hg⟩ => ?_
  subst he
  exact ⟨_, rfl, _, _, _, [], _, [], hW', trodAll_mk1 (shut_bool Try.underlying4 _), (trodAll_cons_mk (shut_string Try.underlying9 w0) trodAll_mk0), rfl, hg.frame _, fun h => by cases h⟩

theorem over : Rows.bitsOnceRow.holds Try.pinned (OpenSpec.ofChange Rows.bitsOnceSpec) :=
  OpenClaim.holds_of_wide 6 Try.f6 rfl rfl rfl rfl rfl rfl rfl ⟨rfl, rfl, rfl, rfl, rfl⟩ rfl rfl rfl rfl rfl (by kernel_rfl) Try.func6 (by kernel_rfl)
    (of_decide_eq_true (by kernel_rfl)) (by unfold Func.isWrapper; first | (rw [if_pos (by decide +kernel)]; kernel_rfl) | (rw [if_neg (by decide +kernel)]; exact ⟨rfl, rfl⟩))
    (fun os started H enc _ => lifted os started H enc)


end Go.Proofs.Ytcoicejbbdenlaa.bitsOnce
namespace Go.Proofs.Ytcoicejbbdenlaa
theorem bitsOnce_holds : Rows.BitsOnceSaid := bitsOnce.over
#print axioms bitsOnce_holds
end Go.Proofs.Ytcoicejbbdenlaa
