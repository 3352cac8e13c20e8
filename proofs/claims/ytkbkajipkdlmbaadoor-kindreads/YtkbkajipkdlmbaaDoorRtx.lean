/-
  The reference's text and a place in it: blanks, is, token and value.
-/
import Derived.Test.YtkbkajipkdlmbaaDoorRright
namespace Go.Proofs.YtkbkajipkdlmbaaDoor
open Go.RowKit
set_option linter.unusedVariables false

/-- A text and a place in it lie in block g. -/
def Ts (w : World) (g : Nat) (s : ByteArray) (k : Nat) : Prop := w.heap[g]? = some (.cells #[.string s, .int .i64 k] 51 (0, 0))
theorem Ts.lt {w : World} {g : Nat} {s : ByteArray} {k : Nat} (h : Ts w g s k) : g < w.heap.size := (Array.getElem?_eq_some_iff.1 h).1
theorem Ts.c0 {w : World} {g : Nat} {s : ByteArray} {k : Nat} (h : Ts w g s k) : w.cell? ⟨g, 0, none⟩ = some (.string s) := by rw [cell_of_row w _ _ _ _ _ h]; rfl
theorem Ts.c1 {w : World} {g : Nat} {s : ByteArray} {k : Nat} (h : Ts w g s k) : w.cell? ⟨g, 1, none⟩ = some (.int .i64 k) := by rw [cell_of_row w _ _ _ _ _ h]; rfl
theorem Ts.frozen {w : World} {g : Nat} {s : ByteArray} {k : Nat} (h : Ts w g s k) (i : Nat) : w.frozen? ⟨g, i, none⟩ = false := frozen_of_row w _ _ _ _ h
theorem Ts.set {w : World} {g : Nat} {s : ByteArray} {k : Nat} (h : Ts w g s k) (m : Nat) : Ts (w.setCell ⟨g, 1, none⟩ (.int .i64 m)) g s m := heap_setCell_same _ _ 1 _ 51 _ h
theorem Ts.below {w w' : World} {g : Nat} {s : ByteArray} {k : Nat} (h : Ts w g s k) (hb : Below w.heap.size w w') : Ts w' g s k := (hb.block g h.lt).trans h
theorem Kx.drew {g : Nat} {w w' : World} (h : Kx g w w') (n : Nat) : Kx g w (w'.drewN n) := ⟨below_drewN h.1 n, h.2⟩
/-- Where is the place in block g? -/
def placeOf (w : World) (g : Nat) : Nat :=
  match w.cell? ⟨g, 1, none⟩ with
  | some (.int .i64 k) => k.toNat
  | _ => 0
theorem placeOf_of {w : World} {g : Nat} {s : ByteArray} {k : Nat} (h : Ts w g s k) : placeOf w g = k := by unfold placeOf; rw [h.c1]; simp
set_option maxHeartbeats 4000000 in
theorem tis_any (g : Nat) (c : Int) (s : ByteArray) (k : Nat) (w : World) (h : Ts w g s k) (hk : k ≤ s.size) (hs : s.size ≤ 1000000) :
    Calls Tryd.prog 29 #[.pointer (some ⟨g, 0, none⟩), .int .u8 c] w fun e w' => e = .returned (.bool (signB c ((nums s).drop k))) ∧ ∃ m, m ≤ s.size ∧ Ts w' g s m ∧ (nums s).drop m = signR c ((nums s).drop k) ∧ Kx g w w' := by
  have HT : Hid (Ts w g s k) := h
  have x0 := h.c0
  have x1 := h.c1
  have f1 := h.frozen 1
  clear h
  by_cases hlt : k < s.size
  · have hd : decide ((k : Int) < (s.size : Int)) = true := by simp; omega
    have k0 : (0 : Int) ≤ (k : Int) := by omega
    have k1 : (k : Int) < (s.size : Int) := by omega
    have HD : Hid ((nums s).drop k = (s[k].toNat : Int) :: (nums s).drop (k + 1)) := nums_drop s k hlt
    obtain ⟨d, hdd⟩ : ∃ d : Int, ((s[k]'hlt).toNat : Int) = d := ⟨_, rfl⟩
    rw [hdd] at HD
    by_cases hq : d = c
    · have hb : (d == c) = true := by simp [hq]
      have HS : Hid (signB c ((nums s).drop k) = true ∧ signR c ((nums s).drop k) = (nums s).drop (k + 1)) := by
        have e : signB c ((nums s).drop k) = true := by rw [HD.out]; simp [signB, hq]
        refine ⟨e, ?_⟩
        rw [signR, if_pos e, HD.out]; rfl
      clear hq
      go_enter Tryd.func29, Tryd.ntmps29
      go_wp2
      go_quiet (fail)
      go_wp2
      go_ret
      rw [HS.out.1]
      exact ⟨rfl, k + 1, by omega, by simpa using (show Ts (w.drewN nq) g s k from HT.out).set (k + 1), HS.out.2.symm, ((Kx.refl g w).drew nq).trans (Kx.set _ _ _)⟩
    · have hb : (d == c) = false := by simp [hq]
      have HS : Hid (signB c ((nums s).drop k) = false ∧ signR c ((nums s).drop k) = (nums s).drop k) := by
        have e : signB c ((nums s).drop k) = false := by rw [HD.out]; simp [signB, hq]
        refine ⟨e, ?_⟩
        rw [signR, if_neg (by rw [e]; simp)]
      clear hq
      go_enter Tryd.func29, Tryd.ntmps29
      go_wp2
      go_quiet (fail)
      go_wp2
      go_ret
      rw [HS.out.1]
      exact ⟨rfl, k, by omega, HT.out, HS.out.2.symm, (Kx.refl g w).drew nq⟩
  · have hd : decide ((k : Int) < (s.size : Int)) = false := by simp; omega
    have HN : Hid ((nums s).drop k = []) := List.drop_of_length_le (by rw [nums_len]; omega)
    go_enter Tryd.func29, Tryd.ntmps29
    go_wp2
    go_quiet (fail)
    go_wp2
    go_ret
    rw [HN.out]
    exact ⟨rfl, k, by omega, HT.out, by rw [HN.out]; rfl, (Kx.refl g w).drew nq⟩
set_option maxHeartbeats 4000000 in
theorem tblanks_any (g : Nat) (s : ByteArray) (k : Nat) (w : World) (h : Ts w g s k) (hk : k ≤ s.size) (hs : s.size ≤ 1000000) :
    Calls Tryd.prog 27 #[.pointer (some ⟨g, 0, none⟩)] w fun e w' => e = .returned (.tuple #[]) ∧ ∃ m, m ≤ s.size ∧ Ts w' g s m ∧ (nums s).drop m = trimQ ((nums s).drop k) ∧ Kx g w w' := by
  have HT : Hid (Ts w g s k) := h
  clear h
  go_enter Tryd.func27, Tryd.ntmps27
  go_wp2
  go_loopw [2] (fun _ wr => ∃ m : Nat, m ≤ s.size ∧ Ts wr g s m ∧ trimQ ((nums s).drop m) = trimQ ((nums s).drop k) ∧ Kx g w wr) (fun _ wr => s.size - placeOf wr g)
  case atStart => exact ⟨k, hk, HT.out, rfl, Kx.refl _ _⟩
  case round =>
    obtain ⟨m, hm, ht, hq, hkx⟩ := hrel
    have HTM : Hid (Ts wr g s m) := ht
    have HQ : Hid (trimQ ((nums s).drop m) = trimQ ((nums s).drop k)) := hq
    have HK : Hid (Kx g w wr) := hkx
    have HP : Hid (placeOf wr g = m) := placeOf_of ht
    have x0 := ht.c0
    have x1 := ht.c1
    have f1 := ht.frozen 1
    clear ht hq hkx
    by_cases hlt : m < s.size
    · have hd : decide ((m : Int) < (s.size : Int)) = true := by simp; omega
      have k0 : (0 : Int) ≤ (m : Int) := by omega
      have k1 : (m : Int) < (s.size : Int) := by omega
      have HD : Hid ((nums s).drop m = (s[m].toNat : Int) :: (nums s).drop (m + 1)) := nums_drop s m hlt
      obtain ⟨d, hdd⟩ : ∃ d : Int, ((s[m]'hlt).toNat : Int) = d := ⟨_, rfl⟩
      rw [hdd] at HD
      have HE : Hid (∀ q, Ts ((wr.drewN q).setCell ⟨g, 1, none⟩ (.int .i64 ((m : Int) + 1))) g s (m + 1)) := fun q => by
        have := (show Ts (wr.drewN q) g s m from HTM.out).set (m + 1)
        simpa using this
      by_cases h32 : d = 32
      · subst h32
        have HR : Hid (trimQ ((nums s).drop (m + 1)) = trimQ ((nums s).drop k)) := by
          unfold Hid; rw [← HQ.out, HD.out, trimQ, if_pos (.inl rfl)]
        go_wp2
        go_quiet (fail)
        go_wp2
        go_roundw
        case rel => exact ⟨m + 1, by omega, HE.out nq, HR.out, (HK.out.drew nq).trans (Kx.set _ _ _)⟩
        case measure => rw [placeOf_of (HE.out nq), HP.out]; omega
      · have hb32 : (d == 32) = false := by rw [beq_eq_false_iff_ne]; exact h32
        by_cases h9 : d = 9
        · subst h9
          have HR : Hid (trimQ ((nums s).drop (m + 1)) = trimQ ((nums s).drop k)) := by
            unfold Hid; rw [← HQ.out, HD.out, trimQ, if_pos (.inr rfl)]
          go_wp2
          go_quiet (fail)
          go_wp2
          go_roundw
          case rel => exact ⟨m + 1, by omega, HE.out nq, HR.out, (HK.out.drew nq).trans (Kx.set _ _ _)⟩
          case measure => rw [placeOf_of (HE.out nq), HP.out]; omega
        · have hb9 : (d == 9) = false := by rw [beq_eq_false_iff_ne]; exact h9
          have HR : Hid ((nums s).drop m = trimQ ((nums s).drop k)) := by
            unfold Hid; rw [← HQ.out, HD.out, trim_cons h32 h9]
          go_wp2
          go_quiet (fail)
          go_wp2
          go_end0
          exact ⟨rfl, m, hm, HTM.out, HR.out, HK.out.drew nq⟩
    · have hd : decide ((m : Int) < (s.size : Int)) = false := by simp; omega
      have HR : Hid ((nums s).drop m = trimQ ((nums s).drop k)) := by
        unfold Hid; rw [← HQ.out, List.drop_of_length_le (by rw [nums_len]; omega)]; rfl
      go_wp2
      go_quiet (fail)
      go_wp2
      go_end0
      exact ⟨rfl, m, hm, HTM.out, HR.out, HK.out.drew nq⟩
theorem tok_split {l : List Int} {k m : Nat} (hkm : k ≤ m) (ha : ((l.drop k).take (m - k)).all tokC = true) (hs : Stop (l.drop m)) : (l.drop k).takeWhile tokC = (l.drop k).take (m - k) ∧ (l.drop k).dropWhile tokC = l.drop m := by
  have e : l.drop k = (l.drop k).take (m - k) ++ l.drop m := by
    conv => lhs; rw [← List.take_append_drop (m - k) (l.drop k)]
    rw [List.drop_drop, Nat.add_sub_cancel' hkm]
  have h := take_tok ha hs
  rw [← e] at h
  exact h
set_option maxHeartbeats 8000000 in
set_option maxRecDepth 100000 in
theorem ttoken_any (g : Nat) (s : ByteArray) (k : Nat) (w : World) (h : Ts w g s k) (hk : k ≤ s.size) (hs : s.size ≤ 1000000) :
    Calls Tryd.prog 28 #[.pointer (some ⟨g, 0, none⟩)] w fun e w' => ∃ x m, e = .returned (.string x) ∧ nums x = ((nums s).drop k).takeWhile tokC ∧ m ≤ s.size ∧ Ts w' g s m ∧ (nums s).drop m = ((nums s).drop k).dropWhile tokC ∧ Kx g w w' := by
  have HT : Hid (Ts w g s k) := h
  have x1 := h.c1
  clear h
  go_enter Tryd.func28, Tryd.ntmps28
  go_wp2
  clear x1
  go_loopw [8] (fun _ wr => ∃ m : Nat, k ≤ m ∧ m ≤ s.size ∧ Ts wr g s m ∧ (((nums s).drop k).take (m - k)).all tokC = true ∧ Kx g w wr) (fun _ wr => s.size - placeOf wr g)
  case atStart => exact ⟨k, Nat.le_refl _, hk, HT.out, by simp, Kx.refl _ _⟩
  case round =>
    obtain ⟨m, hkm, hm, ht, ha, hkx⟩ := hrel
    have HTM : Hid (Ts wr g s m) := ht
    have HA : Hid ((((nums s).drop k).take (m - k)).all tokC = true) := ha
    have HK : Hid (Kx g w wr) := hkx
    have HP : Hid (placeOf wr g = m) := placeOf_of ht
    have x0 := ht.c0
    have x1 := ht.c1
    clear ht ha hkx
    have n0 : (0 : Int) ≤ (k : Int) := by omega
    have n1 : (k : Int) ≤ (m : Int) := by omega
    have n2 : (m : Int) ≤ (s.size : Int) := by omega
    have HX : Hid (nums (s.extract k m) = ((nums s).drop k).take (m - k)) := nums_extract s k m
    by_cases hlt : m < s.size
    · have hd : decide ((m : Int) < (s.size : Int)) = true := by simp; omega
      have k0 : (0 : Int) ≤ (m : Int) := by omega
      have k1 : (m : Int) < (s.size : Int) := by omega
      have HN : Hid ((nums s)[m]? = some (s[m].toNat : Int)) := nums_at s m hlt
      have HD : Hid ((nums s).drop m = (s[m].toNat : Int) :: (nums s).drop (m + 1)) := nums_drop s m hlt
      have hcb : (s[m].toNat : Int) < 256 := by have := s[m].toNat_lt; omega
      have hc0 : (0 : Int) ≤ (s[m].toNat : Int) := by omega
      obtain ⟨c, hcc⟩ : ∃ c : Int, ((s[m]'hlt).toNat : Int) = c := ⟨_, rfl⟩
      have hrs := fun V => rsign_any (s[m].toNat : Int) V hc0 hcb
      rw [hcc] at HN HD
      have hgw := HTM.out.lt
      cases hn : tokC c with
      | true =>
        have HN2 : Hid ((((nums s).drop k).take (m + 1 - k)).all tokC = true) := by
          have e : ((nums s).drop k)[m - k]? = some c := by rw [List.getElem?_drop, Nat.add_sub_cancel' hkm]; exact HN.out
          unfold Hid
          rw [show m + 1 - k = (m - k) + 1 by omega, all_take _ _ _ _ e, HA.out, hn]; rfl
        rw [hcc, hn] at hrs
        go_wp2_with fail
        go_region_held3 (fun V => Below wr.heap.size wr V ∧ V.cell? ⟨g, 0, none⟩ = some (.string s) ∧ V.cell? ⟨g, 1, none⟩ = some (.int .i64 m)) (refine ⟨?_, ?_, ?_⟩ <;> first | assumption | exact below_drew (Below.refl _ _) | simp [*]) (first
          | (go_at_call 33; refine (hrs _).mono ?_; rintro e w5 ⟨rfl, hb5⟩; have hB5 : Below wr.heap.size wr w5 := (show Below wr.heap.size wr _ by first | assumption | exact below_drew (Below.refl _ _)).trans (hb5.mono (show Below wr.heap.size wr _ by first | assumption | exact below_drew (Below.refl _ _)).size); have hS0 := cell_keep hB5 x0; have hS1 := cell_keep hB5 x1; clear hb5))
        have HB5 : Hid (Below wr.heap.size wr w5) := hB5
        have HT5 : Hid (Ts w5 g s m) := HTM.out.below hB5
        have f1 := HT5.out.frozen 1
        clear hB5 x0 x1
        have HE : Hid (Ts (w5.setCell ⟨g, 1, none⟩ (.int .i64 ((m : Int) + 1))) g s (m + 1)) := by
          have := HT5.out.set (m + 1)
          unfold Hid; simpa using this
        go_wp2
        go_roundw
        case rel => exact ⟨m + 1, by omega, by omega, HE.out, HN2.out, HK.out.trans ((Kx.of HB5.out hgw).trans (Kx.set _ _ _))⟩
        case measure => rw [placeOf_of HE.out, HP.out]; omega
      | false =>
        have HST : Hid (((nums s).drop k).takeWhile tokC = ((nums s).drop k).take (m - k) ∧ ((nums s).drop k).dropWhile tokC = (nums s).drop m) := tok_split hkm HA.out (.inr ⟨c, _, HD.out, hn⟩)
        rw [hcc, hn] at hrs
        go_wp2_with fail
        go_region_held3 (fun V => Below wr.heap.size wr V ∧ V.cell? ⟨g, 0, none⟩ = some (.string s) ∧ V.cell? ⟨g, 1, none⟩ = some (.int .i64 m)) (refine ⟨?_, ?_, ?_⟩ <;> first | assumption | exact below_drew (Below.refl _ _) | simp [*]) (first
          | (go_at_call 33; refine (hrs _).mono ?_; rintro e w5 ⟨rfl, hb5⟩; have hB5 : Below wr.heap.size wr w5 := (show Below wr.heap.size wr _ by first | assumption | exact below_drew (Below.refl _ _)).trans (hb5.mono (show Below wr.heap.size wr _ by first | assumption | exact below_drew (Below.refl _ _)).size); have hS0 := cell_keep hB5 x0; have hS1 := cell_keep hB5 x1; clear hb5))
        have HB5 : Hid (Below wr.heap.size wr w5) := hB5
        have HT5 : Hid (Ts w5 g s m) := HTM.out.below hB5
        clear hB5 x0 x1
        go_wp2
        go_quiet (fail)
        go_wp2
        go_ret
        exact ⟨_, m, rfl, by rw [HST.out.1]; exact HX.out, hm, HT5.out, HST.out.2.symm, (HK.out.trans (Kx.of HB5.out hgw)).drew nq⟩
    · have hd : decide ((m : Int) < (s.size : Int)) = false := by simp; omega
      have HST : Hid (((nums s).drop k).takeWhile tokC = ((nums s).drop k).take (m - k) ∧ ((nums s).drop k).dropWhile tokC = (nums s).drop m) := tok_split hkm HA.out (.inl (List.drop_of_length_le (by rw [nums_len]; omega)))
      go_wp2
      go_quiet (fail)
      go_wp2
      go_quiet (fail)
      go_wp2
      go_ret
      exact ⟨_, m, rfl, by rw [HST.out.1]; exact HX.out, hm, HTM.out, HST.out.2.symm, (HK.out.drew _).drew _⟩
end Go.Proofs.YtkbkajipkdlmbaaDoor
