/-
  The contract of the reference's Encode.
-/
import Derived.Test.YtnhbmekhmkkccaaDoorRp
import Derived.Test.YtnhbmekhmkkccaaDoorURef
import Derived.Test.YtnhbmekhmkkccaaDoorBRef
namespace Go.Proofs.YtnhbmekhmkkccaaDoor
open Go.RowKit
set_option linter.unusedVariables false

theorem rvalid_row (a : Option Addr) (len cap : Nat) (l : List Int) (w : World) (hlen : l.length = len) (hl : Byt l) (hcap : len ≤ cap) (hm : cap ≤ maxLen) (hs : len ≤ 4000) (hrow : Row w a l) :
    Calls Tryd.prog 22 #[.slice a len cap] w fun e w' => e = .returned (.bool (validZ l)) ∧ Below w.heap.size w w' := by
  obtain ⟨ps, r, hps, rfl, hr⟩ := Ut.split_ex l hl
  have hb : Ut.Byt r := fun x hx => hl x (by simp [hx])
  have he : validZ (Ut.flat ps ++ r) = r.isEmpty := valid_flat ps r _ hps hr (Nat.le_refl _)
  rw [he]
  by_cases h0 : r = []
  · subst h0
    rw [List.append_nil] at hlen hrow
    exact Ut.rvalid_yes a len cap ps w hlen hps hcap hm hs hrow
  · have := Ut.rvalid_no a len cap ps r w hlen hps hr h0 hb hcap hm hs hrow
    rw [show r.isEmpty = false from List.isEmpty_eq_false_iff.2 h0]
    exact this
/-- Words put behind a text, one by one. -/
def contW : List Int → List (List Int) → List Int
  | o, [] => o
  | o, p :: ps => contW (if o = [] then p else o ++ 32 :: p) ps
theorem cont_ne : ∀ (ps : List (List Int)) (o : List Int), o ≠ [] → contW o ps = o ++ ps.flatMap (fun q => 32 :: q)
  | [], o, _ => by simp [contW]
  | p :: ps, o, h => by
    rw [contW, if_neg h, cont_ne ps _ (by simp)]
    simp
theorem cont_join (ps : List (List Int)) (h : ∀ p ∈ ps, p ≠ []) : contW [] ps = joinS ps := by
  cases ps with
  | nil => rfl
  | cons p ps => rw [contW, if_pos rfl, cont_ne ps p (h p (by simp)), joinS_flat]
theorem word_ne (b : List Int) : wordL setU [66] b ≠ [] := by simp [wordL]
theorem words_step {ps rs : List Int} {c : Nat} (h : chunks (Ut.flat ps) = (Ut.flat ps).take c :: chunks (Ut.flat rs)) : wordsL (Ut.flat ps) = wordL setU [66] ((Ut.flat ps).take c) :: wordsL (Ut.flat rs) := by
  unfold wordsL; rw [h]; rfl
def strLen2 : Value → Nat
  | .string s => s.size
  | _ => 0
set_option maxHeartbeats 8000000 in
set_option maxRecDepth 100000 in
theorem rencode_words (s : ByteArray) (w : World) (h : s.size ≤ 600) (hv : validZ (nums s) = true) (hnp : plainZ (nums s) = false) :
    Calls Tryd.prog 11 #[.string s] w fun e w' => e = .returned (.tuple #[.string (strOfNums (joinS (wordsL (nums s)))), .int .i64 0]) ∧ Below w.heap.size w w' := by
  have hd : decide ((s.size : Int) > 4096) = false := decide_eq_false (by omega)
  obtain ⟨ps0, hps0, hl0⟩ := valid_split (nums_byt s) hv
  obtain ⟨cap, w1, kc, hcap, hmx, hrow, hb, hfz⟩ := conv_bytes s w (by unfold maxLen; omega)
  have hval := rvalid_row _ s.size cap (nums s) w1 (nums_len s) (nums_byt s) hcap (by unfold maxLen; omega) (by omega) hrow
  rw [hv] at hval
  have hpl := fun V => rplain_any s V (by omega)
  rw [hnp] at hpl
  have HB : Hid (Below w.heap.size w w1) := hb
  have HJ : Hid (joinS (wordsL (nums s)) = contW [] (wordsL (nums s))) := (cont_join _ (fun p hp => by obtain ⟨b, _, rfl⟩ := List.mem_map.1 hp; exact word_ne b)).symm
  have HP0 : Hid (Ut.AllPt ps0) := hps0
  have HL0 : Hid (nums s = Ut.flat ps0) := hl0
  clear hrow hfz hv hb hnp hps0 hl0
  go_enter Tryd.func11, Tryd.ntmps11
  go_wp2_with fail
  refine hval.mono ?_
  clear hval kc
  rintro e w2 ⟨rfl, hb2⟩
  have HB2 : Hid (Below w.heap.size w w2) := HB.out.trans (hb2.mono HB.out.size)
  clear hb2 HB
  go_wp2_with (go_at_call 13; refine (hpl _).mono ?_; rintro e w' ⟨rfl, rfl⟩)
  clear hpl
  go_loopw [0, 4, 5, 6, 7] (fun vs vo _ _ _ wr => ∃ (t o : ByteArray) (ps : List Int), vs = .string t ∧ vo = .string o ∧ nums t = Ut.flat ps ∧ Ut.AllPt ps ∧ t.size ≤ s.size ∧ o.size ≤ 80 * (s.size - t.size) ∧ contW (nums o) (wordsL (nums t)) = contW [] (wordsL (nums s)) ∧ Below w.heap.size w wr) (fun vs _ _ _ _ _ => strLen2 vs)
  case atStart => exact ⟨s, ⟨#[]⟩, ps0, rfl, rfl, HL0.out, HP0.out, Nat.le_refl _, Nat.zero_le _, rfl, HB2.out⟩
  case round =>
    obtain ⟨t, o, ps, rfl, rfl, hnt, hps, hts, hos, hct, hbw⟩ := hrel
    have HW : Hid (Below w.heap.size w wr) := hbw
    have HN : Hid (nums t = Ut.flat ps) := hnt
    have HP : Hid (Ut.AllPt ps) := hps
    have HC : Hid (contW (nums o) (wordsL (nums t)) = contW [] (wordsL (nums s))) := hct
    clear hbw hnt hps hct HB2 HP0 HL0
    by_cases h0 : t.size = 0
    · have HE : Hid (strOfNums (joinS (wordsL (nums s))) = o) := by
        have e : nums t = [] := List.eq_nil_of_length_eq_zero (by rw [nums_len]; exact h0)
        have e2 : wordsL ([] : List Int) = [] := rfl
        have hc := HC.out
        rw [e, e2, contW] at hc
        unfold Hid; rw [HJ.out, ← hc, str_nums]
      have hg : decide ((t.size : Int) > 0) = false := decide_eq_false (by omega)
      go_wp2
      go_ret2
      exact ⟨by rw [HE.out]; rfl, HW.out⟩
    · have hne : Ut.flat ps ≠ [] := fun e => h0 (by rw [← nums_len, HN.out, e]; rfl)
      obtain ⟨c, rs, hc, hch, hc0, hcl, hrs, hrd⟩ := chunk_step HP.out hne
      have hlen : (Ut.flat ps).length = t.size := by rw [← HN.out, nums_len]
      have hws := words_step hch
      obtain ⟨cap1, wa, kc1, hcap1, hmx1, hrow1, hba, _⟩ := conv_bytes t wr (by unfold maxLen; omega)
      rw [HN.out] at hrow1
      have hcut := Ut.rcut_yes _ t.size cap1 45 ps wa (by omega) (by omega) hlen HP.out hcap1 (by unfold maxLen; omega) (by omega) hrow1
      have hm0 : Ut.m0Z 45 t.size = min 45 t.size := by unfold Ut.m0Z; omega
      rw [hm0, ← hlen, hc, hlen] at hcut
      have hcut2 : Calls Tryd.prog 23 #[.slice (some ⟨wr.heap.size, 0, none⟩) t.size cap1, .int .i64 45] wa fun e w' => e = .returned (.int .i64 (c : Int)) ∧ Below wa.heap.size wa w' := hcut
      rw [hlen] at hcl
      have hnx : nums (t.extract 0 c) = (Ut.flat ps).take c := by rw [nums_to, HN.out]
      have hxz : (t.extract 0 c).size = c := by rw [← nums_len, hnx, List.length_take, hlen]; omega
      have HXZ : Hid ((t.extract 0 c).size = c) := hxz
      have hb45 : c ≤ 45 := by
        obtain ⟨qs, rs', _, h2, _, h4⟩ := chunk_cut HP.out hne
        omega
      have hbx : Byt (nums (t.extract 0 c)) := nums_byt _
      have HR2 : Hid (nums (t.extract c t.size) = Ut.flat rs) := by unfold Hid; rw [nums_from, HN.out, hrd]
      have hrz : (t.extract c t.size).size = t.size - c := by rw [← nums_len, nums_from, List.length_drop, nums_len]
      have HRZ : Hid ((t.extract c t.size).size = t.size - c) := hrz
      have HRS : Hid (Ut.AllPt rs) := hrs
      have HWS : Hid (wordsL (nums t) = wordL setU [66] (nums (t.extract 0 c)) :: wordsL (nums (t.extract c t.size))) := by unfold Hid; rw [hnx, HR2.out, HN.out, hws]
      have HBa : Hid (Below w.heap.size w wa) := HW.out.trans (hba.mono HW.out.size)
      have hg : decide ((t.size : Int) > 0) = true := decide_eq_true (by omega)
      have k1 : (0 : Int) ≤ (c : Int) := by omega
      have k2 : (c : Int) ≤ (t.size : Int) := by omega
      clear hcut hm0 hc hch hrs hrd hlen hws hrow1 hba hne hnx hxz hrz
      go_wp2_with fail
      refine hcut2.mono ?_
      clear hcut2 kc1
      rintro e wb ⟨rfl, hbb⟩
      have HBb : Hid (Below w.heap.size w wb) := HBa.out.trans (hbb.mono HBa.out.size)
      obtain ⟨cap2, wc, kc2, hcap2, hmx2, hrow2, hbc, _⟩ := conv_bytes (t.extract 0 c) wb (by have := HXZ.out; unfold maxLen; omega)
      rw [HXZ.out] at kc2 hcap2
      have hre := Bt.rencode_ok _ c cap2 0 (nums (t.extract 0 c)) wc (by rw [nums_len]; exact HXZ.out) hbx hcap2 hmx2 (by omega) (by omega) (by omega) (by omega) hrow2
      have HBc : Hid (Below w.heap.size w wc) := HBb.out.trans (hbc.mono HBb.out.size)
      clear hbb hbc hrow2 HBa
      go_wp2_with fail
      refine hre.mono ?_
      clear hre kc2
      rintro e wd ⟨rfl, hbd⟩
      have HBd : Hid (Below w.heap.size w wd) := HBc.out.trans (hbd.mono HBc.out.size)
      have hel := (enc0_sgb _ 0 (nums (t.extract 0 c)) (Nat.le_refl _)).2
      rw [nums_len, HXZ.out] at hel
      have hez : (strOfNums (Bt.encW 0 0 (nums (t.extract 0 c)))).size ≤ 60 := by rw [strOfNums_size, hel]; omega
      have hbe : Byt (Bt.encW 0 0 (nums (t.extract 0 c))) := fun y hy => by have := (enc0_sgb _ 0 (nums (t.extract 0 c)) (Nat.le_refl _)).1 y hy; unfold SgB at this; omega
      have HSG : Hid (nums (strOfNums (Bt.encW 0 0 (nums (t.extract 0 c)))) = Bt.encW 0 0 (nums (t.extract 0 c))) := nums_str hbe
      generalize strOfNums (Bt.encW 0 0 (nums (t.extract 0 c))) = sg at hez HSG ⊢
      clear hbd HBb HBc hel hbe hbx
      by_cases ho : o.size = 0
      · obtain rfl : o = ⟨#[]⟩ := nums_inj (by rw [List.eq_nil_of_length_eq_zero (l := nums o) (by rw [nums_len]; exact ho)]; rfl)
        have HNW : Hid (nums (⟨#[]⟩ ++ ⟨#[61, 63, 117, 116, 102, 45, 56, 63, 66, 63]⟩ ++ sg ++ ⟨#[63, 61]⟩) = wordL setU [66] (nums (t.extract 0 c))) := by
          unfold Hid; rw [nums_append, nums_append, nums_append, HSG.out]; simp [wordL, setU, nums]
        have HC2 : Hid (contW (nums (⟨#[]⟩ ++ ⟨#[61, 63, 117, 116, 102, 45, 56, 63, 66, 63]⟩ ++ sg ++ ⟨#[63, 61]⟩)) (wordsL (nums (t.extract c t.size))) = contW [] (wordsL (nums s))) := by
          have hc := HC.out
          rw [HWS.out, contW, if_pos (show nums (⟨#[]⟩ : ByteArray) = [] from rfl)] at hc
          unfold Hid; rw [HNW.out]; exact hc
        have HSZ : Hid ((⟨#[]⟩ ++ ⟨#[61, 63, 117, 116, 102, 45, 56, 63, 66, 63]⟩ ++ sg ++ ⟨#[63, 61]⟩ : ByteArray).size ≤ 72) := by
          unfold Hid; simp only [ByteArray.size_append, show (⟨#[61, 63, 117, 116, 102, 45, 56, 63, 66, 63]⟩ : ByteArray).size = 10 from rfl, show (⟨#[63, 61]⟩ : ByteArray).size = 2 from rfl, show (⟨#[]⟩ : ByteArray).size = 0 from rfl]; omega
        have z1 : ¬ 9223372036854775807 < 10 + sg.size := by omega
        have z2 : ¬ 9223372036854775807 < 10 + sg.size + 2 := by omega
        go_wp2
        go_roundw
        case rel => exact ⟨t.extract c t.size, _, rs, rfl, rfl, HR2.out, HRS.out, by have := HRZ.out; omega, by have := HRZ.out; have := HSZ.out; omega, HC2.out, HBd.out⟩
        case measure => have := HRZ.out; simp only [strLen2]; omega
      · have hon : nums o ≠ [] := fun e => ho (by rw [← nums_len, e]; rfl)
        have HNW : Hid (nums (o ++ ⟨#[32]⟩ ++ ⟨#[61, 63, 117, 116, 102, 45, 56, 63, 66, 63]⟩ ++ sg ++ ⟨#[63, 61]⟩) = nums o ++ 32 :: wordL setU [66] (nums (t.extract 0 c))) := by
          unfold Hid; rw [nums_append, nums_append, nums_append, nums_append, HSG.out]; simp [wordL, setU, nums]
        have HC2 : Hid (contW (nums (o ++ ⟨#[32]⟩ ++ ⟨#[61, 63, 117, 116, 102, 45, 56, 63, 66, 63]⟩ ++ sg ++ ⟨#[63, 61]⟩)) (wordsL (nums (t.extract c t.size))) = contW [] (wordsL (nums s))) := by
          have hc := HC.out
          rw [HWS.out, contW, if_neg hon] at hc
          unfold Hid; rw [HNW.out]; exact hc
        have HSZ : Hid ((o ++ ⟨#[32]⟩ ++ ⟨#[61, 63, 117, 116, 102, 45, 56, 63, 66, 63]⟩ ++ sg ++ ⟨#[63, 61]⟩ : ByteArray).size ≤ o.size + 73) := by
          unfold Hid; simp only [ByteArray.size_append, show (⟨#[61, 63, 117, 116, 102, 45, 56, 63, 66, 63]⟩ : ByteArray).size = 10 from rfl, show (⟨#[63, 61]⟩ : ByteArray).size = 2 from rfl, show (⟨#[32]⟩ : ByteArray).size = 1 from rfl]; omega
        have he := empty_list o
        rw [decide_eq_false hon] at he
        have he2 : ¬ o.toList = [] := by simpa using he
        have he3 : o.toList.isEmpty = false := by simpa using he2
        clear hon he
        have z0 : ¬ 9223372036854775807 < o.size + 1 := by omega
        have z1 : ¬ 9223372036854775807 < o.size + 1 + 10 := by omega
        have z2 : ¬ 9223372036854775807 < o.size + 1 + 10 + sg.size := by omega
        have z3 : ¬ 9223372036854775807 < o.size + 1 + 10 + sg.size + 2 := by omega
        go_wp2
        go_roundw
        case rel => exact ⟨t.extract c t.size, _, rs, rfl, rfl, HR2.out, HRS.out, by have := HRZ.out; omega, by have := HRZ.out; have := HSZ.out; omega, HC2.out, HBd.out⟩
        case measure => have := HRZ.out; simp only [strLen2]; omega
set_option maxRecDepth 100000 in
theorem rencode_long (s : ByteArray) (w : World) (h : 4096 < s.size) :
    Calls Tryd.prog 11 #[.string s] w fun e w' => e = .returned (.tuple #[.string ⟨#[]⟩, .int .i64 2]) ∧ Below w.heap.size w w' := by
  have hd : decide ((s.size : Int) > 4096) = true := decide_eq_true (by omega)
  go_enter Tryd.func11, Tryd.ntmps11
  go_wp2
  go_ret2
  exact ⟨rfl, Below.refl _ _⟩
set_option maxRecDepth 100000 in
theorem rencode_bad (s : ByteArray) (w : World) (h : s.size ≤ 600) (hv : validZ (nums s) = false) :
    Calls Tryd.prog 11 #[.string s] w fun e w' => e = .returned (.tuple #[.string ⟨#[]⟩, .int .i64 20]) ∧ Below w.heap.size w w' := by
  have hd : decide ((s.size : Int) > 4096) = false := decide_eq_false (by omega)
  obtain ⟨cap, w1, kc, hcap, hmx, hrow, hb, hfz⟩ := conv_bytes s w (by unfold maxLen; omega)
  have hval := rvalid_row _ s.size cap (nums s) w1 (nums_len s) (nums_byt s) hcap (by unfold maxLen; omega) (by omega) hrow
  rw [hv] at hval
  have HB : Hid (Below w.heap.size w w1) := hb
  clear hrow hfz hv hb
  go_enter Tryd.func11, Tryd.ntmps11
  go_wp2_with (go_at_call 22; refine hval.mono ?_; rintro e w' ⟨rfl, hb2⟩)
  go_ret2
  exact ⟨rfl, HB.out.trans (hb2.mono HB.out.size)⟩
set_option maxRecDepth 100000 in
theorem rencode_plain (s : ByteArray) (w : World) (h : s.size ≤ 600) (hv : validZ (nums s) = true) (hp : plainZ (nums s) = true) :
    Calls Tryd.prog 11 #[.string s] w fun e w' => e = .returned (.tuple #[.string s, .int .i64 0]) ∧ Below w.heap.size w w' := by
  have hd : decide ((s.size : Int) > 4096) = false := decide_eq_false (by omega)
  obtain ⟨cap, w1, kc, hcap, hmx, hrow, hb, hfz⟩ := conv_bytes s w (by unfold maxLen; omega)
  have hval := rvalid_row _ s.size cap (nums s) w1 (nums_len s) (nums_byt s) hcap (by unfold maxLen; omega) (by omega) hrow
  rw [hv] at hval
  have hpl := fun V => rplain_any s V (by omega)
  rw [hp] at hpl
  have HB : Hid (Below w.heap.size w w1) := hb
  clear hrow hfz hv hb hp
  go_enter Tryd.func11, Tryd.ntmps11
  go_wp2_with fail
  refine hval.mono ?_
  clear hval kc
  rintro e w2 ⟨rfl, hb2⟩
  have HB2 : Hid (Below w.heap.size w w2) := HB.out.trans (hb2.mono HB.out.size)
  clear hb2 HB
  go_wp2_with (go_at_call 13; refine (hpl _).mono ?_; rintro e w' ⟨rfl, rfl⟩)
  go_ret2
  exact ⟨rfl, HB2.out⟩
theorem rencode_any (s : ByteArray) (w : World) (hs : s.size ≤ 600 ∨ 4096 < s.size) :
    Calls Tryd.prog 11 #[.string s] w fun e w' => e = .returned (.tuple #[.string (strOfNums (encA (nums s)).1), .int .i64 (encA (nums s)).2]) ∧ Below w.heap.size w w' := by
  unfold encA
  by_cases h : 4096 < (nums s).length
  · rw [if_pos h]; rw [nums_len] at h; exact rencode_long s w h
  · rw [if_neg h]
    rw [nums_len] at h
    by_cases hv : validZ (nums s) = false
    · rw [if_pos hv]; exact rencode_bad s w (by omega) hv
    · rw [if_neg hv]
      have hv1 : validZ (nums s) = true := by simpa using hv
      have hpe : (nums s = [] ∨ plainZ (nums s) = true) ↔ plainZ (nums s) = true := ⟨fun h => h.elim (fun e => by rw [e]; rfl) id, .inr⟩
      unfold encL
      by_cases hp : plainZ (nums s) = true
      · rw [if_pos (.inr hp)]; simp only [str_nums]; exact rencode_plain s w (by omega) hv1 hp
      · rw [if_neg (fun h => hp (hpe.1 h))]; exact rencode_words s w (by omega) hv1 (by cases hq : plainZ (nums s) with | false => rfl | true => exact absurd hq hp)
end Go.Proofs.YtnhbmekhmkkccaaDoor
