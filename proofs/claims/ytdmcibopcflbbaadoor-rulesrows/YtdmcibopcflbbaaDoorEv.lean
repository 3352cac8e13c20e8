/-
  Which methods, ids, answers, texts and times may be: the contracts of isMethod, isUID, isAnswer, isText, mayLack, areEnds.
-/
import Derived.Test.YtdmcibopcflbbaaDoorPlain
import Derived.Test.YtdmcibopcflbbaaDoorShelf
import Derived.Test.YtdmcibopcflbbaaDoorUValid
import Derived.Lib.ConvBytes
namespace Go.Proofs.YtdmcibopcflbbaaDoor
open Go.RowKit
set_option linter.unusedVariables false

theorem cell_keep {w w' : World} {p : Addr} {v : Value} (hb : Below w.heap.size w w') (h : w.cell? p = some v) : w'.cell? p = some v := (hb.cell (World.block_lt_of_cell? w p h)).trans h
/-- Is a text valid? -/
def validN : Nat → List Int → Bool
  | _, [] => true
  | 0, _ => false
  | n + 1, l => match Ut.decZ l with | some p => validN n (l.drop (Ut.encZ p).length) | none => false
def validZ (l : List Int) : Bool := validN l.length l
theorem valid_flat : ∀ (ps r : List Int) (n : Nat), Ut.AllPt ps → Ut.decZ r = none → (Ut.flat ps ++ r).length ≤ n → validN n (Ut.flat ps ++ r) = r.isEmpty
  | [], r, n, _, hr, hn => by
    rw [Ut.flat_nil, List.nil_append]
    cases r with
    | nil => cases n <;> rfl
    | cons c r =>
      cases n with
      | zero => rfl
      | succ n =>
        rw [validN, hr]
        · rfl
        · simp
  | p :: ps, r, n, hp, hr, hn => by
    have hl := Ut.flat_len p ps r
    have hpos := Ut.enc_pos p
    cases n with
    | zero => omega
    | succ n =>
      have ih := valid_flat ps r n hp.tail hr (by omega)
      obtain ⟨c, t, hct⟩ : ∃ c t, Ut.flat (p :: ps) ++ r = c :: t := by
        cases h : Ut.flat (p :: ps) ++ r with
        | nil => exact absurd h (Ut.flat_ne p ps r)
        | cons c t => exact ⟨c, t, rfl⟩
      have hd := Ut.dec_flat (r := r) hp
      have hdr := Ut.drop_flat p ps r
      rw [hct] at hd hdr ⊢
      rw [validN, hd]
      · simp only; rw [hdr, ih]
      · simp
set_option maxRecDepth 100000 in
theorem valid_row (a : Option Addr) (len cap : Nat) (l : List Int) (w : World) (hlen : l.length = len) (hl : Byt l) (hcap : len ≤ cap) (hm : cap ≤ maxLen) (hrow : Row w a l) :
    Calls Tryd.prog 47 #[.slice a len cap] w fun e w' => e = .returned (.bool (validZ l)) ∧ w = w' := by
  obtain ⟨ps, r, hps, rfl, hr⟩ := Ut.split_ex l hl
  have hb : Ut.Byt r := fun x hx => hl x (by simp [hx])
  have := Ut.valid_any a len cap ps r w hlen hps hr hb hcap hm hrow
  have he : validZ (Ut.flat ps ++ r) = r.isEmpty := valid_flat ps r _ hps hr (Nat.le_refl _)
  rw [he]; exact this

theorem toList_emp (s : ByteArray) : s.toList.isEmpty = decide (s.size = 0) := by
  rw [ByteArray.toList_eq, Bool.eq_iff_iff]
  simp only [List.isEmpty_iff, decide_eq_true_eq]
  rw [← List.length_eq_zero_iff, Array.length_toList]
  exact Iff.rfl
def mtC (c : Int) : Bool := decide (65 ≤ c ∧ c ≤ 90)
def methZ (l : List Int) : Bool := l.all mtC && decide (1 ≤ l.length ∧ l.length ≤ 32)
set_option maxHeartbeats 4000000 in
set_option maxRecDepth 100000 in
theorem isMethod_any (s : ByteArray) (w : World) (hs : s.size ≤ 140737488355328) : Calls Tryd.prog 28 #[.string s] w fun e w' => e = .returned (.bool (methZ (nums s))) ∧ w = w' := by
  go_enter Tryd.func28, Tryd.ntmps28
  go_wp2
  go_loopw [6] (fun i wr => ∃ k : Nat, i = .int .i64 k ∧ k ≤ s.size ∧ ((nums s).take k).all mtC = true ∧ w = wr) (fun i _ => s.size - (intOf i).toNat)
  case atStart => exact ⟨0, rfl, by omega, rfl, rfl⟩
  case round =>
    obtain ⟨k, rfl, hk, hall, rfl⟩ := hrel
    have HA : Hid (((nums s).take k).all mtC = true) := hall
    clear hall
    by_cases hlt : k < s.size
    · have hc1 : (s[k].toNat : Int) < 256 := by have := s[k].toNat_lt; omega
      have hc0 : (0 : Int) ≤ (s[k].toNat : Int) := by omega
      have HT : Hid ((nums s)[k]? = some (s[k].toNat : Int)) := nums_at s k hlt
      obtain ⟨c, hc⟩ : ∃ c : Int, ((s[k]'hlt).toNat : Int) = c := ⟨_, rfl⟩
      rw [hc] at HT hc1 hc0
      by_cases q1 : c < 65
      · have a1 : decide (c < 65) = true := by simp; omega
        have hcc : mtC c = false := by unfold mtC; simp; omega
        have HZ : Hid (methZ (nums s) = false) := by unfold Hid methZ; rw [all_bad mtC _ k c HT.out hcc]; simp
        go_wp2
        go_ret
        exact ⟨ret_bool HZ.out.symm, rfl⟩
      · have a1 : decide (c < 65) = false := by simp; omega
        by_cases q2 : 90 < c
        · have a2 : decide (90 < c) = true := by simp; omega
          have hcc : mtC c = false := by unfold mtC; simp; omega
          have HZ : Hid (methZ (nums s) = false) := by unfold Hid methZ; rw [all_bad mtC _ k c HT.out hcc]; simp
          go_wp2
          go_ret
          exact ⟨ret_bool HZ.out.symm, rfl⟩
        · have a2 : decide (90 < c) = false := by simp; omega
          have hcc : mtC c = true := by unfold mtC; simp; omega
          go_wp2
          go_roundw
          case rel => exact ⟨k + 1, by go_num, by omega, by rw [all_take mtC _ k c HT.out, HA.out, hcc]; rfl, by first | rfl | trivial⟩
          case measure => simp [intOf]; omega
    · obtain rfl : k = s.size := by omega
      have HE : Hid ((nums s).all mtC = true) := by
        have := HA.out
        rwa [List.take_of_length_le (by rw [nums_len]; exact Nat.le_refl _)] at this
      clear HA
      have HQ : Hid (methZ (nums s) = decide (1 ≤ s.size ∧ s.size ≤ 32)) := by unfold Hid methZ; rw [HE.out, nums_len]; rfl
      by_cases h0 : s.size = 0
      · have he : s = ⟨#[]⟩ := nums_inj (List.eq_nil_of_length_eq_zero (by rw [nums_len]; exact h0))
        subst he
        go_wp2
        go_ret
        exact ⟨ret_bool (by rw [HQ.out]; rfl), rfl⟩
      · have hne : s.toList.isEmpty = false := by rw [toList_emp]; exact decide_eq_false h0
        go_wp2
        go_ret
        exact ⟨ret_bool (by rw [HQ.out, Bool.eq_iff_iff]; simp; omega), rfl⟩
theorem eq_list (s : ByteArray) (l : List UInt8) : (s.toList == l) = decide (nums s = l.map fun b => (b.toNat : Int)) := by
  have h := eq_nums s ⟨l.toArray⟩
  rw [ByteArray.toList_eq ⟨l.toArray⟩] at h
  exact h
def answN : List Int := [78, 69, 69, 68, 83, 45, 65, 67, 84, 73, 79, 78]
def answA : List Int := [65, 67, 67, 69, 80, 84, 69, 68]
def answD : List Int := [68, 69, 67, 76, 73, 78, 69, 68]
def answT : List Int := [84, 69, 78, 84, 65, 84, 73, 86, 69]
def answZ (l : List Int) : Bool := decide (l = answN) || decide (l = answA) || decide (l = answD) || decide (l = answT)
set_option maxRecDepth 100000 in
theorem isAnswer_any (s : ByteArray) (w : World) : Calls Tryd.prog 46 #[.string s] w fun e w' => e = .returned (.bool (answZ (nums s))) ∧ w = w' := by
  have HZ : Hid (answZ (nums s) = (((s.toList == [78, 69, 69, 68, 83, 45, 65, 67, 84, 73, 79, 78]) || (s.toList == [65, 67, 67, 69, 80, 84, 69, 68])) || (s.toList == [68, 69, 67, 76, 73, 78, 69, 68]) || (s.toList == [84, 69, 78, 84, 65, 84, 73, 86, 69]))) := by
    unfold Hid answZ; rw [eq_list, eq_list, eq_list, eq_list]; rfl
  cases e1 : (s.toList == [78, 69, 69, 68, 83, 45, 65, 67, 84, 73, 79, 78]) with
  | true =>
    rw [e1] at HZ
    go_enter Tryd.func46, Tryd.ntmps46
    go_wp2
    go_ret
    exact ⟨ret_bool HZ.out.symm, rfl⟩
  | false =>
    cases e2 : (s.toList == [65, 67, 67, 69, 80, 84, 69, 68]) with
    | true =>
      rw [e1, e2] at HZ
      go_enter Tryd.func46, Tryd.ntmps46
      go_wp2
      go_ret
      exact ⟨ret_bool HZ.out.symm, rfl⟩
    | false =>
      cases e3 : (s.toList == [68, 69, 67, 76, 73, 78, 69, 68]) with
      | true =>
        rw [e1, e2, e3] at HZ
        go_enter Tryd.func46, Tryd.ntmps46
        go_wp2
        go_ret
        exact ⟨ret_bool HZ.out.symm, rfl⟩
      | false =>
        cases e4 : (s.toList == [84, 69, 78, 84, 65, 84, 73, 86, 69]) with
        | true =>
          rw [e1, e2, e3, e4] at HZ
          go_enter Tryd.func46, Tryd.ntmps46
          go_wp2
          go_ret
          exact ⟨ret_bool HZ.out.symm, rfl⟩
        | false =>
          rw [e1, e2, e3, e4] at HZ
          go_enter Tryd.func46, Tryd.ntmps46
          go_wp2
          go_ret
          exact ⟨ret_bool HZ.out.symm, rfl⟩
def udC (c : Int) : Bool := decide (33 ≤ c ∧ c ≤ 126)
def uidZ (l : List Int) : Bool := l.all udC && (decide (1 ≤ l.length ∧ l.length ≤ 200) && !Lib.containsAny (l.map fun n => UInt8.ofNat n.toNat) [92, 59, 44])
set_option maxHeartbeats 4000000 in
set_option maxRecDepth 100000 in
theorem isUID_any (s : ByteArray) (w : World) (hs : s.size ≤ 1000000000) : Calls Tryd.prog 29 #[.string s] w fun e w' => e = .returned (.bool (uidZ (nums s))) ∧ Below w.heap.size w w' := by
  go_enter Tryd.func29, Tryd.ntmps29
  go_wp2
  go_loopw [6] (fun i wr => ∃ k : Nat, i = .int .i64 k ∧ k ≤ s.size ∧ ((nums s).take k).all udC = true ∧ w = wr) (fun i _ => s.size - (intOf i).toNat)
  case atStart => exact ⟨0, rfl, by omega, rfl, rfl⟩
  case round =>
    obtain ⟨k, rfl, hk, hall, rfl⟩ := hrel
    have HA : Hid (((nums s).take k).all udC = true) := hall
    clear hall
    by_cases hlt : k < s.size
    · have hc1 : (s[k].toNat : Int) < 256 := by have := s[k].toNat_lt; omega
      have hc0 : (0 : Int) ≤ (s[k].toNat : Int) := by omega
      have HT : Hid ((nums s)[k]? = some (s[k].toNat : Int)) := nums_at s k hlt
      obtain ⟨c, hc⟩ : ∃ c : Int, ((s[k]'hlt).toNat : Int) = c := ⟨_, rfl⟩
      rw [hc] at HT hc1 hc0
      by_cases q1 : c < 33
      · have a1 : decide (c < 33) = true := by simp; omega
        have hcc : udC c = false := by unfold udC; simp; omega
        have HZ : Hid (uidZ (nums s) = false) := by unfold Hid uidZ; rw [all_bad udC _ k c HT.out hcc]; simp
        go_wp2
        go_ret
        exact ⟨ret_bool HZ.out.symm, Below.refl _ _⟩
      · have a1 : decide (c < 33) = false := by simp; omega
        by_cases q2 : 126 < c
        · have a2 : decide (126 < c) = true := by simp; omega
          have hcc : udC c = false := by unfold udC; simp; omega
          have HZ : Hid (uidZ (nums s) = false) := by unfold Hid uidZ; rw [all_bad udC _ k c HT.out hcc]; simp
          go_wp2
          go_ret
          exact ⟨ret_bool HZ.out.symm, Below.refl _ _⟩
        · have a2 : decide (126 < c) = false := by simp; omega
          have hcc : udC c = true := by unfold udC; simp; omega
          go_wp2
          go_roundw
          case rel => exact ⟨k + 1, by go_num, by omega, by rw [all_take udC _ k c HT.out, HA.out, hcc]; rfl, by first | rfl | trivial⟩
          case measure => simp [intOf]; omega
    · obtain rfl : k = s.size := by omega
      have HE : Hid ((nums s).all udC = true) := by
        have := HA.out
        rwa [List.take_of_length_le (by rw [nums_len]; exact Nat.le_refl _)] at this
      clear HA
      have HQ : Hid (uidZ (nums s) = (decide (1 ≤ s.size ∧ s.size ≤ 200) && !Lib.containsAny s.data.toList [92, 59, 44])) := by
        unfold Hid uidZ
        have hm : (nums s).map (fun n => UInt8.ofNat n.toNat) = s.data.toList := by
          rw [nums, List.map_map]
          conv => rhs; rw [← List.map_id s.data.toList]
          apply List.map_congr_left
          intro x _
          simp
        rw [HE.out, nums_len, hm]; rfl
      have has : ∀ (j : Nat) b, s.data.toList[j]? = some b → b.toNat < 128 := by
        intro j b hb
        have h := List.all_eq_true.1 HE.out (b.toNat : Int) (by rw [nums]; exact List.mem_map.2 ⟨b, List.mem_of_getElem? hb, rfl⟩)
        unfold udC at h
        simp only [decide_eq_true_eq] at h
        omega
      have hcall := strings_ContainsAny_laid s ⟨#[92, 59, 44]⟩ w (by omega) (by decide) has (by
        intro j b hb
        have : b ∈ [92, 59, 44] := List.mem_of_getElem? hb
        simp at this
        rcases this with rfl | rfl | rfl <;> decide)
      have HC : Hid (Calls Tryd.prog 43 #[.string s, .string ⟨#[92, 59, 44]⟩] w fun e w' => e = .returned (.bool (Lib.containsAny s.data.toList [92, 59, 44])) ∧ Below w.heap.size w w') := hcall
      clear hcall has HE
      by_cases h0 : s.size = 0
      · have he : s = ⟨#[]⟩ := nums_inj (List.eq_nil_of_length_eq_zero (by rw [nums_len]; exact h0))
        subst he
        go_wp2
        go_ret
        exact ⟨ret_bool (by rw [HQ.out]; rfl), Below.refl _ _⟩
      · have hne : s.toList.isEmpty = false := by rw [toList_emp]; exact decide_eq_false h0
        by_cases h1 : s.size ≤ 200
        · have hd : decide ((s.size : Int) ≤ 200) = true := by simp; omega
          have HQ2 : Hid (uidZ (nums s) = !Lib.containsAny s.data.toList [92, 59, 44]) := by unfold Hid; rw [HQ.out, decide_eq_true (by omega)]; rfl
          go_wp2_with (go_at_call 43; refine HC.out.mono ?_; rintro e w1 ⟨rfl, hb1⟩)
          go_ret
          exact ⟨ret_bool HQ2.out.symm, hb1⟩
        · have hd : decide ((s.size : Int) ≤ 200) = false := by simp; omega
          go_wp2
          go_ret
          exact ⟨ret_bool (by rw [HQ.out, decide_eq_false (by omega)]; rfl), Below.refl _ _⟩
def txC (c : Int) : Bool := (decide (32 ≤ c) || decide (c = 9) || decide (c = 10)) && decide (c ≠ 127)
def textZ (l : List Int) : Bool := decide (l.length ≤ 1000) && (l.all txC && validZ l)
set_option maxHeartbeats 8000000 in
set_option maxRecDepth 100000 in
theorem isText_any (s : ByteArray) (w : World) (hs : s.size ≤ 1000000000) : Calls Tryd.prog 35 #[.string s] w fun e w' => e = .returned (.bool (textZ (nums s))) ∧ Below w.heap.size w w' := by
  by_cases hsm : s.size ≤ 1000
  · have hd : decide (1000 < (s.size : Int)) = false := by simp; omega
    have HQ : Hid (textZ (nums s) = ((nums s).all txC && validZ (nums s))) := by unfold Hid textZ; rw [nums_len, decide_eq_true hsm]; rfl
    go_enter Tryd.func35, Tryd.ntmps35
    go_wp2
    go_loopw [10] (fun i wr => ∃ k : Nat, i = .int .i64 k ∧ k ≤ s.size ∧ ((nums s).take k).all txC = true ∧ w = wr) (fun i _ => s.size - (intOf i).toNat)
    case atStart => exact ⟨0, rfl, by omega, rfl, rfl⟩
    case round =>
      obtain ⟨k, rfl, hk, hall, rfl⟩ := hrel
      have HA : Hid (((nums s).take k).all txC = true) := hall
      clear hall
      by_cases hlt : k < s.size
      · have hc1 : (s[k].toNat : Int) < 256 := by have := s[k].toNat_lt; omega
        have hc0 : (0 : Int) ≤ (s[k].toNat : Int) := by omega
        have HT : Hid ((nums s)[k]? = some (s[k].toNat : Int)) := nums_at s k hlt
        obtain ⟨c, hc⟩ : ∃ c : Int, ((s[k]'hlt).toNat : Int) = c := ⟨_, rfl⟩
        rw [hc] at HT hc1 hc0
        by_cases q1 : c < 32
        · have a1 : decide (c < 32) = true := by simp; omega
          have a4 : (c == 127) = false := by simp; omega
          by_cases q2 : c = 9
          · subst q2
            go_wp2
            go_roundw
            case rel => exact ⟨k + 1, by go_num, by omega, by rw [all_take txC _ k 9 HT.out, HA.out]; rfl, by first | rfl | trivial⟩
            case measure => simp [intOf]; omega
          · have a2 : (c != 9) = true := by simp; omega
            by_cases q3 : c = 10
            · subst q3
              go_wp2
              go_roundw
              case rel => exact ⟨k + 1, by go_num, by omega, by rw [all_take txC _ k 10 HT.out, HA.out]; rfl, by first | rfl | trivial⟩
              case measure => simp [intOf]; omega
            · have a3 : (c != 10) = true := by simp; omega
              have hcc : txC c = false := by unfold txC; simp; omega
              have HZ : Hid (((nums s).all txC && validZ (nums s)) = false) := by unfold Hid; rw [all_bad txC _ k c HT.out hcc]; rfl
              go_wp2
              go_ret
              exact ⟨ret_bool (by rw [HQ.out, HZ.out]), Below.refl _ _⟩
        · have a1 : decide (c < 32) = false := by simp; omega
          by_cases q2 : c = 127
          · subst q2
            have HZ : Hid (((nums s).all txC && validZ (nums s)) = false) := by unfold Hid; rw [all_bad txC _ k 127 HT.out rfl]; rfl
            go_wp2
            go_ret
            exact ⟨ret_bool (by rw [HQ.out, HZ.out]), Below.refl _ _⟩
          · have a2 : (c == 127) = false := by simp; omega
            have hcc : txC c = true := by unfold txC; simp; omega
            go_wp2
            go_roundw
            case rel => exact ⟨k + 1, by go_num, by omega, by rw [all_take txC _ k c HT.out, HA.out, hcc]; rfl, by first | rfl | trivial⟩
            case measure => simp [intOf]; omega
      · obtain rfl : k = s.size := by omega
        have HE : Hid (((nums s).all txC && validZ (nums s)) = validZ (nums s)) := by
          have := HA.out
          rw [List.take_of_length_le (by rw [nums_len]; exact Nat.le_refl _)] at this
          unfold Hid; rw [this]; rfl
        obtain ⟨cap, w1, kc, hcap, hmx, hrow, hb, hfz⟩ := conv_bytes s w (by unfold maxLen; omega)
        have HB : Hid (Below w.heap.size w w1) := hb
        have hv := valid_row _ s.size cap (nums s) w1 (nums_len s) (nums_byt s) hcap (by unfold maxLen; omega) hrow
        clear hrow hb hfz
        go_wp2_with (go_at_call 47; refine hv.mono ?_; rintro e w2 ⟨rfl, rfl⟩)
        go_ret
        exact ⟨ret_bool (by rw [HQ.out, HE.out]), HB.out⟩
  · have hd : decide (1000 < (s.size : Int)) = true := by simp; omega
    have HQ : Hid (textZ (nums s) = false) := by unfold Hid textZ; rw [nums_len, decide_eq_false hsm]; rfl
    go_enter Tryd.func35, Tryd.ntmps35
    go_wp2
    go_ret
    exact ⟨ret_bool HQ.out.symm, Below.refl _ _⟩
def rightB (t : Int) : Bool := decide (0 ≤ t ∧ t < 253402300800)
theorem wright_any (t : Int) (w : World) (h0 : -9223372036854775808 ≤ t) (h1 : t ≤ 9223372036854775807) :
    Calls Tryd.prog 30 #[.int .i64 t] w fun e w' => e = .returned (.bool (rightB t)) ∧ w = w' := by
  unfold rightB
  by_cases a : 0 ≤ t
  · by_cases b : t ≤ 253402300799
    · go_enter Tryd.func30, Tryd.ntmps30
      go_wp2
      go_ret
      exact ⟨ret_bool (by simp; omega), rfl⟩
    · go_enter Tryd.func30, Tryd.ntmps30
      go_wp2
      go_ret
      exact ⟨ret_bool (by simp; omega), rfl⟩
  · go_enter Tryd.func30, Tryd.ntmps30
    go_wp2
    go_ret
    exact ⟨ret_bool (by simp; omega), rfl⟩
def lackZ (t : Int) : Bool := decide (t = -1) || rightB t
theorem lack_any (t : Int) (w : World) (h0 : -9223372036854775808 ≤ t) (h1 : t ≤ 9223372036854775807) :
    Calls Tryd.prog 31 #[.int .i64 t] w fun e w' => e = .returned (.bool (lackZ t)) ∧ w = w' := by
  by_cases h : t = -1
  · subst h
    go_enter Tryd.func31, Tryd.ntmps31
    go_wp2
    go_ret
    exact ⟨rfl, rfl⟩
  · have hq : (t == -1) = false := by simpa using h
    have HZ : Hid (lackZ t = rightB t) := by unfold Hid lackZ; rw [decide_eq_false h]; rfl
    go_enter Tryd.func31, Tryd.ntmps31
    go_wp2_with (go_at_call 30; refine (wright_any t _ h0 h1).mono ?_; rintro e w1 ⟨rfl, rfl⟩)
    go_ret
    exact ⟨ret_bool HZ.out.symm, rfl⟩
def endsZ (s e : Int) : Bool := lackZ s && lackZ e && (decide (e = -1) || (decide (s ≠ -1) && decide (s < e)))
set_option maxHeartbeats 4000000 in
set_option maxRecDepth 100000 in
theorem ends_any (s e : Int) (w : World) (h0 : -9223372036854775808 ≤ s) (h1 : s ≤ 9223372036854775807) (h2 : -9223372036854775808 ≤ e) (h3 : e ≤ 9223372036854775807) :
    Calls Tryd.prog 32 #[.int .i64 s, .int .i64 e] w fun r w' => r = .returned (.bool (endsZ s e)) ∧ w = w' := by
  cases hs : lackZ s with
  | false =>
    have HZ : Hid (endsZ s e = false) := by unfold Hid endsZ; rw [hs]; rfl
    go_enter Tryd.func32, Tryd.ntmps32
    go_wp2_with (go_at_call 31; refine (lack_any s _ h0 h1).mono ?_; rintro r w1 ⟨rfl, rfl⟩; rw [hs])
    go_ret
    exact ⟨ret_bool HZ.out.symm, rfl⟩
  | true =>
    cases he : lackZ e with
    | false =>
      have HZ : Hid (endsZ s e = false) := by unfold Hid endsZ; rw [hs, he]; rfl
      go_enter Tryd.func32, Tryd.ntmps32
      go_wp2_with fail
      refine (lack_any s _ h0 h1).mono ?_
      rintro r w1 ⟨rfl, rfl⟩
      rw [hs]
      go_wp2_with fail
      refine (lack_any e _ h2 h3).mono ?_
      rintro r w1 ⟨rfl, rfl⟩
      rw [he]
      go_wp2
      go_ret
      exact ⟨ret_bool HZ.out.symm, rfl⟩
    | true =>
      have HE : Hid (endsZ s e = (decide (e = -1) || (decide (s ≠ -1) && decide (s < e)))) := by unfold Hid endsZ; rw [hs, he]; rfl
      by_cases q1 : e = -1
      · have a1 : (e == -1) = true := by simpa using q1
        have HZ : Hid (endsZ s e = true) := by unfold Hid; rw [HE.out, decide_eq_true q1]; rfl
        clear q1
        go_enter Tryd.func32, Tryd.ntmps32
        go_wp2_with fail
        refine (lack_any s _ h0 h1).mono ?_
        rintro r w1 ⟨rfl, rfl⟩
        rw [hs]
        go_wp2_with fail
        refine (lack_any e _ h2 h3).mono ?_
        rintro r w1 ⟨rfl, rfl⟩
        rw [he]
        go_wp2
        go_ret
        exact ⟨ret_bool HZ.out.symm, rfl⟩
      · have a1 : (e == -1) = false := by simpa using q1
        by_cases q2 : s = -1
        · have a2 : (s != -1) = false := by simpa using q2
          have HZ : Hid (endsZ s e = false) := by unfold Hid; rw [HE.out, decide_eq_false q1, decide_eq_false (by simpa using q2)]; rfl
          clear q2
          go_enter Tryd.func32, Tryd.ntmps32
          go_wp2_with fail
          refine (lack_any s _ h0 h1).mono ?_
          rintro r w1 ⟨rfl, rfl⟩
          rw [hs]
          go_wp2_with fail
          refine (lack_any e _ h2 h3).mono ?_
          rintro r w1 ⟨rfl, rfl⟩
          rw [he]
          go_wp2
          go_ret
          exact ⟨ret_bool HZ.out.symm, rfl⟩
        · have a2 : (s != -1) = true := by simpa using q2
          have HZ : Hid (endsZ s e = decide (s < e)) := by unfold Hid; rw [HE.out, decide_eq_false q1, decide_eq_true (by simpa using q2)]; rfl
          go_enter Tryd.func32, Tryd.ntmps32
          go_wp2_with fail
          refine (lack_any s _ h0 h1).mono ?_
          rintro r w1 ⟨rfl, rfl⟩
          rw [hs]
          go_wp2_with fail
          refine (lack_any e _ h2 h3).mono ?_
          rintro r w1 ⟨rfl, rfl⟩
          rw [he]
          go_wp2
          go_ret
          exact ⟨ret_bool HZ.out.symm, rfl⟩
end Go.Proofs.YtdmcibopcflbbaaDoor
