/-
  How a line is folded: the contract of cut; the lines that folded hands on.
-/
import Derived.Test.YtenclgnkogmgiaaDoorRg
import Derived.Test.YtenclgnkogmgiaaDoorUCutMath
namespace Go.Proofs.YtenclgnkogmgiaaDoor
open Go.RowKit Go.Shelf
set_option linter.unusedVariables false
attribute [local go_sem] Oper.semAt_some

theorem cutZ_pre {l : List Int} {E : Nat} : ∀ {m : Nat}, m < E → E ≤ l.length → Ut.cutZ (l.take E) m = Ut.cutZ l m
  | 0, _, _ => rfl
  | m + 1, h, hE => by
    have ih := cutZ_pre (l := l) (E := E) (m := m) (by omega) hE
    rw [Ut.cutZ, Ut.cutZ, ih, List.length_take]
    have : (l.take E).getD (m + 1) 0 = l.getD (m + 1) 0 := by
      simp [List.getD_eq_getElem?_getD, h]
    rw [this]
    congr 1
    apply propext
    constructor
    · rintro ⟨a, b⟩; exact ⟨by omega, b⟩
    · rintro ⟨a, b⟩; exact ⟨by omega, b⟩
/-- Where cut looks up to. -/
theorem cut_end (ps : List Int) (hps : Ut.AllPt ps) (m : Nat) (hm : m ≤ (Ut.flat ps).length) :
    ∃ E qs rs, ps = qs ++ rs ∧ (Ut.flat qs).length = E ∧ m ≤ E ∧ E ≤ (Ut.flat ps).length ∧ (∀ j, m ≤ j → j < E → (Ut.flat ps).getD j 0 / 64 = 2) ∧ ¬ (E < (Ut.flat ps).length ∧ (Ut.flat ps).getD E 0 / 64 = 2) ∧ Ut.cutZ (Ut.flat qs) m = Ut.cutZ (Ut.flat ps) m := by
  obtain ⟨qs, rs, h1, h2, h3⟩ := Ut.upto ps m hm
  have front : ∀ (us vs : List Int), ps = us ++ vs → ¬ ((Ut.flat us).length < (Ut.flat ps).length ∧ (Ut.flat ps).getD (Ut.flat us).length 0 / 64 = 2) := by
    rintro us vs rfl ⟨q1, q2⟩
    rw [Ut.flat_append, Ut.getD_right _ _ _ (Nat.le_refl _), Nat.sub_self] at q2
    rw [Ut.flat_append, List.length_append] at q1
    exact Ut.front_byte (fun x hx => hps x (by simp [hx])) (by omega) q2
  by_cases he : (Ut.flat qs).length = m
  · refine ⟨m, qs, rs, h1, he, Nat.le_refl _, hm, fun j q1 q2 => by omega, ?_, ?_⟩
    · have := front qs rs h1; rw [he] at this; exact this
    · have f := front qs rs h1
      rw [he] at f
      rw [Ut.cut_stop (l := Ut.flat ps) f, Ut.cut_stop (by rw [he]; omega)]
  · rcases h3 with rfl | ⟨r, rs', rfl, h4⟩
    · rw [h1, List.append_nil] at hm; omega
    · have hr : Ut.ptB r = true := hps r (by rw [h1]; simp)
      have hq : Ut.flat ps = Ut.flat qs ++ (Ut.encZ r ++ Ut.flat rs') := by rw [h1, Ut.flat_append, Ut.flat_cons]
      have hql : (Ut.flat (qs ++ [r])).length = (Ut.flat qs).length + (Ut.encZ r).length := by rw [Ut.flat_append, List.length_append]; simp [Ut.flat]
      have hfp : Ut.flat (qs ++ [r]) = (Ut.flat ps).take ((Ut.flat qs).length + (Ut.encZ r).length) := by
        rw [hq, ← List.append_assoc, List.take_append_of_le_length (by simp), List.take_of_length_le (by simp), Ut.flat_append]; simp [Ut.flat]
      have hlen : (Ut.flat ps).length = (Ut.flat qs).length + (Ut.encZ r).length + (Ut.flat rs').length := by rw [hq]; simp; omega
      refine ⟨(Ut.flat qs).length + (Ut.encZ r).length, qs ++ [r], rs', by rw [h1]; simp, hql, by omega, by omega, ?_, ?_, ?_⟩
      · intro j q1 q2
        rw [hq, Ut.getD_right _ _ _ (by omega), Ut.getD_left _ _ _ (by omega)]
        exact Ut.enc_con hr _ (by omega) (by omega)
      · have := front (qs ++ [r]) rs' (by rw [h1]; simp)
        rw [hql] at this; exact this
      · rw [hfp, cutZ_pre (by omega) (by omega)]
set_option maxHeartbeats 4000000 in
set_option maxRecDepth 100000 in
theorem cut_valid (s : ByteArray) (ps : List Int) (m : Nat) (w : World) (hs : s.size ≤ 1000000000) (hps : Ut.AllPt ps) (hsp : nums s = Ut.flat ps) (hm : m ≤ s.size) :
    Calls Tryd.prog 65 #[.string s, .int .i64 m] w fun e w' => e = .returned (.int .i64 (Ut.cutZ (nums s) m : Nat)) ∧ Below w.heap.size w w' := by
  have hnl := nums_len s
  obtain ⟨E, qs, rs, h1, h2, h3, h4, h5, h6, h7⟩ := cut_end ps hps m (by rw [← hsp, hnl]; exact hm)
  rw [← hsp] at h4 h5 h6 h7
  rw [hnl] at h4 h6
  have HC : Hid (∀ j, m ≤ j → j < E → (nums s).getD j 0 / 64 = 2) := h5
  have HS : Hid (¬ (E < s.size ∧ (nums s).getD E 0 / 64 = 2)) := h6
  have HZ : Hid (Ut.cutZ (Ut.flat qs) m = Ut.cutZ (nums s) m) := h7
  have HQ : Hid (Ut.AllPt qs) := fun x hx => hps x (by rw [h1]; simp [hx])
  have HT : Hid ((nums s).take E = Ut.flat qs) := by
    unfold Hid; rw [hsp, h1, Ut.flat_append, ← h2, List.take_append_of_le_length (Nat.le_refl _), List.take_length]
  clear h5 h6 h7 hnl h1
  go_enter Tryd.func65, Tryd.ntmps65
  go_wp2
  go_loopw [5] (fun i wr => ∃ k : Nat, i = .int .i64 k ∧ m ≤ k ∧ k ≤ E ∧ w = wr) (fun i _ => E - (intOf i).toNat)
  case atStart => exact ⟨m, rfl, Nat.le_refl _, h3, rfl⟩
  case round =>
    obtain ⟨k, rfl, hk1, hk2, rfl⟩ := hrel
    by_cases hkE : k < E
    · have hlt : k < s.size := by omega
      have hx := HC.out k hk1 hkE
      rw [List.getD_eq_getElem?_getD, nums_at s k hlt] at hx
      simp only [Option.getD_some] at hx
      have hc1 : (s[k].toNat : Int) < 256 := by have := s[k].toNat_lt; omega
      have hc0 : (0 : Int) ≤ (s[k].toNat : Int) := by omega
      obtain ⟨c, hc⟩ : ∃ c : Int, ((s[k]'hlt).toNat : Int) = c := ⟨_, rfl⟩
      rw [hc] at hx hc1 hc0
      go_wp2
      go_roundw
      case rel => exact ⟨k + 1, by go_num, by omega, by omega, by first | rfl | trivial⟩
      case measure => simp [intOf]; omega
    · obtain rfl : k = E := by omega
      obtain ⟨cap, w1, kc, hcap, hmx, hrow, hb, hfz⟩ := conv_bytes (s.extract 0 k) w (by rw [← nums_len, nums_to, List.length_take, nums_len]; unfold maxLen; omega)
      have hes : (s.extract 0 k).size = k := by rw [← nums_len, nums_to, List.length_take, nums_len]; omega
      rw [nums_to, HT.out] at hrow
      rw [hes] at kc hcap
      have hcut := Ut.cut_yes _ k cap m qs w1 h2 HQ.out hcap (by unfold maxLen; omega) hrow
      have hm0 : Ut.m0Z (m : Int) k = m := by unfold Ut.m0Z; omega
      rw [hm0, HZ.out] at hcut
      have HB : Hid (Below w.heap.size w w1) := hb
      clear hrow hb hfz hm0 hes
      by_cases hlt : k < s.size
      · have hx : ¬ ((s[k].toNat : Int) / 64 = 2) := by
          have := HS.out
          rw [List.getD_eq_getElem?_getD, nums_at s k hlt] at this
          simp only [Option.getD_some] at this
          exact fun q => this ⟨hlt, q⟩
        have hc1 : (s[k].toNat : Int) < 256 := by have := s[k].toNat_lt; omega
        have hc0 : (0 : Int) ≤ (s[k].toNat : Int) := by omega
        obtain ⟨c, hc⟩ : ∃ c : Int, ((s[k]'hlt).toNat : Int) = c := ⟨_, rfl⟩
        rw [hc] at hx hc1 hc0
        go_wp2_with (go_at_call 87; refine hcut.mono ?_; rintro e w2 ⟨rfl, rfl⟩)
        go_ret
        exact ⟨ret_int (by rw [hsp]), HB.out⟩
      · have hd : decide ((k : Int) < (s.size : Int)) = false := by simp; omega
        go_wp2_with (go_at_call 87; refine hcut.mono ?_; rintro e w2 ⟨rfl, rfl⟩)
        go_ret
        exact ⟨ret_int (by rw [hsp]), HB.out⟩
/-- The lines that a text is folded into. -/
def foldZ : Nat → List Int → List Int → List (List Int)
  | 0, front, left => [front ++ left]
  | n + 1, front, left => if 75 < front.length + left.length then (front ++ left.take (Ut.cutZ left (75 - front.length))) :: foldZ n [32] (left.drop (Ut.cutZ left (75 - front.length))) else [front ++ left]
def foldL (l : List Int) : List (List Int) := foldZ l.length [] l
def foldV (ls : List (List Int)) : List Value := ls.map fun p => .string (strOfNums p)
set_option maxRecDepth 100000 in
theorem folded_any (s : ByteArray) (w : World) : Calls Tryd.prog 44 #[.string s] w fun e w' => e = .returned (.func (.func 64) #[] #[.pointer (some ⟨w.heap.size, 0, none⟩)]) ∧ w' = w.alloc (.cells #[.string s] 9) := by
  go_enter Tryd.func44, Tryd.ntmps44
  go_wp2
  go_ret
  exact ⟨rfl, rfl⟩
end Go.Proofs.YtenclgnkogmgiaaDoor
