/-
  Names between two signs 34: the contracts of quote, nameEnd and unquote.
-/
import Derived.Test.YtedbgjpjipblcaaDoorCutp
namespace Go.Proofs.YtedbgjpjipblcaaDoor
open Go.RowKit
set_option linter.unusedVariables false

def escL : List Int → List Int
  | [] => []
  | c :: r => if c = 34 ∨ c = 92 then 92 :: c :: escL r else c :: escL r
theorem escL_snoc (c : Int) : ∀ l : List Int, escL (l ++ [c]) = escL l ++ escL [c]
  | [] => by simp [escL]
  | d :: l => by
    simp only [List.cons_append, escL]
    rw [escL_snoc c l]
    split <;> simp [escL]
theorem escL_len : ∀ l : List Int, (escL l).length ≤ 2 * l.length
  | [] => by simp [escL]
  | d :: l => by
    have := escL_len l
    simp only [escL]
    split <;> simp <;> omega
theorem escL_byt : ∀ {l : List Int}, Byt l → Byt (escL l)
  | [], _ => by intro x hx; simp [escL] at hx
  | d :: l, h => by
    have ih := escL_byt h.tail
    have hd := h.head
    simp only [escL]
    intro x hx
    split at hx
    · simp at hx
      rcases hx with rfl | rfl | hx
      · omega
      · exact hd
      · exact ih x hx
    · simp at hx
      rcases hx with rfl | hx
      · exact hd
      · exact ih x hx
theorem own_built (w : World) (c : Int) : (w.alloc (.cells #[.int .u8 c] 5)).ownsRow w.heap.size 5 1 (.slice (some ⟨w.heap.size, 0, none⟩) 1 1) ([c] : List Int).length (([c] : List Int).map (Value.int .u8)) :=
  ⟨rfl, .inr ⟨w.heap.size, 1, #[.int .u8 c], rfl, Nat.le_refl _, heap_alloc_last w _, Nat.le_refl _, by simp [maxLen], rfl, rfl⟩⟩
set_option maxHeartbeats 4000000 in
theorem quote_any (s : ByteArray) (w : World) (hs : s.size ≤ 1000000000) :
    Calls Tryd.prog 31 #[.string s] w fun e w' => ∃ x, e = .returned (.string x) ∧ nums x = 34 :: (escL (nums s) ++ [34]) ∧ Below w.heap.size w w' := by
  obtain ⟨j0, hi, hz0, hz1, hz2⟩ := info_parts Tryd.info5
  go_enter Tryd.func31, Tryd.ntmps31
  go_wp2
  go_loopw [3, 8] (fun v i wr => ∃ (k : Nat) (pre : List Int), i = .int .i64 k ∧ k ≤ s.size ∧ pre = 34 :: escL ((nums s).take k) ∧ pre.length ≤ 2 * k + 1 ∧ Byt pre ∧ wr.ownsRow w.heap.size 5 1 v pre.length (pre.map (Value.int .u8)) ∧ Below w.heap.size w wr) (fun _ i _ => s.size - (intOf i).toNat)
  case atStart => exact ⟨0, [34], rfl, by omega, by simp [escL], by simp, by intro x hx; simp at hx; omega, own_built w 34, keep w _⟩
  case round =>
    obtain ⟨k, pre, rfl, hk, hpre, hpl, hpb, hown, hb⟩ := hrel
    have HP : Hid (pre = 34 :: escL ((nums s).take k)) := hpre
    have HPB : Hid (Byt pre) := hpb
    have HO : Hid (wr.ownsRow w.heap.size 5 1 u3 pre.length (pre.map (Value.int .u8))) := hown
    have HB : Hid (Below w.heap.size w wr) := hb
    have hsz := hb.size
    clear hpre hown hb hpb
    by_cases hlt : k < s.size
    · have HA : Hid ((nums s)[k]? = some (s[k].toNat : Int)) := nums_at s k hlt
      have hc1 : (s[k].toNat : Int) < 256 := by have := s[k].toNat_lt; omega
      have hc0 : (0 : Int) ≤ (s[k].toNat : Int) := by omega
      obtain ⟨c, hcc⟩ : ∃ c : Int, ((s[k]'hlt).toNat : Int) = c := ⟨_, rfl⟩
      rw [hcc] at HA hc1 hc0
      have HT : Hid (34 :: escL ((nums s).take (k + 1)) = pre ++ escL [c]) := by
        unfold Hid; rw [List.take_add_one, HA.out, HP.out]; simp only [Option.toList]; rw [escL_snoc]; rfl
      by_cases hq : c = 34 ∨ c = 92
      · have HE : Hid (escL [c] = [92, c]) := by unfold Hid escL; rw [if_pos hq]; rfl
        rcases hq with rfl | rfl
        all_goals (
          go_wp2_with (first
            | (at_builtin; refine wpList_append_own _ rfl (.tmp 21) (.tmp 22) 53 rfl w.heap.size 5 j0 (.int .u8 0) 1 1 Tryd.underlying53 hi hz0 hz1 hz2 rfl (by decide) _ _ _ rfl (HO.out.alloc _) ⟨wr.heap.size, 0, none⟩ 1 1 (([92] : List Int).map (Value.int .u8)) rfl rfl (cells_new _ _ _) (ints_one _) ?a1 ?a2 ?a3 ?_))
          case a1 => unfold maxLen; omega
          case a2 => omega
          case a3 => simp; omega
          intro v3 w3 hown3 hgrow3 _
          have HB3 : Hid (Below w.heap.size w w3) := (HB.out.alloc hsz _).grown hgrow3 (by simp; omega) (fun k hk => (HO.out.lt k hk).1)
          have HO3 : Hid (w3.ownsRow w.heap.size 5 1 v3 (pre ++ [92]).length ((pre ++ [92]).map (Value.int .u8))) := by
            unfold Hid; rw [List.length_append, List.map_append]; exact hown3
          have hs3 := HB3.out.size
          clear hown3 hgrow3
          go_wp2_with (first
            | (at_builtin; refine wpList_append_own _ rfl (.tmp 24) (.tmp 28) 53 rfl w.heap.size 5 j0 (.int .u8 0) 1 1 Tryd.underlying53 hi hz0 hz1 hz2 rfl (by decide) _ _ _ rfl (HO3.out.alloc _) ⟨w3.heap.size, 0, none⟩ 1 1 (([_] : List Int).map (Value.int .u8)) rfl rfl (cells_new _ _ _) (ints_one _) ?a1 ?a2 ?a3 ?_))
          case a1 => unfold maxLen; simp; omega
          case a2 => simp; omega
          case a3 => simp; omega
          intro v4 w4 hown4 hgrow4 _
          have HB4 : Hid (Below w.heap.size w w4) := (HB3.out.alloc hs3 _).grown hgrow4 (by simp; omega) (fun k hk => (HO3.out.lt k hk).1)
          clear HO
          go_wp2
          go_roundw
          case rel => exact ⟨k + 1, _, by go_num, by omega, rfl, by rw [HT.out, HE.out]; simp; omega, by rw [HT.out, HE.out]; exact HPB.out.append (by intro x hx; simp at hx; omega), by rw [HT.out, HE.out]; simpa using hown4, HB4.out⟩
          case measure => simp [intOf]; omega)
      · have HE : Hid (escL [c] = [c]) := by unfold Hid escL; rw [if_neg hq]; rfl
        have hb34 : (c == 34) = false := by rw [beq_eq_false_iff_ne]; intro q; exact hq (.inl q)
        have hb92 : (c == 92) = false := by rw [beq_eq_false_iff_ne]; intro q; exact hq (.inr q)
        clear hq
        go_wp2_with (first
          | (at_builtin; refine wpList_append_own _ rfl (.tmp 24) (.tmp 28) 53 rfl w.heap.size 5 j0 (.int .u8 0) 1 1 Tryd.underlying53 hi hz0 hz1 hz2 rfl (by decide) _ _ _ rfl (HO.out.alloc _) ⟨wr.heap.size, 0, none⟩ 1 1 (([c] : List Int).map (Value.int .u8)) rfl rfl (cells_new _ _ _) (ints_one _) (by unfold maxLen; omega) (by omega) (by simp; omega) ?_; intro v4 w4 hown4 hgrow4 _))
        have HB4 : Hid (Below w.heap.size w w4) := (HB.out.alloc hsz _).grown hgrow4 (by simp; omega) (fun k hk => (HO.out.lt k hk).1)
        go_wp2
        go_roundw
        case rel => exact ⟨k + 1, _, by go_num, by omega, rfl, by rw [HT.out, HE.out]; simp; omega, by rw [HT.out, HE.out]; exact HPB.out.append (by intro x hx; simp at hx; subst hx; exact ⟨hc0, hc1⟩), by rw [HT.out, HE.out]; simpa using hown4, HB4.out⟩
        case measure => simp [intOf]; omega
    · obtain rfl : k = s.size := by omega
      have HF : Hid (pre = 34 :: escL (nums s)) := by
        have := HP.out
        rwa [List.take_of_length_le (by rw [nums_len]; exact Nat.le_refl _)] at this
      go_wp2_with (at_builtin; refine wpList_append_own _ rfl (.tmp 31) (.tmp 32) 53 rfl w.heap.size 5 j0 (.int .u8 0) 1 1 Tryd.underlying53 hi hz0 hz1 hz2 rfl (by decide) _ _ _ rfl (HO.out.alloc _) ⟨wr.heap.size, 0, none⟩ 1 1 (([34] : List Int).map (Value.int .u8)) rfl rfl (cells_new _ _ _) (ints_one _) (by unfold maxLen; omega) (by omega) (by simp; omega) ?_)
      intro v4 w4 hown4 hgrow4 _
      have HB4 : Hid (Below w.heap.size w w4) := (HB.out.alloc hsz _).grown hgrow4 (by simp; omega) (fun k hk => (HO.out.lt k hk).1)
      have hO4 : w4.ownsRow w.heap.size 5 1 v4 (pre ++ [34]).length ((pre ++ [34]).map (Value.int .u8)) := by
        rw [List.length_append, List.map_append]; exact hown4
      obtain ⟨a8, cap8, hv, hc8, hm8, hrow8, hn8⟩ := own_row' hO4
      have hl8 : (pre ++ [34]).length = pre.length + 1 := by simp
      have kc := conv_row (pre.length + 1) cap8 hl8 hrow8
      rw [hl8] at hv
      subst hv
      clear hown4 hgrow4 hO4 hrow8
      have HBY : Hid (Byt (pre ++ [34])) := HPB.out.append (by intro x hx; simp at hx; omega)
      go_wp2
      go_ret
      exact ⟨_, rfl, by rw [nums_str HBY.out, HF.out]; rfl, HB4.out⟩
/-- The place of the sign 34 that ends a name, or -1. -/
def up (k : Int) (e : Int) : Int := if e = -1 then -1 else e + k
def endZ : List Int → Int
  | [] => -1
  | [c] => if c = 34 then 0 else -1
  | c :: d :: q => if c = 92 then up 2 (endZ q) else if c = 34 then 0 else up 1 (endZ (d :: q))
theorem up_m (k : Int) : up k (-1) = -1 := rfl
theorem end_34 (q : List Int) : endZ (34 :: q) = 0 := by cases q <;> simp [endZ]
theorem end_92 (q : List Int) : endZ (92 :: q) = up 2 (endZ q.tail) := by
  cases q with
  | nil => rfl
  | cons d q => rw [endZ, if_pos rfl]; rfl
theorem end_oth {c : Int} (h1 : c ≠ 34) (h2 : c ≠ 92) (q : List Int) : endZ (c :: q) = up 1 (endZ q) := by
  cases q with
  | nil => simp [endZ, up, h1]
  | cons d q => rw [endZ, if_neg h2, if_neg h1]
theorem end_ge : ∀ l : List Int, endZ l = -1 ∨ (0 ≤ endZ l ∧ endZ l < l.length)
  | [] => .inl rfl
  | [c] => by unfold endZ; split <;> simp
  | c :: d :: q => by
    have h1 := end_ge q
    have h2 := end_ge (d :: q)
    unfold endZ
    split
    · unfold up; split
      · exact .inl rfl
      · exact .inr ⟨by omega, by simp at *; omega⟩
    · split
      · exact .inr ⟨by omega, by simp; omega⟩
      · unfold up; split
        · exact .inl rfl
        · exact .inr ⟨by omega, by simp at *; omega⟩
theorem up_up {a b e : Int} (ha : 0 ≤ a) (hb : 0 ≤ b) (he : -1 ≤ e) : up a (up b e) = up (a + b) e := by
  unfold up
  by_cases h : e = -1
  · simp [h]
  · rw [if_neg h, if_neg (by omega), if_neg h]; omega
theorem end_m (l : List Int) : -1 ≤ endZ l := by rcases end_ge l with h | h <;> omega
set_option maxHeartbeats 1000000 in
theorem nameEnd_any (s : ByteArray) (w : World) (hs : s.size ≤ 1000000000) : Calls Tryd.prog 44 #[.string s] w fun e w' => e = .returned (.int .i64 (endZ (nums s))) ∧ w = w' := by
  go_enter Tryd.func44, Tryd.ntmps44
  go_wp2
  refine wp_scope_straight ?_
  go_wp2
  refine wp_label ?_
  go_wp2
  go_loopw [3, 4] (fun v i wr => ∃ k : Nat, v = .int .i64 (-1) ∧ i = .int .i64 k ∧ k ≤ s.size + 1 ∧ endZ (nums s) = up k (endZ ((nums s).drop k)) ∧ w = wr) (fun _ i _ => s.size + 1 - (intOf i).toNat)
  case atStart => exact ⟨0, rfl, rfl, by omega, by unfold up; split <;> simp_all, rfl⟩
  case round =>
    obtain ⟨k, rfl, rfl, hk, he, rfl⟩ := hrel
    have HE : Hid (endZ (nums s) = up k (endZ ((nums s).drop k))) := he
    clear he
    by_cases hlt : k < s.size
    · have hd : decide ((k : Int) < (s.size : Int)) = true := decide_eq_true (by omega)
      have HD : Hid ((nums s).drop k = (s[k].toNat : Int) :: (nums s).drop (k + 1)) := nums_drop s k hlt
      obtain ⟨c, hc⟩ : ∃ c : Int, ((s[k]'hlt).toNat : Int) = c := ⟨_, rfl⟩
      rw [hc] at HD
      by_cases h92 : c = 92
      · subst h92
        have HR : Hid (endZ (nums s) = up ((k + 2 : Nat) : Int) (endZ ((nums s).drop (k + 2)))) := by
          unfold Hid; rw [HE.out, HD.out, end_92, List.tail_drop, up_up (by omega) (by omega) (end_m _)]; simp
        go_wp2
        go_roundw
        case rel => exact ⟨k + 2, rfl, by rw [show ((k + 2 : Nat) : Int) = (k : Int) + 1 + 1 by omega], by omega, HR.out, by first | trivial | rfl⟩
        case measure => simp [intOf]; omega
      · have b92 : (c == 92) = false := by rw [beq_eq_false_iff_ne]; exact h92
        by_cases h34 : c = 34
        · subst h34
          have HR : Hid (endZ (nums s) = k) := by unfold Hid; rw [HE.out, HD.out, end_34]; unfold up; rw [if_neg (by omega)]; omega
          go_wp2
          (try simp only [Exit.noGoto])
          go_ret
          exact ⟨by rw [HR.out]; rfl, by first | trivial | rfl⟩
        · have b34 : (c == 34) = false := by rw [beq_eq_false_iff_ne]; exact h34
          have HR : Hid (endZ (nums s) = up ((k + 1 : Nat) : Int) (endZ ((nums s).drop (k + 1)))) := by
            unfold Hid; rw [HE.out, HD.out, end_oth h34 h92, up_up (by omega) (by omega) (end_m _)]; simp
          clear h34 h92
          go_wp2
          go_roundw
          case rel => exact ⟨k + 1, rfl, by go_num, by omega, HR.out, by first | trivial | rfl⟩
          case measure => simp [intOf]; omega
    · have hd : decide ((k : Int) < (s.size : Int)) = false := decide_eq_false (by omega)
      have HR : Hid (endZ (nums s) = -1) := by unfold Hid; rw [HE.out, List.drop_of_length_le (by rw [nums_len]; omega)]; rfl
      go_wp2
      (try simp only [Exit.noGoto])
      go_ret
      exact ⟨by rw [HR.out]; rfl, by first | trivial | rfl⟩
/-- No sign 92 stands alone at the end. -/
def wfU : List Int → Bool
  | [] => true
  | [c] => decide (c ≠ 92)
  | c :: d :: q => if c = 92 then wfU q else wfU (d :: q)
/-- What a name between two signs says. -/
def unqR : List Int → Option (List Int)
  | [] => some []
  | [c] => some [c]
  | c :: d :: q => if c = 92 then (if d = 34 ∨ d = 92 then (unqR q).map (fun x => d :: x) else none) else (unqR (d :: q)).map (fun x => c :: x)
theorem unq_oth {c : Int} (h : c ≠ 92) (q : List Int) : unqR (c :: q) = (unqR q).map (fun x => c :: x) := by
  cases q with
  | nil => simp [unqR]
  | cons d q => rw [unqR, if_neg h]
theorem unq_92 (d : Int) (q : List Int) : unqR (92 :: d :: q) = if d = 34 ∨ d = 92 then (unqR q).map (fun x => d :: x) else none := by rw [unqR, if_pos rfl]
theorem wf_oth {c : Int} (h : c ≠ 92) (q : List Int) : wfU (c :: q) = wfU q := by
  cases q with
  | nil => simp [wfU, h]
  | cons d q => rw [wfU, if_neg h]
theorem wf_92 (d : Int) (q : List Int) : wfU (92 :: d :: q) = wfU q := by rw [wfU, if_pos rfl]
theorem wf_end : ∀ (l : List Int) (k : Nat), endZ l = k → wfU (l.take k) = true
  | [], k, h => by simp only [endZ] at h; omega
  | [c], k, h => by
    unfold endZ at h
    split at h
    · obtain rfl : k = 0 := by omega
      rfl
    · omega
  | c :: d :: q, k, h => by
    unfold endZ at h
    split at h
    · rename_i h92
      subst h92
      unfold up at h
      split at h
      · omega
      · obtain ⟨j, rfl⟩ : ∃ j, k = j + 2 := ⟨k - 2, by rcases end_ge q with x | x <;> omega⟩
        rw [List.take_succ_cons, List.take_succ_cons, wf_92]
        exact wf_end q j (by omega)
    · rename_i h92
      split at h
      · obtain rfl : k = 0 := by omega
        rfl
      · unfold up at h
        split at h
        · omega
        · obtain ⟨j, rfl⟩ : ∃ j, k = j + 1 := ⟨k - 1, by rcases end_ge (d :: q) with x | x <;> omega⟩
          rw [List.take_succ_cons, wf_oth h92]
          exact wf_end (d :: q) j (by omega)
def preU (p : List Int) (x : Option (List Int)) : Option (List Int) := x.map fun y => p ++ y
theorem preU_nil (x : Option (List Int)) : preU [] x = x := by cases x <;> rfl
theorem preU_snoc (p : List Int) (c : Int) (x : Option (List Int)) : preU p (x.map fun y => c :: y) = preU (p ++ [c]) x := by cases x <;> simp [preU]
def UAns (b : Bool) (x : Option (List Int)) (v : List Int) : Prop := (b = true → x = some v) ∧ (b = false → x = none)
set_option maxHeartbeats 4000000 in
theorem unquote_any (s : ByteArray) (w : World) (hs : s.size ≤ 1000000000) (hwf : wfU (nums s) = true) :
    Calls Tryd.prog 45 #[.string s] w fun e w' => ∃ x b, e = .returned (.tuple #[.string x, .bool b]) ∧ Below w.heap.size w w' ∧ UAns b (unqR (nums s)) (nums x) ∧ x.size ≤ s.size := by
  obtain ⟨j0, hi, hz0, hz1, hz2⟩ := info_parts Tryd.info5
  go_enter Tryd.func45, Tryd.ntmps45
  go_wp2
  go_loopw [4, 5] (fun v i wr => ∃ (k : Nat) (pre : List Int), i = .int .i64 k ∧ k ≤ s.size ∧ pre.length ≤ k ∧ Byt pre ∧ unqR (nums s) = preU pre (unqR ((nums s).drop k)) ∧ wfU ((nums s).drop k) = true ∧ wr.ownsRow w.heap.size 5 1 v pre.length (pre.map (Value.int .u8)) ∧ Below w.heap.size w wr) (fun _ i _ => s.size - (intOf i).toNat)
  case atStart => exact ⟨0, [], rfl, by omega, by simp, (by intro x hx; cases hx), by rw [preU_nil]; rfl, hwf, World.ownsRow_nil _ _ _ _, Below.refl _ _⟩
  case round =>
    obtain ⟨k, pre, rfl, hk, hpl, hpb, hq, hw, hown, hb⟩ := hrel
    have HQ : Hid (unqR (nums s) = preU pre (unqR ((nums s).drop k))) := hq
    have HW : Hid (wfU ((nums s).drop k) = true) := hw
    have HO : Hid (wr.ownsRow w.heap.size 5 1 u4 pre.length (pre.map (Value.int .u8))) := hown
    have HB : Hid (Below w.heap.size w wr) := hb
    have HP : Hid (Byt pre) := hpb
    have hsz : w.heap.size ≤ wr.heap.size := hb.size
    clear hq hb hown hpb hw
    by_cases hlt : k < s.size
    · have hd : decide ((k : Int) < (s.size : Int)) = true := decide_eq_true (by omega)
      have HD : Hid ((nums s).drop k = (s[k].toNat : Int) :: (nums s).drop (k + 1)) := nums_drop s k hlt
      have hcb : (s[k].toNat : Int) < 256 := by have := s[k].toNat_lt; omega
      have hc0 : (0 : Int) ≤ (s[k].toNat : Int) := by omega
      obtain ⟨c, hcc⟩ : ∃ c : Int, ((s[k]'hlt).toNat : Int) = c := ⟨_, rfl⟩
      rw [hcc] at HD hcb hc0
      by_cases h92 : c = 92
      · subst h92
        have hlt2 : k + 1 < s.size := by
          rcases Nat.lt_or_ge (k + 1) s.size with h | h
          · exact h
          · have := HW.out
            rw [HD.out, List.drop_of_length_le (by rw [nums_len]; omega)] at this
            simp [wfU] at this
        have HD2 : Hid ((nums s).drop (k + 1) = (s[k + 1].toNat : Int) :: (nums s).drop (k + 2)) := nums_drop s (k + 1) hlt2
        have hdb : (s[k + 1].toNat : Int) < 256 := by have := s[k + 1].toNat_lt; omega
        have hd0 : (0 : Int) ≤ (s[k + 1].toNat : Int) := by omega
        obtain ⟨d, hdd⟩ : ∃ d : Int, ((s[k + 1]'hlt2).toNat : Int) = d := ⟨_, rfl⟩
        rw [hdd] at HD2 hdb hd0
        have m0 : (0 : Int) ≤ (k : Int) + 1 := by omega
        have m1 : (k : Int) + 1 < (s.size : Int) := by omega
        have m2 : ((k : Int) + 1).toNat = k + 1 := by omega
        have HW2 : Hid (wfU ((nums s).drop (k + 2)) = true) := by
          have := HW.out
          rw [HD.out, HD2.out, wf_92] at this
          exact this
        by_cases hdq : d = 34 ∨ d = 92
        · have HE : Hid (unqR (nums s) = preU (pre ++ [d]) (unqR ((nums s).drop (k + 2)))) := by
            unfold Hid; rw [HQ.out, HD.out, HD2.out, unq_92, if_pos hdq, preU_snoc]
          rcases hdq with rfl | rfl
          all_goals (
            go_wp2_with (at_builtin; refine wpList_append_own _ rfl (.tmp 28) (.tmp 32) 53 rfl w.heap.size 5 j0 (.int .u8 0) 1 1 Tryd.underlying53 hi hz0 hz1 hz2 rfl (by decide) _ _ _ rfl (HO.out.alloc _) ⟨wr.heap.size, 0, none⟩ 1 1 (([_] : List Int).map (Value.int .u8)) rfl rfl (cells_new _ _ _) (ints_one _) ?a1 ?a2 ?a3 ?_)
            case a1 => unfold maxLen; omega
            case a2 => omega
            case a3 => simp; omega
            intro v3 w3 hown3 hgrow3 _
            have HB3 : Hid (Below w.heap.size w w3) := (HB.out.alloc hsz _).grown hgrow3 (by simp; omega) (fun k hk => (HO.out.lt k hk).1)
            go_wp2
            go_roundw
            case rel => exact ⟨k + 2, pre ++ [_], by rw [show ((k + 2 : Nat) : Int) = (k : Int) + 1 + 1 by omega], by omega, by simp; omega, HP.out.append (by intro x hx; simp at hx; omega), HE.out, HW2.out, by rw [List.length_append, List.map_append]; exact hown3, HB3.out⟩
            case measure => simp [intOf]; omega)
        · have HE : Hid (unqR (nums s) = none) := by unfold Hid; rw [HQ.out, HD.out, HD2.out, unq_92, if_neg hdq]; rfl
          have b1 : (d != 34) = true := by simp; omega
          have b2 : (d != 92) = true := by simp; omega
          clear hdq
          go_wp2
          go_ret2
          exact ⟨_, false, rfl, HB.out, ⟨fun q => (by cases q), fun _ => HE.out⟩, Nat.zero_le _⟩
      · have b92 : (c == 92) = false := by rw [beq_eq_false_iff_ne]; exact h92
        have HE : Hid (unqR (nums s) = preU (pre ++ [c]) (unqR ((nums s).drop (k + 1)))) := by
          unfold Hid; rw [HQ.out, HD.out, unq_oth h92, preU_snoc]
        have HW2 : Hid (wfU ((nums s).drop (k + 1)) = true) := by
          have := HW.out
          rw [HD.out, wf_oth h92] at this
          exact this
        clear h92
        go_wp2_with (at_builtin; refine wpList_append_own _ rfl (.tmp 28) (.tmp 32) 53 rfl w.heap.size 5 j0 (.int .u8 0) 1 1 Tryd.underlying53 hi hz0 hz1 hz2 rfl (by decide) _ _ _ rfl (HO.out.alloc _) ⟨wr.heap.size, 0, none⟩ 1 1 (([c] : List Int).map (Value.int .u8)) rfl rfl (cells_new _ _ _) (ints_one _) ?a1 ?a2 ?a3 ?_)
        case a1 => unfold maxLen; omega
        case a2 => omega
        case a3 => simp; omega
        intro v3 w3 hown3 hgrow3 _
        have HB3 : Hid (Below w.heap.size w w3) := (HB.out.alloc hsz _).grown hgrow3 (by simp; omega) (fun k hk => (HO.out.lt k hk).1)
        go_wp2
        go_roundw
        case rel => exact ⟨k + 1, pre ++ [c], by go_num, by omega, by simp; omega, HP.out.append (by intro x hx; simp at hx; subst hx; exact ⟨hc0, hcb⟩), HE.out, HW2.out, by rw [List.length_append, List.map_append]; exact hown3, HB3.out⟩
        case measure => simp [intOf]; omega
    · have hd : decide ((k : Int) < (s.size : Int)) = false := decide_eq_false (by omega)
      have HE : Hid (unqR (nums s) = some pre) := by
        unfold Hid; rw [HQ.out, List.drop_of_length_le (by rw [nums_len]; omega)]; simp [unqR, preU]
      obtain ⟨a8, cap8, hv, hc8, hm8, hrow8, hn8⟩ := own_row' HO.out
      have kc := conv_row pre.length cap8 rfl hrow8
      subst hv
      clear hrow8
      go_wp2
      go_ret2
      exact ⟨_, true, rfl, HB.out, ⟨fun _ => (by rw [nums_str HP.out]; exact HE.out), fun q => (by cases q)⟩, by rw [← nums_len, nums_str HP.out]; omega⟩
end Go.Proofs.YtedbgjpjipblcaaDoor
