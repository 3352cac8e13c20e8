/-
  The place of a byte: the contracts of strings.IndexByte, Index of one byte, Cut.
-/
import Derived.Test.YtfhgkkdbkbbpkaaDoorStr
import Derived.Lib.Bytealg
namespace Go.Proofs.YtfhgkkdbkbbpkaaDoor
open Go.RowKit
set_option linter.unusedVariables false

theorem nums_append (s t : ByteArray) : nums (s ++ t) = nums s ++ nums t := by
  simp [nums, ByteArray.data_append]
/-- The place of a byte, or -1. -/
def idxZ (c : Int) : List Int → Int
  | [] => -1
  | d :: l => if d = c then 0 else if idxZ c l = -1 then -1 else idxZ c l + 1
theorem idx_lib (c : Int) (h0 : 0 ≤ c) (h1 : c < 256) : ∀ l : List UInt8, Lib.indexByte l c.toNat.toUInt8 = idxZ c (l.map fun b => (b.toNat : Int))
  | [] => rfl
  | b :: l => by
    have ih := idx_lib c h0 h1 l
    have hb : (b == c.toNat.toUInt8) = decide ((b.toNat : Int) = c) := by
      rw [Bool.eq_iff_iff]
      simp only [beq_iff_eq, decide_eq_true_eq]
      constructor
      · intro h; rw [h]; simp [Nat.toUInt8]; omega
      · intro h
        have : b.toNat = c.toNat := by omega
        rw [← this]
        simp [Nat.toUInt8]
    simp only [List.map_cons]
    unfold Lib.indexByte idxZ
    rw [hb, ih]
    by_cases hq : (b.toNat : Int) = c
    · simp [hq]
    · simp only [hq, decide_false, if_false, beq_iff_eq, Bool.false_eq_true]
theorem idx_ge (c : Int) : ∀ l : List Int, idxZ c l = -1 ∨ (0 ≤ idxZ c l ∧ idxZ c l < l.length)
  | [] => .inl rfl
  | d :: l => by
    have ih := idx_ge c l
    unfold idxZ
    split
    · exact .inr ⟨by omega, by simp⟩
    · split
      · exact .inl rfl
      · rename_i h2
        rcases ih with h | h
        · exact absurd h h2
        · exact .inr ⟨by omega, by simp; omega⟩
theorem idx_none {c : Int} : ∀ {l : List Int}, idxZ c l = -1 → c ∉ l
  | [], _ => by simp
  | d :: l, h => by
    unfold idxZ at h
    split at h
    · omega
    · rename_i h1
      split at h
      · rename_i h2
        have := idx_none h2
        simp [this, Ne.symm h1]
      · rename_i h2
        rcases idx_ge c l with q | q
        · exact absurd q h2
        · omega
theorem idx_some {c : Int} : ∀ {l : List Int} {k : Nat}, idxZ c l = k → l = l.take k ++ c :: l.drop (k + 1) ∧ c ∉ l.take k ∧ k < l.length
  | [], k, h => by simp only [idxZ] at h; omega
  | d :: l, k, h => by
    unfold idxZ at h
    split at h
    · rename_i h1
      obtain rfl : k = 0 := by omega
      subst h1
      simp
    · rename_i h1
      split at h
      · omega
      · obtain ⟨j, rfl⟩ : ∃ j, k = j + 1 := ⟨k - 1, by rcases idx_ge c l with q | q <;> omega⟩
        have hj : idxZ c l = (j : Int) := by
          have hh : idxZ c l + 1 = ((j + 1 : Nat) : Int) := h
          rw [Int.natCast_add] at hh
          omega
        obtain ⟨e1, e2, e3⟩ := idx_some hj
        refine ⟨?_, ?_, by rw [List.length_cons]; omega⟩
        · simp only [List.take_succ_cons, List.drop_succ_cons, List.cons_append, List.cons.injEq, true_and]
          exact e1
        · rw [List.take_succ_cons, List.mem_cons, not_or]; exact ⟨fun q => h1 q.symm, e2⟩
theorem idx_not {c : Int} : ∀ {l : List Int}, c ∉ l → idxZ c l = -1
  | [], _ => rfl
  | d :: l, h => by
    simp only [List.mem_cons, not_or] at h
    unfold idxZ
    rw [if_neg (fun q => h.1 q.symm), if_pos (idx_not h.2)]
theorem idx_app {c : Int} : ∀ {a : List Int} (r : List Int), c ∉ a → idxZ c (a ++ c :: r) = a.length
  | [], r, _ => by simp [idxZ]
  | d :: a, r, h => by
    simp only [List.mem_cons, not_or] at h
    rw [List.cons_append, idxZ, if_neg (fun q => h.1 q.symm), idx_app r h.2, if_neg (by omega)]
    simp
set_option maxRecDepth 100000 in
theorem indexByte_any (s : ByteArray) (c : Int) (w : World) (h0 : 0 ≤ c) (h1 : c < 256) :
    Calls Tryd.prog 70 #[.string s, .int .u8 c] w fun e w' => e = .returned (.int .i64 (idxZ c (nums s))) ∧ w = w' := by
  have he : Lib.indexByte s.data.toList c.toNat.toUInt8 = idxZ c (nums s) := idx_lib c h0 h1 s.data.toList
  go_enter Tryd.func70, Tryd.ntmps70
  go_wp2
  rw [run_callFunc_extern Tryd.func87 (by kernel_rfl) (by kernel_rfl) (by kernel_rfl) (e := Extern.BytealgIndexByte.indexByte) (by kernel_rfl), Lib.run_indexByteString]
  simp only [Result.andThen]
  rw [Oper.upon_value]
  go_wp2
  go_ret
  exact ⟨rfl, rfl⟩
set_option maxRecDepth 100000 in
theorem index46_any (s : ByteArray) (c : Int) (w : World) (h0 : 0 ≤ c) (h1 : c < 256) :
    Calls Tryd.prog 51 #[.string s, .int .u8 c] w fun e w' => e = .returned (.int .i64 (idxZ c (nums s))) ∧ w = w' := by
  go_enter Tryd.func51, Tryd.ntmps51
  go_wp2_with (go_at_call 70; refine (indexByte_any s c _ h0 h1).mono ?_; rintro e w' ⟨rfl, rfl⟩)
  go_ret
  exact ⟨rfl, rfl⟩
set_option maxRecDepth 100000 in
theorem index66_any (s : ByteArray) (b : UInt8) (w : World) :
    Calls Tryd.prog 106 #[.string s, .string ⟨#[b]⟩] w fun e w' => e = .returned (.int .i64 (idxZ (b.toNat : Int) (nums s))) ∧ w = w' := by
  have hb := b.toNat_lt
  have hen := eq_nums ⟨#[b]⟩ s
  have hn : nums (⟨#[b]⟩ : ByteArray) = [(b.toNat : Int)] := rfl
  rw [hn] at hen
  rw [ByteArray.toList_eq (⟨#[b]⟩)] at hen
  simp only at hen
  by_cases hq : [(b.toNat : Int)] = nums s
  · obtain rfl : (⟨#[b]⟩ : ByteArray) = s := nums_inj (hn.trans hq)
    clear hen hq
    have HE : Hid (idxZ (b.toNat : Int) (nums ⟨#[b]⟩) = 0) := by unfold Hid; rw [hn]; simp [idxZ]
    clear hn
    go_enter Tryd.func106, Tryd.ntmps106
    go_wp2
    go_ret
    exact ⟨by rw [HE.out]; rfl, rfl⟩
  · rw [decide_eq_false hq] at hen
    have hen2 : ¬ [b] = s.toList := by simpa using hen
    clear hq hn
    go_enter Tryd.func106, Tryd.ntmps106
    go_wp2_with (go_at_call 70; refine (indexByte_any s (b.toNat : Int) _ (by omega) (by omega)).mono ?_; rintro e w' ⟨rfl, rfl⟩)
    go_ret
    exact ⟨rfl, rfl⟩
/-- What Cut answers at one byte. -/
def CutA (c : Int) (s l r : ByteArray) (b : Bool) : Prop := (b = true → nums s = nums l ++ c :: nums r ∧ c ∉ nums l) ∧ (b = false → c ∉ nums s ∧ l = s ∧ r = ⟨#[]⟩)
set_option maxRecDepth 100000 in
theorem cut_any (s : ByteArray) (u : UInt8) (w : World) (hs : s.size ≤ 1000000000) :
    Calls Tryd.prog 75 #[.string s, .string ⟨#[u]⟩] w fun e w' => ∃ l r b, e = .returned (.tuple #[.string l, .string r, .bool b]) ∧ CutA (u.toNat : Int) s l r b ∧ Below w.heap.size w w' ∧ l.size ≤ s.size ∧ r.size ≤ s.size := by
  have hin : Calls Tryd.prog 91 #[.string s, .string ⟨#[u]⟩] w fun e w' => ∃ l r b, e = .returned (.tuple #[.string l, .string r, .bool b]) ∧ CutA (u.toNat : Int) s l r b ∧ Below w.heap.size w w' ∧ l.size ≤ s.size ∧ r.size ≤ s.size := by
    rcases idx_ge (u.toNat : Int) (nums s) with h | ⟨h, hl⟩
    · have HN := idx_none h
      have HA : Hid (CutA (u.toNat : Int) s s ⟨#[]⟩ false) := ⟨fun q => (by cases q), fun _ => ⟨HN, rfl, rfl⟩⟩
      clear HN
      go_enter Tryd.func91, Tryd.ntmps91
      go_wp2_with (go_at_call 106; refine (index66_any s u _).mono ?_; rintro e w' ⟨rfl, rfl⟩; rw [h])
      go_ret3
      exact ⟨_, _, _, rfl, HA.out, Below.refl _ _, Nat.le_refl _, Nat.zero_le _⟩
    · obtain ⟨k, hk⟩ : ∃ k : Nat, idxZ (u.toNat : Int) (nums s) = k := ⟨(idxZ (u.toNat : Int) (nums s)).toNat, by omega⟩
      obtain ⟨e1, e2, e3⟩ := idx_some hk
      rw [nums_len] at e3
      have HA : Hid (CutA (u.toNat : Int) s (s.extract 0 k) (s.extract (k + 1) s.size) true) := by
        refine ⟨fun _ => ?_, fun q => (by cases q)⟩
        rw [nums_to, nums_from]
        exact ⟨e1, e2⟩
      have d0 : decide ((k : Int) ≥ 0) = true := by simp
      have k0 : (0 : Int) ≤ (k : Int) := by omega
      have k1 : (k : Int) ≤ (s.size : Int) := by omega
      have k2 : (k : Int) + 1 ≤ (s.size : Int) := by omega
      have k3 : (0 : Int) ≤ (k : Int) + 1 := by omega
      have k4 : ((k : Int) + 1).toNat = k + 1 := by omega
      have z1 : (s.extract 0 k).size ≤ s.size := by rw [← nums_len, nums_to, List.length_take, nums_len]; omega
      have z2 : (s.extract (k + 1) s.size).size ≤ s.size := by rw [← nums_len, nums_from, List.length_drop, nums_len]; omega
      clear e1 e2 h hl
      go_enter Tryd.func91, Tryd.ntmps91
      go_wp2_with (go_at_call 106; refine (index66_any s u _).mono ?_; rintro e w' ⟨rfl, rfl⟩; rw [hk])
      go_quiet (fail)
      go_wp2
      go_ret3
      exact ⟨_, _, _, rfl, HA.out, below_drewN (Below.refl _ _) _, z1, z2⟩
  go_enter Tryd.func75, Tryd.ntmps75
  go_wp2_with (go_at_call 91; refine hin.mono ?_; rintro e w' ⟨l, r, b, rfl, ha, hb, hz1, hz2⟩)
  go_ret3
  exact ⟨l, r, b, rfl, ha, hb, hz1, hz2⟩
end Go.Proofs.YtfhgkkdbkbbpkaaDoor
