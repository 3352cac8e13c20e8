/-
  Ids: what they are, that they are read as they were, and the contract of ID.
-/
import Derived.Test.YtomcjkghneingabDoorTq
import Derived.Test.YtomcjkghneingabDoorTi
namespace Go.Proofs.YtomcjkghneingabDoor
open Go.RowKit Go.Shelf
set_option linter.unusedVariables false
set_option linter.unusedSimpArgs false

/-- An id. -/
def idL (t n : Int) (d : List Int) : List Int := 60 :: ((sgL t ++ 46 :: sgL n) ++ 64 :: d) ++ [62]
theorem ok_atom {c : Int} (h : sgOk c) : atomC c = true := by
  unfold atomC labC edgeC
  rcases h with h | h <;> simp <;> omega
theorem sg_atom (n : Int) : atomZ (sgL n) = true := by
  unfold atomZ
  have h1 := (sgL_len n).2
  simp only [Bool.and_eq_true, Bool.not_eq_true', List.isEmpty_eq_false_iff, List.all_eq_true]
  exact ⟨h1, fun x hx => ok_atom (sgL_ok n x hx)⟩
theorem sg_not (n c : Int) (h : ¬ sgOk c) : c ∉ sgL n := fun q => h (sgL_ok n c q)
theorem loc_ok (t n : Int) : localZ (sgL t ++ 46 :: sgL n) = true := by
  unfold localZ atomsZ
  rw [pieces_app _ (sg_not t 46 (by unfold sgOk; omega)), pieces_none (sg_not n 46 (by unfold sgOk; omega))]
  have h1 := sgL_len t
  have h2 := sgL_len n
  simp only [List.all_cons, List.all_nil, sg_atom, Bool.and_true, decide_eq_true_eq, List.length_append, List.length_cons]
  omega
theorem right_swap {x y d : List Int} (h : rightZ [] x d = true) (hy : localZ y = true) : rightZ [] y d = true := by
  unfold rightZ at h ⊢
  simp only [Bool.and_eq_true] at h ⊢
  exact ⟨⟨hy, h.1.2⟩, h.2⟩
theorem id_ok {t n : Int} {d : List Int} (h : rightZ [] [120] d = true) : IdZ (idL t n d) := ⟨_, d, rfl, right_swap h (loc_ok t n)⟩
theorem lab_not {l : List Int} (h : labelZ l = true) {c : Int} (hc : labC c = false) : c ∉ l := by
  intro q
  unfold labelZ at h
  simp only [Bool.and_eq_true, List.all_eq_true] at h
  rw [h.1.1.2 c q] at hc
  cases hc
theorem dom_not {d : List Int} (h : (pieces 46 d).all labelZ = true) {c : Int} (hc : labC c = false) (h4 : c ≠ 46) : c ∉ d := by
  intro q
  rcases pieces_mem (c := 46) q with e | ⟨p, hp, hx⟩
  · exact h4 e
  · exact lab_not (List.all_eq_true.1 h p hp) hc hx
theorem loc_not {l : List Int} (h : atomsZ 46 l = true) {c : Int} (hc : atomC c = false) (h4 : c ≠ 46) : c ∉ l := by
  intro q
  rcases atoms_mem h q with e | e
  · exact h4 e
  · rw [e] at hc; cases hc
/-- An id is its front, and a sign that stands nowhere in it. -/
theorem id_front {l : List Int} (h : IdZ l) : ∃ b, l = 60 :: b ++ [62] ∧ (62 : Int) ∉ 60 :: b := by
  obtain ⟨a, d, rfl, hr⟩ := h
  obtain ⟨⟨_, h1⟩, ⟨_, h2⟩, _, _⟩ := right_parts hr
  refine ⟨a ++ 64 :: d, rfl, ?_⟩
  simp only [List.mem_cons, List.mem_append, not_or]
  exact ⟨by decide, loc_not h1 (by decide) (by decide), by decide, dom_not h2 (by decide) (by decide)⟩
theorem id_idx {l : List Int} (h : IdZ l) (r : List Int) : idxZ 62 (l ++ r) + 1 = l.length := by
  obtain ⟨b, rfl, hn⟩ := id_front h
  rw [List.append_assoc, show ([62] : List Int) ++ r = 62 :: r from rfl, idx_app r hn]
  simp
theorem id_trim {l : List Int} (h : IdZ l) (r : List Int) : trimQ (l ++ r) = l ++ r := by
  obtain ⟨b, rfl, hn⟩ := id_front h
  rw [List.cons_append, List.cons_append, trimQ, if_neg (by omega)]
theorem id_ne {l : List Int} (h : IdZ l) : l ≠ [] := by obtain ⟨b, rfl, hn⟩ := id_front h; simp
noncomputable def idB (l : List Int) : Bool := @decide (IdZ l) (Classical.propDecidable _)
theorem idB_iff (l : List Int) : idB l = true ↔ IdZ l := by unfold idB; exact @decide_eq_true_iff _ (Classical.propDecidable _)
/-- What stands before the end of the first id of a text. -/
def idEnd (l : List Int) : Nat := (idxZ 62 l + 1).toNat
/-- The ids of a text that has no blank at its front, behind others. -/
noncomputable def idsF : Nat → List Int → List (List Int) → Option (List (List Int))
  | 0, _, _ => none
  | n + 1, l, out => if l = [] then some out else if idB (l.take (idEnd l)) = true then idsF n (trimQ (l.drop (idEnd l))) (if out.length ≤ 64 then out ++ [l.take (idEnd l)] else out) else none
noncomputable def idsZ (l : List Int) : Option (List (List Int)) := idsF (l.length + 1) (trimQ l) []
theorem end_le (l : List Int) : idEnd l ≤ l.length := by unfold idEnd; rcases idx_ge 62 l with h | h <;> omega
theorem end_pos {l : List Int} (h : idB (l.take (idEnd l)) = true) : 0 < idEnd l := by
  rcases Nat.eq_zero_or_pos (idEnd l) with q | q
  · rw [q, List.take_zero, idB_iff] at h
    exact absurd rfl (id_ne h)
  · exact q
theorem ids_fuel : ∀ (n m : Nat) (l : List Int) (out : List (List Int)), l.length < n → l.length < m → idsF n l out = idsF m l out := by
  intro n
  induction n with
  | zero => intro m l _ h; omega
  | succ n ih =>
    intro m l out h1 h2
    cases m with
    | zero => omega
    | succ m =>
      rw [idsF, idsF]
      split
      · rfl
      · rename_i hl
        split
        · rename_i hb
          have hp := end_pos hb
          have hle := end_le l
          have ht := trim_len (l.drop (idEnd l))
          rw [List.length_drop] at ht
          exact ih m _ _ (by omega) (by omega)
        · rfl
theorem ids_step {n : Nat} {l r : List Int} {out : List (List Int)} (h : IdZ l) (ho : out.length ≤ 64) : idsF (n + 1) (l ++ r) out = idsF n (trimQ r) (out ++ [l]) := by
  have he : idEnd (l ++ r) = l.length := by unfold idEnd; rw [id_idx h]; omega
  have hne : l ++ r ≠ [] := by have := id_ne h; simp [this]
  rw [idsF, if_neg hne, he, List.take_left, List.drop_left, if_pos ((idB_iff l).2 h), if_pos ho]
theorem ids_nil (n : Nat) (out : List (List Int)) : idsF (n + 1) [] out = some out := by rw [idsF, if_pos rfl]
theorem ids_two {a b : List Int} (ha : IdZ a) (hb : IdZ b) : idsZ (a ++ b) = some [a, b] := by
  unfold idsZ
  have h1 := List.length_pos_iff.2 (id_ne ha)
  have h2 := List.length_pos_iff.2 (id_ne hb)
  have hs := id_trim ha b
  rw [hs, ids_fuel _ (2 + (a ++ b).length + 1) _ _ (by omega) (by omega)]
  have hb0 := id_trim hb []
  rw [List.append_nil] at hb0
  rw [ids_step ha (by simp), hb0]
  have := ids_step (n := 1 + (a ++ b).length) (r := []) (out := [a]) hb (by simp)
  rw [List.append_nil] at this
  rw [show 2 + (a ++ b).length = 1 + (a ++ b).length + 1 by omega]
  show idsF (1 + (a ++ b).length + 1) b [a] = _
  rw [this, show 1 + (a ++ b).length = (a ++ b).length + 1 by omega]
  exact ids_nil _ _
theorem trim_blank {c : Int} (h : c = 32 ∨ c = 9) (l : List Int) : trimQ (c :: l) = trimQ l := by rw [trimQ, if_pos h]
theorem ids_wide {a b : List Int} (ha : IdZ a) (hb : IdZ b) : idsZ (32 :: (a ++ 9 :: (b ++ [32]))) = some [a, b] := by
  unfold idsZ
  rw [trim_blank (.inl rfl), id_trim ha, ids_fuel _ (3 + (32 :: (a ++ 9 :: (b ++ [32]))).length) _ _ (by simp only [List.length_cons, List.length_append]; omega) (by simp only [List.length_cons, List.length_append]; omega)]
  generalize (32 :: (a ++ 9 :: (b ++ [32]))).length = z
  rw [show 3 + z = (z + 2) + 1 by omega, ids_step ha (by simp), trim_blank (.inr rfl), id_trim hb, show z + 2 = (z + 1) + 1 by omega, ids_step hb (by simp), trim_blank (.inl rfl)]
  exact ids_nil _ _
theorem id_inj {t n u m : Int} {d : List Int} (h0 : 0 ≤ t) (h1 : t ≤ 9223372036854775807) (h2 : 0 ≤ n) (h3 : n ≤ 9223372036854775807) (k0 : 0 ≤ u) (k1 : u ≤ 9223372036854775807) (k2 : 0 ≤ m) (k3 : m ≤ 9223372036854775807) (h : idL t n d = idL u m d) : t = u ∧ n = m := by
  unfold idL at h
  have e := List.append_cancel_right h
  simp only [List.cons.injEq, true_and] at e
  have e2 := List.append_cancel_right e
  have e3 := first_one (sg_not t 46 (by unfold sgOk; omega)) (sg_not u 46 (by unfold sgOk; omega)) e2
  exact ⟨sgL_inj h0 h1 k0 k1 e3.1, sgL_inj h2 h3 k2 k3 e3.2⟩
theorem id_ab : IdZ [60, 97, 64, 98, 62] := ⟨[97], [98], rfl, by decide +kernel⟩
theorem ids_bad : idsZ [60, 97, 64, 98, 62, 32, 99] = none := by
  unfold idsZ
  have h := id_trim id_ab [32, 99]
  rw [show [60, 97, 64, 98, 62, 32, 99] = ([60, 97, 64, 98, 62] : List Int) ++ [32, 99] from rfl, h]
  show idsF (7 + 1) _ _ = _
  rw [ids_step id_ab (by simp), trim_blank (.inl rfl)]
  show idsF (6 + 1) [99] _ = none
  rw [idsF, if_neg (by simp)]
  have e : idEnd [99] = 0 := by decide
  rw [e, if_neg]
  rw [idB_iff]
  intro q
  exact id_ne q rfl
def mayB (t n : Int) (d : List Int) : Bool := timeB t && decide (0 ≤ n) && rightZ [] [120] d
def idE (b : Bool) (s : ByteArray) : Ending := .returned (.tuple #[.string (if b = true then s else ⟨#[]⟩), .int .i64 (if b = true then 0 else 1)])
theorem id_str (t n : Int) (d : ByteArray) : (⟨#[60]⟩ : ByteArray) ++ strOfNums (sgL t) ++ ⟨#[46]⟩ ++ strOfNums (sgL n) ++ ⟨#[64]⟩ ++ d ++ ⟨#[62]⟩ = strOfNums (idL t n (nums d)) := by
  have e : ∀ c : UInt8, (⟨#[c]⟩ : ByteArray) = strOfNums [(c.toNat : Int)] := fun c => (str_nums ⟨#[c]⟩).symm.trans rfl
  rw [e 60, e 46, e 64, e 62]
  conv => lhs; rw [← str_nums d]
  rw [str_append, str_append, str_append, str_append, str_append, str_append]
  congr 1
  unfold idL
  simp [List.append_assoc]
theorem sg_size (n : Int) : (strOfNums (sgL n)).size ≤ 14 := by rw [so_size]; exact (sgL_len n).1
set_option maxHeartbeats 4000000 in
set_option maxRecDepth 100000 in
theorem id_any (t n : Int) (d : ByteArray) (w : World) (t0 : -9223372036854775808 ≤ t) (t1 : t ≤ 9223372036854775807) (n0 : -9223372036854775808 ≤ n) (n1 : n ≤ 9223372036854775807) (hd : d.size ≤ 1000000000) :
    Calls Tryd.prog 8 #[.int .i64 t, .int .i64 n, .string d] w fun e w' => e = idE (mayB t n (nums d)) (strOfNums (idL t n (nums d))) ∧ Below w.heap.size w w' := by
  have HM : Hid (mayB t n (nums d) = (timeB t && decide (0 ≤ n) && rightZ [] [120] (nums d))) := rfl
  have hw : ∀ V, Calls Tryd.prog 18 #[.int .i64 t] V fun e w' => e = .returned (.bool (timeB t)) ∧ V = w' := fun V => wright_any t V t0 t1
  cases htb : timeB t with
  | false =>
    have HE : Hid (mayB t n (nums d) = false) := by unfold Hid; rw [HM.out, htb]; rfl
    rw [htb] at hw
    go_enter Tryd.func8, Tryd.ntmps8
    go_wp2_with fail
    refine (hw _).mono ?_
    rintro e w' ⟨rfl, rfl⟩
    go_wp2
    go_ret2
    exact ⟨by rw [HE.out] <;> rfl, keep w _⟩
  | true =>
    rw [htb] at hw
    by_cases hn : 0 ≤ n
    · have hn2 : ¬ n < 0 := by omega
      have hn3 : decide (n < 0) = false := decide_eq_false hn2
      have HR : Hid (∀ V, Calls Tryd.prog 19 #[.agg #[.string ⟨#[]⟩, .string ⟨#[120]⟩, .string d]] V fun e w' => e = .returned (.bool (rightZ [] [120] (nums d))) ∧ Below V.heap.size V w') := fun V => right_any ⟨#[]⟩ ⟨#[120]⟩ d V (by decide) (by decide) hd
      cases hr : rightZ [] [120] (nums d) with
      | false =>
        rw [hr] at HR
        have HE : Hid (mayB t n (nums d) = false) := by unfold Hid; rw [HM.out, hr]; simp
        go_enter Tryd.func8, Tryd.ntmps8
        go_wp2_with fail
        refine (hw _).mono ?_
        rintro e w' ⟨rfl, rfl⟩
        go_wp2_with fail
        refine (HR.out _).mono ?_
        rintro e w2 ⟨rfl, hb2⟩
        have HB2 : Hid (Below w.heap.size w w2) := (keep w _).trans (hb2.mono (by simp))
        go_wp2
        go_ret2
        exact ⟨by rw [HE.out] <;> rfl, HB2.out⟩
      | true =>
        rw [hr] at HR
        have HE : Hid (mayB t n (nums d) = true) := by unfold Hid; rw [HM.out, hr, htb, decide_eq_true hn]; rfl
        have hdz := (right_parts hr).2.1.1
        rw [nums_len] at hdz
        unfold timeB at htb
        simp only [Bool.and_eq_true, decide_eq_true_eq] at htb
        have HT : Hid (∀ V, Calls Tryd.prog 20 #[.int .i64 t] V fun e w' => e = .returned (.string (strOfNums (sgL t))) ∧ Below V.heap.size V w') := fun V => signed_any t V htb.1 t1
        have HN : Hid (∀ V, Calls Tryd.prog 20 #[.int .i64 n] V fun e w' => e = .returned (.string (strOfNums (sgL n))) ∧ Below V.heap.size V w') := fun V => signed_any n V hn n1
        have hst := sg_size t
        have hsn := sg_size n
        have HID := id_str t n d
        obtain ⟨A, hA⟩ : ∃ A, strOfNums (sgL t) = A := ⟨_, rfl⟩
        obtain ⟨B, hB⟩ : ∃ B, strOfNums (sgL n) = B := ⟨_, rfl⟩
        rw [hA] at HT hst HID
        rw [hB] at HN hsn HID
        have HID : Hid _ := HID
        clear hA hB
        go_enter Tryd.func8, Tryd.ntmps8
        go_wp2_with fail
        refine (hw _).mono ?_
        rintro e w' ⟨rfl, rfl⟩
        go_wp2_with fail
        refine (HR.out _).mono ?_
        rintro e w2 ⟨rfl, hb2⟩
        have HB2 : Hid (Below w.heap.size w w2) := (keep w _).trans (hb2.mono (by simp))
        go_wp2_with fail
        refine (HT.out _).mono ?_
        rintro e w3 ⟨rfl, hb3⟩
        go_wp2_with fail
        refine (HN.out _).mono ?_
        rintro e w4 ⟨rfl, hb4⟩
        have HB4 : Hid (Below w.heap.size w w4) := HB2.out.trans ((hb3.trans (hb4.mono hb3.size)).mono HB2.out.size)
        go_wp2
        go_ret2
        exact ⟨by rw [HE.out, ← HID.out] <;> rfl, HB4.out⟩
    · have hn2 : n < 0 := by omega
      have hn3 : decide (n < 0) = true := decide_eq_true hn2
      have HE : Hid (mayB t n (nums d) = false) := by unfold Hid; rw [HM.out, decide_eq_false hn]; simp
      go_enter Tryd.func8, Tryd.ntmps8
      go_wp2_with fail
      refine (hw _).mono ?_
      rintro e w' ⟨rfl, rfl⟩
      go_wp2
      go_ret2
      exact ⟨by rw [HE.out] <;> rfl, keep w _⟩
end Go.Proofs.YtomcjkghneingabDoor
