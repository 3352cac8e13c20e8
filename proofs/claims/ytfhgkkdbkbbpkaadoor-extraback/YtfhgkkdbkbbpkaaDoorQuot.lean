/-
  What stands between two signs 34; the contracts of quoted, value and param.
-/
import Derived.Test.YtfhgkkdbkbbpkaaDoorRest
namespace Go.Proofs.YtfhgkkdbkbbpkaaDoor
open Go.RowKit
set_option linter.unusedVariables false

/-- A value and what stands behind it. -/
def quotR : List Int → Option (List Int × List Int)
  | [] => none
  | [c] => if c = 34 then some ([], []) else none
  | c :: d :: q => if c = 34 then some ([], d :: q) else if c = 92 then (quotR q).map fun x => (d :: x.1, x.2) else (quotR (d :: q)).map fun x => (c :: x.1, x.2)
theorem quot_34 (r : List Int) : quotR (34 :: r) = some ([], r) := by cases r <;> simp [quotR]
theorem quot_end : quotR [92] = none := by simp [quotR]
theorem quot_esc (d : Int) (q : List Int) : quotR (92 :: d :: q) = (quotR q).map fun x => (d :: x.1, x.2) := by simp [quotR]
theorem quot_oth {c : Int} (h1 : c ≠ 34) (h2 : c ≠ 92) (r : List Int) : quotR (c :: r) = (quotR r).map fun x => (c :: x.1, x.2) := by
  cases r
  · simp [quotR, h1]
  · rw [quotR, if_neg h1, if_neg h2]
def preO (pre : List Int) (x : Option (List Int × List Int)) : Option (List Int × List Int) := x.map fun x => (pre ++ x.1, x.2)
theorem preO_nil (x : Option (List Int × List Int)) : preO [] x = x := by cases x <;> rfl
theorem preO_snoc (pre : List Int) (c : Int) (x : Option (List Int × List Int)) : preO pre (x.map fun x => (c :: x.1, x.2)) = preO (pre ++ [c]) x := by
  cases x <;> simp [preO]
def Ans (b : Bool) (x : Option (List Int × List Int)) (v t : List Int) : Prop := (b = true → x = some (v, t)) ∧ (b = false → x = none)
theorem ans_t {x : Option (List Int × List Int)} {v t : List Int} (h : x = some (v, t)) : Ans true x v t := ⟨fun _ => h, fun q => by cases q⟩
theorem ans_f {x : Option (List Int × List Int)} {v t : List Int} (h : x = none) : Ans false x v t := ⟨fun q => (by cases q), fun _ => h⟩
theorem own_set {w : World} {B e size : Nat} {v : Value} {n : Nat} {xs : List Value} {f o : Nat} {u : Value} (hf : f < B) (h : w.ownsRow B e size v n xs) : (w.setCell ⟨f, o, none⟩ u).ownsRow B e size v n xs := by
  refine ⟨h.1, ?_⟩
  rcases h.2 with h | ⟨g, cap, cur, h1, h2, h3, h4⟩
  · exact .inl h
  · refine .inr ⟨g, cap, cur, h1, h2, ?_, h4⟩
    rw [heap_setCell_other _ _ _ _ (by simp; omega)]
    exact h3
set_option maxRecDepth 100000 in
set_option maxHeartbeats 4000000 in
theorem quoted_any (g : Nat) (t : ByteArray) (w : World) (h : Rs w g t) (hs : t.size ≤ 1000000000) :
    Calls Tryd.prog 101 #[.pointer (some ⟨g, 0, none⟩)] w fun e w' => ∃ v t' b, e = .returned (.tuple #[.string v, .bool b]) ∧ Rs w' g t' ∧ Kx g w w' ∧ Ans b (quotR (nums t)) (nums v) (nums t') := by
  obtain ⟨j0, hi, hz0, hz1, hz2⟩ := info_parts Tryd.info5
  have HR : Hid (Rs w g t) := h
  have hgw := h.lt
  clear h
  go_enter Tryd.func101, Tryd.ntmps101
  go_wp2
  go_loopw [4, 5] (fun v i wr => ∃ (k : Nat) (pre : List Int), i = .int .i64 k ∧ k ≤ t.size ∧ pre.length ≤ k ∧ Byt pre ∧ quotR (nums t) = preO pre (quotR ((nums t).drop k)) ∧ wr.ownsRow w.heap.size 5 1 v pre.length (pre.map (Value.int .u8)) ∧ Below w.heap.size w wr) (fun _ i _ => t.size - (intOf i).toNat)
  case atStart => exact ⟨0, [], rfl, by omega, by simp, by intro x hx; simp at hx, by rw [preO_nil]; rfl, ⟨rfl, .inl ⟨rfl, rfl⟩⟩, Below.refl _ _⟩
  case round =>
    obtain ⟨k, pre, rfl, hk, hpl, hpb, hq, hown, hb⟩ := hrel
    have HQ : Hid (quotR (nums t) = preO pre (quotR ((nums t).drop k))) := hq
    have HB : Hid (Below w.heap.size w wr) := hb
    have HO : Hid (wr.ownsRow w.heap.size 5 1 u4 pre.length (pre.map (Value.int .u8))) := hown
    have HP : Hid (Byt pre) := hpb
    have HRr : Hid (Rs wr g t) := HR.out.below hb
    have hc := HRr.out.cell
    have hf := HRr.out.frozen
    have hsz : w.heap.size ≤ wr.heap.size := hb.size
    clear hq hb hown hpb
    by_cases hlt : k < t.size
    · have HD : Hid ((nums t).drop k = (t[k].toNat : Int) :: (nums t).drop (k + 1)) := nums_drop t k hlt
      have hcb : (t[k].toNat : Int) < 256 := by have := t[k].toNat_lt; omega
      have hc0 : (0 : Int) ≤ (t[k].toNat : Int) := by omega
      obtain ⟨c, hcc⟩ : ∃ c : Int, ((t[k]'hlt).toNat : Int) = c := ⟨_, rfl⟩
      rw [hcc] at HD hcb hc0
      by_cases h34 : c = 34
      · subst h34
        have HE : Hid (quotR (nums t) = some (pre, (nums t).drop (k + 1))) := by
          unfold Hid; rw [HQ.out, HD.out, quot_34]; simp [preO]
        obtain ⟨a8, cap8, hv, hc8, hm8, hrow8, hn8⟩ := own_row' (own_set (f := g) (o := 0) (u := .string (t.extract (k + 1) t.size)) hgw HO.out)
        have kc := conv_row pre.length cap8 rfl hrow8
        subst hv
        clear hrow8
        go_wp2
        go_ret2
        exact ⟨_, _, true, rfl, HRr.out.set _, (Kx.of HB.out hgw).trans (Kx.set _ _ _), ans_t (by rw [HE.out, nums_str HP.out, nums_from])⟩
      · have hb34 : (c == 34) = false := by rw [beq_eq_false_iff_ne]; exact h34
        by_cases h92 : c = 92
        · subst h92
          by_cases hlast : k + 1 = t.size
          · have hbl : ((k : Int) + 1 == (t.size : Int)) = true := by rw [beq_iff_eq]; omega
            have HE : Hid (quotR (nums t) = none) := by
              unfold Hid; rw [HQ.out, HD.out, List.drop_of_length_le (by rw [nums_len]; omega), quot_end]; rfl
            go_wp2
            go_ret2
            exact ⟨_, _, false, rfl, HRr.out, Kx.of HB.out hgw, ans_f HE.out⟩
          · have hbl : ((k : Int) + 1 == (t.size : Int)) = false := by rw [beq_eq_false_iff_ne]; omega
            have hlt2 : k + 1 < t.size := by omega
            have HD2 : Hid ((nums t).drop (k + 1) = (t[k + 1].toNat : Int) :: (nums t).drop (k + 2)) := nums_drop t (k + 1) hlt2
            have hdb : (t[k + 1].toNat : Int) < 256 := by have := t[k + 1].toNat_lt; omega
            have hd0 : (0 : Int) ≤ (t[k + 1].toNat : Int) := by omega
            obtain ⟨d, hdd⟩ : ∃ d : Int, ((t[k + 1]'hlt2).toNat : Int) = d := ⟨_, rfl⟩
            rw [hdd] at HD2 hdb hd0
            have HE : Hid (quotR (nums t) = preO (pre ++ [d]) (quotR ((nums t).drop (k + 2)))) := by
              unfold Hid; rw [HQ.out, HD.out, HD2.out, ← preO_snoc, quot_esc]
            go_wp2_with (at_builtin; refine wpList_append_own _ rfl (.tmp 46) (.tmp 53) 31 rfl w.heap.size 5 j0 (.int .u8 0) 1 1 Tryd.underlying31 hi hz0 hz1 hz2 rfl (by decide) _ _ _ rfl (HO.out.alloc _) ⟨wr.heap.size, 0, none⟩ 1 1 ([d].map (Value.int .u8)) rfl rfl (cells_new _ _ _) (ints_one _) ?a1 ?a2 ?a3 ?_)
            case a1 => unfold maxLen; omega
            case a2 => omega
            case a3 => simp; omega
            intro v3 w3 hown3 hgrow3 _
            have HB3 : Hid (Below w.heap.size w w3) := (HB.out.alloc hsz _).grown hgrow3 (by simp; omega) (fun k hk => (HO.out.lt k hk).1)
            have HO3 : Hid (w3.ownsRow w.heap.size 5 1 v3 (pre ++ [d]).length ((pre ++ [d]).map (Value.int .u8))) := by
              unfold Hid; rw [List.length_append, List.map_append]; exact hown3
            clear hown3 hgrow3
            go_wp2
            go_roundw
            case rel => exact ⟨k + 2, pre ++ [d], by go_num, by omega, by simp; omega, HP.out.append (by intro x hx; simp at hx; subst hx; exact ⟨hd0, hdb⟩), HE.out, HO3.out, HB3.out⟩
            case measure => simp [intOf]; omega
        · have hb92 : (c == 92) = false := by rw [beq_eq_false_iff_ne]; exact h92
          have HE : Hid (quotR (nums t) = preO (pre ++ [c]) (quotR ((nums t).drop (k + 1)))) := by
            unfold Hid; rw [HQ.out, HD.out, ← preO_snoc, quot_oth h34 h92]
          go_wp2_with (at_builtin; refine wpList_append_own _ rfl (.tmp 46) (.tmp 53) 31 rfl w.heap.size 5 j0 (.int .u8 0) 1 1 Tryd.underlying31 hi hz0 hz1 hz2 rfl (by decide) _ _ _ rfl (HO.out.alloc _) ⟨wr.heap.size, 0, none⟩ 1 1 ([c].map (Value.int .u8)) rfl rfl (cells_new _ _ _) (ints_one _) ?a1 ?a2 ?a3 ?_)
          case a1 => unfold maxLen; omega
          case a2 => omega
          case a3 => simp; omega
          intro v3 w3 hown3 hgrow3 _
          have HB3 : Hid (Below w.heap.size w w3) := (HB.out.alloc hsz _).grown hgrow3 (by simp; omega) (fun k hk => (HO.out.lt k hk).1)
          have HO3 : Hid (w3.ownsRow w.heap.size 5 1 v3 (pre ++ [c]).length ((pre ++ [c]).map (Value.int .u8))) := by
            unfold Hid; rw [List.length_append, List.map_append]; exact hown3
          clear hown3 hgrow3
          go_wp2
          go_roundw
          case rel => exact ⟨k + 1, pre ++ [c], by go_num, by omega, by simp; omega, HP.out.append (by intro x hx; simp at hx; subst hx; exact ⟨hc0, hcb⟩), HE.out, HO3.out, HB3.out⟩
          case measure => simp [intOf]; omega
    · have HE : Hid (quotR (nums t) = none) := by
        unfold Hid; rw [HQ.out, List.drop_of_length_le (by rw [nums_len]; omega)]; rfl
      go_wp2
      go_ret2
      exact ⟨_, _, false, rfl, HRr.out, Kx.of HB.out hgw, ans_f HE.out⟩
/-- A token, or what stands between two signs 34. -/
def valueR (l : List Int) : Option (List Int × List Int) :=
  if signB 34 l = true then quotR (signR 34 l) else if tokenZ (l.takeWhile tokC) = true then some (l.takeWhile tokC, l.dropWhile tokC) else none
set_option maxRecDepth 100000 in
theorem sign_le (c : Int) (l : List Int) : (signR c l).length ≤ l.length := by
  unfold signR; split <;> simp
set_option maxRecDepth 100000 in
theorem value_any (g : Nat) (t : ByteArray) (w : World) (h : Rs w g t) (hs : t.size ≤ 1000000000) :
    Calls Tryd.prog 82 #[.pointer (some ⟨g, 0, none⟩)] w fun e w' => ∃ v t' b, e = .returned (.tuple #[.string v, .bool b]) ∧ Rs w' g t' ∧ Kx g w w' ∧ Ans b (valueR (nums t)) (nums v) (nums t') := by
  cases hb : signB 34 (nums t) with
  | true =>
    have HV : Hid (valueR (nums t) = quotR (signR 34 (nums t))) := by unfold Hid valueR; rw [if_pos hb]
    go_enter Tryd.func82, Tryd.ntmps82
    go_wp2_with fail
    refine (sign_any g 34 t _ h).mono ?_
    rintro e w1 ⟨rfl, t1, hr1, ht1, hk1⟩
    rw [hb]
    have hs1 : t1.size ≤ 1000000000 := by rw [← nums_len, ht1]; have := sign_le 34 (nums t); rw [nums_len] at this; omega
    have HT1 : Hid (nums t1 = signR 34 (nums t)) := ht1
    have HK1 : Hid (Kx g w w1) := hk1
    clear ht1 hk1
    go_wp2_with (go_at_call 101; refine (quoted_any g t1 _ hr1 hs1).mono ?_; rintro e w2 ⟨v, t2, b, rfl, hr2, hk2, ha⟩)
    go_ret2
    exact ⟨v, t2, b, rfl, hr2, HK1.out.trans hk2, by rw [HV.out, ← HT1.out]; exact ha⟩
  | false =>
    have HV : Hid (valueR (nums t) = if tokenZ ((nums t).takeWhile tokC) = true then some ((nums t).takeWhile tokC, (nums t).dropWhile tokC) else none) := by
      unfold Hid valueR; rw [if_neg (by rw [hb]; simp)]
    have HS : Hid (signR 34 (nums t) = nums t) := by unfold Hid signR; rw [if_neg (by rw [hb]; simp)]
    go_enter Tryd.func82, Tryd.ntmps82
    go_wp2_with fail
    refine (sign_any g 34 t _ h).mono ?_
    rintro e w1 ⟨rfl, t1, hr1, ht1, hk1⟩
    rw [hb]
    rw [HS.out] at ht1
    obtain rfl := nums_inj ht1
    have HK1 : Hid (Kx g w w1) := hk1
    clear ht1 hk1
    go_wp2_with fail
    refine (word_any g t1 _ hr1 hs).mono ?_
    rintro e w2 ⟨x, t2, rfl, hx, hr2, ht2, hk2⟩
    have hxs : x.size ≤ 1000000000 := by
      rw [← nums_len, hx]; have := takeWhile_le tokC (nums t1); rw [nums_len] at this; omega
    have HX : Hid (nums x = (nums t1).takeWhile tokC) := hx
    have HR2 : Hid (Rs w2 g t2) := hr2
    have HT2 : Hid (nums t2 = (nums t1).dropWhile tokC) := ht2
    have HK2 : Hid (Kx g w w2) := HK1.out.trans hk2
    clear hx hr2 ht2 hk2 hr1
    go_wp2_with (go_at_call 53; refine (isToken_any x _ hxs).mono ?_; rintro e w3 ⟨rfl, rfl⟩)
    go_ret2
    refine ⟨x, t2, _, rfl, HR2.out, HK2.out, ?_, ?_⟩
    · intro ht; rw [HX.out] at ht; rw [HV.out, if_pos ht, HX.out, HT2.out]
    · intro ht; rw [HX.out] at ht; rw [HV.out, if_neg (by rw [ht]; simp)]
/-- A parameter and what stands behind it. -/
def paramR (l : List Int) : Option ((List Int × List Int) × List Int) :=
  if signB 61 (l.dropWhile tokC) = true then (valueR (signR 61 (l.dropWhile tokC))).map fun x => (((l.takeWhile tokC).map smallZ, x.1), x.2) else none
def AnsP (b : Bool) (x : Option ((List Int × List Int) × List Int)) (n v t : List Int) : Prop := (b = true → x = some ((n, v), t)) ∧ (b = false → x = none)
theorem dropWhile_le (p : Int → Bool) : ∀ l : List Int, (l.dropWhile p).length ≤ l.length
  | [] => by simp
  | c :: l => by
    rw [List.dropWhile_cons]; split
    · have := dropWhile_le p l; simp; omega
    · simp
theorem Kx.block {g : Nat} {w w' : World} (h : Kx g w w') {k : Nat} (hk : k ≠ g) (hlt : k < w.heap.size) : w'.heap[k]? = w.heap[k]? := by
  rcases Nat.lt_or_ge k g with q | q
  · exact h.1.block k q
  · exact h.2 k (by omega) hlt
theorem Kx.res {g : Nat} (w : World) (f o : Nat) (u : Value) {w0 : World} (h : Kx g w0 w) (hg : g < w0.heap.size) (hf : w0.heap.size ≤ f) : Kx g w0 (w.setCell ⟨f, o, none⟩ u) :=
  ⟨h.1.setCell (p := ⟨f, o, none⟩) (by simp; omega) u, fun k h1 h2 => (heap_setCell_other _ _ _ _ (by simp; omega)).trans (h.2 k h1 h2)⟩
theorem Rs.other {w : World} {g f o : Nat} {u : Value} {t : ByteArray} (h : Rs w g t) (hf : f ≠ g) : Rs (w.setCell ⟨f, o, none⟩ u) g t := (heap_setCell_other _ _ _ _ (by simpa using Ne.symm hf)).trans h
set_option maxHeartbeats 4000000 in
set_option maxRecDepth 100000 in
theorem param_any (g : Nat) (t : ByteArray) (w : World) (h : Rs w g t) (hs : t.size ≤ 1000000000) :
    Calls Tryd.prog 64 #[.pointer (some ⟨g, 0, none⟩)] w fun e w' => ∃ n v t' b, e = .returned (.tuple #[.agg #[.string n, .string v], .bool b]) ∧ Rs w' g t' ∧ Kx g w w' ∧ AnsP b (paramR (nums t)) (nums n) (nums v) (nums t') := by
  have hgw := h.lt
  go_enter Tryd.func64, Tryd.ntmps64
  go_wp2_with fail
  refine (name_any g t _ (h.below (keep w _)) hs).mono ?_
  rintro e w1 ⟨n, t1, rfl, hn, hr1, ht1, hk1⟩
  have hs1 : t1.size ≤ 1000000000 := by rw [← nums_len, ht1]; have := dropWhile_le tokC (nums t); rw [nums_len] at this; omega
  have HN : Hid (nums n = ((nums t).takeWhile tokC).map smallZ) := hn
  have HT1 : Hid (nums t1 = (nums t).dropWhile tokC) := ht1
  have HK1 : Hid (Kx g w w1) := (Kx.of (keep w _) hgw).trans hk1
  have HW1 : Hid (w1.heap[w.heap.size]? = some (.cells #[.string ⟨#[]⟩, .string ⟨#[]⟩] 37 (0, 0))) := by
    unfold Hid; rw [hk1.block (by omega) (by simp)]; exact heap_alloc_last w _
  have hgs : g ≠ w.heap.size := by omega
  have HR1 : Hid (Rs w1 g t1) := hr1
  clear hn ht1 hk1 h hr1
  cases hb : signB 61 (nums t1) with
  | false =>
    have HP : Hid (paramR (nums t) = none) := by unfold Hid paramR; rw [← HT1.out, if_neg (by rw [hb]; simp)]
    go_wp2_with fail
    refine (sign_any g 61 t1 _ HR1.out).mono ?_
    rintro e w2 ⟨rfl, t2, hr2, ht2, hk2⟩
    rw [hb]
    have HK2 : Hid (Kx g w w2) := HK1.out.trans hk2
    have hW2 : w2.heap[w.heap.size]? = some (.cells #[.string ⟨#[]⟩, .string ⟨#[]⟩] 37 (0, 0)) := (hk2.block (Ne.symm hgs) (Array.getElem?_eq_some_iff.1 HW1.out).1).trans HW1.out
    have HR2 : Hid (Rs w2 g t2) := hr2
    have d0 : w2.cell? ⟨w.heap.size, 0, none⟩ = some (.string ⟨#[]⟩) := by rw [cell_of_row _ _ _ _ _ _ hW2]; rfl
    have d1 : w2.cell? ⟨w.heap.size, 1, none⟩ = some (.string ⟨#[]⟩) := by rw [cell_of_row _ _ _ _ _ _ hW2]; rfl
    have e0 : w2.frozen? ⟨w.heap.size, 0, none⟩ = false := frozen_of_row _ _ _ _ _ hW2
    have e1 : w2.frozen? ⟨w.heap.size, 1, none⟩ = false := frozen_of_row _ _ _ _ _ hW2
    have hq1 := heap_setCell_same _ _ 0 _ 37 (.string ⟨#[]⟩) hW2
    have hq2 := heap_setCell_same _ _ 1 _ 37 (.string ⟨#[]⟩) hq1
    have hx0 := cell_of_row _ _ 0 _ _ _ hq2
    have hx1 := cell_of_row _ _ 1 _ _ _ hq2
    have HX0 : Hid (_ = _) := hx0
    have HX1 : Hid (_ = _) := hx1
    clear hr2 ht2 hk2 hW2 hq1 hq2 hx0 hx1
    go_wp2
    (try simp only [Exit.inBlock, Exit.then])
    have hx0 := HX0.out
    have hx1 := HX1.out
    refine bodyPost_ret (v := .tuple #[.agg #[.string ⟨#[]⟩, .string ⟨#[]⟩], .bool false]) (by simp [results, Tryd.results64, go_sem, hx0, hx1]) rfl ⟨_, _, t2, false, rfl, ?_, ?_, And.intro (fun q => by cases q) (fun _ => HP.out)⟩
    · exact (HR2.out.other (Ne.symm hgs)).other (Ne.symm hgs)
    · exact (HK2.out.res w2 _ _ _ hgw (Nat.le_refl _)).res _ _ _ _ hgw (Nat.le_refl _)
  | true =>
    have HP : Hid (paramR (nums t) = (valueR (signR 61 (nums t1))).map fun x => ((nums n, x.1), x.2)) := by unfold Hid paramR; rw [← HT1.out, if_pos hb, HN.out]
    go_wp2_with fail
    refine (sign_any g 61 t1 _ HR1.out).mono ?_
    rintro e w2 ⟨rfl, t2, hr2, ht2, hk2⟩
    rw [hb]
    have hs2 : t2.size ≤ 1000000000 := by rw [← nums_len, ht2]; have := sign_le 61 (nums t1); rw [nums_len] at this; omega
    have HK2 : Hid (Kx g w w2) := HK1.out.trans hk2
    have HW2 : Hid (w2.heap[w.heap.size]? = some (.cells #[.string ⟨#[]⟩, .string ⟨#[]⟩] 37 (0, 0))) := (hk2.block (Ne.symm hgs) (Array.getElem?_eq_some_iff.1 HW1.out).1).trans HW1.out
    have HR2 : Hid (Rs w2 g t2) := hr2
    have HT2 : Hid (nums t2 = signR 61 (nums t1)) := ht2
    clear hr2 ht2 hk2
    go_wp2_with fail
    refine (value_any g t2 _ HR2.out hs2).mono ?_
    rintro e w3 ⟨v, t3, b, rfl, hr3, hk3, ha⟩
    have HK3 : Hid (Kx g w w3) := HK2.out.trans hk3
    have hW3 : w3.heap[w.heap.size]? = some (.cells #[.string ⟨#[]⟩, .string ⟨#[]⟩] 37 (0, 0)) := (hk3.block (Ne.symm hgs) (Array.getElem?_eq_some_iff.1 HW2.out).1).trans HW2.out
    have HR3 : Hid (Rs w3 g t3) := hr3
    have HA : Hid (Ans b (valueR (nums t2)) (nums v) (nums t3)) := ha
    have d0 : w3.cell? ⟨w.heap.size, 0, none⟩ = some (.string ⟨#[]⟩) := by rw [cell_of_row _ _ _ _ _ _ hW3]; rfl
    have d1 : w3.cell? ⟨w.heap.size, 1, none⟩ = some (.string ⟨#[]⟩) := by rw [cell_of_row _ _ _ _ _ _ hW3]; rfl
    have e0 : w3.frozen? ⟨w.heap.size, 0, none⟩ = false := frozen_of_row _ _ _ _ _ hW3
    have e1 : w3.frozen? ⟨w.heap.size, 1, none⟩ = false := frozen_of_row _ _ _ _ _ hW3
    have hq1 := heap_setCell_same _ _ 0 _ 37 (.string n) hW3
    have hq2 := heap_setCell_same _ _ 1 _ 37 (.string v) hq1
    have hx0 := cell_of_row _ _ 0 _ _ _ hq2
    have hx1 := cell_of_row _ _ 1 _ _ _ hq2
    have HX0 : Hid (_ = _) := hx0
    have HX1 : Hid (_ = _) := hx1
    clear hr3 hk3 ha hW3 hq1 hq2 hx0 hx1
    go_wp2
    (try simp only [Exit.inBlock, Exit.then])
    have hx0 := HX0.out
    have hx1 := HX1.out
    refine bodyPost_ret (v := .tuple #[.agg #[.string n, .string v], .bool b]) (by simp [results, Tryd.results64, go_sem, hx0, hx1]) rfl ⟨n, v, t3, b, rfl, ?_, ?_, ?_, ?_⟩
    · exact (HR3.out.other (Ne.symm hgs)).other (Ne.symm hgs)
    · exact (HK3.out.res w3 _ _ _ hgw (Nat.le_refl _)).res _ _ _ _ hgw (Nat.le_refl _)
    · intro q; rw [HP.out, ← HT2.out, HA.out.1 q]; rfl
    · intro q; rw [HP.out, ← HT2.out, HA.out.2 q]; rfl
end Go.Proofs.YtfhgkkdbkbbpkaaDoor
