/-
  The reference's shut and Parts.
-/
import Derived.Test.YtnpjffpioimcdaaDoorRef1
import Derived.Test.YtnpjffpioimcdaaDoorBack
namespace Go.Proofs.YtnpjffpioimcdaaDoor
open Go.RowKit
set_option linter.unusedVariables false

theorem one_field (w : World) (s t : ByteArray) : FRow (w.alloc (.cells #[.string s, .string t] 44)) (some ⟨w.heap.size, 0, none⟩) [(s, t)] := by
  refine .inr ⟨w.heap.size, 0, rfl, fun i f hf => ?_⟩
  match i, hf with
  | 0, hf =>
    simp at hf
    subst hf
    exact ⟨World.cell?_alloc_mark _ _ _ _ _, World.cell?_alloc_mark _ _ _ _ _⟩
theorem flatF_get : ∀ (fs : List (ByteArray × ByteArray)) (j : Nat) (u : Value), (fs.flatMap cellF)[j]? = some u → ∃ i f, fs[i]? = some f ∧ ((j = i * 2 ∧ u = .string f.1) ∨ (j = i * 2 + 1 ∧ u = .string f.2))
  | [], j, u, h => by simp at h
  | f :: fs, j, u, h => by
    rw [List.flatMap_cons] at h
    match j, h with
    | 0, h => simp [cellF] at h; exact ⟨0, f, rfl, .inl ⟨rfl, h.symm⟩⟩
    | 1, h => simp [cellF] at h; exact ⟨0, f, rfl, .inr ⟨rfl, h.symm⟩⟩
    | j + 2, h =>
      rw [List.getElem?_append_right (by simp [cellF])] at h
      obtain ⟨i, g, hg, hh⟩ := flatF_get fs j u (by simpa [cellF] using h)
      exact ⟨i + 1, g, by simpa using hg, by
        rcases hh with ⟨h1, h2⟩ | ⟨h1, h2⟩
        · exact .inl ⟨by omega, h2⟩
        · exact .inr ⟨by omega, h2⟩⟩
theorem app_one {w : World} {ops : Array Oper} {rest : List Oper} {o : Oper} {a : Act} {Q : Exit → Act → World → Prop} (hgd : o.guard = none) (s x : Operand)
    (ho : o.op = .call { callee := .builtin .append, args := #[s, x], argTypes := #[24, 24] }) (B : Nat) (v : Value) (xs : List (ByteArray × ByteArray)) (hs : a.eval s = v) (hown : OwnF w B v xs)
    (nm vl : ByteArray) (hx : a.eval x = .slice (some ⟨w.heap.size, 0, none⟩) 1 1) (hb : xs.length ≤ 1000000) (hbase : B ≤ w.heap.size)
    (h : ∀ v' w', OwnF w' B v' (xs ++ [(nm, vl)]) → Below B w w' → wpList Tryd.prog ops Q rest (a.put o.dst v') w') : wpList Tryd.prog ops Q (o :: rest) a (w.alloc (.cells #[.string nm, .string vl] 44)) := by
  obtain ⟨j0, hi, hz0, hz1, hz2⟩ := info_parts Tryd.info44
  refine wpList_append_own _ hgd s x 24 ho B 44 j0 _ 2 32 Tryd.underlying24 hi hz0 hz1 hz2 rfl (by decide) v xs.length _ hs (own_keep hown (keep w _)) ⟨w.heap.size, 0, none⟩ 1 1 (cellF (nm, vl)) hx rfl ?_ ?_ (by unfold maxLen; omega) (by omega) (by simp; omega) (fun v' w' h1 h2 _ => h v' w' ?_ ?_)
  · intro j u hu
    exact cell_two_new w _ _ 44 j u hu
  · intro u hu
    simp [cellF] at hu
    rcases hu with rfl | rfl <;> rfl
  · unfold OwnF
    rw [List.length_append, List.flatMap_append]
    simpa using h1
  · refine ((keep w _).mono hbase).trans ((Below.refl _ _).grown h2 (by simp; omega) ?_)
    intro k hk
    rcases hown.2 with ⟨rfl, _⟩ | ⟨g, cp, cur, rfl, h2, _⟩
    · simp [Value.ownBlock] at hk
    · simp [Value.ownBlock] at hk; omega
set_option maxRecDepth 100000 in
set_option maxHeartbeats 4000000 in
theorem rshut_any (B : Nat) (v : Value) (fs : List (ByteArray × ByteArray)) (at' : Int) (nm tx : ByteArray) (w : World) (hB : B ≤ w.heap.size) (ho : OwnF w B v fs) (hfs : fs.length ≤ 128) (htx : tx.size ≤ 10000000000) (ok : Bool) (hok : ok = (decide (at' < 0) || (valueZ (trimZ (nums tx)) && !decide (fs.length = 128)))) (gs : List (ByteArray × ByteArray)) (hgs : gs = if at' < 0 then fs else if valueZ (trimZ (nums tx)) = true ∧ fs.length ≠ 128 then fs ++ [(nm, strOfNums (trimZ (nums tx)))] else fs) :
    Calls Tryd.prog 25 #[v, .agg #[.int .i64 at', .string nm, .string tx]] w fun e w' => (∃ v', e = .returned (.tuple #[v', .bool ok]) ∧
      OwnF w' B v' gs) ∧ Below B w w' := by
  obtain ⟨av, cv, rfl, _⟩ := ownF_view ho
  have HO : Hid (OwnF w B (.slice av fs.length cv) fs) := ho
  have HOK : Hid (ok = (decide (at' < 0) || (valueZ (trimZ (nums tx)) && !decide (fs.length = 128)))) := hok
  have HGS : Hid (gs = if at' < 0 then fs else if valueZ (trimZ (nums tx)) = true ∧ fs.length ≠ 128 then fs ++ [(nm, strOfNums (trimZ (nums tx)))] else fs) := hgs
  clear ho hok hgs
  by_cases ha : at' < 0
  · have hd : decide (at' < 0) = true := by simpa using ha
    go_enter Tryd.func25, Tryd.ntmps25
    go_wp2
    go_ret2
    have hbl : ok = true := by rw [HOK.out]; simp [ha]
    subst hbl
    refine ⟨⟨_, rfl, ?_⟩, (keep w _).mono hB⟩
    rw [show gs = fs from by rw [HGS.out, if_pos (by omega)]]
    exact own_keep HO.out (keep w _)
  have hd : decide (at' < 0) = false := by simpa using ha
  go_enter Tryd.func25, Tryd.ntmps25
  go_wp2_with fail
  refine (rTrim_any tx _ htx).mono ?_
  rintro e w' ⟨t, rfl, ht, rfl⟩
  have q1 : (w.alloc (.cells #[.int .i64 at', .string nm, .string tx] 57)).cell? ⟨w.heap.size, 1, none⟩ = some (.string nm) := World.cell?_alloc_mark _ _ _ _ _
  have HK : Hid (Below w.heap.size w (w.alloc (.cells #[.int .i64 at', .string nm, .string tx] 57))) := keep w _
  obtain ⟨W1, hW1⟩ : ∃ W1, w.alloc (.cells #[.int .i64 at', .string nm, .string tx] 57) = W1 := ⟨_, rfl⟩
  rw [hW1] at q1 HK ⊢
  clear hW1
  have hlW : w.heap.size ≤ W1.heap.size := HK.out.size
  have HT : Hid (nums t = trimZ (nums tx)) := ht
  have htz : t.size ≤ 10000000000 := by rw [← nums_len, ht]; have := trimZ_len (nums tx); rw [nums_len] at this; omega
  have hst : Hid (strOfNums (trimZ (nums tx)) = t) := by unfold Hid; rw [← ht, str_nums]
  clear ht
  go_wp2_with fail
  refine (rValue_any t _ htz).mono ?_
  rintro e w' ⟨rfl, rfl⟩
  rw [HT.out]
  cases hv : valueZ (trimZ (nums tx)) with
  | false =>
    go_wp2
    go_ret2
    have hbl : ok = false := by rw [HOK.out, hv]; simp; omega
    subst hbl
    refine ⟨⟨_, rfl, ?_⟩, HK.out.mono hB⟩
    rw [show gs = fs from by rw [HGS.out, if_neg (by omega), hv, if_neg (by simp)]]
    exact own_keep HO.out HK.out
  | true =>
    by_cases h8 : fs.length = 128
    · have hd8 : decide ((fs.length : Int) ≥ 128) = true := by simp; omega
      go_wp2
      go_ret2
      have hbl : ok = false := by rw [HOK.out, hv]; simp [h8]; omega
      subst hbl
      refine ⟨⟨_, rfl, ?_⟩, HK.out.mono hB⟩
      rw [show gs = fs from by rw [HGS.out, if_neg (by omega), if_neg (fun q => q.2 h8)]]
      have h : OwnF W1 B (.slice av fs.length cv) fs := own_keep HO.out HK.out
      rw [h8] at h
      exact h
    · have hd8 : decide ((fs.length : Int) ≥ 128) = false := by simp; omega
      go_wp2_with (at_builtin; refine app_one rfl (.tmp 23) (.tmp 28) rfl B (.slice av fs.length cv) fs rfl (own_keep HO.out HK.out) nm t rfl (by omega) (by omega) ?_)
      intro v2 w2 ho2 hb2
      have HO2 : Hid (OwnF w2 B v2 (fs ++ [(nm, t)])) := ho2
      have HB2 : Hid (Below B w w2) := (HK.out.mono hB).trans hb2
      obtain ⟨a2, c2, rfl, _⟩ := ownF_view ho2
      clear ho2 hb2
      go_wp2
      go_ret2
      have hbl : ok = true := by rw [HOK.out, hv]; simp [h8]
      subst hbl
      refine ⟨⟨_, rfl, ?_⟩, HB2.out⟩
      rw [show gs = fs ++ [(nm, t)] from by rw [HGS.out, if_neg (by omega), if_pos ⟨hv, h8⟩, hst.out]]
      exact HO2.out
/-- The first part at a colon. -/
def partZ (l : List Int) : List Int := if 0 ≤ colonI l then l.take (colonI l).toNat else l
theorem Tryd.info9 : (Tryd.prog.info? 9).map (fun i => (i.zero, i.size, i.bytes)) = some (some (.string ⟨#[]⟩), 1, 16) := by kernel_rfl
theorem colon_none : ∀ (l : List Int), (∀ j : Nat, l[j]? ≠ some 58) → colonI l = -1
  | [], _ => rfl
  | c :: l, h => by
    have h0 := h 0
    have ih := colon_none l (fun j => by have := h (j + 1); simpa using this)
    unfold colonI
    rw [if_neg (by simpa using h0), if_pos ih]
theorem colon_first : ∀ (l : List Int) (i : Nat), l[i]? = some 58 → (∀ j, j < i → l[j]? ≠ some 58) → colonI l = i
  | [], i, h, _ => by simp at h
  | c :: l, i, h, hn => by
    unfold colonI
    cases i with
    | zero => rw [if_pos (by simpa using h)]; rfl
    | succ i =>
      have ih := colon_first l i (by simpa using h) (fun j hj => by have := hn (j + 1) (by omega); simpa using this)
      have h0 := hn 0 (by omega)
      rw [if_neg (by simpa using h0), ih, if_neg (by omega)]
      simp
set_option maxRecDepth 100000 in
set_option maxHeartbeats 4000000 in
theorem parts_any (s : ByteArray) (w : World) (hs : s.size ≤ 1000000) : Calls Tryd.prog 26 #[.string s, .int .u8 58] w fun e w' => (∃ g n c t, e = .returned (.slice (some ⟨g, 0, none⟩) (n + 1) c) ∧ w'.cell? ⟨g, 0, none⟩ = some (.string t) ∧ nums t = partZ (nums s)) ∧ Below w.heap.size w w' := by
  obtain ⟨j0, hi, hz0, hz1, hz2⟩ := info_parts Tryd.info9
  go_enter Tryd.func26, Tryd.ntmps26
  go_wp2
  go_loopw [5, 6, 7] (fun v f i wr => ∃ (k fr : Nat) (xs : List ByteArray), f = .int .i64 fr ∧ i = .int .i64 k ∧ k ≤ s.size + 1 ∧ fr ≤ k ∧ xs.length ≤ k ∧ wr.ownsRow w.heap.size 9 1 v xs.length (xs.map Value.string) ∧ (xs = [] → fr = 0 ∧ k ≤ s.size ∧ ∀ j, j < k → (nums s)[j]? ≠ some 58) ∧ (∀ t r, xs = t :: r → nums t = partZ (nums s)) ∧ Below w.heap.size w wr) (fun _ _ i _ => s.size + 1 - (intOf i).toNat)
  case atStart => exact ⟨0, 0, [], rfl, rfl, by omega, by omega, by simp, World.ownsRow_nil _ _ _ _, fun _ => ⟨rfl, by omega, fun j hj => by omega⟩, by simp, Below.refl _ _⟩
  case round =>
    obtain ⟨k, fr, xs, rfl, rfl, hk, hf, hx, ho, he, hh, hb⟩ := hrel
    have HO : Hid (wr.ownsRow w.heap.size 9 1 u5 xs.length (xs.map Value.string)) := ho
    have HE : Hid (xs = [] → fr = 0 ∧ k ≤ s.size ∧ ∀ j, j < k → (nums s)[j]? ≠ some 58) := he
    have HH : Hid (∀ t r, xs = t :: r → nums t = partZ (nums s)) := hh
    have HB : Hid (Below w.heap.size w wr) := hb
    have hsz : w.heap.size ≤ wr.heap.size := hb.size
    clear ho he hh hb
    by_cases hlt : k ≤ s.size
    · have hd : decide ((k : Int) ≤ (s.size : Int)) = true := by simp; omega
      have cut : (k = s.size ∨ (nums s)[k]? = some 58) → (∀ t r, xs ++ [s.extract fr k] = t :: r → nums t = partZ (nums s)) := by
        intro hc t r ht
        cases xs with
        | nil =>
          simp at ht
          obtain ⟨rfl, _⟩ := ht
          obtain ⟨rfl, _, hno⟩ := HE.out rfl
          rw [nums_to]
          unfold partZ
          rcases hc with rfl | hc
          · have : colonI (nums s) = -1 := colon_none _ (fun j => by
              rcases Nat.lt_or_ge j s.size with h | h
              · exact hno j h
              · rw [List.getElem?_eq_none (by rw [nums_len]; exact h)]; simp)
            rw [this, if_neg (by omega), List.take_of_length_le (by rw [nums_len]; exact Nat.le_refl _)]
          · have : colonI (nums s) = k := colon_first _ k hc hno
            rw [this, if_pos (by omega)]; rfl
        | cons t' r' =>
          simp at ht
          obtain ⟨rfl, _⟩ := ht
          exact HH.out _ _ rfl
      have CUT : Hid (_ → _) := cut
      clear cut
      by_cases hcut : k = s.size ∨ (nums s)[k]? = some 58
      · have HCU : Hid (∀ t r, xs ++ [s.extract fr k] = t :: r → nums t = partZ (nums s)) := CUT.out hcut
        rcases hcut with rfl | hc
        · have hd2 : ((s.size : Int) == (s.size : Int)) = true := by simp
          clear CUT
          go_wp2_with (at_builtin; refine wpList_append_own _ rfl (.tmp 25) (.tmp 30) 61 rfl w.heap.size 9 j0 (.string ⟨#[]⟩) 1 16 Tryd.underlying61 hi hz0 hz1 hz2 rfl (by decide) _ xs.length _ rfl (own_keep HO.out (keep wr _)) ⟨wr.heap.size, 0, none⟩ 1 1 [.string (s.extract fr s.size)] rfl rfl (cells_new wr _ 9) (by simp [Value.oneCell']) (by unfold maxLen; omega) (by omega) (by simp; omega) ?_)
          intro v2 w2 ho2 hg2 _
          have HO2 : Hid (w2.ownsRow w.heap.size 9 1 v2 (xs ++ [s.extract fr s.size]).length ((xs ++ [s.extract fr s.size]).map Value.string)) := by unfold Hid; simpa using ho2
          have HB2 : Hid (Below w.heap.size w w2) := (HB.out.alloc hsz _).trans ((Below.refl _ _).grown hg2 (by simp; omega) (fun q hq => by
            rcases HO.out.2 with ⟨h, _⟩ | ⟨g, cp, cur, h, h2, _⟩
            · rw [h] at hq; simp [Value.ownBlock] at hq
            · rw [h] at hq; simp [Value.ownBlock] at hq; omega))
          clear ho2 hg2
          go_wp2
          go_roundw
          case rel => exact ⟨s.size + 1, s.size + 1, xs ++ [s.extract fr s.size], by go_num, by go_num, by omega, by omega, by simp; omega, HO2.out, by simp, HCU.out, HB2.out⟩
          case measure => simp [intOf]
        · have hkl : k < s.size := by
            rcases Nat.lt_or_ge k s.size with h | h
            · exact h
            · rw [List.getElem?_eq_none (by rw [nums_len]; exact h)] at hc; simp at hc
          have hd2 : ((k : Int) == (s.size : Int)) = false := by rw [beq_eq_false_iff_ne]; omega
          have hc58 : (s[k].toNat : Int) = 58 := by rw [nums_at s k hkl] at hc; simpa using hc
          clear CUT hc
          go_wp2_with (at_builtin; refine wpList_append_own _ rfl (.tmp 25) (.tmp 30) 61 rfl w.heap.size 9 j0 (.string ⟨#[]⟩) 1 16 Tryd.underlying61 hi hz0 hz1 hz2 rfl (by decide) _ xs.length _ rfl (own_keep HO.out (keep wr _)) ⟨wr.heap.size, 0, none⟩ 1 1 [.string (s.extract fr k)] rfl rfl (cells_new wr _ 9) (by simp [Value.oneCell']) (by unfold maxLen; omega) (by omega) (by simp; omega) ?_)
          intro v2 w2 ho2 hg2 _
          have HO2 : Hid (w2.ownsRow w.heap.size 9 1 v2 (xs ++ [s.extract fr k]).length ((xs ++ [s.extract fr k]).map Value.string)) := by unfold Hid; simpa using ho2
          have HB2 : Hid (Below w.heap.size w w2) := (HB.out.alloc hsz _).trans ((Below.refl _ _).grown hg2 (by simp; omega) (fun q hq => by
            rcases HO.out.2 with ⟨h, _⟩ | ⟨g, cp, cur, h, h2, _⟩
            · rw [h] at hq; simp [Value.ownBlock] at hq
            · rw [h] at hq; simp [Value.ownBlock] at hq; omega))
          clear ho2 hg2
          go_wp2
          go_roundw
          case rel => exact ⟨k + 1, k + 1, xs ++ [s.extract fr k], by go_num, by go_num, by omega, by omega, by simp; omega, HO2.out, by simp, HCU.out, HB2.out⟩
          case measure => simp [intOf]; omega
      · have hkl : k < s.size := by omega
        have hd2 : ((k : Int) == (s.size : Int)) = false := by rw [beq_eq_false_iff_ne]; omega
        have hne : (nums s)[k]? ≠ some 58 := fun h => hcut (.inr h)
        have hc58 : ((s[k].toNat : Int) == 58) = false := by rw [beq_eq_false_iff_ne]; intro h; exact hne (by rw [nums_at s k hkl, h])
        have HNE : Hid ((nums s)[k]? ≠ some 58) := hne
        clear CUT hcut hne
        go_wp2
        go_roundw
        case rel => exact ⟨k + 1, fr, xs, rfl, by go_num, by omega, by omega, by omega, HO.out, fun h => by
            obtain ⟨h1, h2, h3⟩ := HE.out h
            refine ⟨h1, by omega, fun j hj => ?_⟩
            by_cases hjk : j = k
            · subst hjk; exact HNE.out
            · exact h3 j (by omega), HH.out, HB.out⟩
        case measure => simp [intOf]; omega
    · have hd : decide ((k : Int) ≤ (s.size : Int)) = false := by simp; omega
      obtain ⟨t, r, hxs⟩ : ∃ t r, xs = t :: r := by
        cases xs with
        | nil => have := (HE.out rfl).2.1; omega
        | cons t r => exact ⟨t, r, rfl⟩
      have HN : Hid (nums t = partZ (nums s)) := HH.out t r hxs
      subst hxs
      obtain ⟨g, c, hv⟩ : ∃ g c, u5 = .slice (some ⟨g, 0, none⟩) (r.length + 1) c := by
        rcases HO.out.2 with ⟨_, h⟩ | ⟨g, cp, cur, h, _⟩
        · simp at h
        · exact ⟨g, cp, h⟩
      subst hv
      have hcell : wr.cell? ⟨g, 0, none⟩ = some (.string t) := by
        have := HO.out.cells (g := g) rfl 0 (.string t) (by simp)
        rw [add_plain] at this
        simpa using this
      go_wp2
      go_ret
      exact ⟨⟨g, r.length, c, t, rfl, hcell, HN.out⟩, HB.out⟩
end Go.Proofs.YtnpjffpioimcdaaDoor
