/-
  A field more is found, and counted, whatever its name's letters (P6.1): for every list of fields, field and name the statement FieldsNames answers true, and leaves its arguments as they were.
-/
import Derived.Test.YtnpjffpioimcdaaDoorCards
import Derived.Test.YtnpjffpioimcdaaDoorTie
import Derived.Test.YtnpjffpioimcdaaDoorArgs
import Derived.Test.YtnpjffpioimcdaaDoorAlive
import Derived.WalkKit
import Derived.ProofKit
import Derived.OpenShut
import Derived.ShutString
import Derived.ChangeOld
import Derived.Below
import Derived.LaidMore
import Derived.Lay
import Derived.SevenTiedAt
import Derived.Stop.Joined
namespace Go.Proofs.YtnpjffpioimcdaaDoor.fieldsNames
open Go.ChangeShapes Go.WideShapes Go.ChangeAt Go.RowKit
open Go.ChangeMaps (open_string shut_string)
set_option linter.unusedVariables false

theorem one_row (w : World) (s t : ByteArray) : FRow (w.alloc (.cells #[.string s, .string t] 44)) (some ⟨w.heap.size, 0, none⟩) [(s, t)] := by
  refine .inr ⟨w.heap.size, 0, rfl, fun i f hf => ?_⟩
  match i, hf with
  | 0, hf =>
    simp at hf
    subst hf
    exact ⟨World.cell?_alloc_mark _ _ _ _ _, World.cell?_alloc_mark _ _ _ _ _⟩
def addG (nm : List Int) (f : ByteArray × ByteArray) (p : ByteArray × Nat) : ByteArray × Nat := if sameZ (nums f.1) nm = true then (if p.2 = 0 then f.2 else p.1, p.2 + 1) else p
theorem getZ_append (nm : List Int) (f : ByteArray × ByteArray) : ∀ (fs : List (ByteArray × ByteArray)) (v : ByteArray) (n : Nat), getZ nm (fs ++ [f]) v n = addG nm f (getZ nm fs v n)
  | [], v, n => by
    simp only [List.nil_append, getZ, addG]
    rfl
  | g :: fs, v, n => by
    rw [List.cons_append, getZ, getZ]
    by_cases h : sameZ (nums g.1) nm = true
    · rw [if_pos h, if_pos h]; exact getZ_append nm f fs _ _
    · rw [if_neg h, if_neg h]; exact getZ_append nm f fs _ _
theorem getZ_le (nm : List Int) : ∀ (fs : List (ByteArray × ByteArray)) (v : ByteArray) (n : Nat), (getZ nm fs v n).2 ≤ n + fs.length
  | [], v, n => by simp [getZ]
  | g :: fs, v, n => by
    simp only [getZ]
    split
    · have := getZ_le nm fs (if n = 0 then g.2 else v) (n + 1); simp only [List.length_cons]; omega
    · have := getZ_le nm fs v n; simp only [List.length_cons]; omega

theorem flat_get : ∀ (fs : List (ByteArray × ByteArray)) (j : Nat) (u : Value), (fs.flatMap cellF)[j]? = some u → ∃ i f, fs[i]? = some f ∧ ((j = i * 2 ∧ u = .string f.1) ∨ (j = i * 2 + 1 ∧ u = .string f.2))
  | [], j, u, h => by simp at h
  | f :: fs, j, u, h => by
    rw [List.flatMap_cons] at h
    match j, h with
    | 0, h => simp [cellF] at h; exact ⟨0, f, rfl, .inl ⟨rfl, h.symm⟩⟩
    | 1, h => simp [cellF] at h; exact ⟨0, f, rfl, .inr ⟨rfl, h.symm⟩⟩
    | j + 2, h =>
      rw [List.getElem?_append_right (by simp [cellF])] at h
      obtain ⟨i, g, hg, hh⟩ := flat_get fs j u (by simpa [cellF] using h)
      exact ⟨i + 1, g, by simpa using hg, by
        rcases hh with ⟨h1, h2⟩ | ⟨h1, h2⟩
        · exact .inl ⟨by omega, h2⟩
        · exact .inr ⟨by omega, h2⟩⟩
theorem flat_len (fs : List (ByteArray × ByteArray)) : (fs.flatMap cellF).length = fs.length * 2 := by
  induction fs with
  | nil => rfl
  | cons f fs ih => rw [List.flatMap_cons, List.length_append, ih]; simp [cellF]; omega
theorem app_fields {w : World} {ops : Array Oper} {rest : List Oper} {o : Oper} {a : Act} {Q : Exit → Act → World → Prop} (hgd : o.guard = none) (s x : Operand)
    (ho : o.op = .call { callee := .builtin .append, args := #[s, x], argTypes := #[24, 24] }) (B : Nat) (v : Value) (xs : List (ByteArray × ByteArray)) (hs : a.eval s = v) (hown : OwnF w B v xs)
    (ad : Option Addr) (m c : Nat) (fs : List (ByteArray × ByteArray)) (hx : a.eval x = .slice ad m c) (hl : fs.length = m) (hnil : ad = none → c = 0) (hrow : FRow w ad fs) (hb : xs.length + m ≤ 1000000) (hbase : B ≤ w.heap.size)
    (h : ∀ v' w', OwnF w' B v' (xs ++ fs) → w.grownBy w' v.ownBlock → wpList Tryd.prog ops Q rest (a.put o.dst v') w') : wpList Tryd.prog ops Q (o :: rest) a w := by
  obtain ⟨j0, hi, hz0, hz1, hz2⟩ := info_parts Tryd.info44
  cases ad with
  | none =>
    have hl0 : fs = [] := by
      rcases hrow with h | ⟨b, off, h, _⟩
      · exact h
      · cases h
    subst hl0
    obtain rfl : m = 0 := by simpa using hl.symm
    obtain rfl : c = 0 := hnil rfl
    refine wpList_append_own_none hgd s x 24 ho B 44 j0 2 Tryd.underlying24 hi v xs.length _ hs hown hx ?_
    exact h v w (by simpa using hown) ⟨rfl, rfl, rfl, Nat.le_refl _, fun _ _ _ => rfl⟩
  | some y =>
    refine wpList_append_own w hgd s x 24 ho B 44 j0 _ 2 32 Tryd.underlying24 hi hz0 hz1 hz2 rfl (by decide) v xs.length _ hs hown y m c (fs.flatMap cellF) hx (by rw [flat_len, hl]) ?_ ?_ (by unfold maxLen; omega) (by omega) hbase (fun v' w' h1 h2 _ => h v' w' ?_ h2)
    · intro j u hu
      obtain ⟨i, f, hf, hh⟩ := flat_get fs j u hu
      rcases hrow with rfl | ⟨b, off, hy, hc⟩
      · simp at hf
      · obtain rfl : y = ⟨b, off, none⟩ := by simpa using hy
        rw [add_plain]
        have := hc i f hf
        rcases hh with ⟨rfl, rfl⟩ | ⟨rfl, rfl⟩
        · exact this.1
        · rw [← Nat.add_assoc]; exact this.2
    · intro u hu
      obtain ⟨f, _, hf⟩ := List.mem_flatMap.1 hu
      simp [cellF] at hf
      rcases hf with rfl | rfl <;> rfl
    · unfold OwnF
      rw [List.length_append, hl, List.flatMap_append]
      exact h1
theorem or_small : ∀ n : Nat, n < 256 → 97 ≤ bits .or .u8 (n : Int) 32 → bits .or .u8 (n : Int) 32 ≤ 122 → smallZ (n : Int) = bits .or .u8 (n : Int) 32 := by decide +kernel
theorem same_take {l m : List Int} {k : Nat} {c d : Int} (h : (l.take k).map smallZ = (m.take k).map smallZ) (hl : l[k]? = some c) (hm : m[k]? = some d) (hc : smallZ c = smallZ d) : (l.take (k + 1)).map smallZ = (m.take (k + 1)).map smallZ := by
  rw [List.take_add_one, List.take_add_one, hl, hm]
  simp only [Option.toList_some, List.map_append, h, List.map_cons, hc, List.map_nil]
set_option maxRecDepth 100000 in
set_option maxHeartbeats 4000000 in
theorem walk (a0 : Option Addr) (len0 cap0 : Nat) (fs : List (ByteArray × ByteArray)) (s t tr : ByteArray) (w : World) (w0 : IsFs w a0 len0 cap0 fs) (hs : s.size ≤ maxLen) (ht : t.size ≤ maxLen) (htr : tr.size ≤ maxLen) (hm : Mx w) :
    Calls Tryd.prog 8 #[.slice a0 len0 cap0, .agg #[.string s, .string t], .string tr] w fun e w' => e = .returned (.bool true) ∧ Below w.heap.size w w' := by
  obtain ⟨hn, hlc, hcm, hfr, hnil, _⟩ := w0
  unfold maxLen at hcm hs ht htr
  have HM : Hid (Mx w) := hm
  have HF : Hid (FRow w a0 fs) := hfr
  clear hm hfr
  go_enter Tryd.func8, Tryd.ntmps8
  go_wp2_with fail
  refine (great_any a0 len0 cap0 fs _ hn (by omega) (HF.out.below (keep w _))).mono ?_
  rintro e w' ⟨rfl, rfl⟩
  cases hg1 : greatZ fs with
  | true =>
    go_wp2_with fail
    refine (alive_any _ (HM.out.keep (keep w _))).mono ?_
    rintro e w2 ⟨rfl, hb2⟩
    go_wp2
    go_ret
    exact ⟨rfl, (keep w _).trans (hb2.mono (by simp))⟩
  | false =>
  obtain ⟨g1, g2⟩ := great_mem hg1
  have HG2 : Hid (∀ f ∈ fs, f.1.size ≤ 200 ∧ f.2.size ≤ 5000) := g2
  clear hg1 g2
  go_wp2_with fail
  have hrow1 : FRow ((w.alloc (.cells #[.string s, .string t] 44)).alloc (.cells #[.string s, .string t] 44)) (some ⟨w.heap.size + 1, 0, none⟩) [(s, t)] := by
    have h := one_row (w.alloc (.cells #[.string s, .string t] 44)) s t
    rw [World.size_alloc] at h
    exact h
  refine (great_any (some ⟨w.heap.size + 1, 0, none⟩) 1 1 [(s, t)] ((w.alloc (.cells #[.string s, .string t] 44)).alloc (.cells #[.string s, .string t] 44)) rfl (by omega) hrow1).mono ?_
  rintro e w' ⟨rfl, rfl⟩
  have HB2 : Hid (Below w.heap.size w ((w.alloc (.cells #[.string s, .string t] 44)).alloc (.cells #[.string s, .string t] 44))) := (keep w _).trans ((keep _ _).mono (by simp))
  cases hg2 : greatZ [(s, t)] with
  | true =>
    go_wp2_with fail
    refine (alive_any _ (HM.out.keep HB2.out)).mono ?_
    rintro e w2 ⟨rfl, hb2⟩
    go_wp2
    go_ret
    exact ⟨rfl, HB2.out.trans (hb2.mono (by simp; omega))⟩
  | false =>
  have hst := (great_mem hg2).2 (s, t) (by simp)
  clear hg2
  simp only at hst
  have q0 : ((w.alloc (.cells #[.string s, .string t] 44)).alloc (.cells #[.string s, .string t] 44)).cell? ⟨w.heap.size, 0, none⟩ = some (.string s) := by
    rw [(keep _ _).cell (p := ⟨w.heap.size, 0, none⟩) (by simp)]; exact World.cell?_alloc_mark _ _ _ _ _
  have q1 : ((w.alloc (.cells #[.string s, .string t] 44)).alloc (.cells #[.string s, .string t] 44)).cell? ⟨w.heap.size, 1, none⟩ = some (.string t) := by
    rw [(keep _ _).cell (p := ⟨w.heap.size, 1, none⟩) (by simp)]; exact World.cell?_alloc_mark _ _ _ _ _
  have hsz2 : ((w.alloc (.cells #[.string s, .string t] 44)).alloc (.cells #[.string s, .string t] 44)).heap.size = w.heap.size + 2 := by simp
  obtain ⟨W, hW⟩ : ∃ W, (w.alloc (.cells #[.string s, .string t] 44)).alloc (.cells #[.string s, .string t] 44) = W := ⟨_, rfl⟩
  rw [hW] at HB2 q0 q1 hsz2 ⊢
  clear hW
  by_cases hle : tr.size = s.size
  · have hd : ((tr.size : Int) != (s.size : Int)) = false := by simp [hle]
    go_wp2
    go_loopw [7] (fun i wr => ∃ k : Nat, i = .int .i64 k ∧ k ≤ s.size ∧ ((nums s).take k).map smallZ = ((nums tr).take k).map smallZ ∧ Qt W wr) (fun i _ => s.size - (intOf i).toNat)
    case atStart => exact ⟨0, rfl, by omega, by simp, 0, rfl⟩
    case round =>
      obtain ⟨k, rfl, hk, hsm, hqt⟩ := hrel
      have HS : Hid (((nums s).take k).map smallZ = ((nums tr).take k).map smallZ) := hsm
      have c0 : wr.cell? ⟨w.heap.size, 0, none⟩ = some (.string s) := by obtain ⟨q, rfl⟩ := hqt; exact q0
      have c1 : wr.cell? ⟨w.heap.size, 1, none⟩ = some (.string t) := by obtain ⟨q, rfl⟩ := hqt; exact q1
      have HQ : Hid (Qt W wr) := hqt
      have hwz : wr.heap.size = w.heap.size + 2 := by rw [hqt.size, hsz2]
      clear hsm hqt q0 q1
      by_cases hlt : k < s.size
      · have hd1 : decide ((k : Int) < (tr.size : Int)) = true := by simp; omega
        have hl1 : k < s.size := hlt
        have hl2 : k < tr.size := by omega
        go_wp2
        go_quiet (fail)
        have HB3 : Hid (Below w.heap.size w (wr.drewN nq)) := HB2.out.trans ((HQ.out.below _).trans (Qt.below ⟨nq, rfl⟩ _))
        have HN1 : Hid ((nums s)[k]? = some (s[k].toNat : Int)) := nums_at s k hl1
        have HN2 : Hid ((nums tr)[k]? = some (tr[k].toNat : Int)) := nums_at tr k hl2
        have hx := or_small s[k].toNat s[k].toNat_lt
        have hy := or_small tr[k].toNat tr[k].toNat_lt
        obtain ⟨A, hA⟩ : ∃ A, bits .or .u8 (s[k].toNat : Int) 32 = A := ⟨_, rfl⟩
        obtain ⟨B, hB⟩ : ∃ B, bits .or .u8 (tr[k].toNat : Int) 32 = B := ⟨_, rfl⟩
        rw [hA] at hx ⊢
        rw [hB] at hy ⊢
        have HX : Hid (97 ≤ A → A ≤ 122 → smallZ (s[k].toNat : Int) = A) := hx
        have HY : Hid (97 ≤ B → B ≤ 122 → smallZ (tr[k].toNat : Int) = B) := hy
        clear hx hy hA hB
        by_cases hAB : A = B
        · subst hAB
          by_cases h97 : A < 97
          · have hd2 : decide (A < 97) = true := by simpa using h97
            go_wp2_with fail
            refine (alive_any _ (HM.out.keep HB3.out)).mono ?_
            rintro e w2 ⟨rfl, hb2⟩
            go_wp2
            go_ret
            exact ⟨rfl, HB3.out.trans (hb2.mono (by simp; omega))⟩
          by_cases h122 : 122 < A
          · have hd2 : decide (A < 97) = false := by simpa using h97
            have hd3 : decide (A > 122) = true := by simpa using h122
            go_wp2_with fail
            refine (alive_any _ (HM.out.keep HB3.out)).mono ?_
            rintro e w2 ⟨rfl, hb2⟩
            go_wp2
            go_ret
            exact ⟨rfl, HB3.out.trans (hb2.mono (by simp; omega))⟩
          have hd2 : decide (A < 97) = false := by simpa using h97
          have hd3 : decide (A > 122) = false := by simpa using h122
          go_wp2
          go_roundw
          case rel => exact ⟨k + 1, by go_num, by omega, same_take HS.out HN1.out HN2.out ((HX.out (by omega) (by omega)).trans (HY.out (by omega) (by omega)).symm), HQ.out.trans ⟨nq, rfl⟩⟩
          case measure => simp [intOf]; omega
        · have hd2 : (A != B) = true := by simpa using hAB
          go_wp2_with fail
          refine (alive_any _ (HM.out.keep HB3.out)).mono ?_
          rintro e w2 ⟨rfl, hb2⟩
          go_wp2
          go_ret
          exact ⟨rfl, HB3.out.trans (hb2.mono (by simp; omega))⟩
      · obtain rfl : k = s.size := by omega
        have hd1 : decide ((s.size : Int) < (tr.size : Int)) = false := by simp; omega
        have HSAME : Hid (sameZ (nums s) (nums tr) = true) := by
          have h := HS.out
          rw [List.take_of_length_le (by rw [nums_len]; omega), List.take_of_length_le (by rw [nums_len]; omega)] at h
          unfold Hid sameZ
          exact decide_eq_true h
        have hrw := HF.out.below (HB2.out.trans (HQ.out.below _))
        have hsn : OwnF wr (w.heap.size + 2) (.slice none 0 0) [] := ⟨by simp, .inl ⟨rfl, rfl⟩⟩
        go_wp2_with (at_builtin; refine app_fields rfl _ _ rfl (w.heap.size + 2) (.slice none 0 0) [] rfl hsn a0 len0 cap0 fs rfl hn hnil hrw (by simp; omega) (by omega) ?_)
        intro v1 w1 hown1 hgrow1
        have hown1' : OwnF w1 (w.heap.size + 2) v1 fs := hown1
        have hb1 : Below (w.heap.size + 2) wr w1 := (Below.refl _ _).grown hgrow1 (by omega) (fun k hk => by simp [Value.ownBlock] at hk)
        have d0 : w1.cell? ⟨w.heap.size, 0, none⟩ = some (.string s) := (hb1.cell (p := ⟨w.heap.size, 0, none⟩) (by simp)).trans c0
        have d1 : w1.cell? ⟨w.heap.size, 1, none⟩ = some (.string t) := (hb1.cell (p := ⟨w.heap.size, 1, none⟩) (by simp)).trans c1
        obtain ⟨a1, cp1, rfl, hf1⟩ := ownF_view hown1'
        have HO1 : Hid (OwnF w1 (w.heap.size + 2) (.slice a1 fs.length cp1) fs) := hown1'
        have HB1 : Hid (Below w.heap.size w w1) := (HB2.out.trans (HQ.out.below _)).trans (hb1.mono (by omega))
        have hs1 : w.heap.size + 2 ≤ w1.heap.size := by have := hb1.size; omega
        clear hown1 hown1' hgrow1 hb1 hrw hsn c0 c1 hf1 hrow1
        have hrow2 := one_row w1 s t
        go_wp2_with (at_builtin; refine app_fields rfl _ _ rfl (w.heap.size + 2) (.slice a1 fs.length cp1) fs rfl (own_keep HO1.out (keep w1 _)) (some ⟨w1.heap.size, 0, none⟩) 1 1 [(s, t)] rfl rfl (by simp) hrow2 (by omega) (by simp; omega) ?_)
        intro v2 w2 hown2 hgrow2
        have hb2 : Below (w.heap.size + 2) w1 w2 := ((keep w1 (.cells #[.string s, .string t] 44)).mono (by omega)).trans ((Below.refl _ _).grown hgrow2 (by simp; omega) (fun k hk => by
          rcases HO1.out.2 with ⟨h, _⟩ | ⟨b, cap, cur, h, h2, _⟩
          · rw [hn] at h; rw [h] at hk; simp [Value.ownBlock] at hk
          · rw [hn] at h; rw [h] at hk; simp [Value.ownBlock] at hk; omega))
        have e0 : w2.cell? ⟨w.heap.size, 0, none⟩ = some (.string s) := (hb2.cell (p := ⟨w.heap.size, 0, none⟩) (by simp)).trans d0
        have e1 : w2.cell? ⟨w.heap.size, 1, none⟩ = some (.string t) := (hb2.cell (p := ⟨w.heap.size, 1, none⟩) (by simp)).trans d1
        obtain ⟨a2, cp2, rfl, hf2⟩ := ownF_view hown2
        have hB2' : Below w.heap.size w w2 := HB1.out.trans (hb2.mono (by omega))
        have HBB : Hid (Below w.heap.size w w2) := hB2'
        have hs2 : w.heap.size + 2 ≤ w2.heap.size := by have := hb2.size; omega
        have HFA : Hid (FRow w2 a2 (fs ++ [(s, t)])) := hf2
        have hfl : (fs ++ [(s, t)]).length = len0 + 1 := by simp [hn]
        have hG1 := get_any a0 len0 cap0 tr fs w2 hn (by omega) (HF.out.below hB2') (fun f hf => by have := HG2.out f hf; omega)
        obtain ⟨⟨gv, gn⟩, hgv⟩ : ∃ p, getZ (nums tr) fs ⟨#[]⟩ 0 = p := ⟨_, rfl⟩
        have hgn : gn ≤ 200 := by have := getZ_le (nums tr) fs ⟨#[]⟩ 0; rw [hgv] at this; simp at this; omega
        have HGA : Hid (getZ (nums tr) (fs ++ [(s, t)]) ⟨#[]⟩ 0 = (if gn = 0 then t else gv, gn + 1)) := by
          unfold Hid; rw [getZ_append, hgv, addG, if_pos HSAME.out]
        obtain ⟨av, hav⟩ : ∃ av, (if gn = 0 then t else gv) = av := ⟨_, rfl⟩
        rw [hav] at HGA
        have HAV : Hid ((gn = 0 → av = t) ∧ (gn ≠ 0 → av = gv)) := ⟨fun h => by rw [← hav, if_pos h], fun h => by rw [← hav, if_neg h]⟩
        rw [hgv] at hG1
        clear hav
        clear hown2 hgrow2 hb2 hf2 hB2' d0 d1 hrow2 hgv
        go_wp2_with fail
        refine hG1.mono ?_
        clear hG1
        rintro e w3 ⟨rfl, hb3⟩
        have hG2 := get_any a2 (len0 + 1) cp2 tr (fs ++ [(s, t)]) w3 hfl (by omega) (HFA.out.below hb3) (fun f hf => by
          rcases List.mem_append.1 hf with h | h
          · have := HG2.out f h; omega
          · simp at h; subst h; simp only; omega)
        rw [HGA.out] at hG2
        have f0 : w3.cell? ⟨w.heap.size, 0, none⟩ = some (.string s) := (hb3.cell (p := ⟨w.heap.size, 0, none⟩) (by simp; omega)).trans e0
        have f1 : w3.cell? ⟨w.heap.size, 1, none⟩ = some (.string t) := (hb3.cell (p := ⟨w.heap.size, 1, none⟩) (by simp; omega)).trans e1
        have hs3 : w.heap.size + 2 ≤ w3.heap.size := Nat.le_trans hs2 hb3.size
        have HB3 : Hid (Below w.heap.size w w3) := HBB.out.trans (hb3.mono (by omega))
        clear hb3 e0 e1
        go_wp2_with fail
        refine hG2.mono ?_
        clear hG2
        rintro e w4 ⟨rfl, hb4⟩
        have g0 : w4.cell? ⟨w.heap.size, 0, none⟩ = some (.string s) := (hb4.cell (p := ⟨w.heap.size, 0, none⟩) (by simp; omega)).trans f0
        have g1' : w4.cell? ⟨w.heap.size, 1, none⟩ = some (.string t) := (hb4.cell (p := ⟨w.heap.size, 1, none⟩) (by simp; omega)).trans f1
        have hs4 : w.heap.size + 2 ≤ w4.heap.size := Nat.le_trans hs3 hb4.size
        have HB4 : Hid (Below w.heap.size w w4) := HB3.out.trans (hb4.mono (by omega))
        clear hb4 f0 f1
        go_wp2_with fail
        refine (alive_any w4 (HM.out.keep HB4.out)).mono ?_
        rintro e w5 ⟨rfl, hb5⟩
        have h0 : w5.cell? ⟨w.heap.size, 0, none⟩ = some (.string s) := (hb5.cell (p := ⟨w.heap.size, 0, none⟩) (by simp; omega)).trans g0
        have h1 : w5.cell? ⟨w.heap.size, 1, none⟩ = some (.string t) := (hb5.cell (p := ⟨w.heap.size, 1, none⟩) (by simp; omega)).trans g1'
        have hs5 : w.heap.size + 2 ≤ w5.heap.size := Nat.le_trans hs4 hb5.size
        have HB5 : Hid (Below w.heap.size w w5) := HB4.out.trans (hb5.mono (by omega))
        clear hb5 g0 g1'
        go_wp2_with fail
        refine (same_any s tr w5 (by omega)).mono ?_
        rw [HSAME.out]
        rintro e w6 ⟨rfl, hb6⟩
        have i1 : w6.cell? ⟨w.heap.size, 1, none⟩ = some (.string t) := (hb6.cell (p := ⟨w.heap.size, 1, none⟩) (by simp; omega)).trans h1
        have HB6 : Hid (Below w.heap.size w w6) := HB5.out.trans (hb6.mono (by omega))
        clear hb6 h0 h1
        by_cases hg0 : gn = 0
        · obtain rfl : av = t := HAV.out.1 hg0
          subst hg0
          go_wp2
          go_ret
          exact ⟨rfl, HB6.out⟩
        · obtain rfl : av = gv := HAV.out.2 hg0
          have hgd : decide ((gn : Int) > 0) = true := by simp; omega
          go_wp2
          go_ret
          exact ⟨rfl, HB6.out⟩
  · have hd : ((tr.size : Int) != (s.size : Int)) = true := by simp; omega
    go_wp2_with fail
    refine (alive_any _ (HM.out.keep HB2.out)).mono ?_
    rintro e w2 ⟨rfl, hb2⟩
    go_wp2
    go_ret
    exact ⟨rfl, HB2.out.trans (hb2.mono (by omega))⟩

set_option maxRecDepth 100000 in
theorem lifted (os : Os) (started : os.Started) (H : Type) (enc : TypeId × Value → H) :
    ReturnsInHanded {} Tryd.checked os 8 .any (fun w args => (Rows.fieldsNamesSpec.pre enc Tryd.prog Tryd.f8 Rows.fieldsNamesRow.domain false w args ∧ laidMetH Tryd.prog Rows.fieldsNamesRow.laid w) ∧ sizedMet enc Tryd.prog Tryd.f8 (OpenSpec.ofChange Rows.fieldsNamesSpec) false w args)
      (Rows.fieldsNamesSpec.post enc Tryd.prog Tryd.f8 false true false false) := by
  refine step_both (C := Tryd.checked) (X := fun w _ => laidMetH Tryd.prog Rows.fieldsNamesRow.laid w) (fun _ _ _ hh h => h.of_heap hh) own started (by kernel_rfl) Tryd.func8
    (ChangeSpec.witness_shaped (enc := enc) (C := Tryd.checked) (os := os) (X := fun w _ => laidMetH Tryd.prog Rows.fieldsNamesRow.laid w) false (World.laidAll Tryd.prog os Rows.fieldsNamesRow.laid) #[.slice none 0 0, .agg #[.string ⟨#[]⟩, .string ⟨#[]⟩], .string ⟨#[]⟩] 8 (World.laidAll_os _ _ _)
      (World.shaped_of_ZipB (by kernel_rfl) (by kernel_rfl)) (by kernel_rfl) (by kernel_rfl) (by kernel_rfl)
      (by rw [MakeChecks.laidMetH_plain _ _ _ (by kernel_rfl)]; exact laidMet_laidAll _ (by kernel_rfl) (by kernel_rfl))) ?_
  intro W base args ds gs before hval0 hW hcnd hsh hL
  have hval : ∀ (j : Nat) t v, Tryd.f8.params[j]? = some t → args[j]? = some v → Value.okWide Tryd.prog W .any base t v := hval0
  have hW' := hW
  obtain ⟨p, q, hA0, hV, rfl, hfz, hnd⟩ := hW
  have hA : DataW.TrodAll enc Tryd.prog W 0 (fun _ => true) true Tryd.f8.params.toList args.toList ds p := hA0
  rw [Tryd.params8] at hA hval
  obtain ⟨v0, vs0, d0, ds0, p0, q0, hargs, rfl, rfl, h0, r0⟩ := trodAll_cons hA
  obtain ⟨v1, vs1, d1, ds1, p1, q1, rfl, rfl, rfl, h1, r1⟩ := trodAll_cons r0
  obtain ⟨v2, vs2, d2, ds2, p2, q2, rfl, rfl, rfl, h2, r2⟩ := trodAll_cons r1
  obtain ⟨rfl, rfl, rfl⟩ := trodAll_nil r2
  obtain rfl : args = #[v0, v1, v2] := by cases args; simp_all
  obtain ⟨rfl, rfl⟩ := trodVars_none hV
  have k0 := h0
  have lt0 : ∀ x ∈ p0, x.block < W.heap.size := by obtain ⟨m, hm⟩ := k0; exact DataW.trod_lt m _ _ _ hm
  obtain ⟨a0, len0, cap0, rfl⟩ := okWide_slice Tryd.underlying24 (hval 0 24 v0 rfl rfl)
  obtain ⟨z0, w0⟩ := fields_arg h0
  have k1 := h1
  have lt1 : ∀ x ∈ p1, x.block < W.heap.size := by obtain ⟨m, hm⟩ := k1; exact DataW.trod_lt m _ _ _ hm
  obtain ⟨s1, t1, rfl, hs1, ht1⟩ := field_arg (hval 1 44 v1 rfl rfl) h1
  have k2 := h2
  have lt2 : ∀ x ∈ p2, x.block < W.heap.size := by obtain ⟨m, hm⟩ := k2; exact DataW.trod_lt m _ _ _ hm
  obtain ⟨s2, rfl, _, _, hs2⟩ := open_string Tryd.underlying9 (hval 2 9 v2 rfl rfl) h2
  clear hA0 hval0
  refine (walk a0 len0 cap0 z0 s1 t1 s2 W w0 hs1 ht1 hs2 (laysM185.s1_3 W hsh)).mono fun e W' ⟨he, bel⟩ => ?_
  subst he
  exact ⟨_, rfl, _, _, _, [], _, [], hW', trodAll_mk1 (shut_bool Tryd.underlying4 _), (trodAll_cons_mk (Below.trod laidOut (by kernel_rfl) (of_decide_eq_true (by kernel_rfl)) k0 bel lt0) (trodAll_cons_mk (Below.trod laidOut (by kernel_rfl) (of_decide_eq_true (by kernel_rfl)) k1 bel lt1) (trodAll_cons_mk (Below.trod laidOut (by kernel_rfl) (of_decide_eq_true (by kernel_rfl)) k2 bel lt2) trodAll_mk0))), rfl, bel.frame _, fun h => by cases h⟩

theorem over : Rows.FieldsNamesSaid :=
  OpenClaim.holds_of_wide 8 Tryd.f8 rfl rfl rfl rfl rfl rfl rfl ⟨rfl, rfl, rfl, rfl, rfl⟩ rfl rfl rfl rfl rfl (by kernel_rfl) Tryd.func8 (by kernel_rfl)
    (of_decide_eq_true (by kernel_rfl)) (by unfold Func.isWrapper; first | (rw [if_pos (by decide +kernel)]; kernel_rfl) | (rw [if_neg (by decide +kernel)]; exact ⟨rfl, rfl⟩))
    (fun os started H enc _ => lifted os started H enc)
end Go.Proofs.YtnpjffpioimcdaaDoor.fieldsNames
namespace Go.Proofs.YtnpjffpioimcdaaDoor
theorem fieldsNames_card : Rows.FieldsNamesCardSaid :=
  Claim7.holds_tied_plain_at .later [] _ _ _ _ fieldsNames.over (fun _ h => by cases h) (by kernel_rfl) (fun _ h => by cases h) fieldsNames_row_tie rfl ⟨rfl, rfl⟩ (by kernel_rfl) rfl
    (fun f fn hf hfn => by
      obtain rfl : f = 8 := Option.some.inj ((show Tryd.prog.funcNamed Rows.fieldsNamesRow.func = some 8 by kernel_rfl).symm.trans hf) |>.symm
      obtain rfl : fn = Tryd.f8 := (Option.some.inj (Tryd.func8.symm.trans hfn)).symm
      exact ⟨by kernel_rfl, fun j t ht => by
        rw [Tryd.params8] at ht
        have hm : t ∈ [24, 44, 9] := by simpa using Array.mem_of_getElem? ht
        have hall : ([24, 44, 9].all fun u => !Tryd.prog.wantsStandIn u) = true := by kernel_rfl
        exact (show Tryd.prog.wantsStandIn t = false by simpa using List.all_eq_true.1 hall t hm)⟩)
    (by kernel_rfl)
#print axioms fieldsNames_card
end Go.Proofs.YtnpjffpioimcdaaDoor
