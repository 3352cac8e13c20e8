/-
  How an address is written and read: the contracts of Write and Read.
-/
import Derived.Test.YtedbgjpjipblcaaDoorName
namespace Go.Proofs.YtedbgjpjipblcaaDoor
open Go.RowKit
set_option linter.unusedVariables false

theorem sz64 : (⟨#[64]⟩ : ByteArray).size = 1 := rfl
theorem sz3260 : (⟨#[32, 60]⟩ : ByteArray).size = 2 := rfl
theorem sz62 : (⟨#[62]⟩ : ByteArray).size = 1 := rfl
theorem nm64 : nums (⟨#[64]⟩ : ByteArray) = [64] := rfl
theorem nm3260 : nums (⟨#[32, 60]⟩ : ByteArray) = [32, 60] := rfl
theorem nm62 : nums (⟨#[62]⟩ : ByteArray) = [62] := rfl
/-- An address as it is written. -/
def bareL (l d : List Int) : List Int := l ++ 64 :: d
def headL (n : List Int) : List Int := if atomsZ 32 n = true then n else 34 :: (escL n ++ [34])
def writeL (n l d : List Int) : List Int := if n = [] then bareL l d else headL n ++ [32, 60] ++ bareL l d ++ [62]
def WAns (r : Bool) (x : ByteArray) (cc : Int) (l : List Int) : Prop := (r = true → nums x = l ∧ cc = 0) ∧ (r = false → x = ⟨#[]⟩ ∧ cc = 60)
set_option maxHeartbeats 4000000 in
theorem write_any (n l d : ByteArray) (w : World) (h1 : n.size ≤ 100000000) (h2 : l.size ≤ 100000000) (h3 : d.size ≤ 100000000) :
    Calls Tryd.prog 13 #[addrV n l d] w fun e w' => ∃ x cc, e = .returned (.tuple #[.string x, .int .i64 cc]) ∧ Below w.heap.size w w' ∧ WAns (rightZ (nums n) (nums l) (nums d)) x cc (writeL (nums n) (nums l) (nums d)) := by
  have hcall := right_any n l d (w.alloc (.cells #[.string n, .string l, .string d] 24)) (by omega) (by omega) (by omega)
  have z64 := sz64
  have z60 := sz3260
  have z62 := sz62
  unfold addrV at hcall ⊢
  go_enter Tryd.func13, Tryd.ntmps13
  go_wp2_with fail
  refine hcall.mono ?_
  clear hcall
  rintro e w2 ⟨rfl, hb1⟩
  have HA2 : Hid (AAt w2 w.heap.size n l d) := (aat_new w n l d).below hb1
  have HB2 : Hid (Below w.heap.size w w2) := (keep w _).trans (hb1.mono (by simp))
  obtain ⟨_, x0, x1, x2⟩ := HA2.out
  clear hb1
  cases hrz : rightZ (nums n) (nums l) (nums d) with
  | false =>
    have HRZ : Hid (rightZ (nums n) (nums l) (nums d) = false) := hrz
    go_wp2
    go_ret2
    exact ⟨_, _, rfl, HB2.out, ⟨fun q => absurd q (by rw [HRZ.out]; simp), fun _ => ⟨rfl, rfl⟩⟩⟩
  | true =>
    have HRZ : Hid (rightZ (nums n) (nums l) (nums d) = true) := hrz
    have HBR : Hid (nums (l ++ ⟨#[64]⟩ ++ d) = bareL (nums l) (nums d)) := by
      unfold Hid bareL; rw [nums_append, nums_append, nm64, List.append_assoc]; rfl
    have hbs : (l ++ ⟨#[64]⟩ ++ d).size ≤ 300000000 := by simp only [ByteArray.size_append]; omega
    have he := empty_list n
    clear hrz
    by_cases h0 : n.size = 0
    · rw [decide_eq_true h0] at he
      have he2 : n.toList = [] := by simpa using he
      have HW : Hid (writeL (nums n) (nums l) (nums d) = bareL (nums l) (nums d)) := by unfold Hid writeL; rw [if_pos (nums_e h0)]
      clear h0 he
      go_wp2
      go_ret2
      exact ⟨_, _, rfl, HB2.out, ⟨fun _ => ⟨by rw [HW.out]; exact HBR.out, rfl⟩, fun q => absurd q (by rw [HRZ.out]; simp)⟩⟩
    · rw [decide_eq_false h0] at he
      have he2 : ¬ n.toList = [] := by simpa using he
      have HNE : Hid (¬ nums n = []) := fun q => h0 (by rw [← nums_len, q]; rfl)
      have hat := fun V => isAtoms_any n 32 V (by omega)
      clear h0
      obtain ⟨b, hb⟩ : ∃ b, atomsZ (((32 : UInt8).toNat : Nat) : Int) (nums n) = b := ⟨_, rfl⟩
      rw [hb] at hat
      cases b with
      | true =>
        have HW : Hid (writeL (nums n) (nums l) (nums d) = nums n ++ [32, 60] ++ bareL (nums l) (nums d) ++ [62]) := by
          unfold Hid writeL headL; rw [if_neg HNE.out, if_pos (show atomsZ 32 (nums n) = true from hb)]
        clear hb
        go_wp2_with fail
        refine (hat _).mono ?_
        rintro e w3 ⟨rfl, hb3⟩
        have HB3 : Hid (Below w.heap.size w w3) := HB2.out.trans (hb3.mono HB2.out.size)
        obtain ⟨_, y0, y1, y2⟩ := HA2.out.below hb3
        clear hb3 x0 x1 x2
        go_wp2
        go_ret2
        exact ⟨_, _, rfl, HB3.out, ⟨fun _ => ⟨by rw [HW.out, nums_append, nums_append, nums_append, HBR.out, nm3260, nm62], rfl⟩, fun q => absurd q (by rw [HRZ.out]; simp)⟩⟩
      | false =>
        have HW : Hid (writeL (nums n) (nums l) (nums d) = 34 :: (escL (nums n) ++ [34]) ++ [32, 60] ++ bareL (nums l) (nums d) ++ [62]) := by
          unfold Hid writeL headL; rw [if_neg HNE.out, if_neg (by rw [show atomsZ 32 (nums n) = false from hb]; simp)]
        clear hb
        go_wp2_with fail
        refine (hat _).mono ?_
        rintro e w3 ⟨rfl, hb3⟩
        have HB3 : Hid (Below w.heap.size w w3) := HB2.out.trans (hb3.mono HB2.out.size)
        obtain ⟨_, y0, y1, y2⟩ := HA2.out.below hb3
        clear hb3 x0 x1 x2
        go_wp2_with fail
        refine (quote_any n _ (by omega)).mono ?_
        rintro e w4 ⟨x, rfl, hx, hb4⟩
        have hxz : x.size ≤ 300000000 := by rw [← nums_len, hx]; have := escL_len (nums n); rw [nums_len] at this; simp; omega
        have HX : Hid (nums x = 34 :: (escL (nums n) ++ [34])) := hx
        have HB4 : Hid (Below w.heap.size w w4) := HB3.out.trans (hb4.mono HB3.out.size)
        clear hb4 hx y0 y1 y2
        go_wp2
        go_ret2
        exact ⟨_, _, rfl, HB4.out, ⟨fun _ => ⟨by rw [HW.out, nums_append, nums_append, nums_append, HBR.out, nm3260, nm62, HX.out], rfl⟩, fun q => absurd q (by rw [HRZ.out]; simp)⟩⟩
/-- An address without a name, out of a text. -/
def plainR (s : List Int) : Option (List Int × List Int) :=
  if idxZ 64 s = -1 then none else if rightZ [] (s.take (idxZ 64 s).toNat) (s.drop ((idxZ 64 s).toNat + 1)) = true then some (s.take (idxZ 64 s).toNat, s.drop ((idxZ 64 s).toNat + 1)) else none
theorem plainR_at {l d : List Int} (h : (64 : Int) ∉ l) : plainR (l ++ 64 :: d) = if rightZ [] l d = true then some (l, d) else none := by
  unfold plainR
  rw [idx_app d h, if_neg (by omega)]
  simp
theorem plainR_no {s : List Int} (h : ∀ l' d', s = l' ++ 64 :: d' → rightZ [] l' d' = false) : plainR s = none := by
  unfold plainR
  rcases idx_ge 64 s with q | ⟨q, _⟩
  · rw [if_pos q]
  · obtain ⟨k, hk⟩ : ∃ k : Nat, idxZ 64 s = k := ⟨(idxZ 64 s).toNat, by omega⟩
    have e := (idx_some hk).1
    rw [hk, if_neg (by omega), Int.toNat_natCast, h _ _ e]; rfl
theorem plain_R {s n l d : ByteArray} {c : Int} (h : PAns s n l d c) : n = ⟨#[]⟩ ∧ ((c = 0 ∧ plainR (nums s) = some (nums l, nums d) ∧ l.size ≤ s.size ∧ d.size ≤ s.size) ∨ (c = 60 ∧ l = ⟨#[]⟩ ∧ d = ⟨#[]⟩ ∧ plainR (nums s) = none)) := by
  rcases h with ⟨h1, h2, h3, h4, h5, h6⟩ | ⟨h1, h2, h3, h4, h5⟩
  · refine ⟨h2, .inl ⟨h1, ?_, h5, h6⟩⟩
    rw [h4, plainR_at (at_not h3), if_pos h3]
  · exact ⟨h2, .inr ⟨h1, h3, h4, plainR_no h5⟩⟩
/-- What is read of a text. -/
def bareR (nm : List Int) : List Int → Option (List Int × List Int × List Int)
  | 60 :: bare => match plainR bare with
    | some x => if rightZ nm x.1 x.2 = true then some (nm, x.1, x.2) else none
    | none => none
  | _ => none
def pointR (h : List Int) : Option (List Int × List Int × List Int) :=
  match nameR h with
  | none => none
  | some x => bareR x.1 (ltrim x.2)
def readT (t : List Int) : Option (List Int × List Int × List Int) := if t.getLast? = some 62 then pointR t.dropLast else (plainR t).map fun x => ([], x.1, x.2)
def readR (s : List Int) : Option (List Int × List Int × List Int) := readT (ltrim (rtrim s))
theorem readT_62 (h : List Int) : readT (h ++ [62]) = pointR h := by unfold readT; simp
theorem readT_no {t : List Int} (h : ∀ r, t ≠ r ++ [62]) : readT t = (plainR t).map fun x => ([], x.1, x.2) := by
  unfold readT
  rw [if_neg]
  intro q
  obtain ⟨ys, rfl⟩ := List.getLast?_eq_some_iff.1 q
  exact h ys rfl
theorem bareR_no {nm r : List Int} (h : ∀ q, r ≠ 60 :: q) : bareR nm r = none := by
  unfold bareR
  split
  · rename_i q; exact absurd rfl (h q)
  · rfl
def RAns (c : Int) (x : Option (List Int × List Int × List Int)) (n l d : ByteArray) : Prop :=
  (c = 0 ∧ x = some (nums n, nums l, nums d)) ∨ (c = 60 ∧ n = ⟨#[]⟩ ∧ l = ⟨#[]⟩ ∧ d = ⟨#[]⟩ ∧ x = none)
def RPost (w : World) (s : ByteArray) (e : Ending) (w' : World) : Prop := ∃ n l d c, e = .returned (.tuple #[addrV n l d, .int .i64 c]) ∧ Below w.heap.size w w' ∧ RAns c (readR (nums s)) n l d ∧ n.size ≤ s.size ∧ l.size ≤ s.size ∧ d.size ≤ s.size
theorem read_fin {w W : World} {s n l d : ByteArray} {c : Int} {A : Act} (hb : Below w.heap.size w W) (hr : W.heap[w.heap.size]? = some (.cells #[.string ⟨#[]⟩, .string ⟨#[]⟩, .string ⟨#[]⟩] 24 (0, 0))) (ha : RAns c (readR (nums s)) n l d) (z1 : n.size ≤ s.size) (z2 : l.size ≤ s.size) (z3 : d.size ≤ s.size) (hd : A.defers = []) (h2 : A.tmps[2]?.getD undef = .pointer (some ⟨w.heap.size, 0, none⟩)) (h3 : A.tmps[3]?.getD undef = .int .i64 c) :
    bodyPost Tryd.prog Tryd.f8 (RPost w s) .ret A (finA W w.heap.size n l d) := by
  obtain ⟨c0, c1, c2⟩ := finA_cells hr n l d
  have hfb := finA_below hb (Nat.le_refl _) n l d
  refine bodyPost_ret (v := .tuple #[addrV n l d, .int .i64 c]) ?_ hd ⟨n, l, d, c, rfl, hfb, ha, z1, z2, z3⟩
  simp [results, Tryd.results8, go_sem, c0, c1, c2, h2, h3, addrV]
theorem read_fin2 {w W : World} {s n l d : ByteArray} {c : Int} {A : Act} {o : Obj} (hb : Below w.heap.size w W) (hr : W.heap[w.heap.size]? = some (.cells #[.string ⟨#[]⟩, .string ⟨#[]⟩, .string ⟨#[]⟩] 24 (0, 0))) (ha : RAns c (readR (nums s)) n l d) (z1 : n.size ≤ s.size) (z2 : l.size ≤ s.size) (z3 : d.size ≤ s.size) (hd : A.defers = []) (h2 : A.tmps[2]?.getD undef = .pointer (some ⟨w.heap.size, 0, none⟩)) (h3 : A.tmps[3]?.getD undef = .int .i64 c) :
    bodyPost Tryd.prog Tryd.f8 (RPost w s) .ret A ((finA W w.heap.size n l d).alloc o) := by
  obtain ⟨c0, c1, c2⟩ := finA_cells hr n l d
  have hfb := finA_below hb (Nat.le_refl _) n l d
  have hkp := keep (finA W w.heap.size n l d) o
  have d0 := cell_keep hkp c0
  have d1 := cell_keep hkp c1
  have d2 := cell_keep hkp c2
  refine bodyPost_ret (v := .tuple #[addrV n l d, .int .i64 c]) ?_ hd ⟨n, l, d, c, rfl, hfb.trans (hkp.mono hfb.size), ha, z1, z2, z3⟩
  generalize (finA W w.heap.size n l d).alloc o = W' at d0 d1 d2
  simp [results, Tryd.results8, go_sem, d0, d1, d2, h2, h3, addrV]
set_option maxHeartbeats 8000000 in
set_option maxRecDepth 100000 in
theorem read_any (s : ByteArray) (w : World) (hs : s.size ≤ 100000000) : Calls Tryd.prog 8 #[.string s] w (RPost w s) := by
  go_enter Tryd.func8, Tryd.ntmps8
  go_wp2_with fail
  refine (trim_any s _ (by omega)).mono ?_
  rintro e w1 ⟨rfl, hb1⟩
  have HR1 : Hid (w1.heap[w.heap.size]? = some (.cells #[.string ⟨#[]⟩, .string ⟨#[]⟩, .string ⟨#[]⟩] 24 (0, 0))) := (hb1.block _ (by simp)).trans (heap_alloc_last w _)
  have HB1 : Hid (Below w.heap.size w w1) := (keep w _).trans (hb1.mono (by simp))
  have HTS : Hid (nums (ltS (rtS s)) = ltrim (rtrim (nums s))) := by unfold Hid; rw [nums_lt, nums_rt]
  have htz : (ltS (rtS s)).size ≤ s.size := Nat.le_trans (lt_size _) (rt_size _)
  generalize ltS (rtS s) = t at HTS htz
  have hlt1 : w.heap.size < w1.heap.size := (Array.getElem?_eq_some_iff.1 HR1.out).1
  clear hb1
  go_wp2_with fail
  refine (cutSuffix_any t 62 _ (by omega)).mono ?_
  rintro e w1' ⟨h, b, rfl, hsf, rfl, hhz⟩
  have HSF : Hid (SfxA 62 t h b) := hsf
  clear hsf
  cases b with
  | false =>
    obtain ⟨rfl, hno⟩ := HSF.out.2 rfl
    have HRD : Hid (readR (nums s) = (plainR (nums h)).map fun x => ([], x.1, x.2)) := by unfold Hid readR; rw [← HTS.out, readT_no hno]
    clear hno
    go_wp2_with fail
    refine (plain_any h _ (by omega)).mono ?_
    rintro e w2 ⟨n, l, d, c, rfl, hb2, hpa⟩
    obtain ⟨rfl, hpr⟩ := plain_R hpa
    have HR2 : Hid (w2.heap[w.heap.size]? = some (.cells #[.string ⟨#[]⟩, .string ⟨#[]⟩, .string ⟨#[]⟩] 24 (0, 0))) := (hb2.block _ hlt1).trans HR1.out
    have HB2 : Hid (Below w.heap.size w w2) := HB1.out.trans (hb2.mono (by omega))
    have HPA : Hid (RAns c (readR (nums s)) ⟨#[]⟩ l d ∧ l.size ≤ s.size ∧ d.size ≤ s.size) := by
      unfold Hid
      rw [HRD.out]
      rcases hpr with ⟨rfl, hpr, q1, q2⟩ | ⟨rfl, rfl, rfl, hpr⟩
      · exact ⟨.inl ⟨rfl, by rw [hpr]; rfl⟩, by omega, by omega⟩
      · exact ⟨.inr ⟨rfl, rfl, rfl, rfl, by rw [hpr]; rfl⟩, Nat.zero_le _, Nat.zero_le _⟩
    clear hpa hpr hb2
    unfold addrV
    have r0 : w2.cell? ⟨w.heap.size, 0, none⟩ = some (.string ⟨#[]⟩) := by rw [cell_of_row _ _ _ _ _ _ HR2.out]; rfl
    have f0 : w2.frozen? ⟨w.heap.size, 0, none⟩ = false := frozen_of_row _ _ _ _ _ HR2.out
    have r1 : w2.cell? ⟨w.heap.size, 1, none⟩ = some (.string ⟨#[]⟩) := by rw [cell_of_row _ _ _ _ _ _ HR2.out]; rfl
    have f1 : w2.frozen? ⟨w.heap.size, 1, none⟩ = false := frozen_of_row _ _ _ _ _ HR2.out
    have r2 : w2.cell? ⟨w.heap.size, 2, none⟩ = some (.string ⟨#[]⟩) := by rw [cell_of_row _ _ _ _ _ _ HR2.out]; rfl
    have f2 : w2.frozen? ⟨w.heap.size, 2, none⟩ = false := frozen_of_row _ _ _ _ _ HR2.out
    go_wp2
    (try simp only [Exit.inBlock, Exit.then])
    exact read_fin HB2.out HR2.out HPA.out.1 (Nat.zero_le _) HPA.out.2.1 HPA.out.2.2 rfl rfl rfl
  | true =>
    have HH : Hid (nums t = nums h ++ [62]) := HSF.out.1 rfl
    have HRD : Hid (readR (nums s) = pointR (nums h)) := by unfold Hid readR; rw [← HTS.out, HH.out, readT_62]
    go_wp2_with fail
    refine (takeName_any h _ (by omega)).mono ?_
    rintro e w2 ⟨x, r, b, rfl, hb2, hta, hxz, hrz⟩
    have HR2 : Hid (w2.heap[w.heap.size]? = some (.cells #[.string ⟨#[]⟩, .string ⟨#[]⟩, .string ⟨#[]⟩] 24 (0, 0))) := (hb2.block _ hlt1).trans HR1.out
    have HB2 : Hid (Below w.heap.size w w2) := HB1.out.trans (hb2.mono (by omega))
    have HTA : Hid (TAns b (nameR (nums h)) (nums x) (nums r)) := hta
    have hlt2 : w.heap.size < w2.heap.size := (Array.getElem?_eq_some_iff.1 HR2.out).1
    clear hb2 hta
    go_wp2_with fail
    refine (trimLeft_any r _).mono ?_
    rintro e w2' ⟨rfl, rfl⟩
    have HLT : Hid (nums (ltS r) = ltrim (nums r)) := nums_lt r
    have hlz : (ltS r).size ≤ r.size := lt_size r
    generalize ltS r = q at HLT hlz
    go_wp2_with fail
    refine (cutPrefix_any q 60 _ (by omega)).mono ?_
    rintro e w2' ⟨ba, op, rfl, hpf, rfl, hbz⟩
    have HPF : Hid (PfxA 60 q ba op) := hpf
    clear hpf
    cases b with
    | false =>
      have r0 : w2.cell? ⟨w.heap.size, 0, none⟩ = some (.string ⟨#[]⟩) := by rw [cell_of_row _ _ _ _ _ _ HR2.out]; rfl
      have f0 : w2.frozen? ⟨w.heap.size, 0, none⟩ = false := frozen_of_row _ _ _ _ _ HR2.out
      have r1 : w2.cell? ⟨w.heap.size, 1, none⟩ = some (.string ⟨#[]⟩) := by rw [cell_of_row _ _ _ _ _ _ HR2.out]; rfl
      have f1 : w2.frozen? ⟨w.heap.size, 1, none⟩ = false := frozen_of_row _ _ _ _ _ HR2.out
      have r2 : w2.cell? ⟨w.heap.size, 2, none⟩ = some (.string ⟨#[]⟩) := by rw [cell_of_row _ _ _ _ _ _ HR2.out]; rfl
      have f2 : w2.frozen? ⟨w.heap.size, 2, none⟩ = false := frozen_of_row _ _ _ _ _ HR2.out
      have HNO : Hid (readR (nums s) = none) := by unfold Hid; rw [HRD.out, pointR, HTA.out.2 rfl]
      go_wp2
      (try simp only [Exit.inBlock, Exit.then])
      exact read_fin HB2.out HR2.out (.inr ⟨rfl, rfl, rfl, rfl, HNO.out⟩) (Nat.zero_le _) (Nat.zero_le _) (Nat.zero_le _) rfl rfl rfl
    | true =>
    have HPT : Hid (pointR (nums h) = bareR (nums x) (nums q)) := by unfold Hid pointR; rw [HTA.out.1 rfl, HLT.out]
    cases op with
    | false =>
      have r0 : w2.cell? ⟨w.heap.size, 0, none⟩ = some (.string ⟨#[]⟩) := by rw [cell_of_row _ _ _ _ _ _ HR2.out]; rfl
      have f0 : w2.frozen? ⟨w.heap.size, 0, none⟩ = false := frozen_of_row _ _ _ _ _ HR2.out
      have r1 : w2.cell? ⟨w.heap.size, 1, none⟩ = some (.string ⟨#[]⟩) := by rw [cell_of_row _ _ _ _ _ _ HR2.out]; rfl
      have f1 : w2.frozen? ⟨w.heap.size, 1, none⟩ = false := frozen_of_row _ _ _ _ _ HR2.out
      have r2 : w2.cell? ⟨w.heap.size, 2, none⟩ = some (.string ⟨#[]⟩) := by rw [cell_of_row _ _ _ _ _ _ HR2.out]; rfl
      have f2 : w2.frozen? ⟨w.heap.size, 2, none⟩ = false := frozen_of_row _ _ _ _ _ HR2.out
      have HNO : Hid (readR (nums s) = none) := by unfold Hid; rw [HRD.out, HPT.out]; exact bareR_no (by have := (HPF.out.2 rfl).2; exact this)
      go_wp2
      (try simp only [Exit.inBlock, Exit.then])
      exact read_fin HB2.out HR2.out (.inr ⟨rfl, rfl, rfl, rfl, HNO.out⟩) (Nat.zero_le _) (Nat.zero_le _) (Nat.zero_le _) rfl rfl rfl
    | true =>
    have HBA : Hid (readR (nums s) = match plainR (nums ba) with | some z => if rightZ (nums x) z.1 z.2 = true then some (nums x, z.1, z.2) else none | none => none) := by
      unfold Hid; rw [HRD.out, HPT.out, show nums q = 60 :: nums ba from HPF.out.1 rfl]; rfl
    go_wp2_with fail
    refine (plain_any ba _ (by omega)).mono ?_
    rintro e w3 ⟨n, l, d, c, rfl, hb3, hpa⟩
    obtain ⟨rfl, hpr⟩ := plain_R hpa
    have HR3 : Hid ((w3.alloc (.cells #[.string x, .string l, .string d] 24)).heap[w.heap.size]? = some (.cells #[.string ⟨#[]⟩, .string ⟨#[]⟩, .string ⟨#[]⟩] 24 (0, 0))) := by
      unfold Hid; rw [Below.heap_alloc _ _ _ (Nat.lt_of_lt_of_le hlt2 hb3.size), hb3.block _ hlt2]; exact HR2.out
    have HB3 : Hid (Below w.heap.size w (w3.alloc (.cells #[.string x, .string l, .string d] 24))) := (HB2.out.trans (hb3.mono (by omega))).alloc (by have := hb3.size; omega) _
    have HA3 : Hid (AAt (w3.alloc (.cells #[.string x, .string l, .string d] 24)) w3.heap.size x l d) := aat_new w3 x l d
    have hlt3 : w.heap.size < (w3.alloc (.cells #[.string x, .string l, .string d] 24)).heap.size := by have := hb3.size; simp; omega
    have HRW : Hid (w3.heap[w.heap.size]? = some (.cells #[.string ⟨#[]⟩, .string ⟨#[]⟩, .string ⟨#[]⟩] 24 (0, 0))) := (hb3.block _ hlt2).trans HR2.out
    have HBW : Hid (Below w.heap.size w w3) := HB2.out.trans (hb3.mono (by omega))
    have hlw : w.heap.size < w3.heap.size := Nat.lt_of_lt_of_le hlt2 hb3.size
    clear hpa hb3
    unfold addrV
    rcases hpr with ⟨rfl, hpr, q1, q2⟩ | ⟨rfl, rfl, rfl, hpr⟩
    · have HQ : Hid (readR (nums s) = if rightZ (nums x) (nums l) (nums d) = true then some (nums x, nums l, nums d) else none) := by unfold Hid; rw [HBA.out, hpr]
      have hcall := right_any x l d (w3.alloc (.cells #[.string x, .string l, .string d] 24)) (by omega) (by omega) (by omega)
      unfold addrV at hcall
      go_wp2_with fail
      refine hcall.mono ?_
      clear hcall
      rintro e w4 ⟨rfl, hb4⟩
      have HR4 : Hid (w4.heap[w.heap.size]? = some (.cells #[.string ⟨#[]⟩, .string ⟨#[]⟩, .string ⟨#[]⟩] 24 (0, 0))) := (hb4.block _ hlt3).trans HR3.out
      have HB4 : Hid (Below w.heap.size w w4) := HB3.out.trans (hb4.mono HB3.out.size)
      obtain ⟨_, x0, x1, x2⟩ := HA3.out.below hb4
      clear hb4
      cases hrr : rightZ (nums x) (nums l) (nums d) with
      | false =>
        have r0 : w4.cell? ⟨w.heap.size, 0, none⟩ = some (.string ⟨#[]⟩) := by rw [cell_of_row _ _ _ _ _ _ HR4.out]; rfl
        have f0 : w4.frozen? ⟨w.heap.size, 0, none⟩ = false := frozen_of_row _ _ _ _ _ HR4.out
        have r1 : w4.cell? ⟨w.heap.size, 1, none⟩ = some (.string ⟨#[]⟩) := by rw [cell_of_row _ _ _ _ _ _ HR4.out]; rfl
        have f1 : w4.frozen? ⟨w.heap.size, 1, none⟩ = false := frozen_of_row _ _ _ _ _ HR4.out
        have r2 : w4.cell? ⟨w.heap.size, 2, none⟩ = some (.string ⟨#[]⟩) := by rw [cell_of_row _ _ _ _ _ _ HR4.out]; rfl
        have f2 : w4.frozen? ⟨w.heap.size, 2, none⟩ = false := frozen_of_row _ _ _ _ _ HR4.out
        have HNO : Hid (readR (nums s) = none) := by unfold Hid; rw [HQ.out, hrr]; rfl
        go_wp2
        (try simp only [Exit.inBlock, Exit.then])
        exact read_fin HB4.out HR4.out (.inr ⟨rfl, rfl, rfl, rfl, HNO.out⟩) (Nat.zero_le _) (Nat.zero_le _) (Nat.zero_le _) rfl rfl rfl
      | true =>
        have HSO : Hid (readR (nums s) = some (nums x, nums l, nums d)) := by unfold Hid; rw [HQ.out, hrr]; rfl
        have r0 : w4.cell? ⟨w.heap.size, 0, none⟩ = some (.string ⟨#[]⟩) := by rw [cell_of_row _ _ _ _ _ _ HR4.out]; rfl
        have f0 : w4.frozen? ⟨w.heap.size, 0, none⟩ = false := frozen_of_row _ _ _ _ _ HR4.out
        have r1 : w4.cell? ⟨w.heap.size, 1, none⟩ = some (.string ⟨#[]⟩) := by rw [cell_of_row _ _ _ _ _ _ HR4.out]; rfl
        have f1 : w4.frozen? ⟨w.heap.size, 1, none⟩ = false := frozen_of_row _ _ _ _ _ HR4.out
        have r2 : w4.cell? ⟨w.heap.size, 2, none⟩ = some (.string ⟨#[]⟩) := by rw [cell_of_row _ _ _ _ _ _ HR4.out]; rfl
        have f2 : w4.frozen? ⟨w.heap.size, 2, none⟩ = false := frozen_of_row _ _ _ _ _ HR4.out
        go_wp2
        (try simp only [Exit.inBlock, Exit.then])
        exact read_fin HB4.out HR4.out (.inl ⟨rfl, HSO.out⟩) (by omega) (by omega) (by omega) rfl rfl rfl
    · have HNO2 : Hid (readR (nums s) = none) := by unfold Hid; rw [HBA.out, hpr]
      have r0 : w3.cell? ⟨w.heap.size, 0, none⟩ = some (.string ⟨#[]⟩) := by rw [cell_of_row _ _ _ _ _ _ HRW.out]; rfl
      have f0 : w3.frozen? ⟨w.heap.size, 0, none⟩ = false := frozen_of_row _ _ _ _ _ HRW.out
      have r1 : w3.cell? ⟨w.heap.size, 1, none⟩ = some (.string ⟨#[]⟩) := by rw [cell_of_row _ _ _ _ _ _ HRW.out]; rfl
      have f1 : w3.frozen? ⟨w.heap.size, 1, none⟩ = false := frozen_of_row _ _ _ _ _ HRW.out
      have r2 : w3.cell? ⟨w.heap.size, 2, none⟩ = some (.string ⟨#[]⟩) := by rw [cell_of_row _ _ _ _ _ _ HRW.out]; rfl
      have f2 : w3.frozen? ⟨w.heap.size, 2, none⟩ = false := frozen_of_row _ _ _ _ _ HRW.out
      go_wp2
      (try simp only [Exit.inBlock, Exit.then])
      exact read_fin2 HBW.out HRW.out (.inr ⟨rfl, rfl, rfl, rfl, HNO2.out⟩) (Nat.zero_le _) (Nat.zero_le _) (Nat.zero_le _) rfl rfl rfl
end Go.Proofs.YtedbgjpjipblcaaDoor
