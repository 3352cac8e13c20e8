/-
  What is written is read as it was.
-/
import Derived.Test.YtmdkmedlncfcbaaGreatDoorWrite
import Derived.Test.YtmdkmedlncfcbaaGreatDoorParse
namespace Go.Proofs.YtmdkmedlncfcbaaGreatDoor
open Go.RowKit
set_option linter.unusedVariables false

theorem pairI_clean : ∀ (l r : List Int), (∀ c ∈ l, c ≠ 13) → pairI (l ++ 13 :: 10 :: r) = l.length
  | [], r, _ => by simp [pairI]
  | c :: l, r, h => by
    have hc := h c (by simp)
    have ih := pairI_clean l r (fun x hx => h x (by simp [hx]))
    rw [List.cons_append, pairI, if_neg (fun q => hc q.1), ih, if_neg (by omega)]
    simp
theorem line_at {zs : List Int} {p : Nat} {l rest : List Int} (h : zs.drop p = l ++ 13 :: 10 :: rest) (hc : ∀ c ∈ l, c ≠ 13) :
    linesF p (zs.drop p) = (p, l.length, true) :: linesF (p + l.length + 2) (zs.drop (p + l.length + 2)) ∧ pieceZ zs (p, l.length, true) = l ∧ zs.drop (p + l.length + 2) = rest := by
  have e := pairI_clean l rest hc
  have hd : zs.drop (p + l.length + 2) = rest := by
    rw [Nat.add_assoc, ← List.drop_drop, h, List.drop_append]
    simp
  refine ⟨?_, ?_, hd⟩
  · rw [hd, h, linesF_pair p _ (by rw [e]; omega), e]
    simp only [Int.toNat_natCast]
    rw [show List.drop (l.length + 2) (l ++ 13 :: 10 :: rest) = rest from by rw [List.drop_length_add_append]; rfl]
  · simp only [pieceZ]
    rw [h, List.take_left']
    rfl
theorem blank32 : blankC 32 = true := rfl
/-- Lines that go on. -/
theorem parse_more {zs : List Int} : ∀ (n : Nat) (l : List Int) (p : Nat) (s : HS) (rest : List Int), l.length ≤ n → l.head? = some 32 → (∀ c ∈ l, c ≠ 13) → (∀ m ∈ foldL 0 l, m.length ≤ 998) → s.nm.toList ≠ [] → zs.drop p = endW (foldL 0 l) ++ rest →
    parseL zs s (linesF p (zs.drop p)) = parseL zs { s with val := s.val ++ l } (linesF (p + (endW (foldL 0 l)).length) (zs.drop (p + (endW (foldL 0 l)).length)))
  | n, l, p, s, rest, hn, hh, hc, hl, hs, hz => by
    have one : ∀ m : List Int, m.head? = some 32 → m.length ≤ 998 → pieceZ zs (p, m.length, true) = m → stepR zs s (p, m.length, true) = some { s with val := s.val ++ m } := by
      intro m h1 h2 h3
      obtain ⟨d, rfl⟩ : ∃ d, m = 32 :: d := by cases m with
        | nil => simp at h1
        | cons a d => simp at h1; exact ⟨d, by rw [h1]⟩
      rw [stepR, h3, if_neg (by simp), if_neg (by simp), if_neg (by simp only [List.length_cons] at h2 ⊢; omega), if_pos (show blankH (32 :: d) = true from rfl), if_neg hs, goOnZ, if_neg hs]
    cases h : foldZ 0 l with
    | none =>
      rw [foldL_none h] at hl hz ⊢
      have hz' : zs.drop p = l ++ 13 :: 10 :: rest := by rw [hz]; simp [endW]
      obtain ⟨h1, h2, h3⟩ := line_at hz' hc
      have hE : (endW [l]).length = l.length + 2 := by simp [endW]
      rw [hE, ← Nat.add_assoc, h1, parseL, one l hh (hl l (by simp)) h2]
    | some k =>
      obtain ⟨k0, k1, k2⟩ := foldZ_some (by omega) h
      rw [foldL_some (by omega) h] at hl hz ⊢
      have hcons : l.take k ++ l.drop k = l := List.take_append_drop k l
      have hz' : zs.drop p = l.take k ++ 13 :: 10 :: (endW (foldL 0 (l.drop k)) ++ rest) := by rw [hz]; simp [endW]
      obtain ⟨h1, h2, h3⟩ := line_at hz' (fun c hcm => hc c (List.mem_of_mem_take hcm))
      have hth : (l.take k).head? = some 32 := by
        cases l with
        | nil => simp at hh
        | cons a d =>
          cases k with
          | zero => omega
          | succ k => simpa using hh
      have hdh : (l.drop k).head? = some 32 := by rw [List.head?_drop]; exact k2
      cases n with
      | zero => omega
      | succ n =>
        have ih := parse_more (zs := zs) n (l.drop k) (p + (l.take k).length + 2) { s with val := s.val ++ l.take k } rest (by simp; omega) hdh (fun c hcm => hc c (List.mem_of_mem_drop hcm)) (fun m hm => hl m (by simp [hm])) hs h3
        have hE : (endW (l.take k :: foldL 0 (l.drop k))).length = (l.take k).length + 2 + (endW (foldL 0 (l.drop k))).length := by simp [endW]; omega
        rw [h1, parseL, one (l.take k) hth (hl _ (by simp)) h2]
        simp only
        rw [ih, hE]
        simp only [List.append_assoc, hcons, Nat.add_assoc]
theorem colonI_at : ∀ (l r : List Int), (∀ c ∈ l, c ≠ 58) → colonI (l ++ 58 :: r) = l.length
  | [], r, _ => by simp [colonI]
  | c :: l, r, h => by
    have hc := h c (by simp)
    have ih := colonI_at l r (fun x hx => h x (by simp [hx]))
    rw [List.cons_append, colonI, if_neg hc, ih, if_neg (by omega)]
    simp
theorem nameZ_spec {l : List Int} (h : nameZ l = true) : (∀ c ∈ l, 33 ≤ c ∧ c ≤ 126 ∧ c ≠ 58) ∧ l ≠ [] ∧ l.length ≤ 64 := by
  simp only [nameZ, Bool.and_eq_true, List.all_eq_true, nameC, decide_eq_true_eq, Bool.not_eq_true', decide_eq_false_iff_not, List.isEmpty_eq_false_iff] at h
  exact ⟨fun c hc => ⟨(h.1.1 c hc).1.1, (h.1.1 c hc).1.2, (h.1.1 c hc).2⟩, h.1.2, h.2⟩
theorem valueZ_spec {l : List Int} (h : valueZ l = true) : (∀ c ∈ l, (32 ≤ c ∧ c ≤ 126) ∨ c = 9) ∧ l.length ≤ 4096 ∧ trimZ l = l := by
  simp only [valueZ, Bool.and_eq_true, List.all_eq_true, valC, decide_eq_true_eq, Bool.or_eq_true] at h
  exact ⟨h.1.1, h.1.2, h.2⟩
/-- A line that begins a field. -/
theorem parse_begin {zs : List Int} {p : Nat} {s : HS} {nm v : List Int} (hn : nameZ nm = true) (hs : shutB s = true) (hl : (nm ++ 58 :: v).length ≤ 998) (hp : pieceZ zs (p, (nm ++ 58 :: v).length, true) = nm ++ 58 :: v) :
    stepR zs s (p, (nm ++ 58 :: v).length, true) = some { shutZ s with nm := strOfNums nm, val := v, beg := p } := by
  obtain ⟨h1, h2, h3⟩ := nameZ_spec hn
  have hci : colonI (nm ++ 58 :: v) = nm.length := colonI_at nm v (fun c hc => (h1 c hc).2.2)
  have hbl : blankH (nm ++ 58 :: v) = false := by
    cases nm with
    | nil => exact absurd rfl h2
    | cons a d =>
      have := h1 a (by simp)
      simp only [List.cons_append, blankH, blankC, Bool.or_eq_false_iff, decide_eq_false_iff_not]
      omega
  have hb : beginB s (nm ++ 58 :: v) = true := by
    simp only [beginB, hci, Int.toNat_natCast, List.take_left, hn, Bool.and_true, decide_eq_true_eq]
    omega
  rw [stepR, hp, if_neg (by simp), if_neg (by simp), if_neg (by simpa using hl), if_neg (by rw [hbl]; simp), if_pos ⟨hs, hb⟩, beginZ, if_pos hs, if_pos hb, hci]
  simp only [Int.toNat_natCast, List.take_left]
  rw [List.drop_append]
  simp
/-- A field. -/
theorem parse_field {zs : List Int} {f : ByteArray × ByteArray} {p : Nat} {s : HS} {rest : List Int} (hf : okF f = true) (hl : ∀ m ∈ linesW f, m.length ≤ 998) (hs : shutB s = true) (hz : zs.drop p = endW (linesW f) ++ rest) :
    parseL zs s (linesF p (zs.drop p)) = parseL zs { shutZ s with nm := f.1, val := (if nums f.2 = [] then [] else 32 :: nums f.2), beg := p } (linesF (p + (endW (linesW f)).length) (zs.drop (p + (endW (linesW f)).length))) := by
  simp only [okF, Bool.and_eq_true] at hf
  obtain ⟨n1, n2, n3⟩ := nameZ_spec hf.1
  obtain ⟨v1, v2, v3⟩ := valueZ_spec hf.2
  obtain ⟨tl, htl⟩ : ∃ tl, (if nums f.2 = [] then ([] : List Int) else 32 :: nums f.2) = tl := ⟨_, rfl⟩
  have hfl : fieldL (nums f.1) (nums f.2) = nums f.1 ++ 58 :: tl := by rw [fieldL, htl]; simp
  have htl13 : ∀ c ∈ tl, c ≠ 13 := by
    intro c hc
    rw [← htl] at hc
    by_cases q : nums f.2 = []
    · rw [if_pos q] at hc; simp at hc
    · rw [if_neg q] at hc
      rcases List.mem_cons.1 hc with rfl | hc
      · decide
      · have := v1 c hc; omega
  have hcl : ∀ c ∈ nums f.1 ++ 58 :: tl, c ≠ 13 := by
    intro c hc
    rcases List.mem_append.1 hc with hc | hc
    · have := n1 c hc; omega
    · rcases List.mem_cons.1 hc with rfl | hc
      · decide
      · exact htl13 c hc
  rw [htl]
  have hsn : strOfNums (nums f.1) = f.1 := str_nums f.1
  have hne : f.1.toList ≠ [] := by
    intro h
    apply n2
    rw [nums, ← ByteArray.toList_eq, h]; rfl
  unfold linesW at hl hz ⊢
  rw [hfl] at hl hz ⊢
  cases h : foldZ (f.1.size + 2) (nums f.1 ++ 58 :: tl) with
  | none =>
    rw [foldL_none h] at hl hz ⊢
    have hz' : zs.drop p = (nums f.1 ++ 58 :: tl) ++ 13 :: 10 :: rest := by rw [hz]; simp [endW]
    obtain ⟨h1, h2, h3⟩ := line_at hz' hcl
    have hE : (endW [nums f.1 ++ 58 :: tl]).length = (nums f.1 ++ 58 :: tl).length + 2 := by simp [endW]; omega
    rw [hE, ← Nat.add_assoc, h1, parseL, parse_begin hf.1 hs (hl _ (by simp)) h2, hsn]
  | some k =>
    have hb : f.1.size + 2 ≤ 76 := by rw [nums_len] at n3; omega
    obtain ⟨k0, k1, k2⟩ := foldZ_some hb h
    rw [foldL_some hb h] at hl hz ⊢
    obtain ⟨j, hj⟩ : ∃ j, k = (nums f.1).length + (j + 1) := ⟨k - f.1.size - 1, by rw [nums_len]; omega⟩
    have htk : (nums f.1 ++ 58 :: tl).take k = nums f.1 ++ 58 :: tl.take j := by
      rw [hj, List.take_length_add_append]; rfl
    have hdk : (nums f.1 ++ 58 :: tl).drop k = tl.drop j := by
      rw [hj, List.drop_length_add_append]; rfl
    rw [htk, hdk] at hl hz ⊢
    have hz' : zs.drop p = (nums f.1 ++ 58 :: tl.take j) ++ 13 :: 10 :: (endW (foldL 0 (tl.drop j)) ++ rest) := by rw [hz]; simp [endW]
    obtain ⟨h1, h2, h3⟩ := line_at hz' (fun c hc => hcl c (by
      rcases List.mem_append.1 hc with hc | hc
      · exact List.mem_append_left _ hc
      · rcases List.mem_cons.1 hc with rfl | hc
        · simp
        · exact List.mem_append_right _ (List.mem_cons_of_mem _ (List.mem_of_mem_take hc))))
    have hdh : (tl.drop j).head? = some 32 := by rw [← hdk, List.head?_drop]; exact k2
    have hmore := parse_more (zs := zs) _ (tl.drop j) (p + (nums f.1 ++ 58 :: tl.take j).length + 2) { shutZ s with nm := strOfNums (nums f.1), val := tl.take j, beg := p } rest (Nat.le_refl _) hdh (fun c hc => htl13 c (List.mem_of_mem_drop hc)) (fun m hm => hl m (by simp [hm])) (by rw [hsn]; exact hne) h3
    have hE : (endW ((nums f.1 ++ 58 :: tl.take j) :: foldL 0 (tl.drop j))).length = (nums f.1 ++ 58 :: tl.take j).length + 2 + (endW (foldL 0 (tl.drop j))).length := by simp [endW]; omega
    rw [h1, parseL, parse_begin hf.1 hs (hl _ (by simp)) h2]
    simp only
    rw [hmore, hE]
    simp only [List.take_append_drop, hsn, Nat.add_assoc]
theorem trim_blank {v : List Int} (h : trimZ v = v) (hne : v ≠ []) : trimZ (32 :: v) = v := by
  have hr : trimR v = v := by
    have h1 : (trimZ v).length = v.length := by rw [h]
    have h2 := (trimZ_suffix v).length_le
    have h3 := (trimR_prefix v)
    exact h3.eq_of_length_le (by omega)
  have hlast : ∃ y t, v.reverse = y :: t ∧ blankC y = false := by
    cases hv : v.reverse with
    | nil => exact absurd (List.reverse_eq_nil_iff.1 hv) hne
    | cons y t =>
      refine ⟨y, t, rfl, ?_⟩
      unfold trimR at hr
      rw [hv] at hr
      cases hb : blankC y with
      | false => rfl
      | true =>
        rw [List.dropWhile_cons_of_pos hb] at hr
        have h1 := congrArg List.length hr
        have h2 : (t.dropWhile blankC).length ≤ t.length := (List.dropWhile_suffix _).length_le
        have h3 : v.length = t.length + 1 := by rw [← List.length_reverse, hv]; rfl
        simp only [List.length_reverse] at h1
        omega
  obtain ⟨y, t, hv, hy⟩ := hlast
  have e1 : trimR (32 :: v) = 32 :: v := by
    unfold trimR
    rw [List.reverse_cons, hv, List.cons_append, List.dropWhile_cons_of_neg (by rw [hy]; simp)]
    rw [← List.cons_append, ← hv]
    simp
  unfold trimZ at h ⊢
  rw [e1, List.dropWhile_cons_of_pos blank32]
  rw [hr] at h
  exact h
theorem shut_field {s : HS} {f : ByteArray × ByteArray} {p : Int} (hf : okF f = true) (hl : s.fs.length < 128) :
    shutB { s with nm := f.1, val := (if nums f.2 = [] then [] else 32 :: nums f.2), beg := p } = true ∧ (shutZ { s with nm := f.1, val := (if nums f.2 = [] then [] else 32 :: nums f.2), beg := p }).fs = s.fs ++ [f] := by
  simp only [okF, Bool.and_eq_true] at hf
  obtain ⟨n1, n2, n3⟩ := nameZ_spec hf.1
  obtain ⟨v1, v2, v3⟩ := valueZ_spec hf.2
  have hne : f.1.toList ≠ [] := by
    intro h
    apply n2
    rw [nums, ← ByteArray.toList_eq, h]; rfl
  have ht : trimZ (if nums f.2 = [] then [] else 32 :: nums f.2) = nums f.2 := by
    by_cases q : nums f.2 = []
    · rw [if_pos q, q]; rfl
    · rw [if_neg q]; exact trim_blank v3 q
  constructor
  · unfold shutB
    simp only
    rw [ht, hf.2]
    simp
    right; omega
  · rw [shutZ, if_neg hne]
    simp only
    rw [ht, if_pos ⟨hf.2, by omega⟩, str_nums]
/-- All fields. -/
theorem parse_all {zs : List Int} {more : List Int} : ∀ (fs : List (ByteArray × ByteArray)) (p : Nat) (s : HS), fs.all okF = true → longW fs = false → shutB s = true → (shutZ s).fs.length + fs.length ≤ 128 → zs.drop p = outW fs ++ 13 :: 10 :: more →
    ∃ S, parseL zs s (linesF p (zs.drop p)) = (S, (p : Int) + (outW fs).length + 2, (0, 0)) ∧ S.fs = (shutZ s).fs ++ fs
  | [], p, s, _, _, hs, _, hz => by
    have hz' : zs.drop p = [] ++ 13 :: 10 :: more := by rw [hz]; rfl
    obtain ⟨h1, h2, h3⟩ := line_at hz' (by simp)
    refine ⟨shutZ s, ?_, by simp⟩
    rw [h1, parseL]
    have : stepR zs s (p, ([] : List Int).length, true) = none := by simp [stepR]
    rw [this]
    simp only [stopS, stopN, stopF, List.length_nil]
    simp [hs, outW, endW]
  | f :: fs, p, s, ha, hl, hs, hc, hz => by
    simp only [List.all_cons, Bool.and_eq_true] at ha
    have hl1 : ∀ m ∈ linesW f, m.length ≤ 998 := by
      intro m hm
      simp only [longW, List.any_eq_false, decide_eq_true_eq] at hl
      have := hl m (by simp [hm]); omega
    have hl2 : longW fs = false := by
      simp only [longW, List.any_eq_false, decide_eq_true_eq] at hl ⊢
      intro m hm
      exact hl m (by rw [List.flatMap_cons]; exact List.mem_append_right _ hm)
    have ho : outW (f :: fs) = endW (linesW f) ++ outW fs := by simp [outW, endW]
    rw [ho, List.append_assoc] at hz
    simp only [List.length_cons] at hc
    have hpf := parse_field ha.1 hl1 hs hz
    have hsh := shut_field (s := shutZ s) (p := p) ha.1 (by omega)
    have hd : zs.drop (p + (endW (linesW f)).length) = outW fs ++ 13 :: 10 :: more := by
      rw [← List.drop_drop, hz, List.drop_left]
    obtain ⟨S, h1, h2⟩ := parse_all (zs := zs) (more := more) fs (p + (endW (linesW f)).length) _ ha.2 hl2 hsh.1 (by rw [hsh.2]; simp; omega) hd
    refine ⟨S, ?_, ?_⟩
    · rw [hpf, h1, ho]
      simp only [List.length_append]
      congr 2
      omega
    · rw [h2, hsh.2]; simp
/-- There and back. -/
theorem parse_back {fs : List (ByteArray × ByteArray)} (more : List Int) (h : writeC fs = 0) : outC (writeB fs ++ more) = 0 ∧ outP (writeB fs ++ more) = 0 ∧ outN (writeB fs ++ more) = (writeB fs).length ∧ outL (writeB fs ++ more) = fs := by
  have h0 := h
  unfold writeC at h
  have a1 : ¬ 128 < fs.length := fun q => by rw [if_pos q] at h; omega
  rw [if_neg a1] at h
  have a2 : ¬ fs.all okF = false := fun q => by rw [if_pos q] at h; omega
  rw [if_neg a2] at h
  have a3 : ¬ longW fs = true := fun q => by rw [if_pos q] at h; omega
  have hb : writeB fs = outW fs ++ [13, 10] := by unfold writeB; rw [if_pos h0]
  have hz : (writeB fs ++ more).drop 0 = outW fs ++ 13 :: 10 :: more := by rw [hb]; simp
  have hsh : shutB hs0 = true ∧ shutZ hs0 = hs0 := by
    have hnil : (⟨#[]⟩ : ByteArray).toList = [] := by rw [ByteArray.toList_eq]
    constructor
    · simp [shutB, hs0]
    · rw [shutZ, if_pos]; exact hnil
  obtain ⟨S, h1, h2⟩ := parse_all (zs := writeB fs ++ more) (more := more) fs 0 hs0 (by simpa using a2) (by simpa using a3) hsh.1 (by rw [hsh.2]; simp [hs0]; omega) hz
  rw [hsh.2] at h2
  rw [List.drop_zero] at h1
  have hp : parseZ (writeB fs ++ more) = (S, ((0 : Nat) : Int) + (outW fs).length + 2, (0, 0)) := h1
  have hC : outC (writeB fs ++ more) = 0 := by unfold outC; rw [hp]
  refine ⟨hC, ?_, ?_, ?_⟩
  · unfold outP; rw [if_pos hC]
  · unfold outN; rw [if_pos hC, hp, hb]; simp
  · unfold outL; rw [if_pos hC, hp, h2]; rfl
theorem foldL_sum : ∀ (n first : Nat) (l : List Int), l.length ≤ n → first ≤ 76 → (endW (foldL first l)).length ≤ 3 * l.length + 2
  | n, first, l, hn, hf => by
    cases h : foldZ first l with
    | none => rw [foldL_none h]; simp [endW]; omega
    | some k =>
      have hk := foldZ_some hf h
      rw [foldL_some hf h]
      cases n with
      | zero => omega
      | succ n =>
        have ih := foldL_sum n 0 (l.drop k) (by simp; omega) (by omega)
        have e : (endW (l.take k :: foldL 0 (l.drop k))).length = k + 2 + (endW (foldL 0 (l.drop k))).length := by simp [endW]; omega
        rw [List.length_drop] at ih
        rw [e]
        omega
theorem linesW_sum {f : ByteArray × ByteArray} (h : okF f = true) : (endW (linesW f)).length ≤ 12488 := by
  have hb := okF_bounds h
  have := foldL_sum _ (f.1.size + 2) (fieldL (nums f.1) (nums f.2)) (Nat.le_refl _) (by omega)
  have h2 : (fieldL (nums f.1) (nums f.2)).length ≤ 4162 := by
    unfold fieldL
    split <;> simp [nums_len] <;> omega
  unfold linesW
  omega
theorem outW_sum : ∀ fs : List (ByteArray × ByteArray), fs.all okF = true → (outW fs).length ≤ 12488 * fs.length
  | [], _ => by simp [outW, endW]
  | f :: fs, h => by
    simp only [List.all_cons, Bool.and_eq_true] at h
    have h1 := linesW_sum h.1
    have h2 := outW_sum fs h.2
    have e : outW (f :: fs) = endW (linesW f) ++ outW fs := by simp [outW, endW]
    rw [e, List.length_append, List.length_cons]
    omega
theorem writeB_len {fs : List (ByteArray × ByteArray)} (h : writeC fs = 0) : (writeB fs).length ≤ 1600000 := by
  have h0 := h
  unfold writeC at h
  have a1 : ¬ 128 < fs.length := fun q => by rw [if_pos q] at h; omega
  rw [if_neg a1] at h
  have a2 : ¬ fs.all okF = false := fun q => by rw [if_pos q] at h; omega
  have := outW_sum fs (by simpa using a2)
  unfold writeB
  rw [if_pos h0, List.length_append]
  simp only [List.length_cons, List.length_nil]
  omega
theorem foldL_mem : ∀ (n first : Nat) (l : List Int), l.length ≤ n → first ≤ 76 → ∀ m ∈ foldL first l, ∀ c ∈ m, c ∈ l
  | n, first, l, hn, hf, m, hm, c, hc => by
    cases h : foldZ first l with
    | none => rw [foldL_none h] at hm; simp at hm; subst hm; exact hc
    | some k =>
      have hk := foldZ_some hf h
      rw [foldL_some hf h] at hm
      cases n with
      | zero => omega
      | succ n =>
        rcases List.mem_cons.1 hm with rfl | hm
        · exact List.mem_of_mem_take hc
        · exact List.mem_of_mem_drop (foldL_mem n 0 (l.drop k) (by simp; omega) (by omega) m hm c hc)
theorem writeB_byt {fs : List (ByteArray × ByteArray)} : Byt (writeB fs) := by
  unfold writeB
  by_cases h : writeC fs = 0
  · rw [if_pos h]
    unfold writeC at h
    have a1 : ¬ 128 < fs.length := fun q => by rw [if_pos q] at h; omega
    rw [if_neg a1] at h
    have a2 : ¬ fs.all okF = false := fun q => by rw [if_pos q] at h; omega
    intro c hc
    rcases List.mem_append.1 hc with hc | hc
    · unfold outW endW at hc
      obtain ⟨l, hl, hc⟩ := List.mem_flatMap.1 hc
      obtain ⟨f, hf, hl⟩ := List.mem_flatMap.1 hl
      rcases List.mem_append.1 hc with hc | hc
      · have hok : okF f = true := by
          have : fs.all okF = true := by simpa using a2
          exact List.all_eq_true.1 this f hf
        have hb := okF_bounds hok
        have := foldL_mem _ (f.1.size + 2) (fieldL (nums f.1) (nums f.2)) (Nat.le_refl _) (by omega) l hl c hc
        unfold fieldL at this
        rcases List.mem_append.1 this with h | h
        · rcases List.mem_append.1 h with h | h
          · exact nums_byt f.1 c h
          · simp at h; omega
        · by_cases q : nums f.2 = []
          · rw [if_pos q] at h; simp at h
          · rw [if_neg q] at h
            rcases List.mem_cons.1 h with rfl | h
            · omega
            · exact nums_byt f.2 c h
      · simp at hc; omega
    · simp at hc; omega
  · rw [if_neg h]; intro c hc; simp at hc
end Go.Proofs.YtmdkmedlncfcbaaGreatDoor
