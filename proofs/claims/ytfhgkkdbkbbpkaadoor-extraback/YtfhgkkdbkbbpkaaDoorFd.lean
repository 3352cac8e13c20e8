/-
  A parameter as it is, or its pieces: the contract of parted.
-/
import Derived.Test.YtfhgkkdbkbbpkaaDoorFb
import Derived.Test.YtfhgkkdbkbbpkaaDoorFc
import Derived.Test.YtfhgkkdbkbbpkaaDoorFa
import Derived.Test.YtfhgkkdbkbbpkaaDoorEj
namespace Go.Proofs.YtfhgkkdbkbbpkaaDoor
open Go.RowKit
set_option linter.unusedVariables false
set_option linter.unusedSimpArgs false

def chunksF : Nat → List Int → List (List Int)
  | 0, _ => []
  | _ + 1, [] => []
  | n + 1, p :: ps => (p :: ps).take (fitN 45 (p :: ps)) :: chunksF n ((p :: ps).drop (fitN 45 (p :: ps)))
def chunksZ (ps : List Int) : List (List Int) := chunksF ps.length ps
theorem fit_pos (p : Int) (ps : List Int) : 1 ≤ fitN 45 (p :: ps) := by
  have := enc_code p
  simp only [fitN]
  rw [if_neg (by omega)]
  omega
theorem chunksF_same : ∀ (n m : Nat) (ps : List Int), ps.length ≤ n → ps.length ≤ m → chunksF n ps = chunksF m ps
  | 0, 0, _, _, _ => rfl
  | 0, m + 1, [], _, _ => rfl
  | n + 1, 0, [], _, _ => rfl
  | n + 1, m + 1, [], _, _ => rfl
  | 0, _, p :: ps, h, _ => by simp at h
  | _, 0, p :: ps, _, h => by simp at h
  | n + 1, m + 1, p :: ps, h1, h2 => by
    have hp := fit_pos p ps
    simp only [chunksF]
    rw [chunksF_same n m _ (by rw [List.length_drop]; simp only [List.length_cons] at h1 ⊢; omega) (by rw [List.length_drop]; simp only [List.length_cons] at h2 ⊢; omega)]
theorem chunks_nil : chunksZ [] = [] := rfl
theorem chunks_cons {ps : List Int} (h : ps ≠ []) : chunksZ ps = ps.take (fitN 45 ps) :: chunksZ (ps.drop (fitN 45 ps)) := by
  cases ps with
  | nil => exact absurd rfl h
  | cons p ps =>
    have hp := fit_pos p ps
    show chunksF (ps.length + 1) (p :: ps) = _
    simp only [chunksF]
    rw [chunksF_same ps.length _ _ (by rw [List.length_drop]; simp only [List.length_cons]; omega) (Nat.le_refl _)]
    rfl
def hdZ (i : Nat) : List Int := if i = 0 then utfP else []
def pieceL (nm : List Int) (i : Nat) (c : List Int) : List Int × List Int := (nm ++ 42 :: (itoaZ i ++ [42]), hdZ i ++ codeL (Cs.Ut.flat c))
def piecesL (nm : List Int) : Nat → List (List Int) → List (List Int × List Int)
  | _, [] => []
  | i, c :: r => pieceL nm i c :: piecesL nm (i + 1) r
def partedZ (nm ps : List Int) : Option (List (List Int × List Int)) :=
  if staysZ (Cs.Ut.flat ps) = true then some [(nm, Cs.Ut.flat ps)]
  else if 60 < nm.length then none
  else if (codeL (Cs.Ut.flat ps)).length ≤ 53 then some [(nm ++ [42], utfP ++ codeL (Cs.Ut.flat ps))]
  else if 100 < (chunksZ ps).length then none else some (piecesL nm 0 (chunksZ ps))
def PartA (w : World) (o : Option (List (List Int × List Int))) (e : Ending) (w' : World) : Prop :=
  (o = none → e = .returned (.tuple #[.slice none 0 0, .int .i64 3])) ∧ (∀ l, o = some l → ∃ v gs, e = .returned (.tuple #[v, .int .i64 0]) ∧ OwnF w' w.heap.size v gs ∧ numsP gs = l ∧ l ≠ []) ∧ Below w.heap.size w w'
theorem partA_none {w w' : World} (hb : Below w.heap.size w w') : PartA w none (.returned (.tuple #[.slice none 0 0, .int .i64 3])) w' := ⟨fun _ => rfl, fun l h => (by cases h), hb⟩
theorem partA_some {w w' : World} {l : List (List Int × List Int)} {gs : List (ByteArray × ByteArray)} {v : Value} (hb : Below w.heap.size w w') (ho : OwnF w' w.heap.size v gs) (hg : numsP gs = l) (hn : l ≠ []) : PartA w (some l) (.returned (.tuple #[v, .int .i64 0])) w' :=
  ⟨fun h => (by cases h), fun m h => (by cases h; exact ⟨v, gs, rfl, ho, hg, hn⟩), hb⟩
theorem ownF_one (w : World) (f : ByteArray × ByteArray) : OwnF (w.alloc (.cells #[.string f.1, .string f.2] 37)) w.heap.size (.slice (some ⟨w.heap.size, 0, none⟩) 1 1) [f] :=
  ⟨rfl, .inr ⟨w.heap.size, 1, #[.string f.1, .string f.2], rfl, Nat.le_refl _, heap_alloc_last w _, Nat.le_refl _, by simp [maxLen], rfl, rfl⟩⟩
theorem partA_one (nm vl : ByteArray) {w W : World} {g : Nat} {l : List (List Int × List Int)} (hb : Below w.heap.size w W) (hg : W.heap.size = g) (hl : l = [(nums nm, nums vl)]) :
    PartA w (some l) (.returned (.tuple #[.slice (some ⟨g, 0, none⟩) 1 1, .int .i64 0])) (W.alloc (.cells #[.string nm, .string vl] 37)) := by
  subst hg hl
  have h : OwnF (W.alloc (.cells #[.string nm, .string vl] 37)) w.heap.size (.slice (some ⟨W.heap.size, 0, none⟩) 1 1) [(nm, vl)] := ownB hb.size (ownF_one W (nm, vl))
  exact partA_some (hb.alloc hb.size _) h rfl (by simp)
theorem utf_flat {vl : ByteArray} {ps : List Int} (h : nums vl = Cs.Ut.flat ps) : vl.size = (Cs.Ut.flat ps).length := by rw [← h, nums_len]
theorem codeL_byt {l : List Int} (h : Byt l) : Byt (codeL l) := by
  intro x hx
  obtain ⟨c, hc, hx⟩ := List.mem_flatMap.1 hx
  exact codeC_byt (h c hc).1 (h c hc).2 x hx
set_option maxRecDepth 100000 in
set_option maxHeartbeats 8000000 in
theorem parted_any (nm vl : ByteArray) (ps : List Int) (w : World) (hps : Cs.Ut.AllPt ps) (hv : nums vl = Cs.Ut.flat ps) (hn : nm.size ≤ 100) (hz : vl.size ≤ 2048) :
    Calls Tryd.prog 22 #[.agg #[.string nm, .string vl]] w (PartA w (partedZ (nums nm) ps)) := by
  obtain ⟨j0, hi, hj0, hj1, hj2⟩ := info_parts Tryd.info37
  have hvl := utf_flat hv
  have KS : ∀ V, Calls Tryd.prog 43 #[.string vl] V fun e w' => e = .returned (.bool (staysZ (Cs.Ut.flat ps))) ∧ V = w' := fun V => by
    have := stays_any vl V (by omega)
    rw [hv] at this
    exact this
  have HPS : Hid (Cs.Ut.AllPt ps) := hps
  have HV : Hid (nums vl = Cs.Ut.flat ps) := hv
  have HVL : Hid (vl.size = (Cs.Ut.flat ps).length) := hvl
  have hbt := Cs.Ut.flat_byt hps
  have kb := keep w (.cells #[.string nm, .string vl] 37)
  clear hv hvl hps
  by_cases hst : staysZ (Cs.Ut.flat ps) = true
  · have HR : Hid (partedZ (nums nm) ps = some [(nums nm, nums vl)]) := by unfold Hid partedZ; rw [if_pos hst, HV.out]
    rw [hst] at KS
    go_enter Tryd.func22, Tryd.ntmps22
    go_wp2_with (go_at_call 43; refine (KS _).mono ?_; rintro e w' ⟨rfl, rfl⟩)
    go_ret2
    rw [HR.out]
    exact partA_one nm vl kb (by simp) rfl
  · have HS : Hid (¬ staysZ (Cs.Ut.flat ps) = true) := hst
    rw [show staysZ (Cs.Ut.flat ps) = false by simpa using hst] at KS
    clear hst
    by_cases h60 : 60 < nm.size
    · have HR : Hid (partedZ (nums nm) ps = none) := by unfold Hid partedZ; rw [if_neg HS.out, if_pos (by rw [nums_len]; exact h60)]
      have d1 : decide ((nm.size : Int) + 4 > 64) = true := decide_eq_true (by omega)
      go_enter Tryd.func22, Tryd.ntmps22
      go_wp2_with (go_at_call 43; refine (KS _).mono ?_; rintro e w' ⟨rfl, rfl⟩)
      go_ret2
      rw [HR.out]
      exact partA_none kb
    · have d1 : decide ((nm.size : Int) + 4 > 64) = false := decide_eq_false (by omega)
      obtain ⟨cap, w1, kc, hcap, hmx, hrow, hb, hfz⟩ := conv_bytes vl (w.alloc (.cells #[.string nm, .string vl] 37)) (by unfold maxLen; omega)
      rw [HV.out] at hrow
      have hgz : (w.alloc (.cells #[.string nm, .string vl] 37)).heap.size = w.heap.size + 1 := by simp
      have c0 : w1.cell? ⟨w.heap.size, 0, none⟩ = some (.string nm) := by rw [hb.cell (p := ⟨w.heap.size, 0, none⟩) (by simp)]; rw [World.cell?_alloc_mark]; rfl
      have hs1 := hb.size
      have HB1 : Hid (Below w.heap.size w w1) := kb.trans (hb.mono (by simp))
      rw [hgz] at kc hrow hs1
      have KC : Calls Tryd.prog 15 #[.slice (some ⟨w.heap.size + 1, 0, none⟩) vl.size cap] w1 fun e w' => e = .returned (.string (strOfNums (codeL (Cs.Ut.flat ps)))) ∧ Below w1.heap.size w1 w' :=
        code_any _ _ _ (Cs.Ut.flat ps) w1 HVL.out.symm hbt (by omega) hcap (by unfold maxLen; omega) hrow
      have HRow : Hid (Row w1 (some ⟨w.heap.size + 1, 0, none⟩) (Cs.Ut.flat ps)) := hrow
      have hq := codeL_len (Cs.Ut.flat ps)
      have hss := size_strM (codeL (Cs.Ut.flat ps))
      rw [← HVL.out] at hq
      have hap : (⟨#[117, 116, 102, 45, 56, 39, 39]⟩ : ByteArray) ++ strOfNums (codeL (Cs.Ut.flat ps)) = strOfNums (utfP ++ codeL (Cs.Ut.flat ps)) := by
        rw [show (⟨#[117, 116, 102, 45, 56, 39, 39]⟩ : ByteArray) = strOfNums utfP from rfl, str_append]
      have hss2 := size_strM (utfP ++ codeL (Cs.Ut.flat ps))
      rw [List.length_append, show utfP.length = 7 from rfl] at hss2
      obtain ⟨q, hq2⟩ : ∃ q, (codeL (Cs.Ut.flat ps)).length = q := ⟨_, rfl⟩
      have HQ : Hid ((codeL (Cs.Ut.flat ps)).length = q) := hq2
      have hnx : nums (strOfNums (utfP ++ codeL (Cs.Ut.flat ps))) = utfP ++ codeL (Cs.Ut.flat ps) := nums_str (by
        intro x hx
        rcases List.mem_append.1 hx with h | h
        · exact (by decide : ∀ x ∈ utfP, 0 ≤ x ∧ x < 256) x h
        · exact codeL_byt hbt x h)
      obtain ⟨t, ht⟩ : ∃ t, strOfNums (codeL (Cs.Ut.flat ps)) = t := ⟨_, rfl⟩
      obtain ⟨u, hu⟩ : ∃ u, strOfNums (utfP ++ codeL (Cs.Ut.flat ps)) = u := ⟨_, rfl⟩
      rw [hq2] at hq hss hss2
      rw [ht] at KC hap hss
      rw [hu] at hap hss2 hnx
      have HN : Hid (nums u = utfP ++ codeL (Cs.Ut.flat ps)) := hnx
      clear ht hu hq2 hnx hb hfz hrow
      clear hgz
      go_enter Tryd.func22, Tryd.ntmps22
      by_cases h53 : q ≤ 53
      · have HR : Hid (partedZ (nums nm) ps = some [(nums (nm ++ ⟨#[42]⟩), nums u)]) := by
          unfold Hid partedZ
          rw [if_neg HS.out, if_neg (by rw [nums_len]; exact h60), if_pos (by rw [HQ.out]; exact h53), HN.out, nums_append]; rfl
        have d2 : decide (((7 + q : Nat) : Int) ≤ 60) = true := decide_eq_true (by omega)
        go_wp2_with (first
          | (go_at_call 43; refine (KS _).mono ?_; rintro e w' ⟨rfl, rfl⟩)
          | (go_at_call 15; refine KC.mono ?_; rintro e w2 ⟨rfl, hb2⟩; have c2 : w2.cell? ⟨w.heap.size, 0, none⟩ = some (.string nm) := (hb2.cell (p := ⟨w.heap.size, 0, none⟩) (by simp; omega)).trans c0))
        go_ret2
        rw [HR.out]
        exact partA_one _ _ (HB1.out.trans (hb2.mono HB1.out.size)) rfl rfl
      · have d2 : decide (((7 + q : Nat) : Int) ≤ 60) = false := decide_eq_false (by omega)
        have HPZ : Hid (partedZ (nums nm) ps = if 100 < (chunksZ ps).length then none else some (piecesL (nums nm) 0 (chunksZ ps))) := by
          unfold Hid partedZ
          rw [if_neg HS.out, if_neg (by rw [nums_len]; exact h60), if_neg (by rw [HQ.out]; exact h53)]
        have hne : ps ≠ [] := by
          rintro rfl
          rw [← HQ.out] at h53
          exact h53 (by decide)
        go_wp2_with (first
          | (go_at_call 43; refine (KS _).mono ?_; rintro e w' ⟨rfl, rfl⟩)
          | (go_at_call 15; refine KC.mono ?_; rintro e w2 ⟨rfl, hb2⟩; have c2 : w2.cell? ⟨w.heap.size, 0, none⟩ = some (.string nm) := (hb2.cell (p := ⟨w.heap.size, 0, none⟩) (by simp; omega)).trans c0))
        have HB2 : Hid (Below w1.heap.size w1 w2) := hb2
        have HNE : Hid (ps ≠ []) := hne
        clear hb2 hne KC KS kc hap hss hss2 c2 HN
        go_loopw [4, 6, 7, 8] (fun r o h j wr => ∃ (a : Option Addr) (len cp : Nat) (rs : List Int) (v : Value) (gs : List (ByteArray × ByteArray)), r = .slice a len cp ∧ o = v ∧ h = .string (strOfNums (hdZ gs.length)) ∧ len ≤ cp ∧ cp ≤ 9223372036854775807 ∧ len ≤ 2048 ∧ gs.length ≤ 100 ∧ Hid ((Cs.Ut.flat rs).length = len) ∧ Hid (Cs.Ut.AllPt rs) ∧ Hid (Row w1 a (Cs.Ut.flat rs)) ∧ Hid (OwnF wr w1.heap.size v gs) ∧ Hid (Below w1.heap.size w1 wr) ∧ Hid (numsP gs ++ piecesL (nums nm) gs.length (chunksZ rs) = piecesL (nums nm) 0 (chunksZ ps)) ∧ Hid (gs.length + (chunksZ rs).length = (chunksZ ps).length)) (fun r _ _ _ _ => Cs.Ut.lenOf r)
        case atStart => exact ⟨_, _, _, ps, _, [], rfl, rfl, rfl, hcap, hmx, hz, by simp, HVL.out.symm, HPS.out, HRow.out, World.ownsRow_nil _ _ _ _, HB2.out, rfl, by simp [Hid]⟩
        case round =>
          obtain ⟨a, len, cp, rs, v, gs, rfl, rfl, rfl, hlc, hcm, hlz, hgl, HL, HA, HW, HO, HB, HE, HC⟩ := hrel
          cases rs with
          | nil =>
            have hl0 : len = 0 := by rw [← HL.out]; rfl
            have HR : Hid (partedZ (nums nm) ps = some (numsP gs)) := by
              unfold Hid
              have h1 := HE.out
              have h2 := HC.out
              rw [chunks_nil] at h1 h2
              simp only [piecesL, List.append_nil, List.length_nil, Nat.add_zero] at h1 h2
              rw [HPZ.out, if_neg (by rw [← h2]; omega), h1]
            have hnn : numsP gs ≠ [] := by
              intro h
              have h1 := HE.out
              rw [chunks_nil, h, chunks_cons HNE.out] at h1
              simp [piecesL] at h1
            subst hl0
            clear HE HC HL
            go_wp2
            go_ret2
            rw [HR.out]
            exact partA_some (HB1.out.trans (HB.out.mono HB1.out.size)) (ownB HB1.out.size HO.out) rfl hnn
          | cons p rs =>
            have hp4 := Cs.Ut.enc_len p
            have hl1 : 1 ≤ len := by rw [← HL.out, Cs.Ut.flat_cons, List.length_append]; omega
            by_cases h99 : 99 < gs.length
            · have HR : Hid (partedZ (nums nm) ps = none) := by
                unfold Hid
                have h2 := HC.out
                rw [chunks_cons (by simp), List.length_cons] at h2
                rw [HPZ.out, if_pos (by omega)]
              have d3 : decide ((gs.length : Int) > 99) = true := decide_eq_true (by omega)
              obtain ⟨va, vc, rfl, _⟩ := ownF_view HO.out
              clear HE HC HL
              go_wp2
              go_ret2
              rw [HR.out]
              exact partA_none (HB1.out.trans (HB.out.mono HB1.out.size))
            · have d3 : decide ((gs.length : Int) > 99) = false := decide_eq_false (by omega)
              have KF : ∀ V, Below w1.heap.size w1 V → Calls Tryd.prog 44 #[.slice a len cp] V fun e w' => e = .returned (.int .i64 (Cs.Ut.flat ((p :: rs).take (fitN 45 (p :: rs)))).length) ∧ Below V.heap.size V w' := fun V hV =>
                front_any a len cp (p :: rs) V HA.out HL.out hlc (by unfold maxLen; omega) (by omega) (row_below HW.out hV)
              obtain ⟨ch, hch⟩ : ∃ ch, (p :: rs).take (fitN 45 (p :: rs)) = ch := ⟨_, rfl⟩
              obtain ⟨rest, hrest⟩ : ∃ rest, (p :: rs).drop (fitN 45 (p :: rs)) = rest := ⟨_, rfl⟩
              have HCC : Hid (chunksZ (p :: rs) = ch :: chunksZ rest) := by unfold Hid; rw [chunks_cons (by simp), hch, hrest]
              have hcr : ch ++ rest = p :: rs := by rw [← hch, ← hrest, List.take_append_drop]
              have hfl : Cs.Ut.flat (p :: rs) = Cs.Ut.flat ch ++ Cs.Ut.flat rest := by rw [← hcr, Cs.Ut.flat_append]
              have hac : Cs.Ut.AllPt ch := fun x hx => HA.out x (by rw [← hcr]; simp [hx])
              have HAR : Hid (Cs.Ut.AllPt rest) := fun x hx => HA.out x (by rw [← hcr]; simp [hx])
              rw [hch] at KF
              obtain ⟨m, hm⟩ : ∃ m, (Cs.Ut.flat ch).length = m := ⟨_, rfl⟩
              have hlen2 : len = m + (Cs.Ut.flat rest).length := by rw [← HL.out, hfl, List.length_append, hm]
              have hm1 : 1 ≤ m := by
                have hf := fit_pos p rs
                rw [← hm, ← hch]
                obtain ⟨k, hk⟩ : ∃ k, fitN 45 (p :: rs) = k + 1 := ⟨fitN 45 (p :: rs) - 1, by omega⟩
                rw [hk, List.take_succ_cons, Cs.Ut.flat_cons, List.length_append]; omega
              have KC2 : ∀ V, Below w1.heap.size w1 V → Calls Tryd.prog 15 #[.slice a m cp] V fun e w' => e = .returned (.string (strOfNums (codeL (Cs.Ut.flat ch)))) ∧ Below V.heap.size V w' := fun V hV => by
                have hr2 := row_take m (row_below HW.out hV)
                rw [hfl, ← hm, List.take_left] at hr2
                exact code_any a m cp (Cs.Ut.flat ch) V hm (Cs.Ut.flat_byt hac) (by omega) (by omega) (by unfold maxLen; omega) hr2
              have HW2 : Hid (Row w1 (if cp = m then a else Option.map (fun x => x.add m) a) (Cs.Ut.flat rest)) := by
                have := row_drop (n := m) (cap := cp) HW.out (by rw [HL.out]; exact hlc)
                rw [hfl, ← hm, List.drop_left] at this
                rw [← hm]; exact this
              have hq3 := codeL_len (Cs.Ut.flat ch)
              have hsc := size_strM (codeL (Cs.Ut.flat ch))
              have hnc : nums (strOfNums (codeL (Cs.Ut.flat ch))) = codeL (Cs.Ut.flat ch) := nums_str (codeL_byt (Cs.Ut.flat_byt hac))
              have hsi := size_strM (itoaZ gs.length)
              have hi2 : (itoaZ gs.length).length ≤ 2 := by unfold itoaZ; split <;> simp
              have hni : nums (strOfNums (itoaZ gs.length)) = itoaZ gs.length := nums_str (by
                intro x hx; unfold itoaZ at hx; split at hx <;> simp at hx <;> omega)
              have hsh := size_strM (hdZ gs.length)
              have hh7 : (hdZ gs.length).length ≤ 7 := by unfold hdZ; split <;> simp [utfP]
              have hnh : nums (strOfNums (hdZ gs.length)) = hdZ gs.length := nums_str (by
                intro x hx; unfold hdZ at hx; split at hx
                · exact (by decide : ∀ x ∈ utfP, 0 ≤ x ∧ x < 256) x hx
                · cases hx)
              have KI : ∀ V, Calls Tryd.prog 45 #[.int .i64 gs.length] V fun e w' => e = .returned (.string (strOfNums (itoaZ gs.length))) ∧ V = w' := fun V => itoa_any gs.length V (by omega)
              rw [hm] at KF hq3
              obtain ⟨cd, hcd⟩ : ∃ cd, strOfNums (codeL (Cs.Ut.flat ch)) = cd := ⟨_, rfl⟩
              obtain ⟨it, hit⟩ : ∃ it, strOfNums (itoaZ gs.length) = it := ⟨_, rfl⟩
              obtain ⟨hd, hhd⟩ : ∃ hd, strOfNums (hdZ gs.length) = hd := ⟨_, rfl⟩
              rw [hcd] at KC2 hsc hnc
              rw [hit] at KI hsi hni
              rw [hhd] at hsh hnh ⊢
              have HPL : Hid (numsP (gs ++ [((nm ++ ⟨#[42]⟩ : ByteArray) ++ it ++ ⟨#[42]⟩, hd ++ cd)]) ++ piecesL (nums nm) (gs.length + 1) (chunksZ rest) = piecesL (nums nm) 0 (chunksZ ps)) := by
                have h1 := HE.out
                rw [HCC.out] at h1
                unfold Hid
                rw [← h1]
                simp only [numsP, List.map_append, List.map_cons, List.map_nil, piecesL, pieceL, nums_append, hnc, hni, hnh]
                rw [show nums (⟨#[42]⟩ : ByteArray) = [42] from rfl]
                simp
              have HC2 : Hid ((gs.length + 1) + (chunksZ rest).length = (chunksZ ps).length) := by
                have h2 := HC.out
                rw [HCC.out, List.length_cons] at h2
                unfold Hid; omega
              have z1 : it.size ≤ 2 := by omega
              have z2 : hd.size ≤ 7 := by omega
              have z3 : cd.size ≤ 6144 := by omega
              have HRL : Hid ((Cs.Ut.flat rest).length = len - m) := by unfold Hid; omega
              have hml : m ≤ len := by omega
              obtain ⟨va, vc, rfl, _⟩ := ownF_view HO.out
              have c2 : wr.cell? ⟨w.heap.size, 0, none⟩ = some (.string nm) := (HB.out.cell (p := ⟨w.heap.size, 0, none⟩) (by simp; omega)).trans c0
              clear HE HC HCC hch hrest hcr hfl hac hm hlen2 hq3 hsc hnc hsi hi2 hni hsh hh7 hnh hcd hit hhd hp4 HW HA HL c0
              go_wp2_with (go_at_call 44; refine (KF _ HB.out).mono ?_; rintro e w3 ⟨rfl, hb3⟩)
              have HB3 : Hid (Below w1.heap.size w1 w3) := HB.out.trans (hb3.mono HB.out.size)
              have HO3 : Hid (OwnF w3 w1.heap.size (.slice va gs.length vc) gs) := own_keep HO.out hb3
              have c3 : w3.cell? ⟨w.heap.size, 0, none⟩ = some (.string nm) := (hb3.cell (p := ⟨w.heap.size, 0, none⟩) (by have := HB.out.size; simp; omega)).trans c2
              have hs3 := HB3.out.size
              clear c2 HB HO hb3 KF
              have y1 : ¬ 9223372036854775807 < nm.size + 1 := by omega
              have y2 : ¬ 9223372036854775807 ≤ nm.size := by omega
              have y3 : ¬ 9223372036854775807 < nm.size + 1 + it.size := by omega
              have y4 : ¬ 9223372036854775807 ≤ nm.size + 1 + it.size := by omega
              have y5 : ¬ 9223372036854775807 < nm.size + 1 + it.size + 1 := by omega
              have y6 : ¬ 9223372036854775807 < hd.size + cd.size := by omega
              have y7 : (m : Int) ≤ (cp : Int) := by omega
              have y8 : (0 : Int) ≤ (m : Int) := by omega
              have y9 : m ≤ cp := by omega
              go_region_held3 (fun V => V.cell? ⟨w.heap.size, 0, none⟩ = some (.string nm)) (first | assumption | (go_keep) | (exact ((keep _ _).cell (p := ⟨w.heap.size, 0, none⟩) (by simp; omega)).trans (by assumption))) (first
                | (go_at_call 45; refine (KI _).mono ?_; rintro e w' ⟨rfl, rfl⟩)
                | (go_at_call 15; refine (KC2 _ (below_drewN HB3.out 1)).mono ?_; rintro e w5 ⟨rfl, hb5⟩; have c5 : w5.cell? ⟨w.heap.size, 0, none⟩ = some (.string nm) := (hb5.cell (p := ⟨w.heap.size, 0, none⟩) (by simp; omega)).trans c3)
                | (refine step_append_own rfl (.tmp 42) (.tmp 58) 22 rfl w1.heap.size 37 j0 (.agg #[.string ⟨#[]⟩, .string ⟨#[]⟩]) 2 32 Tryd.underlying22 hi hj0 hj1 hj2 rfl (by decide) (.slice va gs.length vc) gs.length (gs.flatMap cellF) rfl (World.ownsRow.alloc (w := w5) (own_keep (own_keep HO3.out (below_drewN (Below.refl _ _) 1)) hb5) _) ⟨w5.heap.size, 0, none⟩ 1 1 [.string ((nm ++ ⟨#[42]⟩ : ByteArray) ++ it ++ ⟨#[42]⟩), .string (hd ++ cd)] rfl rfl (fun j u hu => cells_new w5 _ 37 j u hu) (by intro u hu; simp at hu; rcases hu with rfl | rfl <;> rfl) ?_ ?_ ?_ ?_; (unfold maxLen; omega); omega; (have := hb5.size; simp at this ⊢; omega); intro v6 w6 hown6 hgrow6; have c6 : w6.cell? ⟨w.heap.size, 0, none⟩ = some (.string nm) := hgrow6.cell (((keep w5 _).cell (p := ⟨w.heap.size, 0, none⟩) (by have := hb5.size; simp at this ⊢; omega)).trans c5) (ne_own HO3.out (by dsimp only; omega))))
              all_goals
                have kv := keep w5 (.cells #[.string ((nm ++ ⟨#[42]⟩ : ByteArray) ++ it ++ ⟨#[42]⟩), .string (hd ++ cd)] 37)
                have h5 : Below w1.heap.size w1 w5 := (below_drewN HB3.out 1).trans (hb5.mono (by simp; omega))
                have HB6 : Hid (Below w1.heap.size w1 w6) := (h5.alloc h5.size _).grown hgrow6 (by have := h5.size; simp; omega) (fun z hz => (HO3.out.lt z hz).1)
                have HO6 : Hid (OwnF w6 w1.heap.size v6 (gs ++ [((nm ++ ⟨#[42]⟩ : ByteArray) ++ it ++ ⟨#[42]⟩, hd ++ cd)])) := by
                  unfold Hid OwnF; rw [List.length_append, List.flatMap_append]; exact hown6
                clear hown6 hgrow6 c6 c5 c3 HO3 HB3 kv h5 hb5 KC2 KI
                go_wp2
                go_roundw
                case rel => exact ⟨_, len - m, cp - m, rest, v6, _, by go_num, rfl, by rw [List.length_append]; rfl, by omega, by omega, by omega, by simp; omega, HRL, HAR, HW2.out, HO6.out, HB6.out, by rw [List.length_append]; exact HPL.out, by rw [List.length_append]; exact HC2.out⟩
                case measure => simp [Cs.Ut.lenOf]; omega
end Go.Proofs.YtfhgkkdbkbbpkaaDoor
