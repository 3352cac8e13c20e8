/-
  The reference's Parse.
-/
import Derived.Test.YtnpjffpioimcdaaDoorRef2
import Derived.Test.YtnpjffpioimcdaaDoorFmath
import Derived.Test.YtnpjffpioimcdaaDoorAmath
namespace Go.Proofs.YtnpjffpioimcdaaDoor
open Go.RowKit
set_option linter.unusedVariables false

theorem lines_both : ∀ (n p : Nat) (l : List Int), l.length ≤ n → ∃ A q m, linesF p l = A ++ [(q, m, false)] ∧ (∀ x ∈ A, x.2.2 = true) ∧ ((linesZ p l = A ∧ q = p + l.length) ∨ linesZ p l = A ++ [(q, m, false)])
  | n, p, l, hn => by
    by_cases hi : 0 ≤ pairI l
    · have hr := pairI_room l hi
      cases n with
      | zero => omega
      | succ n =>
        obtain ⟨A, q, m, h1, h2, h3⟩ := lines_both n (p + (pairI l).toNat + 2) (l.drop ((pairI l).toNat + 2)) (by simp; omega)
        refine ⟨(p, (pairI l).toNat, true) :: A, q, m, by rw [linesF_pair p l hi, h1]; rfl, ?_, ?_⟩
        · intro x hx
          rcases List.mem_cons.1 hx with rfl | hx
          · rfl
          · exact h2 x hx
        · rw [linesZ_pair p l hi]
          rcases h3 with ⟨h3, h4⟩ | h3
          · left
            rw [h3]
            refine ⟨rfl, ?_⟩
            rw [List.length_drop] at h4; omega
          · right; rw [h3]; rfl
    · by_cases hl : l = []
      · subst hl
        exact ⟨[], p, 0, by rw [linesF_last p [] hi]; rfl, by simp, .inl ⟨by rw [linesZ_nil], by simp⟩⟩
      · exact ⟨[], p, l.length, by rw [linesF_last p l hi]; rfl, by simp, .inr (by rw [linesZ_last p l hl hi]; rfl)⟩
/-- A field that is read, as the reference has it. -/
def RelX (s : HS) (at' : Int) (nm tx : ByteArray) : Prop := (s.nm.toList = [] ∧ at' = -1) ∨ (s.nm.toList ≠ [] ∧ at' = s.beg ∧ 0 ≤ s.beg ∧ nm = s.nm ∧ nums tx = s.val)
theorem rel_ok {s : HS} {at' : Int} {nm tx : ByteArray} (h : RelX s at' nm tx) : shutB s = (decide (at' < 0) || (valueZ (trimZ (nums tx)) && !decide (s.fs.length = 128))) := by
  unfold shutB
  rcases h with ⟨h1, h2⟩ | ⟨h1, h2, h3, h4, h5⟩
  · rw [h1, h2]; simp
  · have : s.nm.toList.isEmpty = false := by rw [List.isEmpty_eq_false_iff]; exact h1
    have hd : decide (at' < 0) = false := decide_eq_false (by omega)
    rw [this, h5, hd]
theorem rel_gs {s : HS} {at' : Int} {nm tx : ByteArray} (h : RelX s at' nm tx) : (shutZ s).fs = if at' < 0 then s.fs else if valueZ (trimZ (nums tx)) = true ∧ s.fs.length ≠ 128 then s.fs ++ [(nm, strOfNums (trimZ (nums tx)))] else s.fs := by
  unfold shutZ
  rcases h with ⟨h1, h2⟩ | ⟨h1, h2, h3, h4, h5⟩
  · rw [if_pos h1, h2, if_pos (by omega)]
  · rw [if_neg h1, if_neg (show ¬ at' < 0 by omega), h5, h4]
    split <;> rfl
theorem out_of {zs : List Int} {S : HS} {n p c : Int} (h : parseZ zs = (S, n, (p, c))) : outC zs = c ∧ (c = 0 → outP zs = 0 ∧ outN zs = n ∧ outL zs = S.fs) ∧ (c ≠ 0 → outP zs = p ∧ outN zs = 0 ∧ outL zs = []) := by
  have hC : outC zs = c := by unfold outC; rw [h]
  refine ⟨hC, fun q => ?_, fun q => ?_⟩
  · unfold outP outN outL; rw [hC, if_pos q, if_pos q, if_pos q, h]; exact ⟨rfl, rfl, rfl⟩
  · unfold outP outN outL; rw [hC, if_neg q, if_neg q, if_neg q, h]; exact ⟨rfl, rfl, rfl⟩
theorem rret {w X : World} {zs : List Int} {p c n : Int} {v : Value} {fs : List (ByteArray × ByteArray)} (hC : outC zs = c) (hP : outP zs = p) (hN : outN zs = n) (hL : outL zs = fs) (bR : Blk X w.heap.size #[.int .i64 p, .int .i64 c] 27) (ho : OwnF X w.heap.size v fs) (hB : Below w.heap.size w X) (a : Act)
    (h2 : a.tmps[2]? = some v) (h3 : a.tmps[3]? = some (.int .i64 n)) (h4 : a.tmps[4]? = some (.pointer (some ⟨w.heap.size, 0, none⟩))) (hd : a.defers = [] := by rfl) :
    bodyPost Tryd.prog Tryd.f11 (fun e w' => ∃ vf, e = .returned (.tuple #[vf, .int .i64 (outN zs), faultV (outP zs) (outC zs)]) ∧ OwnF w' w.heap.size vf (outL zs) ∧ Below w.heap.size w w') Exit.ret a X := by
  have c0 := bR.cell 0
  have c1 := bR.cell 1
  simp only [List.getElem?_toArray, List.getElem?_cons_zero, List.getElem?_cons_succ] at c0 c1
  refine bodyPost_ret (v := .tuple #[v, .int .i64 n, faultV p c]) ?_ hd ⟨v, by rw [hC, hP, hN], by rw [hL]; exact ho, hB⟩
  simp [results, Tryd.results11, go_sem, h2, h3, h4, c0, c1, faultV]
theorem lines_shape {w : World} {B : Nat} {v : Value} {b off cap : Nat} {ls : List (Nat × Nat × Bool)} (h : OwnL w B v b off cap ls) : ∃ aL cL, v = .slice aL ls.length cL ∧ (ls = [] ∨ ∃ gL, aL = some ⟨gL, 0, none⟩ ∧ ∀ (k : Nat) (x : Nat × Nat × Bool), ls[k]? = some x → w.cell? ⟨gL, k * 3, none⟩ = some (.int .i64 (x.1 : Nat)) ∧ w.cell? ⟨gL, k * 3 + 1, none⟩ = some (.slice (some ⟨b, off + x.1, none⟩) x.2.1 (cap - x.1)) ∧ w.cell? ⟨gL, k * 3 + 2, none⟩ = some (.bool x.2.2)) := by
  by_cases hne : ls = []
  · obtain ⟨a, c, rfl⟩ := ownL_shape h
    exact ⟨a, c, rfl, .inl hne⟩
  · obtain ⟨g, cp, hv, _, hc⟩ := lineAt h hne
    refine ⟨_, cp, hv, .inr ⟨g, rfl, fun k x hx => ?_⟩⟩
    have hk : k < ls.length := by
      rcases Nat.lt_or_ge k ls.length with h | h
      · exact h
      · rw [List.getElem?_eq_none h] at hx; simp at hx
    have hx' : ls[k] = x := by rw [List.getElem?_eq_getElem hk] at hx; simpa using hx
    have := hc k hk
    rw [hx'] at this
    exact this

set_option maxRecDepth 100000 in
set_option maxHeartbeats 8000000 in
theorem rparse_any (a : Option Addr) (len cap : Nat) (zs : List Int) (w : World) (hlen : zs.length = len) (hcap : len ≤ cap) (hmc : cap ≤ maxLen) (hbig : len ≤ 6000) (hz : Byt zs) (hr : Row w a zs) :
    Calls Tryd.prog 11 #[.slice a len cap] w fun e w' => ∃ vf, e = .returned (.tuple #[vf, .int .i64 (outN zs), faultV (outP zs) (outC zs)]) ∧ OwnF w' w.heap.size vf (outL zs) ∧ Below w.heap.size w w' := by
  obtain ⟨b, off, ha⟩ : ∃ b off, (zs ≠ [] → a = some ⟨b, off, none⟩) := by
    rcases hr with rfl | ⟨b, off, rfl, _⟩
    · exact ⟨0, 0, fun h => absurd rfl h⟩
    · exact ⟨b, off, fun _ => rfl⟩
  obtain ⟨A, q, m, hF, hW, hZ⟩ := lines_both _ 0 zs (Nat.le_refl _)
  have hle := linesF_le _ 0 zs (Nat.le_refl _)
  have hin := linesZ_in _ 0 zs (Nat.le_refl _)
  have hAl : A.length ≤ 6001 := by
    have h1 := linesF_len zs.length 0 zs (Nat.le_refl _)
    rw [hF] at h1
    simp at h1
    omega
  have hL := lines_ref a b off len cap zs (w.alloc (.cells #[.int .i64 0, .int .i64 0] 27)) hlen (by omega) hcap hmc (row_below hr (keep w _)) ha
  unfold maxLen at hmc
  obtain ⟨ls, hls⟩ : ∃ ls, linesZ 0 zs = ls := ⟨_, rfl⟩
  rw [hls] at hL hZ hin
  have hlsl : ls.length ≤ 6002 := by
    rcases hZ with ⟨rfl, _⟩ | rfl
    · omega
    · simp; omega
  have HPZ : Hid (parseZ zs = parseL zs hs0 (A ++ [(q, m, false)])) := by unfold Hid parseZ; rw [hF]
  have HW : Hid (∀ x ∈ A, x.2.2 = true) := hW
  have HAS : Hid (∀ (k : Nat) x, A[k]? = some x → ls[k]? = some x) := by
    intro k x hx
    rcases hZ with ⟨rfl, _⟩ | rfl
    · exact hx
    · rw [List.getElem?_append_left]
      · exact hx
      · rcases Nat.lt_or_ge k A.length with h | h
        · exact h
        · rw [List.getElem?_eq_none h] at hx; simp at hx
  have HLE : Hid (∀ x ∈ A, x.1 ≤ len ∧ x.1 + x.2.1 ≤ len ∧ x.1 < len) := by
    intro x hx
    obtain ⟨k, hk⟩ := List.mem_iff_getElem?.1 hx
    have := hin x (List.mem_of_getElem? (HAS.out k x hk))
    omega
  have HQ : Hid (q ≤ len) := by
    have h : q ≤ 0 + zs.length := hle (q, m, false) (by rw [hF]; simp)
    unfold Hid
    omega
  have HZ : Hid ((ls = A ∧ q = 0 + zs.length) ∨ ls = A ++ [(q, m, false)]) := hZ
  have HR : Hid (Row w a zs) := hr
  have HBY : Hid (Byt zs) := hz
  have HAA : Hid (zs ≠ [] → a = some ⟨b, off, none⟩) := ha
  clear hF hW hle hin hls hZ hr hz ha
  go_enter Tryd.func11, Tryd.ntmps11
  go_wp2_with fail
  refine hL.mono ?_
  clear hL
  rintro e w1 ⟨vL, rfl, hoL, hb1⟩
  obtain ⟨aL, cL, rfl, hLC⟩ := lines_shape hoL
  have bR1 : Blk w1 w.heap.size #[.int .i64 0, .int .i64 0] 27 := (Blk.new w _ 27).below hb1 (by simp)
  have HB1 : Hid (Below w.heap.size w w1) := (keep w _).trans (hb1.mono (by simp))
  have hs1 : w.heap.size + 1 ≤ w1.heap.size := by have := hb1.size; simpa using this
  obtain ⟨g7, hg7⟩ : ∃ g7, w1.heap.size = g7 := ⟨_, rfl⟩
  have HLC : Hid (ls = [] ∨ ∃ gL, aL = some ⟨gL, 0, none⟩ ∧ ∀ (k : Nat) (x : Nat × Nat × Bool), ls[k]? = some x → ∀ X, Below g7 (w1.alloc (.cells #[.int .i64 (-1), .string ⟨#[]⟩, .string ⟨#[]⟩] 57)) X → X.cell? ⟨gL, k * 3, none⟩ = some (.int .i64 (x.1 : Nat)) ∧ X.cell? ⟨gL, k * 3 + 1, none⟩ = some (.slice (some ⟨b, off + x.1, none⟩) x.2.1 (cap - x.1)) ∧ X.cell? ⟨gL, k * 3 + 2, none⟩ = some (.bool x.2.2)) := by
    rcases hLC with h | ⟨gL, h1, h2⟩
    · exact .inl h
    · refine .inr ⟨gL, h1, fun k x hx X hX => ?_⟩
      obtain ⟨c0, c1, c2⟩ := h2 k x hx
      have hlt : gL < g7 := by rw [← hg7]; exact World.block_lt_of_cell? w1 _ c0
      have hk2 : Below g7 w1 X := ((keep w1 _).mono (by omega)).trans hX
      exact ⟨(hk2.cell (p := ⟨gL, k * 3, none⟩) hlt).trans c0, (hk2.cell (p := ⟨gL, k * 3 + 1, none⟩) hlt).trans c1, (hk2.cell (p := ⟨gL, k * 3 + 2, none⟩) hlt).trans c2⟩
  have x0 : Blk (w1.alloc (.cells #[.int .i64 (-1), .string ⟨#[]⟩, .string ⟨#[]⟩] 57)) g7 #[.int .i64 (-1), .string ⟨#[]⟩, .string ⟨#[]⟩] 57 := by rw [← hg7]; exact Blk.new w1 _ 57
  have hsz3 : (w1.alloc (.cells #[.int .i64 (-1), .string ⟨#[]⟩, .string ⟨#[]⟩] 57)).heap.size = g7 + 1 := by simp [hg7]
  have HBR : Hid (Blk w1 w.heap.size #[.int .i64 0, .int .i64 0] 27) := bR1
  have HX0 : Hid (Blk (w1.alloc (.cells #[.int .i64 (-1), .string ⟨#[]⟩, .string ⟨#[]⟩] 57)) g7 #[.int .i64 (-1), .string ⟨#[]⟩, .string ⟨#[]⟩] 57) := x0
  have hwg : w.heap.size < g7 := by omega
  have HWG : Hid (∀ X, Below g7 (w1.alloc (.cells #[.int .i64 (-1), .string ⟨#[]⟩, .string ⟨#[]⟩] 57)) X → Below w.heap.size w X ∧ Blk X w.heap.size #[.int .i64 0, .int .i64 0] 27) := by
    intro X hX
    have hk2 : Below g7 w1 X := ((keep w1 _).mono (by omega)).trans hX
    exact ⟨HB1.out.trans (hk2.mono (by omega)), HBR.out.below hk2 hwg⟩
  clear hoL hb1 hLC bR1 x0
  go_wp2
  obtain ⟨W3, hW3⟩ : ∃ W3, w1.alloc (.cells #[.int .i64 (-1), .string ⟨#[]⟩, .string ⟨#[]⟩] 57) = W3 := ⟨_, rfl⟩
  rw [hW3] at HLC HX0 hsz3 HWG ⊢
  clear hW3 hg7 hs1
  go_loopw [6, 8] (fun v i wr => ∃ (k : Nat) (s : HS) (at' : Int) (nm tx : ByteArray), i = .int .i64 k ∧ k ≤ A.length ∧ OwnF wr (g7 + 1) v s.fs ∧ parseZ zs = parseL zs s ((A ++ [(q, m, false)]).drop k) ∧ OkP len s ∧ s.val.length ≤ 998 * k ∧ RelX s at' nm tx ∧ tx.size ≤ 998 * k ∧ Blk wr g7 #[.int .i64 at', .string nm, .string tx] 57 ∧ Below g7 W3 wr ∧ g7 + 1 ≤ wr.heap.size) (fun _ i _ => A.length - (intOf i).toNat)
  case atStart => exact ⟨0, hs0, -1, ⟨#[]⟩, ⟨#[]⟩, rfl, by omega, World.ownsRow_nil _ _ _ _, by rw [List.drop_zero]; exact HPZ.out, okP0 len, by simp [hs0], .inl ⟨by show (⟨#[]⟩ : ByteArray).toList = []; rw [ByteArray.toList_eq], rfl⟩, by simp [ByteArray.size], HX0.out, Below.refl _ _, by omega⟩
  case round =>
    obtain ⟨k, s, at', nm, tx, rfl, hk, ho, hpz, hok, hvl, hrel, htx, bx, hbe, hsz⟩ := hrel
    have HO : Hid (OwnF wr (g7 + 1) u6 s.fs) := ho
    have HP : Hid (parseZ zs = parseL zs s ((A ++ [(q, m, false)]).drop k)) := hpz
    have HOK : Hid (OkP len s) := hok
    have HREL : Hid (RelX s at' nm tx) := hrel
    have HBX : Hid (Blk wr g7 #[.int .i64 at', .string nm, .string tx] 57) := bx
    have HBE : Hid (Below g7 W3 wr) := hbe
    obtain ⟨hBw, bR⟩ := HWG.out wr hbe
    have HBW : Hid (Below w.heap.size w wr) := hBw
    have HRB : Hid (Blk wr w.heap.size #[.int .i64 0, .int .i64 0] 27) := bR
    have r0 := bR.cell 0
    have r1 := bR.cell 1
    have r2 := bR.frozen 0
    have r3 := bR.frozen 1
    have x0 := bx.cell 0
    have x1 := bx.cell 1
    have x2 := bx.cell 2
    have x3 := bx.frozen 0
    have x4 := bx.frozen 1
    have x5 := bx.frozen 2
    simp only [List.getElem?_toArray, List.getElem?_cons_zero, List.getElem?_cons_succ] at r0 r1 x0 x1 x2
    clear ho hpz hok hrel bx hbe hBw bR
    obtain ⟨av, cv, hv6, _⟩ := ownF_view HO.out
    subst hv6
    by_cases hkA : k < A.length
    · obtain ⟨⟨p, n, en⟩, hAk⟩ : ∃ x, A[k]? = some x := ⟨_, List.getElem?_eq_getElem hkA⟩
      obtain rfl : en = true := HW.out _ (List.mem_of_getElem? hAk)
      have hlsk := HAS.out k _ hAk
      have hkl : k < ls.length := by
        rcases Nat.lt_or_ge k ls.length with h | h
        · exact h
        · rw [List.getElem?_eq_none h] at hlsk; simp at hlsk
      have hpn := HLE.out _ (List.mem_of_getElem? hAk)
      simp only at hpn
      have HDR : Hid ((A ++ [(q, m, false)]).drop k = (p, n, true) :: (A ++ [(q, m, false)]).drop (k + 1)) := by
        unfold Hid
        rw [List.drop_eq_getElem_cons (by simp; omega)]
        congr 1
        have : (A ++ [(q, m, false)])[k]? = some (p, n, true) := by rw [List.getElem?_append_left hkA]; exact hAk
        rw [List.getElem?_eq_getElem (by simp; omega)] at this
        simpa using this
      rcases HLC.out with h | ⟨gL, rfl, hcL⟩
      · rw [h] at hkl; simp at hkl
      obtain ⟨c0, c1, c2⟩ := hcL k _ hlsk wr HBE.out
      simp only at c0 c1 c2
      clear hcL hlsk hAk
      obtain rfl : a = some ⟨b, off, none⟩ := HAA.out (by rintro rfl; simp at hlen; omega)
      obtain ⟨pc, hpc⟩ : ∃ pc, pieceZ zs (p, n, true) = pc := ⟨_, rfl⟩
      have hpl : pc.length = n := by rw [← hpc]; simp [pieceZ]; omega
      have hpb : Byt pc := by rw [← hpc]; exact (HBY.out.drop _).take _
      have HROW : Hid (∀ X, X.heap = wr.heap → Row X (some ⟨b, off + p, none⟩) pc) := by
        intro X hX
        have h := row_take n (row_drop (n := p) (cap := cap) (row_below HR.out HBW.out) (by omega))
        rw [if_neg (by omega)] at h
        simp only [Option.map_some, add_plain] at h
        have h' : Row wr (some ⟨b, off + p, none⟩) pc := by rw [← hpc]; exact h
        rcases h' with h' | ⟨b', o', e', h'⟩
        · exact .inl h'
        · refine .inr ⟨b', o', e', fun i hi => ?_⟩
          rw [← h' i hi]
          unfold World.cell?
          rw [hX]
      have kc : ∀ j, (convert 22 9 (.slice (some ⟨b, off + p, none⟩) n (cap - p))).run Tryd.prog (wr.drewN j) = .ok (.string (strOfNums pc)) (wr.drewN j) := fun j => conv_row n (cap - p) hpl (HROW.out _ rfl)
      have hd1 : decide ((k : Int) < (ls.length : Int)) = true := by simp; omega
      obtain ⟨st, hst⟩ : ∃ st, strOfNums pc = st := ⟨_, rfl⟩
      have hstz : st.size = n := by rw [← hst, ← nums_len, nums_str hpb]; exact hpl
      have HST : Hid (nums st = pc) := by unfold Hid; rw [← hst, nums_str hpb]
      have HPC : Hid (pieceZ zs (p, n, true) = pc) := hpc
      rw [hst] at kc
      clear hst hpc
      go_wp2
      go_quiet (fail)
      have hq4 : Qt wr (wr.drewN nq) := ⟨nq, rfl⟩
      have HO4 : Hid (OwnF (wr.drewN nq) (g7 + 1) (.slice av s.fs.length cv) s.fs) := HO.out
      have HBX4 : Hid (Blk (wr.drewN nq) g7 #[.int .i64 at', .string nm, .string tx] 57) := HBX.out
      have HBE4 : Hid (Below g7 W3 (wr.drewN nq)) := HBE.out.trans (hq4.below _)
      have HBW4 : Hid (Below w.heap.size w (wr.drewN nq)) := HBW.out.trans (hq4.below _)
      have HRB4 : Hid (Blk (wr.drewN nq) w.heap.size #[.int .i64 0, .int .i64 0] 27) := HRB.out
      have hsz4 : g7 + 1 ≤ (wr.drewN nq).heap.size := hsz
      obtain ⟨W4, hW4⟩ : ∃ W4, wr.drewN nq = W4 := ⟨_, rfl⟩
      rw [hW4] at HO4 HBX4 HBE4 HBW4 HRB4 hsz4 ⊢
      clear hW4 hq4 r0 r1 r2 r3 x0 x1 x2 x3 x4 x5 c0 c1 c2 kc
      have r0 := HRB4.out.cell 0
      have r1 := HRB4.out.cell 1
      have r2 := HRB4.out.frozen 0
      have r3 := HRB4.out.frozen 1
      have x0 := HBX4.out.cell 0
      have x1 := HBX4.out.cell 1
      have x2 := HBX4.out.cell 2
      have x3 := HBX4.out.frozen 0
      have x4 := HBX4.out.frozen 1
      have x5 := HBX4.out.frozen 2
      simp only [List.getElem?_toArray, List.getElem?_cons_zero, List.getElem?_cons_succ] at r0 r1 x0 x1 x2
      have STP : Hid (stepR zs s (p, n, true) = none → parseZ zs = (stopS zs s (p, n, true), stopN (p, n, true), stopF zs s (p, n, true))) := by
        intro h; rw [HP.out, HDR.out, parseL, h]
      have GON : Hid (∀ s', stepR zs s (p, n, true) = some s' → parseZ zs = parseL zs s' ((A ++ [(q, m, false)]).drop (k + 1)) ∧ OkP len s') := by
        intro s' h
        refine ⟨by rw [HP.out, HDR.out, parseL, h], okP_step HBY.out (by simp only; omega) HOK.out h⟩
      have ERR : Hid (∀ P0 C0 : Int, C0 ≠ 0 → stepR zs s (p, n, true) = none → stopF zs s (p, n, true) = (P0, C0) → outC zs = C0 ∧ outP zs = P0 ∧ outN zs = 0 ∧ outL zs = []) := by
        intro P0 C0 h0 h1 h2
        have h := STP.out h1
        rw [h2] at h
        obtain ⟨e1, _, e2⟩ := out_of h
        exact ⟨e1, e2 h0⟩
      by_cases hn9 : 998 < n
      · have hd9 : decide ((n : Int) > 998) = true := by simp; omega
        obtain ⟨e1, e2, e3, e4⟩ := ERR.out p 40 (by decide) (by simp [stepR, hn9]) (by simp [stopF, hn9]; omega)
        have E1 : Hid (outC zs = 40 ∧ outP zs = p ∧ outN zs = 0 ∧ outL zs = []) := ⟨e1, e2, e3, e4⟩
        clear e1 e2 e3 e4
        go_wp2
        exact rret E1.out.1 E1.out.2.1 E1.out.2.2.1 E1.out.2.2.2 ((heap_setCell_same _ _ 1 #[.int .i64 (p : Int), .int .i64 0] 27 _ (heap_setCell_same _ _ 0 #[.int .i64 0, .int .i64 0] 27 _ HRB4.out)) : Blk _ _ #[.int .i64 (p : Int), .int .i64 40] 27) (World.ownsRow_nil _ _ _ _) ((HBW4.out.setCell (p := ⟨w.heap.size, 0, none⟩) (by simp) _).setCell (p := ⟨w.heap.size, 1, none⟩) (by simp) _) _ rfl rfl rfl
      have hd9 : decide ((n : Int) > 998) = false := by simp; omega
      -- what follows where the line is not one that goes on
      have SHUT := rshut_any (g7 + 1) (.slice av s.fs.length cv) s.fs at' nm tx W4 hsz4 HO4.out HOK.out.many (by omega) (shutB s) (rel_ok HREL.out) (shutZ s).fs (rel_gs HREL.out)
      by_cases hn0 : n = 0
      · subst hn0
        have hd0 : decide ((0 : Int) > 0) = false := by decide
        go_wp2_with fail
        refine SHUT.mono ?_
        clear SHUT
        rintro e w5 ⟨⟨v5, rfl, ho5⟩, hb5⟩
        obtain ⟨a5, c5, rfl, _⟩ := ownF_view ho5
        have HO5 : Hid (OwnF w5 (g7 + 1) (.slice a5 (shutZ s).fs.length c5) (shutZ s).fs) := ho5
        have HBW5 : Hid (Below w.heap.size w w5) := HBW4.out.trans (hb5.mono (by omega))
        have HRB5 : Hid (Blk w5 w.heap.size #[.int .i64 0, .int .i64 0] 27) := HRB4.out.below hb5 (by omega)
        have HBX5 : Hid (Blk w5 g7 #[.int .i64 at', .string nm, .string tx] 57) := HBX4.out.below hb5 (by omega)
        clear ho5 hb5 r0 r1 r2 r3 x0 x1 x2 x3 x4 x5
        have r0 := HRB5.out.cell 0
        have r1 := HRB5.out.cell 1
        have r2 := HRB5.out.frozen 0
        have r3 := HRB5.out.frozen 1
        have x0 := HBX5.out.cell 0
        simp only [List.getElem?_toArray, List.getElem?_cons_zero, List.getElem?_cons_succ] at r0 r1 x0
        cases hsb : shutB s with
        | true =>
          have E1 : Hid (outC zs = 0 ∧ outP zs = 0 ∧ outN zs = (p : Int) + 2 ∧ outL zs = (shutZ s).fs) := by
            have h := STP.out (by simp [stepR])
            simp only [stopS, stopN, stopF, hsb] at h
            simp at h
            obtain ⟨e1, e2, _⟩ := out_of h
            exact ⟨e1, e2 rfl⟩
          go_wp2
          exact rret E1.out.1 E1.out.2.1 E1.out.2.2.1 E1.out.2.2.2 ((heap_setCell_same _ _ 1 #[.int .i64 0, .int .i64 0] 27 _ (heap_setCell_same _ _ 0 #[.int .i64 0, .int .i64 0] 27 _ HRB5.out)) : Blk _ _ #[.int .i64 0, .int .i64 0] 27) (own_base (by omega) (ownsRow_other (by omega) (ownsRow_other (by omega) HO5.out))) ((HBW5.out.setCell (p := ⟨w.heap.size, 0, none⟩) (by simp) _).setCell (p := ⟨w.heap.size, 1, none⟩) (by simp) _) _ rfl rfl rfl
        | false =>
          have hae : at' = s.beg := by
            rcases HREL.out with ⟨h1, _⟩ | ⟨_, h2, _⟩
            · simp [shutB, h1] at hsb
            · exact h2
          subst hae
          have E1 : Hid (outC zs = 50 ∧ outP zs = s.beg ∧ outN zs = 0 ∧ outL zs = []) := ERR.out s.beg 50 (by decide) (by simp [stepR]) (by simp [stopF, hsb])
          go_wp2
          go_region
          all_goals (
            go_wp2
            refine rret E1.out.1 E1.out.2.1 E1.out.2.2.1 E1.out.2.2.2 ?_ (World.ownsRow_nil _ _ _ _) ?_ _ rfl rfl rfl
            · exact ((heap_setCell_same _ _ 1 #[.int .i64 s.beg, .int .i64 0] 27 _ (heap_setCell_same _ _ 0 #[.int .i64 0, .int .i64 0] 27 _ HRB5.out)) : Blk _ _ #[.int .i64 s.beg, .int .i64 50] 27)
            · have h := (HBW5.out.setCell (p := ⟨w.heap.size, 0, none⟩) (by simp) (.int .i64 s.beg)).setCell (p := ⟨w.heap.size, 1, none⟩) (by simp) (.int .i64 50)
              exact ⟨h.os, h.tape, h.output, h.size, h.block⟩)
      have hd0 : decide ((n : Int) > 0) = true := by simp; omega
      obtain ⟨c, pc', rfl⟩ : ∃ c pc', pc = c :: pc' := by
        cases pc with
        | nil => simp at hpl; omega
        | cons c pc' => exact ⟨c, pc', rfl⟩
      have hs0 : 0 < st.size := by omega
      have hst0 : (st[0].toNat : Int) = c := by
        have h := nums_at st 0 hs0
        rw [HST.out] at h
        simpa using h.symm
      have HBH : Hid (blankH (c :: pc') = blankC c) := rfl
      cases hbl : blankC c with
      | true =>
        have HBL : Hid (blankC c = true) := hbl
        clear SHUT
        by_cases hnm : s.nm.toList = []
        · have hat : at' = -1 := by
            rcases HREL.out with ⟨_, h⟩ | ⟨h, _⟩
            · exact h
            · exact absurd hnm h
          subst hat
          have E1 : Hid (outC zs = 50 ∧ outP zs = p ∧ outN zs = 0 ∧ outL zs = []) := ERR.out p 50 (by decide) (by simp [stepR, hn0, hn9, HPC.out, HBH.out, HBL.out, hnm]) (by simp [stopF, hn0, hn9, HPC.out, HBH.out, HBL.out])
          go_wp2_with (go_at_call 24; refine (rblank_any _ _).mono ?_; rintro e w' ⟨rfl, rfl⟩; (try rw [hst0]); rw [hbl])
          exact rret E1.out.1 E1.out.2.1 E1.out.2.2.1 E1.out.2.2.2 ((heap_setCell_same _ _ 1 #[.int .i64 (p : Int), .int .i64 0] 27 _ (heap_setCell_same _ _ 0 #[.int .i64 0, .int .i64 0] 27 _ HRB4.out)) : Blk _ _ #[.int .i64 (p : Int), .int .i64 50] 27) (World.ownsRow_nil _ _ _ _) ((HBW4.out.setCell (p := ⟨w.heap.size, 0, none⟩) (by simp) _).setCell (p := ⟨w.heap.size, 1, none⟩) (by simp) _) _ rfl rfl rfl
        · obtain ⟨hae, hbg, hnn, htv⟩ : at' = s.beg ∧ 0 ≤ s.beg ∧ nm = s.nm ∧ nums tx = s.val := by
            rcases HREL.out with ⟨h, _⟩ | ⟨_, h2, h3, h4, h5⟩
            · exact absurd h hnm
            · exact ⟨h2, h3, h4, h5⟩
          have hda : decide (at' < 0) = false := by simp; omega
          have hgo : stepR zs s (p, n, true) = some (goOnZ s (c :: pc')) := by simp [stepR, hn0, hn9, HPC.out, HBH.out, HBL.out, hnm]
          have HGO : Hid (goOnZ s (c :: pc') = { s with val := s.val ++ (c :: pc') }) := by unfold Hid goOnZ; rw [if_neg hnm]
          obtain ⟨gp, gk⟩ := GON.out _ hgo
          have GP : Hid (parseZ zs = parseL zs (goOnZ s (c :: pc')) ((A ++ [(q, m, false)]).drop (k + 1))) := gp
          have GK : Hid (OkP len (goOnZ s (c :: pc'))) := gk
          have HTV : Hid (nums tx = s.val) := htv
          have HNM : Hid (¬ s.nm.toList = []) := hnm
          clear gp gk htv hgo hnm
          go_wp2_with (go_at_call 24; refine (rblank_any _ _).mono ?_; rintro e w' ⟨rfl, rfl⟩; (try rw [hst0]); rw [hbl])
          go_roundw
          case rel =>
            refine ⟨k + 1, goOnZ s (c :: pc'), at', nm, tx ++ st, by go_num, by omega, ?_, GP.out, GK.out, ?_, ?_, ?_, ?_, ?_, ?_⟩
            · rw [HGO.out]; exact ownsRow_other (by omega) HO4.out
            · rw [HGO.out]; simp only [List.length_append, hpl]; omega
            · rw [HGO.out]; exact .inr ⟨HNM.out, hae, hbg, hnn, by simp only; rw [nums_append, HTV.out, HST.out]⟩
            · rw [size_append]; omega
            · exact heap_setCell_same _ _ 2 #[.int .i64 at', .string nm, .string tx] 57 _ HBX4.out
            · exact HBE4.out.setCell (p := ⟨g7, 2, none⟩) (by simp) _
            · exact Nat.le_trans hsz4 (size_setCell _ _ _)
          case measure => simp [intOf]; omega
      | false =>
        have HBL : Hid (blankC c = false) := hbl
        go_wp2_with (first | (go_at_call 24; refine (rblank_any _ _).mono ?_; rintro e w' ⟨rfl, rfl⟩; (try rw [hst0]); rw [hbl]) | fail)
        refine SHUT.mono ?_
        clear SHUT
        rintro e w5 ⟨⟨v5, rfl, ho5⟩, hb5⟩
        obtain ⟨a5, c5, rfl, _⟩ := ownF_view ho5
        have HO5 : Hid (OwnF w5 (g7 + 1) (.slice a5 (shutZ s).fs.length c5) (shutZ s).fs) := ho5
        have HBW5 : Hid (Below w.heap.size w w5) := HBW4.out.trans (hb5.mono (by omega))
        have HBE5 : Hid (Below g7 W3 w5) := HBE4.out.trans (hb5.mono (by omega))
        have HRB5 : Hid (Blk w5 w.heap.size #[.int .i64 0, .int .i64 0] 27) := HRB4.out.below hb5 (by omega)
        have HBX5 : Hid (Blk w5 g7 #[.int .i64 at', .string nm, .string tx] 57) := HBX4.out.below hb5 (by omega)
        have hsz5 : g7 + 1 ≤ w5.heap.size := Nat.le_trans hsz4 hb5.size
        clear ho5 hb5 r0 r1 r2 r3 x0 x1 x2 x3 x4 x5
        have r0 := HRB5.out.cell 0
        have r1 := HRB5.out.cell 1
        have r2 := HRB5.out.frozen 0
        have r3 := HRB5.out.frozen 1
        have x0 := HBX5.out.cell 0
        simp only [List.getElem?_toArray, List.getElem?_cons_zero, List.getElem?_cons_succ] at r0 r1 x0
        cases hsb : shutB s with
        | false =>
          have hae : at' = s.beg := by
            rcases HREL.out with ⟨h1, _⟩ | ⟨_, h2, _⟩
            · simp [shutB, h1] at hsb
            · exact h2
          subst hae
          have E1 : Hid (outC zs = 50 ∧ outP zs = s.beg ∧ outN zs = 0 ∧ outL zs = []) := ERR.out s.beg 50 (by decide) (by simp [stepR, hn0, hn9, HPC.out, HBH.out, HBL.out, hsb]) (by simp [stopF, hn0, hn9, HPC.out, HBH.out, HBL.out, hsb])
          go_wp2
          go_region
          all_goals (
            go_wp2
            refine rret E1.out.1 E1.out.2.1 E1.out.2.2.1 E1.out.2.2.2 ?_ (World.ownsRow_nil _ _ _ _) ?_ _ rfl rfl rfl
            · exact ((heap_setCell_same _ _ 1 #[.int .i64 s.beg, .int .i64 0] 27 _ (heap_setCell_same _ _ 0 #[.int .i64 0, .int .i64 0] 27 _ HRB5.out)) : Blk _ _ #[.int .i64 s.beg, .int .i64 50] 27)
            · have h := (HBW5.out.setCell (p := ⟨w.heap.size, 0, none⟩) (by simp) (.int .i64 s.beg)).setCell (p := ⟨w.heap.size, 1, none⟩) (by simp) (.int .i64 50)
              exact ⟨h.os, h.tape, h.output, h.size, h.block⟩)
        | true =>
          have hdn : ((n : Int) == 0) = false := by rw [beq_eq_false_iff_ne]; omega
          go_wp2_with fail
          refine (parts_any st w5 (by omega)).mono ?_
          rintro e w6 ⟨⟨g6, n6, c6, t, rfl, ht0, htp⟩, hb6⟩
          rw [HST.out] at htp
          have HO6 : Hid (OwnF w6 (g7 + 1) (.slice a5 (shutZ s).fs.length c5) (shutZ s).fs) := own_keep HO5.out hb6
          have HBW6 : Hid (Below w.heap.size w w6) := HBW5.out.trans (hb6.mono HBW5.out.size)
          have HBE6 : Hid (Below g7 W3 w6) := HBE5.out.trans (hb6.mono (by omega))
          have HRB6 : Hid (Blk w6 w.heap.size #[.int .i64 0, .int .i64 0] 27) := HRB5.out.below hb6 (by omega)
          have HBX6 : Hid (Blk w6 g7 #[.int .i64 at', .string nm, .string tx] 57) := HBX5.out.below hb6 (by omega)
          have hsz6 : g7 + 1 ≤ w6.heap.size := Nat.le_trans hsz5 hb6.size
          clear hb6 r0 r1 r2 r3 x0
          have r0 := HRB6.out.cell 0
          have r1 := HRB6.out.cell 1
          have r2 := HRB6.out.frozen 0
          have r3 := HRB6.out.frozen 1
          have x0 := HBX6.out.cell 0
          have x1 := HBX6.out.cell 1
          have x2 := HBX6.out.cell 2
          have x3 := HBX6.out.frozen 0
          have x4 := HBX6.out.frozen 1
          have x5 := HBX6.out.frozen 2
          simp only [List.getElem?_toArray, List.getElem?_cons_zero, List.getElem?_cons_succ] at r0 r1 x0 x1 x2
          by_cases hcol : 0 ≤ colonI (c :: pc')
          · have hroom := colonI_room (c :: pc') hcol
            obtain ⟨j, hj⟩ : ∃ j : Nat, colonI (c :: pc') = j := ⟨(colonI (c :: pc')).toNat, by omega⟩
            rw [hj, hpl] at hroom
            have htt : nums t = (c :: pc').take j := by rw [htp, partZ, if_pos hcol, hj]; rfl
            have htz : t.size = j := by rw [← nums_len, htt, List.length_take, hpl]; omega
            have hdt : ((t.size : Int) == (st.size : Int)) = false := by rw [beq_eq_false_iff_ne]; omega
            have HTT : Hid (nums t = (c :: pc').take j) := htt
            have hstt : strOfNums ((c :: pc').take j) = t := by rw [← htt, str_nums]
            clear htp htt
            cases hnz : nameZ (nums t) with
            | false =>
              have hbb : beginB s (c :: pc') = false := by simp only [beginB, hj, Int.toNat_natCast, ← HTT.out, hnz, Bool.and_false]
              have E1 : Hid (outC zs = 50 ∧ outP zs = p ∧ outN zs = 0 ∧ outL zs = []) := ERR.out p 50 (by decide) (by simp [stepR, hn0, hn9, HPC.out, HBH.out, HBL.out, hsb, hbb]) (by simp [stopF, hn0, hn9, HPC.out, HBH.out, HBL.out, hsb])
              clear hbb hstt
              go_wp2_with (go_at_call 27; refine (rName_any _ _ (by omega)).mono ?_; rintro e w' ⟨rfl, rfl⟩; rw [hnz])
              exact rret E1.out.1 E1.out.2.1 E1.out.2.2.1 E1.out.2.2.2 ((heap_setCell_same _ _ 1 #[.int .i64 (p : Int), .int .i64 0] 27 _ (heap_setCell_same _ _ 0 #[.int .i64 0, .int .i64 0] 27 _ HRB6.out)) : Blk _ _ #[.int .i64 (p : Int), .int .i64 50] 27) (World.ownsRow_nil _ _ _ _) ((HBW6.out.setCell (p := ⟨w.heap.size, 0, none⟩) (by simp) _).setCell (p := ⟨w.heap.size, 1, none⟩) (by simp) _) _ rfl rfl rfl
            | true =>
              have hbb : beginB s (c :: pc') = true := by simp only [beginB, hj, Int.toNat_natCast, ← HTT.out, hnz, Bool.and_true, decide_eq_true_eq]; omega
              have hbz : beginZ s p (c :: pc') = { shutZ s with nm := t, val := (c :: pc').drop (j + 1), beg := p } := by
                rw [beginZ, if_pos hsb, if_pos hbb, hj]; simp only [Int.toNat_natCast, hstt]
              have hgo : stepR zs s (p, n, true) = some (beginZ s p (c :: pc')) := by simp [stepR, hn0, hn9, HPC.out, HBH.out, HBL.out, hsb, hbb]
              obtain ⟨gp, gk⟩ := GON.out _ hgo
              have GP : Hid (parseZ zs = parseL zs (beginZ s p (c :: pc')) ((A ++ [(q, m, false)]).drop (k + 1))) := gp
              have GK : Hid (OkP len (beginZ s p (c :: pc'))) := gk
              have HBZ : Hid (beginZ s p (c :: pc') = { shutZ s with nm := t, val := (c :: pc').drop (j + 1), beg := p }) := hbz
              have hez : (st.extract (j + 1) n).size ≤ 998 := by rw [← hstz, ← nums_len, nums_from, List.length_drop, nums_len]; omega
              have HEZ : Hid (nums (st.extract (j + 1) n) = (c :: pc').drop (j + 1)) := by unfold Hid; rw [← hstz, nums_from, HST.out]
              have HTN : Hid (t.toList ≠ []) := by
                intro h
                have h2 := (nameZ_spec hnz).2.1
                apply h2
                rw [nums, ← ByteArray.toList_eq, h]; rfl
              have htl : t.size + 1 ≤ st.size := by omega
              clear gp gk hbb hbz hgo hstt
              go_wp2_with (go_at_call 27; refine (rName_any _ _ (by omega)).mono ?_; rintro e w' ⟨rfl, rfl⟩; rw [hnz])
              go_roundw
              case rel =>
                refine ⟨k + 1, beginZ s p (c :: pc'), p, t, st.extract (j + 1) n, by go_num, by omega, ?_, GP.out, GK.out, ?_, ?_, ?_, ?_, ?_, ?_⟩
                · rw [HBZ.out]; exact ownsRow_other (by omega) (ownsRow_other (by omega) (ownsRow_other (by omega) HO6.out))
                · rw [HBZ.out]; simp only [List.length_drop, hpl]; omega
                · rw [HBZ.out]; exact .inr ⟨HTN.out, rfl, by simp only; omega, rfl, HEZ.out⟩
                · omega
                · exact heap_setCell_same _ _ 2 #[.int .i64 (p : Int), .string t, .string tx] 57 _ (heap_setCell_same _ _ 1 #[.int .i64 (p : Int), .string nm, .string tx] 57 _ (heap_setCell_same _ _ 0 #[.int .i64 at', .string nm, .string tx] 57 _ HBX6.out))
                · exact ((HBE6.out.setCell (p := ⟨g7, 0, none⟩) (by simp) _).setCell (p := ⟨g7, 1, none⟩) (by simp) _).setCell (p := ⟨g7, 2, none⟩) (by simp) _
                · exact Nat.le_trans hsz6 (Nat.le_trans (size_setCell _ _ _) (Nat.le_trans (size_setCell _ _ _) (size_setCell _ _ _)))
              case measure => simp [intOf]; omega
          · have hc1 : colonI (c :: pc') = -1 := by have := colonI_ge (c :: pc'); omega
            have htt : nums t = c :: pc' := by rw [htp, partZ, if_neg hcol]
            have htz : t.size = n := by rw [← nums_len, htt, hpl]
            have hdt : ((t.size : Int) == (st.size : Int)) = true := by simp; omega
            have hbb : beginB s (c :: pc') = false := by simp only [beginB, hc1]; rfl
            have E1 : Hid (outC zs = 50 ∧ outP zs = p ∧ outN zs = 0 ∧ outL zs = []) := ERR.out p 50 (by decide) (by simp [stepR, hn0, hn9, HPC.out, HBH.out, HBL.out, hsb, hbb]) (by simp [stopF, hn0, hn9, HPC.out, HBH.out, HBL.out, hsb])
            clear hbb htt htp
            go_wp2
            exact rret E1.out.1 E1.out.2.1 E1.out.2.2.1 E1.out.2.2.2 ((heap_setCell_same _ _ 1 #[.int .i64 (p : Int), .int .i64 0] 27 _ (heap_setCell_same _ _ 0 #[.int .i64 0, .int .i64 0] 27 _ HRB6.out)) : Blk _ _ #[.int .i64 (p : Int), .int .i64 50] 27) (World.ownsRow_nil _ _ _ _) ((HBW6.out.setCell (p := ⟨w.heap.size, 0, none⟩) (by simp) _).setCell (p := ⟨w.heap.size, 1, none⟩) (by simp) _) _ rfl rfl rfl
    · obtain rfl : k = A.length := by omega
      have E1 : Hid (outC zs = 42 ∧ outP zs = q ∧ outN zs = 0 ∧ outL zs = []) := by
        have h := HP.out
        rw [List.drop_left, parseL] at h
        have h1 : stepR zs s (q, m, false) = none := by simp [stepR]
        rw [h1] at h
        simp only [stopS, stopN, stopF] at h
        simp at h
        obtain ⟨e1, _, e2⟩ := out_of h
        exact ⟨e1, e2 (by decide)⟩
      rcases HZ.out with ⟨rfl, hq⟩ | hq
      · obtain rfl : q = len := by omega
        clear hq
        have hd1 : decide ((ls.length : Int) < (ls.length : Int)) = false := by simp
        rcases HLC.out with h | ⟨gL, rfl, hcL⟩
        · subst h
          go_wp2
          exact rret E1.out.1 E1.out.2.1 E1.out.2.2.1 E1.out.2.2.2 ((heap_setCell_same _ _ 1 #[.int .i64 (q : Int), .int .i64 0] 27 _ (heap_setCell_same _ _ 0 #[.int .i64 0, .int .i64 0] 27 _ HRB.out)) : Blk _ _ #[.int .i64 (q : Int), .int .i64 42] 27) (World.ownsRow_nil _ _ _ _) ((HBW.out.setCell (p := ⟨w.heap.size, 0, none⟩) (by simp) _).setCell (p := ⟨w.heap.size, 1, none⟩) (by simp) _) _ rfl rfl rfl
        · by_cases hl0 : ls.length = 0
          · have hl00 : ls = [] := List.eq_nil_of_length_eq_zero hl0
            subst hl00
            go_wp2
            exact rret E1.out.1 E1.out.2.1 E1.out.2.2.1 E1.out.2.2.2 ((heap_setCell_same _ _ 1 #[.int .i64 (q : Int), .int .i64 0] 27 _ (heap_setCell_same _ _ 0 #[.int .i64 0, .int .i64 0] 27 _ HRB.out)) : Blk _ _ #[.int .i64 (q : Int), .int .i64 42] 27) (World.ownsRow_nil _ _ _ _) ((HBW.out.setCell (p := ⟨w.heap.size, 0, none⟩) (by simp) _).setCell (p := ⟨w.heap.size, 1, none⟩) (by simp) _) _ rfl rfl rfl
          · obtain ⟨j, hj⟩ : ∃ j, ls.length = j + 1 := ⟨ls.length - 1, by omega⟩
            obtain ⟨⟨p, n, en⟩, hx⟩ : ∃ x, ls[j]? = some x := ⟨_, List.getElem?_eq_getElem (by omega)⟩
            obtain rfl : en = true := HW.out _ (List.mem_of_getElem? hx)
            obtain ⟨c0, c1, c2⟩ := hcL j _ hx wr HBE.out
            simp only at c0 c1 c2
            have hdj : decide ((ls.length : Int) > 0) = true := by simp; omega
            have hsub : (ls.length : Int) - 1 = (j : Int) := by omega
            have hjl : j < ls.length := by omega
            clear hcL hx
            go_wp2
            exact rret E1.out.1 E1.out.2.1 E1.out.2.2.1 E1.out.2.2.2 ((heap_setCell_same _ _ 1 #[.int .i64 (q : Int), .int .i64 0] 27 _ (heap_setCell_same _ _ 0 #[.int .i64 0, .int .i64 0] 27 _ HRB.out)) : Blk _ _ #[.int .i64 (q : Int), .int .i64 42] 27) (World.ownsRow_nil _ _ _ _) ((HBW.out.setCell (p := ⟨w.heap.size, 0, none⟩) (by simp) _).setCell (p := ⟨w.heap.size, 1, none⟩) (by simp) _) _ rfl rfl rfl
      · have hll : ls.length = A.length + 1 := by rw [hq]; simp
        have hx : ls[A.length]? = some (q, m, false) := by rw [hq]; simp
        rcases HLC.out with h | ⟨gL, rfl, hcL⟩
        · rw [h] at hll; simp at hll
        obtain ⟨c0, c1, c2⟩ := hcL A.length _ hx wr HBE.out
        simp only at c0 c1 c2
        have hd1 : decide ((A.length : Int) < (ls.length : Int)) = true := by simp; omega
        have hdj : decide ((ls.length : Int) > 0) = true := by simp; omega
        have hsub : (ls.length : Int) - 1 = (A.length : Int) := by omega
        have hjl : A.length < ls.length := by omega
        clear hcL hx hq
        go_wp2
        exact rret E1.out.1 E1.out.2.1 E1.out.2.2.1 E1.out.2.2.2 ((heap_setCell_same _ _ 1 #[.int .i64 (q : Int), .int .i64 0] 27 _ (heap_setCell_same _ _ 0 #[.int .i64 0, .int .i64 0] 27 _ HRB.out)) : Blk _ _ #[.int .i64 (q : Int), .int .i64 42] 27) (World.ownsRow_nil _ _ _ _) ((HBW.out.setCell (p := ⟨w.heap.size, 0, none⟩) (by simp) _).setCell (p := ⟨w.heap.size, 1, none⟩) (by simp) _) _ rfl rfl rfl
end Go.Proofs.YtnpjffpioimcdaaDoor
