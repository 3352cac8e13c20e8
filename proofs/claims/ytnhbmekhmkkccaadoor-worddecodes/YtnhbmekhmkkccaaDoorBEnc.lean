/-
  The contract of Encode.
-/
import Derived.Test.YtnhbmekhmkkccaaDoorBLen
namespace Go.Proofs.YtnhbmekhmkkccaaDoor.Bt
open Go.RowKit
set_option linter.unusedVariables false

/-- What stands ahead of four signs, and where the line is behind them. -/
def brk (wd ln : Int) : List Int := if 0 < wd ∧ ln = wd then [13, 10] else []
def nxt (wd ln : Int) : Int := (if 0 < wd ∧ ln = wd then 0 else ln) + 4
/-- Bytes as signs, in lines. -/
def encW (wd : Int) : Int → List Int → List Int
  | _, [] => []
  | ln, [x] => brk wd ln ++ fourL x 0 0 1
  | ln, [x, y] => brk wd ln ++ fourL x y 0 2
  | ln, x :: y :: z :: r => brk wd ln ++ fourL x y z 3 ++ encW wd (nxt wd ln) r

def lenOf : Value → Nat
  | .slice _ n _ => n
  | _ => 0
theorem hsz1 : (Tryd.prog.info? 5).map (·.size) = some 1 := by kernel_rfl
theorem src_cells {W : World} {b off : Nat} {cs : List Int} (h : ∀ i, i < cs.length → W.cell? ⟨b, off + i, none⟩ = some (.int .u8 (cs.getD i 0))) :
    ∀ j u, (cs.map (Value.int .u8))[j]? = some u → W.cell? ((⟨b, off, none⟩ : Addr).add j) = some u := by
  intro j u hu
  rw [add_plain]
  rw [List.getElem?_map] at hu
  have hj : j < cs.length := by
    rcases Nat.lt_or_ge j cs.length with h | h
    · exact h
    · rw [List.getElem?_eq_none h] at hu; simp at hu
  rw [h j hj]
  rw [List.getElem?_eq_getElem hj] at hu
  simp at hu
  simp [List.getD_eq_getElem?_getD, List.getElem?_eq_getElem hj, hu]
theorem copy_three (W : World) (b off n cap : Nat) (cs : List Int) (new : Array Value) (hsrc : ∀ j u, (cs.map (Value.int .u8))[j]? = some u → (W.alloc (.cells #[.int .u8 0, .int .u8 0, .int .u8 0] 58)).cell? ((⟨b, off, none⟩ : Addr).add j) = some u) (hn : cs.length = Nat.min n 3) (hc : cs.length ≤ 3)
    (hnew : (cs.map (Value.int .u8) ++ [Value.int .u8 0, Value.int .u8 0, Value.int .u8 0].drop cs.length).toArray = new) :
    ∃ w2, (Builtin.copy_ #[31, 31] 3 #[.slice (some ⟨W.heap.size, 0, none⟩) 3 3, .slice (some ⟨b, off, none⟩) n cap]).run Tryd.prog (W.alloc (.cells #[.int .u8 0, .int .u8 0, .int .u8 0] 58)) = .ok (.int .i64 (cs.length : Nat)) w2 ∧ w2.heap[W.heap.size]? = some (.cells new 58 (0, 0)) ∧ Below W.heap.size W w2 := by
  have h := run_copy_row (P := Tryd.prog) (W.alloc (.cells #[.int .u8 0, .int .u8 0, .int .u8 0] 58)) 31 31 3 5 W.heap.size 0 3 3 ⟨b, off, none⟩ n cap #[.int .u8 0, .int .u8 0, .int .u8 0] 58 (cs.map (Value.int .u8)) Tryd.underlying31 hsz1 (heap_alloc_new _ _) (by simpa using hn) hsrc (by simpa using hc) (ints_one _)
  have e : ((#[Value.int .u8 0, Value.int .u8 0, Value.int .u8 0] : Array Value).toList.take 0 ++ cs.map (Value.int .u8) ++ (#[Value.int .u8 0, Value.int .u8 0, Value.int .u8 0] : Array Value).toList.drop (0 + (cs.map (Value.int .u8)).length)).toArray = new := by
    rw [← hnew]; simp
  rw [e] at h
  refine ⟨(W.alloc (.cells #[.int .u8 0, .int .u8 0, .int .u8 0] 58)).setRow W.heap.size new, ?_, setRow_heap _ _ _ _ _ _ (heap_alloc_new _ _), below_setRow (keep _ _) (Nat.le_refl _) _⟩
  rw [h, List.length_map]; rfl
theorem fourL_len (x y z : Int) (t : Nat) : (fourL x y z t).length = 4 := rfl
theorem brk_len (wd ln : Int) : (brk wd ln).length ≤ 2 := by unfold brk; split <;> simp
theorem encW_len (wd : Int) : ∀ (n : Nat) (ln : Int) (l : List Int), l.length ≤ n → (encW wd ln l).length ≤ 6 * l.length
  | 0, ln, l, h => by
    have : l = [] := List.eq_nil_of_length_eq_zero (by omega)
    subst this; simp [encW]
  | n + 1, ln, [], h => by simp [encW]
  | n + 1, ln, [x], h => by have := brk_len wd ln; simp [encW, fourL_len]; omega
  | n + 1, ln, [x, y], h => by have := brk_len wd ln; simp [encW, fourL_len]; omega
  | n + 1, ln, x :: y :: z :: r, h => by
    have := brk_len wd ln
    have := encW_len wd n (nxt wd ln) r (by simp at h; omega)
    simp [encW, fourL_len]; omega


set_option maxRecDepth 100000 in
set_option maxHeartbeats 8000000 in
theorem encode_ok (a : Option Addr) (len cap : Nat) (wd : Int) (l : List Int) (w : World) (hlen : l.length = len) (hb : Byt l) (hcap : len ≤ cap) (hm : cap ≤ maxLen) (hsm : len ≤ 10000) (h0 : 0 ≤ wd) (h1 : wd ≤ 76) (h2 : wd % 4 = 0) (hrow : Row w a l) :
    Calls Tryd.prog 19 #[.slice a len cap, .int .i64 wd] w fun e w' => e = .returned (.tuple #[.string (strOfNums (encW wd 0 l)), .int .i64 0]) ∧ Below w.heap.size w w' := by
  obtain ⟨j0, hi, hz0, hz1, hz2⟩ := info_parts Tryd.info5
  have HL : Hid (l.length = len) := hlen
  have H4 : Hid (wd % 4 = 0) := h2
  have hm' := hm
  unfold maxLen at hm'
  have hz := lenZ_bd len wd h0 (by omega) (by omega)
  obtain ⟨n, hn⟩ := Int.eq_ofNat_of_zero_le hz.1
  have HN : Hid (lenZ len wd = n) := hn
  have hn' : n ≤ 9000000 := by omega
  have HR0 : Hid (Row w a l) := hrow
  have HB0 : Hid (Byt l) := hb
  have HE : Hid ((encW wd 0 l).length ≤ 60000) := by have := encW_len wd l.length 0 l (Nat.le_refl _); unfold Hid; omega
  clear hlen h2 hz hn hrow hb
  go_enter Tryd.func19, Tryd.ntmps19
  go_wp2_with (first
    | (go_at_call 40; refine (length_ok _ _ _ h0 h1 H4.out (by omega) (by omega)).mono ?_; rintro e w' ⟨rfl, rfl⟩; rw [HN.out])
    | (at_make; refine wpList_make_own _ rfl _ _ 31 rfl w.heap.size 5 j0 (.int .u8 0) 1 Tryd.underlying31 hi hz0 hz1 _ _ _ n rfl rfl rfl ?m1 ?m2 (Nat.le_refl _) ?_))
  case m1 => rw [hz2]; omega
  case m2 => unfold maxLen; omega
  intro wm hownm hgrowm
  have HBM : Hid (Below w.heap.size w wm) := (Below.refl _ _).grown hgrowm (Nat.le_refl _) (by intro k hk; cases hk)
  have HOM : Hid (wm.ownsRow w.heap.size 5 1 (.slice (some ⟨w.heap.size, 0, none⟩) 0 n) 0 []) := hownm
  clear hownm hgrowm
  go_wp2
  go_loopw [0, 8, 9] (fun s v i wr => ∃ (a : Option Addr) (len cap : Nat) (r pre : List Int) (ln : Int), s = .slice a len cap ∧ i = .int .i64 ln ∧ r.length = len ∧ len ≤ cap ∧ cap ≤ 9223372036854775807 ∧ len ≤ 10000 ∧ 0 ≤ ln ∧ ln + 4 * len ≤ 40000 ∧ Row w a r ∧ Byt r ∧ encW wd 0 l = pre ++ encW wd ln r ∧ Own wr w.heap.size v pre ∧ Below w.heap.size w wr) (fun s _ _ _ => lenOf s)
  case atStart => exact ⟨a, len, cap, l, [], 0, rfl, rfl, HL.out, hcap, hm', hsm, by omega, by omega, HR0.out, HB0.out, rfl, HOM.out, HBM.out⟩
  case round =>
    clear HL hcap hm hm' hsm HR0 HB0 HBM HOM HN hn'
    obtain ⟨a, len, cap, r, pre, ln, rfl, rfl, hlen, hcap, hm, hsm, hln, hln2, hrow, hb, henc, hown, hbel⟩ := hrel
    have HR : Hid (Row w a r) := hrow
    have HEN : Hid (encW wd 0 l = pre ++ encW wd ln r) := henc
    have HW : Hid (Below w.heap.size w wr) := hbel
    have HL : Hid (r.length = len) := hlen
    have HO : Hid (wr.ownsRow w.heap.size 5 1 u8 pre.length (pre.map (Value.int .u8))) := hown
    have hpre : pre.length ≤ 60000 := by have := HE.out; rw [henc, List.length_append] at this; omega
    have hsz : w.heap.size ≤ wr.heap.size := hbel.size
    clear henc hbel hrow hown
    match r, hb, hlen, HR, HEN, HL with
    | [], hb, hlen, HR, HEN, HL =>
      obtain rfl : len = 0 := by simpa using hlen.symm
      have HP : Hid (encW wd 0 l = pre) := by unfold Hid; rw [HEN.out]; simp [encW]
      obtain ⟨a8, cap8, hv, hc8, hm8, hrow8, hn8⟩ := own_row' HO.out
      have k1 : (convert 31 9 (.slice a8 pre.length cap8)).run Tryd.prog wr = .ok (.string (strOfNums pre)) wr := conv_row _ _ rfl hrow8
      subst hv
      clear hb hlen hrow8
      go_wp2
      go_ret2
      exact ⟨by rw [HP.out]; rfl, HW.out⟩
    | [x], hb, hlen, HR, HEN, HL =>
      have hx := hb.head
      have hbr : Byt [] := by intro x hx; simp at hx
      obtain rfl : len = 1 := by simpa using hlen.symm
      clear hb hlen
      obtain ⟨b, off, rfl, hc⟩ : ∃ b off, a = some ⟨b, off, none⟩ ∧ ∀ i, i < ([x] : List Int).length → w.cell? ⟨b, off + i, none⟩ = some (.int .u8 (([x] : List Int).getD i 0)) := by
        rcases HR.out with h | h
        · cases h
        · exact h
      rcases (show wd ≤ 0 ∨ (0 < wd ∧ ln ≠ wd) ∨ (0 < wd ∧ ln = wd) from by omega) with hw | ⟨hw, hw'⟩ | ⟨hw, hw'⟩
      · have HW9 : Hid (Below w.heap.size w wr) := HW.out
        have HCS : Hid (∀ i, i < ([x] : List Int).length → (wr.alloc (.cells #[.int .u8 0, .int .u8 0, .int .u8 0] 58)).cell? ⟨b, off + i, none⟩ = some (.int .u8 (([x] : List Int).getD i 0))) := by
          intro i hi
          have hi' : i < [x].length := by simp at hi ⊢; omega
          have hcc := hc i hi'
          have hbb := World.block_lt_of_cell? w _ hcc
          rw [(keep wr _).cell (by have := HW.out.size; simp at hbb ⊢; omega), HW.out.cell hbb, hcc]
        clear hc
        obtain ⟨w2, hcopy, HG, hb2⟩ := copy_three wr b off 1 cap [x] #[.int .u8 x, .int .u8 0, .int .u8 0] (src_cells HCS.out) (by first | rfl | (simp [Nat.min_def]; omega)) (by simp) (by simp)
        simp only [List.length_cons, List.length_nil] at hcopy
        have q0 : w2.cell? ⟨wr.heap.size, 0, none⟩ = some (.int .u8 x) := by rw [cell_of_row w2 _ _ _ _ _ HG]; rfl
        have q1 : w2.cell? ⟨wr.heap.size, 1, none⟩ = some (.int .u8 0) := by rw [cell_of_row w2 _ _ _ _ _ HG]; rfl
        have q2 : w2.cell? ⟨wr.heap.size, 2, none⟩ = some (.int .u8 0) := by rw [cell_of_row w2 _ _ _ _ _ HG]; rfl
        have HW2 : Hid (Below w.heap.size w w2) := HW.out.trans (hb2.mono HW.out.size)
        have HO2 := own_keep HO.out hb2
        have HO2' : Hid (w2.ownsRow w.heap.size 5 1 _ pre.length (pre.map (Value.int .u8))) := HO2
        have hs2 : wr.heap.size + 1 ≤ w2.heap.size := by have := (Array.getElem?_eq_some_iff.1 HG).1; omega
        clear hb2 HO2 HG HCS
        go_wp2_with (go_at_call 41; refine (four1 x 0 0 w2 w.heap.size _ pre (by omega) (by omega) (by omega) (by omega) (by omega) (by omega) HO2'.out HW2.out.size (by first | omega | (simp; omega))).mono ?_; rintro e w3 ⟨v3, rfl, hown3, hb3⟩)
        have HO3 : Hid (Own w3 w.heap.size v3 (pre ++ fourL x 0 0 1)) := hown3
        have HB3 : Hid (Below w.heap.size w w3) := HW2.out.trans hb3
        have HR3 : Hid (Row w (if cap = 1 then some (⟨b, off, none⟩ : Addr) else Option.map (fun x : Addr => x.add 1) (some (⟨b, off, none⟩ : Addr))) []) := row_drop (l := [x]) (n := 1) (cap := cap) HR.out (by rw [HL.out]; exact hcap)
        have HEQ : Hid (encW wd 0 l = (pre ++ fourL x 0 0 1) ++ encW wd (ln + 4) []) := by
          have e : encW wd ln [x] = brk wd ln ++ fourL x 0 0 1 ++ encW wd (ln + 4) [] := by simp [encW]
          unfold Hid
          rw [HEN.out, e, show brk wd ln = [] from by unfold brk; rw [if_neg (by omega)]]
          simp [List.append_assoc]
        clear hown3 hb3
        go_wp2
        go_roundw
        case rel => exact ⟨_, _, _, [], _, ln + 4, rfl, by first | rfl | go_num, by first | rfl | (have := HL.out; simp at this ⊢; omega), by omega, by omega, by omega, by omega, by omega, HR3.out, hbr, HEQ.out, HO3.out, HB3.out⟩
        case measure => simp only [lenOf]; omega
      · have hwb : (ln == wd) = false := by rw [beq_eq_false_iff_ne]; exact hw'
        have HNE : Hid (ln ≠ wd) := hw'
        clear hw'
        have HCS : Hid (∀ i, i < ([x] : List Int).length → (wr.alloc (.cells #[.int .u8 0, .int .u8 0, .int .u8 0] 58)).cell? ⟨b, off + i, none⟩ = some (.int .u8 (([x] : List Int).getD i 0))) := by
          intro i hi
          have hi' : i < [x].length := by simp at hi ⊢; omega
          have hcc := hc i hi'
          have hbb := World.block_lt_of_cell? w _ hcc
          rw [(keep wr _).cell (by have := HW.out.size; simp at hbb ⊢; omega), HW.out.cell hbb, hcc]
        clear hc
        obtain ⟨w2, hcopy, HG, hb2⟩ := copy_three wr b off 1 cap [x] #[.int .u8 x, .int .u8 0, .int .u8 0] (src_cells HCS.out) (by first | rfl | (simp [Nat.min_def]; omega)) (by simp) (by simp)
        simp only [List.length_cons, List.length_nil] at hcopy
        have q0 : w2.cell? ⟨wr.heap.size, 0, none⟩ = some (.int .u8 x) := by rw [cell_of_row w2 _ _ _ _ _ HG]; rfl
        have q1 : w2.cell? ⟨wr.heap.size, 1, none⟩ = some (.int .u8 0) := by rw [cell_of_row w2 _ _ _ _ _ HG]; rfl
        have q2 : w2.cell? ⟨wr.heap.size, 2, none⟩ = some (.int .u8 0) := by rw [cell_of_row w2 _ _ _ _ _ HG]; rfl
        have HW2 : Hid (Below w.heap.size w w2) := HW.out.trans (hb2.mono HW.out.size)
        have HO2 := own_keep HO.out hb2
        have HO2' : Hid (w2.ownsRow w.heap.size 5 1 _ pre.length (pre.map (Value.int .u8))) := HO2
        have hs2 : wr.heap.size + 1 ≤ w2.heap.size := by have := (Array.getElem?_eq_some_iff.1 HG).1; omega
        clear hb2 HO2 HG HCS
        go_wp2_with (go_at_call 41; refine (four1 x 0 0 w2 w.heap.size _ pre (by omega) (by omega) (by omega) (by omega) (by omega) (by omega) HO2'.out HW2.out.size (by first | omega | (simp; omega))).mono ?_; rintro e w3 ⟨v3, rfl, hown3, hb3⟩)
        have HO3 : Hid (Own w3 w.heap.size v3 (pre ++ fourL x 0 0 1)) := hown3
        have HB3 : Hid (Below w.heap.size w w3) := HW2.out.trans hb3
        have HR3 : Hid (Row w (if cap = 1 then some (⟨b, off, none⟩ : Addr) else Option.map (fun x : Addr => x.add 1) (some (⟨b, off, none⟩ : Addr))) []) := row_drop (l := [x]) (n := 1) (cap := cap) HR.out (by rw [HL.out]; exact hcap)
        have HEQ : Hid (encW wd 0 l = (pre ++ fourL x 0 0 1) ++ encW wd (ln + 4) []) := by
          have e : encW wd ln [x] = brk wd ln ++ fourL x 0 0 1 ++ encW wd (ln + 4) [] := by simp [encW]
          unfold Hid
          rw [HEN.out, e, show brk wd ln = [] from by unfold brk; rw [if_neg (fun h => HNE.out h.2)]]
          simp [List.append_assoc]
        clear hown3 hb3
        go_wp2
        go_roundw
        case rel => exact ⟨_, _, _, [], _, ln + 4, rfl, by first | rfl | go_num, by first | rfl | (have := HL.out; simp at this ⊢; omega), by omega, by omega, by omega, by omega, by omega, HR3.out, hbr, HEQ.out, HO3.out, HB3.out⟩
        case measure => simp only [lenOf]; omega
      · subst hw'
        have hwb : (ln == ln) = true := by simp
        have hownA := HO.out
        go_wp2_with (at_builtin; refine wpList_append_own _ rfl (.tmp 34) (.tmp 35) 31 rfl w.heap.size 5 j0 (.int .u8 0) 1 1 Tryd.underlying31 hi hz0 hz1 hz2 rfl (by decide) _ _ _ rfl (hownA.alloc _) ⟨wr.heap.size, 0, none⟩ 2 2 ([13, 10].map (Value.int .u8)) rfl rfl (cells_new _ _ _) (ints_one _) ?p1 ?p2 ?p3 ?_)
        case p1 => unfold maxLen; omega
        case p2 => omega
        case p3 => simp; omega
        intro vA wA hownB hgrowB _
        have HWA : Hid (Below w.heap.size w wA) := (HW.out.alloc hsz _).grown hgrowB (by simp; omega) (fun k hk => (hownA.lt k hk).1)
        have hsA : w.heap.size ≤ wA.heap.size := HWA.out.size
        have HOA : Hid (wA.ownsRow w.heap.size 5 1 vA (pre ++ [13, 10]).length ((pre ++ [13, 10]).map (Value.int .u8))) := by
          unfold Hid; rw [List.length_append, List.map_append]; exact hownB
        clear hownA hownB hgrowB
        have HCS : Hid (∀ i, i < ([x] : List Int).length → (wA.alloc (.cells #[.int .u8 0, .int .u8 0, .int .u8 0] 58)).cell? ⟨b, off + i, none⟩ = some (.int .u8 (([x] : List Int).getD i 0))) := by
          intro i hi
          have hi' : i < [x].length := by simp at hi ⊢; omega
          have hcc := hc i hi'
          have hbb := World.block_lt_of_cell? w _ hcc
          rw [(keep wA _).cell (by have := HWA.out.size; simp at hbb ⊢; omega), HWA.out.cell hbb, hcc]
        clear hc
        obtain ⟨w2, hcopy, HG, hb2⟩ := copy_three wA b off 1 cap [x] #[.int .u8 x, .int .u8 0, .int .u8 0] (src_cells HCS.out) (by first | rfl | (simp [Nat.min_def]; omega)) (by simp) (by simp)
        simp only [List.length_cons, List.length_nil] at hcopy
        have q0 : w2.cell? ⟨wA.heap.size, 0, none⟩ = some (.int .u8 x) := by rw [cell_of_row w2 _ _ _ _ _ HG]; rfl
        have q1 : w2.cell? ⟨wA.heap.size, 1, none⟩ = some (.int .u8 0) := by rw [cell_of_row w2 _ _ _ _ _ HG]; rfl
        have q2 : w2.cell? ⟨wA.heap.size, 2, none⟩ = some (.int .u8 0) := by rw [cell_of_row w2 _ _ _ _ _ HG]; rfl
        have HW2 : Hid (Below w.heap.size w w2) := HWA.out.trans (hb2.mono HWA.out.size)
        have HO2 := own_keep HOA.out hb2
        have HO2' : Hid (w2.ownsRow w.heap.size 5 1 _ (pre ++ [13, 10]).length ((pre ++ [13, 10]).map (Value.int .u8))) := HO2
        have hs2 : wA.heap.size + 1 ≤ w2.heap.size := by have := (Array.getElem?_eq_some_iff.1 HG).1; omega
        clear hb2 HO2 HG HCS
        go_wp2_with (go_at_call 41; refine (four1 x 0 0 w2 w.heap.size _ (pre ++ [13, 10]) (by omega) (by omega) (by omega) (by omega) (by omega) (by omega) HO2'.out HW2.out.size (by first | omega | (simp; omega))).mono ?_; rintro e w3 ⟨v3, rfl, hown3, hb3⟩)
        have HO3 : Hid (Own w3 w.heap.size v3 ((pre ++ [13, 10]) ++ fourL x 0 0 1)) := hown3
        have HB3 : Hid (Below w.heap.size w w3) := HW2.out.trans hb3
        have HR3 : Hid (Row w (if cap = 1 then some (⟨b, off, none⟩ : Addr) else Option.map (fun x : Addr => x.add 1) (some (⟨b, off, none⟩ : Addr))) []) := row_drop (l := [x]) (n := 1) (cap := cap) HR.out (by rw [HL.out]; exact hcap)
        have HEQ : Hid (encW ln 0 l = ((pre ++ [13, 10]) ++ fourL x 0 0 1) ++ encW ln (4) []) := by
          have e : encW ln ln [x] = brk ln ln ++ fourL x 0 0 1 ++ encW ln (4) [] := by simp [encW]
          unfold Hid
          rw [HEN.out, e, show brk ln ln = [13, 10] from by unfold brk; rw [if_pos ⟨hw, rfl⟩]]
          simp [List.append_assoc]
        clear hown3 hb3
        go_wp2
        go_roundw
        case rel => exact ⟨_, _, _, [], _, 4, rfl, by first | rfl | go_num, by first | rfl | (have := HL.out; simp at this ⊢; omega), by omega, by omega, by omega, by omega, by omega, HR3.out, hbr, HEQ.out, HO3.out, HB3.out⟩
        case measure => simp only [lenOf]; omega
    | [x, y], hb, hlen, HR, HEN, HL =>
      have hx := hb.head
      have hy := hb.tail.head
      have hbr : Byt [] := by intro x hx; simp at hx
      obtain rfl : len = 2 := by simpa using hlen.symm
      clear hb hlen
      obtain ⟨b, off, rfl, hc⟩ : ∃ b off, a = some ⟨b, off, none⟩ ∧ ∀ i, i < ([x, y] : List Int).length → w.cell? ⟨b, off + i, none⟩ = some (.int .u8 (([x, y] : List Int).getD i 0)) := by
        rcases HR.out with h | h
        · cases h
        · exact h
      rcases (show wd ≤ 0 ∨ (0 < wd ∧ ln ≠ wd) ∨ (0 < wd ∧ ln = wd) from by omega) with hw | ⟨hw, hw'⟩ | ⟨hw, hw'⟩
      · have HW9 : Hid (Below w.heap.size w wr) := HW.out
        have HCS : Hid (∀ i, i < ([x, y] : List Int).length → (wr.alloc (.cells #[.int .u8 0, .int .u8 0, .int .u8 0] 58)).cell? ⟨b, off + i, none⟩ = some (.int .u8 (([x, y] : List Int).getD i 0))) := by
          intro i hi
          have hi' : i < [x, y].length := by simp at hi ⊢; omega
          have hcc := hc i hi'
          have hbb := World.block_lt_of_cell? w _ hcc
          rw [(keep wr _).cell (by have := HW.out.size; simp at hbb ⊢; omega), HW.out.cell hbb, hcc]
        clear hc
        obtain ⟨w2, hcopy, HG, hb2⟩ := copy_three wr b off 2 cap [x, y] #[.int .u8 x, .int .u8 y, .int .u8 0] (src_cells HCS.out) (by first | rfl | (simp [Nat.min_def]; omega)) (by simp) (by simp)
        simp only [List.length_cons, List.length_nil] at hcopy
        have q0 : w2.cell? ⟨wr.heap.size, 0, none⟩ = some (.int .u8 x) := by rw [cell_of_row w2 _ _ _ _ _ HG]; rfl
        have q1 : w2.cell? ⟨wr.heap.size, 1, none⟩ = some (.int .u8 y) := by rw [cell_of_row w2 _ _ _ _ _ HG]; rfl
        have q2 : w2.cell? ⟨wr.heap.size, 2, none⟩ = some (.int .u8 0) := by rw [cell_of_row w2 _ _ _ _ _ HG]; rfl
        have HW2 : Hid (Below w.heap.size w w2) := HW.out.trans (hb2.mono HW.out.size)
        have HO2 := own_keep HO.out hb2
        have HO2' : Hid (w2.ownsRow w.heap.size 5 1 _ pre.length (pre.map (Value.int .u8))) := HO2
        have hs2 : wr.heap.size + 1 ≤ w2.heap.size := by have := (Array.getElem?_eq_some_iff.1 HG).1; omega
        clear hb2 HO2 HG HCS
        go_wp2_with (go_at_call 41; refine (four2 x y 0 w2 w.heap.size _ pre (by omega) (by omega) (by omega) (by omega) (by omega) (by omega) HO2'.out HW2.out.size (by first | omega | (simp; omega))).mono ?_; rintro e w3 ⟨v3, rfl, hown3, hb3⟩)
        have HO3 : Hid (Own w3 w.heap.size v3 (pre ++ fourL x y 0 2)) := hown3
        have HB3 : Hid (Below w.heap.size w w3) := HW2.out.trans hb3
        have HR3 : Hid (Row w (if cap = 2 then some (⟨b, off, none⟩ : Addr) else Option.map (fun x : Addr => x.add 2) (some (⟨b, off, none⟩ : Addr))) []) := row_drop (l := [x, y]) (n := 2) (cap := cap) HR.out (by rw [HL.out]; exact hcap)
        have HEQ : Hid (encW wd 0 l = (pre ++ fourL x y 0 2) ++ encW wd (ln + 4) []) := by
          have e : encW wd ln [x, y] = brk wd ln ++ fourL x y 0 2 ++ encW wd (ln + 4) [] := by simp [encW]
          unfold Hid
          rw [HEN.out, e, show brk wd ln = [] from by unfold brk; rw [if_neg (by omega)]]
          simp [List.append_assoc]
        clear hown3 hb3
        go_wp2
        go_roundw
        case rel => exact ⟨_, _, _, [], _, ln + 4, rfl, by first | rfl | go_num, by first | rfl | (have := HL.out; simp at this ⊢; omega), by omega, by omega, by omega, by omega, by omega, HR3.out, hbr, HEQ.out, HO3.out, HB3.out⟩
        case measure => simp only [lenOf]; omega
      · have hwb : (ln == wd) = false := by rw [beq_eq_false_iff_ne]; exact hw'
        have HNE : Hid (ln ≠ wd) := hw'
        clear hw'
        have HCS : Hid (∀ i, i < ([x, y] : List Int).length → (wr.alloc (.cells #[.int .u8 0, .int .u8 0, .int .u8 0] 58)).cell? ⟨b, off + i, none⟩ = some (.int .u8 (([x, y] : List Int).getD i 0))) := by
          intro i hi
          have hi' : i < [x, y].length := by simp at hi ⊢; omega
          have hcc := hc i hi'
          have hbb := World.block_lt_of_cell? w _ hcc
          rw [(keep wr _).cell (by have := HW.out.size; simp at hbb ⊢; omega), HW.out.cell hbb, hcc]
        clear hc
        obtain ⟨w2, hcopy, HG, hb2⟩ := copy_three wr b off 2 cap [x, y] #[.int .u8 x, .int .u8 y, .int .u8 0] (src_cells HCS.out) (by first | rfl | (simp [Nat.min_def]; omega)) (by simp) (by simp)
        simp only [List.length_cons, List.length_nil] at hcopy
        have q0 : w2.cell? ⟨wr.heap.size, 0, none⟩ = some (.int .u8 x) := by rw [cell_of_row w2 _ _ _ _ _ HG]; rfl
        have q1 : w2.cell? ⟨wr.heap.size, 1, none⟩ = some (.int .u8 y) := by rw [cell_of_row w2 _ _ _ _ _ HG]; rfl
        have q2 : w2.cell? ⟨wr.heap.size, 2, none⟩ = some (.int .u8 0) := by rw [cell_of_row w2 _ _ _ _ _ HG]; rfl
        have HW2 : Hid (Below w.heap.size w w2) := HW.out.trans (hb2.mono HW.out.size)
        have HO2 := own_keep HO.out hb2
        have HO2' : Hid (w2.ownsRow w.heap.size 5 1 _ pre.length (pre.map (Value.int .u8))) := HO2
        have hs2 : wr.heap.size + 1 ≤ w2.heap.size := by have := (Array.getElem?_eq_some_iff.1 HG).1; omega
        clear hb2 HO2 HG HCS
        go_wp2_with (go_at_call 41; refine (four2 x y 0 w2 w.heap.size _ pre (by omega) (by omega) (by omega) (by omega) (by omega) (by omega) HO2'.out HW2.out.size (by first | omega | (simp; omega))).mono ?_; rintro e w3 ⟨v3, rfl, hown3, hb3⟩)
        have HO3 : Hid (Own w3 w.heap.size v3 (pre ++ fourL x y 0 2)) := hown3
        have HB3 : Hid (Below w.heap.size w w3) := HW2.out.trans hb3
        have HR3 : Hid (Row w (if cap = 2 then some (⟨b, off, none⟩ : Addr) else Option.map (fun x : Addr => x.add 2) (some (⟨b, off, none⟩ : Addr))) []) := row_drop (l := [x, y]) (n := 2) (cap := cap) HR.out (by rw [HL.out]; exact hcap)
        have HEQ : Hid (encW wd 0 l = (pre ++ fourL x y 0 2) ++ encW wd (ln + 4) []) := by
          have e : encW wd ln [x, y] = brk wd ln ++ fourL x y 0 2 ++ encW wd (ln + 4) [] := by simp [encW]
          unfold Hid
          rw [HEN.out, e, show brk wd ln = [] from by unfold brk; rw [if_neg (fun h => HNE.out h.2)]]
          simp [List.append_assoc]
        clear hown3 hb3
        go_wp2
        go_roundw
        case rel => exact ⟨_, _, _, [], _, ln + 4, rfl, by first | rfl | go_num, by first | rfl | (have := HL.out; simp at this ⊢; omega), by omega, by omega, by omega, by omega, by omega, HR3.out, hbr, HEQ.out, HO3.out, HB3.out⟩
        case measure => simp only [lenOf]; omega
      · subst hw'
        have hwb : (ln == ln) = true := by simp
        have hownA := HO.out
        go_wp2_with (at_builtin; refine wpList_append_own _ rfl (.tmp 34) (.tmp 35) 31 rfl w.heap.size 5 j0 (.int .u8 0) 1 1 Tryd.underlying31 hi hz0 hz1 hz2 rfl (by decide) _ _ _ rfl (hownA.alloc _) ⟨wr.heap.size, 0, none⟩ 2 2 ([13, 10].map (Value.int .u8)) rfl rfl (cells_new _ _ _) (ints_one _) ?p1 ?p2 ?p3 ?_)
        case p1 => unfold maxLen; omega
        case p2 => omega
        case p3 => simp; omega
        intro vA wA hownB hgrowB _
        have HWA : Hid (Below w.heap.size w wA) := (HW.out.alloc hsz _).grown hgrowB (by simp; omega) (fun k hk => (hownA.lt k hk).1)
        have hsA : w.heap.size ≤ wA.heap.size := HWA.out.size
        have HOA : Hid (wA.ownsRow w.heap.size 5 1 vA (pre ++ [13, 10]).length ((pre ++ [13, 10]).map (Value.int .u8))) := by
          unfold Hid; rw [List.length_append, List.map_append]; exact hownB
        clear hownA hownB hgrowB
        have HCS : Hid (∀ i, i < ([x, y] : List Int).length → (wA.alloc (.cells #[.int .u8 0, .int .u8 0, .int .u8 0] 58)).cell? ⟨b, off + i, none⟩ = some (.int .u8 (([x, y] : List Int).getD i 0))) := by
          intro i hi
          have hi' : i < [x, y].length := by simp at hi ⊢; omega
          have hcc := hc i hi'
          have hbb := World.block_lt_of_cell? w _ hcc
          rw [(keep wA _).cell (by have := HWA.out.size; simp at hbb ⊢; omega), HWA.out.cell hbb, hcc]
        clear hc
        obtain ⟨w2, hcopy, HG, hb2⟩ := copy_three wA b off 2 cap [x, y] #[.int .u8 x, .int .u8 y, .int .u8 0] (src_cells HCS.out) (by first | rfl | (simp [Nat.min_def]; omega)) (by simp) (by simp)
        simp only [List.length_cons, List.length_nil] at hcopy
        have q0 : w2.cell? ⟨wA.heap.size, 0, none⟩ = some (.int .u8 x) := by rw [cell_of_row w2 _ _ _ _ _ HG]; rfl
        have q1 : w2.cell? ⟨wA.heap.size, 1, none⟩ = some (.int .u8 y) := by rw [cell_of_row w2 _ _ _ _ _ HG]; rfl
        have q2 : w2.cell? ⟨wA.heap.size, 2, none⟩ = some (.int .u8 0) := by rw [cell_of_row w2 _ _ _ _ _ HG]; rfl
        have HW2 : Hid (Below w.heap.size w w2) := HWA.out.trans (hb2.mono HWA.out.size)
        have HO2 := own_keep HOA.out hb2
        have HO2' : Hid (w2.ownsRow w.heap.size 5 1 _ (pre ++ [13, 10]).length ((pre ++ [13, 10]).map (Value.int .u8))) := HO2
        have hs2 : wA.heap.size + 1 ≤ w2.heap.size := by have := (Array.getElem?_eq_some_iff.1 HG).1; omega
        clear hb2 HO2 HG HCS
        go_wp2_with (go_at_call 41; refine (four2 x y 0 w2 w.heap.size _ (pre ++ [13, 10]) (by omega) (by omega) (by omega) (by omega) (by omega) (by omega) HO2'.out HW2.out.size (by first | omega | (simp; omega))).mono ?_; rintro e w3 ⟨v3, rfl, hown3, hb3⟩)
        have HO3 : Hid (Own w3 w.heap.size v3 ((pre ++ [13, 10]) ++ fourL x y 0 2)) := hown3
        have HB3 : Hid (Below w.heap.size w w3) := HW2.out.trans hb3
        have HR3 : Hid (Row w (if cap = 2 then some (⟨b, off, none⟩ : Addr) else Option.map (fun x : Addr => x.add 2) (some (⟨b, off, none⟩ : Addr))) []) := row_drop (l := [x, y]) (n := 2) (cap := cap) HR.out (by rw [HL.out]; exact hcap)
        have HEQ : Hid (encW ln 0 l = ((pre ++ [13, 10]) ++ fourL x y 0 2) ++ encW ln (4) []) := by
          have e : encW ln ln [x, y] = brk ln ln ++ fourL x y 0 2 ++ encW ln (4) [] := by simp [encW]
          unfold Hid
          rw [HEN.out, e, show brk ln ln = [13, 10] from by unfold brk; rw [if_pos ⟨hw, rfl⟩]]
          simp [List.append_assoc]
        clear hown3 hb3
        go_wp2
        go_roundw
        case rel => exact ⟨_, _, _, [], _, 4, rfl, by first | rfl | go_num, by first | rfl | (have := HL.out; simp at this ⊢; omega), by omega, by omega, by omega, by omega, by omega, HR3.out, hbr, HEQ.out, HO3.out, HB3.out⟩
        case measure => simp only [lenOf]; omega
    | x :: y :: z :: r, hb, hlen, HR, HEN, HL =>
      have hx := hb.head
      have hy := hb.tail.head
      have hz := hb.tail.tail.head
      have hbr : Byt r := hb.tail.tail.tail
      have hl3 : 3 ≤ len := by simp at hlen; omega
      clear hb hlen
      obtain ⟨b, off, rfl, hc⟩ : ∃ b off, a = some ⟨b, off, none⟩ ∧ ∀ i, i < (x :: y :: z :: r : List Int).length → w.cell? ⟨b, off + i, none⟩ = some (.int .u8 ((x :: y :: z :: r : List Int).getD i 0)) := by
        rcases HR.out with h | h
        · cases h
        · exact h
      rcases (show wd ≤ 0 ∨ (0 < wd ∧ ln ≠ wd) ∨ (0 < wd ∧ ln = wd) from by omega) with hw | ⟨hw, hw'⟩ | ⟨hw, hw'⟩
      · have HW9 : Hid (Below w.heap.size w wr) := HW.out
        have HCS : Hid (∀ i, i < ([x, y, z] : List Int).length → (wr.alloc (.cells #[.int .u8 0, .int .u8 0, .int .u8 0] 58)).cell? ⟨b, off + i, none⟩ = some (.int .u8 (([x, y, z] : List Int).getD i 0))) := by
          intro i hi
          have hi' : i < (x :: y :: z :: r).length := by simp at hi ⊢; omega
          have hcc := hc i hi'
          have hbb := World.block_lt_of_cell? w _ hcc
          rw [(keep wr _).cell (by have := HW.out.size; simp at hbb ⊢; omega), HW.out.cell hbb, hcc]
          have hi2 : i < 3 := hi
          rcases (show i = 0 ∨ i = 1 ∨ i = 2 from by omega) with rfl | rfl | rfl <;> rfl
        clear hc
        obtain ⟨w2, hcopy, HG, hb2⟩ := copy_three wr b off len cap [x, y, z] #[.int .u8 x, .int .u8 y, .int .u8 z] (src_cells HCS.out) (by first | rfl | (simp [Nat.min_def]; omega)) (by simp) (by simp)
        simp only [List.length_cons, List.length_nil] at hcopy
        have q0 : w2.cell? ⟨wr.heap.size, 0, none⟩ = some (.int .u8 x) := by rw [cell_of_row w2 _ _ _ _ _ HG]; rfl
        have q1 : w2.cell? ⟨wr.heap.size, 1, none⟩ = some (.int .u8 y) := by rw [cell_of_row w2 _ _ _ _ _ HG]; rfl
        have q2 : w2.cell? ⟨wr.heap.size, 2, none⟩ = some (.int .u8 z) := by rw [cell_of_row w2 _ _ _ _ _ HG]; rfl
        have HW2 : Hid (Below w.heap.size w w2) := HW.out.trans (hb2.mono HW.out.size)
        have HO2 := own_keep HO.out hb2
        have HO2' : Hid (w2.ownsRow w.heap.size 5 1 _ pre.length (pre.map (Value.int .u8))) := HO2
        have hs2 : wr.heap.size + 1 ≤ w2.heap.size := by have := (Array.getElem?_eq_some_iff.1 HG).1; omega
        clear hb2 HO2 HG HCS
        go_wp2_with (go_at_call 41; refine (four3 x y z w2 w.heap.size _ pre (by omega) (by omega) (by omega) (by omega) (by omega) (by omega) HO2'.out HW2.out.size (by first | omega | (simp; omega))).mono ?_; rintro e w3 ⟨v3, rfl, hown3, hb3⟩)
        have HO3 : Hid (Own w3 w.heap.size v3 (pre ++ fourL x y z 3)) := hown3
        have HB3 : Hid (Below w.heap.size w w3) := HW2.out.trans hb3
        have HR3 : Hid (Row w (if cap = 3 then some (⟨b, off, none⟩ : Addr) else Option.map (fun x : Addr => x.add 3) (some (⟨b, off, none⟩ : Addr))) r) := row_drop (l := (x :: y :: z :: r)) (n := 3) (cap := cap) HR.out (by rw [HL.out]; exact hcap)
        have HEQ : Hid (encW wd 0 l = (pre ++ fourL x y z 3) ++ encW wd (ln + 4) r) := by
          have e : encW wd ln (x :: y :: z :: r) = brk wd ln ++ fourL x y z 3 ++ encW wd (ln + 4) r := by rw [encW, show nxt wd ln = ln + 4 from by unfold nxt; rw [if_neg (by omega)]]
          unfold Hid
          rw [HEN.out, e, show brk wd ln = [] from by unfold brk; rw [if_neg (by omega)]]
          simp [List.append_assoc]
        clear hown3 hb3
        go_wp2
        go_roundw
        case rel => exact ⟨_, _, _, r, _, ln + 4, rfl, by first | rfl | go_num, by first | rfl | (have := HL.out; simp at this ⊢; omega), by omega, by omega, by omega, by omega, by omega, HR3.out, hbr, HEQ.out, HO3.out, HB3.out⟩
        case measure => simp only [lenOf]; omega
      · have hwb : (ln == wd) = false := by rw [beq_eq_false_iff_ne]; exact hw'
        have HNE : Hid (ln ≠ wd) := hw'
        clear hw'
        have HCS : Hid (∀ i, i < ([x, y, z] : List Int).length → (wr.alloc (.cells #[.int .u8 0, .int .u8 0, .int .u8 0] 58)).cell? ⟨b, off + i, none⟩ = some (.int .u8 (([x, y, z] : List Int).getD i 0))) := by
          intro i hi
          have hi' : i < (x :: y :: z :: r).length := by simp at hi ⊢; omega
          have hcc := hc i hi'
          have hbb := World.block_lt_of_cell? w _ hcc
          rw [(keep wr _).cell (by have := HW.out.size; simp at hbb ⊢; omega), HW.out.cell hbb, hcc]
          have hi2 : i < 3 := hi
          rcases (show i = 0 ∨ i = 1 ∨ i = 2 from by omega) with rfl | rfl | rfl <;> rfl
        clear hc
        obtain ⟨w2, hcopy, HG, hb2⟩ := copy_three wr b off len cap [x, y, z] #[.int .u8 x, .int .u8 y, .int .u8 z] (src_cells HCS.out) (by first | rfl | (simp [Nat.min_def]; omega)) (by simp) (by simp)
        simp only [List.length_cons, List.length_nil] at hcopy
        have q0 : w2.cell? ⟨wr.heap.size, 0, none⟩ = some (.int .u8 x) := by rw [cell_of_row w2 _ _ _ _ _ HG]; rfl
        have q1 : w2.cell? ⟨wr.heap.size, 1, none⟩ = some (.int .u8 y) := by rw [cell_of_row w2 _ _ _ _ _ HG]; rfl
        have q2 : w2.cell? ⟨wr.heap.size, 2, none⟩ = some (.int .u8 z) := by rw [cell_of_row w2 _ _ _ _ _ HG]; rfl
        have HW2 : Hid (Below w.heap.size w w2) := HW.out.trans (hb2.mono HW.out.size)
        have HO2 := own_keep HO.out hb2
        have HO2' : Hid (w2.ownsRow w.heap.size 5 1 _ pre.length (pre.map (Value.int .u8))) := HO2
        have hs2 : wr.heap.size + 1 ≤ w2.heap.size := by have := (Array.getElem?_eq_some_iff.1 HG).1; omega
        clear hb2 HO2 HG HCS
        go_wp2_with (go_at_call 41; refine (four3 x y z w2 w.heap.size _ pre (by omega) (by omega) (by omega) (by omega) (by omega) (by omega) HO2'.out HW2.out.size (by first | omega | (simp; omega))).mono ?_; rintro e w3 ⟨v3, rfl, hown3, hb3⟩)
        have HO3 : Hid (Own w3 w.heap.size v3 (pre ++ fourL x y z 3)) := hown3
        have HB3 : Hid (Below w.heap.size w w3) := HW2.out.trans hb3
        have HR3 : Hid (Row w (if cap = 3 then some (⟨b, off, none⟩ : Addr) else Option.map (fun x : Addr => x.add 3) (some (⟨b, off, none⟩ : Addr))) r) := row_drop (l := (x :: y :: z :: r)) (n := 3) (cap := cap) HR.out (by rw [HL.out]; exact hcap)
        have HEQ : Hid (encW wd 0 l = (pre ++ fourL x y z 3) ++ encW wd (ln + 4) r) := by
          have e : encW wd ln (x :: y :: z :: r) = brk wd ln ++ fourL x y z 3 ++ encW wd (ln + 4) r := by rw [encW, show nxt wd ln = ln + 4 from by unfold nxt; rw [if_neg (fun h => HNE.out h.2)]]
          unfold Hid
          rw [HEN.out, e, show brk wd ln = [] from by unfold brk; rw [if_neg (fun h => HNE.out h.2)]]
          simp [List.append_assoc]
        clear hown3 hb3
        go_wp2
        go_roundw
        case rel => exact ⟨_, _, _, r, _, ln + 4, rfl, by first | rfl | go_num, by first | rfl | (have := HL.out; simp at this ⊢; omega), by omega, by omega, by omega, by omega, by omega, HR3.out, hbr, HEQ.out, HO3.out, HB3.out⟩
        case measure => simp only [lenOf]; omega
      · subst hw'
        have hwb : (ln == ln) = true := by simp
        have hownA := HO.out
        go_wp2_with (at_builtin; refine wpList_append_own _ rfl (.tmp 34) (.tmp 35) 31 rfl w.heap.size 5 j0 (.int .u8 0) 1 1 Tryd.underlying31 hi hz0 hz1 hz2 rfl (by decide) _ _ _ rfl (hownA.alloc _) ⟨wr.heap.size, 0, none⟩ 2 2 ([13, 10].map (Value.int .u8)) rfl rfl (cells_new _ _ _) (ints_one _) ?p1 ?p2 ?p3 ?_)
        case p1 => unfold maxLen; omega
        case p2 => omega
        case p3 => simp; omega
        intro vA wA hownB hgrowB _
        have HWA : Hid (Below w.heap.size w wA) := (HW.out.alloc hsz _).grown hgrowB (by simp; omega) (fun k hk => (hownA.lt k hk).1)
        have hsA : w.heap.size ≤ wA.heap.size := HWA.out.size
        have HOA : Hid (wA.ownsRow w.heap.size 5 1 vA (pre ++ [13, 10]).length ((pre ++ [13, 10]).map (Value.int .u8))) := by
          unfold Hid; rw [List.length_append, List.map_append]; exact hownB
        clear hownA hownB hgrowB
        have HCS : Hid (∀ i, i < ([x, y, z] : List Int).length → (wA.alloc (.cells #[.int .u8 0, .int .u8 0, .int .u8 0] 58)).cell? ⟨b, off + i, none⟩ = some (.int .u8 (([x, y, z] : List Int).getD i 0))) := by
          intro i hi
          have hi' : i < (x :: y :: z :: r).length := by simp at hi ⊢; omega
          have hcc := hc i hi'
          have hbb := World.block_lt_of_cell? w _ hcc
          rw [(keep wA _).cell (by have := HWA.out.size; simp at hbb ⊢; omega), HWA.out.cell hbb, hcc]
          have hi2 : i < 3 := hi
          rcases (show i = 0 ∨ i = 1 ∨ i = 2 from by omega) with rfl | rfl | rfl <;> rfl
        clear hc
        obtain ⟨w2, hcopy, HG, hb2⟩ := copy_three wA b off len cap [x, y, z] #[.int .u8 x, .int .u8 y, .int .u8 z] (src_cells HCS.out) (by first | rfl | (simp [Nat.min_def]; omega)) (by simp) (by simp)
        simp only [List.length_cons, List.length_nil] at hcopy
        have q0 : w2.cell? ⟨wA.heap.size, 0, none⟩ = some (.int .u8 x) := by rw [cell_of_row w2 _ _ _ _ _ HG]; rfl
        have q1 : w2.cell? ⟨wA.heap.size, 1, none⟩ = some (.int .u8 y) := by rw [cell_of_row w2 _ _ _ _ _ HG]; rfl
        have q2 : w2.cell? ⟨wA.heap.size, 2, none⟩ = some (.int .u8 z) := by rw [cell_of_row w2 _ _ _ _ _ HG]; rfl
        have HW2 : Hid (Below w.heap.size w w2) := HWA.out.trans (hb2.mono HWA.out.size)
        have HO2 := own_keep HOA.out hb2
        have HO2' : Hid (w2.ownsRow w.heap.size 5 1 _ (pre ++ [13, 10]).length ((pre ++ [13, 10]).map (Value.int .u8))) := HO2
        have hs2 : wA.heap.size + 1 ≤ w2.heap.size := by have := (Array.getElem?_eq_some_iff.1 HG).1; omega
        clear hb2 HO2 HG HCS
        go_wp2_with (go_at_call 41; refine (four3 x y z w2 w.heap.size _ (pre ++ [13, 10]) (by omega) (by omega) (by omega) (by omega) (by omega) (by omega) HO2'.out HW2.out.size (by first | omega | (simp; omega))).mono ?_; rintro e w3 ⟨v3, rfl, hown3, hb3⟩)
        have HO3 : Hid (Own w3 w.heap.size v3 ((pre ++ [13, 10]) ++ fourL x y z 3)) := hown3
        have HB3 : Hid (Below w.heap.size w w3) := HW2.out.trans hb3
        have HR3 : Hid (Row w (if cap = 3 then some (⟨b, off, none⟩ : Addr) else Option.map (fun x : Addr => x.add 3) (some (⟨b, off, none⟩ : Addr))) r) := row_drop (l := (x :: y :: z :: r)) (n := 3) (cap := cap) HR.out (by rw [HL.out]; exact hcap)
        have HEQ : Hid (encW ln 0 l = ((pre ++ [13, 10]) ++ fourL x y z 3) ++ encW ln (4) r) := by
          have e : encW ln ln (x :: y :: z :: r) = brk ln ln ++ fourL x y z 3 ++ encW ln (4) r := by rw [encW, show nxt ln ln = 4 from by unfold nxt; rw [if_pos ⟨hw, rfl⟩]; rfl]
          unfold Hid
          rw [HEN.out, e, show brk ln ln = [13, 10] from by unfold brk; rw [if_pos ⟨hw, rfl⟩]]
          simp [List.append_assoc]
        clear hown3 hb3
        go_wp2
        go_roundw
        case rel => exact ⟨_, _, _, r, _, 4, rfl, by first | rfl | go_num, by first | rfl | (have := HL.out; simp at this ⊢; omega), by omega, by omega, by omega, by omega, by omega, HR3.out, hbr, HEQ.out, HO3.out, HB3.out⟩
        case measure => simp only [lenOf]; omega
end Go.Proofs.YtnhbmekhmkkccaaDoor.Bt
