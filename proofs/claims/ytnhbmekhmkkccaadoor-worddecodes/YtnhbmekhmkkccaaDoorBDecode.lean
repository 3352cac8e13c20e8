/-
  The contract of Decode.
-/
import Derived.Test.YtnhbmekhmkkccaaDoorBTakeAny
namespace Go.Proofs.YtnhbmekhmkkccaaDoor.Bt
open Go.RowKit
set_option linter.unusedVariables false

/-- What a text does to a reader, from a place on. -/
def scanU : Int → List UInt8 → Rs → Sum (Int × Int) Rs
  | _, [], s => .inr s
  | i, c :: r, s =>
    if crlf (c :: r) = true then
      match r with
      | _ :: r' => scanU (i + 2) r' s
      | [] => .inr s
    else
      match takeZ s (c.toNat : Int) i with
      | .inl f => .inl f
      | .inr s' => scanU (i + 1) r s'

theorem crlf_two : ∀ {l : List UInt8}, crlf l = true → ∃ r, l = 13 :: 10 :: r := by
  intro l h
  unfold crlf at h
  split at h
  · exact ⟨_, rfl⟩
  · cases h
theorem scan_yes (i : Int) (r : List UInt8) (s : Rs) : scanU i (13 :: 10 :: r) s = scanU (i + 2) r s := by
  rw [scanU.eq_def]; simp [crlf]
theorem scan_no {i : Int} {c : UInt8} {r : List UInt8} {s : Rs} (h : crlf (c :: r) = false) : scanU i (c :: r) s = match takeZ s (c.toNat : Int) i with | .inl f => .inl f | .inr s' => scanU (i + 1) r s' := by
  rw [scanU.eq_def]; simp only [h, Bool.false_eq_true, if_false]
theorem take_grows {s s' : Rs} {c i : Int} (hk : Ok s) (h : takeZ s c i = .inr s') : (s'.cnt = s.cnt + 1 ∧ s'.out = s.out) ∨ (s.cnt = 3 ∧ s'.cnt = 0 ∧ s'.out.length ≤ s.out.length + 3) := by
  unfold takeZ at h
  unfold Ok at hk
  by_cases a1 : valZ c < 0 ∧ c ≠ 61
  · rw [if_pos a1] at h; cases h
  rw [if_neg a1] at h
  by_cases a2 : s.cl = true
  · rw [if_pos a2] at h; cases h
  rw [if_neg a2] at h
  by_cases a3 : c = 61
  · rw [if_pos a3] at h
    by_cases a4 : s.cnt < 2
    · rw [if_pos a4] at h; cases h
    rw [if_neg a4] at h
    by_cases a5 : s.cnt = 2
    · rw [if_pos a5] at h; cases h; exact .inl ⟨by simp; omega, rfl⟩
    rw [if_neg a5] at h
    by_cases a6 : s.pads = 0
    · rw [if_pos a6] at h
      split at h
      · cases h; exact .inr ⟨by omega, rfl, by simp [fresh, bytesD]⟩
      · cases h
    · rw [if_neg a6] at h
      split at h
      · cases h; exact .inr ⟨by omega, rfl, by simp [fresh, bytesD]⟩
      · cases h
  · rw [if_neg a3] at h
    by_cases a4 : 0 < s.pads
    · rw [if_pos a4] at h; cases h
    rw [if_neg a4] at h
    by_cases a5 : s.cnt = 0
    · rw [if_pos a5] at h; cases h; exact .inl ⟨by simp; omega, rfl⟩
    rw [if_neg a5] at h
    by_cases a6 : s.cnt = 1
    · rw [if_pos a6] at h; cases h; exact .inl ⟨by simp; omega, rfl⟩
    rw [if_neg a6] at h
    by_cases a7 : s.cnt = 2
    · rw [if_pos a7] at h; cases h; exact .inl ⟨by simp; omega, rfl⟩
    rw [if_neg a7] at h
    cases h; exact .inr ⟨by omega, rfl, by simp [fresh, bytesD]⟩
theorem fault_code {s : Rs} {c i : Int} {f : Int × Int} (h : takeZ s c i = .inl f) : f.2 = 10 ∨ f.2 = 11 ∨ f.2 = 12 := by
  unfold takeZ at h
  repeat' split at h
  all_goals first | (cases h; simp; done) | cases h

def DecR (x : Sum (Int × Int) Rs) (len : Nat) (v : Value) (fa fc : Int) (w' : World) : Prop :=
  (∃ f, x = .inl f ∧ v = .slice none 0 0 ∧ fa = f.1 ∧ fc = f.2) ∨
  (∃ st, x = .inr st ∧ 0 < st.cnt ∧ v = .slice none 0 0 ∧ fa = len ∧ fc = 11) ∨
  (∃ st a cap, x = .inr st ∧ st.cnt = 0 ∧ v = .slice a st.out.length cap ∧ fa = 0 ∧ fc = 0 ∧ st.out.length ≤ cap ∧ cap ≤ 30000 ∧ Row w' a st.out)

theorem fset2 {X : World} {f : Nat} {a b x y : Value} (h : X.heap[f]? = some (.cells #[a, b] 48 (0, 0))) : ((X.setCell ⟨f, 0, none⟩ x).setCell ⟨f, 1, none⟩ y).heap[f]? = some (.cells #[x, y] 48 (0, 0)) :=
  heap_setCell_same _ f 1 #[x, b] 48 y (heap_setCell_same X f 0 #[a, b] 48 x h)
theorem rd_out {w : World} {g m cap : Nat} {s : Rs} (h : Rd w g m cap s) : Row w (some ⟨m, 0, none⟩) s.out := by
  obtain ⟨_, cur, h2, h3, h4, h5⟩ := h
  refine .inr ⟨m, 0, rfl, fun i hi => ?_⟩
  rw [Nat.zero_add, cell_of_row w m i cur 5 (0, 0) h2]
  have e : cur.toList[i]? = (cur.toList.take s.out.length)[i]? := by rw [List.getElem?_take, if_pos hi]
  rw [← Array.getElem?_toList, e, h4]
  simp [List.getElem?_eq_getElem hi, List.getD_eq_getElem?_getD]

theorem ext_drop (s : ByteArray) (k : Nat) : (s.extract k s.size).data.toList = s.data.toList.drop k := by
  rw [Lib.extract_data, List.take_of_length_le]
  simp
theorem drop_one (s : ByteArray) (k : Nat) (h : k < s.size) : s.data.toList.drop k = s[k] :: s.data.toList.drop (k + 1) := by
  have hl : k < s.data.toList.length := by simpa using h
  rw [List.drop_eq_getElem_cons hl]
  rfl

set_option maxRecDepth 100000 in
set_option maxHeartbeats 8000000 in
theorem decode_any (s : ByteArray) (w : World) (hs : s.size ≤ 20000) :
    Calls Tryd.prog 58 #[.string s] w fun e w' => ∃ v fa fc, e = .returned (.tuple #[v, .agg #[.int .i64 fa, .int .i64 fc]]) ∧ Below w.heap.size w w' ∧ DecR (scanU 0 s.data.toList (fresh [] false)) s.size v fa fc w' := by
  obtain ⟨j0, hi, hz0, hz1, hz2⟩ := info_parts Tryd.info5
  obtain ⟨cp, hcp⟩ : ∃ cp : Nat, cp = s.size / 4 * 3 := ⟨_, rfl⟩
  have HCP : Hid (cp = s.size / 4 * 3) := hcp
  have hcpb : cp ≤ 15000 := by omega
  have hcpe : ((s.size : Int) / 4 * 3) = (cp : Int) := by omega
  clear hcp
  go_enter Tryd.func58, Tryd.ntmps58
  go_wp2_with (at_make; refine wpList_make_own _ rfl _ _ 31 rfl (w.heap.size + 1) 5 j0 (.int .u8 0) 1 Tryd.underlying31 hi hz0 hz1 _ _ _ cp rfl rfl rfl ?m1 ?m2 ?m3 ?_)
  case m1 => rw [hz2]; omega
  case m2 => unfold maxLen; omega
  case m3 => simp
  intro wm hownm hgrowm
  have HOWN : wm.ownsRow (w.heap.size + 1) 5 1 (.slice (some ⟨w.heap.size + 1, 0, none⟩) 0 cp) 0 [] := by simpa using hownm
  have HBM : Below (w.heap.size + 1) (w.alloc (.cells #[.int .i64 0, .int .i64 0] 48)) wm := (Below.refl _ _).grown hgrowm (by simp) (by intro k hk; cases hk)
  obtain ⟨g, hg⟩ : ∃ g, g = wm.heap.size := ⟨_, rfl⟩
  have hmg : w.heap.size + 1 < g := by
    have := (HOWN.lt (w.heap.size + 1) rfl).2
    omega
  have HRD : Hid (Rd (wm.alloc (.cells #[.slice (some ⟨w.heap.size + 1, 0, none⟩) 0 cp, .int .u32 0, .int .i64 0, .int .i64 0, .int .i64 0, .int .i64 0, .int .i64 0, .int .i64 0, .bool false] 97)) g (w.heap.size + 1) cp (fresh [] false)) := by
    rcases HOWN.2 with ⟨h, _⟩ | ⟨g', cap', cur, h1, h2, h3, h4, h5, h6, h7⟩
    · cases h
    · simp only [Value.slice.injEq, Option.some.injEq, Addr.mk.injEq] at h1
      obtain ⟨⟨rfl, _⟩, _, rfl⟩ := h1
      refine ⟨by rw [hg]; exact heap_alloc_new _ _, cur, (Below.heap_alloc wm _ _ (by omega)).trans h3, by omega, by simp [fresh], by simp [fresh]⟩
  have HF0 : Hid ((wm.alloc (.cells #[.slice (some ⟨w.heap.size + 1, 0, none⟩) 0 cp, .int .u32 0, .int .i64 0, .int .i64 0, .int .i64 0, .int .i64 0, .int .i64 0, .int .i64 0, .bool false] 97)).heap[w.heap.size]? = some (.cells #[.int .i64 0, .int .i64 0] 48)) :=
    (Below.heap_alloc wm _ _ (by omega)).trans ((HBM.block w.heap.size (by omega)).trans (heap_alloc_new w _))
  have HB0 : Hid (Below w.heap.size w (wm.alloc (.cells #[.slice (some ⟨w.heap.size + 1, 0, none⟩) 0 cp, .int .u32 0, .int .i64 0, .int .i64 0, .int .i64 0, .int .i64 0, .int .i64 0, .int .i64 0, .bool false] 97))) :=
    ((keep w _).trans (HBM.mono (by omega))).alloc (by omega) _
  clear hownm hgrowm HOWN HBM
  go_wp2
  rw [← hg]
  go_loopw [5] (fun v wr => ∃ (k : Nat) (st : Rs) (q : Nat), v = .int .i64 k ∧ k ≤ s.size ∧ Rd wr g (w.heap.size + 1) cp st ∧ Ok st ∧ scanU 0 s.data.toList (fresh [] false) = scanU k (s.data.toList.drop k) st ∧ 4 * (q : Int) + st.cnt ≤ k ∧ st.out.length ≤ 3 * q ∧ wr.heap[w.heap.size]? = some (.cells #[.int .i64 0, .int .i64 0] 48) ∧ Below w.heap.size w wr) (fun v _ => s.size - (intOf v).toNat)
  case atStart => exact ⟨0, fresh [] false, 0, rfl, by omega, HRD.out, by unfold Ok fresh; simp, by simp, by simp [fresh], by simp [fresh], HF0.out, HB0.out⟩
  case round =>
    clear HRD HF0 HB0 hg
    obtain ⟨k, st, q, rfl, hk, hrd, hok, hsc, hq, hql, hF, hbel⟩ := hrel
    have HRD : Hid (Rd wr g (w.heap.size + 1) cp st) := hrd
    have HOK : Hid (Ok st) := hok
    have HSC : Hid (scanU 0 s.data.toList (fresh [] false) = scanU k (s.data.toList.drop k) st) := hsc
    have HF : Hid (wr.heap[w.heap.size]? = some (.cells #[.int .i64 0, .int .i64 0] 48)) := hF
    have HB : Hid (Below w.heap.size w wr) := hbel
    have hgl := hrd.lt
    have hcn : 0 ≤ st.cnt ∧ st.cnt ≤ 3 := by unfold Ok at hok; omega
    have hroom : k < s.size → (st.out.length + 3 ≤ cp ∨ st.cnt < 3) := by intro h; have := HCP.out; omega
    have hz2 : 0 ≤ st.cnt := hcn.1
    by_cases hlt : k < s.size
    · have hro := hroom hlt
      have HRO : Hid (st.out.length + 3 ≤ cp ∨ st.cnt < 3) := hro
      have hd := drop_one s k hlt
      cases hcr : crlf (s.data.toList.drop k) with
      | true =>
        obtain ⟨r, hr⟩ := crlf_two hcr
        have hk2 : k + 2 ≤ s.size := by
          have := congrArg List.length hr
          simp at this; omega
        have HNX : Hid (scanU k (s.data.toList.drop k) st = scanU ((k + 2 : Nat) : Int) (s.data.toList.drop (k + 2)) st) := by
          have e2 : s.data.toList.drop (k + 2) = r := by
            rw [← List.drop_drop, hr]; rfl
          unfold Hid
          rw [e2, hr, scan_yes]
          simp
        have HCR : Hid (crlf (s.extract k s.size).data.toList = true) := by unfold Hid; rw [ext_drop]; exact hcr
        clear hrd hok hsc hF hbel hro hroom hd hcr hr hcn
        go_wp2_with (go_at_call 25; refine (prefix_any _ _ (by simp; omega)).mono ?_; rintro e w' ⟨rfl, rfl⟩; rw [HCR.out])
        go_roundw
        case rel => exact ⟨k + 2, st, q, by go_num, by omega, HRD.out, HOK.out, HSC.out.trans HNX.out, by omega, by omega, HF.out, HB.out⟩
        case measure => simp [intOf]; omega
      | false =>
        have HCR : Hid (crlf (s.extract k s.size).data.toList = false) := by unfold Hid; rw [ext_drop]; exact hcr
        obtain ⟨c, hc⟩ : ∃ c : Int, c = (s[k].toNat : Int) := ⟨_, rfl⟩
        have hc0 : 0 ≤ c := by omega
        have hc1 : c < 256 := by have := s[k].toNat_lt; omega
        have HSU : Hid (scanU k (s.data.toList.drop k) st = match takeZ st c k with | .inl f => .inl f | .inr s' => scanU ((k + 1 : Nat) : Int) (s.data.toList.drop (k + 1)) s') := by
          unfold Hid
          rw [hd] at hcr ⊢
          rw [scan_no hcr, ← hc]
          rfl
        have HC : Hid ((s[k].toNat : Int) = c) := hc.symm
        clear hrd hok hsc hF hbel hro hroom hd hcr hc
        cases htk : takeZ st c k with
        | inl f =>
          obtain ⟨fa, fc⟩ := f
          have hfc := fault_code htk
          have hfb : (fc != 0) = true := by rw [bne_iff_ne]; simp at hfc; omega
          have HTK : Hid (takeZ st c k = .inl (fa, fc)) := htk
          have HDR : Hid (scanU 0 s.data.toList (fresh [] false) = .inl (fa, fc)) := by unfold Hid; rw [HSC.out, HSU.out, htk]
          clear htk hfc
          go_wp2_with (first
            | (go_at_call 25; refine (prefix_any _ _ (by simp; omega)).mono ?_; rintro e w' ⟨rfl, rfl⟩; rw [HCR.out]))
          simp only [HC.out]
          refine (take_fault g (w.heap.size + 1) cp st c k fa fc wr HRD.out HOK.out hc0 hc1 HRO.out hmg HTK.out).mono ?_
          rintro e w1 ⟨rfl, hb1⟩
          have hF1 : w1.heap[w.heap.size]? = some (.cells #[.int .i64 0, .int .i64 0] 48) := (hb1.block w.heap.size (by omega)).trans HF.out
          have c0 : w1.cell? ⟨w.heap.size, 0, none⟩ = some (.int .i64 0) := by rw [cell_of_row w1 _ _ _ _ _ hF1]; rfl
          have c1 : w1.cell? ⟨w.heap.size, 1, none⟩ = some (.int .i64 0) := by rw [cell_of_row w1 _ _ _ _ _ hF1]; rfl
          have z0 : w1.frozen? ⟨w.heap.size, 0, none⟩ = false := frozen_of_row w1 _ _ _ _ hF1
          have z1 : w1.frozen? ⟨w.heap.size, 1, none⟩ = false := frozen_of_row w1 _ _ _ _ hF1
          have hl1 : w.heap.size < w1.heap.size := (Array.getElem?_eq_some_iff.1 hF1).1
          have HB1 : Hid (Below w.heap.size w w1) := HB.out.trans (hb1.mono (by omega))
          have HFT : Hid (w1.heap[w.heap.size]? = some (.cells #[.int .i64 0, .int .i64 0] 48)) := hF1
          clear hb1 hF1
          go_wp2
          go_region
          go_wp2
          have HX : (((w1.setCell ⟨w.heap.size, 0, none⟩ (.int .i64 fa)).setCell ⟨w.heap.size, 1, none⟩ (.int .i64 fc)).alloc (.cells #[.int .i64 fa, .int .i64 fc] 48)).drew.heap[w.heap.size]? = some (.cells #[.int .i64 fa, .int .i64 fc] 48 (0, 0)) ∧ Below w.heap.size w ((((w1.setCell ⟨w.heap.size, 0, none⟩ (.int .i64 fa)).setCell ⟨w.heap.size, 1, none⟩ (.int .i64 fc)).alloc (.cells #[.int .i64 fa, .int .i64 fc] 48)).drew) :=
            ⟨(Below.heap_alloc _ _ _ (by simp; omega)).trans (fset2 HFT.out), (((HB1.out.setCell (p := ⟨w.heap.size, 0, none⟩) (Nat.le_refl _) _).setCell (p := ⟨w.heap.size, 1, none⟩) (Nat.le_refl _) _).alloc (by simp; omega) _).drew⟩
          revert HX
          generalize (((w1.setCell ⟨w.heap.size, 0, none⟩ (.int .i64 fa)).setCell ⟨w.heap.size, 1, none⟩ (.int .i64 fc)).alloc (.cells #[.int .i64 fa, .int .i64 fc] 48)).drew = X
          intro HX
          have q0 : X.cell? ⟨w.heap.size, 0, none⟩ = some (.int .i64 fa) := by rw [cell_of_row X _ _ _ _ _ HX.1]; rfl
          have q1 : X.cell? ⟨w.heap.size, 1, none⟩ = some (.int .i64 fc) := by rw [cell_of_row X _ _ _ _ _ HX.1]; rfl
          exact bodyPost_ret (v := .tuple #[.slice none 0 0, .agg #[.int .i64 fa, .int .i64 fc]]) (by simp [results, Tryd.results58, go_sem, q0, q1]) rfl
            ⟨_, fa, fc, rfl, HX.2, .inl ⟨(fa, fc), HDR.out, rfl, rfl, rfl⟩⟩
        | inr st' =>
          have HTK : Hid (takeZ st c k = .inr st') := htk
          have HGR : Hid ((st'.cnt = st.cnt + 1 ∧ st'.out = st.out) ∨ (st.cnt = 3 ∧ st'.cnt = 0 ∧ st'.out.length ≤ st.out.length + 3)) := take_grows HOK.out htk
          have HNX : Hid (scanU 0 s.data.toList (fresh [] false) = scanU ((k + 1 : Nat) : Int) (s.data.toList.drop (k + 1)) st') := by unfold Hid; rw [HSC.out, HSU.out, htk]
          have HOK' : Hid (Ok st') := take_ok st st' c k HOK.out hc0 hc1 htk
          clear htk
          go_wp2_with (first
            | (go_at_call 25; refine (prefix_any _ _ (by simp; omega)).mono ?_; rintro e w' ⟨rfl, rfl⟩; rw [HCR.out]))
          simp only [HC.out]
          refine (take_good g (w.heap.size + 1) cp st st' c k wr HRD.out HOK.out hc0 hc1 HRO.out hmg HTK.out).mono ?_
          rintro e w1 ⟨rfl, hb1, hrd1⟩
          have HF1 : Hid ((w1.alloc (.cells #[.int .i64 0, .int .i64 0] 48)).heap[w.heap.size]? = some (.cells #[.int .i64 0, .int .i64 0] 48)) := (Below.heap_alloc w1 _ _ (by have := hb1.size; omega)).trans ((hb1.block w.heap.size (by omega)).trans HF.out)
          have HB1 : Hid (Below w.heap.size w (w1.alloc (.cells #[.int .i64 0, .int .i64 0] 48))) := (HB.out.trans (hb1.mono (by omega))).alloc (by have := hb1.size; omega) _
          have HRD1 : Hid (Rd (w1.alloc (.cells #[.int .i64 0, .int .i64 0] 48)) g (w.heap.size + 1) cp st') := rd_alloc hmg hrd1
          clear hb1 hrd1
          go_wp2
          go_roundw
          case rel =>
            rcases HGR.out with ⟨h1, h2⟩ | ⟨h1, h2, h3⟩
            · exact ⟨k + 1, st', q, by go_num, by omega, HRD1.out, HOK'.out, HNX.out, by omega, by rw [h2]; omega, HF1.out, HB1.out⟩
            · exact ⟨k + 1, st', q + 1, by go_num, by omega, HRD1.out, HOK'.out, HNX.out, by omega, by omega, HF1.out, HB1.out⟩
          case measure => simp [intOf]; omega
    · obtain rfl : k = s.size := by omega
      have HEX : Hid (scanU 0 s.data.toList (fresh [] false) = .inr st) := by
        unfold Hid; rw [HSC.out, List.drop_of_length_le (by simp)]; rfl
      have hG := hrd.1
      have b0 : wr.cell? ⟨g, 0, none⟩ = some (.slice (some ⟨w.heap.size + 1, 0, none⟩) st.out.length cp) := by rw [cell_of_row wr _ _ _ _ _ hG]; rfl
      have b6 : wr.cell? ⟨g, 6, none⟩ = some (.int .i64 st.cnt) := by rw [cell_of_row wr _ _ _ _ _ hG]; rfl
      have c0 : wr.cell? ⟨w.heap.size, 0, none⟩ = some (.int .i64 0) := by rw [cell_of_row wr _ _ _ _ _ hF]; rfl
      have c1 : wr.cell? ⟨w.heap.size, 1, none⟩ = some (.int .i64 0) := by rw [cell_of_row wr _ _ _ _ _ hF]; rfl
      have z0 : wr.frozen? ⟨w.heap.size, 0, none⟩ = false := frozen_of_row wr _ _ _ _ hF
      have z1 : wr.frozen? ⟨w.heap.size, 1, none⟩ = false := frozen_of_row wr _ _ _ _ hF
      have hcnt := hcn.1
      have hle := hrd.2
      obtain ⟨cur, _, _, _, hol⟩ := hle
      clear hrd hok hsc hF hbel hG hroom hcn
      by_cases hpos : 0 < st.cnt
      · go_wp2
        exact bodyPost_ret (v := .tuple #[.slice none 0 0, .agg #[.int .i64 s.size, .int .i64 11]]) (by simp [results, Tryd.results58, go_sem, c0, c1]) rfl
          ⟨_, _, _, rfl, (HB.out.setCell (p := ⟨w.heap.size, 0, none⟩) (Nat.le_refl _) _).setCell (p := ⟨w.heap.size, 1, none⟩) (Nat.le_refl _) _, .inr (.inl ⟨st, HEX.out, hpos, rfl, rfl, rfl⟩)⟩
      · go_wp2
        exact bodyPost_ret (v := .tuple #[.slice (some ⟨w.heap.size + 1, 0, none⟩) st.out.length cp, .agg #[.int .i64 0, .int .i64 0]]) (by simp [results, Tryd.results58, go_sem, c0, c1]) rfl
          ⟨_, _, _, rfl, (HB.out.setCell (p := ⟨w.heap.size, 0, none⟩) (Nat.le_refl _) _).setCell (p := ⟨w.heap.size, 1, none⟩) (Nat.le_refl _) _, .inr (.inr ⟨st, _, _, HEX.out, by omega, rfl, rfl, rfl, hol, by omega, rd_out (rd_fset (rd_fset HRD.out (by omega) (by omega)) (by omega) (by omega))⟩)⟩
end Go.Proofs.YtnhbmekhmkkccaaDoor.Bt
