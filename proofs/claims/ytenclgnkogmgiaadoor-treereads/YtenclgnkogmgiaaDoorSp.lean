/-
  strings.SplitAfterSeq at the pair; strings.CutSuffix of the pair.
-/
import Derived.Test.YtenclgnkogmgiaaDoorGn
import Derived.Test.YtenclgnkogmgiaaDoorLmath
namespace Go.Proofs.YtenclgnkogmgiaaDoor
open Go.RowKit Go.Shelf
set_option linter.unusedVariables false
attribute [local go_sem] Oper.semAt_some

set_option maxRecDepth 100000 in
theorem bytes_nums (s : ByteArray) : Lib.bytesOf (nums s) = s.data.toList := by
  rw [← Lib.strOfNums_toList, str_nums, ByteArray.toList_eq]
set_option maxRecDepth 100000 in
theorem index67_any (s : ByteArray) (m : Int) (w : World) (hs : s.size ≤ 1000000000) (hm : w.cell? ⟨0, 0, none⟩ = some (.int .i64 m)) : Calls Tryd.prog 97 #[.string s, .string ⟨#[13, 10]⟩] w fun e w' => e = .returned (.int .i64 (pairI (nums s))) ∧ w' = w := by
  have h := strings_Index s ⟨#[13, 10]⟩ m w (by omega) hm
  have e : (⟨#[13, 10]⟩ : ByteArray).data.toList = Lib.bytesOf [13, 10] := rfl
  rw [← bytes_nums, e, index_pair _ (nums_byt s)] at h
  exact h
/-- The pieces behind the pairs. -/
def splitP : Nat → List Int → List (List Int)
  | 0, l => [l]
  | n + 1, l => if 0 ≤ pairI l then l.take ((pairI l).toNat + 2) :: splitP n (l.drop ((pairI l).toNat + 2)) else [l]
def splitV (ls : List (List Int)) : List (Array Value) := ls.map fun p => #[.string (strOfNums p)]
theorem str_to (t : ByteArray) (k : Nat) : strOfNums ((nums t).take k) = t.extract 0 k := by rw [← nums_to, str_nums]
set_option maxRecDepth 100000 in
set_option maxHeartbeats 8000000 in
theorem split_iter (n : Nat) (hn : 1 ≤ n) (Bp Bs Bz : Nat) (s : ByteArray) (m : Int) (hs : s.size ≤ 1000000000) (W : World) (hS : Sx W Bs s) :
    ItG n 104 [.pointer (some ⟨Bp, 0, none⟩), .pointer (some ⟨Bs, 0, none⟩), .pointer (some ⟨Bz, 0, none⟩)] (fun b => b = Bs) (splitV (splitP s.size (nums s)))
      (fun V => V.cell? ⟨Bp, 0, none⟩ = some (.string ⟨#[13, 10]⟩) ∧ V.cell? ⟨Bz, 0, none⟩ = some (.int .i64 2) ∧ V.cell? ⟨0, 0, none⟩ = some (.int .i64 m)) W := by
  intro lp J Jx hJ hJx hJG hY h0
  obtain ⟨c0, c1, _⟩ := hJG 0 W h0
  have h1 : (⟨#[13, 10]⟩ : ByteArray).size = 2 := rfl
  have HJ : Hid (∀ k V V', J k V → Tk (fun b => b = Bs) V V' → J k V') := hJ
  have HJG : Hid (∀ k V, J k V → V.cell? ⟨Bp, 0, none⟩ = some (.string ⟨#[13, 10]⟩) ∧ V.cell? ⟨Bz, 0, none⟩ = some (.int .i64 2) ∧ V.cell? ⟨0, 0, none⟩ = some (.int .i64 m)) := hJG
  have HY : Hid _ := hY
  clear hJ hJx hJG hY
  refine callsIn_of_wp Tryd.func104 rfl trivial ?_ rfl
  simp only [Tryd.ntmps104, List.size_toArray, List.length_cons, List.length_nil, Nat.reduceAdd, Nat.reduceSub, Array.replicate_succ, Array.replicate_zero, List.push_toArray, List.append_toArray, List.nil_append, List.cons_append]
  gi_wp2
  clear c0 c1
  gi_loopw [7, 8] (fun _ _ wr => ∃ (k fuel : Nat) (t : ByteArray), J k wr ∧ Sx wr Bs t ∧ t.size ≤ fuel ∧ t.size ≤ s.size ∧ splitV (splitP fuel (nums t)) = (splitV (splitP s.size (nums s))).drop k) (fun _ _ wr => restSx wr Bs)
  case atStart => exact ⟨0, s.size, s, h0, hS, Nat.le_refl _, Nat.le_refl _, rfl⟩
  case round =>
    obtain ⟨k, fuel, t, hj, hst, hfu, hts, hq⟩ := hrel
    have HQ : Hid (splitV (splitP fuel (nums t)) = (splitV (splitP s.size (nums s))).drop k) := hq
    have HST : Hid (Sx wr Bs t) := hst
    have HJk : Hid (J k wr) := hj
    have HL : Hid (restSx wr Bs = t.size) := restSx_of hst
    obtain ⟨c0, c1, cm⟩ := HJG.out k wr hj
    have c2 := hst.cell
    have f2 := hst.frozen
    have hidx := index67_any t m wr (by omega) cm
    clear hq hst hj hS h0 cm
    have hge := pairI_ge (nums t)
    by_cases h : 0 ≤ pairI (nums t)
    · obtain ⟨i, hk⟩ : ∃ i : Nat, pairI (nums t) = i := ⟨(pairI (nums t)).toNat, by omega⟩
      have hrm := pairI_room (nums t) h
      rw [nums_len] at hrm
      obtain ⟨fuel', rfl⟩ : ∃ f', fuel = f' + 1 := ⟨fuel - 1, by omega⟩
      have hP : splitV (splitP (fuel' + 1) (nums t)) = #[.string (t.extract 0 (i + 2))] :: splitV (splitP fuel' (nums (t.extract (i + 2) t.size))) := by
        rw [splitP, if_pos h, hk]
        simp only [Int.toNat_natCast]
        unfold splitV
        rw [List.map_cons, str_to, nums_from]
      have hpv : (splitV (splitP s.size (nums s))).drop k = #[.string (t.extract 0 (i + 2))] :: splitV (splitP fuel' (nums (t.extract (i + 2) t.size))) := by rw [← HQ.out, hP]
      have hx : (splitV (splitP s.size (nums s)))[k]? = some #[.string (t.extract 0 (i + 2))] := by rw [← List.head?_drop, hpv]; rfl
      have HD2 : Hid (splitV (splitP fuel' (nums (t.extract (i + 2) t.size))) = (splitV (splitP s.size (nums s))).drop (k + 1)) := by unfold Hid; rw [← List.drop_drop, hpv]; rfl
      have z2 : (t.extract (i + 2) t.size).size + (i + 2) = t.size := by rw [← nums_len, nums_from, List.length_drop, nums_len]; omega
      have d0 : decide ((i : Int) < 0) = false := by simp
      have k0 : (0 : Int) ≤ (i : Int) := by omega
      have k2 : (i : Int) + 2 ≤ (t.size : Int) := by omega
      have k3 : (0 : Int) ≤ (i : Int) + 2 := by omega
      have k4 : ((i : Int) + 2).toNat = i + 2 := by omega
      rw [hk] at hidx
      clear hP hpv h hrm hge hk
      obtain ⟨fn, tmps, assign, body, hy, hRd⟩ := HY.out k _ wr hx HJk.out (fun b hb => by subst hb; exact HST.out.lt)
      clear hx
      gi_wp2_with (refine ⟨trivial, ?_⟩; gi_at_call 97; refine (callsIn_wide.2 hidx).mono ?_; rintro e w' ⟨rfl, rfl⟩)
      refine hRd.mono ?_
      rintro e W3 (⟨rfl, hJ3, hk3⟩ | ⟨rfl, hJx3, _⟩)
      · have hst3 : Sx W3 Bs t := (hk3 Bs rfl).trans HST.out
        have HJ3 : Hid (J (k + 1) W3) := hJ3
        have HST4 : Hid (Sx (W3.setCell ⟨Bs, 0, none⟩ (.string (t.extract (i + 2) t.size))) Bs (t.extract (i + 2) t.size)) := hst3.set _
        obtain ⟨g0, g1, _⟩ := HJG.out _ W3 hJ3
        have g2 := hst3.cell
        have g3 := hst3.frozen
        clear hy hRd c0 c1 c2 f2 hk3 hst3 hJ3 hidx
        gi_wp2
        go_roundw
        case rel => exact ⟨k + 1, fuel', _, HJ.out _ _ _ HJ3.out (Tk.set _ _ _ _ rfl), HST4.out, by omega, by omega, HD2.out⟩
        case measure => rw [restSx_of HST4.out, HL.out]; omega
      · clear hy hRd hidx
        gi_wp2
        refine bodyPost_ret (results_none rfl _ _ _) rfl ?_
        exact ⟨⟨_, rfl⟩, .inr hJx3⟩
    · have hP : splitP fuel (nums t) = [nums t] := by
        cases fuel with
        | zero => rfl
        | succ f => rw [splitP, if_neg h]
      have hpv : (splitV (splitP s.size (nums s))).drop k = [#[.string t]] := by
        rw [← HQ.out, hP]; unfold splitV; rw [List.map_cons, str_nums]; rfl
      have hx : (splitV (splitP s.size (nums s)))[k]? = some #[.string t] := by rw [← List.head?_drop, hpv]; rfl
      have HK : Hid (k + 1 = (splitV (splitP s.size (nums s))).length) := by
        have := congrArg List.length hpv
        rw [List.length_drop] at this
        simp at this
        unfold Hid; omega
      have h' : pairI (nums t) = -1 := by omega
      rw [h'] at hidx
      clear hP hpv h hge h'
      obtain ⟨fn, tmps, assign, body, hy, hRd⟩ := HY.out k _ wr hx HJk.out (fun b hb => by subst hb; exact HST.out.lt)
      clear hx
      gi_wp2_with (refine ⟨trivial, ?_⟩; gi_at_call 97; refine (callsIn_wide.2 hidx).mono ?_; rintro e w' ⟨rfl, rfl⟩)
      refine hRd.mono ?_
      rintro e W3 (⟨rfl, hJ3, hk3⟩ | ⟨rfl, hJx3, _⟩)
      · clear hy hRd
        gi_wp2
        go_end0
        exact ⟨⟨_, rfl⟩, .inl (by rw [← HK.out]; exact hJ3)⟩
      · clear hy hRd
        gi_wp2
        go_end0
        exact ⟨⟨_, rfl⟩, .inr hJx3⟩
set_option maxRecDepth 100000 in
theorem splitAfter_any (s : ByteArray) (w : World) : Calls Tryd.prog 76 #[.string s, .string ⟨#[13, 10]⟩] w fun e w' => e = .returned (.func (.func 104) #[] #[.pointer (some ⟨w.heap.size + 1, 0, none⟩), .pointer (some ⟨w.heap.size, 0, none⟩), .pointer (some ⟨w.heap.size + 2, 0, none⟩)]) ∧ w' = ((w.alloc (.cells #[.string s] 9)).alloc (.cells #[.string ⟨#[13, 10]⟩] 9)).alloc (.cells #[.int .i64 2] 3) := by
  have h1 : (⟨#[13, 10]⟩ : ByteArray).size = 2 := rfl
  have h55 : ∀ V, Calls Tryd.prog 93 #[.string s, .string ⟨#[13, 10]⟩, .int .i64 2] V fun e w' => e = .returned (.func (.func 104) #[] #[.pointer (some ⟨V.heap.size + 1, 0, none⟩), .pointer (some ⟨V.heap.size, 0, none⟩), .pointer (some ⟨V.heap.size + 2, 0, none⟩)]) ∧ w' = ((V.alloc (.cells #[.string s] 9)).alloc (.cells #[.string ⟨#[13, 10]⟩] 9)).alloc (.cells #[.int .i64 2] 3) := by
    intro V
    go_enter Tryd.func93, Tryd.ntmps93
    go_wp2
    go_ret
    exact ⟨by simp, rfl⟩
  go_enter Tryd.func76, Tryd.ntmps76
  go_wp2_with (go_at_call 93; refine (h55 _).mono ?_; rintro e w1 ⟨rfl, rfl⟩)
  go_ret
  exact ⟨rfl, rfl⟩
/-- Whether a text ends with a pair. -/
def endsZ (l : List Int) : Bool := decide (2 ≤ l.length ∧ l.drop (l.length - 2) = [13, 10])
set_option maxRecDepth 100000 in
theorem hasSuffix_any (s : ByteArray) (w : World) (hs : s.size ≤ 1000000000) : Calls Tryd.prog 94 #[.string s, .string ⟨#[13, 10]⟩] w fun e w' => e = .returned (.bool (endsZ (nums s))) ∧ w = w' := by
  have h1 : (⟨#[13, 10]⟩ : ByteArray).size = 2 := rfl
  have hn : nums (⟨#[13, 10]⟩ : ByteArray) = [13, 10] := rfl
  by_cases h2 : 2 ≤ s.size
  · have hd : decide ((s.size : Int) ≥ 2) = true := by simp; omega
    have hd' : decide ((2 : Int) ≤ (s.size : Int)) = true := by simp; omega
    have hen := eq_nums (s.extract (s.size - 2) s.size) ⟨#[13, 10]⟩
    rw [nums_from, hn] at hen
    have k1 : (0 : Int) ≤ (s.size : Int) - 2 := by omega
    have k2 : (s.size : Int) - 2 ≤ (s.size : Int) := by omega
    have k3 : ((s.size : Int) - 2).toNat = s.size - 2 := by omega
    have HE : Hid (endsZ (nums s) = decide ((nums s).drop (s.size - 2) = [13, 10])) := by unfold Hid endsZ; rw [nums_len]; simp [h2]
    rw [ByteArray.toList_eq (⟨#[13, 10]⟩)] at hen
    simp only at hen
    rw [HE.out]
    generalize decide ((nums s).drop (s.size - 2) = [13, 10]) = B at hen
    cases B with
    | true =>
      have hen2 : (s.extract (s.size - 2) s.size).toList = [13, 10] := by simpa using hen
      clear HE hn hen
      go_enter Tryd.func94, Tryd.ntmps94
      go_wp2
      go_ret
      exact ⟨by first | rfl | simp [hen2], rfl⟩
    | false =>
      have hen2 : ¬ (s.extract (s.size - 2) s.size).toList = [13, 10] := by simpa using hen
      clear HE hn hen
      go_enter Tryd.func94, Tryd.ntmps94
      go_wp2
      go_ret
      exact ⟨by first | rfl | simp [hen2], rfl⟩
  · have hd : decide ((s.size : Int) ≥ 2) = false := by simp; omega
    have hd' : decide ((2 : Int) ≤ (s.size : Int)) = false := by simp; omega
    have HE : endsZ (nums s) = false := by unfold endsZ; rw [nums_len]; simp [h2]
    rw [HE]
    clear HE hn
    go_enter Tryd.func94, Tryd.ntmps94
    go_wp2
    go_ret
    exact ⟨by first | rfl | simp, rfl⟩
def stemB (s : ByteArray) : ByteArray := if endsZ (nums s) = true then s.extract 0 (s.size - 2) else s
set_option maxRecDepth 100000 in
theorem cutSuffix_any (s : ByteArray) (w : World) (hs : s.size ≤ 1000000000) : Calls Tryd.prog 53 #[.string s, .string ⟨#[13, 10]⟩] w fun e w' => e = .returned (.tuple #[.string (stemB s), .bool (endsZ (nums s))]) ∧ w = w' := by
  have h1 : (⟨#[13, 10]⟩ : ByteArray).size = 2 := rfl
  have h35 : Calls Tryd.prog 77 #[.string s, .string ⟨#[13, 10]⟩] w fun e w' => e = .returned (.tuple #[.string (stemB s), .bool (endsZ (nums s))]) ∧ w = w' := by
    have hx := hasSuffix_any s w hs
    unfold stemB
    cases hz : endsZ (nums s) with
    | true =>
      have h2 : 2 ≤ s.size := by unfold endsZ at hz; rw [decide_eq_true_eq, nums_len] at hz; exact hz.1
      have k1 : (0 : Int) ≤ (s.size : Int) - 2 := by omega
      have k2 : (s.size : Int) - 2 ≤ (s.size : Int) := by omega
      have k3 : ((s.size : Int) - 2).toNat = s.size - 2 := by omega
      rw [hz] at hx
      go_enter Tryd.func77, Tryd.ntmps77
      go_wp2_with (go_at_call 94; refine hx.mono ?_; rintro e w1 ⟨rfl, rfl⟩)
      go_ret2
      exact ⟨by first | rfl | simp, rfl⟩
    | false =>
      rw [hz] at hx
      go_enter Tryd.func77, Tryd.ntmps77
      go_wp2_with (go_at_call 94; refine hx.mono ?_; rintro e w1 ⟨rfl, rfl⟩)
      go_ret2
      exact ⟨by first | rfl | simp, rfl⟩
  generalize stemB s = x at h35 ⊢
  generalize endsZ (nums s) = b at h35 ⊢
  go_enter Tryd.func53, Tryd.ntmps53
  go_wp2_with (go_at_call 77; refine h35.mono ?_; rintro e w1 ⟨rfl, rfl⟩)
  go_ret2
  exact ⟨rfl, rfl⟩
end Go.Proofs.YtenclgnkogmgiaaDoor
