/-
  What is unfolded: the contracts of folds and unfold.
-/
import Derived.Test.YtenclgnkogmgiaaDoorWr
import Derived.Test.YtenclgnkogmgiaaDoorUPoints
import Derived.Laws.MakeOwn
namespace Go.Proofs.YtenclgnkogmgiaaDoor
open Go.RowKit
set_option linter.unusedVariables false
theorem row_of_own {w : World} {B : Nat} {v : Value} {l : List Int} (h : Own w B v l) : ∃ a cap, v = .slice a l.length cap ∧ l.length ≤ cap ∧ cap ≤ maxLen ∧ Row w a l ∧ (a = none → cap = 0) := own_row' h

/-- Does a fold stand at the front? -/
def foldsZ (l : List Int) : Bool := decide (l.take 2 = [13, 10]) && (decide (l[2]? = some 32) || decide (l[2]? = some 9))
/-- Without the pairs that have a blank or a tab behind them, and these. -/
def unfK : Nat → List Int → List Int
  | _, [] => []
  | k + 1, _ :: r => unfK k r
  | 0, c :: r => if foldsZ (c :: r) = true then unfK 2 r else c :: unfK 0 r
def unfoldZ (l : List Int) : List Int := unfK 0 l
theorem unfK_drop : ∀ (k : Nat) (l : List Int), unfK k l = unfK 0 (l.drop k)
  | 0, l => rfl
  | k + 1, [] => rfl
  | k + 1, c :: r => by rw [unfK, unfK_drop k r]; rfl
theorem unf_fold {c : Int} {r : List Int} (h : foldsZ (c :: r) = true) : unfoldZ (c :: r) = unfoldZ ((c :: r).drop 3) := by
  unfold unfoldZ; rw [unfK, if_pos h, unfK_drop]; rfl
theorem unf_plain {c : Int} {r : List Int} (h : foldsZ (c :: r) = false) : unfoldZ (c :: r) = c :: unfoldZ r := by
  unfold unfoldZ; rw [unfK, if_neg (by rw [h]; simp)]
theorem unfK_mem : ∀ (k : Nat) (l : List Int), ∀ x ∈ unfK k l, x ∈ l
  | _, [], x, h => by simp [unfK] at h
  | k + 1, c :: r, x, h => by rw [unfK] at h; exact List.mem_cons_of_mem _ (unfK_mem k r x h)
  | 0, c :: r, x, h => by
    rw [unfK] at h
    split at h
    · exact List.mem_cons_of_mem _ (unfK_mem 2 r x h)
    · rcases List.mem_cons.1 h with rfl | h
      · simp
      · exact List.mem_cons_of_mem _ (unfK_mem 0 r x h)
theorem unfold_byt {l : List Int} (h : Byt l) : Byt (unfoldZ l) := fun x hx => h x (unfK_mem 0 l x hx)
theorem unfK_len : ∀ (k : Nat) (l : List Int), (unfK k l).length ≤ l.length
  | _, [] => by simp [unfK]
  | k + 1, c :: r => by rw [unfK]; have := unfK_len k r; simp; omega
  | 0, c :: r => by
    rw [unfK]; split
    · have := unfK_len 2 r; simp; omega
    · have := unfK_len 0 r; simp; omega
theorem eq_pair (x : ByteArray) : (x.toList == [13, 10]) = decide (nums x = [13, 10]) := by
  have h := eq_nums x ⟨#[13, 10]⟩
  rw [ByteArray.toList_eq ⟨#[13, 10]⟩] at h
  exact h
set_option maxHeartbeats 2000000 in
set_option maxRecDepth 100000 in
theorem folds_any (a : Option Addr) (len cap : Nat) (l : List Int) (w : World) (hl : l.length = len) (hb : Byt l) (hbig : len ≤ 100000000) (hcap : len ≤ cap) (hcm : cap ≤ maxLen) (hr : Row w a l) :
    Calls Tryd.prog 73 #[.slice a len cap] w fun e w' => e = .returned (.bool (foldsZ l)) ∧ w = w' := by
  unfold maxLen at hcm
  by_cases h2 : 2 < len
  · have d1 : decide ((2 : Int) < (len : Int)) = true := by simp; omega
    have hcv := conv_row 2 cap (by rw [List.length_take]; omega) (row_take 2 hr)
    have heq := eq_pair (strOfNums (l.take 2))
    rw [nums_str (hb.take 2)] at heq
    obtain ⟨c, hc⟩ : ∃ c, l[2]? = some c := ⟨_, List.getElem?_eq_getElem (by omega)⟩
    obtain ⟨b, off, rfl, hcell⟩ : ∃ b off, a = some ⟨b, off, none⟩ ∧ w.cell? ⟨b, off + 2, none⟩ = some (.int .u8 c) := by
      rcases hr with h | ⟨b, off, h1, h⟩
      · rw [h] at hl; simp at hl; omega
      · refine ⟨b, off, h1, ?_⟩
        rw [h 2 (by omega), List.getD_eq_getElem?_getD, hc]; rfl
    have hd2 : decide (2 ≤ cap) = true := by simp; omega
    obtain ⟨sx, hsx⟩ : ∃ sx, strOfNums (l.take 2) = sx := ⟨_, rfl⟩
    rw [hsx] at hcv heq
    by_cases hp : l.take 2 = [13, 10]
    · rw [decide_eq_true hp] at heq
      by_cases h32 : c = 32
      · have e1 : (c == 32) = true := by simp [h32]
        have HZ : Hid (foldsZ l = true) := by unfold Hid foldsZ; rw [hp, hc, h32]; rfl
        clear hp hc h32 hsx
        go_enter Tryd.func73, Tryd.ntmps73
        go_wp2
        go_ret
        exact ⟨ret_bool HZ.out.symm, rfl⟩
      · have e1 : (c == 32) = false := by simp [h32]
        have HZ : Hid (foldsZ l = (c == 9)) := by
          unfold Hid foldsZ; rw [hp, hc]
          by_cases h9 : c = 9
          · simp [h9]
          · simp [h32, h9]
        clear hp hc h32 hsx
        go_enter Tryd.func73, Tryd.ntmps73
        go_wp2
        go_ret
        exact ⟨ret_bool (by first | exact HZ.out.symm | (rw [HZ.out]; rfl)), rfl⟩
    · rw [decide_eq_false hp] at heq
      have HZ : Hid (foldsZ l = false) := by unfold Hid foldsZ; rw [decide_eq_false hp]; rfl
      clear hp hc hsx
      go_enter Tryd.func73, Tryd.ntmps73
      go_wp2
      go_ret
      exact ⟨ret_bool HZ.out.symm, rfl⟩
  · have d1 : decide ((2 : Int) < (len : Int)) = false := by simp; omega
    have HZ : Hid (foldsZ l = false) := by
      unfold Hid foldsZ
      rw [List.getElem?_eq_none (by omega)]; simp
    go_enter Tryd.func73, Tryd.ntmps73
    go_wp2
    go_ret
    exact ⟨ret_bool HZ.out.symm, rfl⟩
set_option maxHeartbeats 4000000 in
set_option maxRecDepth 100000 in
theorem unfold_any (a : Option Addr) (len cap : Nat) (l : List Int) (w : World) (hl : l.length = len) (hb : Byt l) (hbig : len ≤ 10000000) (hcap : len ≤ cap) (hcm : cap ≤ maxLen) (hr : Row w a l) :
    Calls Tryd.prog 50 #[.slice a len cap] w fun e w' => e = .returned (.string (strOfNums (unfoldZ l))) ∧ Below w.heap.size w w' := by
  obtain ⟨j0, hi, hz0, hz1, hz2⟩ := info_parts Tryd.info5
  obtain ⟨w1, hmk, hown1, hgr1⟩ := run_makeSlice_owned (P := Tryd.prog) (w := w) w.heap.size 29 5 j0 _ 1 Tryd.underlying29 hi hz0 hz1 .i64 .i64 len (by omega) (by rw [hz2]; omega) (by unfold maxLen; omega) (Nat.le_refl _)
  have HL : Hid (l.length = len) := hl
  have HB : Hid (Byt l) := hb
  have HO1 : Hid (Own w1 w.heap.size (.slice (some ⟨w.heap.size, 0, none⟩) 0 len) []) := hown1
  have HB1 : Hid (Below w.heap.size w w1) := (Below.refl _ w).grown hgr1 (Nat.le_refl _) (fun k e => by cases e)
  have HRW : Hid (Row w a l) := hr
  have HCM : Hid (cap ≤ maxLen) := hcm
  clear hown1 hgr1 hl hb hr
  unfold maxLen at hcm
  go_enter Tryd.func50, Tryd.ntmps50
  go_wp2
  clear hmk
  go_loopw [4, 3] (fun i v wr => ∃ (k : Nat) (pre : List Int), i = .int .i64 k ∧ k ≤ len + 2 ∧ Own wr w.heap.size v pre ∧ pre.length ≤ k ∧ pre ++ unfoldZ (l.drop k) = unfoldZ l ∧ Below w.heap.size w wr) (fun i _ _ => len + 3 - (intOf i).toNat)
  case atStart => exact ⟨0, [], rfl, by omega, HO1.out, by simp, by simp, HB1.out⟩
  case round =>
    clear HO1 HB1
    obtain ⟨k, pre, rfl, hk, hown, hpl, hun, hb⟩ := hrel
    have HO : Hid (Own wr w.heap.size u3 pre) := hown
    have HU : Hid (pre ++ unfoldZ (l.drop k) = unfoldZ l) := hun
    have HBl : Hid (Below w.heap.size w wr) := hb
    have hsz := hb.size
    clear hown hun hb
    by_cases hlt : k < len
    · have dl : decide ((k : Int) < (len : Int)) = true := by simp; omega
      have hlk : k < l.length := by rw [HL.out]; exact hlt
      have HD : Hid (l.drop k = l[k] :: l.drop (k + 1)) := List.drop_eq_getElem_cons hlk
      obtain ⟨c, hc⟩ : ∃ c, l[k] = c := ⟨_, rfl⟩
      rw [hc] at HD
      have hcb : 0 ≤ c ∧ c < 256 := HB.out c (by rw [← hc]; exact List.getElem_mem hlk)
      have hRk := row_below HRW.out HBl.out
      obtain ⟨b, off, rfl, hcells⟩ : ∃ b off, a = some ⟨b, off, none⟩ ∧ ∀ i, i < l.length → wr.cell? ⟨b, off + i, none⟩ = some (.int .u8 (l.getD i 0)) := by
        rcases hRk with h | h
        · rw [h] at hlk; simp at hlk
        · exact h
      have hck : wr.cell? ⟨b, off + k, none⟩ = some (.int .u8 c) := by
        rw [hcells k hlk, List.getD_eq_getElem?_getD, List.getElem?_eq_getElem hlk, hc]; rfl
      have hrd : Row wr (some ⟨b, off + k, none⟩) (l.drop k) := by
        refine .inr ⟨b, off + k, rfl, fun i hi => ?_⟩
        rw [List.length_drop] at hi
        rw [Nat.add_assoc, hcells (k + i) (by omega)]
        simp [List.getD_eq_getElem?_getD]
      have hfold := folds_any (some ⟨b, off + k, none⟩) (len - k) (cap - k) (l.drop k) wr (by rw [List.length_drop, HL.out]) (HB.out.drop k) (by omega) (by omega) (by unfold maxLen; omega) hrd
      clear hcells hrd hRk hc
      cases hfz : foldsZ (l.drop k) with
      | true =>
        have HU2 : Hid (pre ++ unfoldZ (l.drop (k + 3)) = unfoldZ l) := by
          unfold Hid
          have := HU.out
          rw [HD.out] at this hfz
          rw [unf_fold hfz, ← HD.out, List.drop_drop] at this
          exact this
        have hk3 : k + 3 ≤ len := by
          have : (l.drop k)[2]?.isSome = true := by
            unfold foldsZ at hfz
            simp only [Bool.and_eq_true, Bool.or_eq_true, decide_eq_true_eq] at hfz
            rcases hfz.2 with h | h <;> rw [h] <;> rfl
          rw [List.getElem?_drop] at this
          have h2 := (List.getElem?_eq_some_iff.1 (Option.isSome_iff_exists.1 this).choose_spec).1
          rw [HL.out] at h2
          omega
        rw [hfz] at hfold
        clear hfz
        go_wp2_with (go_at_call 73; refine hfold.mono ?_; rintro e w2 ⟨rfl, rfl⟩)
        go_roundw
        case rel => exact ⟨k + 3, pre, by go_num, by omega, HO.out, by omega, HU2.out, HBl.out⟩
        case measure => simp [intOf]; omega
      | false =>
        have HU2 : Hid ((pre ++ [c]) ++ unfoldZ (l.drop (k + 1)) = unfoldZ l) := by
          unfold Hid
          have := HU.out
          rw [HD.out] at this hfz
          rw [unf_plain hfz] at this
          rw [← this]; simp
        rw [hfz] at hfold
        clear hfz
        go_wp2_with fail
        refine hfold.mono ?_
        rintro e w2 ⟨rfl, rfl⟩
        clear hfold
        go_wp2_with (at_builtin; refine wpList_append_own _ rfl (.tmp 20) (.tmp 25) 29 rfl w.heap.size 5 j0 _ 1 1 Tryd.underlying29 hi hz0 hz1 hz2 rfl (by decide) u3 _ _ rfl (own_keep HO.out (keep _ _)) ⟨wr.heap.size, 0, none⟩ 1 1 [.int .u8 c] rfl rfl ?a0 ?a4 ?a1 ?a2 ?a3 ?_)
        case a0 => exact cells_new wr [.int .u8 c] 5
        case a4 => exact ints_one [c]
        case a1 => unfold maxLen; omega
        case a2 => omega
        case a3 => simp; omega
        intro v' w3 hown3 hgrow3 _
        have HO3 : Hid (Own w3 w.heap.size v' (pre ++ [c])) := own_snoc (m := [c]) hown3
        have HB3 : Hid (Below w.heap.size w w3) := (HBl.out.alloc HBl.out.size _).grown hgrow3 (HBl.out.alloc HBl.out.size _).size (fun j hj => (HO.out.lt j hj).1)
        clear hown3 hgrow3
        go_wp2
        go_roundw
        case rel => exact ⟨k + 1, pre ++ [c], by go_num, by omega, HO3.out, by simp; omega, HU2.out, HB3.out⟩
        case measure => simp [intOf]; omega
    · have dl : decide ((k : Int) < (len : Int)) = false := by simp; omega
      have hpe : pre = unfoldZ l := by
        have := HU.out
        rw [List.drop_of_length_le (by rw [HL.out]; omega)] at this
        simpa [unfoldZ, unfK] using this
      subst hpe
      obtain ⟨a2, cap2, rfl, _, _, hrow, _⟩ := row_of_own HO.out
      have kc2 := conv_row _ cap2 rfl hrow
      clear hrow
      go_wp2
      go_ret
      exact ⟨rfl, HBl.out⟩
end Go.Proofs.YtenclgnkogmgiaaDoor
