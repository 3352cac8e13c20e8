/-
  The contract of IDs.
-/
import Derived.Test.YtomcjkghneingabDoorTr
import Derived.Test.YtomcjkghneingabDoorTm
namespace Go.Proofs.YtomcjkghneingabDoor
open Go.RowKit Go.Shelf
set_option linter.unusedVariables false
set_option linter.unusedSimpArgs false

/-- What IDs answers. -/
def IdsP (w : World) (o : Option (List (List Int))) (e : Ending) (w' : World) : Prop :=
  (o = none → e = .returned (.tuple #[.slice none 0 0, .int .i64 3])) ∧
  (∀ out, o = some out → 64 < out.length → e = .returned (.tuple #[.slice none 0 0, .int .i64 2])) ∧
  (∀ out, o = some out → out.length ≤ 64 → ∃ a cap xs, e = .returned (.tuple #[.slice a (xs : List ByteArray).length cap, .int .i64 0]) ∧ xs.map nums = out ∧ SRow w' a xs) ∧
  Below w.heap.size w w'
theorem idsP_none {w w' : World} (hb : Below w.heap.size w w') : IdsP w none (.returned (.tuple #[.slice none 0 0, .int .i64 3])) w' :=
  ⟨fun _ => rfl, fun out h => (by cases h), fun out h => (by cases h), hb⟩
theorem idsP_long {w w' : World} {out : List (List Int)} (h : 64 < out.length) (hb : Below w.heap.size w w') : IdsP w (some out) (.returned (.tuple #[.slice none 0 0, .int .i64 2])) w' :=
  ⟨fun h => (by cases h), fun _ _ _ => rfl, fun o h1 h2 => by obtain rfl : out = o := Option.some.inj h1; omega, hb⟩
theorem idsP_some {w w' : World} {a : Option Addr} {cap : Nat} {xs : List ByteArray} (h : ¬ 64 < xs.length) (hr : SRow w' a xs) (hb : Below w.heap.size w w') : IdsP w (some (xs.map nums)) (.returned (.tuple #[.slice a xs.length cap, .int .i64 0])) w' :=
  ⟨fun h => (by cases h), fun o h1 h2 => by rw [← Option.some.inj h1, List.length_map] at h2; omega, fun o h1 _ => ⟨a, cap, xs, rfl, Option.some.inj h1, hr⟩, hb⟩
theorem trim_trim (l : List Int) : trimQ (trimQ l) = trimQ l := by
  cases h : trimQ l with
  | nil => rfl
  | cons c t =>
    obtain ⟨h1, h2⟩ := trim_head l c t h
    rw [trimQ, if_neg (by omega)]
theorem trim_byt {l : List Int} (h : Byt l) : Byt (trimQ l) := by
  obtain ⟨b, e, _⟩ := trim_split l
  intro c hc
  exact h c (by rw [e]; exact List.mem_append_right _ hc)
set_option maxHeartbeats 8000000 in
set_option maxRecDepth 100000 in
theorem ids_any (s : ByteArray) (w : World) (hs : s.size ≤ 1000000) : Calls Tryd.prog 9 #[.string s] w (IdsP w (idsZ (nums s))) := by
  obtain ⟨j0, hi, hz0, hz1, hz2⟩ := info_parts Tryd.info9
  have HI : Hid (∀ x V, Calls Tryd.prog 22 #[.string x, .int .u8 62] V fun e w' => e = .returned (.int .i64 (idxZ 62 (nums x))) ∧ V = w') := fun x V => index46_any x 62 V (by decide) (by decide)
  have h0 := trimL_any s w
  have hbz := trim_byt (nums_byt s)
  have hbl := trim_len (nums s)
  rw [nums_len] at hbl
  obtain ⟨t, ht⟩ : ∃ t, strOfNums (trimQ (nums s)) = t := ⟨_, rfl⟩
  have hnt : nums t = trimQ (nums s) := by rw [← ht]; exact nums_str hbz
  have htz : t.size ≤ s.size := by rw [← nums_len, hnt]; exact hbl
  have HZ : Hid (idsZ (nums s) = idsF (t.size + 1) (nums t) []) := by
    unfold Hid idsZ
    rw [← hnt]
    exact ids_fuel _ _ _ _ (by rw [nums_len, nums_len]; omega) (by rw [nums_len]; omega)
  rw [ht] at h0
  clear hbz hbl ht hnt
  go_enter Tryd.func9, Tryd.ntmps9
  go_wp2_with fail
  refine h0.mono ?_
  clear h0
  rintro e w1 ⟨rfl, hb1⟩
  go_wp2
  go_loopw [4, 5, 6] (fun v l u wr => ∃ (x : ByteArray) (pre : List ByteArray), l = .string x ∧ x.size ≤ 1000000 ∧ pre.length ≤ 65 ∧ Hid (Below w.heap.size w wr) ∧ Hid (idsZ (nums s) = idsF (x.size + 1) (nums x) (pre.map nums)) ∧ Hid (wr.ownsRow w.heap.size 9 1 v pre.length (pre.map Value.string))) (fun _ l _ _ => strSize l)
  case atStart => exact ⟨t, [], rfl, by omega, by decide, hb1, HZ, World.ownsRow_nil _ _ _ _⟩
  case round =>
    obtain ⟨x, pre, rfl, hxz, hpre, HB, HQ, HO⟩ := hrel
    clear htz hs hb1 HZ
    obtain ⟨a, cap, rfl, hcap, hrow⟩ := ownS_row HO.out
    by_cases hx0 : x.size = 0
    · have hxe : x = ⟨#[]⟩ := nums_inj (List.eq_nil_of_length_eq_zero (by rw [nums_len]; omega))
      subst hxe
      have HE : Hid (idsZ (nums s) = some (pre.map nums)) := by unfold Hid; rw [HQ.out]; exact ids_nil _ _
      by_cases h64 : 64 < pre.length
      · have d1 : decide ((64 : Int) < (pre.length : Int)) = true := decide_eq_true (by omega)
        have HR : Hid (IdsP w (idsZ (nums s)) (.returned (.tuple #[.slice none 0 0, .int .i64 2])) wr) := by
          unfold Hid
          rw [HE.out]
          exact idsP_long (by rw [List.length_map]; exact h64) HB.out
        have d2 : (64 : Int) < (pre.length : Int) := by omega
        go_wp2
        go_ret2
        exact HR.out
      · have d1 : decide ((64 : Int) < (pre.length : Int)) = false := decide_eq_false (by omega)
        have d2 : ¬ (64 : Int) < (pre.length : Int) := by omega
        have HR : Hid (IdsP w (idsZ (nums s)) (.returned (.tuple #[.slice a pre.length cap, .int .i64 0])) wr) := by
          unfold Hid
          rw [HE.out]
          exact idsP_some h64 hrow HB.out
        go_wp2
        go_ret2
        exact HR.out
    · have hxne : nums x ≠ [] := fun h => by have := congrArg List.length h; rw [nums_len] at this; exact hx0 this
      have hd1 : (x.toList == (⟨#[]⟩ : ByteArray).toList) = false := by
        rw [eq_nums, decide_eq_false_iff_not]; exact hxne
      have hd2 : ¬ x.toList = [] := by
        intro h
        have h' : x.toList = (⟨#[]⟩ : ByteArray).toList := h.trans (by rw [ByteArray.toList_eq])
        rw [h'] at hd1; simp at hd1
      have hd3 : x.toList.isEmpty = false := by rw [List.isEmpty_eq_false_iff]; exact hd2
      obtain ⟨m, hm⟩ : ∃ m, idEnd (nums x) = m := ⟨_, rfl⟩
      have hml := end_le (nums x)
      rw [hm, nums_len] at hml
      obtain ⟨z, hz⟩ : ∃ z, idxZ 62 (nums x) = z := ⟨_, rfl⟩
      have hzm : z + 1 = (m : Int) := by
        rw [← hm, ← hz]; unfold idEnd; rcases idx_ge 62 (nums x) with h | h <;> omega
      have hidx := HI.out x wr
      rw [hz] at hidx
      have hz0' : -1 ≤ z := by omega
      have hz1' : z ≤ 1000000 := by omega
      have hisid := isID_any (x.extract 0 m) wr (by rw [ByteArray.size_extract]; omega)
      rw [nums_to] at hisid
      have m0 : (0 : Int) ≤ (m : Int) := by omega
      have m1 : (m : Int) ≤ (x.size : Int) := by omega
      have HST : Hid (idsF (x.size + 1) (nums x) (pre.map nums) = if idB ((nums x).take m) = true then idsF x.size (trimQ ((nums x).drop m)) (if pre.length ≤ 64 then pre.map nums ++ [(nums x).take m] else pre.map nums) else none) := by
        unfold Hid
        rw [idsF, if_neg hxne, hm, List.length_map]
      have HEP : Hid (idB ((nums x).take m) = true → 0 < m) := fun h => by rw [← hm] at h ⊢; exact end_pos h
      clear hm hz hxne hrow
      go_wp2_with fail
      refine hidx.mono ?_
      clear hidx
      rintro e w' ⟨rfl, rfl⟩
      go_wp2_with fail
      refine hisid.mono ?_
      clear hisid
      rintro e w2 ⟨⟨b, rfl, hb⟩, hb2⟩
      have hib : idB ((nums x).take m) = b := by
        rw [Bool.eq_iff_iff, idB_iff]; exact hb.symm
      have HB2 : Hid (Below w.heap.size w w2) := HB.out.trans (hb2.mono HB.out.size)
      have HO2 : Hid (w2.ownsRow w.heap.size 9 1 (.slice a pre.length cap) pre.length (pre.map Value.string)) := own_keep HO.out hb2
      rw [hib] at HST HEP
      clear hb hib hb2
      cases b with
      | false =>
        have HR : Hid (IdsP w (idsZ (nums s)) (.returned (.tuple #[.slice none 0 0, .int .i64 3])) w2) := by
          have e : idsZ (nums s) = none := by rw [HQ.out, HST.out, if_neg (by decide)]
          unfold Hid
          rw [e]
          exact idsP_none HB2.out
        go_wp2
        go_ret2
        exact HR.out
      | true =>
        have hmp := HEP.out rfl
        have hbz2 : Byt (trimQ ((nums x).drop m)) := trim_byt ((nums_byt x).drop m)
        have hbl2 := trim_len ((nums x).drop m)
        rw [List.length_drop, nums_len] at hbl2
        have hT : ∀ V, Calls Tryd.prog 21 #[.string (x.extract m x.size), .string ⟨#[32, 9]⟩] V fun e w' => e = .returned (.string (strOfNums (trimQ (nums (x.extract m x.size))))) ∧ Below V.heap.size V w' := fun V => trimL_any _ V
        rw [nums_from] at hT
        obtain ⟨y, hy⟩ : ∃ y, strOfNums (trimQ ((nums x).drop m)) = y := ⟨_, rfl⟩
        have hny : nums y = trimQ ((nums x).drop m) := by rw [← hy]; exact nums_str hbz2
        have hyz : y.size ≤ x.size - m := by rw [← nums_len, hny]; exact hbl2
        rw [hy] at hT
        have HT : Hid _ := hT
        have HQ2 : Hid (∀ out, (if pre.length ≤ 64 then pre.map nums ++ [(nums x).take m] else pre.map nums) = out → idsZ (nums s) = idsF (y.size + 1) (nums y) out) := by
          rintro out rfl
          rw [HQ.out, HST.out, if_pos rfl, ← hny]
          exact ids_fuel _ _ _ _ (by rw [nums_len]; omega) (by rw [nums_len]; omega)
        clear hT hbz2 hbl2 hy hny HST HEP HQ
        by_cases h64 : pre.length ≤ 64
        · have d1 : decide ((pre.length : Int) ≤ 64) = true := decide_eq_true (by omega)
          have d2 : (pre.length : Int) ≤ 64 := by omega
          have hsz2 := HB2.out.size
          go_wp2_with (at_builtin; refine wpList_append_own _ rfl (.tmp 24) (.tmp 28) 32 rfl w.heap.size 9 j0 (.string ⟨#[]⟩) 1 16 Tryd.underlying32 hi hz0 hz1 hz2 rfl (by decide) _ _ _ rfl (HO2.out.alloc _) ⟨w2.heap.size, 0, none⟩ 1 1 [.string (x.extract 0 m)] rfl rfl (cells_new _ _ _) (by intro u hu; simp at hu; subst hu; rfl) ?a1 ?a2 ?a3 ?_)
          case a1 => unfold maxLen; omega
          case a2 => omega
          case a3 => simp; omega
          intro v' w3 hown3 hgrow3 _
          have HB3 : Hid (Below w.heap.size w w3) := (HB2.out.alloc hsz2 _).grown hgrow3 (by simp; omega) (fun k hk => by have := (HO2.out.lt k hk).1; omega)
          have HO3 : Hid (w3.ownsRow w.heap.size 9 1 v' (pre ++ [x.extract 0 m]).length ((pre ++ [x.extract 0 m]).map Value.string)) := by
            unfold Hid
            rw [List.length_append, List.map_append]; exact hown3
          clear hgrow3 hown3
          have HQ3 := HQ2.out _ (if_pos h64)
          go_wp2_with fail
          refine (HT.out _).mono ?_
          rintro e w4 ⟨rfl, hb4⟩
          have HB4 : Hid (Below w.heap.size w w4) := HB3.out.trans (hb4.mono HB3.out.size)
          have HO4 := own_keep HO3.out hb4
          clear hb4
          go_wp2
          go_roundw
          case rel => exact ⟨y, pre ++ [x.extract 0 m], rfl, by omega, by rw [List.length_append]; simp; omega, HB4, by unfold Hid; rw [HQ3, List.map_append, List.map_cons, nums_to]; rfl, HO4⟩
          case measure => simp [strSize]; omega
        · have d1 : decide ((pre.length : Int) ≤ 64) = false := decide_eq_false (by omega)
          have d2 : ¬ (pre.length : Int) ≤ 64 := by omega
          have HQ3 := HQ2.out _ (if_neg h64)
          go_wp2_with fail
          refine (HT.out _).mono ?_
          rintro e w4 ⟨rfl, hb4⟩
          have HB4 : Hid (Below w.heap.size w w4) := HB2.out.trans (hb4.mono HB2.out.size)
          have HO4 := own_keep HO2.out hb4
          clear hb4
          go_wp2
          go_roundw
          case rel => exact ⟨y, pre, rfl, by omega, by omega, HB4, HQ3, HO4⟩
          case measure => simp [strSize]; omega
end Go.Proofs.YtomcjkghneingabDoor
