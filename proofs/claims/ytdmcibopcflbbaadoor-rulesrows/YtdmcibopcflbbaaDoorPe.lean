/-
  Persons, and attendees as they lie: the contracts of isPerson and areAttendees.
-/
import Derived.Test.YtdmcibopcflbbaaDoorEv
import Derived.Maps.OwnSet
import Derived.Maps.OwnOps
namespace Go.Proofs.YtdmcibopcflbbaaDoor
open Go.RowKit Go.Maps
set_option linter.unusedVariables false

/-- What stands ahead of the first @, and behind it. -/
def frontZ (t : List Int) : List Int := t.takeWhile fun c => decide (c ≠ 64)
def backZ (t : List Int) : List Int := (t.dropWhile fun c => decide (c ≠ 64)).drop 1
def plainZ (t : List Int) : Bool := t.contains 64 && rightZ [] (frontZ t) (backZ t)
def personZ (t : List Int) : Bool := plainZ t && decide (t.map smallZ = t)
theorem front_at {l d : List Int} (h : (64 : Int) ∉ l) : frontZ (l ++ 64 :: d) = l ∧ backZ (l ++ 64 :: d) = d := by
  induction l with
  | nil => exact ⟨rfl, rfl⟩
  | cons c l ih =>
    have hc : c ≠ 64 := fun e => h (by simp [e])
    have hl : (64 : Int) ∉ l := fun e => h (by simp [e])
    obtain ⟨i1, i2⟩ := ih hl
    have hd : decide (c ≠ 64) = true := decide_eq_true hc
    constructor
    · unfold frontZ at i1 ⊢
      rw [List.cons_append, List.takeWhile_cons, if_pos hd, i1]
    · unfold backZ at i2 ⊢
      rw [List.cons_append, List.dropWhile_cons, if_pos hd, i2]
theorem split_at {t : List Int} (h : t.contains 64 = true) : t = frontZ t ++ 64 :: backZ t := by
  induction t with
  | nil => simp at h
  | cons c l ih =>
    by_cases hc : c = 64
    · subst hc; rfl
    · have hd : decide (c ≠ 64) = true := decide_eq_true hc
      have hl : l.contains 64 = true := by
        simp only [List.contains_cons, Bool.or_eq_true, beq_iff_eq] at h
        rcases h with h | h
        · exact absurd h.symm hc
        · exact h
      have := ih hl
      unfold frontZ backZ at this ⊢
      rw [List.takeWhile_cons, List.dropWhile_cons, if_pos hd, if_pos hd, List.cons_append, ← this]
theorem plain_at {l d : List Int} (h : (64 : Int) ∉ l) : plainZ (l ++ 64 :: d) = rightZ [] l d := by
  obtain ⟨a, b⟩ := front_at (d := d) h
  unfold plainZ
  rw [a, b]
  simp
theorem plain_no {t : List Int} (h : ∀ l d, t = l ++ 64 :: d → rightZ [] l d = false) : plainZ t = false := by
  unfold plainZ
  cases hc : t.contains 64 with
  | false => rfl
  | true => rw [h _ _ (split_at hc)]; rfl
set_option maxHeartbeats 4000000 in
set_option maxRecDepth 100000 in
theorem isPerson_any (s : ByteArray) (w : World) (hs : s.size ≤ 100000000) : Calls Tryd.prog 33 #[.string s] w fun e w' => e = .returned (.bool (personZ (nums s))) ∧ Below w.heap.size w w' := by
  go_enter Tryd.func33, Tryd.ntmps33
  go_wp2_with fail
  refine (plain_any s _ (by omega)).mono ?_
  rintro e w1 ⟨n, l, d, c, rfl, hb1, hp⟩
  have HB1 : Hid (Below w.heap.size w w1) := hb1
  have hsz := hb1.size
  clear hb1
  unfold addrV
  rcases hp with ⟨rfl, rfl, hr, hn, z1, z2⟩ | ⟨rfl, rfl, rfl, rfl, hn⟩
  · have HP : Hid (personZ (nums s) = decide ((nums s).map smallZ = nums s)) := by
      unfold Hid personZ
      have hq : plainZ (nums s) = true := by rw [hn, plain_at (at_not hr)]; exact hr
      rw [hq]; rfl
    have HN : Hid (nums s = nums l ++ 64 :: nums d) := hn
    have HRR : Hid (rightZ [] (nums l) (nums d) = true) := hr
    have HC := normal_any ⟨#[]⟩ l d (w1.alloc (.cells #[.string ⟨#[]⟩, .string l, .string d] 54)) (by decide) (by omega) (by omega)
    unfold addrV at HC
    clear hn hr
    go_wp2_with fail
    refine HC.mono ?_
    rintro e w2 ⟨x, rfl, hb2, hx⟩
    have HX : Hid (nums x = (nums s).map smallZ) := by unfold Hid; rw [hx.1 HRR.out, HN.out]; rfl
    have HE : Hid ((x.toList == s.toList) = personZ (nums s)) := by unfold Hid; rw [eq_nums, HX.out, HP.out]
    clear hx HC
    go_wp2
    go_ret
    exact ⟨ret_bool HE.out, (HB1.out.alloc hsz _).trans (hb2.mono (by simp; omega))⟩
  · have HP : Hid (personZ (nums s) = false) := by unfold Hid personZ; rw [plain_no hn]; rfl
    clear hn
    go_wp2
    go_ret
    exact ⟨ret_bool HP.out.symm, HB1.out.alloc hsz _⟩
/-- What lies where a list of parameters begins: two strings each. -/
def FRow (w : World) (a : Option Addr) (fs : List (ByteArray × ByteArray)) : Prop :=
  fs = [] ∨ ∃ b off, a = some ⟨b, off, none⟩ ∧ ∀ i f, fs[i]? = some f → w.cell? ⟨b, off + i * 2, none⟩ = some (.string f.1) ∧ w.cell? ⟨b, off + i * 2 + 1, none⟩ = some (.string f.2)
theorem FRow.below {w w' : World} {a : Option Addr} {fs : List (ByteArray × ByteArray)} (h : FRow w a fs) (hb : Below w.heap.size w w') : FRow w' a fs := by
  rcases h with h | ⟨b, off, ha, h⟩
  · exact .inl h
  · refine .inr ⟨b, off, ha, fun i f hf => ?_⟩
    have := h i f hf
    have h1 := World.block_lt_of_cell? w _ this.1
    exact ⟨(hb.cell h1).trans this.1, (hb.cell (p := ⟨b, off + i * 2 + 1, none⟩) h1).trans this.2⟩
def numsP (fs : List (ByteArray × ByteArray)) : List (List Int × List Int) := fs.map fun f => (nums f.1, nums f.2)
/-- Are they attendees? -/
def attL : List (List Int) → List (List Int × List Int) → Bool
  | _, [] => true
  | seen, p :: r => !seen.contains p.1 && personZ p.1 && answZ p.2 && attL (seen ++ [p.1]) r
def attsZ (ps : List (List Int × List Int)) : Bool := decide (ps.length ≤ 32) && attL [] ps
theorem law9 : Keyed Tryd.prog 9 := string_keyed Tryd.underlying9
theorem zero3 (w : World) : (zeroValue 3).run Tryd.prog w = .ok (.int .i64 0) w := by kernel_rfl
theorem map_below {w w' : World} {b n : Nat} {D : DataW Unit} (h : w.ownsMap Tryd.prog 9 (plainElem Tryd.prog 3) b n D) (hb : Below w.heap.size w w') : w'.ownsMap Tryd.prog 9 (plainElem Tryd.prog 3) b n D := by
  have hlt := h.lt
  obtain ⟨es, clock, h1, F, hs, hD⟩ := h
  exact ⟨es, clock, (hb.block b hlt).trans h1, F, hs, hD⟩
def keyZ (s : ByteArray) : Lit := .string s.data.toList
theorem keyZ_inj {s t : ByteArray} (h : keyZ s = keyZ t) : nums s = nums t := by
  unfold keyZ at h
  injection h with h
  rw [nums, nums, h]
/-- The map holds the Names that were seen. -/
def Seen (D : DataW Unit) (seen : List (List Int)) : Prop := ∀ s : ByteArray, Maps.has D (keyZ s) = seen.contains (nums s)
theorem seen_put {D : DataW Unit} {seen : List (List Int)} (h : Seen D seen) (hD : IsMap D) (s : ByteArray) (d : DataW Unit) : Seen (D.put (keyZ s) d) (seen ++ [nums s]) := by
  intro u
  by_cases e : nums u = nums s
  · have e2 := nums_inj e
    subst e2
    rw [has_put_same hD (by unfold keyZ; trivial)]
    simp
  · rw [has_put_other (fun q => e (keyZ_inj q)), h u]
    rw [Bool.eq_iff_iff]
    simp [e]
set_option maxHeartbeats 4000000 in
set_option maxRecDepth 100000 in
theorem atts_any (a : Option Addr) (n c : Nat) (fs : List (ByteArray × ByteArray)) (w : World) (hn : fs.length = n) (hr : FRow w a fs) (hf : ∀ f ∈ fs, f.1.size ≤ 100000000 ∧ f.2.size ≤ 100000000) :
    Calls Tryd.prog 34 #[.slice a n c] w fun e w' => e = .returned (.bool (attsZ (numsP fs))) ∧ Below w.heap.size w w' := by
  have HR : Hid (FRow w a fs) := hr
  have HF : Hid (∀ f ∈ fs, f.1.size ≤ 100000000 ∧ f.2.size ≤ 100000000) := hf
  have hmm := @run_makeMap Tryd.prog
  have HL : Hid ((numsP fs).length = n) := by unfold Hid numsP; rw [List.length_map]; exact hn
  clear hr hf
  by_cases h32 : 32 < n
  · have hd : decide ((n : Int) > 32) = true := by simp; omega
    have HZ : Hid (attsZ (numsP fs) = false) := by unfold Hid attsZ; rw [HL.out, decide_eq_false (by omega)]; rfl
    go_enter Tryd.func34, Tryd.ntmps34
    go_wp2
    go_ret
    exact ⟨ret_bool HZ.out.symm, Below.refl _ _⟩
  · have hd : decide ((n : Int) > 32) = false := by simp; omega
    have HZ : Hid (attsZ (numsP fs) = attL [] (numsP fs)) := by unfold Hid attsZ; rw [HL.out, decide_eq_true (by omega)]; rfl
    go_enter Tryd.func34, Tryd.ntmps34
    go_wp2
    go_loopw [14] (fun i wr => ∃ (k : Nat) (D : DataW Unit) (seen : List (List Int)), i = .int .i64 k ∧ k ≤ n ∧ wr.ownsMap Tryd.prog 9 (plainElem Tryd.prog 3) w.heap.size k D ∧ Seen D seen ∧ attL seen (numsP (fs.drop k)) = attL [] (numsP fs) ∧ Below w.heap.size w wr ∧ w.heap.size < wr.heap.size) (fun i _ => n - (intOf i).toNat)
    case atStart => exact ⟨0, _, [], rfl, by omega, World.ownsMap_made _ _ _ _, fun s => rfl, rfl, keep w _, by simp⟩
    case round =>
      obtain ⟨k, D, seen, rfl, hk, hown, hseen, hrl, hb, hws⟩ := hrel
      have HRL : Hid (attL seen (numsP (fs.drop k)) = attL [] (numsP fs)) := hrl
      have HB : Hid (Below w.heap.size w wr) := hb
      have HO : Hid (wr.ownsMap Tryd.prog 9 (plainElem Tryd.prog 3) w.heap.size k D) := hown
      have HS : Hid (Seen D seen) := hseen
      have hrw := HR.out.below hb
      have hsz := hb.size
      clear hrl hb hown hseen
      by_cases hlt : k < n
      · obtain ⟨f, hfk⟩ : ∃ f, fs[k]? = some f := ⟨_, List.getElem?_eq_getElem (by omega)⟩
        have HD : Hid (fs.drop k = f :: fs.drop (k + 1)) := by
          unfold Hid
          rw [List.drop_eq_getElem_cons (by omega)]
          rw [List.getElem?_eq_getElem (by omega)] at hfk
          simp only [Option.some.injEq] at hfk
          rw [hfk]
        have hfz := HF.out f (List.mem_of_getElem? hfk)
        obtain ⟨nm, vl⟩ := f
        obtain ⟨hz1, hz2⟩ := hfz
        rcases hrw with h | ⟨b, off, rfl, h⟩
        · rw [h] at hn; simp at hn; omega
        obtain ⟨hc1, hc2⟩ := h k _ hfk
        clear h hfk
        simp only at hc1 hc2 hz1 hz2
        have hkey : keyOf Tryd.prog 9 (.string nm) = some (keyZ nm) := Go.WideMaps.keyOf_string_mk Tryd.underlying9 (by unfold maxLen; omega)
        have HQ : Hid (attL [] (numsP fs) = (!seen.contains (nums nm) && personZ (nums nm) && answZ (nums vl) && attL (seen ++ [nums nm]) (numsP (fs.drop (k + 1))))) := by
          unfold Hid; rw [← HRL.out, HD.out]; rfl
        have HHas : Hid (Maps.has D (keyZ nm) = seen.contains (nums nm)) := HS.out nm
        cases hct : seen.contains (nums nm) with
        | true =>
          have HX : Hid (attL [] (numsP fs) = false) := by unfold Hid; rw [HQ.out, hct]; rfl
          go_wp2_with (at_lookup; refine wpList_lookup_own_ok_int _ rfl _ _ 58 rfl 9 3 .i64 law9 Tryd.underlying58 Tryd.underlying3 (zero3 _) w.heap.size k D rfl (HO.out.alloc _) _ _ rfl hkey ?_; intro cc hat hwc; rw [HHas.out, hct])
          go_ret
          exact ⟨ret_bool (by rw [HZ.out, HX.out]), HB.out.alloc hsz _⟩
        | false =>
          go_wp2_with (at_lookup; refine wpList_lookup_own_ok_int _ rfl _ _ 58 rfl 9 3 .i64 law9 Tryd.underlying58 Tryd.underlying3 (zero3 _) w.heap.size k D rfl (HO.out.alloc _) _ _ rfl hkey ?_; intro cc hat hwc; rw [HHas.out, hct])
          refine (isPerson_any nm _ hz1).mono ?_
          rintro e w3 ⟨rfl, hb3⟩
          clear hat hwc hc1 hc2
          have HB3 : Hid (Below w.heap.size w w3) := (HB.out.alloc hsz _).trans (hb3.mono (by simp; omega))
          have e0 : w3.cell? ⟨wr.heap.size, 0, none⟩ = some (.string nm) := by rw [hb3.cell (p := ⟨wr.heap.size, 0, none⟩) (by simp)]; rw [World.cell?_alloc_mark]; rfl
          have e1 : w3.cell? ⟨wr.heap.size, 1, none⟩ = some (.string vl) := by rw [hb3.cell (p := ⟨wr.heap.size, 1, none⟩) (by simp)]; rw [World.cell?_alloc_mark]; rfl
          have HO3 : Hid (w3.ownsMap Tryd.prog 9 (plainElem Tryd.prog 3) w.heap.size k D) := map_below (HO.out.alloc _) hb3
          have hs3 : wr.heap.size < w3.heap.size := World.block_lt_of_cell? w3 _ e0
          clear hb3
          cases hnz : personZ (nums nm) with
          | false =>
            have HX : Hid (attL [] (numsP fs) = false) := by unfold Hid; rw [HQ.out, hnz]; simp
            go_wp2
            go_ret
            exact ⟨ret_bool (by rw [HZ.out, HX.out]), HB3.out⟩
          | true =>
            cases hvz : answZ (nums vl) with
            | false =>
              have HX : Hid (attL [] (numsP fs) = false) := by unfold Hid; rw [HQ.out, hvz]; simp
              go_wp2_with (go_at_call 46; refine (isAnswer_any vl _).mono ?_; rintro e w4 ⟨rfl, rfl⟩; rw [hvz])
              go_ret
              exact ⟨ret_bool (by rw [HZ.out, HX.out]), HB3.out⟩
            | true =>
              have HX : Hid (attL [] (numsP fs) = attL (seen ++ [nums nm]) (numsP (fs.drop (k + 1)))) := by unfold Hid; rw [HQ.out, hct, hnz, hvz]; rfl
              go_wp2_with (first
                | (go_at_call 46; refine (isAnswer_any vl _).mono ?_; rintro e w4 ⟨rfl, rfl⟩; rw [hvz])
                | (at_mapUpdate; refine wpList_mapUpdate_own _ rfl _ _ _ 58 rfl 9 3 law9 Tryd.underlying58 (plainElem (H := Unit) Tryd.prog 3) w.heap.size k D rfl HO3.out (by unfold maxLen; omega) _ _ _ rfl rfl hkey _ [] (plainElem_int Tryd.underlying3 (WalkArith.wf_i64 (by omega))) ?_; intro w5 hown5 hgrow5))
              have HB5 : Hid (Below w.heap.size w w5) := HB3.out.grown hgrow5 HB3.out.size (fun j hj => by cases hj; omega)
              have hs5 := hgrow5.size
              go_wp2
              go_roundw
              case rel => exact ⟨k + 1, _, _, by go_num, by omega, hown5, seen_put HS.out HO3.out.isMap nm _, HX.out.symm, HB5.out, by omega⟩
              case measure => simp [intOf]; omega
      · obtain rfl : k = n := by omega
        have HX : Hid (attL [] (numsP fs) = true) := by
          unfold Hid; rw [← HRL.out, List.drop_of_length_le (by omega)]; rfl
        go_wp2
        go_ret
        exact ⟨ret_bool (by rw [HZ.out, HX.out]), HB.out⟩
end Go.Proofs.YtdmcibopcflbbaaDoor
