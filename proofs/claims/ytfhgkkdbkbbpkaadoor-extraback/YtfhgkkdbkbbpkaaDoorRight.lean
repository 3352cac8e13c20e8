/-
  Parameters as they lie; which kinds may be: the contract of Right.
-/
import Derived.Test.YtfhgkkdbkbbpkaaDoorSmall
import Derived.Maps.OwnSet
import Derived.Maps.OwnOps
namespace Go.Proofs.YtfhgkkdbkbbpkaaDoor
open Go.RowKit Go.Maps
set_option linter.unusedVariables false

/-- What lies where a list of parameters begins: two strings each. -/
def FRow (w : World) (a : Option Addr) (fs : List (ByteArray × ByteArray)) : Prop :=
  fs = [] ∨ ∃ b off, a = some ⟨b, off, none⟩ ∧ ∀ i f, fs[i]? = some f → w.cell? ⟨b, off + i * 2, none⟩ = some (.string f.1) ∧ w.cell? ⟨b, off + i * 2 + 1, none⟩ = some (.string f.2)
theorem FRow.below {w w' : World} {a : Option Addr} {fs : List (ByteArray × ByteArray)} (h : FRow w a fs) (hb : Below w.heap.size w w') : FRow w' a fs := by
  rcases h with h | ⟨b, off, ha, h⟩
  · exact .inl h
  · refine .inr ⟨b, off, ha, fun i f hf => ?_⟩
    have := h i f hf
    have h1 := World.block_lt_of_cell? w _ this.1
    exact ⟨(hb.cell h1).trans this.1, (hb.cell (p := ⟨b, off + i * 2 + 1, none⟩) h1).trans this.2⟩
def numsP (fs : List (ByteArray × ByteArray)) : List (List Int × List Int) := fs.map fun f => (nums f.1, nums f.2)
/-- Are the parameters right? -/
def rightL : List (List Int) → List (List Int × List Int) → Bool
  | _, [] => true
  | seen, p :: r => !seen.contains p.1 && nameZ p.1 && valueZ p.2 && rightL (seen ++ [p.1]) r
def rightZ (ty sub : List Int) (ps : List (List Int × List Int)) : Bool := nameZ ty && nameZ sub && decide (ps.length ≤ 16) && rightL [] ps
def kindV (ty sub : ByteArray) (a : Option Addr) (n c : Nat) : Value := .agg #[.string ty, .string sub, .slice a n c]
theorem law9 : Keyed Tryd.prog 9 := string_keyed Tryd.underlying9
theorem zero3 (w : World) : (zeroValue 3).run Tryd.prog w = .ok (.int .i64 0) w := by kernel_rfl
theorem map_below {w w' : World} {b n : Nat} {D : DataW Unit} (h : w.ownsMap Tryd.prog 9 (plainElem Tryd.prog 3) b n D) (hb : Below w.heap.size w w') : w'.ownsMap Tryd.prog 9 (plainElem Tryd.prog 3) b n D := by
  have hlt := h.lt
  obtain ⟨es, clock, h1, F, hs, hD⟩ := h
  exact ⟨es, clock, (hb.block b hlt).trans h1, F, hs, hD⟩
def keyZ (s : ByteArray) : Lit := .string s.data.toList
theorem keyZ_inj {s t : ByteArray} (h : keyZ s = keyZ t) : nums s = nums t := by
  unfold keyZ at h
  injection h with h
  rw [nums, nums, h]
/-- The map holds the Names that were seen. -/
def Seen (D : DataW Unit) (seen : List (List Int)) : Prop := ∀ s : ByteArray, Maps.has D (keyZ s) = seen.contains (nums s)
theorem seen_put {D : DataW Unit} {seen : List (List Int)} (h : Seen D seen) (hD : IsMap D) (s : ByteArray) (d : DataW Unit) : Seen (D.put (keyZ s) d) (seen ++ [nums s]) := by
  intro u
  by_cases e : nums u = nums s
  · have e2 := nums_inj e
    subst e2
    rw [has_put_same hD (by unfold keyZ; trivial)]
    simp
  · rw [has_put_other (fun q => e (keyZ_inj q)), h u]
    rw [Bool.eq_iff_iff]
    simp [e]
set_option maxHeartbeats 4000000 in
set_option maxRecDepth 100000 in
theorem right_any (ty sub : ByteArray) (a : Option Addr) (n c : Nat) (fs : List (ByteArray × ByteArray)) (w : World) (hn : fs.length = n) (hr : FRow w a fs) (h1 : ty.size ≤ 1000000000) (h2 : sub.size ≤ 1000000000) (hf : ∀ f ∈ fs, f.1.size ≤ 1000000000 ∧ f.2.size ≤ 1000000000) :
    Calls Tryd.prog 17 #[kindV ty sub a n c] w fun e w' => e = .returned (.bool (rightZ (nums ty) (nums sub) (numsP fs))) ∧ Below w.heap.size w w' := by
  have HR : Hid (FRow w a fs) := hr
  have HF : Hid (∀ f ∈ fs, f.1.size ≤ 1000000000 ∧ f.2.size ≤ 1000000000) := hf
  have hmm := @run_makeMap Tryd.prog
  have HL : Hid ((numsP fs).length = n) := by unfold Hid numsP; rw [List.length_map]; exact hn
  unfold kindV
  clear hr hf
  cases hty : nameZ (nums ty) with
  | false =>
    have HZ : Hid (rightZ (nums ty) (nums sub) (numsP fs) = false) := by unfold Hid rightZ; rw [hty]; rfl
    go_enter Tryd.func17, Tryd.ntmps17
    go_wp2_with (go_at_call 34; refine (isName_any ty _ h1).mono ?_; rintro e w1 ⟨rfl, hb1⟩; rw [hty])
    go_ret
    exact ⟨ret_bool HZ.out.symm, (keep w _).trans (hb1.mono (by simp))⟩
  | true =>
    go_enter Tryd.func17, Tryd.ntmps17
    go_wp2_with fail
    refine (isName_any ty _ h1).mono ?_
    rintro e w1 ⟨rfl, hb1⟩
    rw [hty]
    have HB1 : Hid (Below w.heap.size w w1) := (keep w _).trans (hb1.mono (by simp))
    have c1 : w1.cell? ⟨w.heap.size, 1, none⟩ = some (.string sub) := by rw [hb1.cell (p := ⟨w.heap.size, 1, none⟩) (by simp)]; rw [World.cell?_alloc_mark]; rfl
    have c2 : w1.cell? ⟨w.heap.size, 2, none⟩ = some (.slice a n c) := by rw [hb1.cell (p := ⟨w.heap.size, 2, none⟩) (by simp)]; rw [World.cell?_alloc_mark]; rfl
    clear hb1
    go_wp2_with fail
    refine (isName_any sub _ h2).mono ?_
    rintro e w2 ⟨rfl, hb2⟩
    have d2 : w2.cell? ⟨w.heap.size, 2, none⟩ = some (.slice a n c) := by rw [hb2.cell (p := ⟨w.heap.size, 2, none⟩) (World.block_lt_of_cell? w1 _ c2)]; exact c2
    have HB2 : Hid (Below w.heap.size w w2) := HB1.out.trans (hb2.mono HB1.out.size)
    have hs2 : w.heap.size < w2.heap.size := World.block_lt_of_cell? w2 _ d2
    clear hb2 c1 c2 HB1
    cases hsub : nameZ (nums sub) with
    | false =>
      have HZ : Hid (rightZ (nums ty) (nums sub) (numsP fs) = false) := by unfold Hid rightZ; rw [hty, hsub]; rfl
      go_wp2
      go_ret
      exact ⟨ret_bool HZ.out.symm, HB2.out⟩
    | true =>
      by_cases h16 : 16 < n
      · have hd : decide ((n : Int) > 16) = true := by simp; omega
        have HZ : Hid (rightZ (nums ty) (nums sub) (numsP fs) = false) := by unfold Hid rightZ; rw [HL.out, decide_eq_false (by omega)]; simp
        go_wp2
        go_ret
        exact ⟨ret_bool HZ.out.symm, HB2.out⟩
      · have hd : decide ((n : Int) > 16) = false := by simp; omega
        have HZ : Hid (rightZ (nums ty) (nums sub) (numsP fs) = rightL [] (numsP fs)) := by unfold Hid rightZ; rw [hty, hsub, HL.out, decide_eq_true (by omega)]; rfl
        go_wp2
        go_loopw [28] (fun i wr => ∃ (k : Nat) (D : DataW Unit) (seen : List (List Int)), i = .int .i64 k ∧ k ≤ n ∧ wr.ownsMap Tryd.prog 9 (plainElem Tryd.prog 3) w2.heap.size k D ∧ Seen D seen ∧ rightL seen (numsP (fs.drop k)) = rightL [] (numsP fs) ∧ Below w.heap.size w wr ∧ w2.heap.size < wr.heap.size) (fun i _ => n - (intOf i).toNat)
        case atStart => exact ⟨0, _, [], rfl, by omega, World.ownsMap_made _ _ _ _, fun s => rfl, rfl, HB2.out.alloc HB2.out.size _, by simp⟩
        case round =>
          obtain ⟨k, D, seen, rfl, hk, hown, hseen, hrl, hb, hws⟩ := hrel
          have HRL : Hid (rightL seen (numsP (fs.drop k)) = rightL [] (numsP fs)) := hrl
          have HB : Hid (Below w.heap.size w wr) := hb
          have HO : Hid (wr.ownsMap Tryd.prog 9 (plainElem Tryd.prog 3) w2.heap.size k D) := hown
          have HS : Hid (Seen D seen) := hseen
          have hrw := HR.out.below hb
          have hsz := hb.size
          clear hrl hb hown hseen d2
          by_cases hlt : k < n
          · obtain ⟨f, hfk⟩ : ∃ f, fs[k]? = some f := ⟨_, List.getElem?_eq_getElem (by omega)⟩
            have HD : Hid (fs.drop k = f :: fs.drop (k + 1)) := by
              unfold Hid
              rw [List.drop_eq_getElem_cons (by omega)]
              rw [List.getElem?_eq_getElem (by omega)] at hfk
              simp only [Option.some.injEq] at hfk
              rw [hfk]
            have hfz := HF.out f (List.mem_of_getElem? hfk)
            obtain ⟨nm, vl⟩ := f
            obtain ⟨hz1, hz2⟩ := hfz
            rcases hrw with h | ⟨b, off, rfl, h⟩
            · rw [h] at hn; simp at hn; omega
            obtain ⟨hc1, hc2⟩ := h k _ hfk
            clear h hfk
            simp only at hc1 hc2 hz1 hz2
            have hkey : keyOf Tryd.prog 9 (.string nm) = some (keyZ nm) := Go.WideMaps.keyOf_string_mk Tryd.underlying9 (by unfold maxLen; omega)
            have HQ : Hid (rightL [] (numsP fs) = (!seen.contains (nums nm) && nameZ (nums nm) && valueZ (nums vl) && rightL (seen ++ [nums nm]) (numsP (fs.drop (k + 1))))) := by
              unfold Hid; rw [← HRL.out, HD.out]; rfl
            have HHas : Hid (Maps.has D (keyZ nm) = seen.contains (nums nm)) := HS.out nm
            cases hct : seen.contains (nums nm) with
            | true =>
              have HX : Hid (rightL [] (numsP fs) = false) := by unfold Hid; rw [HQ.out, hct]; rfl
              go_wp2_with (at_lookup; refine wpList_lookup_own_ok_int _ rfl _ _ 53 rfl 9 3 .i64 law9 Tryd.underlying53 Tryd.underlying3 (zero3 _) w2.heap.size k D rfl (HO.out.alloc _) _ _ rfl hkey ?_; intro cc hat hwc; rw [HHas.out, hct])
              go_ret
              exact ⟨ret_bool (by rw [HZ.out, HX.out]), HB.out.alloc hsz _⟩
            | false =>
              go_wp2_with (at_lookup; refine wpList_lookup_own_ok_int _ rfl _ _ 53 rfl 9 3 .i64 law9 Tryd.underlying53 Tryd.underlying3 (zero3 _) w2.heap.size k D rfl (HO.out.alloc _) _ _ rfl hkey ?_; intro cc hat hwc; rw [HHas.out, hct])
              refine (isName_any nm _ hz1).mono ?_
              rintro e w3 ⟨rfl, hb3⟩
              clear hat hwc hc1 hc2
              have HB3 : Hid (Below w.heap.size w w3) := (HB.out.alloc hsz _).trans (hb3.mono (by simp; omega))
              have e0 : w3.cell? ⟨wr.heap.size, 0, none⟩ = some (.string nm) := by rw [hb3.cell (p := ⟨wr.heap.size, 0, none⟩) (by simp)]; rw [World.cell?_alloc_mark]; rfl
              have e1 : w3.cell? ⟨wr.heap.size, 1, none⟩ = some (.string vl) := by rw [hb3.cell (p := ⟨wr.heap.size, 1, none⟩) (by simp)]; rw [World.cell?_alloc_mark]; rfl
              have HO3 : Hid (w3.ownsMap Tryd.prog 9 (plainElem Tryd.prog 3) w2.heap.size k D) := map_below (HO.out.alloc _) hb3
              have hs3 : wr.heap.size < w3.heap.size := World.block_lt_of_cell? w3 _ e0
              clear hb3
              cases hnz : nameZ (nums nm) with
              | false =>
                have HX : Hid (rightL [] (numsP fs) = false) := by unfold Hid; rw [HQ.out, hnz]; simp
                go_wp2
                go_ret
                exact ⟨ret_bool (by rw [HZ.out, HX.out]), HB3.out⟩
              | true =>
                cases hvz : valueZ (nums vl) with
                | false =>
                  have HX : Hid (rightL [] (numsP fs) = false) := by unfold Hid; rw [HQ.out, hvz]; simp
                  go_wp2_with (go_at_call 35; refine (isValue_any vl _ hz2).mono ?_; rintro e w4 ⟨rfl, rfl⟩; rw [hvz])
                  go_ret
                  exact ⟨ret_bool (by rw [HZ.out, HX.out]), HB3.out⟩
                | true =>
                  have HX : Hid (rightL [] (numsP fs) = rightL (seen ++ [nums nm]) (numsP (fs.drop (k + 1)))) := by unfold Hid; rw [HQ.out, hct, hnz, hvz]; rfl
                  go_wp2_with (first
                    | (go_at_call 35; refine (isValue_any vl _ hz2).mono ?_; rintro e w4 ⟨rfl, rfl⟩; rw [hvz])
                    | (at_mapUpdate; refine wpList_mapUpdate_own _ rfl _ _ _ 53 rfl 9 3 law9 Tryd.underlying53 (plainElem (H := Unit) Tryd.prog 3) w2.heap.size k D rfl HO3.out (by unfold maxLen; omega) _ _ _ rfl rfl hkey _ [] (plainElem_int Tryd.underlying3 (WalkArith.wf_i64 (by omega))) ?_; intro w5 hown5 hgrow5))
                  have HB5 : Hid (Below w.heap.size w w5) := HB3.out.grown hgrow5 HB3.out.size (fun j hj => by cases hj; omega)
                  have hs5 := hgrow5.size
                  go_wp2
                  go_roundw
                  case rel => exact ⟨k + 1, _, _, by go_num, by omega, hown5, seen_put HS.out HO3.out.isMap nm _, HX.out.symm, HB5.out, by omega⟩
                  case measure => simp [intOf]; omega
          · obtain rfl : k = n := by omega
            have HX : Hid (rightL [] (numsP fs) = true) := by
              unfold Hid; rw [← HRL.out, List.drop_of_length_le (by omega)]; rfl
            go_wp2
            go_ret
            exact ⟨ret_bool (by rw [HZ.out, HX.out]), HB.out⟩
end Go.Proofs.YtfhgkkdbkbbpkaaDoor
