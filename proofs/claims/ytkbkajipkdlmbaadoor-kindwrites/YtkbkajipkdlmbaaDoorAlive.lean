/-
  The contracts of the reference's Same, of Great, and what must come of fixed calls.
-/
import Derived.Test.YtkbkajipkdlmbaaDoorRead
import Derived.Test.YtkbkajipkdlmbaaDoorWr
namespace Go.Proofs.YtkbkajipkdlmbaaDoor
open Go.RowKit
set_option linter.unusedVariables false

set_option maxHeartbeats 2000000 in
theorem sameP_any (a b : Option Addr) (n m c d : Nat) (fs gs : List (ByteArray × ByteArray)) (w : World) (hn : fs.length = n) (hm : gs.length = m) (hbig : n ≤ 9223372036854775807) (hr : FRow w a fs) (hr2 : FRow w b gs) (he : fs = gs) :
    Calls Tryd.prog 31 #[.slice a n c, .slice b m d] w fun e w' => e = .returned (.bool true) ∧ Below w.heap.size w w' := by
  subst he
  obtain rfl : n = m := by omega
  have HR : Hid (FRow w a fs) := hr
  have HR2 : Hid (FRow w b fs) := hr2
  clear hr hr2
  go_enter Tryd.func31, Tryd.ntmps31
  go_wp2
  go_loopw [5] (fun i wr => ∃ (k q : Nat), i = .int .i64 k ∧ k ≤ n ∧ wr = w.drewN q) (fun i _ => n - (intOf i).toNat)
  case atStart => exact ⟨0, 0, rfl, by omega, rfl⟩
  case round =>
    obtain ⟨k, q, rfl, hk, rfl⟩ := hrel
    by_cases hlt : k < n
    · obtain ⟨f, hfk⟩ : ∃ f, fs[k]? = some f := ⟨_, List.getElem?_eq_getElem (by omega)⟩
      obtain ⟨nm, vl⟩ := f
      rcases HR.out with h | ⟨b1, off1, rfl, h⟩
      · rw [h] at hn; simp at hn; omega
      rcases HR2.out with h' | ⟨b2, off2, rfl, h'⟩
      · rw [h'] at hn; simp at hn; omega
      obtain ⟨hc1, hc2⟩ := h k _ hfk
      obtain ⟨hd1, hd2⟩ := h' k _ hfk
      simp only at hc1 hc2 hd1 hd2
      clear h h' hfk
      have x1 : (w.drewN q).cell? ⟨b1, off1 + k * 2, none⟩ = some (.string nm) := hc1
      have x2 : (w.drewN q).cell? ⟨b1, off1 + k * 2 + 1, none⟩ = some (.string vl) := hc2
      have x3 : (w.drewN q).cell? ⟨b2, off2 + k * 2, none⟩ = some (.string nm) := hd1
      have x4 : (w.drewN q).cell? ⟨b2, off2 + k * 2 + 1, none⟩ = some (.string vl) := hd2
      go_wp2
      go_quiet (fail)
      go_wp2
      go_roundw
      case rel => exact ⟨k + 1, q + nq, by go_num, by omega, by simp [World.drewN]⟩
      case measure => simp [intOf]; omega
    · go_wp2
      go_ret
      exact ⟨rfl, rfl, rfl, rfl, Nat.le_refl _, fun _ _ => rfl⟩
theorem numsP_inj : ∀ {fs gs : List (ByteArray × ByteArray)}, numsP fs = numsP gs → fs = gs
  | [], [], _ => rfl
  | [], g :: gs, h => by simp [numsP] at h
  | f :: fs, [], h => by simp [numsP] at h
  | f :: fs, g :: gs, h => by
    simp only [numsP, List.map_cons, List.cons.injEq, Prod.mk.injEq] at h
    have := numsP_inj (fs := fs) (gs := gs) h.2
    rw [this, Prod.ext (nums_inj h.1.1) (nums_inj h.1.2)]
theorem same_any (t1 s1 t2 s2 : ByteArray) (a b : Option Addr) (c d : Nat) (fs gs : List (ByteArray × ByteArray)) (w : World) (h1 : nums t1 = nums t2) (h2 : nums s1 = nums s2) (he : numsP fs = numsP gs) (hbig : fs.length ≤ 9223372036854775807) (hr : FRow w a fs) (hr2 : FRow w b gs) :
    Calls Tryd.prog 19 #[kindV t1 s1 a fs.length c, kindV t2 s2 b gs.length d] w fun e w' => e = .returned (.bool true) ∧ Below w.heap.size w w' := by
  obtain rfl := nums_inj h1
  obtain rfl := nums_inj h2
  obtain rfl := numsP_inj he
  have hcall := sameP_any a b fs.length fs.length c d fs fs ((w.alloc (.cells #[.string t1, .string s1, .slice a fs.length c] 24)).alloc (.cells #[.string t1, .string s1, .slice b fs.length d] 24)) rfl rfl hbig ((hr.below (keep w _)).below (keep _ _)) ((hr2.below (keep w _)).below (keep _ _)) rfl
  clear h1 h2 he hr hr2
  unfold kindV
  go_enter Tryd.func19, Tryd.ntmps19
  go_wp2_with (go_at_call 31; refine hcall.mono ?_; rintro e w1 ⟨rfl, hb⟩)
  go_ret
  exact ⟨rfl, ((keep w _).alloc (by simp) _).trans (hb.mono (by simp; omega))⟩
/-- Great. -/
def greatL : List (ByteArray × ByteArray) → Bool
  | [] => false
  | f :: r => decide (600 < f.1.size + f.2.size) || greatL r
def greatZ (ty sub : ByteArray) (fs : List (ByteArray × ByteArray)) : Bool := decide (40 < fs.length) || decide (300 < ty.size + sub.size) || greatL fs
theorem great_mem {ty sub : ByteArray} {fs : List (ByteArray × ByteArray)} (h : greatZ ty sub fs = false) : fs.length ≤ 40 ∧ ty.size + sub.size ≤ 300 ∧ ∀ f ∈ fs, f.1.size + f.2.size ≤ 600 := by
  have key : ∀ l : List (ByteArray × ByteArray), greatL l = false → ∀ f ∈ l, f.1.size + f.2.size ≤ 600 := by
    intro l
    induction l with
    | nil => intro _ f hf; cases hf
    | cons g r ih =>
      intro hk f hf
      simp only [greatL, Bool.or_eq_false_iff, decide_eq_false_iff_not] at hk
      rcases List.mem_cons.1 hf with rfl | hf
      · omega
      · exact ih hk.2 f hf
  simp only [greatZ, Bool.or_eq_false_iff, decide_eq_false_iff_not] at h
  exact ⟨by omega, by omega, key fs h.2⟩
set_option maxHeartbeats 4000000 in
theorem great_any (ty sub : ByteArray) (a : Option Addr) (n c : Nat) (fs : List (ByteArray × ByteArray)) (w : World) (hn : fs.length = n) (hbig : n ≤ 9223372036854775807) (hr : FRow w a fs) (h1 : ty.size ≤ 140737488355328) (h2 : sub.size ≤ 140737488355328) (hf : ∀ f ∈ fs, f.1.size ≤ 140737488355328 ∧ f.2.size ≤ 140737488355328) :
    Calls Tryd.prog 8 #[kindV ty sub a n c] w fun e w' => e = .returned (.bool (greatZ ty sub fs)) ∧ Below w.heap.size w w' := by
  have HR : Hid (FRow w a fs) := hr
  have HF : Hid (∀ f ∈ fs, f.1.size ≤ 140737488355328 ∧ f.2.size ≤ 140737488355328) := hf
  clear hr hf
  unfold kindV
  by_cases h40 : 40 < n
  · have hd : decide ((n : Int) > 40) = true := by simp; omega
    have HZ : Hid (greatZ ty sub fs = true) := by unfold Hid greatZ; rw [hn, decide_eq_true h40]; rfl
    go_enter Tryd.func8, Tryd.ntmps8
    go_wp2
    go_ret
    exact ⟨ret_bool HZ.out.symm, keep w _⟩
  have hd : decide ((n : Int) > 40) = false := by simp; omega
  by_cases h300 : 300 < ty.size + sub.size
  · have HZ : Hid (greatZ ty sub fs = true) := by unfold Hid greatZ; rw [decide_eq_true h300]; simp
    have hd4 : decide ((ty.size : Int) + (sub.size : Int) > 300) = true := by simp; omega
    go_enter Tryd.func8, Tryd.ntmps8
    go_wp2
    go_ret
    exact ⟨ret_bool HZ.out.symm, keep w _⟩
  have hd4 : decide ((ty.size : Int) + (sub.size : Int) > 300) = false := by simp; omega
  have HZ : Hid (greatZ ty sub fs = greatL fs) := by unfold Hid greatZ; rw [hn, decide_eq_false h40, decide_eq_false h300]; rfl
  go_enter Tryd.func8, Tryd.ntmps8
  go_wp2
  go_loopw [3] (fun i wr => ∃ (k q : Nat), i = .int .i64 k ∧ k ≤ n ∧ greatL (fs.drop k) = greatL fs ∧ wr = (w.alloc (.cells #[.string ty, .string sub, .slice a n c] 24)).drewN q) (fun i _ => n - (intOf i).toNat)
  case atStart => exact ⟨0, 0, rfl, by omega, rfl, rfl⟩
  case round =>
    obtain ⟨k, q, rfl, hk, hg, rfl⟩ := hrel
    have HG : Hid (greatL (fs.drop k) = greatL fs) := hg
    clear hg
    have hrw : FRow ((w.alloc (.cells #[.string ty, .string sub, .slice a n c] 24)).drewN q) a fs := HR.out.below (below_drewN (keep w _) q)
    have x2 : ((w.alloc (.cells #[.string ty, .string sub, .slice a n c] 24)).drewN q).cell? ⟨w.heap.size, 2, none⟩ = some (.slice a n c) := by
      show (w.alloc (.cells #[.string ty, .string sub, .slice a n c] 24)).cell? _ = _
      rw [World.cell?_alloc_mark]; rfl
    have HB : Hid (∀ q, Below w.heap.size w ((w.alloc (.cells #[.string ty, .string sub, .slice a n c] 24)).drewN q)) := fun q => below_drewN (keep w _) q
    by_cases hlt : k < n
    · obtain ⟨f, hfk⟩ : ∃ f, fs[k]? = some f := ⟨_, List.getElem?_eq_getElem (by omega)⟩
      have HD : Hid (fs.drop k = f :: fs.drop (k + 1)) := by
        unfold Hid
        rw [List.drop_eq_getElem_cons (by omega)]
        rw [List.getElem?_eq_getElem (by omega)] at hfk
        simp only [Option.some.injEq] at hfk
        rw [hfk]
      have hfz := HF.out f (List.mem_of_getElem? hfk)
      obtain ⟨nm, vl⟩ := f
      obtain ⟨hz1, hz2⟩ := hfz
      rcases hrw with h | ⟨b, off, rfl, h⟩
      · rw [h] at hn; simp at hn; omega
      obtain ⟨hc1, hc2⟩ := h k _ hfk
      clear h hfk
      simp only at hc1 hc2 hz1 hz2
      generalize (w.alloc (.cells #[.string ty, .string sub, .slice (some ⟨b, off, none⟩) n c] 24)) = W at hc1 hc2 x2 HB ⊢
      have y1 : W.cell? ⟨b, off + k * 2, none⟩ = some (.string nm) := hc1
      have y2 : W.cell? ⟨b, off + k * 2 + 1, none⟩ = some (.string vl) := hc2
      have y3 : W.cell? ⟨w.heap.size, 2, none⟩ = some (.slice (some ⟨b, off, none⟩) n c) := x2
      by_cases h600 : 600 < nm.size + vl.size
      · have hd6 : decide ((nm.size : Int) + (vl.size : Int) > 600) = true := by simp; omega
        have HX : Hid (greatL fs = true) := by unfold Hid; rw [← HG.out, HD.out, greatL, decide_eq_true h600]; rfl
        go_wp2
        go_quiet (fail)
        go_wp2
        go_ret
        exact ⟨ret_bool (by rw [HZ.out, HX.out]), below_drewN (HB.out q) nq⟩
      · have hd6 : decide ((nm.size : Int) + (vl.size : Int) > 600) = false := by simp; omega
        have HX : Hid (greatL (fs.drop (k + 1)) = greatL fs) := by unfold Hid; rw [← HG.out, HD.out, greatL, decide_eq_false h600]; rfl
        go_wp2
        go_quiet (fail)
        go_wp2
        go_roundw
        case rel => exact ⟨k + 1, q + nq, by go_num, by omega, HX.out, by simp [World.drewN]⟩
        case measure => simp [intOf]; omega
    · obtain rfl : k = n := by omega
      have HX : Hid (greatL fs = false) := by unfold Hid; rw [← HG.out, List.drop_of_length_le (by omega)]; rfl
      clear hrw
      go_wp2
      go_ret
      exact ⟨ret_bool (by rw [HZ.out, HX.out]), HB.out q⟩
def alT : ByteArray := ⟨#[84, 101, 120, 116, 47, 67, 97, 108, 101, 110, 100, 97, 114, 59, 32, 77, 69, 84, 72, 79, 68, 61, 34, 82, 69, 80, 76, 89, 34]⟩
theorem al_read1 : readR (nums alT) = some ([116, 101, 120, 116], [99, 97, 108, 101, 110, 100, 97, 114], [([109, 101, 116, 104, 111, 100], [82, 69, 80, 76, 89])]) := by decide +kernel
theorem al_read2 : readR (nums ⟨#[116, 101, 120, 116]⟩) = none := by decide +kernel
theorem getZ_one {f : ByteArray × ByteArray} {nm : List Int} (h : nums f.1 = nm) : getZ nm [f] = (f.2, true) := by rw [getZ, if_pos h]
set_option maxRecDepth 100000 in
set_option maxHeartbeats 4000000 in
theorem alive_any (w : World) : Calls Tryd.prog 9 #[] w fun e w' => e = .returned (.bool true) ∧ Below w.heap.size w w' := by
  have hread := read_any alT w (by decide)
  rw [al_read1] at hread
  unfold alT at hread
  go_enter Tryd.func9, Tryd.ntmps9
  go_wp2_with fail
  refine hread.mono ?_
  clear hread
  rintro e w1 ⟨ty, sub, a, cap, fs, c, rfl, hfr, ⟨hz1, hz2, hz3⟩, hb1, hans⟩
  unfold Small at hz1 hz2
  have HB1 : Hid (Below w.heap.size w w1) := hb1
  have hw1 := hb1.size
  rcases hans with ⟨h, _⟩ | ⟨h, rfl⟩
  · cases h
  simp only [Option.some.injEq, Prod.mk.injEq] at h
  obtain ⟨hty, hsub, hps⟩ := h
  obtain ⟨f, rfl⟩ : ∃ f, fs = [f] := by
    cases fs with
    | nil => simp [numsP] at hps
    | cons f r =>
      cases r with
      | nil => exact ⟨f, rfl⟩
      | cons g r => simp [numsP] at hps
  simp only [numsP, List.map_cons, List.map_nil, List.cons.injEq, Prod.mk.injEq, and_true] at hps
  have HG : Hid (getZ (nums ⟨#[109, 101, 116, 104, 111, 100]⟩) [f] = (f.2, true)) := getZ_one (by rw [← hps.1]; decide +kernel)
  have hv : (f.2.toList == [82, 69, 80, 76, 89]) = true := by
    have e := eq_nums f.2 ⟨#[82, 69, 80, 76, 89]⟩
    rw [decide_eq_true (by rw [← hps.2]; decide +kernel)] at e
    rw [ByteArray.toList_eq (⟨#[82, 69, 80, 76, 89]⟩)] at e
    exact e
  have HI : Hid (decide (nums (⟨#[116, 101, 120, 116, 47, 99, 97, 108, 101, 110, 100, 97, 114]⟩ : ByteArray) = nums ty ++ 47 :: nums sub) = true) := by
    unfold Hid; rw [← hty, ← hsub]; decide +kernel
  have HF : Hid (FRow w1 a [f]) := hfr
  clear hfr hb1 hps hty hsub
  unfold kindV
  simp only [List.length_cons, List.length_nil, Nat.zero_add]
  have hget := get_any ty sub a 1 cap ⟨#[109, 101, 116, 104, 111, 100]⟩ [f] (w1.alloc (.cells #[.string ty, .string sub, .slice a 1 cap] 24)) rfl (by omega) (HF.out.below (keep w1 _))
  rw [HG.out] at hget
  unfold kindV at hget
  go_wp2_with fail
  refine hget.mono ?_
  clear hget
  rintro e w2 ⟨rfl, hb2⟩
  have HB2 : Hid (Below w.heap.size w w2) := (HB1.out.alloc hw1 _).trans (hb2.mono (by simp; omega))
  have hw2 := HB2.out.size
  have hlt2 : w1.heap.size < w2.heap.size := by have := hb2.size; simp at this; omega
  have x0 : w2.cell? ⟨w1.heap.size, 0, none⟩ = some (.string ty) := by rw [hb2.cell (p := ⟨w1.heap.size, 0, none⟩) (by simp)]; rw [World.cell?_alloc_mark]; rfl
  have x1 : w2.cell? ⟨w1.heap.size, 1, none⟩ = some (.string sub) := by rw [hb2.cell (p := ⟨w1.heap.size, 1, none⟩) (by simp)]; rw [World.cell?_alloc_mark]; rfl
  have x2 : w2.cell? ⟨w1.heap.size, 2, none⟩ = some (.slice a 1 cap) := by rw [hb2.cell (p := ⟨w1.heap.size, 2, none⟩) (by simp)]; rw [World.cell?_alloc_mark]; rfl
  clear hb2
  have hread2 := read_any ⟨#[116, 101, 120, 116]⟩ w2 (by decide)
  rw [al_read2] at hread2
  go_wp2_with fail
  refine hread2.mono ?_
  clear hread2
  rintro e w3 ⟨ty3, sub3, a3, cap3, fs3, c3, rfl, hfr3, _, hb3, hans3⟩
  rcases hans3 with ⟨_, rfl, rfl, rfl, rfl⟩ | ⟨h, _⟩
  case inr => cases h
  have HB3 : Hid (Below w.heap.size w w3) := HB2.out.trans (hb3.mono hw2)
  have hw3 := HB3.out.size
  have y0 : w3.cell? ⟨w1.heap.size, 0, none⟩ = some (.string ty) := (hb3.cell (p := ⟨w1.heap.size, 0, none⟩) hlt2).trans x0
  have y1 : w3.cell? ⟨w1.heap.size, 1, none⟩ = some (.string sub) := (hb3.cell (p := ⟨w1.heap.size, 1, none⟩) hlt2).trans x1
  have y2 : w3.cell? ⟨w1.heap.size, 2, none⟩ = some (.slice a 1 cap) := (hb3.cell (p := ⟨w1.heap.size, 2, none⟩) hlt2).trans x2
  have hlt3 : w1.heap.size < w3.heap.size := by have := hb3.size; omega
  clear hb3 x0 x1 x2
  unfold kindV
  have his := fun W => is_any ty sub a 1 cap ⟨#[116, 101, 120, 116, 47, 99, 97, 108, 101, 110, 100, 97, 114]⟩ W hz1 hz2
  rw [HI.out] at his
  unfold kindV at his
  go_wp2_with (go_at_call 16; refine (his _).mono ?_; rintro e w4 ⟨rfl, hb4⟩)
  go_ret
  exact ⟨rfl, (HB3.out.alloc hw3 _).trans (hb4.mono (by simp; omega))⟩
end Go.Proofs.YtkbkajipkdlmbaaDoor
