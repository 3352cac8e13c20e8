/-
  The reference's Same; Great; which Values stay.
-/
import Derived.Test.YtfhgkkdbkbbpkaaDoorWr
namespace Go.Proofs.YtfhgkkdbkbbpkaaDoor
open Go.RowKit
set_option linter.unusedVariables false
set_option linter.unusedSimpArgs false

set_option maxHeartbeats 2000000 in
theorem sameP_any (a b : Option Addr) (n m c d : Nat) (fs gs : List (ByteArray × ByteArray)) (w : World) (hn : fs.length = n) (hm : gs.length = m) (hbig : n ≤ 9223372036854775807) (hr : FRow w a fs) (hr2 : FRow w b gs) (he : fs = gs) :
    Calls Tryd.prog 28 #[.slice a n c, .slice b m d] w fun e w' => e = .returned (.bool true) ∧ Below w.heap.size w w' := by
  subst he
  obtain rfl : n = m := by omega
  have HR : Hid (FRow w a fs) := hr
  have HR2 : Hid (FRow w b fs) := hr2
  clear hr hr2
  go_enter Tryd.func28, Tryd.ntmps28
  go_wp2
  go_loopw [5] (fun i wr => ∃ (k q : Nat), i = .int .i64 k ∧ k ≤ n ∧ wr = w.drewN q) (fun i _ => n - (intOf i).toNat)
  case atStart => exact ⟨0, 0, rfl, by omega, rfl⟩
  case round =>
    obtain ⟨k, q, rfl, hk, rfl⟩ := hrel
    by_cases hlt : k < n
    · obtain ⟨f, hfk⟩ : ∃ f, fs[k]? = some f := ⟨_, List.getElem?_eq_getElem (by omega)⟩
      obtain ⟨nm, vl⟩ := f
      rcases HR.out with h | ⟨b1, off1, rfl, h⟩
      · rw [h] at hn; simp at hn; omega
      rcases HR2.out with h' | ⟨b2, off2, rfl, h'⟩
      · rw [h'] at hn; simp at hn; omega
      obtain ⟨hc1, hc2⟩ := h k _ hfk
      obtain ⟨hd1, hd2⟩ := h' k _ hfk
      simp only at hc1 hc2 hd1 hd2
      clear h h' hfk
      have x1 : (w.drewN q).cell? ⟨b1, off1 + k * 2, none⟩ = some (.string nm) := hc1
      have x2 : (w.drewN q).cell? ⟨b1, off1 + k * 2 + 1, none⟩ = some (.string vl) := hc2
      have x3 : (w.drewN q).cell? ⟨b2, off2 + k * 2, none⟩ = some (.string nm) := hd1
      have x4 : (w.drewN q).cell? ⟨b2, off2 + k * 2 + 1, none⟩ = some (.string vl) := hd2
      go_wp2
      go_quiet (fail)
      go_wp2
      go_roundw
      case rel => exact ⟨k + 1, q + nq, by go_num, by omega, by simp [World.drewN]⟩
      case measure => simp [intOf]; omega
    · go_wp2
      go_ret
      exact ⟨rfl, rfl, rfl, rfl, Nat.le_refl _, fun _ _ => rfl⟩
theorem numsP_inj : ∀ {fs gs : List (ByteArray × ByteArray)}, numsP fs = numsP gs → fs = gs
  | [], [], _ => rfl
  | [], g :: gs, h => by simp [numsP] at h
  | f :: fs, [], h => by simp [numsP] at h
  | f :: fs, g :: gs, h => by
    simp only [numsP, List.map_cons, List.cons.injEq, Prod.mk.injEq] at h
    have := numsP_inj (fs := fs) (gs := gs) h.2
    rw [this, Prod.ext (nums_inj h.1.1) (nums_inj h.1.2)]
theorem same_any (t1 s1 t2 s2 : ByteArray) (a b : Option Addr) (c d : Nat) (fs gs : List (ByteArray × ByteArray)) (w : World) (h1 : nums t1 = nums t2) (h2 : nums s1 = nums s2) (he : numsP fs = numsP gs) (hbig : fs.length ≤ 9223372036854775807) (hr : FRow w a fs) (hr2 : FRow w b gs) :
    Calls Tryd.prog 12 #[kindV t1 s1 a fs.length c, kindV t2 s2 b gs.length d] w fun e w' => e = .returned (.bool true) ∧ Below w.heap.size w w' := by
  obtain rfl := nums_inj h1
  obtain rfl := nums_inj h2
  obtain rfl := numsP_inj he
  have hcall := sameP_any a b fs.length fs.length c d fs fs ((w.alloc (.cells #[.string t1, .string s1, .slice a fs.length c] 24)).alloc (.cells #[.string t1, .string s1, .slice b fs.length d] 24)) rfl rfl hbig ((hr.below (keep w _)).below (keep _ _)) ((hr2.below (keep w _)).below (keep _ _)) rfl
  clear h1 h2 he hr hr2
  unfold kindV
  go_enter Tryd.func12, Tryd.ntmps12
  go_wp2_with (go_at_call 28; refine hcall.mono ?_; rintro e w1 ⟨rfl, hb⟩)
  go_ret
  exact ⟨rfl, ((keep w _).alloc (by simp) _).trans (hb.mono (by simp; omega))⟩
set_option maxRecDepth 100000 in
set_option maxHeartbeats 8000000 in
theorem great_any (ty sub : ByteArray) (a : Option Addr) (n c : Nat) (fs : List (ByteArray × ByteArray)) (w : World) (hn : fs.length = n) (hbig : n ≤ 9223372036854775807) (hr : FRow w a fs) (h1 : ty.size ≤ 140737488355328) (h2 : sub.size ≤ 140737488355328) (hf : ∀ f ∈ fs, f.1.size ≤ 140737488355328 ∧ f.2.size ≤ 140737488355328) :
    Calls Tryd.prog 8 #[kindV ty sub a n c] w fun e w' => ∃ g : Bool, e = .returned (.bool g) ∧ (g = false → n ≤ 40 ∧ ty.size + sub.size ≤ 300 ∧ ∀ f ∈ fs, f.1.size ≤ 200 ∧ f.2.size ≤ 2100) ∧ Below w.heap.size w w' := by
  have HR : Hid (FRow w a fs) := hr
  have HF : Hid (∀ f ∈ fs, f.1.size ≤ 140737488355328 ∧ f.2.size ≤ 140737488355328) := hf
  clear hr hf
  unfold kindV
  go_enter Tryd.func8, Tryd.ntmps8
  by_cases g1 : 40 < n
  · have d1 : decide ((n : Int) > 40) = true := decide_eq_true (by omega)
    go_wp2
    go_ret
    exact ⟨true, rfl, fun h => (by cases h), keep w _⟩
  · have d1 : decide ((n : Int) > 40) = false := decide_eq_false (by omega)
    by_cases g2 : 300 < ty.size + sub.size
    · have d2 : decide ((ty.size : Int) + (sub.size : Int) > 300) = true := decide_eq_true (by omega)
      go_wp2
      go_ret
      exact ⟨true, rfl, fun h => (by cases h), keep w _⟩
    · have d2 : decide ((ty.size : Int) + (sub.size : Int) > 300) = false := decide_eq_false (by omega)
      go_wp2
      have g0 : (w.alloc (.cells #[.string ty, .string sub, .slice a n c] 24)).cell? ⟨w.heap.size, 2, none⟩ = some (.slice a n c) := by rw [World.cell?_alloc_mark]; rfl
      have hkp := keep w (.cells #[.string ty, .string sub, .slice a n c] 24)
      obtain ⟨X, hX⟩ : ∃ X, w.alloc (.cells #[.string ty, .string sub, .slice a n c] 24) = X := ⟨_, rfl⟩
      rw [hX] at g0 hkp ⊢
      clear hX
      go_loopw [3] (fun i wr => ∃ (k : Nat), i = .int .i64 k ∧ k ≤ n ∧ wr = X ∧ Hid (∀ f ∈ fs.take k, f.1.size ≤ 200 ∧ f.2.size ≤ 2100)) (fun i _ => n - (intOf i).toNat)
      case atStart => exact ⟨0, rfl, by omega, rfl, by unfold Hid; simp⟩
      case round =>
        obtain ⟨k, rfl, hk, rfl, HT⟩ := hrel
        by_cases hlt : k < n
        · obtain ⟨f, hfk⟩ : ∃ f, fs[k]? = some f := ⟨_, List.getElem?_eq_getElem (by omega)⟩
          have hfz := HF.out f (List.mem_of_getElem? hfk)
          have htk : fs.take (k + 1) = fs.take k ++ [f] := by rw [List.take_add_one, hfk]; rfl
          rcases HR.out.below hkp with h | ⟨b, off, rfl, h⟩
          · rw [h] at hn; simp at hn; omega
          obtain ⟨hc1, hc2⟩ := h k _ hfk
          clear h hfk
          obtain ⟨nm, vl⟩ := f
          simp only at hc1 hc2 hfz
          obtain ⟨hz1, hz2⟩ := hfz
          by_cases q1 : 200 < nm.size
          · have e1 : decide ((nm.size : Int) > 200) = true := decide_eq_true (by omega)
            go_wp2
            go_ret
            exact ⟨true, rfl, fun h => (by cases h), hkp⟩
          · have e1 : decide ((nm.size : Int) > 200) = false := decide_eq_false (by omega)
            by_cases q2 : 2100 < vl.size
            · have e2 : decide ((vl.size : Int) > 2100) = true := decide_eq_true (by omega)
              go_wp2
              go_ret
              exact ⟨true, rfl, fun h => (by cases h), hkp⟩
            · have e2 : decide ((vl.size : Int) > 2100) = false := decide_eq_false (by omega)
              have HT2 : Hid (∀ f ∈ fs.take (k + 1), f.1.size ≤ 200 ∧ f.2.size ≤ 2100) := by
                unfold Hid
                rw [htk]
                intro f hf
                rcases List.mem_append.1 hf with h | h
                · exact HT.out f h
                · simp at h; subst h; show nm.size ≤ 200 ∧ vl.size ≤ 2100; exact ⟨by omega, by omega⟩
              clear htk
              by_cases q3 : 4 < k
              · have e3 : decide ((k : Int) > 4) = true := decide_eq_true (by omega)
                by_cases q4 : 300 < vl.size
                · have e4 : decide ((vl.size : Int) > 300) = true := decide_eq_true (by omega)
                  go_wp2
                  go_ret
                  exact ⟨true, rfl, fun h => (by cases h), hkp⟩
                · have e4 : decide ((vl.size : Int) > 300) = false := decide_eq_false (by omega)
                  go_wp2
                  go_roundw
                  case rel => exact ⟨k + 1, by go_num, by omega, trivial, HT2⟩
                  case measure => simp [intOf]; omega
              · have e3 : decide ((k : Int) > 4) = false := decide_eq_false (by omega)
                go_wp2
                go_roundw
                case rel => exact ⟨k + 1, by go_num, by omega, trivial, HT2⟩
                case measure => simp [intOf]; omega
        · obtain rfl : k = n := by omega
          have HT2 : Hid (∀ f ∈ fs, f.1.size ≤ 200 ∧ f.2.size ≤ 2100) := by
            have := HT.out
            rwa [List.take_of_length_le (by omega)] at this
          go_wp2
          go_ret
          exact ⟨false, rfl, fun _ => ⟨by omega, by omega, HT2.out⟩, hkp⟩
def inB (c : Int) : Bool := decide (32 ≤ c ∧ c ≤ 126)
def staysZ (l : List Int) : Bool := l.all inB && decide (l.length ≤ 60)
set_option maxRecDepth 100000 in
theorem stays_any (s : ByteArray) (w : World) (hs : s.size ≤ 1000000000) : Calls Tryd.prog 43 #[.string s] w fun e w' => e = .returned (.bool (staysZ (nums s))) ∧ w = w' := by
  obtain ⟨n, hn⟩ : ∃ n, s.size = n := ⟨_, rfl⟩
  go_enter Tryd.func43, Tryd.ntmps43
  go_wp2
  go_loopw [6] (fun i wr => ∃ k : Nat, i = .int .i64 k ∧ k ≤ n ∧ wr = w ∧ Hid (((nums s).take k).all inB = true)) (fun i _ => n - (intOf i).toNat)
  case atStart => exact ⟨0, rfl, by omega, rfl, by unfold Hid; simp⟩
  case round =>
    obtain ⟨k, rfl, hk, rfl, HA⟩ := hrel
    by_cases hlt : k < n
    · have hks : k < s.size := by omega
      have k1 : (k : Int) < (s.size : Int) := by omega
      obtain ⟨c, hc⟩ : ∃ c : Int, (s[k].toNat : Int) = c := ⟨_, rfl⟩
      have hcb : 0 ≤ c ∧ c < 256 := by have := s[k].toNat_lt; omega
      have hget := nums_at s k hks
      rw [hc] at hget
      have hat := all_take inB (nums s) k c hget
      by_cases hg : 32 ≤ c ∧ c ≤ 126
      · obtain ⟨g1, g2⟩ := hg
        have d1 : decide (c < 32) = false := decide_eq_false (by omega)
        have d2 : decide (c > 126) = false := decide_eq_false (by omega)
        have HA2 : Hid (((nums s).take (k + 1)).all inB = true) := by unfold Hid; rw [hat, HA.out]; simp [inB, g1, g2]
        clear hat hget HA
        go_wp2
        go_roundw
        case rel => exact ⟨k + 1, by go_num, by omega, trivial, HA2⟩
        case measure => simp [intOf]; omega
      · have HF : Hid (staysZ (nums s) = false) := by
          unfold Hid staysZ
          rw [all_bad inB (nums s) k c hget (by unfold inB; simpa using hg)]; rfl
        clear hat hget HA
        by_cases h1 : c < 32
        · have d1 : decide (c < 32) = true := decide_eq_true h1
          go_wp2
          go_ret
          exact ⟨ret_bool HF.out.symm, rfl⟩
        · have d1 : decide (c < 32) = false := decide_eq_false h1
          have d2 : decide (c > 126) = true := decide_eq_true (by omega)
          go_wp2
          go_ret
          exact ⟨ret_bool HF.out.symm, rfl⟩
    · obtain rfl : k = n := by omega
      have HF : Hid (staysZ (nums s) = decide (k ≤ 60)) := by
        have := HA.out
        rw [List.take_of_length_le (by rw [nums_len]; omega)] at this
        unfold Hid staysZ
        rw [this, nums_len, hn]; rfl
      go_wp2
      go_ret
      exact ⟨ret_bool (by rw [HF.out]; simp; try omega), rfl⟩
end Go.Proofs.YtfhgkkdbkbbpkaaDoor
