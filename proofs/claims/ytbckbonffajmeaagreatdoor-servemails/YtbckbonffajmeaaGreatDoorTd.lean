/-
  Owners that are too long; equal mails: the contracts.
-/
import Derived.Test.YtbckbonffajmeaaGreatDoorTc
namespace Go.Proofs.YtbckbonffajmeaaGreatDoor
open Go.RowKit Go.Shelf Go.Maps
set_option linter.unusedVariables false
set_option linter.unusedSimpArgs false

theorem blk_below {w w' : World} {b : Nat} {cs : Array Value} {t : TypeId} (h : Blk w b cs t) (hb : Below w.heap.size w w') : Blk w' b cs t := (hb.block b h.lt).trans h
def longZ (os : List ByteArray) : Bool := decide (80 < os.length) || os.any (fun o => decide (400 < o.size))
set_option maxHeartbeats 8000000 in
set_option maxRecDepth 100000 in
theorem long_any (a : Option Addr) (n c : Nat) (os : List ByteArray) (w : World) (hn : os.length = n) (hr : SRow w a os) :
    Calls Tryz.prog 8 #[.string ⟨#[120]⟩, .slice a n c] w fun e w' => e = .returned (.bool (longZ os)) ∧ w' = w := by
  have HR : Hid (SRow w a os) := hr
  clear hr
  by_cases p1 : 80 < n
  · have d1 : decide ((n : Int) > 80) = true := by simp; omega
    have HZ : Hid (longZ os = true) := by unfold Hid longZ; rw [hn]; simp [p1]
    go_enter Tryz.func8, Tryz.ntmps8
    go_wp2
    go_ret
    exact ⟨ret_bool HZ.out.symm, rfl⟩
  have d1 : decide ((n : Int) > 80) = false := by simp; omega
  go_enter Tryz.func8, Tryz.ntmps8
  go_wp2
  go_loopw [5] (fun i wr => ∃ k : Nat, i = .int .i64 k ∧ k ≤ n ∧ wr = w ∧ Hid ((os.take k).any (fun o => decide (400 < o.size)) = false)) (fun i _ => n - (intOf i).toNat)
  case atStart => exact ⟨0, rfl, by omega, rfl, rfl⟩
  case round =>
    obtain ⟨k, rfl, hk, rfl, HT⟩ := hrel
    by_cases hlt : k < n
    · obtain ⟨o, ho⟩ : ∃ o, os[k]? = some o := ⟨_, List.getElem?_eq_getElem (by omega)⟩
      obtain ⟨b, off, rfl, hc⟩ : ∃ b off, a = some ⟨b, off, none⟩ ∧ wr.cell? ⟨b, off + k, none⟩ = some (.string o) := by
        rcases HR.out with h | ⟨b, off, h1, h2⟩
        · rw [h] at ho; simp at ho
        · exact ⟨b, off, h1, h2 k o ho⟩
      have k0 : (0 : Int) ≤ (k : Int) := by omega
      have k1 : (k : Int) < (n : Int) := by omega
      have tk : os.take (k + 1) = os.take k ++ [o] := by rw [List.take_add_one, ho]; rfl
      by_cases p2 : 400 < o.size
      · have d2 : decide ((o.size : Int) > 400) = true := by simp; omega
        have HZ : Hid (longZ os = true) := by
          unfold Hid longZ
          have : os.any (fun o => decide (400 < o.size)) = true := List.any_eq_true.2 ⟨o, List.mem_of_getElem? ho, by simp [p2]⟩
          rw [this, Bool.or_true]
        clear ho tk
        go_wp2
        go_ret
        exact ⟨ret_bool HZ.out.symm, rfl⟩
      · have d2 : decide ((o.size : Int) > 400) = false := by simp; omega
        have HT2 : Hid ((os.take (k + 1)).any (fun o => decide (400 < o.size)) = false) := by
          unfold Hid
          rw [tk, List.any_append, HT.out]
          simp; omega
        clear ho tk
        go_wp2
        go_roundw
        case rel => exact ⟨k + 1, by go_num, by omega, trivial, HT2⟩
        case measure => simp [intOf]; omega
    · have hk2 : ¬ (k : Int) < (n : Int) := by omega
      have HZ : Hid (longZ os = false) := by
        unfold Hid longZ
        obtain rfl : k = n := by omega
        have := HT.out
        rw [List.take_of_length_le (by omega)] at this
        rw [this, hn]
        simp; omega
      go_wp2
      go_ret
      exact ⟨ret_bool HZ.out.symm, rfl⟩
set_option maxHeartbeats 8000000 in
set_option maxRecDepth 100000 in
theorem smail_any (fr : ByteArray) (b1 b2 a1 a2 : Option Addr) (k n d1 d2 c1 c2 : Nat) (ts : List ByteArray) (l : List Int) (w : World) (hk : ts.length = k) (hn : l.length = n) (hbig : k ≤ 9223372036854775807)
    (h1 : SRow w b1 ts) (h2 : SRow w b2 ts) (r1 : Row w a1 l) (r2 : Row w a2 l) :
    Calls Tryz.prog 21 #[.agg #[.string fr, .slice b1 k d1, .slice a1 n c1], .agg #[.string fr, .slice b2 k d2, .slice a2 n c2]] w fun e w' => e = .returned (.bool true) ∧ Below w.heap.size w w' := by
  have hb : Below w.heap.size w ((w.alloc (.cells #[.string fr, .slice b1 k d1, .slice a1 n c1] 48)).alloc (.cells #[.string fr, .slice b2 k d2, .slice a2 n c2] 48)) := (keep w _).alloc (by simp) _
  have hA : Blk ((w.alloc (.cells #[.string fr, .slice b1 k d1, .slice a1 n c1] 48)).alloc (.cells #[.string fr, .slice b2 k d2, .slice a2 n c2] 48)) w.heap.size #[.string fr, .slice b1 k d1, .slice a1 n c1] 48 := blk_below (World.alloc_heap_new w _) (keep _ _)
  have hB : Blk ((w.alloc (.cells #[.string fr, .slice b1 k d1, .slice a1 n c1] 48)).alloc (.cells #[.string fr, .slice b2 k d2, .slice a2 n c2] 48)) (w.heap.size + 1) #[.string fr, .slice b2 k d2, .slice a2 n c2] 48 := by
    have := World.alloc_heap_new (w.alloc (.cells #[.string fr, .slice b1 k d1, .slice a1 n c1] 48)) (.cells #[.string fr, .slice b2 k d2, .slice a2 n c2] 48)
    rw [World.size_alloc] at this
    exact this
  have x0 : ((w.alloc (.cells #[.string fr, .slice b1 k d1, .slice a1 n c1] 48)).alloc (.cells #[.string fr, .slice b2 k d2, .slice a2 n c2] 48)).cell? ⟨w.heap.size, 0, none⟩ = some (.string fr) := hA.cell 0
  have x1 : ((w.alloc (.cells #[.string fr, .slice b1 k d1, .slice a1 n c1] 48)).alloc (.cells #[.string fr, .slice b2 k d2, .slice a2 n c2] 48)).cell? ⟨w.heap.size, 1, none⟩ = some (.slice b1 k d1) := hA.cell 1
  have x2 : ((w.alloc (.cells #[.string fr, .slice b1 k d1, .slice a1 n c1] 48)).alloc (.cells #[.string fr, .slice b2 k d2, .slice a2 n c2] 48)).cell? ⟨w.heap.size, 2, none⟩ = some (.slice a1 n c1) := hA.cell 2
  have y0 : ((w.alloc (.cells #[.string fr, .slice b1 k d1, .slice a1 n c1] 48)).alloc (.cells #[.string fr, .slice b2 k d2, .slice a2 n c2] 48)).cell? ⟨w.heap.size + 1, 0, none⟩ = some (.string fr) := hB.cell 0
  have y1 : ((w.alloc (.cells #[.string fr, .slice b1 k d1, .slice a1 n c1] 48)).alloc (.cells #[.string fr, .slice b2 k d2, .slice a2 n c2] 48)).cell? ⟨w.heap.size + 1, 1, none⟩ = some (.slice b2 k d2) := hB.cell 1
  have y2 : ((w.alloc (.cells #[.string fr, .slice b1 k d1, .slice a1 n c1] 48)).alloc (.cells #[.string fr, .slice b2 k d2, .slice a2 n c2] 48)).cell? ⟨w.heap.size + 1, 2, none⟩ = some (.slice a2 n c2) := hB.cell 2
  have kc1 : (convert 33 9 (.slice a1 n c1)).run Tryz.prog ((w.alloc (.cells #[.string fr, .slice b1 k d1, .slice a1 n c1] 48)).alloc (.cells #[.string fr, .slice b2 k d2, .slice a2 n c2] 48)) = .ok (.string (strOfNums l)) ((w.alloc (.cells #[.string fr, .slice b1 k d1, .slice a1 n c1] 48)).alloc (.cells #[.string fr, .slice b2 k d2, .slice a2 n c2] 48)) := conv_row n c1 hn (row_below r1 hb)
  have kc2 : (convert 33 9 (.slice a2 n c2)).run Tryz.prog ((w.alloc (.cells #[.string fr, .slice b1 k d1, .slice a1 n c1] 48)).alloc (.cells #[.string fr, .slice b2 k d2, .slice a2 n c2] 48)) = .ok (.string (strOfNums l)) ((w.alloc (.cells #[.string fr, .slice b1 k d1, .slice a1 n c1] 48)).alloc (.cells #[.string fr, .slice b2 k d2, .slice a2 n c2] 48)) := conv_row n c2 hn (row_below r2 hb)
  have HB : Hid (Below w.heap.size w ((w.alloc (.cells #[.string fr, .slice b1 k d1, .slice a1 n c1] 48)).alloc (.cells #[.string fr, .slice b2 k d2, .slice a2 n c2] 48))) := hb
  have H1 : Hid (SRow ((w.alloc (.cells #[.string fr, .slice b1 k d1, .slice a1 n c1] 48)).alloc (.cells #[.string fr, .slice b2 k d2, .slice a2 n c2] 48)) b1 ts) := h1.below hb
  have H2 : Hid (SRow ((w.alloc (.cells #[.string fr, .slice b1 k d1, .slice a1 n c1] 48)).alloc (.cells #[.string fr, .slice b2 k d2, .slice a2 n c2] 48)) b2 ts) := h2.below hb
  have sz1 : (w.alloc (.cells #[.string fr, .slice b1 k d1, .slice a1 n c1] 48)).heap.size = w.heap.size + 1 := World.size_alloc _ _
  clear h1 h2 r1 r2 hb hA hB
  go_enter Tryz.func21, Tryz.ntmps21
  go_wp2_with fail
  generalize ((w.alloc (.cells #[.string fr, .slice b1 k d1, .slice a1 n c1] 48)).alloc (.cells #[.string fr, .slice b2 k d2, .slice a2 n c2] 48)) = W at x0 x1 x2 y0 y1 y2 kc1 kc2 HB H1 H2 ⊢
  generalize w.heap.size + 1 = g2 at y0 y1 y2 ⊢
  obtain ⟨g1, hg1⟩ : ∃ g, w.heap.size = g := ⟨_, rfl⟩
  have HZ : Hid (w.heap.size = g1) := hg1
  rw [hg1] at x0 x1 x2 ⊢
  clear kc1 kc2 x0 y0 x2 y2
  go_loopw [5] (fun i wr => ∃ (j q : Nat), i = .int .i64 j ∧ j ≤ k ∧ wr = W.drewN q) (fun i _ => k - (intOf i).toNat)
  case atStart => exact ⟨0, 0, rfl, by omega, rfl⟩
  case round =>
    obtain ⟨j, q, rfl, hj, rfl⟩ := hrel
    have x1 : (W.drewN q).cell? ⟨g1, 1, none⟩ = some (.slice b1 k d1) := x1
    have y1 : (W.drewN q).cell? ⟨g2, 1, none⟩ = some (.slice b2 k d2) := y1
    by_cases hlt : j < k
    · obtain ⟨o, ho⟩ : ∃ o, ts[j]? = some o := ⟨_, List.getElem?_eq_getElem (by omega)⟩
      rcases H1.out with h | ⟨e1, f1, rfl, h⟩
      · rw [h] at ho; simp at ho
      rcases H2.out with h' | ⟨e2, f2, rfl, h'⟩
      · rw [h'] at ho; simp at ho
      have v1 : W.cell? ⟨e1, f1 + j, none⟩ = some (.string o) := h j o ho
      have v2 : W.cell? ⟨e2, f2 + j, none⟩ = some (.string o) := h' j o ho
      have k0 : (0 : Int) ≤ (j : Int) := by omega
      have k1 : (j : Int) < (k : Int) := by omega
      clear ho h h'
      go_wp2_with fail
      go_quiet (fail)
      go_wp2
      go_roundw
      case rel => exact ⟨j + 1, q + nq, by go_num, by omega, by simp [World.drewN, Nat.add_assoc]⟩
      case measure => simp [intOf]; omega
    · have hk2 : ¬ (j : Int) < (k : Int) := by omega
      go_wp2
      go_ret
      refine ⟨rfl, ?_⟩
      rw [← HZ.out]
      exact below_drewN HB.out q
end Go.Proofs.YtbckbonffajmeaaGreatDoor
