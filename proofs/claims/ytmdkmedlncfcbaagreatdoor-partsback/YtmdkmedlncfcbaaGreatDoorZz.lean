/-
  Write, Parse, what is read fits, the fixed tree, there and back, clone, Find, alive (eleven texts in one).
-/
import Derived.Test.YtmdkmedlncfcbaaGreatDoorWb
import Derived.Laws.EntriesVeiled
import Derived.Test.YtmdkmedlncfcbaaGreatDoorPr
import Derived.Test.YtmdkmedlncfcbaaGreatDoorSm
import Derived.Test.YtmdkmedlncfcbaaGreatDoorPq
namespace Go.Proofs.YtmdkmedlncfcbaaGreatDoor
open Go.RowKit Go.Shelf
set_option linter.unusedVariables false
set_option linter.unusedSimpArgs false

theorem wr_all : ∀ f, f ≤ 8 → WrC f
  | 0, h => write_step 0 h (fun g hg => by omega)
  | f + 1, h => write_step (f + 1) h (fun g hg => by
      obtain rfl : g = f := by omega
      exact wr_all g (by omega))
/-- What Write writes. -/
def wrT (t : Prt) : Option (List Int) := if (wrP 8 0 [] t).2.2 = true ∧ (wrP 8 0 [] t).2.1.length ≤ 1048576 then some (wrP 8 0 [] t).2.1 else none
def WTop (w : World) (t : Prt) (e : Ending) (w' : World) : Prop :=
  ∃ v c, e = .returned (.tuple #[v, .int .i64 c]) ∧ Below w.heap.size w w' ∧ ((∃ o, wrT t = some o ∧ c = 0 ∧ Own w' w.heap.size v o ∧ o.length ≤ 1048576 ∧ Byt o) ∨ (wrT t = none ∧ c = 81 ∧ v = .slice none 0 0))
set_option maxHeartbeats 4000000 in
set_option maxRecDepth 100000 in
theorem write_top (h : Nat) (t : Prt) (x y z : Value) (w : World) (hp : PtAt h w t x y z) (hfit : FitT h t) (hm : Mx w) :
    Calls Tryz.prog 16 #[partV x y z] w (WTop w t) := by
  obtain ⟨h', rfl⟩ : ∃ h', h = h' + 1 := by cases h with | zero => exact hp.elim | succ h => exact ⟨h, rfl⟩
  have HP : Hid (PtAt (h' + 1) w t x y z) := hp
  obtain ⟨⟨x1, x2, x3, rfl⟩, ⟨y1, y2, y3, rfl⟩, ⟨z1, z2, z3, rfl⟩⟩ := pt_slices hp
  have hk : Below w.heap.size w ((((w.alloc (.cells #[.slice x1 x2 x3, .slice y1 y2 y3, .slice z1 z2 z3] 28)).alloc (.cells #[.slice none 0 0] 22)).alloc (.cells #[.int .i64 0] 3)).alloc (.cells #[.func (.func 37) #[] #[.pointer (some ⟨w.heap.size + 1 + 1, 0, none⟩), .pointer (some ⟨w.heap.size + 1, 0, none⟩), .pointer (some ⟨w.heap.size + 1 + 1 + 1, 0, none⟩)]] 34)) := (((keep w _).alloc (by simp) _).alloc (by simp; omega) _).alloc (by simp; omega) _
  have hOb : Blk ((((w.alloc (.cells #[.slice x1 x2 x3, .slice y1 y2 y3, .slice z1 z2 z3] 28)).alloc (.cells #[.slice none 0 0] 22)).alloc (.cells #[.int .i64 0] 3)).alloc (.cells #[.func (.func 37) #[] #[.pointer (some ⟨w.heap.size + 1 + 1, 0, none⟩), .pointer (some ⟨w.heap.size + 1, 0, none⟩), .pointer (some ⟨w.heap.size + 1 + 1 + 1, 0, none⟩)]] 34)) (w.heap.size + 1) #[.slice none 0 0] 22 := by
    have := Blk.new (w.alloc (.cells #[.slice x1 x2 x3, .slice y1 y2 y3, .slice z1 z2 z3] 28)) #[.slice none 0 0] 22
    rw [World.size_alloc] at this
    exact (this.alloc _).alloc _
  have hCb : Blk ((((w.alloc (.cells #[.slice x1 x2 x3, .slice y1 y2 y3, .slice z1 z2 z3] 28)).alloc (.cells #[.slice none 0 0] 22)).alloc (.cells #[.int .i64 0] 3)).alloc (.cells #[.func (.func 37) #[] #[.pointer (some ⟨w.heap.size + 1 + 1, 0, none⟩), .pointer (some ⟨w.heap.size + 1, 0, none⟩), .pointer (some ⟨w.heap.size + 1 + 1 + 1, 0, none⟩)]] 34)) (w.heap.size + 1 + 1) #[.int .i64 ((0 : Nat) : Int)] 3 := by
    have := Blk.new ((w.alloc (.cells #[.slice x1 x2 x3, .slice y1 y2 y3, .slice z1 z2 z3] 28)).alloc (.cells #[.slice none 0 0] 22)) #[.int .i64 0] 3
    rw [World.size_alloc, World.size_alloc] at this
    exact this.alloc _
  have hFb : Blk ((((w.alloc (.cells #[.slice x1 x2 x3, .slice y1 y2 y3, .slice z1 z2 z3] 28)).alloc (.cells #[.slice none 0 0] 22)).alloc (.cells #[.int .i64 0] 3)).alloc (.cells #[.func (.func 37) #[] #[.pointer (some ⟨w.heap.size + 1 + 1, 0, none⟩), .pointer (some ⟨w.heap.size + 1, 0, none⟩), .pointer (some ⟨w.heap.size + 1 + 1 + 1, 0, none⟩)]] 34)) (w.heap.size + 1 + 1 + 1) #[wrF (w.heap.size + 1 + 1) (w.heap.size + 1) (w.heap.size + 1 + 1 + 1)] 34 := by
    have := Blk.new (((w.alloc (.cells #[.slice x1 x2 x3, .slice y1 y2 y3, .slice z1 z2 z3] 28)).alloc (.cells #[.slice none 0 0] 22)).alloc (.cells #[.int .i64 0] 3)) #[.func (.func 37) #[] #[.pointer (some ⟨w.heap.size + 1 + 1, 0, none⟩), .pointer (some ⟨w.heap.size + 1, 0, none⟩), .pointer (some ⟨w.heap.size + 1 + 1 + 1, 0, none⟩)]] 34
    rw [World.size_alloc, World.size_alloc, World.size_alloc] at this
    exact this
  have hst : Stay (fun b => b = w.heap.size + 1 + 1 ∨ b = w.heap.size + 1 ∨ w.heap.size + 4 ≤ b) ((((w.alloc (.cells #[.slice x1 x2 x3, .slice y1 y2 y3, .slice z1 z2 z3] 28)).alloc (.cells #[.slice none 0 0] 22)).alloc (.cells #[.int .i64 0] 3)).alloc (.cells #[.func (.func 37) #[] #[.pointer (some ⟨w.heap.size + 1 + 1, 0, none⟩), .pointer (some ⟨w.heap.size + 1, 0, none⟩), .pointer (some ⟨w.heap.size + 1 + 1 + 1, 0, none⟩)]] 34)) (fun W => PtAt (h' + 1) W t (.slice x1 x2 x3) (.slice y1 y2 y3) (.slice z1 z2 z3)) := fun W hW => by
    have ht : Tg (fun _ => False) w W := (Tg.of_below (O := fun _ => False) hk).two hW (fun _ _ q => q) (fun b hb q => by omega)
    exact PtAt.below ⟨ht.1, ht.2.1, ht.2.2.1, ht.2.2.2.1, fun b hb => ht.2.2.2.2 b hb id⟩ _ _ _ _ _ HP.out
  have hch := wr_all 8 (Nat.le_refl _) 1 (by decide) (h' + 1) 0 (w.heap.size + 1 + 1) (w.heap.size + 1) (w.heap.size + 1 + 1 + 1) (w.heap.size + 4) [] (.slice none 0 0) (.slice x1 x2 x3) (.slice y1 y2 y3) (.slice z1 z2 z3) t _ (by omega) (by simp) hst hfit (hm.keep hk) (fun x hx => by simp at hx) (by omega) (by omega) (by omega) (by simp) (by omega) (by omega) (by omega) hCb hOb ⟨rfl, .inl ⟨rfl, rfl⟩⟩ hFb
  have HK : Hid (Below w.heap.size w ((((w.alloc (.cells #[.slice x1 x2 x3, .slice y1 y2 y3, .slice z1 z2 z3] 28)).alloc (.cells #[.slice none 0 0] 22)).alloc (.cells #[.int .i64 0] 3)).alloc (.cells #[.func (.func 37) #[] #[.pointer (some ⟨w.heap.size + 1 + 1, 0, none⟩), .pointer (some ⟨w.heap.size + 1, 0, none⟩), .pointer (some ⟨w.heap.size + 1 + 1 + 1, 0, none⟩)]] 34))) := hk
  unfold partV at hch ⊢
  clear hk hOb hCb hFb hst hp hm hfit
  go_enter Tryz.func16, Tryz.ntmps16
  go_wp2_with fail
  refine hch.mono ?_
  rintro e V ⟨rfl, ht, hC, ⟨v, hO, hown⟩, hok⟩
  clear hch
  obtain ⟨⟨ct, o, b⟩, hy⟩ : ∃ y, wrP 8 0 [] t = y := ⟨_, rfl⟩
  have HT : Hid (wrT t = if b = true ∧ o.length ≤ 1048576 then some o else none) := by unfold Hid wrT; rw [hy]
  rw [hy] at hC hown hok ⊢
  simp only at hC hown hok ⊢
  have HB : Hid (Below w.heap.size w V) := by
    have h1 : Tg (fun _ => False) w V := (Tg.of_below (O := fun _ => False) HK.out).two ht (fun _ _ q => q) (fun b hb q => by
      rcases q with q | q | q
      · omega
      · omega
      · have := q.1; omega)
    exact ⟨h1.1, h1.2.1, h1.2.2.1, h1.2.2.2.1, fun b hb => h1.2.2.2.2 b hb id⟩
  have HW : Hid (Own V w.heap.size v o) := own_base (by omega) hown
  obtain ⟨va, vc, hv, r1, r2, _⟩ := own_row' hown
  obtain ⟨n, hn⟩ : ∃ n, o.length = n := ⟨_, rfl⟩
  rw [hn] at hv r1
  subst hv
  have HN : Hid (o.length = n) := hn
  have cO := cell1 hO
  have hnm : n ≤ 9223372036854775807 := by have : vc ≤ 9223372036854775807 := r2; omega
  clear ht hC hO hown hn hy r2
  cases b with
  | false =>
    have HV : Hid (wrT t = none) := by unfold Hid; rw [HT.out, if_neg (by rintro ⟨h, _⟩; cases h)]
    clear hok
    go_wp2
    go_ret2
    exact ⟨_, _, rfl, HB.out, .inr ⟨HV.out, rfl, rfl⟩⟩
  | true =>
    have HBY : Hid (Byt o) := (hok rfl).2.2
    clear hok
    by_cases hl : n ≤ 1048576
    · have hl2 : ¬ (1048576 : Int) < (n : Int) := by omega
      have HV : Hid (wrT t = some o) := by unfold Hid; rw [HT.out, if_pos ⟨rfl, by rw [HN.out]; exact hl⟩]
      go_wp2
      go_ret2
      exact ⟨_, _, rfl, HB.out, .inl ⟨o, HV.out, rfl, HW.out, by rw [HN.out]; exact hl, HBY.out⟩⟩
    · have hl2 : (1048576 : Int) < (n : Int) := by omega
      have HV : Hid (wrT t = none) := by unfold Hid; rw [HT.out, if_neg (by rintro ⟨_, h⟩; rw [HN.out] at h; exact hl h)]
      clear hl
      go_wp2
      go_ret2
      exact ⟨_, _, rfl, HB.out, .inr ⟨HV.out, rfl, rfl⟩⟩
end Go.Proofs.YtmdkmedlncfcbaaGreatDoor
namespace Go.Proofs.YtmdkmedlncfcbaaGreatDoor
open Go.RowKit Go.Shelf
set_option linter.unusedVariables false
set_option linter.unusedSimpArgs false

theorem rd_all : ∀ f, f ≤ 7 → RdC f
  | 0, h => read_step 0 h (fun g hg => by omega)
  | f + 1, h => read_step (f + 1) h (fun g hg => by
      obtain rfl : g = f := by omega
      exact rd_all g (by omega))
/-- What Parse answers. -/
def TopPost (w : World) (l : List Int) (e : Ending) (w' : World) : Prop :=
  ∃ vf vb vp c, e = .returned (.tuple #[partV vf vb vp, .int .i64 c]) ∧ Below w.heap.size w w' ∧
    ((∃ t, (prP 7 0 l).2 = .ok t ∧ c = 0 ∧ Stay (fun b => b < w.heap.size) w' (fun W => PtAt 8 W t vf vb vp)) ∨ (∃ er, (prP 7 0 l).2 = .error er ∧ c = er ∧ er ≠ 0 ∧ vf = .slice none 0 0 ∧ vb = .slice none 0 0 ∧ vp = .slice none 0 0))
set_option maxHeartbeats 4000000 in
set_option maxRecDepth 100000 in
theorem parse_top (a : Option Addr) (n c : Nat) (l : List Int) (w : World) (hl : l.length = n) (hcap : n ≤ c) (hcm : c ≤ maxLen) (hnil : a = none → c = 0) (hn : n ≤ 1048576) (hb : Byt l) (hr : Row w a l) (hm : Mx w) :
    Calls Tryz.prog 11 #[.slice a n c] w (TopPost w l) := by
  have hcmx : c ≤ 9223372036854775807 := hcm
  have hk3 : Below w.heap.size w (((w.alloc (.cells #[.slice none 0 0, .slice none 0 0, .slice none 0 0] 28)).alloc (.cells #[.int .i64 0] 3)).alloc (.cells #[.func (.func 29) #[] #[.pointer (some ⟨w.heap.size + 1, 0, none⟩), .pointer (some ⟨w.heap.size + 1 + 1, 0, none⟩)]] 53)) := ((keep w _).alloc (by simp) _).alloc (by simp; omega) _
  have hGb : Blk (((w.alloc (.cells #[.slice none 0 0, .slice none 0 0, .slice none 0 0] 28)).alloc (.cells #[.int .i64 0] 3)).alloc (.cells #[.func (.func 29) #[] #[.pointer (some ⟨w.heap.size + 1, 0, none⟩), .pointer (some ⟨w.heap.size + 1 + 1, 0, none⟩)]] 53)) w.heap.size #[.slice none 0 0, .slice none 0 0, .slice none 0 0] 28 := ((Blk.new w _ _).alloc _).alloc _
  have hCb : Blk (((w.alloc (.cells #[.slice none 0 0, .slice none 0 0, .slice none 0 0] 28)).alloc (.cells #[.int .i64 0] 3)).alloc (.cells #[.func (.func 29) #[] #[.pointer (some ⟨w.heap.size + 1, 0, none⟩), .pointer (some ⟨w.heap.size + 1 + 1, 0, none⟩)]] 53)) (w.heap.size + 1) #[.int .i64 ((0 : Nat) : Int)] 3 := by
    have := Blk.new (w.alloc (.cells #[.slice none 0 0, .slice none 0 0, .slice none 0 0] 28)) #[.int .i64 0] 3
    rw [World.size_alloc] at this
    exact this.alloc _
  have hRb : Blk (((w.alloc (.cells #[.slice none 0 0, .slice none 0 0, .slice none 0 0] 28)).alloc (.cells #[.int .i64 0] 3)).alloc (.cells #[.func (.func 29) #[] #[.pointer (some ⟨w.heap.size + 1, 0, none⟩), .pointer (some ⟨w.heap.size + 1 + 1, 0, none⟩)]] 53)) (w.heap.size + 1 + 1) #[rdF (w.heap.size + 1) (w.heap.size + 1 + 1)] 53 := by
    have := Blk.new ((w.alloc (.cells #[.slice none 0 0, .slice none 0 0, .slice none 0 0] 28)).alloc (.cells #[.int .i64 0] 3)) #[.func (.func 29) #[] #[.pointer (some ⟨w.heap.size + 1, 0, none⟩), .pointer (some ⟨w.heap.size + 1 + 1, 0, none⟩)]] 53
    rw [World.size_alloc, World.size_alloc] at this
    exact this
  have hch := rd_all 7 (Nat.le_refl _) 1 (by decide) 0 (w.heap.size + 1) (w.heap.size + 1 + 1) a n c l _ (by omega) hl hcap hcm hnil hn hb (row_below hr hk3) (hm.keep hk3) hCb hRb (by omega)
  have HK3 : Hid (Below w.heap.size w (((w.alloc (.cells #[.slice none 0 0, .slice none 0 0, .slice none 0 0] 28)).alloc (.cells #[.int .i64 0] 3)).alloc (.cells #[.func (.func 29) #[] #[.pointer (some ⟨w.heap.size + 1, 0, none⟩), .pointer (some ⟨w.heap.size + 1 + 1, 0, none⟩)]] 53))) := hk3
  have HGB : Hid (Blk (((w.alloc (.cells #[.slice none 0 0, .slice none 0 0, .slice none 0 0] 28)).alloc (.cells #[.int .i64 0] 3)).alloc (.cells #[.func (.func 29) #[] #[.pointer (some ⟨w.heap.size + 1, 0, none⟩), .pointer (some ⟨w.heap.size + 1 + 1, 0, none⟩)]] 53)) w.heap.size #[.slice none 0 0, .slice none 0 0, .slice none 0 0] 28) := hGb
  clear hk3 hGb hCb hRb hr hm hb
  go_enter Tryz.func11, Tryz.ntmps11
  go_wp2_with fail
  refine hch.mono ?_
  rintro e V ⟨vf, vb, vp, cc, rfl, ht, hC, hans⟩
  clear hch
  have hG := ht.kept HGB.out (by omega)
  have HG : Hid (Blk V w.heap.size #[.slice none 0 0, .slice none 0 0, .slice none 0 0] 28) := hG
  have HB : Hid (Tg (fun b => b = w.heap.size + 1) w V) := (Tg.of_below (O := fun _ => False) HK3.out).two ht (fun _ _ q => q.elim) (fun _ _ q => q)
  have HANS : Hid ((∃ t, (prP 7 0 l).2 = .ok t ∧ cc = 0 ∧ Stay (fun b => b ≤ w.heap.size + 2) V (fun W => PtAt 8 W t vf vb vp)) ∨ (∃ er, (prP 7 0 l).2 = .error er ∧ cc = er ∧ er ≠ 0 ∧ vf = .slice none 0 0 ∧ vb = .slice none 0 0 ∧ vp = .slice none 0 0)) := by
    rcases hans with ⟨t, h1, h2, _, h3⟩ | h
    · exact .inl ⟨t, h1, h2, h3.go (Tg.refl (fun _ => False) V) (fun _ _ q => q.elim) (fun b _ q => by simp; omega)⟩
    · exact .inr h
  have hsl : (∃ a n c, vf = .slice a n c) ∧ (∃ a n c, vb = .slice a n c) ∧ (∃ a n c, vp = .slice a n c) := by
    rcases hans with ⟨t, h1, h2, _, h3⟩ | ⟨_, _, _, _, rfl, rfl, rfl⟩
    · exact pt_slices h3.now
    · exact ⟨⟨_, _, _, rfl⟩, ⟨_, _, _, rfl⟩, ⟨_, _, _, rfl⟩⟩
  obtain ⟨⟨x1, x2, x3, rfl⟩, ⟨y1, y2, y3, rfl⟩, ⟨z1, z2, z3, rfl⟩⟩ := hsl
  obtain ⟨g0, g1, g2⟩ := cells3 hG
  have f0 := free3 hG 0
  have f1 := free3 hG 1
  have f2 := free3 hG 2
  clear hans ht hC hG
  unfold partV
  go_wp2
  have hB2 := fin3_blk HG.out (.slice x1 x2 x3) (.slice y1 y2 y3) (.slice z1 z2 z3)
  obtain ⟨c0, c1, c2⟩ := cells3 hB2
  have hf := fin3_tg (O := fun b => b = w.heap.size) V w.heap.size (.slice x1 x2 x3) (.slice y1 y2 y3) (.slice z1 z2 z3) rfl
  have hto : Tg (fun _ => False) w (fin3 V w.heap.size (.slice x1 x2 x3) (.slice y1 y2 y3) (.slice z1 z2 z3)) := HB.out.two hf (fun b hb q => by omega) (fun b hb q => by omega)
  have hbl : Below w.heap.size w (fin3 V w.heap.size (.slice x1 x2 x3) (.slice y1 y2 y3) (.slice z1 z2 z3)) := ⟨hto.1, hto.2.1, hto.2.2.1, hto.2.2.2.1, fun b hb => hto.2.2.2.2 b hb id⟩
  refine bodyPost_ret (v := .tuple #[partV (.slice x1 x2 x3) (.slice y1 y2 y3) (.slice z1 z2 z3), .int .i64 cc]) ?_ rfl ⟨_, _, _, cc, rfl, hbl, ?_⟩
  · unfold fin3 at c0 c1 c2
    simp [results, Tryz.results11, go_sem, c0, c1, c2, partV]
  · rcases HANS.out with ⟨t, h1, h2, h3⟩ | h
    · exact .inl ⟨t, h1, h2, h3.go hf (fun b _ q => by omega) (fun b _ q => by omega)⟩
    · exact .inr h
end Go.Proofs.YtmdkmedlncfcbaaGreatDoor
namespace Go.Proofs.YtmdkmedlncfcbaaGreatDoor
open Go.RowKit Go.Shelf
set_option linter.unusedVariables false
set_option linter.unusedSimpArgs false

theorem prL_all {rec : Nat → List Int → Nat × Except Int Prt} {m : List Int} {P : Prt → Prop} : ∀ (ts : List (Nat × Nat)) (ct : Nat) (acc : List Prt) (c : Nat) (qs : List Prt), prL rec m ct ts acc = (c, .ok qs) → (∀ q ∈ acc, P q) → (∀ ct x c' q, x ∈ ts → rec ct ((m.drop x.1).take (x.2 - x.1)) = (c', .ok q) → P q) → (∀ q ∈ qs, P q) ∧ qs.length = acc.length + ts.length
  | [], ct, acc, c, qs, h, ha, hr => by
    simp [prL] at h
    obtain ⟨_, rfl⟩ := h
    exact ⟨ha, by simp⟩
  | x :: r, ct, acc, c, qs, h, ha, hr => by
    rw [prL] at h
    generalize hy : rec ct ((m.drop x.1).take (x.2 - x.1)) = y at h
    obtain ⟨c1, e | q⟩ := y
    · cases h
    · have := prL_all r c1 (acc ++ [q]) c qs h (fun p hp => by
        rcases List.mem_append.1 hp with hp | hp
        · exact ha p hp
        · simp at hp; subst hp; exact hr ct x c1 p (by simp) hy) (fun ct x c' q hx => hr ct x c' q (by simp [hx]))
      refine ⟨this.1, ?_⟩
      rw [this.2, List.length_append, List.length_cons]
      simp; omega
theorem prH_ok {ct : Nat} {l : List Int} {g : List Int → List (Nat × Nat) → Nat × Except Int Prt} {c : Nat} {t : Prt} (h : prH ct l g = (c, .ok t)) :
    outC l = 0 ∧ ct ≤ 64 ∧ ((c = ct ∧ t = ⟨outL l, l.drop (outN l).toNat, []⟩ ∧ ∃ k, knd (outL l) = some k ∧ k.1 ≠ mpZ) ∨ (∃ k bd ts, knd (outL l) = some k ∧ k.1 = mpZ ∧ bord k = some bd ∧ betw (l.drop (outN l).toNat) bd = some ts ∧ g (l.drop (outN l).toNat) ts = (c, .ok t))) := by
  unfold prH at h
  split at h
  · cases h
  rename_i h64
  split at h
  · cases h
  rename_i hC
  refine ⟨by simpa using hC, by omega, ?_⟩
  cases hk : knd (outL l) with
  | none => rw [hk] at h; cases h
  | some k =>
    rw [hk] at h
    simp only at h
    by_cases hm : k.1 = mpZ
    · rw [if_pos hm] at h
      right
      cases hb : (bord k).bind (betw (l.drop (outN l).toNat)) with
      | none => rw [hb] at h; cases h
      | some ts =>
        rw [hb] at h
        obtain ⟨bd, h1, h2⟩ := Option.bind_eq_some_iff.1 hb
        exact ⟨k, bd, ts, rfl, hm, h1, h2, h⟩
    · rw [if_neg hm] at h
      cases h
      exact .inl ⟨rfl, rfl, k, rfl, hm⟩
theorem fit_read : ∀ (f ct : Nat) (l : List Int) (c : Nat) (t : Prt), prP f ct l = (c, .ok t) → Byt l → l.length ≤ 1048576 → FitT (f + 1) t := by
  intro f
  induction f with
  | zero =>
    intro ct l c t h hb hl
    obtain ⟨hC, _, h⟩ := prH_ok (show prH (ct + 1) l _ = _ from h)
    rcases h with ⟨_, rfl, _⟩ | ⟨k, bd, ts, _, _, _, _, h⟩
    · exact ⟨(fit_out hb hl hC).1, by simp only [List.length_drop]; omega, by simp, fun q hq => by simp at hq⟩
    · cases h
  | succ f ih =>
    intro ct l c t h hb hl
    obtain ⟨hC, _, h⟩ := prH_ok (show prH (ct + 1) l _ = _ from h)
    rcases h with ⟨_, rfl, _⟩ | ⟨k, bd, ts, _, _, _, hbt, h⟩
    · exact ⟨(fit_out hb hl hC).1, by simp only [List.length_drop]; omega, by simp, fun q hq => by simp at hq⟩
    · generalize hy : prL (prP f) (l.drop (outN l).toNat) (ct + 1) ts [] = y at h
      obtain ⟨c1, e | qs⟩ := y
      · cases h
      · cases h
        have hall := prL_all (P := FitT (f + 1)) ts (ct + 1) [] _ qs hy (fun q hq => by simp at hq) (fun ct x c' q hx hh => ih ct _ c' q hh ((hb.drop _).drop _ |>.take _) (by rw [List.length_take, List.length_drop, List.length_drop]; omega))
        have hcn := betw_count hbt
        rw [List.length_drop] at hcn
        refine ⟨(fit_out hb hl hC).1, by simp, ?_, hall.1⟩
        show qs.length ≤ _
        rw [hall.2]; simp; omega
end Go.Proofs.YtmdkmedlncfcbaaGreatDoor
namespace Go.Proofs.YtmdkmedlncfcbaaGreatDoor
open Go.RowKit Go.Shelf
set_option linter.unusedVariables false

def knT : Prt := ⟨[(⟨#[67, 111, 110, 116, 101, 110, 116, 45, 84, 121, 112, 101]⟩, ⟨#[109, 117, 108, 116, 105, 112, 97, 114, 116, 47, 109, 105, 120, 101, 100, 59, 32, 98, 111, 117, 110, 100, 97, 114, 121, 61, 98]⟩)], [], [⟨[], [120], []⟩, ⟨[], [121], []⟩]⟩
def knB : List Int := [67, 111, 110, 116, 101, 110, 116, 45, 84, 121, 112, 101, 58, 32, 109, 117, 108, 116, 105, 112, 97, 114, 116, 47, 109, 105, 120, 101, 100, 59, 32, 98, 111, 117, 110, 100, 97, 114, 121, 61, 98, 13, 10, 13, 10, 45, 45, 98, 13, 10, 13, 10, 120, 13, 10, 45, 45, 98, 13, 10, 13, 10, 121, 13, 10, 45, 45, 98, 45, 45, 13, 10]
set_option maxRecDepth 100000 in
theorem kn_out : outC knB = 0 := by kernel_rfl
set_option maxRecDepth 100000 in
theorem kn_nil : outC [] ≠ 0 := by
  have : outC [] = 42 := by kernel_rfl
  rw [this]; decide
set_option maxRecDepth 100000 in
theorem kn_write : writeB knT.fs = knB.take 45 := by kernel_rfl
set_option maxRecDepth 100000 in
theorem kn_wr : (wrP 8 0 [] knT) = (3, knB, true) := by kernel_rfl
set_option maxRecDepth 100000 in
theorem kn_rd : prP 7 0 knB = (3, .ok knT) := by kernel_rfl
theorem kn_wt : wrT knT = some knB := by
  unfold wrT
  rw [kn_wr]
  decide
end Go.Proofs.YtmdkmedlncfcbaaGreatDoor
namespace Go.Proofs.YtmdkmedlncfcbaaGreatDoor
open Go.RowKit Go.Shelf
set_option linter.unusedVariables false
set_option linter.unusedSimpArgs false

set_option maxHeartbeats 4000000 in
set_option maxRecDepth 100000 in
theorem knot_any (w : World) : Calls Tryz.prog 28 #[] w fun e w' => ∃ x y z, e = .returned (partV x y z) ∧ Below w.heap.size w w' ∧ PtAt 2 w' knT x y z := by
  have k1 := conv_const ((w.alloc (.cells #[.slice none 0 0, .slice none 0 0, .slice none 0 0] 28)).alloc (.cells #[.string ⟨#[67, 111, 110, 116, 101, 110, 116, 45, 84, 121, 112, 101]⟩, .string ⟨#[109, 117, 108, 116, 105, 112, 97, 114, 116, 47, 109, 105, 120, 101, 100, 59, 32, 98, 111, 117, 110, 100, 97, 114, 121, 61, 98]⟩] 50)) #[.int .u8 120] 1 1 (w.heap.size + 1 + 1) (by simp)
  have k2 := conv_const (((w.alloc (.cells #[.slice none 0 0, .slice none 0 0, .slice none 0 0] 28)).alloc (.cells #[.string ⟨#[67, 111, 110, 116, 101, 110, 116, 45, 84, 121, 112, 101]⟩, .string ⟨#[109, 117, 108, 116, 105, 112, 97, 114, 116, 47, 109, 105, 120, 101, 100, 59, 32, 98, 111, 117, 110, 100, 97, 114, 121, 61, 98]⟩] 50)).alloc (.cells #[.int .u8 120] 5 (1, 2))) #[.int .u8 121] 1 1 (w.heap.size + 1 + 1 + 1) (by simp)
  simp only [List.size_toArray, List.length_cons, List.length_nil, Nat.zero_add, Nat.reduceAdd] at k1 k2
  go_enter Tryz.func28, Tryz.ntmps28
  go_wp2
  have q0 : Blk (((((w.alloc (.cells #[.slice (some ⟨w.heap.size + 1, 0, none⟩) 1 1, .slice none 0 0, .slice (some ⟨w.heap.size + 1 + 1 + 1 + 1, 0, none⟩) 2 2] 28)).alloc (.cells #[.string ⟨#[67, 111, 110, 116, 101, 110, 116, 45, 84, 121, 112, 101]⟩, .string ⟨#[109, 117, 108, 116, 105, 112, 97, 114, 116, 47, 109, 105, 120, 101, 100, 59, 32, 98, 111, 117, 110, 100, 97, 114, 121, 61, 98]⟩] 50)).alloc (.cells #[.int .u8 120] 5 (1, 2))).alloc (.cells #[.int .u8 121] 5 (1, 2))).alloc (.cells #[.slice none 0 0, .slice (some ⟨w.heap.size + 1 + 1, 0, none⟩) 1 1, .slice none 0 0, .slice none 0 0, .slice (some ⟨w.heap.size + 1 + 1 + 1, 0, none⟩) 1 1, .slice none 0 0] 28)) w.heap.size #[.slice (some ⟨w.heap.size + 1, 0, none⟩) 1 1, .slice none 0 0, .slice (some ⟨w.heap.size + 1 + 1 + 1 + 1, 0, none⟩) 2 2] 28 := ((((Blk.new w _ _).alloc _).alloc _).alloc _).alloc _
  have q1 : Blk (((((w.alloc (.cells #[.slice (some ⟨w.heap.size + 1, 0, none⟩) 1 1, .slice none 0 0, .slice (some ⟨w.heap.size + 1 + 1 + 1 + 1, 0, none⟩) 2 2] 28)).alloc (.cells #[.string ⟨#[67, 111, 110, 116, 101, 110, 116, 45, 84, 121, 112, 101]⟩, .string ⟨#[109, 117, 108, 116, 105, 112, 97, 114, 116, 47, 109, 105, 120, 101, 100, 59, 32, 98, 111, 117, 110, 100, 97, 114, 121, 61, 98]⟩] 50)).alloc (.cells #[.int .u8 120] 5 (1, 2))).alloc (.cells #[.int .u8 121] 5 (1, 2))).alloc (.cells #[.slice none 0 0, .slice (some ⟨w.heap.size + 1 + 1, 0, none⟩) 1 1, .slice none 0 0, .slice none 0 0, .slice (some ⟨w.heap.size + 1 + 1 + 1, 0, none⟩) 1 1, .slice none 0 0] 28)) (w.heap.size + 1) #[.string ⟨#[67, 111, 110, 116, 101, 110, 116, 45, 84, 121, 112, 101]⟩, .string ⟨#[109, 117, 108, 116, 105, 112, 97, 114, 116, 47, 109, 105, 120, 101, 100, 59, 32, 98, 111, 117, 110, 100, 97, 114, 121, 61, 98]⟩] 50 := by
    have := Blk.new (w.alloc (.cells #[.slice (some ⟨w.heap.size + 1, 0, none⟩) 1 1, .slice none 0 0, .slice (some ⟨w.heap.size + 1 + 1 + 1 + 1, 0, none⟩) 2 2] 28)) #[.string ⟨#[67, 111, 110, 116, 101, 110, 116, 45, 84, 121, 112, 101]⟩, .string ⟨#[109, 117, 108, 116, 105, 112, 97, 114, 116, 47, 109, 105, 120, 101, 100, 59, 32, 98, 111, 117, 110, 100, 97, 114, 121, 61, 98]⟩] 50
    rw [World.size_alloc] at this
    exact ((this.alloc _).alloc _).alloc _
  have q2 : Row (((((w.alloc (.cells #[.slice (some ⟨w.heap.size + 1, 0, none⟩) 1 1, .slice none 0 0, .slice (some ⟨w.heap.size + 1 + 1 + 1 + 1, 0, none⟩) 2 2] 28)).alloc (.cells #[.string ⟨#[67, 111, 110, 116, 101, 110, 116, 45, 84, 121, 112, 101]⟩, .string ⟨#[109, 117, 108, 116, 105, 112, 97, 114, 116, 47, 109, 105, 120, 101, 100, 59, 32, 98, 111, 117, 110, 100, 97, 114, 121, 61, 98]⟩] 50)).alloc (.cells #[.int .u8 120] 5 (1, 2))).alloc (.cells #[.int .u8 121] 5 (1, 2))).alloc (.cells #[.slice none 0 0, .slice (some ⟨w.heap.size + 1 + 1, 0, none⟩) 1 1, .slice none 0 0, .slice none 0 0, .slice (some ⟨w.heap.size + 1 + 1 + 1, 0, none⟩) 1 1, .slice none 0 0] 28)) (some ⟨w.heap.size + 1 + 1, 0, none⟩) [120] := by
    have := row_mark ((w.alloc (.cells #[.slice (some ⟨w.heap.size + 1, 0, none⟩) 1 1, .slice none 0 0, .slice (some ⟨w.heap.size + 1 + 1 + 1 + 1, 0, none⟩) 2 2] 28)).alloc (.cells #[.string ⟨#[67, 111, 110, 116, 101, 110, 116, 45, 84, 121, 112, 101]⟩, .string ⟨#[109, 117, 108, 116, 105, 112, 97, 114, 116, 47, 109, 105, 120, 101, 100, 59, 32, 98, 111, 117, 110, 100, 97, 114, 121, 61, 98]⟩] 50)) [120] (1, 2)
    rw [World.size_alloc, World.size_alloc] at this
    exact row_below this (((Below.refl _ _).alloc (Nat.le_refl _) _).alloc (by simp) _)
  have q3 : Row (((((w.alloc (.cells #[.slice (some ⟨w.heap.size + 1, 0, none⟩) 1 1, .slice none 0 0, .slice (some ⟨w.heap.size + 1 + 1 + 1 + 1, 0, none⟩) 2 2] 28)).alloc (.cells #[.string ⟨#[67, 111, 110, 116, 101, 110, 116, 45, 84, 121, 112, 101]⟩, .string ⟨#[109, 117, 108, 116, 105, 112, 97, 114, 116, 47, 109, 105, 120, 101, 100, 59, 32, 98, 111, 117, 110, 100, 97, 114, 121, 61, 98]⟩] 50)).alloc (.cells #[.int .u8 120] 5 (1, 2))).alloc (.cells #[.int .u8 121] 5 (1, 2))).alloc (.cells #[.slice none 0 0, .slice (some ⟨w.heap.size + 1 + 1, 0, none⟩) 1 1, .slice none 0 0, .slice none 0 0, .slice (some ⟨w.heap.size + 1 + 1 + 1, 0, none⟩) 1 1, .slice none 0 0] 28)) (some ⟨w.heap.size + 1 + 1 + 1, 0, none⟩) [121] := by
    have := row_mark (((w.alloc (.cells #[.slice (some ⟨w.heap.size + 1, 0, none⟩) 1 1, .slice none 0 0, .slice (some ⟨w.heap.size + 1 + 1 + 1 + 1, 0, none⟩) 2 2] 28)).alloc (.cells #[.string ⟨#[67, 111, 110, 116, 101, 110, 116, 45, 84, 121, 112, 101]⟩, .string ⟨#[109, 117, 108, 116, 105, 112, 97, 114, 116, 47, 109, 105, 120, 101, 100, 59, 32, 98, 111, 117, 110, 100, 97, 114, 121, 61, 98]⟩] 50)).alloc (.cells #[.int .u8 120] 5 (1, 2))) [121] (1, 2)
    rw [World.size_alloc, World.size_alloc, World.size_alloc] at this
    exact row_below this ((Below.refl _ _).alloc (Nat.le_refl _) _)
  have q4 : Blk (((((w.alloc (.cells #[.slice (some ⟨w.heap.size + 1, 0, none⟩) 1 1, .slice none 0 0, .slice (some ⟨w.heap.size + 1 + 1 + 1 + 1, 0, none⟩) 2 2] 28)).alloc (.cells #[.string ⟨#[67, 111, 110, 116, 101, 110, 116, 45, 84, 121, 112, 101]⟩, .string ⟨#[109, 117, 108, 116, 105, 112, 97, 114, 116, 47, 109, 105, 120, 101, 100, 59, 32, 98, 111, 117, 110, 100, 97, 114, 121, 61, 98]⟩] 50)).alloc (.cells #[.int .u8 120] 5 (1, 2))).alloc (.cells #[.int .u8 121] 5 (1, 2))).alloc (.cells #[.slice none 0 0, .slice (some ⟨w.heap.size + 1 + 1, 0, none⟩) 1 1, .slice none 0 0, .slice none 0 0, .slice (some ⟨w.heap.size + 1 + 1 + 1, 0, none⟩) 1 1, .slice none 0 0] 28)) (w.heap.size + 1 + 1 + 1 + 1) #[.slice none 0 0, .slice (some ⟨w.heap.size + 1 + 1, 0, none⟩) 1 1, .slice none 0 0, .slice none 0 0, .slice (some ⟨w.heap.size + 1 + 1 + 1, 0, none⟩) 1 1, .slice none 0 0] 28 := by
    have := Blk.new ((((w.alloc (.cells #[.slice (some ⟨w.heap.size + 1, 0, none⟩) 1 1, .slice none 0 0, .slice (some ⟨w.heap.size + 1 + 1 + 1 + 1, 0, none⟩) 2 2] 28)).alloc (.cells #[.string ⟨#[67, 111, 110, 116, 101, 110, 116, 45, 84, 121, 112, 101]⟩, .string ⟨#[109, 117, 108, 116, 105, 112, 97, 114, 116, 47, 109, 105, 120, 101, 100, 59, 32, 98, 111, 117, 110, 100, 97, 114, 121, 61, 98]⟩] 50)).alloc (.cells #[.int .u8 120] 5 (1, 2))).alloc (.cells #[.int .u8 121] 5 (1, 2))) #[.slice none 0 0, .slice (some ⟨w.heap.size + 1 + 1, 0, none⟩) 1 1, .slice none 0 0, .slice none 0 0, .slice (some ⟨w.heap.size + 1 + 1 + 1, 0, none⟩) 1 1, .slice none 0 0] 28
    rw [World.size_alloc, World.size_alloc, World.size_alloc, World.size_alloc] at this
    exact this
  have qb : Below w.heap.size w (((((w.alloc (.cells #[.slice (some ⟨w.heap.size + 1, 0, none⟩) 1 1, .slice none 0 0, .slice (some ⟨w.heap.size + 1 + 1 + 1 + 1, 0, none⟩) 2 2] 28)).alloc (.cells #[.string ⟨#[67, 111, 110, 116, 101, 110, 116, 45, 84, 121, 112, 101]⟩, .string ⟨#[109, 117, 108, 116, 105, 112, 97, 114, 116, 47, 109, 105, 120, 101, 100, 59, 32, 98, 111, 117, 110, 100, 97, 114, 121, 61, 98]⟩] 50)).alloc (.cells #[.int .u8 120] 5 (1, 2))).alloc (.cells #[.int .u8 121] 5 (1, 2))).alloc (.cells #[.slice none 0 0, .slice (some ⟨w.heap.size + 1 + 1, 0, none⟩) 1 1, .slice none 0 0, .slice none 0 0, .slice (some ⟨w.heap.size + 1 + 1 + 1, 0, none⟩) 1 1, .slice none 0 0] 28)) := ((((keep w _).alloc (by simp) _).alloc (by simp; omega) _).alloc (by simp; omega) _).alloc (by simp; omega) _
  generalize (((((w.alloc (.cells #[.slice (some ⟨w.heap.size + 1, 0, none⟩) 1 1, .slice none 0 0, .slice (some ⟨w.heap.size + 1 + 1 + 1 + 1, 0, none⟩) 2 2] 28)).alloc (.cells #[.string ⟨#[67, 111, 110, 116, 101, 110, 116, 45, 84, 121, 112, 101]⟩, .string ⟨#[109, 117, 108, 116, 105, 112, 97, 114, 116, 47, 109, 105, 120, 101, 100, 59, 32, 98, 111, 117, 110, 100, 97, 114, 121, 61, 98]⟩] 50)).alloc (.cells #[.int .u8 120] 5 (1, 2))).alloc (.cells #[.int .u8 121] 5 (1, 2))).alloc (.cells #[.slice none 0 0, .slice (some ⟨w.heap.size + 1 + 1, 0, none⟩) 1 1, .slice none 0 0, .slice none 0 0, .slice (some ⟨w.heap.size + 1 + 1 + 1, 0, none⟩) 1 1, .slice none 0 0] 28)) = X at *
  obtain ⟨c0, c1, c2⟩ := cells3 q0
  refine bodyPost_ret (v := partV (.slice (some ⟨w.heap.size + 1, 0, none⟩) 1 1) (.slice none 0 0) (.slice (some ⟨w.heap.size + 1 + 1 + 1 + 1, 0, none⟩) 2 2)) ?_ rfl ⟨_, _, _, rfl, qb, ?_⟩
  · simp [results, Tryz.results28, go_sem, c0, c1, c2, partV]
  have leaf : ∀ (c : Int) (b : Nat), 0 ≤ c → c < 256 → Row X (some ⟨b, 0, none⟩) [c] → PtAt 1 X ⟨[], [c], []⟩ (.slice none 0 0) (.slice (some ⟨b, 0, none⟩) 1 1) (.slice none 0 0) := fun c b h0 h1 hr =>
    ⟨⟨none, 0, rfl, .inl rfl, Nat.zero_le _⟩, ⟨some ⟨b, 0, none⟩, 1, rfl, Nat.le_refl _, by decide, fun q => by simp at q, fun y hy => by simp at hy; omega, hr⟩, ⟨Nat.zero_le _, none, 0, rfl, .inl rfl⟩⟩
  refine ⟨⟨some ⟨w.heap.size + 1, 0, none⟩, 1, rfl, .inr ⟨w.heap.size + 1, 0, rfl, fun i f hf => ?_⟩, by decide⟩, ⟨none, 0, rfl, Nat.le_refl _, by decide, fun _ => rfl, fun y hy => by simp [knT] at hy, .inl rfl⟩, ⟨by decide, some ⟨w.heap.size + 1 + 1 + 1 + 1, 0, none⟩, 2, rfl, .inr ⟨_, 0, rfl, fun i t ht => ?_⟩⟩⟩
  · match i, hf with
    | 0, hf =>
      simp [knT] at hf
      subst hf
      exact ⟨(q1.cell 0).trans rfl, (q1.cell 1).trans rfl⟩
    | i + 1, hf => simp [knT] at hf
  · match i, ht with
    | 0, ht =>
      simp [knT] at ht
      subst ht
      exact ⟨_, _, _, (q4.cell 0).trans rfl, (q4.cell 1).trans rfl, (q4.cell 2).trans rfl, leaf 120 _ (by decide) (by decide) q2⟩
    | 1, ht =>
      simp [knT] at ht
      subst ht
      exact ⟨_, _, _, (q4.cell 3).trans rfl, (q4.cell 4).trans rfl, (q4.cell 5).trans rfl, leaf 121 _ (by decide) (by decide) q3⟩
    | i + 2, ht => simp [knT] at ht
end Go.Proofs.YtmdkmedlncfcbaaGreatDoor
namespace Go.Proofs.YtmdkmedlncfcbaaGreatDoor
open Go.RowKit Go.Shelf
set_option linter.unusedVariables false
set_option linter.unusedSimpArgs false

set_option maxHeartbeats 4000000 in
set_option maxRecDepth 100000 in
theorem sclone_any (a : Option Addr) (c : Nat) (w : World) : Calls Tryz.prog 99 #[.slice a 0 c] w fun e w' => ∃ a c, e = .returned (.slice a 0 c) ∧ Below w.heap.size w w' := by
  cases a with
  | none =>
    have he : ∀ w : World, (binOp .eql 25 (.slice none 0 c) (.slice none 0 0)).run Tryz.prog w = .ok (.bool true) w := fun _ => by kernel_rfl
    go_enter Tryz.func99, Tryz.ntmps99
    go_wp2
    go_ret
    exact ⟨_, _, rfl, Below.refl _ _⟩
  | some a =>
    have he : ∀ w : World, (binOp .eql 25 (.slice (some a) 0 c) (.slice none 0 0)).run Tryz.prog w = .ok (.bool false) w := fun _ => by kernel_rfl
    go_enter Tryz.func99, Tryz.ntmps99
    go_wp2
    go_ret
    exact ⟨_, _, rfl, keep w _⟩
theorem own_shape {w : World} {B : Nat} {v : Value} {l : List Int} (h : Own w B v l) : ∃ a n c, v = .slice a n c := by
  rcases h.2 with ⟨rfl, _⟩ | ⟨g, cap, cur, rfl, _⟩
  · exact ⟨_, _, _, rfl⟩
  · exact ⟨_, _, _, rfl⟩
theorem fin3_below {w X : World} {R : Nat} (h : Below w.heap.size w X) (hR : w.heap.size ≤ R) (x y z : Value) : Below w.heap.size w (fin3 X R x y z) := by
  have ht := fin3_tg (O := fun b => b = R) X R x y z rfl
  exact ⟨ht.1.trans h.os, ht.2.1.trans h.tape, ht.2.2.1.trans h.output, Nat.le_trans h.size ht.2.2.2.1, fun b hb => (ht.2.2.2.2 b (by have := h.size; omega) (by intro q; omega)).trans (h.block b hb)⟩
set_option maxRecDepth 100000 in
theorem cl_ret {w X : World} {x1 y1 z1 : Option Addr} {x2 x3 y2 y3 z2 z3 : Nat} {a b c : Value} {A : Act} (hR : Blk X (w.heap.size + 1) #[a, b, c] 28) (hb : Below w.heap.size w X) (hd : A.defers = []) (h2 : A.tmps[2]?.getD undef = .pointer (some ⟨w.heap.size + 1, 0, none⟩)) :
    bodyPost Tryz.prog Tryz.f56 (fun e w' => ∃ x1 x2 x3 y1 y2 y3 z1 z2 z3, e = .returned (.agg #[.slice x1 x2 x3, .slice y1 y2 y3, .slice z1 z2 z3]) ∧ Below w.heap.size w w') .ret A (fin3 X (w.heap.size + 1) (.slice x1 x2 x3) (.slice y1 y2 y3) (.slice z1 z2 z3)) := by
  obtain ⟨c0, c1, c2⟩ := cells3 (fin3_blk hR (.slice x1 x2 x3) (.slice y1 y2 y3) (.slice z1 z2 z3))
  refine bodyPost_ret (v := partV (.slice x1 x2 x3) (.slice y1 y2 y3) (.slice z1 z2 z3)) ?_ hd ⟨_, _, _, _, _, _, _, _, _, rfl, fin3_below hb (by omega) _ _ _⟩
  simp [results, Tryz.results56, go_sem, c0, c1, c2, h2, partV]
set_option maxHeartbeats 8000000 in
set_option maxRecDepth 100000 in
theorem clone_leaf (fa ba pa : Option Addr) (fc bl bc pc : Nat) (l : List Int) (w : World) (hl : l.length = bl) (hr : Row w ba l) (hn : bl ≤ 10000000) :
    Calls Tryz.prog 56 #[partV (.slice fa 0 fc) (.slice ba bl bc) (.slice pa 0 pc)] w fun e w' => ∃ x1 x2 x3 y1 y2 y3 z1 z2 z3, e = .returned (partV (.slice x1 x2 x3) (.slice y1 y2 y3) (.slice z1 z2 z3)) ∧ Below w.heap.size w w' := by
  have h99 := fun V => sclone_any fa fc V
  have h31 : ∀ V, Below w.heap.size w V → Calls Tryz.prog 31 #[.slice ba bl bc] V fun e w' => ∃ y1 y2 y3, e = .returned (.slice y1 y2 y3) ∧ Below V.heap.size V w' := fun V hV => (clone_any ba bl bc l V hl (row_below hr hV) hn).mono (by
    rintro e w' ⟨v, rfl, ho, hb⟩
    obtain ⟨a, n, c, rfl⟩ := own_shape ho
    exact ⟨_, _, _, rfl, hb⟩)
  unfold partV
  clear hl hr hn
  have hk0 : Below w.heap.size w ((w.alloc (.cells #[.slice fa 0 fc, .slice ba bl bc, .slice pa 0 pc] 28)).alloc (.cells #[.slice none 0 0, .slice none 0 0, .slice none 0 0] 28)) := (keep w _).alloc (by simp) _
  have hP0 : Blk ((w.alloc (.cells #[.slice fa 0 fc, .slice ba bl bc, .slice pa 0 pc] 28)).alloc (.cells #[.slice none 0 0, .slice none 0 0, .slice none 0 0] 28)) w.heap.size #[.slice fa 0 fc, .slice ba bl bc, .slice pa 0 pc] 28 := (Blk.new w _ _).alloc _
  have hR0 : Blk ((w.alloc (.cells #[.slice fa 0 fc, .slice ba bl bc, .slice pa 0 pc] 28)).alloc (.cells #[.slice none 0 0, .slice none 0 0, .slice none 0 0] 28)) (w.heap.size + 1) #[.slice none 0 0, .slice none 0 0, .slice none 0 0] 28 := by
    have := Blk.new (w.alloc (.cells #[.slice fa 0 fc, .slice ba bl bc, .slice pa 0 pc] 28)) #[.slice none 0 0, .slice none 0 0, .slice none 0 0] 28
    rwa [World.size_alloc] at this
  go_enter Tryz.func56, Tryz.ntmps56
  go_wp2_with fail
  generalize ((w.alloc (.cells #[.slice fa 0 fc, .slice ba bl bc, .slice pa 0 pc] 28)).alloc (.cells #[.slice none 0 0, .slice none 0 0, .slice none 0 0] 28)) = W0 at *
  have HB0 : Hid (Below w.heap.size w W0) := hk0
  have HP0 : Hid (Blk W0 w.heap.size #[.slice fa 0 fc, .slice ba bl bc, .slice pa 0 pc] 28) := hP0
  have HR0 : Hid (Blk W0 (w.heap.size + 1) #[.slice none 0 0, .slice none 0 0, .slice none 0 0] 28) := hR0
  have S3 : ∀ V, Below W0.heap.size W0 V → Below W0.heap.size W0 V ∧ V.cell? ⟨w.heap.size, 0, none⟩ = some (.slice fa 0 fc) ∧ V.cell? ⟨w.heap.size, 1, none⟩ = some (.slice ba bl bc) := fun V hV => by
    obtain ⟨c0, c1, _⟩ := cells3 (hP0.below hV hP0.lt)
    exact ⟨hV, c0, c1⟩
  clear hk0 hP0 hR0
  refine wp_region_held_drew (S := (fun V => Below W0.heap.size W0 V ∧ V.cell? ⟨w.heap.size, 0, none⟩ = some (.slice fa 0 fc) ∧ V.cell? ⟨w.heap.size, 1, none⟩ = some (.slice ba bl bc))) (by kernel_rfl) (by exact S3 _ (below_drew (Below.refl _ _))) (fun hHeld => ?_)
  refine takeD (some 6) (i := 0) (v := .pointer (some ⟨w.heap.size, 0, none⟩)) rfl rfl (by kernel_rfl) (by kernel_rfl) (by kernel_rfl) (fun _ _ _ h => h) (Or.inl ⟨by kernel_rfl, ?_⟩) (by assumption) ?_
  · (intro w hSw; (try dsimp only at hSw); go_simp)
  (try simp only [Act.put, List.setIfInBounds_toArray, List.set_cons_zero, List.set_cons_succ])
  refine takeD (some 7) (i := 1) (v := .slice fa 0 fc) rfl rfl (by kernel_rfl) (by kernel_rfl) (by kernel_rfl) (fun _ _ _ h => h) (Or.inl ⟨by kernel_rfl, ?_⟩) (by assumption) ?_
  · (intro w hSw; (try dsimp only at hSw); go_simp)
  (try simp only [Act.put, List.setIfInBounds_toArray, List.set_cons_zero, List.set_cons_succ])
  refine takeD (some 9) (i := 3) (v := .pointer (some ⟨w.heap.size, 1, none⟩)) rfl rfl (by kernel_rfl) (by kernel_rfl) (by kernel_rfl) (fun _ _ _ h => h) (Or.inl ⟨by kernel_rfl, ?_⟩) (by assumption) ?_
  · (intro w hSw; (try dsimp only at hSw); go_simp)
  (try simp only [Act.put, List.setIfInBounds_toArray, List.set_cons_zero, List.set_cons_succ])
  refine takeD (some 10) (i := 4) (v := .slice ba bl bc) rfl rfl (by kernel_rfl) (by kernel_rfl) (by kernel_rfl) (fun _ _ _ h => h) (Or.inl ⟨by kernel_rfl, ?_⟩) (by assumption) ?_
  · (intro w hSw; (try dsimp only at hSw); go_simp)
  (try simp only [Act.put, List.setIfInBounds_toArray, List.set_cons_zero, List.set_cons_succ])
  refine wpAnyH_ready (rs := [2, 7]) (by kernel_rfl) (by simp) ?_
  refine AllReadyH.cons rfl (fun K hK => ?_) (AllReadyH.cons rfl (fun K hK => ?_) AllReadyH.nil)
  · go_simp
    refine (h99 _).mono ?_
    rintro e w1 ⟨x1, x3, rfl, hb1⟩
    have hB1 : Below W0.heap.size W0 w1 := hHeld.1.trans (hb1.mono hHeld.1.size)
    refine hK.out _ _ (S3 _ hB1) (fun hHeld => ?_)
    clear hK K
    refine wpAnyH_ready (rs := [5, 7]) (by kernel_rfl) (by simp) ?_
    refine AllReadyH.cons rfl (fun K hK => ?_) (AllReadyH.cons rfl (fun K hK => ?_) AllReadyH.nil)
    · go_simp
      refine (h31 _ (HB0.out.trans (hHeld.1.mono HB0.out.size))).mono ?_
      rintro e w2 ⟨y1, y2, y3, rfl, hb2⟩
      have hB2 : Below W0.heap.size W0 w2 := hHeld.1.trans (hb2.mono hHeld.1.size)
      refine hK.out _ _ (S3 _ hB2) (fun hHeld => ?_)
      clear hK K
      refine takeD (some 12) (i := 6) (v := .agg #[.slice x1 0 x3, .slice y1 y2 y3, .slice none 0 0]) rfl rfl (by kernel_rfl) (by kernel_rfl) (by kernel_rfl) (fun _ _ _ h => h) (Or.inl ⟨by kernel_rfl, ?_⟩) (by assumption) ?_
      · (intro w hSw; (try dsimp only at hSw); go_simp)
      (try simp only [Act.put, List.setIfInBounds_toArray, List.set_cons_zero, List.set_cons_succ])
      refine wpAnyH_ready (rs := [7]) (by kernel_rfl) (by simp) ?_
      refine AllReadyH.cons rfl (fun K hK => ?_) AllReadyH.nil
      go_simp
      refine hK.out _ _ (S3 _ (hB2.alloc hB2.size _)) (fun hHeld => ?_)
      clear hK K
      refine wpAnyH_ready (rs := [8]) (by kernel_rfl) (by simp) ?_
      refine AllReadyH.cons rfl (fun K hK => ?_) AllReadyH.nil
      go_simp
      have hG := Blk.new w2 #[.slice x1 0 x3, .slice y1 y2 y3, .slice none 0 0] 28
      have hX : Below W0.heap.size W0 (w2.alloc (.cells #[.slice x1 0 x3, .slice y1 y2 y3, .slice none 0 0] 28)) := hB2.alloc hB2.size _
      refine hK.out _ _ (S3 _ hX) (fun hHeld => ?_)
      clear hK K
      generalize w2.alloc (.cells #[.slice x1 0 x3, .slice y1 y2 y3, .slice none 0 0] 28) = X at *
      generalize w2.heap.size = g at *
      refine wpAnyH_done (by kernel_rfl) ?_ _
      obtain ⟨p0, p1, p2⟩ := cells3 (HP0.out.below hX HP0.out.lt)
      obtain ⟨r0, r1, r2⟩ := cells3 (HR0.out.below hX HR0.out.lt)
      obtain ⟨g0, g1, g2⟩ := cells3 hG
      have HX : Hid (Below w.heap.size w X) := HB0.out.trans (hX.mono HB0.out.size)
      have HRX : Hid (Blk X (w.heap.size + 1) #[.slice none 0 0, .slice none 0 0, .slice none 0 0] 28) := HR0.out.below hX HR0.out.lt
      have f0 := HRX.out.frozen 0
      have f1 := HRX.out.frozen 1
      have f2 := HRX.out.frozen 2
      clear hHeld hX hG S3 h99 h31
      go_wp2_with fail
      go_loopw [16] (fun i wr => i = .int .i64 0 ∧ wr = X) (fun _ _ => 0)
      case atStart => exact ⟨rfl, rfl⟩
      case round =>
        obtain ⟨rfl, rfl⟩ := hrel
        go_wp2
        exact cl_ret HRX.out HX.out rfl rfl
    · have hG := Blk.new w1 #[.slice none 0 0, .slice none 0 0, .slice none 0 0] 28
      have hsz := hB1.size
      go_simp
      refine hK.out _ _ (S3 _ (hB1.alloc hB1.size _)) (fun hHeld => ?_)
      clear hK K
      refine wpAnyH_ready (rs := [5]) (by kernel_rfl) (by simp) ?_
      refine AllReadyH.cons rfl (fun K hK => ?_) AllReadyH.nil
      go_simp
      refine (h31 _ (HB0.out.trans (hHeld.1.mono HB0.out.size))).mono ?_
      rintro e w2 ⟨y1, y2, y3, rfl, hb2⟩
      have hB2 : Below W0.heap.size W0 w2 := hHeld.1.trans (hb2.mono hHeld.1.size)
      refine hK.out _ _ (S3 _ hB2) (fun hHeld => ?_)
      clear hK K
      refine takeD (some 12) (i := 6) (v := .agg #[.slice x1 0 x3, .slice y1 y2 y3, .slice none 0 0]) rfl rfl (by kernel_rfl) (by kernel_rfl) (by kernel_rfl) (fun _ _ _ h => h) (Or.inl ⟨by kernel_rfl, ?_⟩) (by assumption) ?_
      · (intro w hSw; (try dsimp only at hSw); go_simp)
      (try simp only [Act.put, List.setIfInBounds_toArray, List.set_cons_zero, List.set_cons_succ])
      have hG2 := hG.below hb2 hG.lt
      obtain ⟨g0, g1, g2⟩ := cells3 hG2
      have f0 := hG2.frozen 0
      have f1 := hG2.frozen 1
      have f2 := hG2.frozen 2
      have HG : Hid (Blk (fin3 w2 w1.heap.size (.slice x1 0 x3) (.slice y1 y2 y3) (.slice none 0 0)) w1.heap.size #[.slice x1 0 x3, .slice y1 y2 y3, .slice none 0 0] 28) := fin3_blk hG2 _ _ _
      have hX : Below W0.heap.size W0 (fin3 w2 w1.heap.size (.slice x1 0 x3) (.slice y1 y2 y3) (.slice none 0 0)) := fin3_below hB2 (by omega) _ _ _
      refine wpAnyH_ready (rs := [8]) (by kernel_rfl) (by simp) ?_
      refine AllReadyH.cons rfl (fun K hK => ?_) AllReadyH.nil
      go_simp
      refine hK.out _ _ (S3 _ hX) (fun hHeld => ?_)
      clear hK K
      have hG3 := HG.out
      unfold fin3 at hX hG3 HG
      clear HG hG hG2 g0 g1 g2 f0 f1 f2
      generalize ((w2.setCell ⟨w1.heap.size, 0, none⟩ (.slice x1 0 x3)).setCell ⟨w1.heap.size, 1, none⟩ (.slice y1 y2 y3)).setCell ⟨w1.heap.size, 2, none⟩ (.slice none 0 0) = X at *
      have hG := hG3
      clear hG3
      refine wpAnyH_done (by kernel_rfl) ?_ _
      obtain ⟨p0, p1, p2⟩ := cells3 (HP0.out.below hX HP0.out.lt)
      obtain ⟨r0, r1, r2⟩ := cells3 (HR0.out.below hX HR0.out.lt)
      obtain ⟨g0, g1, g2⟩ := cells3 hG
      have HX : Hid (Below w.heap.size w X) := HB0.out.trans (hX.mono HB0.out.size)
      have HRX : Hid (Blk X (w.heap.size + 1) #[.slice none 0 0, .slice none 0 0, .slice none 0 0] 28) := HR0.out.below hX HR0.out.lt
      have f0 := HRX.out.frozen 0
      have f1 := HRX.out.frozen 1
      have f2 := HRX.out.frozen 2
      clear hHeld hX hG S3 h99 h31
      go_wp2_with fail
      go_loopw [16] (fun i wr => i = .int .i64 0 ∧ wr = X) (fun _ _ => 0)
      case atStart => exact ⟨rfl, rfl⟩
      case round =>
        obtain ⟨rfl, rfl⟩ := hrel
        go_wp2
        exact cl_ret HRX.out HX.out rfl rfl
  · have hG0 := Blk.new W0 #[.slice none 0 0, .slice none 0 0, .slice none 0 0] 28
    go_simp
    refine hK.out _ _ (S3 _ (below_drew ((Below.refl _ W0).alloc (Nat.le_refl _) _))) (fun hHeld => ?_)
    clear hK K
    refine wpAnyH_ready (rs := [2]) (by kernel_rfl) (by simp) ?_
    refine AllReadyH.cons rfl (fun K hK => ?_) AllReadyH.nil
    go_simp
    refine (h99 _).mono ?_
    rintro e w1 ⟨x1, x3, rfl, hb1⟩
    have hB1 : Below W0.heap.size W0 w1 := hHeld.1.trans (hb1.mono hHeld.1.size)
    have hG : Blk w1 W0.heap.size #[.slice none 0 0, .slice none 0 0, .slice none 0 0] 28 := Blk.below (W := (W0.alloc (.cells #[.slice none 0 0, .slice none 0 0, .slice none 0 0] 28)).drew) hG0 hb1 hG0.lt
    refine hK.out _ _ (S3 _ hB1) (fun hHeld => ?_)
    clear hK K
    refine wpAnyH_ready (rs := [5]) (by kernel_rfl) (by simp) ?_
    refine AllReadyH.cons rfl (fun K hK => ?_) AllReadyH.nil
    go_simp
    refine (h31 _ (HB0.out.trans (hHeld.1.mono HB0.out.size))).mono ?_
    rintro e w2 ⟨y1, y2, y3, rfl, hb2⟩
    have hB2 : Below W0.heap.size W0 w2 := hHeld.1.trans (hb2.mono hHeld.1.size)
    refine hK.out _ _ (S3 _ hB2) (fun hHeld => ?_)
    clear hK K
    refine takeD (some 12) (i := 6) (v := .agg #[.slice x1 0 x3, .slice y1 y2 y3, .slice none 0 0]) rfl rfl (by kernel_rfl) (by kernel_rfl) (by kernel_rfl) (fun _ _ _ h => h) (Or.inl ⟨by kernel_rfl, ?_⟩) (by assumption) ?_
    · (intro w hSw; (try dsimp only at hSw); go_simp)
    (try simp only [Act.put, List.setIfInBounds_toArray, List.set_cons_zero, List.set_cons_succ])
    have hG2 := hG.below hb2 hG.lt
    obtain ⟨g0, g1, g2⟩ := cells3 hG2
    have f0 := hG2.frozen 0
    have f1 := hG2.frozen 1
    have f2 := hG2.frozen 2
    have HG : Hid (Blk (fin3 w2 W0.heap.size (.slice x1 0 x3) (.slice y1 y2 y3) (.slice none 0 0)) W0.heap.size #[.slice x1 0 x3, .slice y1 y2 y3, .slice none 0 0] 28) := fin3_blk hG2 _ _ _
    have hX : Below W0.heap.size W0 (fin3 w2 W0.heap.size (.slice x1 0 x3) (.slice y1 y2 y3) (.slice none 0 0)) := fin3_below hB2 (by omega) _ _ _
    refine wpAnyH_ready (rs := [8]) (by kernel_rfl) (by simp) ?_
    refine AllReadyH.cons rfl (fun K hK => ?_) AllReadyH.nil
    go_simp
    refine hK.out _ _ (S3 _ hX) (fun hHeld => ?_)
    clear hK K
    have hG3 := HG.out
    unfold fin3 at hX hG3 HG
    clear HG hG hG2 g0 g1 g2 f0 f1 f2
    generalize ((w2.setCell ⟨W0.heap.size, 0, none⟩ (.slice x1 0 x3)).setCell ⟨W0.heap.size, 1, none⟩ (.slice y1 y2 y3)).setCell ⟨W0.heap.size, 2, none⟩ (.slice none 0 0) = X at *
    have hG := hG3
    clear hG3
    refine wpAnyH_done (by kernel_rfl) ?_ _
    obtain ⟨p0, p1, p2⟩ := cells3 (HP0.out.below hX HP0.out.lt)
    obtain ⟨r0, r1, r2⟩ := cells3 (HR0.out.below hX HR0.out.lt)
    obtain ⟨g0, g1, g2⟩ := cells3 hG
    have HX : Hid (Below w.heap.size w X) := HB0.out.trans (hX.mono HB0.out.size)
    have HRX : Hid (Blk X (w.heap.size + 1) #[.slice none 0 0, .slice none 0 0, .slice none 0 0] 28) := HR0.out.below hX HR0.out.lt
    have f0 := HRX.out.frozen 0
    have f1 := HRX.out.frozen 1
    have f2 := HRX.out.frozen 2
    clear hHeld hX hG S3 h99 h31
    go_wp2_with fail
    go_loopw [16] (fun i wr => i = .int .i64 0 ∧ wr = X) (fun _ _ => 0)
    case atStart => exact ⟨rfl, rfl⟩
    case round =>
      obtain ⟨rfl, rfl⟩ := hrel
      go_wp2
      exact cl_ret HRX.out HX.out rfl rfl
end Go.Proofs.YtmdkmedlncfcbaaGreatDoor
namespace Go.Proofs.YtmdkmedlncfcbaaGreatDoor
open Go.RowKit Go.Shelf
set_option linter.unusedVariables false
set_option linter.unusedSimpArgs false

def tpS : ByteArray := ⟨#[116, 101, 120, 116, 47, 112, 108, 97, 105, 110]⟩
def fnF (F T O : Nat) : Value := .func (.func 54) #[] #[.pointer (some ⟨F, 0, none⟩), .pointer (some ⟨T, 0, none⟩), .pointer (some ⟨O, 0, none⟩)]
def FPost (w : World) (Bo O n : Nat) (e : Ending) (w' : World) : Prop :=
  (∃ u, e = .returned u) ∧ Tg (fun b => b = O ∨ Bo ≤ b) w w' ∧ ∃ v xs, Blk w' O #[v] 26 ∧ w'.ownsRow Bo 28 3 v n xs
theorem own_in {W : World} {B g n c : Nat} {xs : List Value} (h : W.ownsRow B 28 3 (.slice (some ⟨g, 0, none⟩) n c) n xs) (j : Nat) (u : Value) : ∃ xs', (W.setCell ⟨g, j, none⟩ u).ownsRow B 28 3 (.slice (some ⟨g, 0, none⟩) n c) n xs' := by
  rcases h.2 with ⟨q, _⟩ | ⟨g', cap, cur, h1, h2, h3, h4, h5, h6, h7⟩
  · cases q
  · cases h1
    have hs := heap_setCell_same _ _ j _ 28 u h3
    refine ⟨(cur.setIfInBounds j u).toList.take (n * 3), ?_, .inr ⟨g, c, _, rfl, h2, hs, h4, h5, by simpa using h6, rfl⟩⟩
    have : n * 3 ≤ cur.size := by omega
    simp; omega
theorem own_at {W : World} {B g n c : Nat} {xs : List Value} (h : W.ownsRow B 28 3 (.slice (some ⟨g, 0, none⟩) n c) n xs) (j : Nat) (hj : j < n * 3) : (∃ u, W.cell? ⟨g, j, none⟩ = some u) ∧ W.frozen? ⟨g, j, none⟩ = false := by
  rcases h.2 with ⟨q, _⟩ | ⟨g', cap, cur, h1, h2, h3, h4, h5, h6, h7⟩
  · cases q
  · cases h1
    have hb : Blk W g cur 28 := h3
    refine ⟨⟨cur[j]'(by omega), ?_⟩, hb.frozen j⟩
    rw [hb.cell j, Array.getElem?_eq_getElem (by omega)]
theorem own_in3 {W : World} {B g n c : Nat} {xs : List Value} (h : W.ownsRow B 28 3 (.slice (some ⟨g, 0, none⟩) n c) n xs) (i j k : Nat) (x y z : Value) : ∃ xs', (((W.setCell ⟨g, i, none⟩ x).setCell ⟨g, j, none⟩ y).setCell ⟨g, k, none⟩ z).ownsRow B 28 3 (.slice (some ⟨g, 0, none⟩) n c) n xs' := by
  obtain ⟨_, h1⟩ := own_in h i x
  obtain ⟨_, h2⟩ := own_in h1 j y
  exact own_in h2 k z
theorem fl_ret {w X : World} {Bo O n : Nat} {v : Value} {xs : List Value} {A : Act} (ht : Tg (fun b => b = O ∨ Bo ≤ b) w X) (hO : Blk X O #[v] 26) (hw : X.ownsRow Bo 28 3 v n xs) (hd : A.defers = []) : bodyPost Tryz.prog Tryz.f54 (FPost w Bo O n) .normal A X := by
  exact bodyPost_end (v := .tuple #[]) (by simp [results, Tryz.results54]) hd ⟨⟨_, rfl⟩, ht, v, xs, hO, hw⟩
set_option maxHeartbeats 8000000 in
set_option maxRecDepth 100000 in
theorem find_leaf (h F T O Bo n : Nat) (va : Option Addr) (vn vc : Nat) (xs : List Value) (t : Prt) (x y z : Value) (w : World) (hp : PtAt (h + 1) w t x y z) (hfs : t.fs = []) (hps : t.ps = []) (hbl : t.body.length ≤ 10000000) (hO : Blk w O #[.slice va vn vc] 26) (hown : w.ownsRow Bo 28 3 (.slice va vn vc) n xs) (hT : Blk w T #[.string tpS] 9) (hOB : O < Bo) (hTB : T < Bo) (hB : Bo ≤ w.heap.size) (hn : n ≤ 10) :
    Calls Tryz.prog 54 #[partV x y z, .pointer (some ⟨F, 0, none⟩), .pointer (some ⟨T, 0, none⟩), .pointer (some ⟨O, 0, none⟩)] w (FPost w Bo O (n + 1)) := by
  obtain ⟨⟨fa, fc, rfl, fr, fl⟩, ⟨ba, bc, rfl, bl, bm, bn, bb, br⟩, ⟨_, pa, pc, rfl, _⟩⟩ := hp
  obtain ⟨bl', hbl'⟩ : ∃ k, t.body.length = k := ⟨_, rfl⟩
  rw [hfs, hps]
  have hvn : vn = n := by
    rcases hown.2 with ⟨q, q2⟩ | ⟨_, _, _, q, _⟩
    · cases q; omega
    · cases q; rfl
  subst hvn
  have hki := kind_any fa 0 fc (.slice ba bl' bc) (.slice pa 0 pc) [] (w.alloc (.cells #[.slice fa 0 fc, .slice ba bl' bc, .slice pa 0 pc] 28)) rfl (.inl rfl) (by unfold FitF; simp) rfl rfl
  have hcl := fun V (hV : Below w.heap.size w V) => clone_leaf fa ba pa fc bl' bc pc t.body V hbl' (row_below br hV) (by omega)
  rw [hbl']
  have hG0 := Blk.new w #[.slice fa 0 fc, .slice ba bl' bc, .slice pa 0 pc] 28
  have hk0 := keep w (.cells #[.slice fa 0 fc, .slice ba bl' bc, .slice pa 0 pc] 28)
  obtain ⟨G, hG⟩ : ∃ G, w.heap.size = G := ⟨_, rfl⟩
  obtain ⟨w0, hw0⟩ : ∃ w0, w.alloc (.cells #[.slice fa 0 fc, .slice ba bl' bc, .slice pa 0 pc] 28) = w0 := ⟨_, rfl⟩
  have hz0 : w0.heap.size = G + 1 := by rw [← hw0, ← hG]; simp
  rw [hw0] at hki hG0 hk0
  obtain ⟨q0, q1, q2⟩ := cells3 hG0
  unfold partV at hki hcl
  unfold partV
  have HCL : Hid (∀ V, Below w.heap.size w V → Calls Tryz.prog 56 #[.agg #[.slice fa 0 fc, .slice ba bl' bc, .slice pa 0 pc]] V fun e w' => ∃ x1 x2 x3 y1 y2 y3 z1 z2 z3, e = .returned (.agg #[.slice x1 x2 x3, .slice y1 y2 y3, .slice z1 z2 z3]) ∧ Below V.heap.size V w') := hcl
  have HK0 : Hid (Below w.heap.size w w0) := hk0
  have HG0 : Hid (Blk w0 w.heap.size #[.slice fa 0 fc, .slice ba bl' bc, .slice pa 0 pc] 28) := hG0
  have HO : Hid (Blk w O #[.slice va vn vc] 26) := hO
  have HOW : Hid (w.ownsRow Bo 28 3 (.slice va vn vc) vn xs) := hown
  have HT : Hid (Blk w T #[.string tpS] 9) := hT
  have HG : Hid (w.heap.size = G) := hG
  have HZ : Hid (w0.heap.size = G + 1) := hz0
  rw [hG] at q0 q1 q2 hB
  clear hcl hk0 hG0 hO hown hT hfs hps fr fl bl bm bn bb br hbl' hbl hz0
  go_enter Tryz.func54, Tryz.ntmps54
  go_wp2_with fail
  refine hki.mono ?_
  rintro e w5 ⟨ty, sub, ka, kc, ks, kcd, rfl, hka, hb5, hkans⟩
  clear hki
  have hkn : knd [] = some ([116, 101, 120, 116], [112, 108, 97, 105, 110], []) := rfl
  obtain ⟨hk0, hty, hsub⟩ : kcd = 0 ∧ nums ty = [116, 101, 120, 116] ∧ nums sub = [112, 108, 97, 105, 110] := by
    rcases hkans with ⟨h1, h2⟩ | ⟨_, _, h2⟩
    · rw [hkn] at h2
      simp only [knOf, Option.some.injEq, Prod.mk.injEq] at h2
      exact ⟨h1, h2.1.symm, h2.2.1.symm⟩
    · rw [hkn] at h2; cases h2
  subst hk0
  have hmp : (ty.toList == [109, 117, 108, 116, 105, 112, 97, 114, 116]) = false := by
    have := mp_eq ty
    rw [mp_list] at this
    rw [this, hty]; decide
  have his := fun V => Kd.is_any ty sub ka ks.length kc tpS V (by have := hka.2.1; have := congrArg List.length hty; simp [nums] at this; omega) (by have := congrArg List.length hsub; simp [nums] at this; omega)
  have htp : decide (nums tpS = nums ty ++ 47 :: nums sub) = true := by rw [hty, hsub]; decide
  rw [htp] at his
  unfold Kd.kindV at his ⊢
  have HB5 : Hid (Below w.heap.size w w5) := HK0.out.trans (hb5.mono HK0.out.size)
  have hG5 : Blk w5 G #[.slice fa 0 fc, .slice ba bl' bc, .slice pa 0 pc] 28 := by have := HG0.out.below hb5 HG0.out.lt; rwa [HG.out] at this
  have hT5 : Blk w5 T #[.string tpS] 9 := HT.out.below HB5.out HT.out.lt
  have hlt5 := hT5.lt
  have c5 := cell1 (hT5.alloc (.cells #[.string ty, .string sub, .slice ka ks.length kc] 39))
  have c6 := cell1 hT5
  clear hkans hka hkn htp hty hsub q0 q1 q2
  go_wp2_with fail
  refine (his _).mono ?_
  rintro e w6 ⟨rfl, hb6⟩
  clear his hmp
  have HB6 : Hid (Below w.heap.size w w6) := HB5.out.trans ((((Below.refl _ w5).alloc (Nat.le_refl _) _).trans (hb6.mono (by simp))).mono HB5.out.size)
  have HG6 : Hid (Blk w6 G #[.slice fa 0 fc, .slice ba bl' bc, .slice pa 0 pc] 28) := (hG5.alloc _).below hb6 (hG5.alloc _).lt
  have HO6 : Hid (Blk w6 O #[.slice va vn vc] 26) := HO.out.below HB6.out HO.out.lt
  have HW6 : Hid (w6.ownsRow Bo 28 3 (.slice va vn vc) vn xs) := own_keep HOW.out HB6.out
  have HVL : Hid (∀ k, (Value.slice va vn vc).ownBlock = some k → Bo ≤ k ∧ k < G) := fun k hk => by have := HOW.out.lt _ hk; rw [HG.out] at this; exact this
  have hz6 : G ≤ w6.heap.size := by have := HB6.out.size; rw [HG.out] at this; exact this
  have S3 : ∀ V, Blk V G #[.slice fa 0 fc, .slice ba bl' bc, .slice pa 0 pc] 28 → V.cell? ⟨G, 0, none⟩ = some (.slice fa 0 fc) ∧ V.cell? ⟨G, 1, none⟩ = some (.slice ba bl' bc) ∧ V.cell? ⟨G, 2, none⟩ = some (.slice pa 0 pc) := fun V h => cells3 h
  obtain ⟨j0, hi, hz0, hz1, hz2⟩ := info_parts Tryz.info28
  clear hb6 hb5 hG5 hT5 hlt5 c5 c6
  go_wp2_with fail
  refine wp_region_held_drew (S := (fun V => V.cell? ⟨G, 0, none⟩ = some (.slice fa 0 fc) ∧ V.cell? ⟨G, 1, none⟩ = some (.slice ba bl' bc) ∧ V.cell? ⟨G, 2, none⟩ = some (.slice pa 0 pc))) (by kernel_rfl) (S3 _ (show Blk w6.drew G #[.slice fa 0 fc, .slice ba bl' bc, .slice pa 0 pc] 28 from HG6.out)) (fun hHeld => ?_)
  have hB : Below w6.heap.size w6 w6.drew := below_drew (Below.refl _ _)
  generalize w6.drew = V at *
  refine takeD (some 37) (i := 1) (v := .agg #[.slice fa 0 fc, .slice ba bl' bc, .slice pa 0 pc]) rfl rfl (by kernel_rfl) (by kernel_rfl) (by kernel_rfl) (fun _ _ _ h => h) (Or.inl ⟨by kernel_rfl, ?_⟩) (by assumption) ?_
  · (intro w hSw; (try dsimp only at hSw); go_simp)
  (try simp only [Act.put, List.setIfInBounds_toArray, List.set_cons_zero, List.set_cons_succ])
  refine wpAnyH_ready (rs := [0, 2, 4]) (by kernel_rfl) (by simp) ?_
  refine AllReadyH.cons rfl (fun K hK => ?_) (AllReadyH.cons rfl (fun K hK => ?_) (AllReadyH.cons rfl (fun K hK => ?_) AllReadyH.nil))
  · have e0 := cell1 (HO6.out.below hB HO6.out.lt)
    go_simp
    refine hK.out _ _ (S3 _ (HG6.out.below hB HG6.out.lt)) (fun hHeld => ?_)
    clear hK K
    clear e0
    refine takeD (some 39) (i := 3) (v := .int .i64 (vn : Nat)) rfl rfl (by kernel_rfl) (by kernel_rfl) (by kernel_rfl) (fun _ _ _ h => h) (Or.inl ⟨by kernel_rfl, ?_⟩) (by assumption) ?_
    · (intro w hSw; (try dsimp only at hSw); go_simp)
    (try simp only [Act.put, List.setIfInBounds_toArray, List.set_cons_zero, List.set_cons_succ])
    refine wpAnyH_ready (rs := [2, 4]) (by kernel_rfl) (by simp) ?_
    refine AllReadyH.cons rfl (fun K hK => ?_) (AllReadyH.cons rfl (fun K hK => ?_) AllReadyH.nil)
    · go_simp
      refine (HCL.out _ (HB6.out.trans (hB.mono HB6.out.size))).mono ?_
      rintro e V1' ⟨x1, x2, x3, y1, y2, y3, z1, z2, z3, rfl, hb⟩
      have hB' : Below w6.heap.size w6 V1' := hB.trans (hb.mono hB.size)
      refine hK.out _ _ (S3 _ (HG6.out.below hB' HG6.out.lt)) (fun hHeld => ?_)
      clear hK K
      clear hHeld hB hb
      have hB := hB'
      clear hB' 
      refine wpAnyH_ready (rs := [4]) (by kernel_rfl) (by simp) ?_
      refine AllReadyH.cons rfl (fun K hK => ?_) AllReadyH.nil
      have hR := Blk.new V1' #[.slice none 0 0, .slice none 0 0, .slice none 0 0] 28
      have hB' : Below w6.heap.size w6 (V1'.alloc (.cells #[.slice none 0 0, .slice none 0 0, .slice none 0 0] 28)) := hB.alloc hB.size _
      go_simp
      refine hK.out _ _ (S3 _ (HG6.out.below hB' HG6.out.lt)) (fun hHeld => ?_)
      clear hK K
      generalize hV2a : V1'.alloc (.cells #[.slice none 0 0, .slice none 0 0, .slice none 0 0] 28) = V2a at *
      generalize V1'.heap.size = r at *
      clear hHeld hV2a hB
      have hB := hB'
      clear hB'
      have HOV : Hid (V2a.ownsRow Bo 28 3 (.slice va vn vc) vn xs) := own_keep HW6.out hB
      have hzB := hB.size
      refine wpAnyH_ready (rs := [5]) (by kernel_rfl) (by simp) ?_
      refine AllReadyH.cons rfl (fun K hK => ?_) AllReadyH.nil
      refine step_append_lies _ rfl (.tmp 36) (.tmp 40) 26 rfl Bo 28 j0 _ 3 72 Tryz.underlying26 hi hz0 hz1 hz2 rfl (by decide) (.slice va vn vc) vn xs rfl HOV.out ⟨r, 0, none⟩ 1 1 [.slice none 0 0, .slice none 0 0, .slice none 0 0] rfl rfl (fun j u hu => World.news_of_block hR j u hu) (by intro u hu; simp at hu; subst hu; rfl) (by decide) (by unfold maxLen; omega) (by omega) (by omega) _ rfl ?_
      intro g5 cap5 V3 hown3 hgrow3 hfr3 hg5
      have hG3 : Blk V3 G #[.slice fa 0 fc, .slice ba bl' bc, .slice pa 0 pc] 28 := (hgrow3.block G (HG6.out.below hB HG6.out.lt).lt (fun q => by have := (HVL.out _ q.symm).2; omega)).trans (HG6.out.below hB HG6.out.lt)
      have hO3 : Blk V3 O #[.slice va vn vc] 26 := (hgrow3.block O (HO6.out.below hB HO6.out.lt).lt (fun q => by have := (HVL.out _ q.symm).1; omega)).trans (HO6.out.below hB HO6.out.lt)
      have ht3 : Tg (fun b => b = O ∨ Bo ≤ b) w V3 := (Tg.of_below (O := fun _ => False) (HB6.out.trans (hB.mono HB6.out.size))).two (Tg.grown (O := fun b => Bo ≤ b) hgrow3 (fun b q => (HVL.out _ q).1)) (fun _ _ q => q.elim) (fun b _ q => .inr q)
      have hgB : Bo ≤ g5 := hfr3.elim (fun q => (HVL.out _ q).1) (fun q => by omega)
      have hgG : g5 ≠ G := hfr3.elim (fun q => by have := (HVL.out _ q).2; omega) (fun q => by have := (HG6.out.below hB HG6.out.lt).lt; omega)
      have HW3 : Hid (V3.ownsRow Bo 28 3 (.slice (some ⟨g5, 0, none⟩) (vn + 1) cap5) (vn + 1) (xs ++ [.slice none 0 0, .slice none 0 0, .slice none 0 0])) := hown3
      have HO3 : Hid (Blk V3 O #[.slice va vn vc] 26) := hO3
      have HT3 : Hid (Tg (fun b => b = O ∨ Bo ≤ b) w V3) := ht3
      have HG3 : Hid (Blk V3 G #[.slice fa 0 fc, .slice ba bl' bc, .slice pa 0 pc] 28) := hG3
      refine hK.out _ _ (S3 _ hG3) (fun hHeld => ?_)
      clear hK K
      clear hown3 hgrow3 hfr3 hg5 hG3 hO3 ht3 hR hB hzB HOV hHeld
      have hHeld := S3 _ HG3.out
      have hvb : ¬ ((vn : Int) + 1 ≤ (vn : Int)) := by omega
      refine takeD (some 42) (i := 6) (v := .pointer (some ⟨g5, vn * 3, none⟩)) rfl rfl (by kernel_rfl) (by kernel_rfl) (by kernel_rfl) (fun _ _ _ h => h) (Or.inl ⟨by kernel_rfl, ?_⟩) (by assumption) ?_
      · (intro w hSw; (try dsimp only at hSw); go_simp)
      (try simp only [Act.put, List.setIfInBounds_toArray, List.set_cons_zero, List.set_cons_succ])
      clear hHeld hvb
      refine wpAnyH_ready (rs := [7, 8]) (by kernel_rfl) (by simp) ?_
      refine AllReadyH.cons rfl (fun K hK => ?_) (AllReadyH.cons rfl (fun K hK => ?_) AllReadyH.nil)
      · have HW := HW3
        obtain ⟨⟨u0, a0⟩, b0⟩ := own_at HW.out (vn * 3) (by omega)
        obtain ⟨⟨u1, a1⟩, b1⟩ := own_at HW.out (vn * 3 + 1) (by omega)
        obtain ⟨⟨u2, a2⟩, b2⟩ := own_at HW.out (vn * 3 + 2) (by omega)
        go_simp
        have hG4 : Blk (((V3.setCell ⟨g5, vn * 3, none⟩ (.slice x1 x2 x3)).setCell ⟨g5, vn * 3 + 1, none⟩ (.slice y1 y2 y3)).setCell ⟨g5, vn * 3 + 2, none⟩ (.slice z1 z2 z3)) G #[.slice fa 0 fc, .slice ba bl' bc, .slice pa 0 pc] 28 := ((HG3.out.other (Ne.symm hgG) _).other (Ne.symm hgG) _).other (Ne.symm hgG) _
        have hO4 : Blk (((V3.setCell ⟨g5, vn * 3, none⟩ (.slice x1 x2 x3)).setCell ⟨g5, vn * 3 + 1, none⟩ (.slice y1 y2 y3)).setCell ⟨g5, vn * 3 + 2, none⟩ (.slice z1 z2 z3)) O #[.slice va vn vc] 26 := ((HO3.out.other (by omega) _).other (by omega) _).other (by omega) _
        have ht4 : Tg (fun b => b = O ∨ Bo ≤ b) w (((V3.setCell ⟨g5, vn * 3, none⟩ (.slice x1 x2 x3)).setCell ⟨g5, vn * 3 + 1, none⟩ (.slice y1 y2 y3)).setCell ⟨g5, vn * 3 + 2, none⟩ (.slice z1 z2 z3)) := ((HT3.out.trans (Tg.set _ g5 _ _ (.inr hgB))).trans (Tg.set _ g5 _ _ (.inr hgB))).trans (Tg.set _ g5 _ _ (.inr hgB))
        have ho4 : ∃ xs', (((V3.setCell ⟨g5, vn * 3, none⟩ (.slice x1 x2 x3)).setCell ⟨g5, vn * 3 + 1, none⟩ (.slice y1 y2 y3)).setCell ⟨g5, vn * 3 + 2, none⟩ (.slice z1 z2 z3)).ownsRow Bo 28 3 (.slice (some ⟨g5, 0, none⟩) (vn + 1) cap5) (vn + 1) xs' := own_in3 HW3.out _ _ _ _ _ _
        refine hK.out _ _ (S3 _ hG4) (fun hHeld => ?_)
        clear hK K
        clear a0 a1 a2 b0 b1 b2 HW HW3 HO3 HT3 HG3 hHeld
        generalize (((V3.setCell ⟨g5, vn * 3, none⟩ (.slice x1 x2 x3)).setCell ⟨g5, vn * 3 + 1, none⟩ (.slice y1 y2 y3)).setCell ⟨g5, vn * 3 + 2, none⟩ (.slice z1 z2 z3)) = V4 at *
        refine wpAnyH_ready (rs := [8]) (by kernel_rfl) (by simp) ?_
        refine AllReadyH.cons rfl (fun K hK => ?_) AllReadyH.nil
        have k0 := cell1 hO4
        have k1 := hO4.frozen 0
        go_simp
        refine hK.out _ _ (S3 _ (hG4.other (by omega) _)) (fun hHeld => ?_)
        clear hK K
        refine wpAnyH_done (by kernel_rfl) ?_ _
        obtain ⟨xs', ho4⟩ := ho4
        go_wp2
        exact fl_ret (v := (.slice (some ⟨g5, 0, none⟩) (vn + 1) cap5)) (xs := xs') (ht4.trans (Tg.set _ O 0 _ (.inl rfl))) (hO4.same0 _) (own_set hOB ho4) rfl
      · have k0 := cell1 HO3.out
        have k1 := HO3.out.frozen 0
        go_simp
        have hG4 : Blk (V3.setCell ⟨O, 0, none⟩ (.slice (some ⟨g5, 0, none⟩) (vn + 1) cap5)) G #[.slice fa 0 fc, .slice ba bl' bc, .slice pa 0 pc] 28 := HG3.out.other (by omega) _
        have hO4 : Blk (V3.setCell ⟨O, 0, none⟩ (.slice (some ⟨g5, 0, none⟩) (vn + 1) cap5)) O #[(.slice (some ⟨g5, 0, none⟩) (vn + 1) cap5)] 26 := HO3.out.same0 _
        have ht4 : Tg (fun b => b = O ∨ Bo ≤ b) w (V3.setCell ⟨O, 0, none⟩ (.slice (some ⟨g5, 0, none⟩) (vn + 1) cap5)) := HT3.out.trans (Tg.set _ O 0 _ (.inl rfl))
        have ho4 : (V3.setCell ⟨O, 0, none⟩ (.slice (some ⟨g5, 0, none⟩) (vn + 1) cap5)).ownsRow Bo 28 3 (.slice (some ⟨g5, 0, none⟩) (vn + 1) cap5) (vn + 1) (xs ++ [.slice none 0 0, .slice none 0 0, .slice none 0 0]) := own_set hOB HW3.out
        refine hK.out _ _ (S3 _ hG4) (fun hHeld => ?_)
        clear hK K
        clear k0 k1 HW3 HO3 HT3 HG3 hHeld
        generalize (V3.setCell ⟨O, 0, none⟩ (.slice (some ⟨g5, 0, none⟩) (vn + 1) cap5)) = V4 at *
        have HW : Hid (V4.ownsRow Bo 28 3 (.slice (some ⟨g5, 0, none⟩) (vn + 1) cap5) (vn + 1) (xs ++ [.slice none 0 0, .slice none 0 0, .slice none 0 0])) := ho4
        clear ho4
        refine wpAnyH_ready (rs := [7]) (by kernel_rfl) (by simp) ?_
        refine AllReadyH.cons rfl (fun K hK => ?_) AllReadyH.nil
        obtain ⟨⟨u0, a0⟩, b0⟩ := own_at HW.out (vn * 3) (by omega)
        obtain ⟨⟨u1, a1⟩, b1⟩ := own_at HW.out (vn * 3 + 1) (by omega)
        obtain ⟨⟨u2, a2⟩, b2⟩ := own_at HW.out (vn * 3 + 2) (by omega)
        go_simp
        refine hK.out _ _ (S3 _ (((hG4.other (Ne.symm hgG) _).other (Ne.symm hgG) _).other (Ne.symm hgG) _)) (fun hHeld => ?_)
        clear hK K
        refine wpAnyH_done (by kernel_rfl) ?_ _
        clear a0 a1 a2 b0 b1 b2
        obtain ⟨xs', ho5⟩ := own_in3 HW.out (vn * 3) (vn * 3 + 1) (vn * 3 + 2) (.slice x1 x2 x3) (.slice y1 y2 y3) (.slice z1 z2 z3)
        go_wp2
        exact fl_ret (v := (.slice (some ⟨g5, 0, none⟩) (vn + 1) cap5)) (xs := xs') (((ht4.trans (Tg.set _ g5 _ _ (.inr hgB))).trans (Tg.set _ g5 _ _ (.inr hgB))).trans (Tg.set _ g5 _ _ (.inr hgB))) (((hO4.other (by omega) _).other (by omega) _).other (by omega) _) ho5 rfl
    · have hR := Blk.new V #[.slice none 0 0, .slice none 0 0, .slice none 0 0] 28
      have hB' : Below w6.heap.size w6 (V.alloc (.cells #[.slice none 0 0, .slice none 0 0, .slice none 0 0] 28)) := hB.alloc hB.size _
      go_simp
      refine hK.out _ _ (S3 _ (HG6.out.below hB' HG6.out.lt)) (fun hHeld => ?_)
      clear hK K
      generalize hV1a : V.alloc (.cells #[.slice none 0 0, .slice none 0 0, .slice none 0 0] 28) = V1a at *
      generalize V.heap.size = r at *
      clear hHeld hV1a hB
      have hB := hB'
      clear hB'
      refine wpAnyH_ready (rs := [2]) (by kernel_rfl) (by simp) ?_
      refine AllReadyH.cons rfl (fun K hK => ?_) AllReadyH.nil
      go_simp
      refine (HCL.out _ (HB6.out.trans (hB.mono HB6.out.size))).mono ?_
      rintro e V2' ⟨x1, x2, x3, y1, y2, y3, z1, z2, z3, rfl, hb⟩
      have hB' : Below w6.heap.size w6 V2' := hB.trans (hb.mono hB.size)
      have hR' := hR.below hb hR.lt
      refine hK.out _ _ (S3 _ (HG6.out.below hB' HG6.out.lt)) (fun hHeld => ?_)
      clear hK K
      clear hR
      have hR := hR'
      clear hR'
      clear hHeld hB hb
      have hB := hB'
      clear hB' 
      have HOV : Hid (V2'.ownsRow Bo 28 3 (.slice va vn vc) vn xs) := own_keep HW6.out hB
      have hzB := hB.size
      refine wpAnyH_ready (rs := [5]) (by kernel_rfl) (by simp) ?_
      refine AllReadyH.cons rfl (fun K hK => ?_) AllReadyH.nil
      refine step_append_lies _ rfl (.tmp 36) (.tmp 40) 26 rfl Bo 28 j0 _ 3 72 Tryz.underlying26 hi hz0 hz1 hz2 rfl (by decide) (.slice va vn vc) vn xs rfl HOV.out ⟨r, 0, none⟩ 1 1 [.slice none 0 0, .slice none 0 0, .slice none 0 0] rfl rfl (fun j u hu => World.news_of_block hR j u hu) (by intro u hu; simp at hu; subst hu; rfl) (by decide) (by unfold maxLen; omega) (by omega) (by omega) _ rfl ?_
      intro g5 cap5 V3 hown3 hgrow3 hfr3 hg5
      have hG3 : Blk V3 G #[.slice fa 0 fc, .slice ba bl' bc, .slice pa 0 pc] 28 := (hgrow3.block G (HG6.out.below hB HG6.out.lt).lt (fun q => by have := (HVL.out _ q.symm).2; omega)).trans (HG6.out.below hB HG6.out.lt)
      have hO3 : Blk V3 O #[.slice va vn vc] 26 := (hgrow3.block O (HO6.out.below hB HO6.out.lt).lt (fun q => by have := (HVL.out _ q.symm).1; omega)).trans (HO6.out.below hB HO6.out.lt)
      have ht3 : Tg (fun b => b = O ∨ Bo ≤ b) w V3 := (Tg.of_below (O := fun _ => False) (HB6.out.trans (hB.mono HB6.out.size))).two (Tg.grown (O := fun b => Bo ≤ b) hgrow3 (fun b q => (HVL.out _ q).1)) (fun _ _ q => q.elim) (fun b _ q => .inr q)
      have hgB : Bo ≤ g5 := hfr3.elim (fun q => (HVL.out _ q).1) (fun q => by omega)
      have hgG : g5 ≠ G := hfr3.elim (fun q => by have := (HVL.out _ q).2; omega) (fun q => by have := (HG6.out.below hB HG6.out.lt).lt; omega)
      have HW3 : Hid (V3.ownsRow Bo 28 3 (.slice (some ⟨g5, 0, none⟩) (vn + 1) cap5) (vn + 1) (xs ++ [.slice none 0 0, .slice none 0 0, .slice none 0 0])) := hown3
      have HO3 : Hid (Blk V3 O #[.slice va vn vc] 26) := hO3
      have HT3 : Hid (Tg (fun b => b = O ∨ Bo ≤ b) w V3) := ht3
      have HG3 : Hid (Blk V3 G #[.slice fa 0 fc, .slice ba bl' bc, .slice pa 0 pc] 28) := hG3
      refine hK.out _ _ (S3 _ hG3) (fun hHeld => ?_)
      clear hK K
      clear hown3 hgrow3 hfr3 hg5 hG3 hO3 ht3 hR hB hzB HOV hHeld
      have hHeld := S3 _ HG3.out
      have hvb : ¬ ((vn : Int) + 1 ≤ (vn : Int)) := by omega
      refine takeD (some 42) (i := 6) (v := .pointer (some ⟨g5, vn * 3, none⟩)) rfl rfl (by kernel_rfl) (by kernel_rfl) (by kernel_rfl) (fun _ _ _ h => h) (Or.inl ⟨by kernel_rfl, ?_⟩) (by assumption) ?_
      · (intro w hSw; (try dsimp only at hSw); go_simp)
      (try simp only [Act.put, List.setIfInBounds_toArray, List.set_cons_zero, List.set_cons_succ])
      clear hHeld hvb
      refine wpAnyH_ready (rs := [7, 8]) (by kernel_rfl) (by simp) ?_
      refine AllReadyH.cons rfl (fun K hK => ?_) (AllReadyH.cons rfl (fun K hK => ?_) AllReadyH.nil)
      · have HW := HW3
        obtain ⟨⟨u0, a0⟩, b0⟩ := own_at HW.out (vn * 3) (by omega)
        obtain ⟨⟨u1, a1⟩, b1⟩ := own_at HW.out (vn * 3 + 1) (by omega)
        obtain ⟨⟨u2, a2⟩, b2⟩ := own_at HW.out (vn * 3 + 2) (by omega)
        go_simp
        have hG4 : Blk (((V3.setCell ⟨g5, vn * 3, none⟩ (.slice x1 x2 x3)).setCell ⟨g5, vn * 3 + 1, none⟩ (.slice y1 y2 y3)).setCell ⟨g5, vn * 3 + 2, none⟩ (.slice z1 z2 z3)) G #[.slice fa 0 fc, .slice ba bl' bc, .slice pa 0 pc] 28 := ((HG3.out.other (Ne.symm hgG) _).other (Ne.symm hgG) _).other (Ne.symm hgG) _
        have hO4 : Blk (((V3.setCell ⟨g5, vn * 3, none⟩ (.slice x1 x2 x3)).setCell ⟨g5, vn * 3 + 1, none⟩ (.slice y1 y2 y3)).setCell ⟨g5, vn * 3 + 2, none⟩ (.slice z1 z2 z3)) O #[.slice va vn vc] 26 := ((HO3.out.other (by omega) _).other (by omega) _).other (by omega) _
        have ht4 : Tg (fun b => b = O ∨ Bo ≤ b) w (((V3.setCell ⟨g5, vn * 3, none⟩ (.slice x1 x2 x3)).setCell ⟨g5, vn * 3 + 1, none⟩ (.slice y1 y2 y3)).setCell ⟨g5, vn * 3 + 2, none⟩ (.slice z1 z2 z3)) := ((HT3.out.trans (Tg.set _ g5 _ _ (.inr hgB))).trans (Tg.set _ g5 _ _ (.inr hgB))).trans (Tg.set _ g5 _ _ (.inr hgB))
        have ho4 : ∃ xs', (((V3.setCell ⟨g5, vn * 3, none⟩ (.slice x1 x2 x3)).setCell ⟨g5, vn * 3 + 1, none⟩ (.slice y1 y2 y3)).setCell ⟨g5, vn * 3 + 2, none⟩ (.slice z1 z2 z3)).ownsRow Bo 28 3 (.slice (some ⟨g5, 0, none⟩) (vn + 1) cap5) (vn + 1) xs' := own_in3 HW3.out _ _ _ _ _ _
        refine hK.out _ _ (S3 _ hG4) (fun hHeld => ?_)
        clear hK K
        clear a0 a1 a2 b0 b1 b2 HW HW3 HO3 HT3 HG3 hHeld
        generalize (((V3.setCell ⟨g5, vn * 3, none⟩ (.slice x1 x2 x3)).setCell ⟨g5, vn * 3 + 1, none⟩ (.slice y1 y2 y3)).setCell ⟨g5, vn * 3 + 2, none⟩ (.slice z1 z2 z3)) = V4 at *
        refine wpAnyH_ready (rs := [8]) (by kernel_rfl) (by simp) ?_
        refine AllReadyH.cons rfl (fun K hK => ?_) AllReadyH.nil
        have k0 := cell1 hO4
        have k1 := hO4.frozen 0
        go_simp
        refine hK.out _ _ (S3 _ (hG4.other (by omega) _)) (fun hHeld => ?_)
        clear hK K
        refine wpAnyH_done (by kernel_rfl) ?_ _
        obtain ⟨xs', ho4⟩ := ho4
        go_wp2
        exact fl_ret (v := (.slice (some ⟨g5, 0, none⟩) (vn + 1) cap5)) (xs := xs') (ht4.trans (Tg.set _ O 0 _ (.inl rfl))) (hO4.same0 _) (own_set hOB ho4) rfl
      · have k0 := cell1 HO3.out
        have k1 := HO3.out.frozen 0
        go_simp
        have hG4 : Blk (V3.setCell ⟨O, 0, none⟩ (.slice (some ⟨g5, 0, none⟩) (vn + 1) cap5)) G #[.slice fa 0 fc, .slice ba bl' bc, .slice pa 0 pc] 28 := HG3.out.other (by omega) _
        have hO4 : Blk (V3.setCell ⟨O, 0, none⟩ (.slice (some ⟨g5, 0, none⟩) (vn + 1) cap5)) O #[(.slice (some ⟨g5, 0, none⟩) (vn + 1) cap5)] 26 := HO3.out.same0 _
        have ht4 : Tg (fun b => b = O ∨ Bo ≤ b) w (V3.setCell ⟨O, 0, none⟩ (.slice (some ⟨g5, 0, none⟩) (vn + 1) cap5)) := HT3.out.trans (Tg.set _ O 0 _ (.inl rfl))
        have ho4 : (V3.setCell ⟨O, 0, none⟩ (.slice (some ⟨g5, 0, none⟩) (vn + 1) cap5)).ownsRow Bo 28 3 (.slice (some ⟨g5, 0, none⟩) (vn + 1) cap5) (vn + 1) (xs ++ [.slice none 0 0, .slice none 0 0, .slice none 0 0]) := own_set hOB HW3.out
        refine hK.out _ _ (S3 _ hG4) (fun hHeld => ?_)
        clear hK K
        clear k0 k1 HW3 HO3 HT3 HG3 hHeld
        generalize (V3.setCell ⟨O, 0, none⟩ (.slice (some ⟨g5, 0, none⟩) (vn + 1) cap5)) = V4 at *
        have HW : Hid (V4.ownsRow Bo 28 3 (.slice (some ⟨g5, 0, none⟩) (vn + 1) cap5) (vn + 1) (xs ++ [.slice none 0 0, .slice none 0 0, .slice none 0 0])) := ho4
        clear ho4
        refine wpAnyH_ready (rs := [7]) (by kernel_rfl) (by simp) ?_
        refine AllReadyH.cons rfl (fun K hK => ?_) AllReadyH.nil
        obtain ⟨⟨u0, a0⟩, b0⟩ := own_at HW.out (vn * 3) (by omega)
        obtain ⟨⟨u1, a1⟩, b1⟩ := own_at HW.out (vn * 3 + 1) (by omega)
        obtain ⟨⟨u2, a2⟩, b2⟩ := own_at HW.out (vn * 3 + 2) (by omega)
        go_simp
        refine hK.out _ _ (S3 _ (((hG4.other (Ne.symm hgG) _).other (Ne.symm hgG) _).other (Ne.symm hgG) _)) (fun hHeld => ?_)
        clear hK K
        refine wpAnyH_done (by kernel_rfl) ?_ _
        clear a0 a1 a2 b0 b1 b2
        obtain ⟨xs', ho5⟩ := own_in3 HW.out (vn * 3) (vn * 3 + 1) (vn * 3 + 2) (.slice x1 x2 x3) (.slice y1 y2 y3) (.slice z1 z2 z3)
        go_wp2
        exact fl_ret (v := (.slice (some ⟨g5, 0, none⟩) (vn + 1) cap5)) (xs := xs') (((ht4.trans (Tg.set _ g5 _ _ (.inr hgB))).trans (Tg.set _ g5 _ _ (.inr hgB))).trans (Tg.set _ g5 _ _ (.inr hgB))) (((hO4.other (by omega) _).other (by omega) _).other (by omega) _) ho5 rfl
  · go_simp
    refine (HCL.out _ (HB6.out.trans (hB.mono HB6.out.size))).mono ?_
    rintro e V0' ⟨x1, x2, x3, y1, y2, y3, z1, z2, z3, rfl, hb⟩
    have hB' : Below w6.heap.size w6 V0' := hB.trans (hb.mono hB.size)
    refine hK.out _ _ (S3 _ (HG6.out.below hB' HG6.out.lt)) (fun hHeld => ?_)
    clear hK K
    clear hHeld hB hb
    have hB := hB'
    clear hB' 
    refine wpAnyH_ready (rs := [0, 4]) (by kernel_rfl) (by simp) ?_
    refine AllReadyH.cons rfl (fun K hK => ?_) (AllReadyH.cons rfl (fun K hK => ?_) AllReadyH.nil)
    · have e0 := cell1 (HO6.out.below hB HO6.out.lt)
      go_simp
      refine hK.out _ _ (S3 _ (HG6.out.below hB HG6.out.lt)) (fun hHeld => ?_)
      clear hK K
      clear e0
      refine takeD (some 39) (i := 3) (v := .int .i64 (vn : Nat)) rfl rfl (by kernel_rfl) (by kernel_rfl) (by kernel_rfl) (fun _ _ _ h => h) (Or.inl ⟨by kernel_rfl, ?_⟩) (by assumption) ?_
      · (intro w hSw; (try dsimp only at hSw); go_simp)
      (try simp only [Act.put, List.setIfInBounds_toArray, List.set_cons_zero, List.set_cons_succ])
      refine wpAnyH_ready (rs := [4]) (by kernel_rfl) (by simp) ?_
      refine AllReadyH.cons rfl (fun K hK => ?_) AllReadyH.nil
      have hR := Blk.new V0' #[.slice none 0 0, .slice none 0 0, .slice none 0 0] 28
      have hB' : Below w6.heap.size w6 (V0'.alloc (.cells #[.slice none 0 0, .slice none 0 0, .slice none 0 0] 28)) := hB.alloc hB.size _
      go_simp
      refine hK.out _ _ (S3 _ (HG6.out.below hB' HG6.out.lt)) (fun hHeld => ?_)
      clear hK K
      generalize hV2a : V0'.alloc (.cells #[.slice none 0 0, .slice none 0 0, .slice none 0 0] 28) = V2a at *
      generalize V0'.heap.size = r at *
      clear hHeld hV2a hB
      have hB := hB'
      clear hB'
      have HOV : Hid (V2a.ownsRow Bo 28 3 (.slice va vn vc) vn xs) := own_keep HW6.out hB
      have hzB := hB.size
      refine wpAnyH_ready (rs := [5]) (by kernel_rfl) (by simp) ?_
      refine AllReadyH.cons rfl (fun K hK => ?_) AllReadyH.nil
      refine step_append_lies _ rfl (.tmp 36) (.tmp 40) 26 rfl Bo 28 j0 _ 3 72 Tryz.underlying26 hi hz0 hz1 hz2 rfl (by decide) (.slice va vn vc) vn xs rfl HOV.out ⟨r, 0, none⟩ 1 1 [.slice none 0 0, .slice none 0 0, .slice none 0 0] rfl rfl (fun j u hu => World.news_of_block hR j u hu) (by intro u hu; simp at hu; subst hu; rfl) (by decide) (by unfold maxLen; omega) (by omega) (by omega) _ rfl ?_
      intro g5 cap5 V3 hown3 hgrow3 hfr3 hg5
      have hG3 : Blk V3 G #[.slice fa 0 fc, .slice ba bl' bc, .slice pa 0 pc] 28 := (hgrow3.block G (HG6.out.below hB HG6.out.lt).lt (fun q => by have := (HVL.out _ q.symm).2; omega)).trans (HG6.out.below hB HG6.out.lt)
      have hO3 : Blk V3 O #[.slice va vn vc] 26 := (hgrow3.block O (HO6.out.below hB HO6.out.lt).lt (fun q => by have := (HVL.out _ q.symm).1; omega)).trans (HO6.out.below hB HO6.out.lt)
      have ht3 : Tg (fun b => b = O ∨ Bo ≤ b) w V3 := (Tg.of_below (O := fun _ => False) (HB6.out.trans (hB.mono HB6.out.size))).two (Tg.grown (O := fun b => Bo ≤ b) hgrow3 (fun b q => (HVL.out _ q).1)) (fun _ _ q => q.elim) (fun b _ q => .inr q)
      have hgB : Bo ≤ g5 := hfr3.elim (fun q => (HVL.out _ q).1) (fun q => by omega)
      have hgG : g5 ≠ G := hfr3.elim (fun q => by have := (HVL.out _ q).2; omega) (fun q => by have := (HG6.out.below hB HG6.out.lt).lt; omega)
      have HW3 : Hid (V3.ownsRow Bo 28 3 (.slice (some ⟨g5, 0, none⟩) (vn + 1) cap5) (vn + 1) (xs ++ [.slice none 0 0, .slice none 0 0, .slice none 0 0])) := hown3
      have HO3 : Hid (Blk V3 O #[.slice va vn vc] 26) := hO3
      have HT3 : Hid (Tg (fun b => b = O ∨ Bo ≤ b) w V3) := ht3
      have HG3 : Hid (Blk V3 G #[.slice fa 0 fc, .slice ba bl' bc, .slice pa 0 pc] 28) := hG3
      refine hK.out _ _ (S3 _ hG3) (fun hHeld => ?_)
      clear hK K
      clear hown3 hgrow3 hfr3 hg5 hG3 hO3 ht3 hR hB hzB HOV hHeld
      have hHeld := S3 _ HG3.out
      have hvb : ¬ ((vn : Int) + 1 ≤ (vn : Int)) := by omega
      refine takeD (some 42) (i := 6) (v := .pointer (some ⟨g5, vn * 3, none⟩)) rfl rfl (by kernel_rfl) (by kernel_rfl) (by kernel_rfl) (fun _ _ _ h => h) (Or.inl ⟨by kernel_rfl, ?_⟩) (by assumption) ?_
      · (intro w hSw; (try dsimp only at hSw); go_simp)
      (try simp only [Act.put, List.setIfInBounds_toArray, List.set_cons_zero, List.set_cons_succ])
      clear hHeld hvb
      refine wpAnyH_ready (rs := [7, 8]) (by kernel_rfl) (by simp) ?_
      refine AllReadyH.cons rfl (fun K hK => ?_) (AllReadyH.cons rfl (fun K hK => ?_) AllReadyH.nil)
      · have HW := HW3
        obtain ⟨⟨u0, a0⟩, b0⟩ := own_at HW.out (vn * 3) (by omega)
        obtain ⟨⟨u1, a1⟩, b1⟩ := own_at HW.out (vn * 3 + 1) (by omega)
        obtain ⟨⟨u2, a2⟩, b2⟩ := own_at HW.out (vn * 3 + 2) (by omega)
        go_simp
        have hG4 : Blk (((V3.setCell ⟨g5, vn * 3, none⟩ (.slice x1 x2 x3)).setCell ⟨g5, vn * 3 + 1, none⟩ (.slice y1 y2 y3)).setCell ⟨g5, vn * 3 + 2, none⟩ (.slice z1 z2 z3)) G #[.slice fa 0 fc, .slice ba bl' bc, .slice pa 0 pc] 28 := ((HG3.out.other (Ne.symm hgG) _).other (Ne.symm hgG) _).other (Ne.symm hgG) _
        have hO4 : Blk (((V3.setCell ⟨g5, vn * 3, none⟩ (.slice x1 x2 x3)).setCell ⟨g5, vn * 3 + 1, none⟩ (.slice y1 y2 y3)).setCell ⟨g5, vn * 3 + 2, none⟩ (.slice z1 z2 z3)) O #[.slice va vn vc] 26 := ((HO3.out.other (by omega) _).other (by omega) _).other (by omega) _
        have ht4 : Tg (fun b => b = O ∨ Bo ≤ b) w (((V3.setCell ⟨g5, vn * 3, none⟩ (.slice x1 x2 x3)).setCell ⟨g5, vn * 3 + 1, none⟩ (.slice y1 y2 y3)).setCell ⟨g5, vn * 3 + 2, none⟩ (.slice z1 z2 z3)) := ((HT3.out.trans (Tg.set _ g5 _ _ (.inr hgB))).trans (Tg.set _ g5 _ _ (.inr hgB))).trans (Tg.set _ g5 _ _ (.inr hgB))
        have ho4 : ∃ xs', (((V3.setCell ⟨g5, vn * 3, none⟩ (.slice x1 x2 x3)).setCell ⟨g5, vn * 3 + 1, none⟩ (.slice y1 y2 y3)).setCell ⟨g5, vn * 3 + 2, none⟩ (.slice z1 z2 z3)).ownsRow Bo 28 3 (.slice (some ⟨g5, 0, none⟩) (vn + 1) cap5) (vn + 1) xs' := own_in3 HW3.out _ _ _ _ _ _
        refine hK.out _ _ (S3 _ hG4) (fun hHeld => ?_)
        clear hK K
        clear a0 a1 a2 b0 b1 b2 HW HW3 HO3 HT3 HG3 hHeld
        generalize (((V3.setCell ⟨g5, vn * 3, none⟩ (.slice x1 x2 x3)).setCell ⟨g5, vn * 3 + 1, none⟩ (.slice y1 y2 y3)).setCell ⟨g5, vn * 3 + 2, none⟩ (.slice z1 z2 z3)) = V4 at *
        refine wpAnyH_ready (rs := [8]) (by kernel_rfl) (by simp) ?_
        refine AllReadyH.cons rfl (fun K hK => ?_) AllReadyH.nil
        have k0 := cell1 hO4
        have k1 := hO4.frozen 0
        go_simp
        refine hK.out _ _ (S3 _ (hG4.other (by omega) _)) (fun hHeld => ?_)
        clear hK K
        refine wpAnyH_done (by kernel_rfl) ?_ _
        obtain ⟨xs', ho4⟩ := ho4
        go_wp2
        exact fl_ret (v := (.slice (some ⟨g5, 0, none⟩) (vn + 1) cap5)) (xs := xs') (ht4.trans (Tg.set _ O 0 _ (.inl rfl))) (hO4.same0 _) (own_set hOB ho4) rfl
      · have k0 := cell1 HO3.out
        have k1 := HO3.out.frozen 0
        go_simp
        have hG4 : Blk (V3.setCell ⟨O, 0, none⟩ (.slice (some ⟨g5, 0, none⟩) (vn + 1) cap5)) G #[.slice fa 0 fc, .slice ba bl' bc, .slice pa 0 pc] 28 := HG3.out.other (by omega) _
        have hO4 : Blk (V3.setCell ⟨O, 0, none⟩ (.slice (some ⟨g5, 0, none⟩) (vn + 1) cap5)) O #[(.slice (some ⟨g5, 0, none⟩) (vn + 1) cap5)] 26 := HO3.out.same0 _
        have ht4 : Tg (fun b => b = O ∨ Bo ≤ b) w (V3.setCell ⟨O, 0, none⟩ (.slice (some ⟨g5, 0, none⟩) (vn + 1) cap5)) := HT3.out.trans (Tg.set _ O 0 _ (.inl rfl))
        have ho4 : (V3.setCell ⟨O, 0, none⟩ (.slice (some ⟨g5, 0, none⟩) (vn + 1) cap5)).ownsRow Bo 28 3 (.slice (some ⟨g5, 0, none⟩) (vn + 1) cap5) (vn + 1) (xs ++ [.slice none 0 0, .slice none 0 0, .slice none 0 0]) := own_set hOB HW3.out
        refine hK.out _ _ (S3 _ hG4) (fun hHeld => ?_)
        clear hK K
        clear k0 k1 HW3 HO3 HT3 HG3 hHeld
        generalize (V3.setCell ⟨O, 0, none⟩ (.slice (some ⟨g5, 0, none⟩) (vn + 1) cap5)) = V4 at *
        have HW : Hid (V4.ownsRow Bo 28 3 (.slice (some ⟨g5, 0, none⟩) (vn + 1) cap5) (vn + 1) (xs ++ [.slice none 0 0, .slice none 0 0, .slice none 0 0])) := ho4
        clear ho4
        refine wpAnyH_ready (rs := [7]) (by kernel_rfl) (by simp) ?_
        refine AllReadyH.cons rfl (fun K hK => ?_) AllReadyH.nil
        obtain ⟨⟨u0, a0⟩, b0⟩ := own_at HW.out (vn * 3) (by omega)
        obtain ⟨⟨u1, a1⟩, b1⟩ := own_at HW.out (vn * 3 + 1) (by omega)
        obtain ⟨⟨u2, a2⟩, b2⟩ := own_at HW.out (vn * 3 + 2) (by omega)
        go_simp
        refine hK.out _ _ (S3 _ (((hG4.other (Ne.symm hgG) _).other (Ne.symm hgG) _).other (Ne.symm hgG) _)) (fun hHeld => ?_)
        clear hK K
        refine wpAnyH_done (by kernel_rfl) ?_ _
        clear a0 a1 a2 b0 b1 b2
        obtain ⟨xs', ho5⟩ := own_in3 HW.out (vn * 3) (vn * 3 + 1) (vn * 3 + 2) (.slice x1 x2 x3) (.slice y1 y2 y3) (.slice z1 z2 z3)
        go_wp2
        exact fl_ret (v := (.slice (some ⟨g5, 0, none⟩) (vn + 1) cap5)) (xs := xs') (((ht4.trans (Tg.set _ g5 _ _ (.inr hgB))).trans (Tg.set _ g5 _ _ (.inr hgB))).trans (Tg.set _ g5 _ _ (.inr hgB))) (((hO4.other (by omega) _).other (by omega) _).other (by omega) _) ho5 rfl
    · have hR := Blk.new V0' #[.slice none 0 0, .slice none 0 0, .slice none 0 0] 28
      have hB' : Below w6.heap.size w6 (V0'.alloc (.cells #[.slice none 0 0, .slice none 0 0, .slice none 0 0] 28)) := hB.alloc hB.size _
      go_simp
      refine hK.out _ _ (S3 _ (HG6.out.below hB' HG6.out.lt)) (fun hHeld => ?_)
      clear hK K
      generalize hV1a : V0'.alloc (.cells #[.slice none 0 0, .slice none 0 0, .slice none 0 0] 28) = V1a at *
      generalize V0'.heap.size = r at *
      clear hHeld hV1a hB
      have hB := hB'
      clear hB'
      refine wpAnyH_ready (rs := [0]) (by kernel_rfl) (by simp) ?_
      refine AllReadyH.cons rfl (fun K hK => ?_) AllReadyH.nil
      have e0 := cell1 (HO6.out.below hB HO6.out.lt)
      go_simp
      refine hK.out _ _ (S3 _ (HG6.out.below hB HG6.out.lt)) (fun hHeld => ?_)
      clear hK K
      clear e0
      refine takeD (some 39) (i := 3) (v := .int .i64 (vn : Nat)) rfl rfl (by kernel_rfl) (by kernel_rfl) (by kernel_rfl) (fun _ _ _ h => h) (Or.inl ⟨by kernel_rfl, ?_⟩) (by assumption) ?_
      · (intro w hSw; (try dsimp only at hSw); go_simp)
      (try simp only [Act.put, List.setIfInBounds_toArray, List.set_cons_zero, List.set_cons_succ])
      have HOV : Hid (V1a.ownsRow Bo 28 3 (.slice va vn vc) vn xs) := own_keep HW6.out hB
      have hzB := hB.size
      refine wpAnyH_ready (rs := [5]) (by kernel_rfl) (by simp) ?_
      refine AllReadyH.cons rfl (fun K hK => ?_) AllReadyH.nil
      refine step_append_lies _ rfl (.tmp 36) (.tmp 40) 26 rfl Bo 28 j0 _ 3 72 Tryz.underlying26 hi hz0 hz1 hz2 rfl (by decide) (.slice va vn vc) vn xs rfl HOV.out ⟨r, 0, none⟩ 1 1 [.slice none 0 0, .slice none 0 0, .slice none 0 0] rfl rfl (fun j u hu => World.news_of_block hR j u hu) (by intro u hu; simp at hu; subst hu; rfl) (by decide) (by unfold maxLen; omega) (by omega) (by omega) _ rfl ?_
      intro g5 cap5 V3 hown3 hgrow3 hfr3 hg5
      have hG3 : Blk V3 G #[.slice fa 0 fc, .slice ba bl' bc, .slice pa 0 pc] 28 := (hgrow3.block G (HG6.out.below hB HG6.out.lt).lt (fun q => by have := (HVL.out _ q.symm).2; omega)).trans (HG6.out.below hB HG6.out.lt)
      have hO3 : Blk V3 O #[.slice va vn vc] 26 := (hgrow3.block O (HO6.out.below hB HO6.out.lt).lt (fun q => by have := (HVL.out _ q.symm).1; omega)).trans (HO6.out.below hB HO6.out.lt)
      have ht3 : Tg (fun b => b = O ∨ Bo ≤ b) w V3 := (Tg.of_below (O := fun _ => False) (HB6.out.trans (hB.mono HB6.out.size))).two (Tg.grown (O := fun b => Bo ≤ b) hgrow3 (fun b q => (HVL.out _ q).1)) (fun _ _ q => q.elim) (fun b _ q => .inr q)
      have hgB : Bo ≤ g5 := hfr3.elim (fun q => (HVL.out _ q).1) (fun q => by omega)
      have hgG : g5 ≠ G := hfr3.elim (fun q => by have := (HVL.out _ q).2; omega) (fun q => by have := (HG6.out.below hB HG6.out.lt).lt; omega)
      have HW3 : Hid (V3.ownsRow Bo 28 3 (.slice (some ⟨g5, 0, none⟩) (vn + 1) cap5) (vn + 1) (xs ++ [.slice none 0 0, .slice none 0 0, .slice none 0 0])) := hown3
      have HO3 : Hid (Blk V3 O #[.slice va vn vc] 26) := hO3
      have HT3 : Hid (Tg (fun b => b = O ∨ Bo ≤ b) w V3) := ht3
      have HG3 : Hid (Blk V3 G #[.slice fa 0 fc, .slice ba bl' bc, .slice pa 0 pc] 28) := hG3
      refine hK.out _ _ (S3 _ hG3) (fun hHeld => ?_)
      clear hK K
      clear hown3 hgrow3 hfr3 hg5 hG3 hO3 ht3 hR hB hzB HOV hHeld
      have hHeld := S3 _ HG3.out
      have hvb : ¬ ((vn : Int) + 1 ≤ (vn : Int)) := by omega
      refine takeD (some 42) (i := 6) (v := .pointer (some ⟨g5, vn * 3, none⟩)) rfl rfl (by kernel_rfl) (by kernel_rfl) (by kernel_rfl) (fun _ _ _ h => h) (Or.inl ⟨by kernel_rfl, ?_⟩) (by assumption) ?_
      · (intro w hSw; (try dsimp only at hSw); go_simp)
      (try simp only [Act.put, List.setIfInBounds_toArray, List.set_cons_zero, List.set_cons_succ])
      clear hHeld hvb
      refine wpAnyH_ready (rs := [7, 8]) (by kernel_rfl) (by simp) ?_
      refine AllReadyH.cons rfl (fun K hK => ?_) (AllReadyH.cons rfl (fun K hK => ?_) AllReadyH.nil)
      · have HW := HW3
        obtain ⟨⟨u0, a0⟩, b0⟩ := own_at HW.out (vn * 3) (by omega)
        obtain ⟨⟨u1, a1⟩, b1⟩ := own_at HW.out (vn * 3 + 1) (by omega)
        obtain ⟨⟨u2, a2⟩, b2⟩ := own_at HW.out (vn * 3 + 2) (by omega)
        go_simp
        have hG4 : Blk (((V3.setCell ⟨g5, vn * 3, none⟩ (.slice x1 x2 x3)).setCell ⟨g5, vn * 3 + 1, none⟩ (.slice y1 y2 y3)).setCell ⟨g5, vn * 3 + 2, none⟩ (.slice z1 z2 z3)) G #[.slice fa 0 fc, .slice ba bl' bc, .slice pa 0 pc] 28 := ((HG3.out.other (Ne.symm hgG) _).other (Ne.symm hgG) _).other (Ne.symm hgG) _
        have hO4 : Blk (((V3.setCell ⟨g5, vn * 3, none⟩ (.slice x1 x2 x3)).setCell ⟨g5, vn * 3 + 1, none⟩ (.slice y1 y2 y3)).setCell ⟨g5, vn * 3 + 2, none⟩ (.slice z1 z2 z3)) O #[.slice va vn vc] 26 := ((HO3.out.other (by omega) _).other (by omega) _).other (by omega) _
        have ht4 : Tg (fun b => b = O ∨ Bo ≤ b) w (((V3.setCell ⟨g5, vn * 3, none⟩ (.slice x1 x2 x3)).setCell ⟨g5, vn * 3 + 1, none⟩ (.slice y1 y2 y3)).setCell ⟨g5, vn * 3 + 2, none⟩ (.slice z1 z2 z3)) := ((HT3.out.trans (Tg.set _ g5 _ _ (.inr hgB))).trans (Tg.set _ g5 _ _ (.inr hgB))).trans (Tg.set _ g5 _ _ (.inr hgB))
        have ho4 : ∃ xs', (((V3.setCell ⟨g5, vn * 3, none⟩ (.slice x1 x2 x3)).setCell ⟨g5, vn * 3 + 1, none⟩ (.slice y1 y2 y3)).setCell ⟨g5, vn * 3 + 2, none⟩ (.slice z1 z2 z3)).ownsRow Bo 28 3 (.slice (some ⟨g5, 0, none⟩) (vn + 1) cap5) (vn + 1) xs' := own_in3 HW3.out _ _ _ _ _ _
        refine hK.out _ _ (S3 _ hG4) (fun hHeld => ?_)
        clear hK K
        clear a0 a1 a2 b0 b1 b2 HW HW3 HO3 HT3 HG3 hHeld
        generalize (((V3.setCell ⟨g5, vn * 3, none⟩ (.slice x1 x2 x3)).setCell ⟨g5, vn * 3 + 1, none⟩ (.slice y1 y2 y3)).setCell ⟨g5, vn * 3 + 2, none⟩ (.slice z1 z2 z3)) = V4 at *
        refine wpAnyH_ready (rs := [8]) (by kernel_rfl) (by simp) ?_
        refine AllReadyH.cons rfl (fun K hK => ?_) AllReadyH.nil
        have k0 := cell1 hO4
        have k1 := hO4.frozen 0
        go_simp
        refine hK.out _ _ (S3 _ (hG4.other (by omega) _)) (fun hHeld => ?_)
        clear hK K
        refine wpAnyH_done (by kernel_rfl) ?_ _
        obtain ⟨xs', ho4⟩ := ho4
        go_wp2
        exact fl_ret (v := (.slice (some ⟨g5, 0, none⟩) (vn + 1) cap5)) (xs := xs') (ht4.trans (Tg.set _ O 0 _ (.inl rfl))) (hO4.same0 _) (own_set hOB ho4) rfl
      · have k0 := cell1 HO3.out
        have k1 := HO3.out.frozen 0
        go_simp
        have hG4 : Blk (V3.setCell ⟨O, 0, none⟩ (.slice (some ⟨g5, 0, none⟩) (vn + 1) cap5)) G #[.slice fa 0 fc, .slice ba bl' bc, .slice pa 0 pc] 28 := HG3.out.other (by omega) _
        have hO4 : Blk (V3.setCell ⟨O, 0, none⟩ (.slice (some ⟨g5, 0, none⟩) (vn + 1) cap5)) O #[(.slice (some ⟨g5, 0, none⟩) (vn + 1) cap5)] 26 := HO3.out.same0 _
        have ht4 : Tg (fun b => b = O ∨ Bo ≤ b) w (V3.setCell ⟨O, 0, none⟩ (.slice (some ⟨g5, 0, none⟩) (vn + 1) cap5)) := HT3.out.trans (Tg.set _ O 0 _ (.inl rfl))
        have ho4 : (V3.setCell ⟨O, 0, none⟩ (.slice (some ⟨g5, 0, none⟩) (vn + 1) cap5)).ownsRow Bo 28 3 (.slice (some ⟨g5, 0, none⟩) (vn + 1) cap5) (vn + 1) (xs ++ [.slice none 0 0, .slice none 0 0, .slice none 0 0]) := own_set hOB HW3.out
        refine hK.out _ _ (S3 _ hG4) (fun hHeld => ?_)
        clear hK K
        clear k0 k1 HW3 HO3 HT3 HG3 hHeld
        generalize (V3.setCell ⟨O, 0, none⟩ (.slice (some ⟨g5, 0, none⟩) (vn + 1) cap5)) = V4 at *
        have HW : Hid (V4.ownsRow Bo 28 3 (.slice (some ⟨g5, 0, none⟩) (vn + 1) cap5) (vn + 1) (xs ++ [.slice none 0 0, .slice none 0 0, .slice none 0 0])) := ho4
        clear ho4
        refine wpAnyH_ready (rs := [7]) (by kernel_rfl) (by simp) ?_
        refine AllReadyH.cons rfl (fun K hK => ?_) AllReadyH.nil
        obtain ⟨⟨u0, a0⟩, b0⟩ := own_at HW.out (vn * 3) (by omega)
        obtain ⟨⟨u1, a1⟩, b1⟩ := own_at HW.out (vn * 3 + 1) (by omega)
        obtain ⟨⟨u2, a2⟩, b2⟩ := own_at HW.out (vn * 3 + 2) (by omega)
        go_simp
        refine hK.out _ _ (S3 _ (((hG4.other (Ne.symm hgG) _).other (Ne.symm hgG) _).other (Ne.symm hgG) _)) (fun hHeld => ?_)
        clear hK K
        refine wpAnyH_done (by kernel_rfl) ?_ _
        clear a0 a1 a2 b0 b1 b2
        obtain ⟨xs', ho5⟩ := own_in3 HW.out (vn * 3) (vn * 3 + 1) (vn * 3 + 2) (.slice x1 x2 x3) (.slice y1 y2 y3) (.slice z1 z2 z3)
        go_wp2
        exact fl_ret (v := (.slice (some ⟨g5, 0, none⟩) (vn + 1) cap5)) (xs := xs') (((ht4.trans (Tg.set _ g5 _ _ (.inr hgB))).trans (Tg.set _ g5 _ _ (.inr hgB))).trans (Tg.set _ g5 _ _ (.inr hgB))) (((hO4.other (by omega) _).other (by omega) _).other (by omega) _) ho5 rfl
  · have hR := Blk.new V #[.slice none 0 0, .slice none 0 0, .slice none 0 0] 28
    have hB' : Below w6.heap.size w6 (V.alloc (.cells #[.slice none 0 0, .slice none 0 0, .slice none 0 0] 28)) := hB.alloc hB.size _
    go_simp
    refine hK.out _ _ (S3 _ (HG6.out.below hB' HG6.out.lt)) (fun hHeld => ?_)
    clear hK K
    generalize hV0a : V.alloc (.cells #[.slice none 0 0, .slice none 0 0, .slice none 0 0] 28) = V0a at *
    generalize V.heap.size = r at *
    clear hHeld hV0a hB
    have hB := hB'
    clear hB'
    refine wpAnyH_ready (rs := [0, 2]) (by kernel_rfl) (by simp) ?_
    refine AllReadyH.cons rfl (fun K hK => ?_) (AllReadyH.cons rfl (fun K hK => ?_) AllReadyH.nil)
    · have e0 := cell1 (HO6.out.below hB HO6.out.lt)
      go_simp
      refine hK.out _ _ (S3 _ (HG6.out.below hB HG6.out.lt)) (fun hHeld => ?_)
      clear hK K
      clear e0
      refine takeD (some 39) (i := 3) (v := .int .i64 (vn : Nat)) rfl rfl (by kernel_rfl) (by kernel_rfl) (by kernel_rfl) (fun _ _ _ h => h) (Or.inl ⟨by kernel_rfl, ?_⟩) (by assumption) ?_
      · (intro w hSw; (try dsimp only at hSw); go_simp)
      (try simp only [Act.put, List.setIfInBounds_toArray, List.set_cons_zero, List.set_cons_succ])
      refine wpAnyH_ready (rs := [2]) (by kernel_rfl) (by simp) ?_
      refine AllReadyH.cons rfl (fun K hK => ?_) AllReadyH.nil
      go_simp
      refine (HCL.out _ (HB6.out.trans (hB.mono HB6.out.size))).mono ?_
      rintro e V2' ⟨x1, x2, x3, y1, y2, y3, z1, z2, z3, rfl, hb⟩
      have hB' : Below w6.heap.size w6 V2' := hB.trans (hb.mono hB.size)
      have hR' := hR.below hb hR.lt
      refine hK.out _ _ (S3 _ (HG6.out.below hB' HG6.out.lt)) (fun hHeld => ?_)
      clear hK K
      clear hR
      have hR := hR'
      clear hR'
      clear hHeld hB hb
      have hB := hB'
      clear hB' 
      have HOV : Hid (V2'.ownsRow Bo 28 3 (.slice va vn vc) vn xs) := own_keep HW6.out hB
      have hzB := hB.size
      refine wpAnyH_ready (rs := [5]) (by kernel_rfl) (by simp) ?_
      refine AllReadyH.cons rfl (fun K hK => ?_) AllReadyH.nil
      refine step_append_lies _ rfl (.tmp 36) (.tmp 40) 26 rfl Bo 28 j0 _ 3 72 Tryz.underlying26 hi hz0 hz1 hz2 rfl (by decide) (.slice va vn vc) vn xs rfl HOV.out ⟨r, 0, none⟩ 1 1 [.slice none 0 0, .slice none 0 0, .slice none 0 0] rfl rfl (fun j u hu => World.news_of_block hR j u hu) (by intro u hu; simp at hu; subst hu; rfl) (by decide) (by unfold maxLen; omega) (by omega) (by omega) _ rfl ?_
      intro g5 cap5 V3 hown3 hgrow3 hfr3 hg5
      have hG3 : Blk V3 G #[.slice fa 0 fc, .slice ba bl' bc, .slice pa 0 pc] 28 := (hgrow3.block G (HG6.out.below hB HG6.out.lt).lt (fun q => by have := (HVL.out _ q.symm).2; omega)).trans (HG6.out.below hB HG6.out.lt)
      have hO3 : Blk V3 O #[.slice va vn vc] 26 := (hgrow3.block O (HO6.out.below hB HO6.out.lt).lt (fun q => by have := (HVL.out _ q.symm).1; omega)).trans (HO6.out.below hB HO6.out.lt)
      have ht3 : Tg (fun b => b = O ∨ Bo ≤ b) w V3 := (Tg.of_below (O := fun _ => False) (HB6.out.trans (hB.mono HB6.out.size))).two (Tg.grown (O := fun b => Bo ≤ b) hgrow3 (fun b q => (HVL.out _ q).1)) (fun _ _ q => q.elim) (fun b _ q => .inr q)
      have hgB : Bo ≤ g5 := hfr3.elim (fun q => (HVL.out _ q).1) (fun q => by omega)
      have hgG : g5 ≠ G := hfr3.elim (fun q => by have := (HVL.out _ q).2; omega) (fun q => by have := (HG6.out.below hB HG6.out.lt).lt; omega)
      have HW3 : Hid (V3.ownsRow Bo 28 3 (.slice (some ⟨g5, 0, none⟩) (vn + 1) cap5) (vn + 1) (xs ++ [.slice none 0 0, .slice none 0 0, .slice none 0 0])) := hown3
      have HO3 : Hid (Blk V3 O #[.slice va vn vc] 26) := hO3
      have HT3 : Hid (Tg (fun b => b = O ∨ Bo ≤ b) w V3) := ht3
      have HG3 : Hid (Blk V3 G #[.slice fa 0 fc, .slice ba bl' bc, .slice pa 0 pc] 28) := hG3
      refine hK.out _ _ (S3 _ hG3) (fun hHeld => ?_)
      clear hK K
      clear hown3 hgrow3 hfr3 hg5 hG3 hO3 ht3 hR hB hzB HOV hHeld
      have hHeld := S3 _ HG3.out
      have hvb : ¬ ((vn : Int) + 1 ≤ (vn : Int)) := by omega
      refine takeD (some 42) (i := 6) (v := .pointer (some ⟨g5, vn * 3, none⟩)) rfl rfl (by kernel_rfl) (by kernel_rfl) (by kernel_rfl) (fun _ _ _ h => h) (Or.inl ⟨by kernel_rfl, ?_⟩) (by assumption) ?_
      · (intro w hSw; (try dsimp only at hSw); go_simp)
      (try simp only [Act.put, List.setIfInBounds_toArray, List.set_cons_zero, List.set_cons_succ])
      clear hHeld hvb
      refine wpAnyH_ready (rs := [7, 8]) (by kernel_rfl) (by simp) ?_
      refine AllReadyH.cons rfl (fun K hK => ?_) (AllReadyH.cons rfl (fun K hK => ?_) AllReadyH.nil)
      · have HW := HW3
        obtain ⟨⟨u0, a0⟩, b0⟩ := own_at HW.out (vn * 3) (by omega)
        obtain ⟨⟨u1, a1⟩, b1⟩ := own_at HW.out (vn * 3 + 1) (by omega)
        obtain ⟨⟨u2, a2⟩, b2⟩ := own_at HW.out (vn * 3 + 2) (by omega)
        go_simp
        have hG4 : Blk (((V3.setCell ⟨g5, vn * 3, none⟩ (.slice x1 x2 x3)).setCell ⟨g5, vn * 3 + 1, none⟩ (.slice y1 y2 y3)).setCell ⟨g5, vn * 3 + 2, none⟩ (.slice z1 z2 z3)) G #[.slice fa 0 fc, .slice ba bl' bc, .slice pa 0 pc] 28 := ((HG3.out.other (Ne.symm hgG) _).other (Ne.symm hgG) _).other (Ne.symm hgG) _
        have hO4 : Blk (((V3.setCell ⟨g5, vn * 3, none⟩ (.slice x1 x2 x3)).setCell ⟨g5, vn * 3 + 1, none⟩ (.slice y1 y2 y3)).setCell ⟨g5, vn * 3 + 2, none⟩ (.slice z1 z2 z3)) O #[.slice va vn vc] 26 := ((HO3.out.other (by omega) _).other (by omega) _).other (by omega) _
        have ht4 : Tg (fun b => b = O ∨ Bo ≤ b) w (((V3.setCell ⟨g5, vn * 3, none⟩ (.slice x1 x2 x3)).setCell ⟨g5, vn * 3 + 1, none⟩ (.slice y1 y2 y3)).setCell ⟨g5, vn * 3 + 2, none⟩ (.slice z1 z2 z3)) := ((HT3.out.trans (Tg.set _ g5 _ _ (.inr hgB))).trans (Tg.set _ g5 _ _ (.inr hgB))).trans (Tg.set _ g5 _ _ (.inr hgB))
        have ho4 : ∃ xs', (((V3.setCell ⟨g5, vn * 3, none⟩ (.slice x1 x2 x3)).setCell ⟨g5, vn * 3 + 1, none⟩ (.slice y1 y2 y3)).setCell ⟨g5, vn * 3 + 2, none⟩ (.slice z1 z2 z3)).ownsRow Bo 28 3 (.slice (some ⟨g5, 0, none⟩) (vn + 1) cap5) (vn + 1) xs' := own_in3 HW3.out _ _ _ _ _ _
        refine hK.out _ _ (S3 _ hG4) (fun hHeld => ?_)
        clear hK K
        clear a0 a1 a2 b0 b1 b2 HW HW3 HO3 HT3 HG3 hHeld
        generalize (((V3.setCell ⟨g5, vn * 3, none⟩ (.slice x1 x2 x3)).setCell ⟨g5, vn * 3 + 1, none⟩ (.slice y1 y2 y3)).setCell ⟨g5, vn * 3 + 2, none⟩ (.slice z1 z2 z3)) = V4 at *
        refine wpAnyH_ready (rs := [8]) (by kernel_rfl) (by simp) ?_
        refine AllReadyH.cons rfl (fun K hK => ?_) AllReadyH.nil
        have k0 := cell1 hO4
        have k1 := hO4.frozen 0
        go_simp
        refine hK.out _ _ (S3 _ (hG4.other (by omega) _)) (fun hHeld => ?_)
        clear hK K
        refine wpAnyH_done (by kernel_rfl) ?_ _
        obtain ⟨xs', ho4⟩ := ho4
        go_wp2
        exact fl_ret (v := (.slice (some ⟨g5, 0, none⟩) (vn + 1) cap5)) (xs := xs') (ht4.trans (Tg.set _ O 0 _ (.inl rfl))) (hO4.same0 _) (own_set hOB ho4) rfl
      · have k0 := cell1 HO3.out
        have k1 := HO3.out.frozen 0
        go_simp
        have hG4 : Blk (V3.setCell ⟨O, 0, none⟩ (.slice (some ⟨g5, 0, none⟩) (vn + 1) cap5)) G #[.slice fa 0 fc, .slice ba bl' bc, .slice pa 0 pc] 28 := HG3.out.other (by omega) _
        have hO4 : Blk (V3.setCell ⟨O, 0, none⟩ (.slice (some ⟨g5, 0, none⟩) (vn + 1) cap5)) O #[(.slice (some ⟨g5, 0, none⟩) (vn + 1) cap5)] 26 := HO3.out.same0 _
        have ht4 : Tg (fun b => b = O ∨ Bo ≤ b) w (V3.setCell ⟨O, 0, none⟩ (.slice (some ⟨g5, 0, none⟩) (vn + 1) cap5)) := HT3.out.trans (Tg.set _ O 0 _ (.inl rfl))
        have ho4 : (V3.setCell ⟨O, 0, none⟩ (.slice (some ⟨g5, 0, none⟩) (vn + 1) cap5)).ownsRow Bo 28 3 (.slice (some ⟨g5, 0, none⟩) (vn + 1) cap5) (vn + 1) (xs ++ [.slice none 0 0, .slice none 0 0, .slice none 0 0]) := own_set hOB HW3.out
        refine hK.out _ _ (S3 _ hG4) (fun hHeld => ?_)
        clear hK K
        clear k0 k1 HW3 HO3 HT3 HG3 hHeld
        generalize (V3.setCell ⟨O, 0, none⟩ (.slice (some ⟨g5, 0, none⟩) (vn + 1) cap5)) = V4 at *
        have HW : Hid (V4.ownsRow Bo 28 3 (.slice (some ⟨g5, 0, none⟩) (vn + 1) cap5) (vn + 1) (xs ++ [.slice none 0 0, .slice none 0 0, .slice none 0 0])) := ho4
        clear ho4
        refine wpAnyH_ready (rs := [7]) (by kernel_rfl) (by simp) ?_
        refine AllReadyH.cons rfl (fun K hK => ?_) AllReadyH.nil
        obtain ⟨⟨u0, a0⟩, b0⟩ := own_at HW.out (vn * 3) (by omega)
        obtain ⟨⟨u1, a1⟩, b1⟩ := own_at HW.out (vn * 3 + 1) (by omega)
        obtain ⟨⟨u2, a2⟩, b2⟩ := own_at HW.out (vn * 3 + 2) (by omega)
        go_simp
        refine hK.out _ _ (S3 _ (((hG4.other (Ne.symm hgG) _).other (Ne.symm hgG) _).other (Ne.symm hgG) _)) (fun hHeld => ?_)
        clear hK K
        refine wpAnyH_done (by kernel_rfl) ?_ _
        clear a0 a1 a2 b0 b1 b2
        obtain ⟨xs', ho5⟩ := own_in3 HW.out (vn * 3) (vn * 3 + 1) (vn * 3 + 2) (.slice x1 x2 x3) (.slice y1 y2 y3) (.slice z1 z2 z3)
        go_wp2
        exact fl_ret (v := (.slice (some ⟨g5, 0, none⟩) (vn + 1) cap5)) (xs := xs') (((ht4.trans (Tg.set _ g5 _ _ (.inr hgB))).trans (Tg.set _ g5 _ _ (.inr hgB))).trans (Tg.set _ g5 _ _ (.inr hgB))) (((hO4.other (by omega) _).other (by omega) _).other (by omega) _) ho5 rfl
    · go_simp
      refine (HCL.out _ (HB6.out.trans (hB.mono HB6.out.size))).mono ?_
      rintro e V1' ⟨x1, x2, x3, y1, y2, y3, z1, z2, z3, rfl, hb⟩
      have hB' : Below w6.heap.size w6 V1' := hB.trans (hb.mono hB.size)
      have hR' := hR.below hb hR.lt
      refine hK.out _ _ (S3 _ (HG6.out.below hB' HG6.out.lt)) (fun hHeld => ?_)
      clear hK K
      clear hR
      have hR := hR'
      clear hR'
      clear hHeld hB hb
      have hB := hB'
      clear hB' 
      refine wpAnyH_ready (rs := [0]) (by kernel_rfl) (by simp) ?_
      refine AllReadyH.cons rfl (fun K hK => ?_) AllReadyH.nil
      have e0 := cell1 (HO6.out.below hB HO6.out.lt)
      go_simp
      refine hK.out _ _ (S3 _ (HG6.out.below hB HG6.out.lt)) (fun hHeld => ?_)
      clear hK K
      clear e0
      refine takeD (some 39) (i := 3) (v := .int .i64 (vn : Nat)) rfl rfl (by kernel_rfl) (by kernel_rfl) (by kernel_rfl) (fun _ _ _ h => h) (Or.inl ⟨by kernel_rfl, ?_⟩) (by assumption) ?_
      · (intro w hSw; (try dsimp only at hSw); go_simp)
      (try simp only [Act.put, List.setIfInBounds_toArray, List.set_cons_zero, List.set_cons_succ])
      have HOV : Hid (V1'.ownsRow Bo 28 3 (.slice va vn vc) vn xs) := own_keep HW6.out hB
      have hzB := hB.size
      refine wpAnyH_ready (rs := [5]) (by kernel_rfl) (by simp) ?_
      refine AllReadyH.cons rfl (fun K hK => ?_) AllReadyH.nil
      refine step_append_lies _ rfl (.tmp 36) (.tmp 40) 26 rfl Bo 28 j0 _ 3 72 Tryz.underlying26 hi hz0 hz1 hz2 rfl (by decide) (.slice va vn vc) vn xs rfl HOV.out ⟨r, 0, none⟩ 1 1 [.slice none 0 0, .slice none 0 0, .slice none 0 0] rfl rfl (fun j u hu => World.news_of_block hR j u hu) (by intro u hu; simp at hu; subst hu; rfl) (by decide) (by unfold maxLen; omega) (by omega) (by omega) _ rfl ?_
      intro g5 cap5 V3 hown3 hgrow3 hfr3 hg5
      have hG3 : Blk V3 G #[.slice fa 0 fc, .slice ba bl' bc, .slice pa 0 pc] 28 := (hgrow3.block G (HG6.out.below hB HG6.out.lt).lt (fun q => by have := (HVL.out _ q.symm).2; omega)).trans (HG6.out.below hB HG6.out.lt)
      have hO3 : Blk V3 O #[.slice va vn vc] 26 := (hgrow3.block O (HO6.out.below hB HO6.out.lt).lt (fun q => by have := (HVL.out _ q.symm).1; omega)).trans (HO6.out.below hB HO6.out.lt)
      have ht3 : Tg (fun b => b = O ∨ Bo ≤ b) w V3 := (Tg.of_below (O := fun _ => False) (HB6.out.trans (hB.mono HB6.out.size))).two (Tg.grown (O := fun b => Bo ≤ b) hgrow3 (fun b q => (HVL.out _ q).1)) (fun _ _ q => q.elim) (fun b _ q => .inr q)
      have hgB : Bo ≤ g5 := hfr3.elim (fun q => (HVL.out _ q).1) (fun q => by omega)
      have hgG : g5 ≠ G := hfr3.elim (fun q => by have := (HVL.out _ q).2; omega) (fun q => by have := (HG6.out.below hB HG6.out.lt).lt; omega)
      have HW3 : Hid (V3.ownsRow Bo 28 3 (.slice (some ⟨g5, 0, none⟩) (vn + 1) cap5) (vn + 1) (xs ++ [.slice none 0 0, .slice none 0 0, .slice none 0 0])) := hown3
      have HO3 : Hid (Blk V3 O #[.slice va vn vc] 26) := hO3
      have HT3 : Hid (Tg (fun b => b = O ∨ Bo ≤ b) w V3) := ht3
      have HG3 : Hid (Blk V3 G #[.slice fa 0 fc, .slice ba bl' bc, .slice pa 0 pc] 28) := hG3
      refine hK.out _ _ (S3 _ hG3) (fun hHeld => ?_)
      clear hK K
      clear hown3 hgrow3 hfr3 hg5 hG3 hO3 ht3 hR hB hzB HOV hHeld
      have hHeld := S3 _ HG3.out
      have hvb : ¬ ((vn : Int) + 1 ≤ (vn : Int)) := by omega
      refine takeD (some 42) (i := 6) (v := .pointer (some ⟨g5, vn * 3, none⟩)) rfl rfl (by kernel_rfl) (by kernel_rfl) (by kernel_rfl) (fun _ _ _ h => h) (Or.inl ⟨by kernel_rfl, ?_⟩) (by assumption) ?_
      · (intro w hSw; (try dsimp only at hSw); go_simp)
      (try simp only [Act.put, List.setIfInBounds_toArray, List.set_cons_zero, List.set_cons_succ])
      clear hHeld hvb
      refine wpAnyH_ready (rs := [7, 8]) (by kernel_rfl) (by simp) ?_
      refine AllReadyH.cons rfl (fun K hK => ?_) (AllReadyH.cons rfl (fun K hK => ?_) AllReadyH.nil)
      · have HW := HW3
        obtain ⟨⟨u0, a0⟩, b0⟩ := own_at HW.out (vn * 3) (by omega)
        obtain ⟨⟨u1, a1⟩, b1⟩ := own_at HW.out (vn * 3 + 1) (by omega)
        obtain ⟨⟨u2, a2⟩, b2⟩ := own_at HW.out (vn * 3 + 2) (by omega)
        go_simp
        have hG4 : Blk (((V3.setCell ⟨g5, vn * 3, none⟩ (.slice x1 x2 x3)).setCell ⟨g5, vn * 3 + 1, none⟩ (.slice y1 y2 y3)).setCell ⟨g5, vn * 3 + 2, none⟩ (.slice z1 z2 z3)) G #[.slice fa 0 fc, .slice ba bl' bc, .slice pa 0 pc] 28 := ((HG3.out.other (Ne.symm hgG) _).other (Ne.symm hgG) _).other (Ne.symm hgG) _
        have hO4 : Blk (((V3.setCell ⟨g5, vn * 3, none⟩ (.slice x1 x2 x3)).setCell ⟨g5, vn * 3 + 1, none⟩ (.slice y1 y2 y3)).setCell ⟨g5, vn * 3 + 2, none⟩ (.slice z1 z2 z3)) O #[.slice va vn vc] 26 := ((HO3.out.other (by omega) _).other (by omega) _).other (by omega) _
        have ht4 : Tg (fun b => b = O ∨ Bo ≤ b) w (((V3.setCell ⟨g5, vn * 3, none⟩ (.slice x1 x2 x3)).setCell ⟨g5, vn * 3 + 1, none⟩ (.slice y1 y2 y3)).setCell ⟨g5, vn * 3 + 2, none⟩ (.slice z1 z2 z3)) := ((HT3.out.trans (Tg.set _ g5 _ _ (.inr hgB))).trans (Tg.set _ g5 _ _ (.inr hgB))).trans (Tg.set _ g5 _ _ (.inr hgB))
        have ho4 : ∃ xs', (((V3.setCell ⟨g5, vn * 3, none⟩ (.slice x1 x2 x3)).setCell ⟨g5, vn * 3 + 1, none⟩ (.slice y1 y2 y3)).setCell ⟨g5, vn * 3 + 2, none⟩ (.slice z1 z2 z3)).ownsRow Bo 28 3 (.slice (some ⟨g5, 0, none⟩) (vn + 1) cap5) (vn + 1) xs' := own_in3 HW3.out _ _ _ _ _ _
        refine hK.out _ _ (S3 _ hG4) (fun hHeld => ?_)
        clear hK K
        clear a0 a1 a2 b0 b1 b2 HW HW3 HO3 HT3 HG3 hHeld
        generalize (((V3.setCell ⟨g5, vn * 3, none⟩ (.slice x1 x2 x3)).setCell ⟨g5, vn * 3 + 1, none⟩ (.slice y1 y2 y3)).setCell ⟨g5, vn * 3 + 2, none⟩ (.slice z1 z2 z3)) = V4 at *
        refine wpAnyH_ready (rs := [8]) (by kernel_rfl) (by simp) ?_
        refine AllReadyH.cons rfl (fun K hK => ?_) AllReadyH.nil
        have k0 := cell1 hO4
        have k1 := hO4.frozen 0
        go_simp
        refine hK.out _ _ (S3 _ (hG4.other (by omega) _)) (fun hHeld => ?_)
        clear hK K
        refine wpAnyH_done (by kernel_rfl) ?_ _
        obtain ⟨xs', ho4⟩ := ho4
        go_wp2
        exact fl_ret (v := (.slice (some ⟨g5, 0, none⟩) (vn + 1) cap5)) (xs := xs') (ht4.trans (Tg.set _ O 0 _ (.inl rfl))) (hO4.same0 _) (own_set hOB ho4) rfl
      · have k0 := cell1 HO3.out
        have k1 := HO3.out.frozen 0
        go_simp
        have hG4 : Blk (V3.setCell ⟨O, 0, none⟩ (.slice (some ⟨g5, 0, none⟩) (vn + 1) cap5)) G #[.slice fa 0 fc, .slice ba bl' bc, .slice pa 0 pc] 28 := HG3.out.other (by omega) _
        have hO4 : Blk (V3.setCell ⟨O, 0, none⟩ (.slice (some ⟨g5, 0, none⟩) (vn + 1) cap5)) O #[(.slice (some ⟨g5, 0, none⟩) (vn + 1) cap5)] 26 := HO3.out.same0 _
        have ht4 : Tg (fun b => b = O ∨ Bo ≤ b) w (V3.setCell ⟨O, 0, none⟩ (.slice (some ⟨g5, 0, none⟩) (vn + 1) cap5)) := HT3.out.trans (Tg.set _ O 0 _ (.inl rfl))
        have ho4 : (V3.setCell ⟨O, 0, none⟩ (.slice (some ⟨g5, 0, none⟩) (vn + 1) cap5)).ownsRow Bo 28 3 (.slice (some ⟨g5, 0, none⟩) (vn + 1) cap5) (vn + 1) (xs ++ [.slice none 0 0, .slice none 0 0, .slice none 0 0]) := own_set hOB HW3.out
        refine hK.out _ _ (S3 _ hG4) (fun hHeld => ?_)
        clear hK K
        clear k0 k1 HW3 HO3 HT3 HG3 hHeld
        generalize (V3.setCell ⟨O, 0, none⟩ (.slice (some ⟨g5, 0, none⟩) (vn + 1) cap5)) = V4 at *
        have HW : Hid (V4.ownsRow Bo 28 3 (.slice (some ⟨g5, 0, none⟩) (vn + 1) cap5) (vn + 1) (xs ++ [.slice none 0 0, .slice none 0 0, .slice none 0 0])) := ho4
        clear ho4
        refine wpAnyH_ready (rs := [7]) (by kernel_rfl) (by simp) ?_
        refine AllReadyH.cons rfl (fun K hK => ?_) AllReadyH.nil
        obtain ⟨⟨u0, a0⟩, b0⟩ := own_at HW.out (vn * 3) (by omega)
        obtain ⟨⟨u1, a1⟩, b1⟩ := own_at HW.out (vn * 3 + 1) (by omega)
        obtain ⟨⟨u2, a2⟩, b2⟩ := own_at HW.out (vn * 3 + 2) (by omega)
        go_simp
        refine hK.out _ _ (S3 _ (((hG4.other (Ne.symm hgG) _).other (Ne.symm hgG) _).other (Ne.symm hgG) _)) (fun hHeld => ?_)
        clear hK K
        refine wpAnyH_done (by kernel_rfl) ?_ _
        clear a0 a1 a2 b0 b1 b2
        obtain ⟨xs', ho5⟩ := own_in3 HW.out (vn * 3) (vn * 3 + 1) (vn * 3 + 2) (.slice x1 x2 x3) (.slice y1 y2 y3) (.slice z1 z2 z3)
        go_wp2
        exact fl_ret (v := (.slice (some ⟨g5, 0, none⟩) (vn + 1) cap5)) (xs := xs') (((ht4.trans (Tg.set _ g5 _ _ (.inr hgB))).trans (Tg.set _ g5 _ _ (.inr hgB))).trans (Tg.set _ g5 _ _ (.inr hgB))) (((hO4.other (by omega) _).other (by omega) _).other (by omega) _) ho5 rfl
end Go.Proofs.YtmdkmedlncfcbaaGreatDoor
namespace Go.Proofs.YtmdkmedlncfcbaaGreatDoor
open Go.RowKit Go.Shelf
set_option linter.unusedVariables false
set_option linter.unusedSimpArgs false

theorem kn_leaf {k : Nat} {t : Prt} (h : knT.ps[k]? = some t) : t.fs = [] ∧ t.ps = [] ∧ t.body.length ≤ 10000000 := by
  match k, h with
  | 0, h => simp [knT] at h; subst h; exact ⟨rfl, rfl, by simp⟩
  | 1, h => simp [knT] at h; subst h; exact ⟨rfl, rfl, by simp⟩
  | k + 2, h => simp [knT] at h
theorem own_slice {W : World} {B n : Nat} {v : Value} {xs : List Value} (h : W.ownsRow B 28 3 v n xs) : ∃ a c, v = .slice a n c := by
  rcases h.2 with ⟨rfl, rfl⟩ | ⟨g, cap, cur, rfl, _⟩
  · exact ⟨_, _, rfl⟩
  · exact ⟨_, _, rfl⟩
set_option maxRecDepth 100000 in
theorem kn_knd : knd knT.fs = some (mpZ, [109, 105, 120, 101, 100], [([98, 111, 117, 110, 100, 97, 114, 121], [98])]) := by kernel_rfl
set_option maxRecDepth 100000 in
theorem kn_fit : FitF knT.fs := by
  have := fit_read 7 0 knB 3 knT kn_rd (by unfold Byt; decide) (by decide)
  exact this.1
set_option maxHeartbeats 8000000 in
set_option maxRecDepth 100000 in
theorem find_knot (h F T O Bo : Nat) (x y z : Value) (w : World) (hst : Stay (fun b => b = O ∨ Bo ≤ b) w (fun W => PtAt (h + 2) W knT x y z)) (hO : Blk w O #[.slice none 0 0] 26) (hT : Blk w T #[.string tpS] 9) (hF : Blk w F #[fnF F T O] 81) (hOB : O < Bo) (hTB : T < Bo) (hFB : F < Bo) (hTO : T ≠ O) (hFO : F ≠ O) (hB : Bo ≤ w.heap.size) :
    Calls Tryz.prog 54 #[partV x y z, .pointer (some ⟨F, 0, none⟩), .pointer (some ⟨T, 0, none⟩), .pointer (some ⟨O, 0, none⟩)] w (FPost w Bo O 2) := by
  obtain ⟨⟨fa, fc, rfl, fr, fl⟩, ⟨ba, bc, rfl, _⟩, ⟨_, pa, pc, rfl, _⟩⟩ := hst.now
  have HST : Hid (Stay (fun b => b = O ∨ Bo ≤ b) w (fun W => PtAt (h + 2) W knT (.slice fa 1 fc) (.slice ba 0 bc) (.slice pa 2 pc))) := hst
  have hk0 := keep w (.cells #[.slice fa 1 fc, .slice ba 0 bc, .slice pa 2 pc] 28)
  have hki := kind_any fa 1 fc (.slice ba 0 bc) (.slice pa 2 pc) knT.fs (w.alloc (.cells #[.slice fa 1 fc, .slice ba 0 bc, .slice pa 2 pc] 28)) rfl (fr.below hk0) kn_fit rfl rfl
  show Calls Tryz.prog 54 #[partV (.slice fa 1 fc) (.slice ba 0 bc) (.slice pa 2 pc), _, _, _] w _
  have hG0 := Blk.new w #[.slice fa 1 fc, .slice ba 0 bc, .slice pa 2 pc] 28
  obtain ⟨G, hG⟩ : ∃ G, w.heap.size = G := ⟨_, rfl⟩
  obtain ⟨w0, hw0⟩ : ∃ w0, w.alloc (.cells #[.slice fa 1 fc, .slice ba 0 bc, .slice pa 2 pc] 28) = w0 := ⟨_, rfl⟩
  rw [hw0] at hki hG0 hk0
  obtain ⟨q0, q1, q2⟩ := cells3 hG0
  unfold partV at hki
  unfold partV
  have HK0 : Hid (Below w.heap.size w w0) := hk0
  have HG0 : Hid (Blk w0 w.heap.size #[.slice fa 1 fc, .slice ba 0 bc, .slice pa 2 pc] 28) := hG0
  have HO : Hid (Blk w O #[.slice none 0 0] 26) := hO
  have HT : Hid (Blk w T #[.string tpS] 9) := hT
  have HF : Hid (Blk w F #[fnF F T O] 81) := hF
  have HG : Hid (w.heap.size = G) := hG
  rw [hG] at q0 q1 q2 hB
  clear hk0 hG0 hO hT hF hst fr fl
  go_enter Tryz.func54, Tryz.ntmps54
  go_wp2_with fail
  refine hki.mono ?_
  rintro e w5 ⟨ty, sub, ka, kc, ks, kcd, rfl, hka, hb5, hkans⟩
  clear hki
  obtain ⟨hk0, hty⟩ : kcd = 0 ∧ nums ty = mpZ := by
    rcases hkans with ⟨h1, h2⟩ | ⟨_, _, h2⟩
    · rw [kn_knd] at h2
      simp only [knOf, Option.some.injEq, Prod.mk.injEq] at h2
      exact ⟨h1, h2.1.symm⟩
    · rw [kn_knd] at h2; cases h2
  subst hk0
  have hmp : (ty.toList == [109, 117, 108, 116, 105, 112, 97, 114, 116]) = true := by
    have := mp_eq ty
    rw [mp_list] at this
    rw [this, hty]; decide
  unfold Kd.kindV
  have HB5 : Hid (Below w.heap.size w w5) := HK0.out.trans (hb5.mono HK0.out.size)
  have hG5 : Blk w5 G #[.slice fa 1 fc, .slice ba 0 bc, .slice pa 2 pc] 28 := by have := HG0.out.below hb5 HG0.out.lt; rwa [HG.out] at this
  obtain ⟨p0, p1, p2⟩ := cells3 (hG5.alloc (.cells #[.string ty, .string sub, .slice ka ks.length kc] 39))
  have hk7 : Below w.heap.size w (w5.alloc (.cells #[.string ty, .string sub, .slice ka ks.length kc] 39)) := HB5.out.alloc HB5.out.size _
  have HT7 : Hid (Tg (fun b => b = O ∨ Bo ≤ b) w (w5.alloc (.cells #[.string ty, .string sub, .slice ka ks.length kc] 39))) := Tg.of_below hk7
  have HO7 : Hid (Blk (w5.alloc (.cells #[.string ty, .string sub, .slice ka ks.length kc] 39)) O #[.slice none 0 0] 26) := HO.out.below hk7 HO.out.lt
  clear hkans hka hty q0 q1 q2 hk7
  go_wp2_with fail
  go_loopw [24] (fun i wr => ∃ k : Nat, i = .int .i64 (k : Nat) ∧ k ≤ 2 ∧ Tg (fun b => b = O ∨ Bo ≤ b) w wr ∧ ∃ v xs, Blk wr O #[v] 26 ∧ wr.ownsRow Bo 28 3 v k xs) (fun i _ => 2 - (intOf i).toNat)
  case atStart => exact ⟨0, rfl, by omega, HT7.out, _, [], HO7.out, rfl, .inl ⟨rfl, rfl⟩⟩
  case round =>
    obtain ⟨k, rfl, hk, ht, v, xs, hOr, hown⟩ := hrel
    clear p0 p1 p2
    by_cases hlt : k < 2
    · obtain ⟨t, hkt⟩ : ∃ t, knT.ps[k]? = some t := ⟨_, List.getElem?_eq_getElem (show k < knT.ps.length from hlt)⟩
      obtain ⟨va, vc, rfl⟩ := own_slice hown
      obtain ⟨_, _, _, pa', pc', hpe, hrow⟩ := HST.out wr ht
      cases hpe
      rcases hrow with h0 | ⟨b1, o1, rfl, hrow⟩
      · cases h0
      obtain ⟨x1, y1, z1, e1, e2, e3, hpt⟩ := hrow k t hkt
      obtain ⟨⟨xa, xn, xc, rfl⟩, ⟨ya, yn, yc, rfl⟩, ⟨za, zn, zc, rfl⟩⟩ := pt_slices hpt
      have hkr := keep wr (.cells #[.slice xa xn xc, .slice ya yn yc, .slice za zn zc] 28)
      have hTr : Blk wr T #[.string tpS] 9 := ht.kept HT.out (by omega)
      have hFr : Blk wr F #[fnF F T O] 81 := ht.kept HF.out (by omega)
      obtain ⟨l1, l2, l3⟩ := kn_leaf hkt
      have hszr : Bo ≤ wr.heap.size := by have := ht.2.2.2.1; have := HG.out; omega
      have hch := find_leaf h F T O Bo k va k vc xs t _ _ _ (wr.alloc (.cells #[.slice xa xn xc, .slice ya yn yc, .slice za zn zc] 28)) (PtAt.below hkr _ _ _ _ _ hpt) l1 l2 l3 (hOr.alloc _) (own_keep hown hkr) (hTr.alloc _) hOB hTB (by simp; omega) (by omega)
      have cF := cell1 (hFr.alloc (.cells #[.slice xa xn xc, .slice ya yn yc, .slice za zn zc] 28))
      have cF0 := cell1 hFr
      unfold fnF at cF cF0
      unfold partV at hch
      have HTR : Hid (Tg (fun b => b = O ∨ Bo ≤ b) w (wr.alloc (.cells #[.slice xa xn xc, .slice ya yn yc, .slice za zn zc] 28))) := ht.two (Tg.of_below hkr) (fun _ _ q => q) (fun _ _ q => q)
      clear hTr hFr hOr hown hpt hrow hkt hkr ht l1 l2 l3
      go_wp2_with fail
      refine hch.mono ?_
      rintro e V ⟨⟨u, rfl⟩, ht2, v2, xs2, hO2, hw2⟩
      have HX : Hid (Tg (fun b => b = O ∨ Bo ≤ b) w V) := HTR.out.two ht2 (fun _ _ q => q) (fun _ _ q => q)
      have HO2 : Hid (Blk V O #[v2] 26) := hO2
      have HW2 : Hid (V.ownsRow Bo 28 3 v2 (k + 1) xs2) := hw2
      clear hch ht2 hO2 hw2 cF cF0 e1 e2 e3
      go_wp2
      go_roundw
      case rel => exact ⟨k + 1, by go_num, by omega, HX.out, v2, xs2, HO2.out, HW2.out⟩
      case measure => simp [intOf]; omega
    · obtain rfl : k = 2 := by omega
      have HX : Hid (Tg (fun b => b = O ∨ Bo ≤ b) w wr) := ht
      have HO2 : Hid (Blk wr O #[v] 26) := hOr
      have HW2 : Hid (wr.ownsRow Bo 28 3 v 2 xs) := hown
      clear ht hOr hown
      go_wp2
      exact fl_ret HX.out HO2.out HW2.out rfl
set_option maxHeartbeats 4000000 in
set_option maxRecDepth 100000 in
theorem find_any (x y z : Value) (w : World) (hp : PtAt 8 w knT x y z) :
    Calls Tryz.prog 24 #[partV x y z, .string tpS] w fun e w' => ∃ a c, e = .returned (.slice a 2 c) ∧ Below w.heap.size w w' := by
  have HP : Hid (PtAt 8 w knT x y z) := hp
  obtain ⟨⟨x1, x2, x3, rfl⟩, ⟨y1, y2, y3, rfl⟩, ⟨z1, z2, z3, rfl⟩⟩ := pt_slices hp
  have hk : Below w.heap.size w ((((w.alloc (.cells #[.slice x1 x2 x3, .slice y1 y2 y3, .slice z1 z2 z3] 28)).alloc (.cells #[.string tpS] 9)).alloc (.cells #[.slice none 0 0] 26)).alloc (.cells #[fnF (w.heap.size + 1 + 1 + 1) (w.heap.size + 1) (w.heap.size + 1 + 1)] 81)) := (((keep w _).alloc (by simp) _).alloc (by simp; omega) _).alloc (by simp; omega) _
  have hT : Blk ((((w.alloc (.cells #[.slice x1 x2 x3, .slice y1 y2 y3, .slice z1 z2 z3] 28)).alloc (.cells #[.string tpS] 9)).alloc (.cells #[.slice none 0 0] 26)).alloc (.cells #[fnF (w.heap.size + 1 + 1 + 1) (w.heap.size + 1) (w.heap.size + 1 + 1)] 81)) (w.heap.size + 1) #[.string tpS] 9 := by
    have := Blk.new (w.alloc (.cells #[.slice x1 x2 x3, .slice y1 y2 y3, .slice z1 z2 z3] 28)) #[.string tpS] 9
    rw [World.size_alloc] at this
    exact (this.alloc _).alloc _
  have hO : Blk ((((w.alloc (.cells #[.slice x1 x2 x3, .slice y1 y2 y3, .slice z1 z2 z3] 28)).alloc (.cells #[.string tpS] 9)).alloc (.cells #[.slice none 0 0] 26)).alloc (.cells #[fnF (w.heap.size + 1 + 1 + 1) (w.heap.size + 1) (w.heap.size + 1 + 1)] 81)) (w.heap.size + 1 + 1) #[.slice none 0 0] 26 := by
    have := Blk.new ((w.alloc (.cells #[.slice x1 x2 x3, .slice y1 y2 y3, .slice z1 z2 z3] 28)).alloc (.cells #[.string tpS] 9)) #[.slice none 0 0] 26
    rw [World.size_alloc, World.size_alloc] at this
    exact this.alloc _
  have hF : Blk ((((w.alloc (.cells #[.slice x1 x2 x3, .slice y1 y2 y3, .slice z1 z2 z3] 28)).alloc (.cells #[.string tpS] 9)).alloc (.cells #[.slice none 0 0] 26)).alloc (.cells #[fnF (w.heap.size + 1 + 1 + 1) (w.heap.size + 1) (w.heap.size + 1 + 1)] 81)) (w.heap.size + 1 + 1 + 1) #[fnF (w.heap.size + 1 + 1 + 1) (w.heap.size + 1) (w.heap.size + 1 + 1)] 81 := by
    have := Blk.new (((w.alloc (.cells #[.slice x1 x2 x3, .slice y1 y2 y3, .slice z1 z2 z3] 28)).alloc (.cells #[.string tpS] 9)).alloc (.cells #[.slice none 0 0] 26)) #[fnF (w.heap.size + 1 + 1 + 1) (w.heap.size + 1) (w.heap.size + 1 + 1)] 81
    rw [World.size_alloc, World.size_alloc, World.size_alloc] at this
    exact this
  have hst : Stay (fun b => b = w.heap.size + 1 + 1 ∨ w.heap.size + 4 ≤ b) ((((w.alloc (.cells #[.slice x1 x2 x3, .slice y1 y2 y3, .slice z1 z2 z3] 28)).alloc (.cells #[.string tpS] 9)).alloc (.cells #[.slice none 0 0] 26)).alloc (.cells #[fnF (w.heap.size + 1 + 1 + 1) (w.heap.size + 1) (w.heap.size + 1 + 1)] 81)) (fun W => PtAt 8 W knT (.slice x1 x2 x3) (.slice y1 y2 y3) (.slice z1 z2 z3)) := fun W hW => by
    have ht : Tg (fun _ => False) w W := (Tg.of_below (O := fun _ => False) hk).two hW (fun _ _ q => q) (fun b hb q => by omega)
    exact PtAt.below ⟨ht.1, ht.2.1, ht.2.2.1, ht.2.2.2.1, fun b hb => ht.2.2.2.2 b hb id⟩ _ _ _ _ _ HP.out
  have hch := find_knot 6 (w.heap.size + 1 + 1 + 1) (w.heap.size + 1) (w.heap.size + 1 + 1) (w.heap.size + 4) _ _ _ _ hst hO hT hF (by omega) (by omega) (by omega) (by omega) (by omega) (by first | (simp; done) | (simp; omega))
  have HK : Hid (Below w.heap.size w ((((w.alloc (.cells #[.slice x1 x2 x3, .slice y1 y2 y3, .slice z1 z2 z3] 28)).alloc (.cells #[.string tpS] 9)).alloc (.cells #[.slice none 0 0] 26)).alloc (.cells #[fnF (w.heap.size + 1 + 1 + 1) (w.heap.size + 1) (w.heap.size + 1 + 1)] 81))) := hk
  unfold partV fnF at hch
  unfold partV
  clear hk hT hO hF hst hp
  go_enter Tryz.func24, Tryz.ntmps24
  go_wp2_with fail
  refine hch.mono ?_
  rintro e V ⟨⟨u, rfl⟩, ht, v, xs, hO, hw⟩
  clear hch
  obtain ⟨a, c, rfl⟩ := own_slice hw
  have h1 : Tg (fun _ => False) w V := (Tg.of_below (O := fun _ => False) HK.out).two ht (fun _ _ q => q) (fun b hb q => by omega)
  have HB : Hid (Below w.heap.size w V) := ⟨h1.1, h1.2.1, h1.2.2.1, h1.2.2.2.1, fun b hb => h1.2.2.2.2 b hb id⟩
  have cO := cell1 hO
  clear HK ht hO hw h1
  go_wp2
  go_ret
  exact ⟨_, _, rfl, HB.out⟩
end Go.Proofs.YtmdkmedlncfcbaaGreatDoor
namespace Go.Proofs.YtmdkmedlncfcbaaGreatDoor
open Go.RowKit Go.Shelf
set_option linter.unusedVariables false
set_option linter.unusedSimpArgs false

theorem pairI_nil : pairI [] = -1 := rfl
theorem pairI_some {l : List Int} (h : 0 ≤ pairI l) : ∃ a b, l = a ++ 13 :: 10 :: b ∧ a.length = (pairI l).toNat ∧ pairI a = -1 := by
  induction l with
  | nil => rw [pairI_nil] at h; omega
  | cons c l ih =>
    have hg := pairI_ge l
    have e : pairI (c :: l) = if c = 13 ∧ l.head? = some 10 then 0 else if pairI l = -1 then -1 else pairI l + 1 := rfl
    by_cases q : c = 13 ∧ l.head? = some 10
    · obtain ⟨rfl, q2⟩ := q
      cases l with
      | nil => simp at q2
      | cons d l =>
        simp at q2
        subst q2
        exact ⟨[], l, rfl, by rw [e, if_pos ⟨rfl, rfl⟩]; rfl, rfl⟩
    · rw [if_neg q] at e
      by_cases q3 : pairI l = -1
      · rw [if_pos q3] at e; omega
      · rw [if_neg q3] at e
        obtain ⟨a, b, e1, e2, e3⟩ := ih (by omega)
        refine ⟨c :: a, b, by rw [e1]; rfl, by rw [List.length_cons, e2, e]; omega, ?_⟩
        have e4 : pairI (c :: a) = if c = 13 ∧ a.head? = some 10 then 0 else if pairI a = -1 then -1 else pairI a + 1 := rfl
        rw [e4, if_neg, if_pos e3]
        rintro ⟨q4, q5⟩
        refine q ⟨q4, ?_⟩
        rw [e1]
        cases a with
        | nil => simp at q5
        | cons x y => simpa using q5
/-- A pair is found where it first stands. -/
theorem pairI_at : ∀ (a b : List Int), pairI a = -1 → pairI (a ++ 13 :: 10 :: b) = a.length
  | [], b, _ => rfl
  | c :: a, b, h => by
    have e : pairI (c :: a) = if c = 13 ∧ a.head? = some 10 then 0 else if pairI a = -1 then -1 else pairI a + 1 := rfl
    have hg := pairI_ge a
    by_cases q : c = 13 ∧ a.head? = some 10
    · rw [e, if_pos q] at h; omega
    · rw [e, if_neg q] at h
      have ha : pairI a = -1 := by
        by_cases r : pairI a = -1
        · exact r
        · rw [if_neg r] at h; omega
      have ih := pairI_at a b ha
      have e2 : pairI (c :: (a ++ 13 :: 10 :: b)) = if c = 13 ∧ (a ++ 13 :: 10 :: b).head? = some 10 then 0 else if pairI (a ++ 13 :: 10 :: b) = -1 then -1 else pairI (a ++ 13 :: 10 :: b) + 1 := rfl
      rw [List.cons_append, e2, if_neg, if_neg (by omega), ih]
      · simp
      · rintro ⟨q1, q2⟩
        refine q ⟨q1, ?_⟩
        cases a with
        | nil => simp at q2
        | cons x y => simpa using q2
theorem splitP_enough : ∀ (n m : Nat) (l : List Int), l.length ≤ n → l.length ≤ m → splitP n l = splitP m l
  | 0, 0, l, _, _ => rfl
  | 0, m + 1, l, h, _ => by
    obtain rfl : l = [] := List.eq_nil_of_length_eq_zero (by omega)
    rw [splitP, splitP, if_neg (by rw [pairI_nil]; omega)]
  | n + 1, 0, l, _, h => by
    obtain rfl : l = [] := List.eq_nil_of_length_eq_zero (by omega)
    rw [splitP, splitP, if_neg (by rw [pairI_nil]; omega)]
  | n + 1, m + 1, l, h1, h2 => by
    rw [splitP, splitP]
    by_cases hp : 0 ≤ pairI l
    · have := pairI_room l hp
      rw [if_pos hp, if_pos hp, splitP_enough n m _ (by rw [List.length_drop]; omega) (by rw [List.length_drop]; omega)]
    · rw [if_neg hp, if_neg hp]
/-- The lines of a text that a pair follows. -/
theorem split_app : ∀ (n F : Nat) (S R : List Int), S.length ≤ n → (S ++ 13 :: 10 :: R).length ≤ F → splitP F (S ++ 13 :: 10 :: R) = (bareP n S).map (fun q => q ++ [13, 10]) ++ splitP R.length R
  | n, 0, S, R, _, h => by simp at h
  | 0, F + 1, S, R, hS, h => by
    obtain rfl : S = [] := List.eq_nil_of_length_eq_zero (by omega)
    have e : pairI ([] ++ 13 :: 10 :: R) = 0 := pairI_at [] R rfl
    rw [splitP, if_pos (by omega), e]
    simp only [bareP, List.nil_append, List.map_cons, List.map_nil, List.cons_append]
    show [13, 10] :: splitP F R = _
    rw [splitP_enough F R.length R (by simp at h; omega) (Nat.le_refl _)]
  | n + 1, F + 1, S, R, hS, h => by
    by_cases hp : 0 ≤ pairI S
    · obtain ⟨a, b, e1, e2, e3⟩ := pairI_some hp
      have hpi : pairI S = (a.length : Int) := by omega
      have e4 : pairI (S ++ 13 :: 10 :: R) = (a.length : Int) := by
        rw [e1, List.append_assoc]
        exact pairI_at a _ e3
      have hb : (bareP (n + 1) S) = a :: bareP n b := by
        rw [bareP, if_pos hp, hpi]
        have : ((a.length : Int)).toNat = a.length := by omega
        rw [this]
        congr 1
        · rw [e1]; simp
        · rw [e1]; congr 1; rw [List.drop_append]; simp
      rw [splitP, if_pos (by omega), e4, hb]
      have h1 : ((a.length : Int)).toNat = a.length := by omega
      rw [h1]
      have h2 : (S ++ 13 :: 10 :: R).take (a.length + 2) = a ++ [13, 10] := by rw [e1, List.append_assoc, List.take_append]; simp; exact List.take_of_length_le (by omega)
      have h3 : (S ++ 13 :: 10 :: R).drop (a.length + 2) = b ++ 13 :: 10 :: R := by rw [e1, List.append_assoc, List.drop_append]; simp
      rw [h2, h3, split_app n F b R (by rw [e1] at hS; simp at hS; omega) (by rw [e1] at h; simp at h ⊢; omega)]
      simp
    · have hm : pairI S = -1 := by have := pairI_ge S; omega
      have e4 := pairI_at S R hm
      have hb : bareP (n + 1) S = [S] := by rw [bareP, if_neg hp]
      rw [splitP, if_pos (by omega), e4, hb]
      have h1 : ((S.length : Int)).toNat = S.length := by omega
      rw [h1]
      have h2 : (S ++ 13 :: 10 :: R).take (S.length + 2) = S ++ [13, 10] := by rw [List.take_append]; simp; exact List.take_of_length_le (by omega)
      have h3 : (S ++ 13 :: 10 :: R).drop (S.length + 2) = R := by rw [List.drop_append]; simp
      rw [h2, h3, splitP_enough F R.length R (by simp at h; omega) (Nat.le_refl _)]
      simp
theorem trimR_pre (l : List Int) : ∃ t, l = trimR l ++ t := by
  unfold trimR
  refine ⟨(l.reverse.takeWhile blankC).reverse, ?_⟩
  rw [← List.reverse_append, List.takeWhile_append_dropWhile, List.reverse_reverse]
theorem trimR_takeW {l x : List Int} (h : trimR l = x) : l.take x.length = x := by
  obtain ⟨t, e⟩ := trimR_pre l
  rw [h] at e
  rw [e]; simp
theorem trimR_self {l : List Int} (h : ∀ c ∈ l, blankC c = false) : trimR l = l := by
  unfold trimR
  have : l.reverse.dropWhile blankC = l.reverse := by
    cases hr : l.reverse with
    | nil => rfl
    | cons c r =>
      have hc := h c (by rw [← List.mem_reverse, hr]; simp)
      rw [List.dropWhile_cons, hc]; simp
  rw [this, List.reverse_reverse]
theorem stem_pair (q : List Int) : stemZ (q ++ [13, 10]) = q := by
  unfold stemZ endsZ
  rw [if_pos]
  · simp
  · rw [decide_eq_true_eq]
    refine ⟨by simp, ?_⟩
    simp
theorem bare_pair (q : List Int) : bareZ (q ++ [13, 10]) = trimR q := by unfold bareZ; rw [stem_pair]
/-- A border's signs. -/
def clean (x : List Int) : Prop := (∀ c ∈ x, blankC c = false) ∧ ∀ c ∈ x, c ≠ 13
theorem clean_none {x : List Int} (h : ∀ c ∈ x, c ≠ 13) : pairI x = -1 := by
  induction x with
  | nil => rfl
  | cons c x ih =>
    have e : pairI (c :: x) = if c = 13 ∧ x.head? = some 10 then 0 else if pairI x = -1 then -1 else pairI x + 1 := rfl
    rw [e, if_neg (fun q => h c (by simp) q.1), if_pos (ih (fun d hd => h d (by simp [hd])))]
theorem bareP_one {n : Nat} {x : List Int} (h : pairI x = -1) : bareP n x = [x] := by
  cases n with
  | zero => rfl
  | succ n => rw [bareP, if_neg (by omega)]
/-- The text of a knot's parts. -/
def cont (nx : List Int) : List (List Int) → List Int
  | [] => nx ++ [45, 45, 13, 10]
  | S :: r => nx ++ 13 :: 10 :: (S ++ 13 :: 10 :: cont nx r)
def plc (nx : List Int) : Nat → List (List Int) → List (Nat × Nat)
  | _, [] => []
  | p, S :: r => (p + nx.length + 2, p + nx.length + 2 + S.length) :: plc nx (p + nx.length + 2 + S.length + 2) r
theorem bare_sum : ∀ (n : Nat) (S : List Int), S.length ≤ n → ((bareP n S).map (fun q => q ++ [13, 10])).flatten.length = S.length + 2
  | 0, S, h => by
    obtain rfl : S = [] := List.eq_nil_of_length_eq_zero (by omega)
    rfl
  | n + 1, S, h => by
    by_cases hp : 0 ≤ pairI S
    · have hr := pairI_room S hp
      rw [bareP, if_pos hp, List.map_cons, List.flatten_cons, List.length_append, bare_sum n _ (by rw [List.length_drop]; omega), List.length_append, List.length_take, List.length_drop]
      simp; omega
    · rw [bareP, if_neg hp]; simp
/-- Lines that begin with no border are passed by. -/
theorem betwL_pass (nx : List Int) : ∀ (L rest : List (List Int)) (p bg : Nat) (out : List (Nat × Nat)), (∀ q ∈ L, q.take nx.length ≠ nx) →
    betwL nx p bg true out (L.map (fun q => q ++ [13, 10]) ++ rest) = betwL nx (p + (L.map (fun q => q ++ [13, 10])).flatten.length) bg true out rest
  | [], rest, p, bg, out, _ => by simp
  | q :: L, rest, p, bg, out, h => by
    have hq := h q (by simp)
    have h1 : bareZ (q ++ [13, 10]) ≠ nx := fun e => by rw [bare_pair] at e; exact hq (trimR_takeW e)
    have h2 : bareZ (q ++ [13, 10]) ≠ nx ++ [45, 45] := fun e => by
      rw [bare_pair] at e
      have := trimR_takeW e
      rw [List.length_append] at this
      have h3 := congrArg (List.take nx.length) this
      rw [List.take_take] at h3
      simp at h3
      exact hq h3
    rw [List.map_cons, List.cons_append, betwL, if_neg (fun e => h2 e.2), if_neg h1, if_neg (fun e => h1 e.2)]
    have : decide (bareZ (q ++ [13, 10]) = nx) = false := by simp [h1]
    rw [this, Bool.or_false, betwL_pass nx L rest _ bg out (fun r hr => h r (by simp [hr]))]
    congr 1
    simp; omega
theorem betwL_cont (nx : List Int) (hc : clean nx) : ∀ (segs : List (List Int)) (p bg : Nat) (op : Bool) (out : List (Nat × Nat)) (F : Nat), (∀ S ∈ segs, beginsZ S nx = false) → (op = true ∨ segs ≠ []) → (cont nx segs).length ≤ F →
    betwL nx p bg op out (splitP F (cont nx segs)) = some (out ++ (if op = true then [(bg, max bg (p - 2))] else []) ++ plc nx p segs)
  | [], p, bg, op, out, F, _, ho, hF => by
    have hop : op = true := by rcases ho with h | h; · exact h
                               · exact absurd rfl h
    subst hop
    have e : cont nx [] = (nx ++ [45, 45]) ++ 13 :: 10 :: [] := by simp [cont]
    have hn : pairI (nx ++ [45, 45]) = -1 := clean_none (fun c hc' => by
      rcases List.mem_append.1 hc' with q | q
      · exact hc.2 c q
      · simp at q; omega)
    rw [e] at hF ⊢
    rw [split_app (nx ++ [45, 45]).length F _ [] (Nat.le_refl _) hF, bareP_one hn]
    have hb : bareZ ((nx ++ [45, 45]) ++ [13, 10]) = nx ++ [45, 45] := by
      rw [bare_pair, trimR_self]
      intro c hc'
      rcases List.mem_append.1 hc' with q | q
      · exact hc.1 c q
      · simp at q; subst q; rfl
    rw [List.map_cons, List.map_nil, List.cons_append, betwL, if_pos ⟨rfl, hb⟩]
    simp [plc]
  | S :: r, p, bg, op, out, F, hS, ho, hF => by
    have e : cont nx (S :: r) = nx ++ 13 :: 10 :: (S ++ 13 :: 10 :: cont nx r) := rfl
    rw [e] at hF ⊢
    have hn : pairI nx = -1 := clean_none hc.2
    rw [split_app nx.length F nx _ (Nat.le_refl _) hF, bareP_one hn, List.map_cons, List.map_nil, List.cons_append, List.nil_append]
    have hb : bareZ (nx ++ [13, 10]) = nx := by rw [bare_pair, trimR_self hc.1]
    have hb2 : ¬ (op = true ∧ bareZ (nx ++ [13, 10]) = nx ++ [45, 45]) := fun q => by
      rw [hb] at q
      have := congrArg List.length q.2
      simp at this
    rw [betwL, if_neg hb2, if_pos hb]
    have hd : decide (bareZ (nx ++ [13, 10]) = nx) = true := by simp [hb]
    rw [hd, Bool.or_true]
    have hl : (S ++ 13 :: 10 :: cont nx r).length = S.length + 2 + (cont nx r).length := by simp; omega
    rw [split_app S.length _ S (cont nx r) (Nat.le_refl _) (by rw [hl]; omega)]
    have hno : ∀ q ∈ bareP S.length S, q.take nx.length ≠ nx := fun q hq e2 => by
      have := hS S (by simp)
      unfold beginsZ at this
      rw [List.any_eq_false] at this
      have h3 := this q hq
      simp at h3
      exact h3 e2
    rw [betwL_pass nx _ _ _ _ _ hno, bare_sum S.length S (Nat.le_refl _)]
    rw [betwL_cont nx hc r _ _ true _ _ (fun T hT => hS T (by simp [hT])) (.inl rfl) (Nat.le_refl _)]
    congr 1
    have hlen : (nx ++ [13, 10]).length = nx.length + 2 := by simp
    rw [hlen]
    have hmax : max (p + (nx.length + 2)) (p + (nx.length + 2) + (S.length + 2) - 2) = p + nx.length + 2 + S.length := by omega
    rw [hmax]
    simp only [plc, if_true]
    have e3 : p + (nx.length + 2) = p + nx.length + 2 := by omega
    have e4 : p + nx.length + 2 + (S.length + 2) = p + nx.length + 2 + S.length + 2 := by omega
    rw [e3, e4]
    by_cases hop : op = true
    · simp [hop, hb]
    · simp [hop]
end Go.Proofs.YtmdkmedlncfcbaaGreatDoor
namespace Go.Proofs.YtmdkmedlncfcbaaGreatDoor
open Go.RowKit Go.Shelf
set_option linter.unusedVariables false
set_option linter.unusedSimpArgs false

def Chn (rec : Nat → List Int → Nat × Except Int Prt) (c : Nat) : Nat → List (List Int) → List Prt → Prop
  | ct, [], [] => ct = c
  | ct, S :: r, q :: qs => ∃ c1, rec ct S = (c1, .ok q) ∧ Chn rec c c1 r qs
  | _, [], _ :: _ => False
  | _, _ :: _, [] => False
theorem prL_cont (nx : List Int) (rec : Nat → List Int → Nat × Except Int Prt) (c : Nat) (M : List Int) : ∀ (segs : List (List Int)) (qs : List Prt) (ct : Nat) (pre : List Int) (acc : List Prt), M = pre ++ cont nx segs → Chn rec c ct segs qs →
    prL rec M ct (plc nx pre.length segs) acc = (c, .ok (acc ++ qs))
  | [], [], ct, pre, acc, _, h => by
    have : ct = c := h
    subst this
    simp [plc, prL]
  | [], q :: qs, ct, pre, acc, _, h => h.elim
  | S :: r, [], ct, pre, acc, _, h => h.elim
  | S :: r, q :: qs, ct, pre, acc, hM, h => by
    obtain ⟨c1, h1, h2⟩ := h
    have e1 : M = (pre ++ nx ++ [13, 10]) ++ (S ++ 13 :: 10 :: cont nx r) := by rw [hM, cont]; simp
    have hl : (pre ++ nx ++ [13, 10]).length = pre.length + nx.length + 2 := by simp; omega
    have hs : (M.drop (pre.length + nx.length + 2)).take (pre.length + nx.length + 2 + S.length - (pre.length + nx.length + 2)) = S := by
      rw [e1, ← hl, List.drop_left, Nat.add_sub_cancel_left, List.take_left]
    have e2 : M = (pre ++ nx ++ [13, 10] ++ S ++ [13, 10]) ++ cont nx r := by rw [e1]; simp
    have hl2 : (pre ++ nx ++ [13, 10] ++ S ++ [13, 10]).length = pre.length + nx.length + 2 + S.length + 2 := by simp; omega
    have ih := prL_cont nx rec c M r qs c1 (pre ++ nx ++ [13, 10] ++ S ++ [13, 10]) (acc ++ [q]) e2 h2
    rw [hl2] at ih
    rw [plc, prL]
    simp only [hs, h1]
    rw [ih]; simp
theorem wrL_ok (f : Nat) (IH : ∀ ct out t c o, wrP (f + 1) ct out t = (c, o, true) → ∃ S, o = out ++ S ∧ prP f ct S = (c, .ok t)) (bd : List Int) : ∀ (qs : List Prt) (ct : Nat) (out : List Int) (c : Nat) (o : List Int), wrL (wrP (f + 1)) bd ct out qs = (c, o, true) →
    ∃ segs, o = out ++ cont (45 :: 45 :: bd) segs ∧ Chn (prP f) c ct segs qs ∧ ∀ S ∈ segs, beginsZ S (45 :: 45 :: bd) = false
  | [], ct, out, c, o, h => by
    simp only [wrL, Prod.mk.injEq, and_true] at h
    refine ⟨[], ?_, h.1, by simp⟩
    rw [← h.2]; simp [cont]
  | q :: r, ct, out, c, o, h => by
    rw [wrL] at h
    split at h
    · cases h
    · rename_i c1 o1 hq
      obtain ⟨S, e1, e2⟩ := IH _ _ _ _ _ hq
      split at h
      · cases h
      · rename_i hb
        obtain ⟨segs, h1, h2, h3⟩ := wrL_ok f IH bd r c1 (o1 ++ [13, 10]) c o h
        refine ⟨S :: segs, ?_, ⟨c1, e2, h2⟩, ?_⟩
        · rw [h1, e1]; simp [cont]
        · intro T hT
          rcases List.mem_cons.1 hT with rfl | hT
          · have : o1.drop (out ++ (45 :: 45 :: bd ++ [13, 10])).length = T := by rw [e1, List.drop_left]
            rw [this] at hb
            simpa using hb
          · exact h3 T hT
theorem bord_clean {k : Kn} {bd : List Int} (h : bord k = some bd) : clean (45 :: 45 :: bd) := by
  have hb := (bord_spec h).1
  rw [List.all_eq_true] at hb
  have key : ∀ c ∈ (45 :: 45 :: bd), blankC c = false ∧ c ≠ 13 := by
    intro c hc
    simp only [List.mem_cons] at hc
    rcases hc with rfl | rfl | hc
    · decide
    · decide
    · have := hb c hc
      simp [bC] at this
      constructor
      · simp [blankC]; omega
      · omega
  exact ⟨fun c hc => (key c hc).1, fun c hc => (key c hc).2⟩
theorem wrH_ok {ct : Nat} {out : List Int} {t : Prt} {g : List Int → List Int → Nat × List Int × Bool} {c : Nat} {o : List Int} (h : wrH ct out t g = (c, o, true)) :
    ct ≤ 64 ∧ writeC t.fs = 0 ∧ ∃ k, knd t.fs = some k ∧ ((k.1 ≠ mpZ ∧ t.ps = [] ∧ c = ct ∧ o = out ++ (writeB t.fs ++ t.body)) ∨ (k.1 = mpZ ∧ t.body = [] ∧ t.ps ≠ [] ∧ ∃ bd, bord k = some bd ∧ g bd (out ++ writeB t.fs) = (c, o, true))) := by
  unfold wrH at h
  split at h
  · cases h
  · rename_i hct
    split at h
    · cases h
    · rename_i k hk
      split at h
      · cases h
      · rename_i hs
        have hsh : shapedZ k t.body.length t.ps.length = true := by
          cases q : shapedZ k t.body.length t.ps.length with
          | true => rfl
          | false => exact absurd (.inl q) hs
        have hro : roomZ t out = true := by
          cases q : roomZ t out with
          | true => rfl
          | false => exact absurd (.inr q) hs
        have hw : writeC t.fs = 0 := by
          unfold roomZ at hro
          simp only [Bool.and_eq_true, decide_eq_true_eq] at hro
          exact hro.1
        refine ⟨by omega, hw, k, hk, ?_⟩
        unfold shapedZ at hsh
        split at h
        · rename_i hm
          rw [if_pos hm] at hsh
          simp only [Bool.and_eq_true, decide_eq_true_eq] at hsh
          obtain ⟨⟨h1, h2⟩, h3⟩ := hsh
          obtain ⟨bd, hbd⟩ := Option.isSome_iff_exists.1 h1
          have hbody : t.body = [] := List.eq_nil_of_length_eq_zero h3
          refine .inr ⟨hm, hbody, fun q => by rw [q] at h2; simp at h2, bd, hbd, ?_⟩
          rw [hbd, hbody, List.append_nil] at h
          exact h
        · rename_i hm
          rw [if_neg hm, decide_eq_true_eq] at hsh
          simp only [Prod.mk.injEq, and_true] at h
          exact .inl ⟨hm, List.eq_nil_of_length_eq_zero hsh, h.1.symm, by rw [← h.2, List.append_assoc]⟩
theorem prH_leaf {ct : Nat} {t : Prt} {k : Kn} {g : List Int → List (Nat × Nat) → Nat × Except Int Prt} (hct : ct ≤ 64) (hw : writeC t.fs = 0) (hk : knd t.fs = some k) (hm : k.1 ≠ mpZ) (hp : t.ps = []) :
    prH ct (writeB t.fs ++ t.body) g = (ct, .ok t) := by
  obtain ⟨h1, _, h3, h4⟩ := parse_back t.body hw
  unfold prH
  rw [if_neg (by omega), if_neg (by rw [h1]; simp), h4, hk, h3]
  simp only []
  rw [if_neg hm]
  have e : (writeB t.fs ++ t.body).drop ((writeB t.fs).length : Int).toNat = t.body := by
    rw [show (((writeB t.fs).length : Nat) : Int).toNat = (writeB t.fs).length by omega, List.drop_left]
  rw [e]
  obtain ⟨fs, body, ps⟩ := t
  simp only at hp ⊢
  rw [hp]
theorem prH_knot {ct : Nat} {t : Prt} {k : Kn} {bd M : List Int} {ts : List (Nat × Nat)} {g : List Int → List (Nat × Nat) → Nat × Except Int Prt} (hct : ct ≤ 64) (hw : writeC t.fs = 0) (hk : knd t.fs = some k) (hm : k.1 = mpZ) (hb : bord k = some bd) (ht : betw M bd = some ts) :
    prH ct (writeB t.fs ++ M) g = g M ts := by
  obtain ⟨h1, _, h3, h4⟩ := parse_back M hw
  unfold prH
  rw [if_neg (by omega), if_neg (by rw [h1]; simp), h4, hk, h3]
  simp only []
  rw [if_pos hm]
  have e : (writeB t.fs ++ M).drop ((writeB t.fs).length : Int).toNat = M := by
    rw [show (((writeB t.fs).length : Nat) : Int).toNat = (writeB t.fs).length by omega, List.drop_left]
  rw [e, hb, Option.bind_some, ht]; rfl
/-- What is written is read as it was. -/
theorem wr_back : ∀ (f ct : Nat) (out : List Int) (t : Prt) (c : Nat) (o : List Int), wrP (f + 1) ct out t = (c, o, true) → ∃ S, o = out ++ S ∧ prP f ct S = (c, .ok t) := by
  intro f
  induction f with
  | zero =>
    intro ct out t c o h
    rw [wrP] at h
    obtain ⟨hct, hw, k, hk, ⟨hm, hp, rfl, rfl⟩ | ⟨hm, hbody, hp, bd, hbd, hg⟩⟩ := wrH_ok h
    · exact ⟨_, rfl, by rw [prP]; exact prH_leaf hct hw hk hm hp⟩
    · exfalso
      cases hq : t.ps with
      | nil => exact hp hq
      | cons q r =>
        rw [hq, wrL] at hg
        simp [wrP] at hg
  | succ f ih =>
    intro ct out t c o h
    rw [wrP] at h
    obtain ⟨hct, hw, k, hk, ⟨hm, hp, rfl, rfl⟩ | ⟨hm, hbody, hp, bd, hbd, hg⟩⟩ := wrH_ok h
    · exact ⟨_, rfl, by rw [prP]; exact prH_leaf hct hw hk hm hp⟩
    · obtain ⟨segs, h1, h2, h3⟩ := wrL_ok f ih bd t.ps (ct + 1) (out ++ writeB t.fs) c o hg
      refine ⟨writeB t.fs ++ cont (45 :: 45 :: bd) segs, by rw [h1, List.append_assoc], ?_⟩
      have hne : segs ≠ [] := fun q => by
        subst q
        cases hq : t.ps with
        | nil => exact hp hq
        | cons a b => rw [hq] at h2; exact h2
      have hb : betw (cont (45 :: 45 :: bd) segs) bd = some (plc (45 :: 45 :: bd) 0 segs) := by
        unfold betw
        rw [betwL_cont (45 :: 45 :: bd) (bord_clean hbd) segs 0 0 false [] _ h3 (.inr hne) (Nat.le_refl _)]
        simp
      rw [prP, prH_knot hct hw hk hm hbd hb, (parse_back _ hw).2.2.2]
      have := prL_cont (45 :: 45 :: bd) (prP f) c (cont (45 :: 45 :: bd) segs) segs t.ps (ct + 1) [] [] rfl h2
      rw [List.length_nil, List.nil_append] at this
      rw [this, prW]
      obtain ⟨fs, body, ps⟩ := t
      simp only at hbody
      rw [hbody]
theorem wr_top {t : Prt} {o : List Int} (h : wrT t = some o) : (prP 7 0 o).2 = .ok t ∧ o.length ≤ 1048576 := by
  unfold wrT at h
  split at h
  · rename_i hh
    cases h
    obtain ⟨S, e1, e2⟩ := wr_back 7 0 [] t (wrP 8 0 [] t).1 (wrP 8 0 [] t).2.1 (by rw [← hh.1])
    rw [List.nil_append] at e1
    rw [e1, e2]
    exact ⟨rfl, by rw [← e1]; exact hh.2⟩
  · cases h
end Go.Proofs.YtmdkmedlncfcbaaGreatDoor
namespace Go.Proofs.YtmdkmedlncfcbaaGreatDoor
open Go.RowKit Go.Shelf
set_option linter.unusedVariables false
set_option linter.unusedSimpArgs false

theorem kn_byt : Byt knB := by unfold Byt; decide
theorem kn_fitT : FitT 8 knT := fit_read 7 0 knB 3 knT kn_rd kn_byt (by decide)
set_option maxRecDepth 100000 in
theorem kn_none : (prP 7 0 []).2 = .error 50 := by kernel_rfl
theorem pt_up6 {w : World} {t : Prt} {x y z : Value} (h : PtAt 2 w t x y z) : PtAt 8 w t x y z := .up _ _ _ _ _ (.up _ _ _ _ _ (.up _ _ _ _ _ (.up _ _ _ _ _ (.up _ _ _ _ _ (.up _ _ _ _ _ h)))))
set_option maxRecDepth 100000 in
theorem kn_str : strOfNums knB = (⟨([67, 111, 110, 116, 101, 110, 116, 45, 84, 121, 112, 101, 58, 32, 109, 117, 108, 116, 105, 112, 97, 114, 116, 47, 109, 105, 120, 101, 100, 59, 32, 98, 111, 117, 110, 100].append [97, 114, 121, 61, 98, 13, 10, 13, 10, 45, 45, 98, 13, 10, 13, 10, 120, 13, 10, 45, 45, 98, 13, 10, 13, 10, 121, 13, 10, 45, 45, 98, 45, 45, 13, 10]).toArray⟩ : ByteArray) := by kernel_rfl
set_option maxHeartbeats 8000000 in
set_option maxRecDepth 100000 in
theorem alive_any (w : World) (hm : Mx w) : Calls Tryz.prog 9 #[] w fun e w' => e = .returned (.bool true) ∧ Below w.heap.size w w' := by
  have HM : Hid (Mx w) := hm
  clear hm
  go_enter Tryz.func9, Tryz.ntmps9
  go_wp2_with fail
  refine (knot_any w).mono ?_
  rintro e w1 ⟨x, y, z, rfl, hb1, hp1⟩
  have hw := write_top 8 knT x y z w1 (pt_up6 hp1) kn_fitT (HM.out.keep hb1)
  have HB1 : Hid (Below w.heap.size w w1) := hb1
  clear hb1 hp1
  go_wp2_with fail
  refine hw.mono ?_
  rintro e w2 ⟨v, c, rfl, hb2, hans⟩
  clear hw
  obtain ⟨hc, hown⟩ : c = 0 ∧ Own w2 w1.heap.size v knB := by
    rcases hans with ⟨o, h1, h2, h3, _⟩ | ⟨h1, _⟩
    · rw [kn_wt] at h1; cases h1; exact ⟨h2, h3⟩
    · rw [kn_wt] at h1; cases h1
  subst hc
  have HB2 : Hid (Below w.heap.size w w2) := HB1.out.trans (hb2.mono HB1.out.size)
  obtain ⟨ba, bc, rfl, hb1, hb2', hb3, hb4, hrow⟩ := own_bat hown kn_byt (by decide)
  have hps := parse_top ba knB.length bc knB w2 rfl hb1 hb2' hb3 (by decide) hb4 hrow (HM.out.keep HB2.out)
  have HR : Hid (Row w2 ba knB) := hrow
  have HCL : Hid (knB.length ≤ bc) := hb1
  clear hans hb2 hown hrow hb1 hb2' hb3 hb4 HB1
  go_wp2_with fail
  refine hps.mono ?_
  rintro e w3 ⟨vf, vb, vp, c3, rfl, hb3, hans⟩
  clear hps
  obtain ⟨hc, hpt⟩ : c3 = 0 ∧ PtAt 8 w3 knT vf vb vp := by
    rcases hans with ⟨t, h1, h2, h3⟩ | ⟨er, h1, _⟩
    · rw [kn_rd] at h1; cases h1; exact ⟨h2, h3.now⟩
    · rw [kn_rd] at h1; cases h1
  subst hc
  obtain ⟨⟨f1, f2, f3, rfl⟩, ⟨b1, b2, b3, rfl⟩, ⟨p1, p2, p3, rfl⟩⟩ := pt_slices hpt
  have HB3 : Hid (Below w2.heap.size w2 w3) := hb3
  have HP3 : Hid (PtAt 8 w3 knT (.slice f1 f2 f3) (.slice b1 b2 b3) (.slice p1 p2 p3)) := hpt
  have hk4 := keep w3 (.cells #[.slice f1 f2 f3, .slice b1 b2 b3, .slice p1 p2 p3] 28)
  have hG4 := Blk.new w3 #[.slice f1 f2 f3, .slice b1 b2 b3, .slice p1 p2 p3] 28
  have HW4 : Hid (Below w.heap.size w (w3.alloc (.cells #[.slice f1 f2 f3, .slice b1 b2 b3, .slice p1 p2 p3] 28))) := (HB2.out.trans (hb3.mono HB2.out.size)).trans (hk4.mono (HB2.out.trans (hb3.mono HB2.out.size)).size)
  have hps := parse_top none 0 0 [] (w3.alloc (.cells #[.slice f1 f2 f3, .slice b1 b2 b3, .slice p1 p2 p3] 28)) rfl (Nat.le_refl _) (by decide) (fun _ => rfl) (by decide) (fun x hx => by simp at hx) (.inl rfl) (HM.out.keep HW4.out)
  have HK4 : Hid (Below w3.heap.size w3 (w3.alloc (.cells #[.slice f1 f2 f3, .slice b1 b2 b3, .slice p1 p2 p3] 28))) := hk4
  have HG4 : Hid (Blk (w3.alloc (.cells #[.slice f1 f2 f3, .slice b1 b2 b3, .slice p1 p2 p3] 28)) w3.heap.size #[.slice f1 f2 f3, .slice b1 b2 b3, .slice p1 p2 p3] 28) := hG4
  clear hans hb3 hpt hk4 hG4
  unfold partV
  go_wp2_with fail
  refine hps.mono ?_
  rintro e w4 ⟨vf, vb, vp, c4, rfl, hb4, hans⟩
  clear hps
  obtain ⟨hc, e1, e2, e3⟩ : c4 = 50 ∧ vf = .slice none 0 0 ∧ vb = .slice none 0 0 ∧ vp = .slice none 0 0 := by
    rcases hans with ⟨t, h1, _⟩ | ⟨er, h1, h2, _, h3, h4, h5⟩
    · rw [kn_none] at h1; cases h1
    · rw [kn_none] at h1; cases h1; exact ⟨h2, h3, h4, h5⟩
  subst hc e1 e2 e3
  unfold partV
  have HB4 : Hid (Below w.heap.size w w4) := HW4.out.trans (hb4.mono HW4.out.size)
  have HG5 : Hid (Blk w4 w3.heap.size #[.slice f1 f2 f3, .slice b1 b2 b3, .slice p1 p2 p3] 28) := HG4.out.below hb4 HG4.out.lt
  have hkz := keep w4 (.cells #[.slice none 0 0, .slice none 0 0, .slice none 0 0] 28)
  have HB5' : Hid (Below w.heap.size w (w4.alloc (.cells #[.slice none 0 0, .slice none 0 0, .slice none 0 0] 28))) := HB4.out.trans (hkz.mono HB4.out.size)
  have h34 : Below w3.heap.size w3 w4 := HK4.out.trans (hb4.mono HK4.out.size)
  have H35 : Hid (Below w3.heap.size w3 (w4.alloc (.cells #[.slice none 0 0, .slice none 0 0, .slice none 0 0] 28))) := h34.trans (hkz.mono h34.size)
  have HG6 : Hid (Blk (w4.alloc (.cells #[.slice none 0 0, .slice none 0 0, .slice none 0 0] 28)) w3.heap.size #[.slice f1 f2 f3, .slice b1 b2 b3, .slice p1 p2 p3] 28) := HG5.out.alloc _
  clear hans hb4 hkz h34
  go_wp2_with fail
  generalize w4.alloc (.cells #[.slice none 0 0, .slice none 0 0, .slice none 0 0] 28) = w5 at *
  have HB5 : Hid (Below w.heap.size w w5) := HB5'
  have S3 : ∀ V, Below w5.heap.size w5 V → Below w5.heap.size w5 V ∧ V.cell? ⟨w3.heap.size, 0, none⟩ = some (.slice f1 f2 f3) ∧ V.cell? ⟨w3.heap.size, 1, none⟩ = some (.slice b1 b2 b3) ∧ V.cell? ⟨w3.heap.size, 2, none⟩ = some (.slice p1 p2 p3) := fun V hV => ⟨hV, cells3 (HG6.out.below hV HG6.out.lt)⟩
  have HPT : Hid (∀ V, Below w5.heap.size w5 V → PtAt 8 V knT (.slice f1 f2 f3) (.slice b1 b2 b3) (.slice p1 p2 p3)) := fun V hV => PtAt.below (H35.out.trans (hV.mono H35.out.size)) _ _ _ _ _ HP3.out
  have HKC : Hid (∀ V, Below w5.heap.size w5 V → (convert 22 9 (.slice ba knB.length bc)).run Tryz.prog V = .ok (.string ⟨([67, 111, 110, 116, 101, 110, 116, 45, 84, 121, 112, 101, 58, 32, 109, 117, 108, 116, 105, 112, 97, 114, 116, 47, 109, 105, 120, 101, 100, 59, 32, 98, 111, 117, 110, 100].append [97, 114, 121, 61, 98, 13, 10, 13, 10, 45, 45, 98, 13, 10, 13, 10, 120, 13, 10, 45, 45, 98, 13, 10, 13, 10, 121, 13, 10, 45, 45, 98, 45, 45, 13, 10]).toArray⟩) V) := fun V hV => by
    have h25 : Below w2.heap.size w2 V := HB3.out.trans ((H35.out.trans (hV.mono H35.out.size)).mono HB3.out.size)
    have := conv_row (w := V) (a := ba) (l := knB) knB.length bc rfl (row_below HR.out h25)
    rw [kn_str] at this
    exact this
  refine wp_region_held_drew (S := (fun V => Below w5.heap.size w5 V ∧ V.cell? ⟨w3.heap.size, 0, none⟩ = some (.slice f1 f2 f3) ∧ V.cell? ⟨w3.heap.size, 1, none⟩ = some (.slice b1 b2 b3) ∧ V.cell? ⟨w3.heap.size, 2, none⟩ = some (.slice p1 p2 p3))) (by kernel_rfl) (S3 _ (below_drew (Below.refl _ _))) (fun hHeld => ?_)
  have hkc := HKC.out _ hHeld.1
  refine takeD (some 21) (i := 0) (v := .int .i64 0) rfl rfl (by kernel_rfl) (by kernel_rfl) (by kernel_rfl) (fun _ _ _ h => h) (Or.inl ⟨by kernel_rfl, ?_⟩) (by assumption) ?_
  · (intro w hSw; (try dsimp only at hSw); go_simp)
  (try simp only [Act.put, List.setIfInBounds_toArray, List.set_cons_zero, List.set_cons_succ])
  refine takeD (some 22) (i := 1) (v := .bool true) rfl rfl (by kernel_rfl) (by kernel_rfl) (by kernel_rfl) (fun _ _ _ h => h) (Or.inl ⟨by kernel_rfl, ?_⟩) (by assumption) ?_
  · (intro w hSw; (try dsimp only at hSw); go_simp)
  (try simp only [Act.put, List.setIfInBounds_toArray, List.set_cons_zero, List.set_cons_succ])
  refine takeD (some 23) (i := 2) (v := .bool true) rfl rfl (by kernel_rfl) (by kernel_rfl) (by kernel_rfl) (fun _ _ _ h => h) (Or.inl ⟨by kernel_rfl, ?_⟩) (by assumption) ?_
  · (intro w hSw; (try dsimp only at hSw); go_simp)
  (try simp only [Act.put, List.setIfInBounds_toArray, List.set_cons_zero, List.set_cons_succ])
  refine takeD (some 24) (i := 3) (v := .slice ba knB.length bc) rfl rfl (by kernel_rfl) (by kernel_rfl) (by kernel_rfl) (fun _ _ _ h => h) (Or.inl ⟨by kernel_rfl, ?_⟩) (by assumption) ?_
  · (intro w hSw; (try dsimp only at hSw); go_simp)
  (try simp only [Act.put, List.setIfInBounds_toArray, List.set_cons_zero, List.set_cons_succ])
  refine wpAnyH_ready (rs := [4]) (by kernel_rfl) (by simp) ?_
  refine AllReadyH.cons rfl (fun K hK => ?_) AllReadyH.nil
  go_simp
  refine hK.out _ _ hHeld (fun hHeld => ?_)
  clear hK K
  clear hkc
  refine takeD (some 26) (i := 5) (v := .bool true) rfl rfl (by kernel_rfl) (by kernel_rfl) (by kernel_rfl) (fun _ _ _ h => h) (Or.inl ⟨by kernel_rfl, ?_⟩) (by assumption) ?_
  · (intro w hSw; (try dsimp only at hSw); go_simp)
  (try simp only [Act.put, List.setIfInBounds_toArray, List.set_cons_zero, List.set_cons_succ])
  refine takeD (some 27) (i := 6) (v := .bool true) rfl rfl (by kernel_rfl) (by kernel_rfl) (by kernel_rfl) (fun _ _ _ h => h) (Or.inl ⟨by kernel_rfl, ?_⟩) (by assumption) ?_
  · (intro w hSw; (try dsimp only at hSw); go_simp)
  (try simp only [Act.put, List.setIfInBounds_toArray, List.set_cons_zero, List.set_cons_succ])
  refine takeD (some 28) (i := 7) (v := .bool true) rfl rfl (by kernel_rfl) (by kernel_rfl) (by kernel_rfl) (fun _ _ _ h => h) (Or.inl ⟨by kernel_rfl, ?_⟩) (by assumption) ?_
  · (intro w hSw; (try dsimp only at hSw); go_simp)
  (try simp only [Act.put, List.setIfInBounds_toArray, List.set_cons_zero, List.set_cons_succ])
  refine takeD (some 29) (i := 8) (v := .int .i64 0) rfl rfl (by kernel_rfl) (by kernel_rfl) (by kernel_rfl) (fun _ _ _ h => h) (Or.inl ⟨by kernel_rfl, ?_⟩) (by assumption) ?_
  · (intro w hSw; (try dsimp only at hSw); go_simp)
  (try simp only [Act.put, List.setIfInBounds_toArray, List.set_cons_zero, List.set_cons_succ])
  refine takeD (some 30) (i := 9) (v := .bool true) rfl rfl (by kernel_rfl) (by kernel_rfl) (by kernel_rfl) (fun _ _ _ h => h) (Or.inl ⟨by kernel_rfl, ?_⟩) (by assumption) ?_
  · (intro w hSw; (try dsimp only at hSw); go_simp)
  (try simp only [Act.put, List.setIfInBounds_toArray, List.set_cons_zero, List.set_cons_succ])
  refine takeD (some 31) (i := 10) (v := .bool true) rfl rfl (by kernel_rfl) (by kernel_rfl) (by kernel_rfl) (fun _ _ _ h => h) (Or.inl ⟨by kernel_rfl, ?_⟩) (by assumption) ?_
  · (intro w hSw; (try dsimp only at hSw); go_simp)
  (try simp only [Act.put, List.setIfInBounds_toArray, List.set_cons_zero, List.set_cons_succ])
  refine takeD (some 32) (i := 11) (v := .bool true) rfl rfl (by kernel_rfl) (by kernel_rfl) (by kernel_rfl) (fun _ _ _ h => h) (Or.inl ⟨by kernel_rfl, ?_⟩) (by assumption) ?_
  · (intro w hSw; (try dsimp only at hSw); go_simp)
  (try simp only [Act.put, List.setIfInBounds_toArray, List.set_cons_zero, List.set_cons_succ])
  refine takeD (some 33) (i := 12) (v := .agg #[.slice f1 f2 f3, .slice b1 b2 b3, .slice p1 p2 p3]) rfl rfl (by kernel_rfl) (by kernel_rfl) (by kernel_rfl) (fun _ _ _ h => h) (Or.inl ⟨by kernel_rfl, ?_⟩) (by assumption) ?_
  · (intro w hSw; (try dsimp only at hSw); go_simp)
  (try simp only [Act.put, List.setIfInBounds_toArray, List.set_cons_zero, List.set_cons_succ])
  refine wpAnyH_ready (rs := [13]) (by kernel_rfl) (by simp) ?_
  refine AllReadyH.cons rfl (fun K hK => ?_) AllReadyH.nil
  go_simp
  refine (knot_any _).mono ?_
  rintro e w6 ⟨x', y', z', rfl, hb6, hp6⟩
  obtain ⟨⟨u1, u2, u3, rfl⟩, ⟨v1, v2, v3, rfl⟩, ⟨t1, t2, t3, rfl⟩⟩ := pt_slices hp6
  have hB6 : Below w5.heap.size w5 w6 := hHeld.1.trans (hb6.mono hHeld.1.size)
  have hsm := same_all 8 knT _ _ _ _ _ _ w6 (HPT.out _ hB6) (pt_up6 hp6)
  unfold partV at hsm ⊢
  refine hK.out _ _ (S3 _ hB6) (fun hHeld => ?_)
  clear hK K
  refine wpAnyH_ready (rs := [14]) (by kernel_rfl) (by simp) ?_
  refine AllReadyH.cons rfl (fun K hK => ?_) AllReadyH.nil
  go_simp
  refine hsm.mono ?_
  rintro e w7 ⟨rfl, hb7⟩
  have hB7 : Below w5.heap.size w5 w7 := hB6.trans (hb7.mono hB6.size)
  refine hK.out _ _ (S3 _ hB7) (fun hHeld => ?_)
  clear hK K
  refine takeD (some 36) (i := 15) (v := .bool true) rfl rfl (by kernel_rfl) (by kernel_rfl) (by kernel_rfl) (fun _ _ _ h => h) (Or.inl ⟨by kernel_rfl, ?_⟩) (by assumption) ?_
  · (intro w hSw; (try dsimp only at hSw); go_simp)
  (try simp only [Act.put, List.setIfInBounds_toArray, List.set_cons_zero, List.set_cons_succ])
  refine takeD (some 37) (i := 16) (v := .bool true) rfl rfl (by kernel_rfl) (by kernel_rfl) (by kernel_rfl) (fun _ _ _ h => h) (Or.inl ⟨by kernel_rfl, ?_⟩) (by assumption) ?_
  · (intro w hSw; (try dsimp only at hSw); go_simp)
  (try simp only [Act.put, List.setIfInBounds_toArray, List.set_cons_zero, List.set_cons_succ])
  refine takeD (some 38) (i := 17) (v := .int .i64 50) rfl rfl (by kernel_rfl) (by kernel_rfl) (by kernel_rfl) (fun _ _ _ h => h) (Or.inl ⟨by kernel_rfl, ?_⟩) (by assumption) ?_
  · (intro w hSw; (try dsimp only at hSw); go_simp)
  (try simp only [Act.put, List.setIfInBounds_toArray, List.set_cons_zero, List.set_cons_succ])
  refine takeD (some 39) (i := 18) (v := .bool true) rfl rfl (by kernel_rfl) (by kernel_rfl) (by kernel_rfl) (fun _ _ _ h => h) (Or.inl ⟨by kernel_rfl, ?_⟩) (by assumption) ?_
  · (intro w hSw; (try dsimp only at hSw); go_simp)
  (try simp only [Act.put, List.setIfInBounds_toArray, List.set_cons_zero, List.set_cons_succ])
  refine takeD (some 40) (i := 19) (v := .bool true) rfl rfl (by kernel_rfl) (by kernel_rfl) (by kernel_rfl) (fun _ _ _ h => h) (Or.inl ⟨by kernel_rfl, ?_⟩) (by assumption) ?_
  · (intro w hSw; (try dsimp only at hSw); go_simp)
  (try simp only [Act.put, List.setIfInBounds_toArray, List.set_cons_zero, List.set_cons_succ])
  refine takeD (some 41) (i := 20) (v := .bool true) rfl rfl (by kernel_rfl) (by kernel_rfl) (by kernel_rfl) (fun _ _ _ h => h) (Or.inl ⟨by kernel_rfl, ?_⟩) (by assumption) ?_
  · (intro w hSw; (try dsimp only at hSw); go_simp)
  (try simp only [Act.put, List.setIfInBounds_toArray, List.set_cons_zero, List.set_cons_succ])
  refine takeD (some 42) (i := 21) (v := .agg #[.slice f1 f2 f3, .slice b1 b2 b3, .slice p1 p2 p3]) rfl rfl (by kernel_rfl) (by kernel_rfl) (by kernel_rfl) (fun _ _ _ h => h) (Or.inl ⟨by kernel_rfl, ?_⟩) (by assumption) ?_
  · (intro w hSw; (try dsimp only at hSw); go_simp)
  (try simp only [Act.put, List.setIfInBounds_toArray, List.set_cons_zero, List.set_cons_succ])
  have hfi := find_any _ _ _ w7 (HPT.out _ hB7)
  unfold partV tpS at hfi
  refine wpAnyH_ready (rs := [22]) (by kernel_rfl) (by simp) ?_
  refine AllReadyH.cons rfl (fun K hK => ?_) AllReadyH.nil
  go_simp
  refine hfi.mono ?_
  rintro e w8 ⟨a8, c8, rfl, hb8⟩
  have hB8 : Below w5.heap.size w5 w8 := hB7.trans (hb8.mono hB7.size)
  refine hK.out _ _ (S3 _ hB8) (fun hHeld => ?_)
  clear hK K
  refine takeD (some 44) (i := 23) (v := .int .i64 2) rfl rfl (by kernel_rfl) (by kernel_rfl) (by kernel_rfl) (fun _ _ _ h => h) (Or.inl ⟨by kernel_rfl, ?_⟩) (by assumption) ?_
  · (intro w hSw; (try dsimp only at hSw); go_simp)
  (try simp only [Act.put, List.setIfInBounds_toArray, List.set_cons_zero, List.set_cons_succ])
  refine takeD (some 45) (i := 24) (v := .bool true) rfl rfl (by kernel_rfl) (by kernel_rfl) (by kernel_rfl) (fun _ _ _ h => h) (Or.inl ⟨by kernel_rfl, ?_⟩) (by assumption) ?_
  · (intro w hSw; (try dsimp only at hSw); go_simp)
  (try simp only [Act.put, List.setIfInBounds_toArray, List.set_cons_zero, List.set_cons_succ])
  refine takeD (some 46) (i := 25) (v := .bool true) rfl rfl (by kernel_rfl) (by kernel_rfl) (by kernel_rfl) (fun _ _ _ h => h) (Or.inl ⟨by kernel_rfl, ?_⟩) (by assumption) ?_
  · (intro w hSw; (try dsimp only at hSw); go_simp)
  (try simp only [Act.put, List.setIfInBounds_toArray, List.set_cons_zero, List.set_cons_succ])
  refine takeD (some 0) (i := 26) (v := .bool true) rfl rfl (by kernel_rfl) (by kernel_rfl) (by kernel_rfl) (fun _ _ _ h => h) (Or.inl ⟨by kernel_rfl, ?_⟩) (by assumption) ?_
  · (intro w hSw; (try dsimp only at hSw); go_simp)
  (try simp only [Act.put, List.setIfInBounds_toArray, List.set_cons_zero, List.set_cons_succ])
  refine wpAnyH_done (by kernel_rfl) ?_ _
  have HX : Hid (Below w.heap.size w w8) := HB5.out.trans (hB8.mono HB5.out.size)
  clear hHeld hB8 hB7 hB6 hb8 hb7 hb6 hsm hfi S3 HPT HKC HB5
  go_wp2
  go_ret
  exact ⟨rfl, HX.out⟩
end Go.Proofs.YtmdkmedlncfcbaaGreatDoor
