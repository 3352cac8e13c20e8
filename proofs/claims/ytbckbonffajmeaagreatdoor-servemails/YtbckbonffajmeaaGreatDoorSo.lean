/-
  The end of a command: the contract of end.
-/
import Derived.Test.YtbckbonffajmeaaGreatDoorSn
namespace Go.Proofs.YtbckbonffajmeaaGreatDoor
open Go.RowKit Go.Shelf Go.Maps
set_option linter.unusedVariables false
set_option linter.unusedSimpArgs false

/-- A line: its verb in large letters, and its rest. -/
def verbZ (l : List Int) : ByteArray := strL (Lib.toUpperA (Lib.cut (strOfNums l).data.toList [32]).1)
def restZ (l : List Int) : ByteArray := strL (Lib.trimRightB (Lib.cut (strOfNums l).data.toList [32]).2.1 32)
def offZ (s : SS) : SS := { s with line := [], bad := false }
/-- What the end of a line does, and what is replied. -/
def seZ (s : SS) : SS × ByteArray := if s.bad = true then (offZ s, replyZ s.host 500) else doZ (offZ s) (verbZ s.line) (restZ s.line)
theorem line_asc {l : List Int} (h : ∀ c ∈ l, 32 ≤ c ∧ c ≤ 126) : ∀ b ∈ (strOfNums l).data.toList, b.toNat < 128 := by
  intro b hb
  rw [strOfNums_data, List.mem_map] at hb
  obtain ⟨c, hc, rfl⟩ := hb
  have := h c hc
  have e : (UInt8.ofNat c.toNat).toNat = c.toNat % 256 := by simp
  rw [e]; omega
theorem trimR_sub (l : List UInt8) (c : UInt8) : (∀ b ∈ Lib.trimRightB l c, b ∈ l) ∧ (Lib.trimRightB l c).length ≤ l.length := by
  unfold Lib.trimRightB
  refine ⟨fun b hb => ?_, ?_⟩
  · rw [List.mem_reverse] at hb
    have := (List.dropWhile_sublist (fun x => x == c) (l := l.reverse)).subset hb
    simpa using this
  · rw [List.length_reverse]
    have := (List.dropWhile_sublist (fun x => x == c) (l := l.reverse)).length_le
    simpa using this
theorem rest_asc {l : List Int} (h : ∀ c ∈ l, 32 ≤ c ∧ c ≤ 126) : Asc (restZ l) ∧ (restZ l).size ≤ l.length := by
  obtain ⟨c1, c2, c3, c4⟩ := cut_sub (strOfNums l).data.toList [32]
  obtain ⟨t1, t2⟩ := trimR_sub (Lib.cut (strOfNums l).data.toList [32]).2.1 32
  refine ⟨Asc.mem.2 (fun b hb => line_asc h b (c2 b (t1 b hb))), ?_⟩
  unfold restZ
  rw [strL_size]
  have : (strOfNums l).data.toList.length = l.length := by rw [strOfNums_data, List.length_map]
  omega
theorem sv_off {N : Nat} {w : World} {m : Sm} {s : SS} (h : SvAt N w m s) : SvAt N ((w.setCell ⟨m.g, 8, none⟩ (.slice none 0 0)).setCell ⟨m.g, 10, none⟩ (.bool false)) (noLine m) (offZ s) ∧ Mv m (noLine m) w ((w.setCell ⟨m.g, 8, none⟩ (.slice none 0 0)).setCell ⟨m.g, 10, none⟩ (.bool false)) := by
  obtain ⟨a1, a2⟩ := sv_noLine h
  obtain ⟨b1, b2⟩ := a1.put (s' := offZ s) 10 (.bool false) rfl rfl rfl rfl rfl ⟨a1.ok.host, a1.ok.size0, a1.ok.size1, a1.ok.takes0, a1.ok.takes1, a1.ok.sender, a1.ok.tos, a1.ok.tosz, a1.ok.line, a1.ok.len⟩
  exact ⟨b1, a2.trans b2⟩
set_option maxHeartbeats 16000000 in
set_option maxRecDepth 100000 in
theorem end_any (N : Nat) (mx : Int) (m : Sm) (s : SS) (w : World) (h : SG N mx w m s) (ht : s.text = none) :
    Calls Tryz.prog 54 #[.pointer (some ⟨m.g, 0, none⟩)] w fun e w' => e = .returned (.string (seZ s).2) ∧ ∃ m', SvAt N w' m' (seZ s).1 ∧ Mv m m' w w' := by
  have HS : Hid (SG N mx w m s) := h
  obtain ⟨va, vc, hvl, _, _, hrow, _⟩ := own_row' h.at'.line
  obtain ⟨n, hn⟩ : ∃ n, s.line.length = n := ⟨_, rfl⟩
  have hn5 : n ≤ 510 := by rw [← hn]; exact h.at'.ok.len
  have hrow : Row w va s.line := hrow
  have HK : Hid (∀ V, Below w.heap.size w V → SG N mx V m s ∧ Mv m m w V ∧ Row V va s.line) := fun V hV => by
    obtain ⟨g, v⟩ := HS.out.below hV
    exact ⟨g, v, row_below hrow hV⟩
  have kc : ∀ k, (convert 33 9 (.slice va n vc)).run Tryz.prog (w.drewN k) = .ok (.string (strOfNums s.line)) (w.drewN k) := fun k => conv_row n vc hn (HK.out _ (below_drewN (Below.refl _ _) k)).2.2
  have HC : Hid (∀ k, (w.drewN k).cell? ⟨m.g, 8, none⟩ = some (.slice va n vc) ∧ (w.drewN k).cell? ⟨m.g, 10, none⟩ = some (.bool s.bad)) := fun k => by
    obtain ⟨g, _⟩ := HK.out _ (below_drewN (Below.refl _ _) k)
    obtain ⟨_, _, _, _, _, _, _, _, z8, _, z10, _⟩ := sv_cells g.at'
    exact ⟨by rw [z8, hvl, hn], z10⟩
  have c8 := fun k => (HC.out k).1
  have c10 := fun k => (HC.out k).2
  have HLA : Hid (Asc (restZ s.line) ∧ (restZ s.line).size ≤ n) := by
    have := rest_asc h.at'.ok.line
    rw [hn] at this
    exact this
  have HLI : Hid (∀ c ∈ s.line, 32 ≤ c ∧ c ≤ 126) := h.at'.ok.line
  have hsz : (strOfNums s.line).size = n := by
    have : (strOfNums s.line).data.toList.length = s.line.length := by rw [strOfNums_data, List.length_map]
    rw [← hn, ← this, Array.length_toList]; rfl
  obtain ⟨bd, hbd⟩ : ∃ b, s.bad = b := ⟨_, rfl⟩
  rw [hbd] at c10
  clear h hvl hrow hn
  go_enter Tryz.func54, Tryz.ntmps54
  go_wp2_with fail
  go_quiet (fail)
  clear kc c8 c10
  obtain ⟨g1, v1, _⟩ := HK.out (w.drewN nq) (below_drewN (Below.refl _ _) nq)
  obtain ⟨b1, b2⟩ := sv_off g1.at'
  have gG := g1.step b1 b2
  have HG : Hid (SG N mx (((w.drewN nq).setCell ⟨m.g, 8, none⟩ (.slice none 0 0)).setCell ⟨m.g, 10, none⟩ (.bool false)) (noLine m) (offZ s) ∧ Mv m (noLine m) w (((w.drewN nq).setCell ⟨m.g, 8, none⟩ (.slice none 0 0)).setCell ⟨m.g, 10, none⟩ (.bool false))) := ⟨gG, v1.trans b2⟩
  have hrp := reply_any N mx _ _ _ 500 gG (by decide) (by decide)
  have hcut := strings_Cut (strOfNums s.line) ⟨#[32]⟩ mx _ (by omega) gG.gl.len
  have f8 := g1.at'.blk.frozen 8
  have f10 := g1.at'.blk.frozen 10
  obtain ⟨_, _, _, _, _, _, _, _, d8, _, d10, _⟩ := sv_cells g1.at'
  obtain ⟨va2, vc2, hvl2, _⟩ := own_row' g1.at'.line
  rw [hvl2] at d8
  rw [hbd] at d10
  clear g1 v1 b1 b2 gG hvl2 HK HC
  cases bd with
  | true =>
    have HZ : Hid (seZ s = (offZ s, replyZ s.host 500)) := by unfold Hid seZ; rw [if_pos hbd]
    clear hcut
    go_wp2_with fail
    refine hrp.mono ?_
    rintro e w2 ⟨rfl, hb⟩
    clear hrp
    obtain ⟨g2, v2⟩ := HG.out.1.below hb
    have HG2 : Hid (SvAt N w2 (noLine m) (offZ s) ∧ Mv m (noLine m) w w2) := ⟨g2.at', HG.out.2.trans v2⟩
    clear g2 v2 hb
    go_wp2
    go_ret
    exact ⟨by rw [HZ.out]; rfl, _, by rw [HZ.out]; exact HG2.out.1, HG2.out.2⟩
  | false =>
    have HZ : Hid (seZ s = doZ (offZ s) (verbZ s.line) (restZ s.line)) := by unfold Hid seZ; rw [if_neg (by rw [hbd]; decide)]
    obtain ⟨c1, c2, c3, c4⟩ := cut_sub (strOfNums s.line).data.toList [32]
    have hln : (strOfNums s.line).data.toList.length = n := by rw [Array.length_toList]; exact hsz
    have hup := fun V => strings_ToUpper_ascii (strL (Lib.cut (strOfNums s.line).data.toList [32]).1) V (by rw [strL_size]; omega) (Asc.mem.2 (fun b hb => line_asc HLI.out b (c1 b hb)))
    have htr := fun V => strings_TrimRight_one (strL (Lib.cut (strOfNums s.line).data.toList [32]).2.1) 32 (by decide) V (by rw [strL_size]; omega)
    have hz1 : (strL (Lib.cut (strOfNums s.line).data.toList [32]).1).data.toList = (Lib.cut (strOfNums s.line).data.toList [32]).1 := rfl
    have hz2 : (strL (Lib.cut (strOfNums s.line).data.toList [32]).2.1).data.toList = (Lib.cut (strOfNums s.line).data.toList [32]).2.1 := rfl
    rw [hz1] at hup
    rw [hz2] at htr
    have hup : ∀ V, Calls Tryz.prog 81 #[.string (strL (Lib.cut (strOfNums s.line).data.toList [32]).1)] V fun e w' => e = .returned (.string (verbZ s.line)) ∧ Below V.heap.size V w' := hup
    have htr : ∀ V, Calls Tryz.prog 82 #[.string (strL (Lib.cut (strOfNums s.line).data.toList [32]).2.1), .string ⟨#[32]⟩] V fun e w' => e = .returned (.string (restZ s.line)) ∧ w' = V := htr
    have hcut : Calls Tryz.prog 77 #[.string (strOfNums s.line), .string ⟨#[32]⟩] _ fun e w' => e = .returned (.tuple #[.string (strL (Lib.cut (strOfNums s.line).data.toList [32]).1), .string (strL (Lib.cut (strOfNums s.line).data.toList [32]).2.1), .bool (Lib.cut (strOfNums s.line).data.toList [32]).2.2]) ∧ ∃ n, w' = World.drewN _ n := hcut
    obtain ⟨t1, ht1⟩ : ∃ x, strL (Lib.cut (strOfNums s.line).data.toList [32]).1 = x := ⟨_, rfl⟩
    obtain ⟨t2, ht2⟩ : ∃ x, strL (Lib.cut (strOfNums s.line).data.toList [32]).2.1 = x := ⟨_, rfl⟩
    obtain ⟨t3, ht3⟩ : ∃ x, (Lib.cut (strOfNums s.line).data.toList [32]).2.2 = x := ⟨_, rfl⟩
    simp only [ht1] at hup hcut
    simp only [ht2] at htr hcut
    simp only [ht3] at hcut
    obtain ⟨vb, hvb⟩ : ∃ x, verbZ s.line = x := ⟨_, rfl⟩
    obtain ⟨rs, hrs⟩ : ∃ x, restZ s.line = x := ⟨_, rfl⟩
    simp only [hvb] at hup HZ
    simp only [hrs] at htr HZ HLA
    clear hrp hz1 hz2 c1 c2 c3 c4 hln ht1 ht2 ht3 hvb hrs hsz
    obtain ⟨X, hX⟩ : ∃ X, ((w.drewN nq).setCell ⟨m.g, 8, none⟩ (.slice none 0 0)).setCell ⟨m.g, 10, none⟩ (.bool false) = X := ⟨_, rfl⟩
    rw [hX] at HG hcut
    go_wp2_with fail
    refine hcut.mono ?_
    rintro e w2 ⟨rfl, q, rfl⟩
    clear hX hcut d8 d10 f8 f10
    obtain ⟨g2, v2⟩ := HG.out.1.below (below_drewN (Below.refl _ _) q)
    have HG2 : Hid (SG N mx (X.drewN q) (noLine m) (offZ s) ∧ Mv m (noLine m) w (X.drewN q)) := ⟨g2, HG.out.2.trans v2⟩
    clear g2 v2
    go_wp2_with fail
    refine (hup _).mono ?_
    rintro e w3 ⟨rfl, hb3⟩
    obtain ⟨g3, v3⟩ := HG2.out.1.below hb3
    have HG3 : Hid (SG N mx w3 (noLine m) (offZ s) ∧ Mv m (noLine m) w w3) := ⟨g3, HG2.out.2.trans v3⟩
    have hdo := do_any N mx (noLine m) (offZ s) w3 vb rs g3 ht rfl rfl HLA.out.1 (by have := HLA.out.2; omega)
    have hdo : Calls Tryz.prog 80 #[.pointer (some ⟨m.g, 0, none⟩), .string vb, .string rs] w3 fun e w' => e = .returned (.string (doZ (offZ s) vb rs).2) ∧ ∃ m', SvAt N w' m' (doZ (offZ s) vb rs).1 ∧ Mv (noLine m) m' w3 w' := hdo
    clear g3 v3 hb3 hup
    go_wp2_with fail
    refine (htr _).mono ?_
    rintro e w4 ⟨rfl, rfl⟩
    clear htr
    go_wp2_with fail
    refine hdo.mono ?_
    rintro e w5 ⟨rfl, m5, h5, v5⟩
    have HG5 : Hid (SvAt N w5 m5 (doZ (offZ s) vb rs).1 ∧ Mv m m5 w w5) := ⟨h5, HG3.out.2.trans v5⟩
    clear hdo h5 v5
    go_wp2
    go_ret
    exact ⟨by rw [HZ.out]; rfl, m5, by rw [HZ.out]; exact HG5.out.1, HG5.out.2⟩
end Go.Proofs.YtbckbonffajmeaaGreatDoor
