/-
  TreeWrites: whatever component comes, if it is not great, the program writes it as the document does, or both tell the same error; and both say alike whether it may be.
-/
import Derived.Test.YtenclgnkogmgiaaDoorCards
import Derived.Test.YtenclgnkogmgiaaDoorTie
import Derived.Test.YtenclgnkogmgiaaDoorXv
import Derived.Test.YtenclgnkogmgiaaDoorXd
import Derived.Test.YtenclgnkogmgiaaDoorXc
import Derived.Test.YtenclgnkogmgiaaDoorTs
import Derived.WalkKit
import Derived.ProofKit
import Derived.OpenShut
import Derived.ShutString
import Derived.ChangeOld
import Derived.Below
import Derived.HandedShaped
import Derived.LaidMore
import Derived.Lay
import Derived.SevenTiedAt
import Derived.Stop.Joined
namespace Go.Proofs.YtenclgnkogmgiaaDoor.treeWrites
open Go.ChangeShapes Go.WideShapes Go.ChangeAt Go.RowKit
open Go.ChangeMaps (open_string shut_string)
set_option linter.unusedVariables false
set_option linter.unusedSimpArgs false

theorem small_len : ∀ (k f h : Nat) (s : Nat × Nat) (t : Cp), smallT k t → (rtP f s t).1 = true → (wlP h t).length + 62 * s.1 ≤ 62 * (rtP f s t).2.1
  | k, 0, h, s, t, _, hr => by simp [rtP] at hr
  | 0, f + 1, h, s, t, hs, hr => hs.elim
  | k + 1, f + 1, h, s, t, hs, hr => by
    obtain ⟨_, h2, _, _, h5⟩ := hs
    have aux : ∀ (g : Nat) (l : List Cp) (s : Nat × Nat), (∀ q ∈ l, smallT k q) → (rtL (rtP f) s l).1 = true → (l.flatMap (wlP g)).length + 62 * s.1 ≤ 62 * (rtL (rtP f) s l).2.1 := by
      intro g l
      induction l with
      | nil => intro s _ _; simp [rtL]
      | cons q r ihl =>
        intro s hq h
        unfold rtL at h ⊢
        split at h
        · rename_i h1
          rw [if_pos h1]
          have a1 := small_len k f g s q (hq q (List.mem_cons_self ..)) h1
          have a2 := ihl _ (fun x hx => hq x (List.mem_cons_of_mem _ hx)) h
          rw [List.flatMap_cons, List.length_append]
          omega
        · cases h
    unfold rtP at hr ⊢
    split at hr
    · cases hr
    · rename_i hn
      rw [if_neg hn]
      split at hr
      · rename_i hq
        rw [if_pos hq]
        cases h with
        | zero =>
          have := aux 0 t.cs _ h5 hr
          simp only [wlP, List.length_nil] at this ⊢
          omega
        | succ h =>
          have := aux h t.cs _ h5 hr
          simp only [wlP, List.length_append, List.length_cons, List.length_nil] at this ⊢
          omega
      · cases hr
theorem small_lines {h k : Nat} {t : Cp} (hs : smallT k t) (hr : rightT t = true) : (wlP h t).length ≤ 3968 := by
  have h1 := small_len k 8 h (0, 0) t hs hr
  have h2 := rtP_most 8 (0, 0) t (by simp) hr
  simp only at h1
  omega
set_option maxHeartbeats 8000000 in
set_option maxRecDepth 100000 in
theorem walk (x y z : Value) (t : Cp) (k : Nat) (w : World) (hp : CpAt k w t x y z) (hwd : WdC k t) (mx : Int) (hm : w.cell? ⟨0, 0, none⟩ = some (.int .i64 mx)) : Calls Tryd.prog 3 #[compV x y z] w fun e w' => e = .returned (.bool true) ∧ Below w.heap.size w w' := by
  obtain ⟨⟨nm, rfl, _⟩, ⟨ya, yn, yc, rfl⟩, ⟨za, zn, zc, rfl⟩⟩ := cp_form hp
  have HM : Hid (w.cell? ⟨0, 0, none⟩ = some (.int .i64 mx)) := hm
  have HP : Hid (CpAt k w t (.string nm) (.slice ya yn yc) (.slice za zn zc)) := hp
  have hk0 := keep w (.cells #[.string nm, .slice ya yn yc, .slice za zn zc] 25)
  have HG0 : Hid (Blk (w.alloc (.cells #[.string nm, .slice ya yn yc, .slice za zn zc] 25)) w.heap.size #[.string nm, .slice ya yn yc, .slice za zn zc] 25) := Blk.new _ _ _
  have hgr := great_tree 12 (by omega) k t _ _ _ (w.alloc (.cells #[.string nm, .slice ya yn yc, .slice za zn zc] 25)) (CpAt.below hk0 _ _ _ _ _ hp) hwd
  have HK0 : Hid (Below w.heap.size w (w.alloc (.cells #[.string nm, .slice ya yn yc, .slice za zn zc] 25))) := hk0
  unfold compV at hgr ⊢
  clear hk0 hp hm hwd
  go_enter Tryd.func3, Tryd.ntmps3
  go_wp2_with fail
  refine hgr.mono ?_
  rintro e w1 ⟨gb, rfl, hb1, hgs⟩
  clear hgr
  have HGS : Hid (gb = false → smallT 12 t) := hgs
  have HB1 : Hid (Below w.heap.size w w1) := HK0.out.trans (hb1.mono HK0.out.size)
  have HG1 : Hid (Blk w1 w.heap.size #[.string nm, .slice ya yn yc, .slice za zn zc] 25) := HG0.out.below hb1 HG0.out.lt
  obtain ⟨c0, c1, c2⟩ := cells3 HG1.out
  clear hb1 hgs
  cases gb with
  | true =>
    go_wp2_with (go_at_call 11; refine (alive_any _ mx (cell_keep HB1.out HM.out)).mono ?_; rintro e w2 ⟨rfl, hb2⟩)
    go_ret
    exact ⟨rfl, HB1.out.trans (hb2.mono HB1.out.size)⟩
  | false =>
    have HSM : Hid (smallT 12 t) := HGS.out rfl
    have hfw := few_any k t _ _ _ w1 (CpAt.below HB1.out _ _ _ _ _ HP.out)
    unfold compV at hfw
    clear HGS
    go_wp2_with fail
    refine hfw.mono ?_
    rintro e w2 ⟨n2, rfl, hb2⟩
    clear hfw c0 c1 c2
    have HB2 : Hid (Below w.heap.size w w2) := HB1.out.trans (hb2.mono HB1.out.size)
    have HG2 : Hid (Blk w2 w.heap.size #[.string nm, .slice ya yn yc, .slice za zn zc] 25) := HG1.out.below hb2 HG1.out.lt
    obtain ⟨c0, c1, c2⟩ := cells3 HG2.out
    clear hb2
    obtain ⟨fb, hfb⟩ : ∃ b, decide (n2 ≤ 80) = b := ⟨_, rfl⟩
    rw [hfb]
    clear hfb
    cases fb with
    | false =>
      go_wp2_with (go_at_call 11; refine (alive_any _ mx (cell_keep HB2.out HM.out)).mono ?_; rintro e w3 ⟨rfl, hb3⟩)
      go_ret
      exact ⟨rfl, HB2.out.trans (hb3.mono HB2.out.size)⟩
    | true =>
      have hwr := write_tree k t _ _ _ w2 (CpAt.below HB2.out _ _ _ _ _ HP.out) (small_fit 12 k t HSM.out)
      unfold compV at hwr
      go_wp2_with fail
      refine hwr.mono ?_
      rintro e w3 ⟨v3, c3, rfl, hb3, hans⟩
      clear hwr c0 c1 c2
      have HB3 : Hid (Below w.heap.size w w3) := HB2.out.trans (hb3.mono HB2.out.size)
      have HG3 : Hid (Blk w3 w.heap.size #[.string nm, .slice ya yn yc, .slice za zn zc] 25) := HG2.out.below hb3 HG2.out.lt
      obtain ⟨c0, c1, c2⟩ := cells3 HG3.out
      clear hb3
      have hwr := rwrite_tree k 12 t _ _ _ w3 (CpAt.below HB3.out _ _ _ _ _ HP.out) HSM.out (by omega)
      have hl3 : rightT t = true → (wlP k t).length ≤ 3968 := fun hrt => small_lines (h := k) HSM.out hrt
      have HA3 : Hid (∃ l, Byt l ∧ Own w3 w2.heap.size v3 l ∧ (c3 = 0 ∧ rightT t = true ∧ (outN (wlP k t)).length ≤ 1048576 ∧ l = outN (wlP k t) ∨ l = [] ∧ (rightT t = false ∧ c3 = 100 ∨ rightT t = true ∧ c3 = 2 ∧ 1048576 < (outN (wlP k t)).length))) := by
        rcases hans with ⟨h1, h2, h3, h4, h5⟩ | ⟨rfl, ⟨h1, h2⟩ | ⟨h1, h2, h3⟩⟩
        · obtain ⟨ks, hks⟩ := cp_ms k t _ _ _ HP.out
          exact ⟨_, by rw [← hks, ← outN_M]; exact out_byt ks, h5, .inl ⟨h1, h2, h4, rfl⟩⟩
        · exact ⟨[], fun q hq => by simp at hq, World.ownsRow_nil _ _ _ _, .inr ⟨rfl, .inl ⟨h1, h2⟩⟩⟩
        · exact ⟨[], fun q hq => by simp at hq, World.ownsRow_nil _ _ _ _, .inr ⟨rfl, .inr ⟨h1, h2, by have := hl3 h1; omega⟩⟩⟩
      obtain ⟨ol3, vc3x, va3, rfl⟩ : ∃ n c, ∃ a, v3 = .slice a n c := by
        obtain ⟨l, _, h2, _⟩ := HA3.out
        obtain ⟨a, c, h⟩ := row_slice h2
        exact ⟨_, _, _, h⟩
      unfold compV at hwr
      clear hans hl3
      go_wp2_with fail
      refine hwr.mono ?_
      rintro e W ⟨v4, c4, rfl, hb4, hans⟩
      clear hwr c0 c1 c2
      have HBW : Hid (Below w.heap.size w W) := HB3.out.trans (hb4.mono HB3.out.size)
      have HGW : Hid (Blk W w.heap.size #[.string nm, .slice ya yn yc, .slice za zn zc] 25) := HG3.out.below hb4 HG3.out.lt
      obtain ⟨l, cc, hbl, hl3, hl4, hc3, hc4⟩ : ∃ l cc, Byt l ∧ Own W w2.heap.size (.slice va3 ol3 vc3x) l ∧ Own W w3.heap.size v4 l ∧ cc = c3 ∧ cc = c4 := by
        obtain ⟨l, h0, h1, h2⟩ := HA3.out
        have h1 : Own W w2.heap.size (.slice va3 ol3 vc3x) l := own_keep h1 hb4
        rcases h2 with ⟨rfl, a1, a2, rfl⟩ | ⟨rfl, ⟨a1, rfl⟩ | ⟨a1, rfl, a2⟩⟩
        · rcases hans with ⟨rfl, b1, b2, b3⟩ | ⟨rfl, ⟨b1, b2⟩ | ⟨b1, b2, b3⟩⟩
          · exact ⟨_, _, h0, h1, b3, rfl, rfl⟩
          · rw [a1] at b1; cases b1
          · omega
        · rcases hans with ⟨rfl, b1, b2, b3⟩ | ⟨rfl, ⟨b1, rfl⟩ | ⟨b1, b2, b3⟩⟩
          · rw [a1] at b1; cases b1
          · exact ⟨_, _, h0, h1, World.ownsRow_nil _ _ _ _, rfl, rfl⟩
          · rw [a1] at b1; cases b1
        · rcases hans with ⟨rfl, b1, b2, b3⟩ | ⟨rfl, ⟨b1, rfl⟩ | ⟨b1, rfl, b3⟩⟩
          · omega
          · rw [a1] at b1; cases b1
          · exact ⟨_, _, h0, h1, World.ownsRow_nil _ _ _ _, rfl, rfl⟩
      subst hc3
      subst hc4
      obtain ⟨a1, c1, e1, _, _, hr1, _⟩ := row_of_own hl3
      obtain ⟨a2, c2, rfl, _, _, hr2, _⟩ := row_of_own hl4
      obtain ⟨ol, hol⟩ : ∃ n, l.length = n := ⟨_, rfl⟩
      have HR1 : Hid (Row W a1 l) := hr1
      have HR2 : Hid (Row W a2 l) := hr2
      rw [hol] at e1
      injection e1 with e1 e2 e3
      replace e1 := e1.symm
      replace e2 := e2.symm
      replace e3 := e3.symm
      subst e1
      subst e2
      subst e3
      rw [hol]
      have hk1 : ∀ V, Below W.heap.size W V → (convert 29 9 (.slice a1 ol c1)).run Tryd.prog V = .ok (.string (strOfNums l)) V := fun V hb => conv_row ol c1 hol (row_below HR1.out hb)
      have hk2 : ∀ V, Below W.heap.size W V → (convert 29 9 (.slice a2 ol c2)).run Tryd.prog V = .ok (.string (strOfNums l)) V := fun V hb => conv_row ol c2 hol (row_below HR2.out hb)
      obtain ⟨os, hos⟩ : ∃ os, strOfNums l = os := ⟨_, rfl⟩
      rw [hos] at hk1 hk2
      obtain ⟨B, hB⟩ : ∃ B, w.heap.size = B := ⟨_, rfl⟩
      obtain ⟨g0, g1, g2⟩ := cells3 HGW.out
      have hal := fun V (hb : Below W.heap.size W V) => alive_any V mx (cell_keep hb (cell_keep HBW.out HM.out))
      have hri := fun V (hb : Below W.heap.size W V) => right_tree k t _ _ _ V (CpAt.below hb _ _ _ _ _ (CpAt.below HBW.out _ _ _ _ _ HP.out)) (small_fit 12 k t HSM.out)
      have hrr := fun V (hb : Below W.heap.size W V) => rright_tree k 12 t _ _ _ V (CpAt.below hb _ _ _ _ _ (CpAt.below HBW.out _ _ _ _ _ HP.out)) HSM.out (by omega)
      unfold compV at hri hrr
      generalize rightT t = R at hri hrr
      rw [hB] at g0 g1 g2
      clear hos hol hl3 hl4 hr1 hr2 hb4 hans hbl
      have hSall : ∀ V, Below W.heap.size W V → Below W.heap.size W V ∧ (convert 29 9 (.slice a1 ol c1)).run Tryd.prog V = .ok (.string os) V ∧ (convert 29 9 (.slice a2 ol c2)).run Tryd.prog V = .ok (.string os) V ∧ V.cell? ⟨B, 0, none⟩ = some (.string nm) ∧ V.cell? ⟨B, 1, none⟩ = some (.slice ya yn yc) ∧ V.cell? ⟨B, 2, none⟩ = some (.slice za zn zc) := fun V hb => ⟨hb, hk1 V hb, hk2 V hb, cell_keep hb g0, cell_keep hb g1, cell_keep hb g2⟩
      go_wp2_with fail
      refine wp_region_held_drew (S := (fun V => Below W.heap.size W V ∧ (convert 29 9 (.slice a1 ol c1)).run Tryd.prog V = .ok (.string os) V ∧ (convert 29 9 (.slice a2 ol c2)).run Tryd.prog V = .ok (.string os) V ∧ V.cell? ⟨B, 0, none⟩ = some (.string nm) ∧ V.cell? ⟨B, 1, none⟩ = some (.slice ya yn yc) ∧ V.cell? ⟨B, 2, none⟩ = some (.slice za zn zc))) (by kernel_rfl) (by exact hSall _ (by first | assumption | exact below_drew (Below.refl _ _))) (fun hHeld => ?_)
      refine wpAnyH_ready (rs := [0]) (by kernel_rfl) (by simp) ?_
      refine AllReadyH.cons rfl (fun K hK => ?_) AllReadyH.nil
      go_simp
      refine (hal _ hHeld.1).mono ?_
      rintro e v1 ⟨rfl, hb1⟩
      have hV1 : Below W.heap.size W v1 := hHeld.1.trans (hb1.mono hHeld.1.size)
      clear hb1
      refine hK.out _ _ (by exact hSall _ (by first | assumption | exact below_drew (Below.refl _ _))) (fun hHeld => ?_)
      clear hK K
      refine takeD (some 26) (i := 1) (v := .bool true) rfl rfl (by kernel_rfl) (by kernel_rfl) (by kernel_rfl) (fun _ _ _ h => h) (Or.inl ⟨by kernel_rfl, ?_⟩) (by assumption) ?_
      · (intro w hSw; (try dsimp only at hSw); go_simp)
      (try simp only [Act.put, List.setIfInBounds_toArray, List.set_cons_zero, List.set_cons_succ])
      refine takeD (some 27) (i := 2) (v := .agg #[.string nm, .slice ya yn yc, .slice za zn zc]) rfl rfl (by kernel_rfl) (by kernel_rfl) (by kernel_rfl) (fun _ _ _ h => h) (Or.inl ⟨by kernel_rfl, ?_⟩) (by assumption) ?_
      · (intro w hSw; (try dsimp only at hSw); go_simp)
      (try simp only [Act.put, List.setIfInBounds_toArray, List.set_cons_zero, List.set_cons_succ])
      refine takeD (some 29) (i := 4) (v := .agg #[.string nm, .slice ya yn yc, .slice za zn zc]) rfl rfl (by kernel_rfl) (by kernel_rfl) (by kernel_rfl) (fun _ _ _ h => h) (Or.inl ⟨by kernel_rfl, ?_⟩) (by assumption) ?_
      · (intro w hSw; (try dsimp only at hSw); go_simp)
      (try simp only [Act.put, List.setIfInBounds_toArray, List.set_cons_zero, List.set_cons_succ])
      refine wpAnyH_ready (rs := [3]) (by kernel_rfl) (by simp) ?_
      refine AllReadyH.cons rfl (fun K hK => ?_) AllReadyH.nil
      go_simp
      refine (hri _ hHeld.1).mono ?_
      rintro e v2 ⟨rfl, hb2⟩
      have hV2 : Below W.heap.size W v2 := hHeld.1.trans (hb2.mono hHeld.1.size)
      clear hb2
      refine hK.out _ _ (by exact hSall _ (by first | assumption | exact below_drew (Below.refl _ _))) (fun hHeld => ?_)
      clear hK K
      refine wpAnyH_ready (rs := [5]) (by kernel_rfl) (by simp) ?_
      refine AllReadyH.cons rfl (fun K hK => ?_) AllReadyH.nil
      go_simp
      refine (hrr _ hHeld.1).mono ?_
      rintro e v3 ⟨rfl, hb3⟩
      have hV3 : Below W.heap.size W v3 := hHeld.1.trans (hb3.mono hHeld.1.size)
      clear hb3
      refine hK.out _ _ (by exact hSall _ (by first | assumption | exact below_drew (Below.refl _ _))) (fun hHeld => ?_)
      clear hK K
      refine takeD (some 31) (i := 6) (v := .bool true) rfl rfl (by kernel_rfl) (by kernel_rfl) (by kernel_rfl) (fun _ _ _ h => h) (Or.inl ⟨by kernel_rfl, ?_⟩) (by assumption) ?_
      · (intro w hSw; (try dsimp only at hSw); go_simp)
      (try simp only [Act.put, List.setIfInBounds_toArray, List.set_cons_zero, List.set_cons_succ])
      refine takeD (some 32) (i := 7) (v := .bool true) rfl rfl (by kernel_rfl) (by kernel_rfl) (by kernel_rfl) (fun _ _ _ h => h) (Or.inl ⟨by kernel_rfl, ?_⟩) (by assumption) ?_
      · (intro w hSw; (try dsimp only at hSw); go_simp)
      (try simp only [Act.put, List.setIfInBounds_toArray, List.set_cons_zero, List.set_cons_succ])
      refine takeD (some 33) (i := 8) (v := .bool true) rfl rfl (by kernel_rfl) (by kernel_rfl) (by kernel_rfl) (fun _ _ _ h => h) (Or.inl ⟨by kernel_rfl, ?_⟩) (by assumption) ?_
      · (intro w hSw; (try dsimp only at hSw); go_simp)
      (try simp only [Act.put, List.setIfInBounds_toArray, List.set_cons_zero, List.set_cons_succ])
      refine takeD (some 34) (i := 9) (v := .slice a1 ol c1) rfl rfl (by kernel_rfl) (by kernel_rfl) (by kernel_rfl) (fun _ _ _ h => h) (Or.inl ⟨by kernel_rfl, ?_⟩) (by assumption) ?_
      · (intro w hSw; (try dsimp only at hSw); go_simp)
      (try simp only [Act.put, List.setIfInBounds_toArray, List.set_cons_zero, List.set_cons_succ])
      refine takeD (some 35) (i := 10) (v := .string os) rfl rfl (by kernel_rfl) (by kernel_rfl) (by kernel_rfl) (fun _ _ _ h => h) (Or.inl ⟨by kernel_rfl, ?_⟩) (by assumption) ?_
      · (intro w hSw; (try dsimp only at hSw); go_simp)
      (try simp only [Act.put, List.setIfInBounds_toArray, List.set_cons_zero, List.set_cons_succ])
      refine takeD (some 36) (i := 11) (v := .slice a2 ol c2) rfl rfl (by kernel_rfl) (by kernel_rfl) (by kernel_rfl) (fun _ _ _ h => h) (Or.inl ⟨by kernel_rfl, ?_⟩) (by assumption) ?_
      · (intro w hSw; (try dsimp only at hSw); go_simp)
      (try simp only [Act.put, List.setIfInBounds_toArray, List.set_cons_zero, List.set_cons_succ])
      refine takeD (some 37) (i := 12) (v := .string os) rfl rfl (by kernel_rfl) (by kernel_rfl) (by kernel_rfl) (fun _ _ _ h => h) (Or.inl ⟨by kernel_rfl, ?_⟩) (by assumption) ?_
      · (intro w hSw; (try dsimp only at hSw); go_simp)
      (try simp only [Act.put, List.setIfInBounds_toArray, List.set_cons_zero, List.set_cons_succ])
      refine takeD (some 38) (i := 13) (v := .bool true) rfl rfl (by kernel_rfl) (by kernel_rfl) (by kernel_rfl) (fun _ _ _ h => h) (Or.inl ⟨by kernel_rfl, ?_⟩) (by assumption) ?_
      · (intro w hSw; (try dsimp only at hSw); go_simp)
      (try simp only [Act.put, List.setIfInBounds_toArray, List.set_cons_zero, List.set_cons_succ])
      refine takeD (some 39) (i := 14) (v := .bool true) rfl rfl (by kernel_rfl) (by kernel_rfl) (by kernel_rfl) (fun _ _ _ h => h) (Or.inl ⟨by kernel_rfl, ?_⟩) (by assumption) ?_
      · (intro w hSw; (try dsimp only at hSw); go_simp)
      (try simp only [Act.put, List.setIfInBounds_toArray, List.set_cons_zero, List.set_cons_succ])
      refine takeD (some 40) (i := 15) (v := .bool true) rfl rfl (by kernel_rfl) (by kernel_rfl) (by kernel_rfl) (fun _ _ _ h => h) (Or.inl ⟨by kernel_rfl, ?_⟩) (by assumption) ?_
      · (intro w hSw; (try dsimp only at hSw); go_simp)
      (try simp only [Act.put, List.setIfInBounds_toArray, List.set_cons_zero, List.set_cons_succ])
      refine takeD (some 41) (i := 16) (v := .int .i64 cc) rfl rfl (by kernel_rfl) (by kernel_rfl) (by kernel_rfl) (fun _ _ _ h => h) (Or.inl ⟨by kernel_rfl, ?_⟩) (by assumption) ?_
      · (intro w hSw; (try dsimp only at hSw); go_simp)
      (try simp only [Act.put, List.setIfInBounds_toArray, List.set_cons_zero, List.set_cons_succ])
      refine takeD (some 42) (i := 17) (v := .int .i64 cc) rfl rfl (by kernel_rfl) (by kernel_rfl) (by kernel_rfl) (fun _ _ _ h => h) (Or.inl ⟨by kernel_rfl, ?_⟩) (by assumption) ?_
      · (intro w hSw; (try dsimp only at hSw); go_simp)
      (try simp only [Act.put, List.setIfInBounds_toArray, List.set_cons_zero, List.set_cons_succ])
      refine takeD (some 43) (i := 18) (v := .bool true) rfl rfl (by kernel_rfl) (by kernel_rfl) (by kernel_rfl) (fun _ _ _ h => h) (Or.inl ⟨by kernel_rfl, ?_⟩) (by assumption) ?_
      · (intro w hSw; (try dsimp only at hSw); go_simp)
      (try simp only [Act.put, List.setIfInBounds_toArray, List.set_cons_zero, List.set_cons_succ])
      refine takeD (some 44) (i := 19) (v := .bool true) rfl rfl (by kernel_rfl) (by kernel_rfl) (by kernel_rfl) (fun _ _ _ h => h) (Or.inl ⟨by kernel_rfl, ?_⟩) (by assumption) ?_
      · (intro w hSw; (try dsimp only at hSw); go_simp)
      (try simp only [Act.put, List.setIfInBounds_toArray, List.set_cons_zero, List.set_cons_succ])
      refine takeD (some 2) (i := 20) (v := .bool true) rfl rfl (by kernel_rfl) (by kernel_rfl) (by kernel_rfl) (fun _ _ _ h => h) (Or.inl ⟨by kernel_rfl, ?_⟩) (by assumption) ?_
      · (intro w hSw; (try dsimp only at hSw); go_simp)
      (try simp only [Act.put, List.setIfInBounds_toArray, List.set_cons_zero, List.set_cons_succ])
      refine wpAnyH_done (by kernel_rfl) ?_ _
      go_wp2
      go_ret
      exact ⟨rfl, HBW.out.trans (hV3.mono HBW.out.size)⟩

set_option maxRecDepth 100000 in
theorem lifted (os : Os) (started : os.Started) (H : Type) (enc : TypeId × Value → H) :
    ReturnsInHanded {} Tryd.checked os 3 .any (fun w args => (Rows.treeWritesSpec.pre enc Tryd.prog Tryd.f3 Rows.treeWritesRow.domain false w args ∧ laidMetH Tryd.prog Rows.treeWritesRow.laid w) ∧ sizedMet enc Tryd.prog Tryd.f3 (OpenSpec.ofChange Rows.treeWritesSpec) false w args)
      (Rows.treeWritesSpec.post enc Tryd.prog Tryd.f3 false true false false) := by
  refine step_all (C := Tryd.checked) (X := fun w _ => laidMetH Tryd.prog Rows.treeWritesRow.laid w) (fun _ _ _ hh h => h.of_heap hh) own started (by kernel_rfl) Tryd.func3
    (ChangeSpec.witness_shaped (enc := enc) (C := Tryd.checked) (os := os) (X := fun w _ => laidMetH Tryd.prog Rows.treeWritesRow.laid w) false (World.laidAll Tryd.prog os Rows.treeWritesRow.laid) #[compV (.string ⟨#[]⟩) (.slice none 0 0) (.slice none 0 0)] 8 (World.laidAll_os _ _ _)
      (World.shaped_of_ZipB (by kernel_rfl) (by kernel_rfl)) (by kernel_rfl) (by kernel_rfl) (by kernel_rfl)
      (by rw [MakeChecks.laidMetH_plain _ _ _ (by kernel_rfl)]; exact laidMet_laidAll _ (by kernel_rfl) (by kernel_rfl))) ?_
  intro W base args ds gs before hval0 hW hcnd hsz0 hsh hL
  have hval : ∀ (j : Nat) t v, Tryd.f3.params[j]? = some t → args[j]? = some v → Value.okWide Tryd.prog W .any base t v := hval0
  have hsz : (DataW.weightsEach Tryd.prog (Tryd.f3.params.toList ++ Rows.treeWritesSpec.plain.varTypes Tryd.prog) (ds ++ gs)).all (· ≤ reachBytes) = true := hsz0
  have hW' := hW
  obtain ⟨p, q, hA0, hV, rfl, hfz, hnd⟩ := hW
  have hA : DataW.TrodAll enc Tryd.prog W 0 (fun _ => true) true Tryd.f3.params.toList args.toList ds p := hA0
  rw [Tryd.params3] at hA hval hsz
  obtain ⟨v0, vs0, d0, ds0, p0, q0, hargs0, rfl, rfl, h0, r0⟩ := trodAll_cons hA
  obtain ⟨rfl, rfl, rfl⟩ := trodAll_nil r0
  obtain rfl : args = #[v0] := by cases args; simp_all
  obtain ⟨rfl, rfl⟩ := trodVars_none hV
  have hwt0 : ∀ n, n ∈ DataW.weights Tryd.prog 25 d0 → n ≤ reachBytes := by
    intro n hn
    have hh := List.all_eq_true.1 hsz n (by simp [DataW.weightsEach, hn])
    simpa using hh
  have k0 := h0
  have lt0 : ∀ x ∈ p0, x.block < W.heap.size := by obtain ⟨m, hm⟩ := k0; exact DataW.trod_lt m _ _ _ hm
  obtain ⟨x0, y0, z0, t0, kk0, rfl, w0, wd0⟩ := comp_arg (hval 0 25 v0 rfl rfl) h0 (fun n hn => hwt0 n hn)
  clear hA0 hval0
  obtain ⟨m, hm⟩ := shape_cell W hsh
  refine (walk x0 y0 z0 t0 kk0 W w0 wd0 m hm).mono fun e W' ⟨he, bel⟩ => ?_
  subst he
  exact ⟨_, rfl, _, _, _, [], _, [], hW', trodAll_mk1 (shut_bool Tryd.underlying4 _), (trodAll_cons_mk (Below.trod laidOut (by kernel_rfl) (of_decide_eq_true (by kernel_rfl)) k0 bel lt0) trodAll_mk0), rfl, bel.frame _, fun h => by cases h⟩

theorem over : Rows.TreeWritesSaid :=
  OpenClaim.holds_of_wide 3 Tryd.f3 rfl rfl rfl rfl rfl rfl rfl ⟨rfl, rfl, rfl, rfl, rfl⟩ rfl rfl rfl rfl rfl (by kernel_rfl) Tryd.func3 (by kernel_rfl)
    (of_decide_eq_true (by kernel_rfl)) (by unfold Func.isWrapper; first | (rw [if_pos (by decide +kernel)]; kernel_rfl) | (rw [if_neg (by decide +kernel)]; exact ⟨rfl, rfl⟩))
    (fun os started H enc _ => lifted os started H enc)
end Go.Proofs.YtenclgnkogmgiaaDoor.treeWrites
namespace Go.Proofs.YtenclgnkogmgiaaDoor
theorem treeWrites_card : Rows.TreeWritesCardSaid :=
  Claim7.holds_tied_plain_at .later [] _ _ _ _ treeWrites.over (fun _ h => by cases h) (by kernel_rfl) (fun _ h => by cases h) treeWrites_row_tie rfl ⟨rfl, rfl⟩ (by kernel_rfl) rfl
    (fun f fn hf hfn => by
      obtain rfl : f = 3 := Option.some.inj ((show Tryd.prog.funcNamed Rows.treeWritesRow.func = some 3 by kernel_rfl).symm.trans hf) |>.symm
      obtain rfl : fn = Tryd.f3 := (Option.some.inj (Tryd.func3.symm.trans hfn)).symm
      exact ⟨by kernel_rfl, fun j t ht => by
        rw [Tryd.params3] at ht
        have hm : t ∈ [25] := by simpa using Array.mem_of_getElem? ht
        have hall : ([25].all fun u => !Tryd.prog.wantsStandIn u) = true := by kernel_rfl
        exact (show Tryd.prog.wantsStandIn t = false by simpa using List.all_eq_true.1 hall t hm)⟩)
    (by kernel_rfl)
#print axioms treeWrites_card
end Go.Proofs.YtenclgnkogmgiaaDoor
