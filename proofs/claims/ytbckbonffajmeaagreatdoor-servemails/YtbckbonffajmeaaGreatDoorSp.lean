/-
  A byte of a command: the contract of take.
-/
import Derived.Test.YtbckbonffajmeaaGreatDoorSo
namespace Go.Proofs.YtbckbonffajmeaaGreatDoor
open Go.RowKit Go.Shelf Go.Maps
set_option linter.unusedVariables false
set_option linter.unusedSimpArgs false

def halfZ (s : SS) (c : Int) : SS := { s with half := c == 13 }
/-- What a byte of a command does, and what is replied. -/
def byteZ (s : SS) (c : Int) : SS × ByteArray :=
  if s.half = true ∧ c = 10 then seZ (halfZ s c)
  else (if c = 13 then (if s.half = true then addS (halfZ s c) 13 else halfZ s c) else addS (if s.half = true then addS (halfZ s c) 13 else halfZ s c) c, ⟨#[]⟩)
theorem addS_keeps (s : SS) (c : Int) : (addS s c).text = s.text ∧ (addS s c).half = s.half ∧ (addS s c).host = s.host := by
  unfold addS
  split
  · exact ⟨rfl, rfl, rfl⟩
  · split
    · exact ⟨rfl, rfl, rfl⟩
    · exact ⟨rfl, rfl, rfl⟩
set_option maxHeartbeats 16000000 in
set_option maxRecDepth 100000 in
theorem take_any (N : Nat) (mx : Int) (m : Sm) (s : SS) (w : World) (c : Int) (h : SG N mx w m s) (ht : s.text = none) (h0 : 0 ≤ c) (h1 : c < 256) :
    Calls Tryz.prog 31 #[.pointer (some ⟨m.g, 0, none⟩), .int .u8 c] w fun e w' => e = .returned (.string (byteZ s c).2) ∧ ∃ m', SvAt N w' m' (byteZ s c).1 ∧ Mv m m' w w' := by
  obtain ⟨_, _, _, _, _, _, _, _, _, c9, _, _⟩ := sv_cells h.at'
  have f9 := h.at'.blk.frozen 9
  obtain ⟨hf, hhf⟩ : ∃ b, s.half = b := ⟨_, rfl⟩
  rw [hhf] at c9
  obtain ⟨b1, b2⟩ := h.at'.put (s' := halfZ s c) 9 (.bool (c == 13)) rfl rfl rfl rfl rfl ⟨h.at'.ok.host, h.at'.ok.size0, h.at'.ok.size1, h.at'.ok.takes0, h.at'.ok.takes1, h.at'.ok.sender, h.at'.ok.tos, h.at'.ok.tosz, h.at'.ok.line, h.at'.ok.len⟩
  have gG := h.step b1 b2
  have HG : Hid (SG N mx (w.setCell ⟨m.g, 9, none⟩ (.bool (c == 13))) m (halfZ s c) ∧ Mv m m w (w.setCell ⟨m.g, 9, none⟩ (.bool (c == 13)))) := ⟨gG, b2⟩
  have hend := end_any N mx m (halfZ s c) _ gG ht
  have had := add_any N mx m (halfZ s c) _ 13 gG ht (by decide) (by decide)
  have hadc := add_any N mx m (halfZ s c) _ c gG ht h0 h1
  have z9 : (w.setCell ⟨m.g, 9, none⟩ (.bool (c == 13))).cell? ⟨m.g, 9, none⟩ = some (.bool (c == 13)) := by
    obtain ⟨_, _, _, _, _, _, _, _, _, z, _, _⟩ := sv_cells b1
    exact z
  clear h b1 b2 gG
  cases hf with
  | true =>
    by_cases p10 : c = 10
    · have HZ : Hid (byteZ s c = seZ (halfZ s c)) := by unfold Hid byteZ; rw [if_pos ⟨hhf, p10⟩]
      subst p10
      obtain ⟨zz, hzz⟩ : ∃ p, seZ (halfZ s 10) = p := ⟨_, rfl⟩
      rw [hzz] at HZ
      simp only [hzz] at hend
      clear had hadc hzz
      go_enter Tryz.func31, Tryz.ntmps31
      go_wp2_with fail
      refine hend.mono ?_
      rintro e w2 ⟨rfl, m2, h2, v2⟩
      have HG2 : Hid (SvAt N w2 m2 zz.1 ∧ Mv m m2 w w2) := ⟨h2, HG.out.2.trans v2⟩
      clear hend h2 v2
      go_wp2
      go_ret
      exact ⟨by rw [HZ.out]; rfl, m2, by rw [HZ.out]; exact HG2.out.1, HG2.out.2⟩
    · have p10' : (c == 10) = false := by simpa using p10
      clear hend hadc
      by_cases p13 : c = 13
      · have HZ : Hid (byteZ s c = (addS (halfZ s c) 13, ⟨#[]⟩)) := by unfold Hid byteZ; rw [if_neg (fun q => p10 q.2), if_pos p13, if_pos hhf]
        subst p13
        go_enter Tryz.func31, Tryz.ntmps31
        go_wp2_with fail
        refine had.mono ?_
        rintro e w2 ⟨⟨v, rfl⟩, m2, h2, v2⟩
        obtain ⟨_, _, _, _, _, _, _, _, _, y9, _, _⟩ := sv_cells h2
        rw [v2.g, (addS_keeps _ _).2.1] at y9
        have y9 : w2.cell? ⟨m.g, 9, none⟩ = some (.bool true) := y9
        have HG2 : Hid (SvAt N w2 m2 (addS (halfZ s 13) 13) ∧ Mv m m2 w w2) := ⟨h2, HG.out.2.trans v2⟩
        clear had h2 v2 c9 z9
        go_wp2
        go_ret
        exact ⟨by rw [HZ.out]; rfl, m2, by rw [HZ.out]; exact HG2.out.1, HG2.out.2⟩
      · have HZ : Hid (byteZ s c = (addS (addS (halfZ s c) 13) c, ⟨#[]⟩)) := by unfold Hid byteZ; rw [if_neg (fun q => p10 q.2), if_neg p13, if_pos hhf]
        have p13' : (c == 13) = false := by simpa using p13
        go_enter Tryz.func31, Tryz.ntmps31
        rw [p13'] at HG had z9
        go_wp2_with fail
        refine had.mono ?_
        rintro e w2 ⟨⟨v, rfl⟩, m2, h2, v2⟩
        obtain ⟨_, _, _, _, _, _, _, _, _, y9, _, _⟩ := sv_cells h2
        rw [v2.g, (addS_keeps _ _).2.1] at y9
        rw [show (halfZ s c).half = false from p13'] at y9
        have g2 := HG.out.1.step h2 v2
        have had2 := add_any N mx m2 (addS (halfZ s c) 13) w2 c g2 (by rw [(addS_keeps _ _).1]; exact ht) h0 h1
        rw [v2.g] at had2
        have HG2 : Hid (SG N mx w2 m2 (addS (halfZ s c) 13) ∧ Mv m m2 w w2) := ⟨g2, HG.out.2.trans v2⟩
        clear had h2 v2 g2 c9 z9
        go_wp2_with fail
        refine had2.mono ?_
        rintro e w3 ⟨⟨v, rfl⟩, m3, h3, v3⟩
        have HG3 : Hid (SvAt N w3 m3 (addS (addS (halfZ s c) 13) c) ∧ Mv m m3 w w3) := ⟨h3, HG2.out.2.trans v3⟩
        clear had2 h3 v3 y9
        go_wp2
        go_ret
        exact ⟨by rw [HZ.out]; rfl, m3, by rw [HZ.out]; exact HG3.out.1, HG3.out.2⟩
  | false =>
    clear hend had
    by_cases p13 : c = 13
    · have HZ : Hid (byteZ s c = (halfZ s c, ⟨#[]⟩)) := by unfold Hid byteZ; rw [if_neg (fun q => by rw [hhf] at q; cases q.1), if_pos p13, if_neg (by rw [hhf]; decide)]
      subst p13
      clear hadc
      go_enter Tryz.func31, Tryz.ntmps31
      go_wp2
      go_ret
      exact ⟨by rw [HZ.out]; rfl, m, by rw [HZ.out]; exact HG.out.1.at', HG.out.2⟩
    · have HZ : Hid (byteZ s c = (addS (halfZ s c) c, ⟨#[]⟩)) := by unfold Hid byteZ; rw [if_neg (fun q => by rw [hhf] at q; cases q.1), if_neg p13, if_neg (by rw [hhf]; decide)]
      have p13' : (c == 13) = false := by simpa using p13
      go_enter Tryz.func31, Tryz.ntmps31
      rw [p13'] at HG hadc z9
      go_wp2_with fail
      refine hadc.mono ?_
      rintro e w2 ⟨⟨v, rfl⟩, m2, h2, v2⟩
      have HG2 : Hid (SvAt N w2 m2 (addS (halfZ s c) c) ∧ Mv m m2 w w2) := ⟨h2, HG.out.2.trans v2⟩
      clear hadc h2 v2 c9 z9
      go_wp2
      go_ret
      exact ⟨by rw [HZ.out]; rfl, m2, by rw [HZ.out]; exact HG2.out.1, HG2.out.2⟩
end Go.Proofs.YtbckbonffajmeaaGreatDoor
