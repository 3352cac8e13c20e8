/-
  Commands: the contract of greet.
-/
import Derived.Test.YtbckbonffajmeaaGreatDoorSk
import Derived.Lib.ItoaLen
namespace Go.Proofs.YtbckbonffajmeaaGreatDoor
open Go.RowKit Go.Shelf Go.Maps
set_option linter.unusedVariables false
set_option linter.unusedSimpArgs false

/-- What HELO and EHLO are answered. -/
def heloZ (host : ByteArray) : ByteArray := ⟨#[50, 53, 48, 32]⟩ ++ host ++ ⟨#[13, 10]⟩
def ehloZ (host : ByteArray) (size : Int) : ByteArray :=
  ⟨#[50, 53, 48, 45]⟩ ++ host ++ ⟨#[13, 10]⟩ ++ ⟨#[50, 53, 48, 45, 83, 73, 90, 69, 32]⟩ ++ strL (Lib.itoa size) ++ ⟨#[13, 10]⟩ ++ ⟨#[50, 53, 48, 45, 56, 66, 73, 84, 77, 73, 77, 69]⟩ ++ ⟨#[13, 10]⟩ ++ ⟨#[50, 53, 48, 32, 80, 73, 80, 69, 76, 73, 78, 73, 78, 71]⟩ ++ ⟨#[13, 10]⟩
def greetZ (s : SS) (verb rest : ByteArray) : SS × ByteArray :=
  if rest.size = 0 ∨ 255 < rest.size then (s, replyZ s.host 501)
  else (resetZ { s with greeted := true }, if verb.toList = [72, 69, 76, 79] then heloZ s.host else ehloZ s.host s.size)
set_option maxHeartbeats 16000000 in
set_option maxRecDepth 100000 in
theorem greet_any (N : Nat) (mx : Int) (m : Sm) (s : SS) (w : World) (verb rest : ByteArray) (h : SG N mx w m s) (hr : rest.size ≤ 1000) :
    Calls Tryz.prog 96 #[.pointer (some ⟨m.g, 0, none⟩), .string verb, .string rest] w fun e w' => e = .returned (.string (greetZ s verb rest).2) ∧ ∃ m', SvAt N w' m' (greetZ s verb rest).1 ∧ Mv m m' w w' := by
  obtain ⟨c0, c1, c2, c3, c4, c5, c6, c7, c8, c9, c10, c11⟩ := sv_cells h.at'
  have HS : Hid (SG N mx w m s) := h
  have hrp := reply_any N mx m s w 501 h (by decide) (by decide)
  by_cases p1 : rest.size = 0
  · have HZ : Hid (greetZ s verb rest = (s, replyZ s.host 501)) := by unfold Hid greetZ; rw [if_pos (.inl p1)]
    have he : rest = ⟨#[]⟩ := nums_inj (List.eq_nil_of_length_eq_zero (by rw [nums_len]; exact p1))
    subst he
    clear h
    go_enter Tryz.func96, Tryz.ntmps96
    go_wp2_with fail
    refine hrp.mono ?_
    rintro e w1 ⟨rfl, hb⟩
    clear hrp
    obtain ⟨g1, v1⟩ := HS.out.below hb
    have HG : Hid (SG N mx w1 m s ∧ Mv m m w w1) := ⟨g1, v1⟩
    clear g1 v1 hb
    go_wp2
    go_ret
    exact ⟨by rw [HZ.out]; rfl, m, by rw [HZ.out]; exact HG.out.1.at', HG.out.2⟩
  have he : rest.toList.isEmpty = false := by rw [toList_emp]; simp [p1]
  by_cases p2 : 255 < rest.size
  · have HZ : Hid (greetZ s verb rest = (s, replyZ s.host 501)) := by unfold Hid greetZ; rw [if_pos (.inr p2)]
    have p2' : (255 : Int) < (rest.size : Int) := by omega
    clear h
    go_enter Tryz.func96, Tryz.ntmps96
    go_wp2_with fail
    refine hrp.mono ?_
    rintro e w1 ⟨rfl, hb⟩
    clear hrp
    obtain ⟨g1, v1⟩ := HS.out.below hb
    have HG : Hid (SG N mx w1 m s ∧ Mv m m w w1) := ⟨g1, v1⟩
    clear g1 v1 hb
    go_wp2
    go_ret
    exact ⟨by rw [HZ.out]; rfl, m, by rw [HZ.out]; exact HG.out.1.at', HG.out.2⟩
  have p2' : ¬ (255 : Int) < (rest.size : Int) := by omega
  have HZ : Hid (greetZ s verb rest = (resetZ { s with greeted := true }, if verb.toList = [72, 69, 76, 79] then heloZ s.host else ehloZ s.host s.size)) := by
    unfold Hid greetZ; rw [if_neg (by omega)]
  have HZ1 : Hid ((greetZ s verb rest).1 = resetZ { s with greeted := true }) := by unfold Hid; rw [HZ.out]
  have HZ2 : Hid ((greetZ s verb rest).2 = if verb.toList = [72, 69, 76, 79] then heloZ s.host else ehloZ s.host s.size) := by unfold Hid; rw [HZ.out]
  clear hrp HZ
  obtain ⟨a1, a2⟩ := h.at'.put (s' := { s with greeted := true }) 4 (.bool true) rfl rfl rfl rfl rfl ⟨h.at'.ok.host, h.at'.ok.size0, h.at'.ok.size1, h.at'.ok.takes0, h.at'.ok.takes1, h.at'.ok.sender, h.at'.ok.tos, h.at'.ok.tosz, h.at'.ok.line, h.at'.ok.len⟩
  have hre := reset_any N m _ _ a1
  have HA : Hid (SG N mx (w.setCell ⟨m.g, 4, none⟩ (.bool true)) m { s with greeted := true } ∧ Mv m m w (w.setCell ⟨m.g, 4, none⟩ (.bool true))) := ⟨h.step a1 a2, a2⟩
  have f4 := h.at'.blk.frozen 4
  have hhz := h.at'.ok.host
  have hs0 := h.at'.ok.size0
  have hs1 := h.at'.ok.size1
  clear h a1 a2
  go_enter Tryz.func96, Tryz.ntmps96
  go_wp2_with fail
  refine hre.mono ?_
  rintro e w1 ⟨⟨v, rfl⟩, h1, h2⟩
  clear hre
  have HG : Hid (SG N mx w1 (noTos m) (resetZ { s with greeted := true }) ∧ Mv m (noTos m) w w1) := ⟨HA.out.1.step h1 h2, HA.out.2.trans h2⟩
  obtain ⟨d0, d1, d2, _⟩ := sv_cells h1
  have d0 : w1.cell? ⟨m.g, 0, none⟩ = some (.string s.host) := d0
  have d2 : w1.cell? ⟨m.g, 2, none⟩ = some (.int .i64 s.size) := d2
  have hit := fun V hT => itoa_any s.size V (by omega) (by omega) hT
  obtain ⟨host, hho⟩ : ∃ x, s.host = x := ⟨_, rfl⟩
  rw [hho] at d0 hhz HZ2
  obtain ⟨si, hsi⟩ : ∃ x, s.size = x := ⟨_, rfl⟩
  rw [hsi] at d2 hs0 hs1 HZ2
  simp only [hsi] at hit
  clear h1 h2 d1 c0 c1 c2 c3 c4 c5 c6 c7 c8 c9 c10 c11 f4
  by_cases pv : verb.toList = [72, 69, 76, 79]
  · have pv' : (verb.toList == [72, 69, 76, 79]) = true := by rw [pv]; rfl
    rw [if_pos pv] at HZ2
    go_wp2
    go_ret
    exact ⟨by rw [HZ2.out]; rfl, _, by rw [HZ1.out]; exact HG.out.1.at', HG.out.2⟩
  · have pv' : (verb.toList == [72, 69, 76, 79]) = false := by simpa using pv
    rw [if_neg pv] at HZ2
    have HK : Hid (∀ V, Below w1.heap.size w1 V → Tb V ∧ V.cell? ⟨m.g, 0, none⟩ = some (.string host) ∧ V.cell? ⟨m.g, 2, none⟩ = some (.int .i64 si)) := fun V hV => by
      obtain ⟨g, _⟩ := HG.out.1.below hV
      obtain ⟨z0, z1, z2, _⟩ := sv_cells g.at'
      refine ⟨g.gl.tab, ?_, ?_⟩
      · rw [← hho]; exact z0
      · rw [← hsi]; exact z2
    have hiz : (strL (Lib.itoa si)).size ≤ 100 := by
      rw [strL_size]
      have := Lib.itoa_length_le si (by omega) (by omega)
      omega
    obtain ⟨x, hx⟩ : ∃ x, strL (Lib.itoa si) = x := ⟨_, rfl⟩
    simp only [hx] at hit hiz
    have HEX : Hid (ehloZ host si = ⟨#[50, 53, 48, 45]⟩ ++ host ++ ⟨#[13, 10]⟩ ++ ⟨#[50, 53, 48, 45, 83, 73, 90, 69, 32]⟩ ++ x ++ ⟨#[13, 10]⟩ ++ ⟨#[50, 53, 48, 45, 56, 66, 73, 84, 77, 73, 77, 69]⟩ ++ ⟨#[13, 10]⟩ ++ ⟨#[50, 53, 48, 32, 80, 73, 80, 69, 76, 73, 78, 73, 78, 71]⟩ ++ ⟨#[13, 10]⟩) := by unfold Hid ehloZ; rw [hx]
    clear hx hho hsi
    have hL0 : ¬ 9223372036854775807 < 4 + host.size := by omega
    have hL1 : ¬ 9223372036854775807 < 4 + host.size + 2 := by omega
    have hL2 : ¬ 9223372036854775807 < 4 + host.size + 2 + 9 := by omega
    have hL3 : ¬ 9223372036854775807 < 4 + host.size + 2 + 9 + x.size := by omega
    have hL4 : ¬ 9223372036854775807 < 4 + host.size + 2 + 9 + x.size + 2 := by omega
    have hL5 : ¬ 9223372036854775807 < 4 + host.size + 2 + 9 + x.size + 2 + 12 := by omega
    have hL6 : ¬ 9223372036854775807 < 4 + host.size + 2 + 9 + x.size + 2 + 12 + 2 := by omega
    have hL7 : ¬ 9223372036854775807 < 4 + host.size + 2 + 9 + x.size + 2 + 12 + 2 + 14 := by omega
    have hL8 : ¬ 9223372036854775807 < 4 + host.size + 2 + 9 + x.size + 2 + 12 + 2 + 14 + 2 := by omega
    go_wp2
    go_region_held3 (fun V => Below w1.heap.size w1 V ∧ V.cell? ⟨m.g, 0, none⟩ = some (.string host) ∧ V.cell? ⟨m.g, 2, none⟩ = some (.int .i64 si)) (refine ⟨?_, ?_, ?_⟩ <;> first | assumption | exact (below_drewN (Below.refl _ _) 1) | simp [*]) (first
      | (go_at_call 66; refine (hit _ (HK.out _ (show Below w1.heap.size w1 _ by first | assumption | exact (below_drewN (Below.refl _ _) 1))).1).mono ?_; rintro e w5 ⟨rfl, hb5⟩; have hB5 : Below w1.heap.size w1 w5 := (show Below w1.heap.size w1 _ by first | assumption | exact (below_drewN (Below.refl _ _) 1)).trans (hb5.mono (show Below w1.heap.size w1 _ by first | assumption | exact (below_drewN (Below.refl _ _) 1)).size); have hS1 := (HK.out _ hB5).2.1; have hS2 := (HK.out _ hB5).2.2; clear hb5))
    all_goals
      have HG5 : Hid (SG N mx w5 (noTos m) (resetZ { s with greeted := true }) ∧ Mv m (noTos m) w w5) := by
        obtain ⟨g, v⟩ := HG.out.1.below hB5
        exact ⟨g, HG.out.2.trans v⟩
    go_wp2
    go_ret
    exact ⟨by rw [HZ2.out, HEX.out]; rfl, _, by rw [HZ1.out]; exact HG5.out.1.at', HG5.out.2⟩
end Go.Proofs.YtbckbonffajmeaaGreatDoor
