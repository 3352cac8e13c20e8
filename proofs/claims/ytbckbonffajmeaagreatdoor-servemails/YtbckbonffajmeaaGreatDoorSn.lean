/-
  A command: the contract of do.
-/
import Derived.Test.YtbckbonffajmeaaGreatDoorSl
namespace Go.Proofs.YtbckbonffajmeaaGreatDoor
open Go.RowKit Go.Shelf Go.Maps
set_option linter.unusedVariables false
set_option linter.unusedSimpArgs false

def codeZ (h : ByteArray) (p : SS × Int) : SS × ByteArray := (p.1, replyZ h p.2)
/-- What a command does, and what is replied. -/
def doZ (s : SS) (verb rest : ByteArray) : SS × ByteArray :=
  if verb.toList = [72, 69, 76, 79] ∨ verb.toList = [69, 72, 76, 79] then greetZ s verb rest
  else if verb.toList = [77, 65, 73, 76] then codeZ s.host (fromZ s rest)
  else if verb.toList = [82, 67, 80, 84] then codeZ s.host (gotoZ s rest)
  else if verb.toList = [68, 65, 84, 65] then codeZ s.host (beginZ s rest)
  else if verb.toList = [78, 79, 79, 80] then (s, replyZ s.host 250)
  else if verb.toList = [86, 82, 70, 89] then (s, replyZ s.host 252)
  else if verb.toList = [82, 83, 69, 84] ∨ verb.toList = [81, 85, 73, 84] then codeZ s.host (leaveC s verb rest)
  else (s, replyZ s.host 500)
theorem fromZ_ok (s : SS) (rest : ByteArray) : 0 ≤ (fromZ s rest).2 ∧ (fromZ s rest).2 < 600 ∧ (fromZ s rest).1.host = s.host := by
  unfold fromZ
  repeat' split
  all_goals exact ⟨by simp, by simp, rfl⟩
theorem gotoZ_ok (s : SS) (rest : ByteArray) : 0 ≤ (gotoZ s rest).2 ∧ (gotoZ s rest).2 < 600 ∧ (gotoZ s rest).1.host = s.host := by
  unfold gotoZ
  repeat' split
  all_goals exact ⟨by simp, by simp, rfl⟩
theorem beginZ_ok (s : SS) (rest : ByteArray) : 0 ≤ (beginZ s rest).2 ∧ (beginZ s rest).2 < 600 ∧ (beginZ s rest).1.host = s.host := by
  unfold beginZ
  repeat' split
  all_goals exact ⟨by simp, by simp, rfl⟩
theorem leaveC_ok (s : SS) (verb rest : ByteArray) : 0 ≤ (leaveC s verb rest).2 ∧ (leaveC s verb rest).2 < 600 ∧ (leaveC s verb rest).1.host = s.host := by
  unfold leaveC
  repeat' split
  all_goals exact ⟨by simp, by simp, rfl⟩
set_option maxHeartbeats 16000000 in
set_option maxRecDepth 100000 in
theorem do_any (N : Nat) (mx : Int) (m : Sm) (s : SS) (w : World) (verb rest : ByteArray) (h : SG N mx w m s) (ht : s.text = none) (hl : s.line = []) (hv : m.vl = .slice none 0 0) (ha : Asc rest) (hr : rest.size ≤ 1000) :
    Calls Tryz.prog 80 #[.pointer (some ⟨m.g, 0, none⟩), .string verb, .string rest] w fun e w' => e = .returned (.string (doZ s verb rest).2) ∧ ∃ m', SvAt N w' m' (doZ s verb rest).1 ∧ Mv m m' w w' := by
  have HS : Hid (SG N mx w m s) := h
  by_cases p0 : verb.toList = [72, 69, 76, 79]
  · have HZ : Hid (doZ s verb rest = greetZ s verb rest) := by unfold Hid doZ; rw [if_pos (.inl p0)]
    have hc := greet_any N mx m s w verb rest h hr
    have f0 : (verb.toList == [72, 69, 76, 79]) = true := by rw [p0]; rfl
    have f1 : (verb.toList == [69, 72, 76, 79]) = false := by rw [p0]; rfl
    have f2 : (verb.toList == [77, 65, 73, 76]) = false := by rw [p0]; rfl
    have f3 : (verb.toList == [82, 67, 80, 84]) = false := by rw [p0]; rfl
    have f4 : (verb.toList == [68, 65, 84, 65]) = false := by rw [p0]; rfl
    have f5 : (verb.toList == [78, 79, 79, 80]) = false := by rw [p0]; rfl
    have f6 : (verb.toList == [86, 82, 70, 89]) = false := by rw [p0]; rfl
    have f7 : (verb.toList == [82, 83, 69, 84]) = false := by rw [p0]; rfl
    have f8 : (verb.toList == [81, 85, 73, 84]) = false := by rw [p0]; rfl
    clear h
    go_enter Tryz.func80, Tryz.ntmps80
    go_wp2_with fail
    refine hc.mono ?_
    rintro e w1 ⟨rfl, m1, h1, v1⟩
    have HG : Hid (SvAt N w1 m1 (greetZ s verb rest).1 ∧ Mv m m1 w w1) := ⟨h1, v1⟩
    clear hc h1 v1
    go_wp2
    go_ret
    exact ⟨by rw [HZ.out]; rfl, m1, by rw [HZ.out]; exact HG.out.1, HG.out.2⟩
  by_cases p1 : verb.toList = [69, 72, 76, 79]
  · have HZ : Hid (doZ s verb rest = greetZ s verb rest) := by unfold Hid doZ; rw [if_pos (.inr p1)]
    have hc := greet_any N mx m s w verb rest h hr
    have f0 : (verb.toList == [72, 69, 76, 79]) = false := by rw [p1]; rfl
    have f1 : (verb.toList == [69, 72, 76, 79]) = true := by rw [p1]; rfl
    have f2 : (verb.toList == [77, 65, 73, 76]) = false := by rw [p1]; rfl
    have f3 : (verb.toList == [82, 67, 80, 84]) = false := by rw [p1]; rfl
    have f4 : (verb.toList == [68, 65, 84, 65]) = false := by rw [p1]; rfl
    have f5 : (verb.toList == [78, 79, 79, 80]) = false := by rw [p1]; rfl
    have f6 : (verb.toList == [86, 82, 70, 89]) = false := by rw [p1]; rfl
    have f7 : (verb.toList == [82, 83, 69, 84]) = false := by rw [p1]; rfl
    have f8 : (verb.toList == [81, 85, 73, 84]) = false := by rw [p1]; rfl
    clear h
    go_enter Tryz.func80, Tryz.ntmps80
    go_wp2_with fail
    refine hc.mono ?_
    rintro e w1 ⟨rfl, m1, h1, v1⟩
    have HG : Hid (SvAt N w1 m1 (greetZ s verb rest).1 ∧ Mv m m1 w w1) := ⟨h1, v1⟩
    clear hc h1 v1
    go_wp2
    go_ret
    exact ⟨by rw [HZ.out]; rfl, m1, by rw [HZ.out]; exact HG.out.1, HG.out.2⟩
  by_cases p2 : verb.toList = [77, 65, 73, 76]
  · have HZ : Hid (doZ s verb rest = codeZ s.host (fromZ s rest)) := by unfold Hid doZ; rw [if_neg (by rw [p2]; decide), if_pos p2]
    have hc := from_any N mx m s w rest h ha hr
    obtain ⟨k0, k1, k2⟩ := fromZ_ok s rest
    have f0 : (verb.toList == [72, 69, 76, 79]) = false := by rw [p2]; rfl
    have f1 : (verb.toList == [69, 72, 76, 79]) = false := by rw [p2]; rfl
    have f2 : (verb.toList == [77, 65, 73, 76]) = true := by rw [p2]; rfl
    have f3 : (verb.toList == [82, 67, 80, 84]) = false := by rw [p2]; rfl
    have f4 : (verb.toList == [68, 65, 84, 65]) = false := by rw [p2]; rfl
    have f5 : (verb.toList == [78, 79, 79, 80]) = false := by rw [p2]; rfl
    have f6 : (verb.toList == [86, 82, 70, 89]) = false := by rw [p2]; rfl
    have f7 : (verb.toList == [82, 83, 69, 84]) = false := by rw [p2]; rfl
    have f8 : (verb.toList == [81, 85, 73, 84]) = false := by rw [p2]; rfl
    obtain ⟨zz, hzz⟩ : ∃ p, fromZ s rest = p := ⟨_, rfl⟩
    obtain ⟨s2, c2⟩ := zz
    rw [hzz] at HZ k0 k1 k2
    simp only [hzz] at hc k0 k1 k2
    clear h hzz
    go_enter Tryz.func80, Tryz.ntmps80
    go_wp2_with fail
    refine hc.mono ?_
    rintro e w1 ⟨rfl, m1, h1, v1⟩
    have hg1 := HS.out.step h1 v1
    have hrp := reply_any N mx m1 s2 w1 c2 hg1 k0 k1
    rw [v1.g, k2] at hrp
    have HG : Hid (SG N mx w1 m1 s2 ∧ Mv m m1 w w1) := ⟨hg1, v1⟩
    clear hc h1 v1 hg1
    go_wp2_with fail
    refine hrp.mono ?_
    rintro e w2 ⟨rfl, hb⟩
    clear hrp
    obtain ⟨g2, v2⟩ := HG.out.1.below hb
    have HG2 : Hid (SvAt N w2 m1 s2 ∧ Mv m m1 w w2) := ⟨g2.at', HG.out.2.trans v2⟩
    clear g2 v2 hb
    go_wp2
    go_ret
    exact ⟨by rw [HZ.out]; rfl, m1, by rw [HZ.out]; exact HG2.out.1, HG2.out.2⟩
  by_cases p3 : verb.toList = [82, 67, 80, 84]
  · have HZ : Hid (doZ s verb rest = codeZ s.host (gotoZ s rest)) := by unfold Hid doZ; rw [if_neg (by rw [p3]; decide), if_neg (by rw [p3]; decide), if_pos p3]
    have hc := goto_any N mx m s w rest h ht ha hr
    obtain ⟨k0, k1, k2⟩ := gotoZ_ok s rest
    have f0 : (verb.toList == [72, 69, 76, 79]) = false := by rw [p3]; rfl
    have f1 : (verb.toList == [69, 72, 76, 79]) = false := by rw [p3]; rfl
    have f2 : (verb.toList == [77, 65, 73, 76]) = false := by rw [p3]; rfl
    have f3 : (verb.toList == [82, 67, 80, 84]) = true := by rw [p3]; rfl
    have f4 : (verb.toList == [68, 65, 84, 65]) = false := by rw [p3]; rfl
    have f5 : (verb.toList == [78, 79, 79, 80]) = false := by rw [p3]; rfl
    have f6 : (verb.toList == [86, 82, 70, 89]) = false := by rw [p3]; rfl
    have f7 : (verb.toList == [82, 83, 69, 84]) = false := by rw [p3]; rfl
    have f8 : (verb.toList == [81, 85, 73, 84]) = false := by rw [p3]; rfl
    obtain ⟨zz, hzz⟩ : ∃ p, gotoZ s rest = p := ⟨_, rfl⟩
    obtain ⟨s2, c2⟩ := zz
    rw [hzz] at HZ k0 k1 k2
    simp only [hzz] at hc k0 k1 k2
    clear h hzz
    go_enter Tryz.func80, Tryz.ntmps80
    go_wp2_with fail
    refine hc.mono ?_
    rintro e w1 ⟨rfl, m1, h1, v1⟩
    have hg1 := HS.out.step h1 v1
    have hrp := reply_any N mx m1 s2 w1 c2 hg1 k0 k1
    rw [v1.g, k2] at hrp
    have HG : Hid (SG N mx w1 m1 s2 ∧ Mv m m1 w w1) := ⟨hg1, v1⟩
    clear hc h1 v1 hg1
    go_wp2_with fail
    refine hrp.mono ?_
    rintro e w2 ⟨rfl, hb⟩
    clear hrp
    obtain ⟨g2, v2⟩ := HG.out.1.below hb
    have HG2 : Hid (SvAt N w2 m1 s2 ∧ Mv m m1 w w2) := ⟨g2.at', HG.out.2.trans v2⟩
    clear g2 v2 hb
    go_wp2
    go_ret
    exact ⟨by rw [HZ.out]; rfl, m1, by rw [HZ.out]; exact HG2.out.1, HG2.out.2⟩
  by_cases p4 : verb.toList = [68, 65, 84, 65]
  · have HZ : Hid (doZ s verb rest = codeZ s.host (beginZ s rest)) := by unfold Hid doZ; rw [if_neg (by rw [p4]; decide), if_neg (by rw [p4]; decide), if_neg (by rw [p4]; decide), if_pos p4]
    have hc := begin_any N mx m s w rest h ht hl hv
    obtain ⟨k0, k1, k2⟩ := beginZ_ok s rest
    have f0 : (verb.toList == [72, 69, 76, 79]) = false := by rw [p4]; rfl
    have f1 : (verb.toList == [69, 72, 76, 79]) = false := by rw [p4]; rfl
    have f2 : (verb.toList == [77, 65, 73, 76]) = false := by rw [p4]; rfl
    have f3 : (verb.toList == [82, 67, 80, 84]) = false := by rw [p4]; rfl
    have f4 : (verb.toList == [68, 65, 84, 65]) = true := by rw [p4]; rfl
    have f5 : (verb.toList == [78, 79, 79, 80]) = false := by rw [p4]; rfl
    have f6 : (verb.toList == [86, 82, 70, 89]) = false := by rw [p4]; rfl
    have f7 : (verb.toList == [82, 83, 69, 84]) = false := by rw [p4]; rfl
    have f8 : (verb.toList == [81, 85, 73, 84]) = false := by rw [p4]; rfl
    obtain ⟨zz, hzz⟩ : ∃ p, beginZ s rest = p := ⟨_, rfl⟩
    obtain ⟨s2, c2⟩ := zz
    rw [hzz] at HZ k0 k1 k2
    simp only [hzz] at hc k0 k1 k2
    clear h hzz
    go_enter Tryz.func80, Tryz.ntmps80
    go_wp2_with fail
    refine hc.mono ?_
    rintro e w1 ⟨rfl, m1, h1, v1⟩
    have hg1 := HS.out.step h1 v1
    have hrp := reply_any N mx m1 s2 w1 c2 hg1 k0 k1
    rw [v1.g, k2] at hrp
    have HG : Hid (SG N mx w1 m1 s2 ∧ Mv m m1 w w1) := ⟨hg1, v1⟩
    clear hc h1 v1 hg1
    go_wp2_with fail
    refine hrp.mono ?_
    rintro e w2 ⟨rfl, hb⟩
    clear hrp
    obtain ⟨g2, v2⟩ := HG.out.1.below hb
    have HG2 : Hid (SvAt N w2 m1 s2 ∧ Mv m m1 w w2) := ⟨g2.at', HG.out.2.trans v2⟩
    clear g2 v2 hb
    go_wp2
    go_ret
    exact ⟨by rw [HZ.out]; rfl, m1, by rw [HZ.out]; exact HG2.out.1, HG2.out.2⟩
  by_cases p5 : verb.toList = [78, 79, 79, 80]
  · have HZ : Hid (doZ s verb rest = (s, replyZ s.host 250)) := by unfold Hid doZ; rw [if_neg (by rw [p5]; decide), if_neg (by rw [p5]; decide), if_neg (by rw [p5]; decide), if_neg (by rw [p5]; decide), if_pos p5]
    have hrp := reply_any N mx m s w 250 h (by decide) (by decide)
    have f0 : (verb.toList == [72, 69, 76, 79]) = false := by rw [p5]; rfl
    have f1 : (verb.toList == [69, 72, 76, 79]) = false := by rw [p5]; rfl
    have f2 : (verb.toList == [77, 65, 73, 76]) = false := by rw [p5]; rfl
    have f3 : (verb.toList == [82, 67, 80, 84]) = false := by rw [p5]; rfl
    have f4 : (verb.toList == [68, 65, 84, 65]) = false := by rw [p5]; rfl
    have f5 : (verb.toList == [78, 79, 79, 80]) = true := by rw [p5]; rfl
    have f6 : (verb.toList == [86, 82, 70, 89]) = false := by rw [p5]; rfl
    have f7 : (verb.toList == [82, 83, 69, 84]) = false := by rw [p5]; rfl
    have f8 : (verb.toList == [81, 85, 73, 84]) = false := by rw [p5]; rfl
    clear h
    go_enter Tryz.func80, Tryz.ntmps80
    go_wp2_with fail
    refine hrp.mono ?_
    rintro e w1 ⟨rfl, hb⟩
    clear hrp
    obtain ⟨g1, v1⟩ := HS.out.below hb
    have HG : Hid (SG N mx w1 m s ∧ Mv m m w w1) := ⟨g1, v1⟩
    clear g1 v1 hb
    go_wp2
    go_ret
    exact ⟨by rw [HZ.out]; rfl, m, by rw [HZ.out]; exact HG.out.1.at', HG.out.2⟩
  by_cases p6 : verb.toList = [86, 82, 70, 89]
  · have HZ : Hid (doZ s verb rest = (s, replyZ s.host 252)) := by unfold Hid doZ; rw [if_neg (by rw [p6]; decide), if_neg (by rw [p6]; decide), if_neg (by rw [p6]; decide), if_neg (by rw [p6]; decide), if_neg (by rw [p6]; decide), if_pos p6]
    have hrp := reply_any N mx m s w 252 h (by decide) (by decide)
    have f0 : (verb.toList == [72, 69, 76, 79]) = false := by rw [p6]; rfl
    have f1 : (verb.toList == [69, 72, 76, 79]) = false := by rw [p6]; rfl
    have f2 : (verb.toList == [77, 65, 73, 76]) = false := by rw [p6]; rfl
    have f3 : (verb.toList == [82, 67, 80, 84]) = false := by rw [p6]; rfl
    have f4 : (verb.toList == [68, 65, 84, 65]) = false := by rw [p6]; rfl
    have f5 : (verb.toList == [78, 79, 79, 80]) = false := by rw [p6]; rfl
    have f6 : (verb.toList == [86, 82, 70, 89]) = true := by rw [p6]; rfl
    have f7 : (verb.toList == [82, 83, 69, 84]) = false := by rw [p6]; rfl
    have f8 : (verb.toList == [81, 85, 73, 84]) = false := by rw [p6]; rfl
    clear h
    go_enter Tryz.func80, Tryz.ntmps80
    go_wp2_with fail
    refine hrp.mono ?_
    rintro e w1 ⟨rfl, hb⟩
    clear hrp
    obtain ⟨g1, v1⟩ := HS.out.below hb
    have HG : Hid (SG N mx w1 m s ∧ Mv m m w w1) := ⟨g1, v1⟩
    clear g1 v1 hb
    go_wp2
    go_ret
    exact ⟨by rw [HZ.out]; rfl, m, by rw [HZ.out]; exact HG.out.1.at', HG.out.2⟩
  by_cases p7 : verb.toList = [82, 83, 69, 84]
  · have HZ : Hid (doZ s verb rest = codeZ s.host (leaveC s verb rest)) := by unfold Hid doZ; rw [if_neg (by rw [p7]; decide), if_neg (by rw [p7]; decide), if_neg (by rw [p7]; decide), if_neg (by rw [p7]; decide), if_neg (by rw [p7]; decide), if_neg (by rw [p7]; decide), if_pos (.inl p7)]
    have hc := leave_any N mx m s w verb rest h
    obtain ⟨k0, k1, k2⟩ := leaveC_ok s verb rest
    have f0 : (verb.toList == [72, 69, 76, 79]) = false := by rw [p7]; rfl
    have f1 : (verb.toList == [69, 72, 76, 79]) = false := by rw [p7]; rfl
    have f2 : (verb.toList == [77, 65, 73, 76]) = false := by rw [p7]; rfl
    have f3 : (verb.toList == [82, 67, 80, 84]) = false := by rw [p7]; rfl
    have f4 : (verb.toList == [68, 65, 84, 65]) = false := by rw [p7]; rfl
    have f5 : (verb.toList == [78, 79, 79, 80]) = false := by rw [p7]; rfl
    have f6 : (verb.toList == [86, 82, 70, 89]) = false := by rw [p7]; rfl
    have f7 : (verb.toList == [82, 83, 69, 84]) = true := by rw [p7]; rfl
    have f8 : (verb.toList == [81, 85, 73, 84]) = false := by rw [p7]; rfl
    obtain ⟨zz, hzz⟩ : ∃ p, leaveC s verb rest = p := ⟨_, rfl⟩
    obtain ⟨s2, c2⟩ := zz
    rw [hzz] at HZ k0 k1 k2
    simp only [hzz] at hc k0 k1 k2
    clear h hzz
    go_enter Tryz.func80, Tryz.ntmps80
    go_wp2_with fail
    refine hc.mono ?_
    rintro e w1 ⟨rfl, m1, h1, v1⟩
    have hg1 := HS.out.step h1 v1
    have hrp := reply_any N mx m1 s2 w1 c2 hg1 k0 k1
    rw [v1.g, k2] at hrp
    have HG : Hid (SG N mx w1 m1 s2 ∧ Mv m m1 w w1) := ⟨hg1, v1⟩
    clear hc h1 v1 hg1
    go_wp2_with fail
    refine hrp.mono ?_
    rintro e w2 ⟨rfl, hb⟩
    clear hrp
    obtain ⟨g2, v2⟩ := HG.out.1.below hb
    have HG2 : Hid (SvAt N w2 m1 s2 ∧ Mv m m1 w w2) := ⟨g2.at', HG.out.2.trans v2⟩
    clear g2 v2 hb
    go_wp2
    go_ret
    exact ⟨by rw [HZ.out]; rfl, m1, by rw [HZ.out]; exact HG2.out.1, HG2.out.2⟩
  by_cases p8 : verb.toList = [81, 85, 73, 84]
  · have HZ : Hid (doZ s verb rest = codeZ s.host (leaveC s verb rest)) := by unfold Hid doZ; rw [if_neg (by rw [p8]; decide), if_neg (by rw [p8]; decide), if_neg (by rw [p8]; decide), if_neg (by rw [p8]; decide), if_neg (by rw [p8]; decide), if_neg (by rw [p8]; decide), if_pos (.inr p8)]
    have hc := leave_any N mx m s w verb rest h
    obtain ⟨k0, k1, k2⟩ := leaveC_ok s verb rest
    have f0 : (verb.toList == [72, 69, 76, 79]) = false := by rw [p8]; rfl
    have f1 : (verb.toList == [69, 72, 76, 79]) = false := by rw [p8]; rfl
    have f2 : (verb.toList == [77, 65, 73, 76]) = false := by rw [p8]; rfl
    have f3 : (verb.toList == [82, 67, 80, 84]) = false := by rw [p8]; rfl
    have f4 : (verb.toList == [68, 65, 84, 65]) = false := by rw [p8]; rfl
    have f5 : (verb.toList == [78, 79, 79, 80]) = false := by rw [p8]; rfl
    have f6 : (verb.toList == [86, 82, 70, 89]) = false := by rw [p8]; rfl
    have f7 : (verb.toList == [82, 83, 69, 84]) = false := by rw [p8]; rfl
    have f8 : (verb.toList == [81, 85, 73, 84]) = true := by rw [p8]; rfl
    obtain ⟨zz, hzz⟩ : ∃ p, leaveC s verb rest = p := ⟨_, rfl⟩
    obtain ⟨s2, c2⟩ := zz
    rw [hzz] at HZ k0 k1 k2
    simp only [hzz] at hc k0 k1 k2
    clear h hzz
    go_enter Tryz.func80, Tryz.ntmps80
    go_wp2_with fail
    refine hc.mono ?_
    rintro e w1 ⟨rfl, m1, h1, v1⟩
    have hg1 := HS.out.step h1 v1
    have hrp := reply_any N mx m1 s2 w1 c2 hg1 k0 k1
    rw [v1.g, k2] at hrp
    have HG : Hid (SG N mx w1 m1 s2 ∧ Mv m m1 w w1) := ⟨hg1, v1⟩
    clear hc h1 v1 hg1
    go_wp2_with fail
    refine hrp.mono ?_
    rintro e w2 ⟨rfl, hb⟩
    clear hrp
    obtain ⟨g2, v2⟩ := HG.out.1.below hb
    have HG2 : Hid (SvAt N w2 m1 s2 ∧ Mv m m1 w w2) := ⟨g2.at', HG.out.2.trans v2⟩
    clear g2 v2 hb
    go_wp2
    go_ret
    exact ⟨by rw [HZ.out]; rfl, m1, by rw [HZ.out]; exact HG2.out.1, HG2.out.2⟩
  have HZ : Hid (doZ s verb rest = (s, replyZ s.host 500)) := by
    unfold Hid doZ
    rw [if_neg (by rw [not_or]; exact ⟨p0, p1⟩), if_neg p2, if_neg p3, if_neg p4, if_neg p5, if_neg p6, if_neg (by rw [not_or]; exact ⟨p7, p8⟩)]
  have hrp := reply_any N mx m s w 500 h (by decide) (by decide)
  have f0 : (verb.toList == [72, 69, 76, 79]) = false := by simpa using p0
  have f1 : (verb.toList == [69, 72, 76, 79]) = false := by simpa using p1
  have f2 : (verb.toList == [77, 65, 73, 76]) = false := by simpa using p2
  have f3 : (verb.toList == [82, 67, 80, 84]) = false := by simpa using p3
  have f4 : (verb.toList == [68, 65, 84, 65]) = false := by simpa using p4
  have f5 : (verb.toList == [78, 79, 79, 80]) = false := by simpa using p5
  have f6 : (verb.toList == [86, 82, 70, 89]) = false := by simpa using p6
  have f7 : (verb.toList == [82, 83, 69, 84]) = false := by simpa using p7
  have f8 : (verb.toList == [81, 85, 73, 84]) = false := by simpa using p8
  clear h
  go_enter Tryz.func80, Tryz.ntmps80
  go_wp2_with fail
  refine hrp.mono ?_
  rintro e w1 ⟨rfl, hb⟩
  clear hrp
  obtain ⟨g1, v1⟩ := HS.out.below hb
  have HG : Hid (SG N mx w1 m s ∧ Mv m m w w1) := ⟨g1, v1⟩
  clear g1 v1 hb
  go_wp2
  go_ret
  exact ⟨by rw [HZ.out]; rfl, m, by rw [HZ.out]; exact HG.out.1.at', HG.out.2⟩
end Go.Proofs.YtbckbonffajmeaaGreatDoor
