/-
  What is written of a date, read again.
-/
import Derived.Test.YtomcjkghneingaaDoorLa
namespace Go.Proofs.YtomcjkghneingaaDoor
open Go.RowKit
set_option linter.unusedVariables false
set_option linter.unusedSimpArgs false

theorem two_byt {n : Int} (h0 : 0 ≤ n) (h1 : n < 100) : Byt (twoL n) := by
  intro x hx
  simp [twoL] at hx
  omega
theorem dl_byt {t s y m d : Int} (h : dateB t s = true) (hc : Wn.Civ ((t + s) / 86400) y m d) : Byt (dateL t s y m d) := by
  obtain ⟨s0, s1, s2, t0, t1, u0, u1⟩ := dateB_iff h
  obtain ⟨c0, c1, c2, c3, c4, c5⟩ := (Wn.day_iff y m d).1 hc.hd
  have := mon31 (y := y) c2 c3
  have hs : Byt (if s < 0 then [32, 45] else [32, 43]) := by split <;> (unfold Byt; decide)
  have ha : 0 ≤ (if s < 0 then -s else s) ∧ (if s < 0 then -s else s) ≤ 86340 := by split <;> omega
  unfold dateL
  generalize (if s < 0 then -s else s) = q at ha ⊢
  repeat' apply Byt.append
  all_goals first | exact dayL_byt _ | exact monL_byt _ | exact two_byt (by omega) (by omega) | exact hs | (unfold Byt; decide)
theorem dl_len (t s y m d : Int) : (dateL t s y m d).length = 31 := by
  unfold dateL
  simp only [List.length_append, day_len, mon_len, twoL, List.length_cons, List.length_nil]
  split <;> rfl
theorem tl_end2 : Tl [32, 40, 97, 32, 98, 41, 32] := .inr ⟨_, rfl, by decide +kernel⟩
theorem back_any (b u : List Int) (hb : ∀ l, behZ (b ++ l) = behZ l) (hu : Tl u) (hbb : Byt b) (hub : Byt u) (hz : b.length + u.length ≤ 1000) {t s y m d : Int} (h : dateB t s = true) (hc : Wn.Civ ((t + s) / 86400) y m d) (V : World) (hg : Gz V) :
    Calls Tryd.prog 14 #[.string (strOfNums (b ++ (dateL t s y m d ++ u)))] V fun e w' => e = .returned (.tuple #[.int .i64 t, .int .i64 s, .int .i64 0]) ∧ Below V.heap.size V w' := by
  have hn : nums (strOfNums (b ++ (dateL t s y m d ++ u))) = b ++ (dateL t s y m d ++ u) := nums_str (hbb.append ((dl_byt h hc).append hub))
  obtain ⟨s0, s1, s2, t0, t1, u0, u1⟩ := dateB_iff h
  have hd := (Wn.day_iff y m d).1 hc.hd
  have h31 := mon31 (y := y) hd.2.2.1 hd.2.2.2.1
  have hl := date_front (t := t) (m := m) b u hb hd.2.2.2.2.1 (by omega) (by omega : 0 ≤ y) hd.2.1 s0 s1 hu
  have hp := date_back b u hb hu h hd hc.hn
  have := parse_any (strOfNums (b ++ (dateL t s y m d ++ u))) V (by rw [so_size, List.length_append, List.length_append, dl_len]; omega) (by
    rw [hn, hl]
    show NoD (dayL (wdZ ((t + s) / 86400)) ++ [44]) _
    intro q
    simp at q) hg
  rw [hn, hp] at this
  exact this
theorem back_bare {t s y m d : Int} (h : dateB t s = true) (hc : Wn.Civ ((t + s) / 86400) y m d) (V : World) (hg : Gz V) :
    Calls Tryd.prog 14 #[.string (strOfNums (dateL t s y m d))] V fun e w' => e = .returned (.tuple #[.int .i64 t, .int .i64 s, .int .i64 0]) ∧ Below V.heap.size V w' := by
  have := back_any [] [] (fun _ => rfl) (.inl rfl) (by unfold Byt; decide) (by unfold Byt; decide) (by decide) h hc V hg
  rw [List.nil_append, List.append_nil] at this
  exact this
theorem back_wide {t s y m d : Int} (h : dateB t s = true) (hc : Wn.Civ ((t + s) / 86400) y m d) (V : World) (hg : Gz V) :
    Calls Tryd.prog 14 #[.string (⟨#[32, 9]⟩ ++ strOfNums (dateL t s y m d) ++ ⟨#[32, 40, 97, 32, 98, 41, 32]⟩)] V fun e w' => e = .returned (.tuple #[.int .i64 t, .int .i64 s, .int .i64 0]) ∧ Below V.heap.size V w' := by
  have := back_any [32, 9] [32, 40, 97, 32, 98, 41, 32] lead_two tl_end2 (by unfold Byt; decide) (by unfold Byt; decide) (by decide) h hc V hg
  rw [← str_append, ← str_append, ← ByteArray.append_assoc] at this
  exact this
end Go.Proofs.YtomcjkghneingaaDoor
