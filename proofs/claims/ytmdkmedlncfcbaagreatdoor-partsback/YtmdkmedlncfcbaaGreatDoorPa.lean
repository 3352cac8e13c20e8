/-
  A part's kind, and its border.
-/
import Derived.Test.YtmdkmedlncfcbaaGreatDoorWrite
import Derived.Test.YtmdkmedlncfcbaaGreatDoorKRead
import Derived.Test.YtmdkmedlncfcbaaGreatDoorKWr
namespace Go.Proofs.YtmdkmedlncfcbaaGreatDoor
open Go.RowKit
set_option linter.unusedVariables false

def ctB : ByteArray := ⟨#[67, 111, 110, 116, 101, 110, 116, 45, 84, 121, 112, 101]⟩
def mpZ : List Int := [109, 117, 108, 116, 105, 112, 97, 114, 116]
/-- A kind: its Type, its Sub, its parameters. -/
abbrev Kn := List Int × List Int × List (List Int × List Int)
/-- The kind of a part with these fields. -/
def knd (fs : List (ByteArray × ByteArray)) : Option Kn :=
  if (getZ (nums ctB) fs ⟨#[]⟩ 0).2 = 0 then some ([116, 101, 120, 116], [112, 108, 97, 105, 110], [])
  else if (getZ (nums ctB) fs ⟨#[]⟩ 0).2 = 1 then Kd.readR (nums (getZ (nums ctB) fs ⟨#[]⟩ 0).1) else none
/-- What is wrong, if there is no kind. -/
def errK (fs : List (ByteArray × ByteArray)) : Int := if (getZ (nums ctB) fs ⟨#[]⟩ 0).2 = 1 then 70 else 81
/-- A kind's parameter. -/
def getL (nm : List Int) : List (List Int × List Int) → List Int
  | [] => []
  | p :: r => if p.1 = nm then p.2 else getL nm r
def bC (c : Int) : Bool := decide (97 ≤ c ∧ c ≤ 122) || decide (65 ≤ c ∧ c ≤ 90) || decide (48 ≤ c ∧ c ≤ 57) || decide (c = 46) || decide (c = 45) || decide (c = 95)
def bdZ : List Int := [98, 111, 117, 110, 100, 97, 114, 121]
/-- A kind's border. -/
def bord (k : Kn) : Option (List Int) :=
  if (getL bdZ k.2.2).all bC = true ∧ getL bdZ k.2.2 ≠ [] ∧ (getL bdZ k.2.2).length ≤ 70 then some (getL bdZ k.2.2) else none
theorem bord_spec {k : Kn} {b : List Int} (h : bord k = some b) : b.all bC = true ∧ b ≠ [] ∧ b.length ≤ 70 := by
  unfold bord at h
  split at h
  · rename_i hh; cases h; exact hh
  · cases h
theorem get_list (nm : List Int) : ∀ fs : List (ByteArray × ByteArray), nums (Kd.getZ nm fs).1 = getL nm (Kd.numsP fs)
  | [] => rfl
  | f :: r => by
    have ih := get_list nm r
    unfold Kd.getZ Kd.numsP
    rw [List.map_cons, getL]
    by_cases h : nums f.1 = nm
    · rw [if_pos h]; simp [h]
    · rw [if_neg h]
      simp only [h, if_false]
      exact ih
theorem get_small (nm : List Int) : ∀ ks : List (ByteArray × ByteArray), Kd.SmallF ks → (Kd.getZ nm ks).1.size ≤ 1000000000
  | [], _ => by unfold Kd.getZ; decide
  | f :: r, h => by
    unfold Kd.getZ
    split
    · exact (h f (by simp)).2
    · exact get_small nm r (fun g hg => h g (by simp [hg]))
theorem cells3 {W : World} {K : Nat} {x y z : Value} {t : TypeId} (h : W.heap[K]? = some (.cells #[x, y, z] t (0, 0))) : W.cell? ⟨K, 0, none⟩ = some x ∧ W.cell? ⟨K, 1, none⟩ = some y ∧ W.cell? ⟨K, 2, none⟩ = some z :=
  ⟨(cell_of_row _ _ 0 _ _ _ h).trans rfl, (cell_of_row _ _ 1 _ _ _ h).trans rfl, (cell_of_row _ _ 2 _ _ _ h).trans rfl⟩
theorem free3 {W : World} {K : Nat} {cs : Array Value} {t : TypeId} (h : W.heap[K]? = some (.cells cs t (0, 0))) (o : Nat) : W.frozen? ⟨K, o, none⟩ = false := frozen_of_row _ _ _ _ _ h
/-- A kind as it lies. -/
def KAt (w : World) (ty sub : ByteArray) (a : Option Addr) (ks : List (ByteArray × ByteArray)) : Prop := Kd.FRow w a ks ∧ Kd.Small ty ∧ Kd.Small sub ∧ Kd.SmallF ks ∧ ks.length ≤ 1000
def knOf (ty sub : ByteArray) (ks : List (ByteArray × ByteArray)) : Kn := (nums ty, nums sub, Kd.numsP ks)
theorem KAt.below {w w' : World} {ty sub : ByteArray} {a : Option Addr} {ks : List (ByteArray × ByteArray)} (h : KAt w ty sub a ks) (hb : Below w.heap.size w w') : KAt w' ty sub a ks := ⟨h.1.below hb, h.2⟩
set_option maxHeartbeats 2000000 in
set_option maxRecDepth 100000 in
theorem inBorder_any (c : Int) (w : World) (h0 : 0 ≤ c) (h1 : c < 256) : Calls Tryz.prog 76 #[.int .u8 c] w fun e w' => e = .returned (.bool (bC c)) ∧ w = w' := by
  by_cases q0 : c ≤ 44
  · have g0 : 0 ≤ c := by omega
    have hv : bC c = false := by unfold bC; simp; omega
    have a1 : decide ((97 : Int) ≤ c) = false := by simp; omega
    have a2 : decide (c ≤ 122) = true := by simp; omega
    have a3 : decide ((65 : Int) ≤ c) = false := by simp; omega
    have a4 : decide (c ≤ 90) = true := by simp; omega
    have a5 : decide ((48 : Int) ≤ c) = false := by simp; omega
    have a6 : decide (c ≤ 57) = true := by simp; omega
    have a7 : (c == 46) = false := by simp; omega
    have a8 : (c == 45) = false := by simp; omega
    have a9 : (c == 95) = false := by simp; omega
    rw [hv]
    go_enter Tryz.func76, Tryz.ntmps76
    go_wp2
    go_ret
    exact ⟨by first | rfl | simp, rfl⟩
  · skip
    by_cases q1 : c ≤ 45
    · have g0 : 45 ≤ c := by omega
      have hv : bC c = true := by unfold bC; simp; omega
      have a1 : decide ((97 : Int) ≤ c) = false := by simp; omega
      have a2 : decide (c ≤ 122) = true := by simp; omega
      have a3 : decide ((65 : Int) ≤ c) = false := by simp; omega
      have a4 : decide (c ≤ 90) = true := by simp; omega
      have a5 : decide ((48 : Int) ≤ c) = false := by simp; omega
      have a6 : decide (c ≤ 57) = true := by simp; omega
      have a7 : (c == 46) = false := by simp; omega
      have a8 : (c == 45) = true := by simp; omega
      have a9 : (c == 95) = false := by simp; omega
      rw [hv]
      go_enter Tryz.func76, Tryz.ntmps76
      go_wp2
      go_ret
      exact ⟨by first | rfl | simp, rfl⟩
    · skip
      by_cases q2 : c ≤ 46
      · have g0 : 46 ≤ c := by omega
        have hv : bC c = true := by unfold bC; simp; omega
        have a1 : decide ((97 : Int) ≤ c) = false := by simp; omega
        have a2 : decide (c ≤ 122) = true := by simp; omega
        have a3 : decide ((65 : Int) ≤ c) = false := by simp; omega
        have a4 : decide (c ≤ 90) = true := by simp; omega
        have a5 : decide ((48 : Int) ≤ c) = false := by simp; omega
        have a6 : decide (c ≤ 57) = true := by simp; omega
        have a7 : (c == 46) = true := by simp; omega
        have a8 : (c == 45) = false := by simp; omega
        have a9 : (c == 95) = false := by simp; omega
        rw [hv]
        go_enter Tryz.func76, Tryz.ntmps76
        go_wp2
        go_ret
        exact ⟨by first | rfl | simp, rfl⟩
      · skip
        by_cases q3 : c ≤ 47
        · have g0 : 47 ≤ c := by omega
          have hv : bC c = false := by unfold bC; simp; omega
          have a1 : decide ((97 : Int) ≤ c) = false := by simp; omega
          have a2 : decide (c ≤ 122) = true := by simp; omega
          have a3 : decide ((65 : Int) ≤ c) = false := by simp; omega
          have a4 : decide (c ≤ 90) = true := by simp; omega
          have a5 : decide ((48 : Int) ≤ c) = false := by simp; omega
          have a6 : decide (c ≤ 57) = true := by simp; omega
          have a7 : (c == 46) = false := by simp; omega
          have a8 : (c == 45) = false := by simp; omega
          have a9 : (c == 95) = false := by simp; omega
          rw [hv]
          go_enter Tryz.func76, Tryz.ntmps76
          go_wp2
          go_ret
          exact ⟨by first | rfl | simp, rfl⟩
        · skip
          by_cases q4 : c ≤ 57
          · have g0 : 48 ≤ c := by omega
            have hv : bC c = true := by unfold bC; simp; omega
            have a1 : decide ((97 : Int) ≤ c) = false := by simp; omega
            have a2 : decide (c ≤ 122) = true := by simp; omega
            have a3 : decide ((65 : Int) ≤ c) = false := by simp; omega
            have a4 : decide (c ≤ 90) = true := by simp; omega
            have a5 : decide ((48 : Int) ≤ c) = true := by simp; omega
            have a6 : decide (c ≤ 57) = true := by simp; omega
            have a7 : (c == 46) = false := by simp; omega
            have a8 : (c == 45) = false := by simp; omega
            have a9 : (c == 95) = false := by simp; omega
            rw [hv]
            go_enter Tryz.func76, Tryz.ntmps76
            go_wp2
            go_ret
            exact ⟨by first | rfl | simp, rfl⟩
          · skip
            by_cases q5 : c ≤ 64
            · have g0 : 58 ≤ c := by omega
              have hv : bC c = false := by unfold bC; simp; omega
              have a1 : decide ((97 : Int) ≤ c) = false := by simp; omega
              have a2 : decide (c ≤ 122) = true := by simp; omega
              have a3 : decide ((65 : Int) ≤ c) = false := by simp; omega
              have a4 : decide (c ≤ 90) = true := by simp; omega
              have a5 : decide ((48 : Int) ≤ c) = true := by simp; omega
              have a6 : decide (c ≤ 57) = false := by simp; omega
              have a7 : (c == 46) = false := by simp; omega
              have a8 : (c == 45) = false := by simp; omega
              have a9 : (c == 95) = false := by simp; omega
              rw [hv]
              go_enter Tryz.func76, Tryz.ntmps76
              go_wp2
              go_ret
              exact ⟨by first | rfl | simp, rfl⟩
            · skip
              by_cases q6 : c ≤ 90
              · have g0 : 65 ≤ c := by omega
                have hv : bC c = true := by unfold bC; simp; omega
                have a1 : decide ((97 : Int) ≤ c) = false := by simp; omega
                have a2 : decide (c ≤ 122) = true := by simp; omega
                have a3 : decide ((65 : Int) ≤ c) = true := by simp; omega
                have a4 : decide (c ≤ 90) = true := by simp; omega
                have a5 : decide ((48 : Int) ≤ c) = true := by simp; omega
                have a6 : decide (c ≤ 57) = false := by simp; omega
                have a7 : (c == 46) = false := by simp; omega
                have a8 : (c == 45) = false := by simp; omega
                have a9 : (c == 95) = false := by simp; omega
                rw [hv]
                go_enter Tryz.func76, Tryz.ntmps76
                go_wp2
                go_ret
                exact ⟨by first | rfl | simp, rfl⟩
              · skip
                by_cases q7 : c ≤ 94
                · have g0 : 91 ≤ c := by omega
                  have hv : bC c = false := by unfold bC; simp; omega
                  have a1 : decide ((97 : Int) ≤ c) = false := by simp; omega
                  have a2 : decide (c ≤ 122) = true := by simp; omega
                  have a3 : decide ((65 : Int) ≤ c) = true := by simp; omega
                  have a4 : decide (c ≤ 90) = false := by simp; omega
                  have a5 : decide ((48 : Int) ≤ c) = true := by simp; omega
                  have a6 : decide (c ≤ 57) = false := by simp; omega
                  have a7 : (c == 46) = false := by simp; omega
                  have a8 : (c == 45) = false := by simp; omega
                  have a9 : (c == 95) = false := by simp; omega
                  rw [hv]
                  go_enter Tryz.func76, Tryz.ntmps76
                  go_wp2
                  go_ret
                  exact ⟨by first | rfl | simp, rfl⟩
                · skip
                  by_cases q8 : c ≤ 95
                  · have g0 : 95 ≤ c := by omega
                    have hv : bC c = true := by unfold bC; simp; omega
                    have a1 : decide ((97 : Int) ≤ c) = false := by simp; omega
                    have a2 : decide (c ≤ 122) = true := by simp; omega
                    have a3 : decide ((65 : Int) ≤ c) = true := by simp; omega
                    have a4 : decide (c ≤ 90) = false := by simp; omega
                    have a5 : decide ((48 : Int) ≤ c) = true := by simp; omega
                    have a6 : decide (c ≤ 57) = false := by simp; omega
                    have a7 : (c == 46) = false := by simp; omega
                    have a8 : (c == 45) = false := by simp; omega
                    have a9 : (c == 95) = true := by simp; omega
                    rw [hv]
                    go_enter Tryz.func76, Tryz.ntmps76
                    go_wp2
                    go_ret
                    exact ⟨by first | rfl | simp, rfl⟩
                  · skip
                    by_cases q9 : c ≤ 96
                    · have g0 : 96 ≤ c := by omega
                      have hv : bC c = false := by unfold bC; simp; omega
                      have a1 : decide ((97 : Int) ≤ c) = false := by simp; omega
                      have a2 : decide (c ≤ 122) = true := by simp; omega
                      have a3 : decide ((65 : Int) ≤ c) = true := by simp; omega
                      have a4 : decide (c ≤ 90) = false := by simp; omega
                      have a5 : decide ((48 : Int) ≤ c) = true := by simp; omega
                      have a6 : decide (c ≤ 57) = false := by simp; omega
                      have a7 : (c == 46) = false := by simp; omega
                      have a8 : (c == 45) = false := by simp; omega
                      have a9 : (c == 95) = false := by simp; omega
                      rw [hv]
                      go_enter Tryz.func76, Tryz.ntmps76
                      go_wp2
                      go_ret
                      exact ⟨by first | rfl | simp, rfl⟩
                    · skip
                      by_cases q10 : c ≤ 122
                      · have g0 : 97 ≤ c := by omega
                        have hv : bC c = true := by unfold bC; simp; omega
                        have a1 : decide ((97 : Int) ≤ c) = true := by simp; omega
                        have a2 : decide (c ≤ 122) = true := by simp; omega
                        have a3 : decide ((65 : Int) ≤ c) = true := by simp; omega
                        have a4 : decide (c ≤ 90) = false := by simp; omega
                        have a5 : decide ((48 : Int) ≤ c) = true := by simp; omega
                        have a6 : decide (c ≤ 57) = false := by simp; omega
                        have a7 : (c == 46) = false := by simp; omega
                        have a8 : (c == 45) = false := by simp; omega
                        have a9 : (c == 95) = false := by simp; omega
                        rw [hv]
                        go_enter Tryz.func76, Tryz.ntmps76
                        go_wp2
                        go_ret
                        exact ⟨by first | rfl | simp, rfl⟩
                      · skip
                        have g0 : 123 ≤ c := by omega
                        have hv : bC c = false := by unfold bC; simp; omega
                        have a1 : decide ((97 : Int) ≤ c) = true := by simp; omega
                        have a2 : decide (c ≤ 122) = false := by simp; omega
                        have a3 : decide ((65 : Int) ≤ c) = true := by simp; omega
                        have a4 : decide (c ≤ 90) = false := by simp; omega
                        have a5 : decide ((48 : Int) ≤ c) = true := by simp; omega
                        have a6 : decide (c ≤ 57) = false := by simp; omega
                        have a7 : (c == 46) = false := by simp; omega
                        have a8 : (c == 45) = false := by simp; omega
                        have a9 : (c == 95) = false := by simp; omega
                        rw [hv]
                        go_enter Tryz.func76, Tryz.ntmps76
                        go_wp2
                        go_ret
                        exact ⟨by first | rfl | simp, rfl⟩
set_option maxHeartbeats 4000000 in
set_option maxRecDepth 100000 in
theorem borderOf_any (ty sub : ByteArray) (a : Option Addr) (n c : Nat) (ks : List (ByteArray × ByteArray)) (w : World) (hn : ks.length = n) (h : KAt w ty sub a ks) :
    Calls Tryz.prog 40 #[Kd.kindV ty sub a n c] w fun e w' => ∃ s b, e = .returned (.tuple #[.string s, .bool b]) ∧ Below w.heap.size w w' ∧ (b = true → bord (knOf ty sub ks) = some (nums s)) ∧ (b = false → bord (knOf ty sub ks) = none) ∧ s.size ≤ 1000000000 := by
  have hk := keep w (.cells #[.string ty, .string sub, .slice a n c] 39)
  have hg := Kd.get_any ty sub a n c ⟨#[98, 111, 117, 110, 100, 97, 114, 121]⟩ ks (w.alloc (.cells #[.string ty, .string sub, .slice a n c] 39)) hn (by have := h.2.2.2.2; omega) (h.1.below hk)
  obtain ⟨s, hs⟩ : ∃ s, (Kd.getZ (nums ⟨#[98, 111, 117, 110, 100, 97, 114, 121]⟩) ks).1 = s := ⟨_, rfl⟩
  obtain ⟨b0, hb0⟩ : ∃ b0, (Kd.getZ (nums ⟨#[98, 111, 117, 110, 100, 97, 114, 121]⟩) ks).2 = b0 := ⟨_, rfl⟩
  have hge : getL bdZ (Kd.numsP ks) = nums s := by rw [← hs]; exact (get_list _ ks).symm
  have hsz : s.size ≤ 1000000000 := by
    rw [← hs]
    exact get_small _ ks h.2.2.2.1
  rw [hs, hb0] at hg
  have HBO : Hid (bord (knOf ty sub ks) = if (nums s).all bC = true ∧ nums s ≠ [] ∧ (nums s).length ≤ 70 then some (nums s) else none) := by
    unfold Hid bord knOf; rw [hge]
  clear hs hb0 hge
  unfold Kd.kindV at hg ⊢
  have HC : Hid (((w.alloc (.cells #[.string ty, .string sub, .slice a n c] 39)).heap[w.heap.size]? = some (.cells #[.string ty, .string sub, .slice a n c] 39 (0, 0)))) := heap_alloc_last w _
  obtain ⟨c0, c1, c2⟩ := cells3 HC.out
  go_enter Tryz.func40, Tryz.ntmps40
  go_wp2_with fail
  refine hg.mono ?_
  rintro e w1 ⟨rfl, hb1⟩
  have HB1 : Hid (Below w.heap.size w w1) := hk.trans (hb1.mono (by simp))
  clear hg hb1 hk c0 c1 c2 HC
  go_wp2
  go_loopw [14, 6] (fun i _ wr => ∃ k : Nat, i = .int .i64 k ∧ k ≤ s.size ∧ ((nums s).take k).all bC = true ∧ w1 = wr) (fun i _ _ => s.size - (intOf i).toNat)
  case atStart => exact ⟨0, rfl, by omega, rfl, rfl⟩
  case round =>
    obtain ⟨k, rfl, hk, hall, rfl⟩ := hrel
    have HA : Hid (((nums s).take k).all bC = true) := hall
    clear hall
    by_cases hlt : k < s.size
    · have hc1 : (s[k].toNat : Int) < 256 := by have := s[k].toNat_lt; omega
      have hc0 : (0 : Int) ≤ (s[k].toNat : Int) := by omega
      have HT : Hid ((nums s)[k]? = some (s[k].toNat : Int)) := nums_at s k hlt
      have hib := inBorder_any (s[k].toNat : Int) w1 hc0 hc1
      obtain ⟨ch, hc⟩ : ∃ ch : Int, ((s[k]'hlt).toNat : Int) = ch := ⟨_, rfl⟩
      rw [hc] at HT hc1 hc0 hib
      cases hbc : bC ch with
      | true =>
        rw [hbc] at hib
        have HA2 : Hid (((nums s).take (k + 1)).all bC = true) := by unfold Hid; rw [all_take bC _ k ch HT.out, HA.out, hbc]; rfl
        clear hbc
        go_wp2_with (go_at_call 76; refine hib.mono ?_; rintro e w2 ⟨rfl, rfl⟩)
        go_roundw
        case rel => exact ⟨k + 1, by go_num, by omega, HA2.out, by first | trivial | rfl⟩
        case measure => simp [intOf]; omega
      | false =>
        rw [hbc] at hib
        have HN : Hid (bord (knOf ty sub ks) = none) := by
          unfold Hid; rw [HBO.out, if_neg]
          rintro ⟨q, _⟩
          rw [all_bad bC _ k ch HT.out hbc] at q; cases q
        clear hbc
        go_wp2_with (go_at_call 76; refine hib.mono ?_; rintro e w2 ⟨rfl, rfl⟩)
        go_ret2
        exact ⟨⟨#[]⟩, false, rfl, HB1.out, fun q => (by cases q), fun _ => HN.out, by decide⟩
    · have HAA : Hid ((nums s).all bC = true) := by
        have := HA.out
        rw [List.take_of_length_le (by rw [nums_len]; omega)] at this
        exact this
      have hnl := nums_len s
      by_cases h0 : s.size = 0
      · have hes : s = ⟨#[]⟩ := by
          apply nums_inj
          rw [List.eq_nil_of_length_eq_zero (show (nums s).length = 0 by omega)]; rfl
        subst hes
        have HN : Hid (bord (knOf ty sub ks) = none) := by
          unfold Hid; rw [HBO.out, if_neg]
          rintro ⟨_, q, _⟩; exact q rfl
        clear hnl
        go_wp2
        go_ret2
        exact ⟨⟨#[]⟩, false, rfl, HB1.out, fun q => (by cases q), fun _ => HN.out, by decide⟩
      · have hne : nums s ≠ [] := by intro e; rw [e] at hnl; simp at hnl; omega
        have hse : (s.toList == (⟨#[]⟩ : ByteArray).toList) = false := by
          rw [eq_nums, decide_eq_false]
          intro e; exact hne e
        have hse2 : ¬ s.toList = (⟨#[]⟩ : ByteArray).toList := by simpa using hse
        have hse3 : ¬ s.toList = [] := by
          intro e; apply hse2; rw [e, ByteArray.toList_eq]
        by_cases h70 : s.size ≤ 70
        · have HS : Hid (bord (knOf ty sub ks) = some (nums s)) := by
            unfold Hid; rw [HBO.out, if_pos ⟨HAA.out, hne, by omega⟩]
          clear hnl
          go_wp2
          go_ret2
          exact ⟨s, true, by first | rfl | (simp; exact ⟨hse3, by omega⟩), HB1.out, fun _ => HS.out, fun q => (by cases q), hsz⟩
        · have HN : Hid (bord (knOf ty sub ks) = none) := by
            unfold Hid; rw [HBO.out, if_neg]
            rintro ⟨_, _, q⟩; omega
          clear hnl
          go_wp2
          go_ret2
          exact ⟨s, false, by first | rfl | (simp; intro _; omega), HB1.out, fun q => (by cases q), fun _ => HN.out, hsz⟩
theorem read_len {l : List Int} {k : Kn} (h : Kd.readR l = some k) : k.2.2.length ≤ 16 := by
  unfold Kd.readR at h
  split at h
  · cases h
  · rename_i z _
    split at h
    · rename_i hr
      cases h
      unfold Kd.rightZ at hr
      simp only [Bool.and_eq_true, decide_eq_true_eq] at hr
      exact hr.1.2
    · cases h
/-- Fields of a size that the contracts take. -/
def FitF (fs : List (ByteArray × ByteArray)) : Prop := fs.length ≤ 1000 ∧ ∀ f ∈ fs, f.1.size ≤ 1048576 ∧ f.2.size ≤ 1048576
theorem get_fit (nm : List Int) : ∀ (fs : List (ByteArray × ByteArray)) (v : ByteArray) (n : Nat), (∀ f ∈ fs, f.2.size ≤ 1048576) → v.size ≤ 1048576 → (getZ nm fs v n).1.size ≤ 1048576 ∧ (getZ nm fs v n).2 ≤ n + fs.length
  | [], v, n, _, h => ⟨h, by simp [getZ]⟩
  | f :: r, v, n, h, hv => by
    unfold getZ
    split
    · have := get_fit nm r (if n = 0 then f.2 else v) (n + 1) (fun g hg => h g (by simp [hg])) (by split; exact h f (by simp); exact hv)
      exact ⟨this.1, by rw [List.length_cons]; omega⟩
    · have := get_fit nm r v n (fun g hg => h g (by simp [hg])) hv
      exact ⟨this.1, by rw [List.length_cons]; omega⟩
/-- What Kind answers. -/
def KPost (w : World) (fs : List (ByteArray × ByteArray)) (e : Ending) (w' : World) : Prop :=
  ∃ ty sub a cap ks c, e = .returned (.tuple #[Kd.kindV ty sub a ks.length cap, .int .i64 c]) ∧ KAt w' ty sub a ks ∧ Below w.heap.size w w' ∧ ((c = 0 ∧ knd fs = some (knOf ty sub ks)) ∨ (c ≠ 0 ∧ c = errK fs ∧ knd fs = none))
theorem kind_ret {w W : World} {R : Nat} {ty sub : ByteArray} {a : Option Addr} {n cap : Nat} {ks fs : List (ByteArray × ByteArray)} {c : Int} {A : Act} {x y z : Value} (hn : ks.length = n) (hR : W.heap[R]? = some (.cells #[x, y, z] 39 (0, 0))) (hb : Below w.heap.size w W) (hRw : w.heap.size ≤ R) (hk : KAt W ty sub a ks) (hne : ∀ x, a = some x → ks ≠ [] → x.block ≠ R)
    (hans : (c = 0 ∧ knd fs = some (knOf ty sub ks)) ∨ (c ≠ 0 ∧ c = errK fs ∧ knd fs = none)) (hd : A.defers = []) (h2 : A.tmps[2]?.getD undef = .pointer (some ⟨R, 0, none⟩)) (h3 : A.tmps[3]?.getD undef = .int .i64 c) :
    bodyPost Tryz.prog Tryz.f18 (KPost w fs) .ret A (Kd.finW W R ty sub (.slice a n cap)) := by
  obtain ⟨c0, c1, c2⟩ := Kd.fin_cells hR ty sub (.slice a n cap)
  have hfb := Kd.fin_below hb hRw ty sub (.slice a n cap)
  have hfr := Kd.fin_row hR ty sub (.slice a n cap) hk.1 hne
  subst hn
  refine bodyPost_ret (v := .tuple #[Kd.kindV ty sub a ks.length cap, .int .i64 c]) ?_ hd ⟨ty, sub, a, cap, ks, c, rfl, ⟨hfr, hk.2⟩, hfb, hans⟩
  simp [results, Tryz.results18, go_sem, c0, c1, c2, h2, h3, Kd.kindV]
theorem kat_nil (W : World) {ty sub : ByteArray} (h1 : ty.size ≤ 100) (h2 : sub.size ≤ 100) : KAt W ty sub none [] := ⟨.inl rfl, by unfold Kd.Small; omega, by unfold Kd.Small; omega, fun f hf => (by cases hf), by simp⟩
def partV (vf vb vp : Value) : Value := .agg #[vf, vb, vp]
set_option maxHeartbeats 4000000 in
set_option maxRecDepth 100000 in
theorem kind_any (a : Option Addr) (n c : Nat) (vb vp : Value) (fs : List (ByteArray × ByteArray)) (w : World) (hn : fs.length = n) (hr : FRow w a fs) (hf : FitF fs) (hvb : vb.oneCell' = true) (hvp : vp.oneCell' = true) :
    Calls Tryz.prog 18 #[partV (.slice a n c) vb vp] w (KPost w fs) := by
  have hk0 := keep w (.cells #[.slice a n c, vb, vp] 28)
  have hk1 := keep (w.alloc (.cells #[.slice a n c, vb, vp] 28)) (.cells #[.string ⟨#[]⟩, .string ⟨#[]⟩, .slice none 0 0] 39)
  have hk : Below w.heap.size w ((w.alloc (.cells #[.slice a n c, vb, vp] 28)).alloc (.cells #[.string ⟨#[]⟩, .string ⟨#[]⟩, .slice none 0 0] 39)) := hk0.trans (hk1.mono (by simp))
  have hR0 : ((w.alloc (.cells #[.slice a n c, vb, vp] 28)).alloc (.cells #[.string ⟨#[]⟩, .string ⟨#[]⟩, .slice none 0 0] 39)).heap[w.heap.size + 1]? = some (.cells #[.string ⟨#[]⟩, .string ⟨#[]⟩, .slice none 0 0] 39 (0, 0)) := by
    have := heap_alloc_last (w.alloc (.cells #[.slice a n c, vb, vp] 28)) (.cells #[.string ⟨#[]⟩, .string ⟨#[]⟩, .slice none 0 0] 39)
    rwa [World.size_alloc] at this
  have hP0 : ((w.alloc (.cells #[.slice a n c, vb, vp] 28)).alloc (.cells #[.string ⟨#[]⟩, .string ⟨#[]⟩, .slice none 0 0] 39)).heap[w.heap.size]? = some (.cells #[.slice a n c, vb, vp] 28 (0, 0)) := by
    rw [Below.heap_alloc _ _ _ (by simp)]; exact heap_alloc_last w _
  obtain ⟨p0, _, _⟩ := cells3 hP0
  have hg := get_any a n c ctB fs _ hn (by have := hf.1; omega) (hr.below hk) (fun f h => by have := (hf.2 f h).1; omega)
  obtain ⟨hgz1, hgz2⟩ := get_fit (nums ctB) fs ⟨#[]⟩ 0 (fun f h => (hf.2 f h).2) (by decide)
  have HK : Hid (knd fs = if (getZ (nums ctB) fs ⟨#[]⟩ 0).2 = 0 then some ([116, 101, 120, 116], [112, 108, 97, 105, 110], []) else if (getZ (nums ctB) fs ⟨#[]⟩ 0).2 = 1 then Kd.readR (nums (getZ (nums ctB) fs ⟨#[]⟩ 0).1) else none) := rfl
  have HE : Hid (errK fs = if (getZ (nums ctB) fs ⟨#[]⟩ 0).2 = 1 then 70 else 81) := rfl
  obtain ⟨v, hv⟩ : ∃ v, (getZ (nums ctB) fs ⟨#[]⟩ 0).1 = v := ⟨_, rfl⟩
  obtain ⟨g, hgg⟩ : ∃ g, (getZ (nums ctB) fs ⟨#[]⟩ 0).2 = g := ⟨_, rfl⟩
  rw [hv] at hg HK hgz1
  rw [hgg] at hg HK HE hgz2
  unfold ctB at hg
  have hf1 := hf.1
  clear hv hgg hk0 hk1 hf
  go_enter Tryz.func18, Tryz.ntmps18
  unfold partV
  go_wp2_with fail
  refine hg.mono ?_
  rintro e w1 ⟨rfl, hb1⟩
  have HR1 : Hid (w1.heap[w.heap.size + 1]? = some (.cells #[.string ⟨#[]⟩, .string ⟨#[]⟩, .slice none 0 0] 39 (0, 0))) := (hb1.block _ (by simp)).trans hR0
  have HB1 : Hid (Below w.heap.size w w1) := hk.trans (hb1.mono (by simp; omega))
  obtain ⟨r0, r1, r2⟩ := cells3 HR1.out
  have f0 := free3 HR1.out 0
  have f1 := free3 HR1.out 1
  have f2 := free3 HR1.out 2
  clear hg hb1 hk hR0 hP0 p0
  by_cases h0 : g = 0
  · subst h0
    have HN : Hid (knd fs = some (knOf ⟨#[116, 101, 120, 116]⟩ ⟨#[112, 108, 97, 105, 110]⟩ [])) := HK.out
    go_wp2
    (try simp only [Exit.inBlock, Exit.then])
    exact kind_ret rfl HR1.out HB1.out (by omega) (kat_nil w1 (by decide) (by decide)) (fun x hx => by cases hx) (.inl ⟨rfl, HN.out⟩) rfl rfl rfl
  · by_cases h1 : g = 1
    · subst h1
      have HN : Hid (knd fs = Kd.readR (nums v)) := HK.out
      have HEE : Hid (errK fs = 70) := HE.out
      have hrd := Kd.read_any v w1 (by omega)
      clear r0 r1 r2 f0 f1 f2
      go_wp2_with fail
      refine hrd.mono ?_
      rintro e w2 ⟨ty, sub, ka, kc, ks, c2, rfl, hkf, hkb, hks, hb2, hans⟩
      have hlt := (Array.getElem?_eq_some_iff.1 HR1.out).1
      have HR2 : Hid (w2.heap[w.heap.size + 1]? = some (.cells #[.string ⟨#[]⟩, .string ⟨#[]⟩, .slice none 0 0] 39 (0, 0))) := (hb2.block _ hlt).trans HR1.out
      have HB2 : Hid (Below w.heap.size w w2) := HB1.out.trans (hb2.mono HB1.out.size)
      have HANS : Hid ((c2 = 0 ∧ knd fs = some (knOf ty sub ks)) ∨ (c2 ≠ 0 ∧ c2 = errK fs ∧ knd fs = none)) := by
        rcases hans with ⟨h1, h2, _⟩ | ⟨h1, h2⟩
        · exact .inr ⟨by omega, by rw [h2, HEE.out], by rw [HN.out, h1]⟩
        · exact .inl ⟨h2, by rw [HN.out, h1]; rfl⟩
      have hkl : ks.length ≤ 1000 := by
        rcases hans with ⟨_, _, _, _, rfl⟩ | ⟨h1, h2⟩
        · simp
        · have := read_len h1
          simp [Kd.numsP] at this; omega
      have HKA : Hid (KAt w2 ty sub ka ks) := ⟨hkf, hks.1, hks.2.1, hks.2.2, hkl⟩
      have HKB : Hid (∀ x, ka = some x → ks ≠ [] → x.block ≠ w.heap.size + 1) := fun x hx _ => by have := hkb x hx; omega
      obtain ⟨r0, r1, r2⟩ := cells3 HR2.out
      have f0 := free3 HR2.out 0
      have f1 := free3 HR2.out 1
      have f2 := free3 HR2.out 2
      obtain ⟨kl, hkle⟩ : ∃ kl, ks.length = kl := ⟨_, rfl⟩
      unfold Kd.kindV
      rw [hkle]
      have HKL : Hid (ks.length = kl) := hkle
      clear hrd hkf hkb hks hb2 hans hkl hkle
      go_wp2
      (try simp only [Exit.inBlock, Exit.then])
      exact kind_ret HKL.out HR2.out HB2.out (by omega) HKA.out HKB.out HANS.out rfl rfl rfl
    · have HN : Hid (knd fs = none) := by unfold Hid; rw [HK.out, if_neg h0, if_neg h1]
      have HEE : Hid (errK fs = 81) := by unfold Hid; rw [HE.out, if_neg h1]
      have e0 : ((g : Int) == 0) = false := by rw [beq_eq_false_iff_ne]; omega
      have e1 : ((g : Int) == 1) = false := by rw [beq_eq_false_iff_ne]; omega
      clear h0 h1
      go_wp2
      (try simp only [Exit.inBlock, Exit.then])
      exact kind_ret rfl HR1.out HB1.out (by omega) (kat_nil w1 (by decide) (by decide)) (fun x hx => by cases hx) (.inr ⟨by decide, HEE.out.symm, HN.out⟩) rfl rfl rfl
end Go.Proofs.YtmdkmedlncfcbaaGreatDoor
