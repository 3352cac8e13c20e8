/-
  The contract of Next, over whatever text.
-/
import Derived.Test.YtfhgkkdbkbbpkaaDoorCUNext
import Derived.Test.YtfhgkkdbkbbpkaaDoorCUDec
namespace Go.Proofs.YtfhgkkdbkbbpkaaDoor.Cs.Ut
open Go.RowKit
set_option linter.unusedVariables false

/-- What lies where a slice of bytes begins. -/
def Row (w : World) (a : Option Addr) (l : List Int) : Prop :=
  l = [] ∨ ∃ b off, a = some ⟨b, off, none⟩ ∧ ∀ i, i < l.length → w.cell? ⟨b, off + i, none⟩ = some (.int .u8 (l.getD i 0))

set_option maxRecDepth 100000 in
theorem next_nil (a : Option Addr) (cap : Nat) (w : World) :
    Calls Tryd.prog 65 #[.slice a 0 cap] w fun e w' => e = .returned (.tuple #[.int .i32 0, .int .i64 0, .int .i64 42]) ∧ w = w' := by
  go_enter Tryd.func65, Tryd.ntmps65
  go_wp2
  go_step3
  go_wp2
  (try rw [Exit.noGoto_ret])
  go_ret3
  exact ⟨rfl, rfl⟩

set_option maxRecDepth 100000 in
theorem next_some (a : Option Addr) (len cap : Nat) (l : List Int) (p : Int) (w : World) (hlen : l.length = len) (hl : Byt l) (hcap : len ≤ cap) (hm : cap ≤ maxLen) (hr : Row w a l) (hd : decZ l = some p) :
    Calls Tryd.prog 65 #[.slice a len cap] w fun e w' => e = .returned (.tuple #[.int .i32 p, .int .i64 (encZ p).length, .int .i64 0]) ∧ w = w' := by
  rcases hr with rfl | ⟨b, off, rfl, hc⟩
  · simp [decZ] at hd
  · cases l with
    | nil => simp [decZ] at hd
    | cons c r =>
      have hcb := hl.head
      have c0 := hc 0 (by simp)
      simp only [Nat.add_zero, List.getD_cons_zero] at c0
      have h := hd
      clear hd
      dsimp only [decZ] at h
      by_cases h1 : c < 128
      · rw [if_pos h1] at h
        obtain rfl : c = p := by simpa using h
        rw [enc1 h1]
        exact next1 b off len cap c w hcb.1 h1 (size_one hcb.1 h1) (by simp at hlen; omega) hcap hm c0
      · rw [if_neg h1] at h
        by_cases h2 : c < 192
        · rw [if_pos h2] at h; simp at h
        · rw [if_neg h2] at h
          by_cases h3 : c < 224
          · rw [if_pos h3] at h
            match r, hlen, hc, h with
            | [], _, _, h => simp at h
            | d :: r, hlen, hc, h =>
              simp only [Option.ite_none_right_eq_some, Bool.and_eq_true, decide_eq_true_eq, Option.some.injEq, conB] at h
              obtain ⟨⟨hd, hs⟩, rfl⟩ := h
              have hp := size_pt (n := 2) (by omega) hs
              rw [hp.2]
              exact next2 b off len cap c d w (by omega) h3 hd.1 hd.2 hs (by simp at hlen; omega) hcap hm c0 (hc 1 (by simp))
          · rw [if_neg h3] at h
            by_cases h4 : c < 240
            · rw [if_pos h4] at h
              match r, hlen, hc, h with
              | [], _, _, h => simp at h
              | [d], _, _, h => simp at h
              | d :: g :: r, hlen, hc, h =>
                simp only [Option.ite_none_right_eq_some, Bool.and_eq_true, decide_eq_true_eq, Option.some.injEq, conB] at h
                obtain ⟨⟨⟨hd, hg⟩, hs⟩, rfl⟩ := h
                have hp := size_pt (n := 3) (by omega) hs
                rw [hp.2]
                exact next3 b off len cap c d g w (by omega) h4 hd.1 hd.2 hg.1 hg.2 hs (by simp at hlen; omega) hcap hm c0 (hc 1 (by simp)) (hc 2 (by simp))
            · rw [if_neg h4] at h
              by_cases h5 : c < 248
              · rw [if_pos h5] at h
                match r, hlen, hc, h with
                | [], _, _, h => simp at h
                | [d], _, _, h => simp at h
                | [d, g], _, _, h => simp at h
                | d :: g :: k :: r, hlen, hc, h =>
                  simp only [Option.ite_none_right_eq_some, Bool.and_eq_true, decide_eq_true_eq, Option.some.injEq, conB] at h
                  obtain ⟨⟨⟨⟨hd, hg⟩, hk⟩, hs⟩, rfl⟩ := h
                  have hp := size_pt (n := 4) (by omega) hs
                  rw [hp.2]
                  exact next4 b off len cap c d g k w (by omega) h5 hd.1 hd.2 hg.1 hg.2 hk.1 hk.2 hs (by simp at hlen; omega) hcap hm c0 (hc 1 (by simp)) (hc 2 (by simp)) (hc 3 (by simp))
              · rw [if_neg h5] at h; simp at h

set_option maxRecDepth 100000 in
theorem con_no {d : Int} (h : ¬ (128 ≤ d ∧ d < 192)) : d < 128 ∨ 192 ≤ d := by omega

set_option maxRecDepth 100000 in
theorem next_none (a : Option Addr) (len cap : Nat) (l : List Int) (w : World) (hlen : l.length = len) (hl : Byt l) (hcap : len ≤ cap) (hm : cap ≤ maxLen) (hr : Row w a l) (hne : l ≠ []) (hd : decZ l = none) :
    Calls Tryd.prog 65 #[.slice a len cap] w fun e w' => e = .returned (.tuple #[.int .i32 0, .int .i64 0, .int .i64 20]) ∧ w = w' := by
  rcases hr with rfl | ⟨b, off, rfl, hc⟩
  · exact absurd rfl hne
  · cases l with
    | nil => exact absurd rfl hne
    | cons c r =>
      have hcb := hl.head
      have c0 := hc 0 (by simp)
      simp only [Nat.add_zero, List.getD_cons_zero] at c0
      have h := hd
      have h1l : 1 ≤ len := by simp at hlen; omega
      dsimp only [decZ] at h
      by_cases h1 : c < 128
      · rw [if_pos h1] at h; simp at h
      · rw [if_neg h1] at h
        by_cases h2 : c < 192
        · exact nextf0 b off len cap c w (.inl ⟨by omega, h2⟩) h1l hcap hm c0
        · rw [if_neg h2] at h
          by_cases h3 : c < 224
          · rw [if_pos h3] at h
            match r, hl, hlen, hc, h with
            | [], _, hlen, _, h => exact nexts2 b off len cap c w (by omega) h3 h1l (by simp at hlen; omega) hcap hm c0
            | d :: r, hl, hlen, hc, h =>
              have hdb := hl.tail.head
              by_cases hd : 128 ≤ d ∧ d < 192
              · by_cases hs : sizeZ (c % 32 * 64 + d % 64) = 2
                · simp [conB, hd, hs] at h
                · exact nextz2 b off len cap c d w (by omega) h3 hd.1 hd.2 hs (by simp at hlen; omega) hcap hm c0 (hc 1 (by simp))
              · exact nextb2d b off len cap c d w (by omega) h3 hdb.1 hdb.2 (con_no hd) (by simp at hlen; omega) hcap hm c0 (hc 1 (by simp))
          · rw [if_neg h3] at h
            by_cases h4 : c < 240
            · rw [if_pos h4] at h
              match r, hl, hlen, hc, h with
              | [], _, hlen, _, h => exact nexts3 b off len cap c w (by omega) h4 h1l (by simp at hlen; omega) hcap hm c0
              | [d], _, hlen, _, h => exact nexts3 b off len cap c w (by omega) h4 h1l (by simp at hlen; omega) hcap hm c0
              | d :: g :: r, hl, hlen, hc, h =>
                have hdb := hl.tail.head
                have hgb := hl.tail.tail.head
                by_cases hd : 128 ≤ d ∧ d < 192
                · by_cases hg : 128 ≤ g ∧ g < 192
                  · by_cases hs : sizeZ ((c % 16 * 64 + d % 64) * 64 + g % 64) = 3
                    · simp [conB, hd, hg, hs] at h
                    · exact nextz3 b off len cap c d g w (by omega) h4 hd.1 hd.2 hg.1 hg.2 hs (by simp at hlen; omega) hcap hm c0 (hc 1 (by simp)) (hc 2 (by simp))
                  · exact nextb3g b off len cap c d g w (by omega) h4 hd.1 hd.2 hgb.1 hgb.2 (con_no hg) (by simp at hlen; omega) hcap hm c0 (hc 1 (by simp)) (hc 2 (by simp))
                · exact nextb3d b off len cap c d w (by omega) h4 hdb.1 hdb.2 (con_no hd) (by simp at hlen; omega) hcap hm c0 (hc 1 (by simp))
            · rw [if_neg h4] at h
              by_cases h5 : c < 248
              · rw [if_pos h5] at h
                match r, hl, hlen, hc, h with
                | [], _, hlen, _, h => exact nexts4 b off len cap c w (by omega) h5 h1l (by simp at hlen; omega) hcap hm c0
                | [d], _, hlen, _, h => exact nexts4 b off len cap c w (by omega) h5 h1l (by simp at hlen; omega) hcap hm c0
                | [d, g], _, hlen, _, h => exact nexts4 b off len cap c w (by omega) h5 h1l (by simp at hlen; omega) hcap hm c0
                | d :: g :: k :: r, hl, hlen, hc, h =>
                  have hdb := hl.tail.head
                  have hgb := hl.tail.tail.head
                  have hkb := hl.tail.tail.tail.head
                  by_cases hd : 128 ≤ d ∧ d < 192
                  · by_cases hg : 128 ≤ g ∧ g < 192
                    · by_cases hk : 128 ≤ k ∧ k < 192
                      · by_cases hs : sizeZ (((c % 8 * 64 + d % 64) * 64 + g % 64) * 64 + k % 64) = 4
                        · simp [conB, hd, hg, hk, hs] at h
                        · exact nextz4 b off len cap c d g k w (by omega) h5 hd.1 hd.2 hg.1 hg.2 hk.1 hk.2 hs (by simp at hlen; omega) hcap hm c0 (hc 1 (by simp)) (hc 2 (by simp)) (hc 3 (by simp))
                      · exact nextb4k b off len cap c d g k w (by omega) h5 hd.1 hd.2 hg.1 hg.2 hkb.1 hkb.2 (con_no hk) (by simp at hlen; omega) hcap hm c0 (hc 1 (by simp)) (hc 2 (by simp)) (hc 3 (by simp))
                    · exact nextb4g b off len cap c d g w (by omega) h5 hd.1 hd.2 hgb.1 hgb.2 (con_no hg) (by simp at hlen; omega) hcap hm c0 (hc 1 (by simp)) (hc 2 (by simp))
                  · exact nextb4d b off len cap c d w (by omega) h5 hdb.1 hdb.2 (con_no hd) (by simp at hlen; omega) hcap hm c0 (hc 1 (by simp))
              · exact nextf0 b off len cap c w (.inr ⟨by omega, by omega⟩) h1l hcap hm c0
end Go.Proofs.YtfhgkkdbkbbpkaaDoor.Cs.Ut
