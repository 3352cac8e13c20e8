/-
  Which piece a Name is: the contracts of LastIndex, numberOf and pieceOf.
-/
import Derived.Test.YtfhgkkdbkbbpkaaDoorCutp
import Derived.Test.YtfhgkkdbkbbpkaaDoorEm
namespace Go.Proofs.YtfhgkkdbkbbpkaaDoor
open Go.RowKit
set_option linter.unusedVariables false
set_option linter.unusedSimpArgs false

def lastZ (c : Int) : List Int → Int
  | [] => -1
  | x :: r => if 0 ≤ lastZ c r then lastZ c r + 1 else if x = c then 0 else -1
theorem last_ge (c : Int) : ∀ l, -1 ≤ lastZ c l ∧ lastZ c l < l.length
  | [] => by simp [lastZ]
  | x :: r => by
    have := last_ge c r
    simp only [lastZ, List.length_cons]
    split
    · omega
    · split <;> omega
theorem last_snoc (c x : Int) : ∀ l, lastZ c (l ++ [x]) = if x = c then (l.length : Int) else lastZ c l
  | [] => by simp [lastZ]
  | y :: r => by
    have := last_ge c r
    simp only [List.cons_append, lastZ, last_snoc c x r]
    by_cases e : x = c
    · simp [e]
    · simp [e]
set_option maxRecDepth 100000 in
theorem lastByte_any (s : ByteArray) (c : Int) (w : World) (h0 : 0 ≤ c) (h1 : c < 256) (hs : s.size ≤ 1000000000) :
    Calls Tryd.prog 73 #[.string s, .int .u8 c] w fun e w' => e = .returned (.int .i64 (lastZ c (nums s))) ∧ w = w' := by
  obtain ⟨n, hn⟩ : ∃ n, s.size = n := ⟨_, rfl⟩
  go_enter Tryd.func73, Tryd.ntmps73
  go_wp2
  go_loopw [5] (fun i wr => ∃ k : Nat, i = .int .i64 ((k : Int) - 1) ∧ k ≤ n ∧ wr = w ∧ Hid (lastZ c (nums s) = lastZ c ((nums s).take k))) (fun i _ => (intOf i + 1).toNat)
  case atStart => exact ⟨n, rfl, by omega, rfl, by unfold Hid; rw [List.take_of_length_le (by rw [nums_len]; omega)]⟩
  case round =>
    obtain ⟨k, rfl, hk, rfl, HZ⟩ := hrel
    cases k with
    | zero =>
      have dl : decide ((0 : Int) - 1 ≥ 0) = false := by decide
      have HR : Hid (lastZ c (nums s) = -1) := HZ.out.trans rfl
      go_wp2
      go_ret
      exact ⟨ret_int HR.out.symm, rfl⟩
    | succ k =>
      have e0 : ((k + 1 : Nat) : Int) - 1 = (k : Int) := by omega
      rw [e0]
      have dl : decide ((k : Int) ≥ 0) = true := decide_eq_true (by omega)
      have hks : k < s.size := by omega
      have k1 : (k : Int) < (s.size : Int) := by omega
      have ht : (nums s).take (k + 1) = (nums s).take k ++ [(s[k].toNat : Int)] := by
        have h1 := nums_at s k hks
        rw [List.take_add_one, h1]; rfl
      have hz := HZ.out
      rw [ht, last_snoc, List.length_take, nums_len, Nat.min_eq_left (by omega)] at hz
      by_cases hq : (s[k].toNat : Int) = c
      · have d0 : ((s[k].toNat : Int) == c) = true := by simpa using hq
        have HR : Hid (lastZ c (nums s) = (k : Int)) := by unfold Hid; rw [hz, if_pos hq]
        clear ht hz HZ
        go_wp2
        go_ret
        exact ⟨ret_int HR.out.symm, rfl⟩
      · have d0 : ((s[k].toNat : Int) == c) = false := by simpa using hq
        have HR : Hid (lastZ c (nums s) = lastZ c ((nums s).take k)) := by unfold Hid; rw [hz, if_neg hq]
        clear ht hz HZ
        go_wp2
        go_roundw
        case rel => exact ⟨k, rfl, by omega, trivial, HR⟩
        case measure => simp [intOf]
theorem lastIndex_any (s : ByteArray) (u : UInt8) (w : World) (hs : s.size ≤ 1000000000) :
    Calls Tryd.prog 56 #[.string s, .string ⟨#[u]⟩] w fun e w' => e = .returned (.int .i64 (lastZ (u.toNat : Int) (nums s))) ∧ w = w' := by
  have h1 : (⟨#[u]⟩ : ByteArray).size = 1 := rfl
  have hu := u.toNat_lt
  have K : ∀ V, Calls Tryd.prog 73 #[.string s, .int .u8 (u.toNat : Int)] V fun e w' => e = .returned (.int .i64 (lastZ (u.toNat : Int) (nums s))) ∧ V = w' := fun V => lastByte_any s _ V (by omega) (by omega) hs
  have hg : ∀ h, ((⟨#[u]⟩ : ByteArray)[0]'h) = u := fun _ => rfl
  obtain ⟨q, hq⟩ : ∃ q, lastZ (u.toNat : Int) (nums s) = q := ⟨_, rfl⟩
  rw [hq] at K ⊢
  clear hq
  go_enter Tryd.func56, Tryd.ntmps56
  go_wp2_with (go_at_call 73; refine (K _).mono ?_; rintro e w' ⟨rfl, rfl⟩)
  go_ret
  exact ⟨rfl, rfl⟩
def digB (a : Int) : Bool := decide (48 ≤ a ∧ a ≤ 57)
def numZ : List Int → Int
  | [a] => if digB a then a - 48 else -1
  | [a, b] => if a ≠ 48 ∧ digB a ∧ digB b then (a - 48) * 10 + (b - 48) else -1
  | _ => -1
theorem num_ge (l : List Int) : -1 ≤ numZ l ∧ numZ l ≤ 99 := by
  unfold numZ
  split
  · split
    · rename_i h; unfold digB at h; simp at h; omega
    · omega
  · split
    · rename_i h; unfold digB at h; simp at h; omega
    · omega
  · omega
set_option maxRecDepth 100000 in
set_option maxHeartbeats 4000000 in
theorem numberOf_any (s : ByteArray) (w : World) (hs : s.size ≤ 1000000000) : Calls Tryd.prog 57 #[.string s] w fun e w' => e = .returned (.int .i64 (numZ (nums s))) ∧ w = w' := by
  have en := eq_nums s ⟨#[]⟩
  have e48 := eq_nums s ⟨#[48]⟩
  rw [show nums (⟨#[]⟩ : ByteArray) = [] from rfl, ByteArray.toList_eq (⟨#[]⟩)] at en
  rw [show nums (⟨#[48]⟩ : ByteArray) = [48] from rfl, ByteArray.toList_eq (⟨#[48]⟩)] at e48
  simp only at en e48
  have hln := nums_len s
  by_cases h0 : s.size = 0
  · have hz : nums s = [] := List.length_eq_zero_iff.1 (by omega)
    have HR : Hid (numZ (nums s) = -1) := by unfold Hid; rw [hz]; rfl
    rw [hz] at en
    have en2 : s.toList = [] := by simpa using en
    clear en e48 hln hz
    go_enter Tryd.func57, Tryd.ntmps57
    go_wp2
    go_ret
    exact ⟨ret_int HR.out.symm, rfl⟩
  · have en2 : s.toList.isEmpty = false := by
      cases hq : s.toList with
      | nil =>
        rw [hq] at en
        simp at en
        rw [en] at hln
        simp at hln
        omega
      | cons x r => rfl
    clear en
    by_cases h3 : 2 < s.size
    · have HR : Hid (numZ (nums s) = -1) := by
        unfold Hid numZ
        split
        · rename_i h; rw [h] at hln; simp at hln; omega
        · rename_i h; rw [h] at hln; simp at hln; omega
        · rfl
      have d3 : decide ((s.size : Int) > 2) = true := decide_eq_true (by omega)
      clear e48 hln
      go_enter Tryd.func57, Tryd.ntmps57
      go_wp2
      go_ret
      exact ⟨ret_int HR.out.symm, rfl⟩
    · have d3 : decide ((s.size : Int) > 2) = false := decide_eq_false (by omega)
      have hs0 : 0 < s.size := by omega
      have i0 : (0 : Int) < (s.size : Int) := by omega
      obtain ⟨a, ha⟩ : ∃ a : Int, (s[0].toNat : Int) = a := ⟨_, rfl⟩
      have ha0 : 0 ≤ a ∧ a < 256 := by have := s[0].toNat_lt; omega
      have hd0 := nums_drop s 0 hs0
      rw [List.drop_zero, ha] at hd0
      by_cases h1 : s.size = 1
      · have hz : nums s = [a] := by rw [hd0, List.drop_of_length_le (by omega)]
        rw [hz] at e48
        by_cases hg : 48 ≤ a ∧ a ≤ 57
        · have HR : Hid (numZ (nums s) = a - 48) := by unfold Hid; rw [hz]; simp only [numZ]; rw [if_pos (by unfold digB; simpa using hg)]
          by_cases h48 : a = 48
          · subst h48
            have e482 : s.toList = [48] := by simpa using e48
            clear e48 hd0 hz hln
            go_enter Tryd.func57, Tryd.ntmps57
            go_wp2
            refine wp_loop_rounds 2 ?_
            rw [rounds_succ]
            go_wp2
            rw [rounds_succ]
            go_wp2
            go_ret
            exact ⟨ret_int HR.out.symm, rfl⟩
          · have d48 : (a == 48) = false := by simpa using h48
            have d1 : decide (a < 48) = false := decide_eq_false (by omega)
            have d2 : decide (a > 57) = false := decide_eq_false (by omega)
            clear e48 hd0 hz hln
            go_enter Tryd.func57, Tryd.ntmps57
            go_wp2
            refine wp_loop_rounds 2 ?_
            rw [rounds_succ]
            go_wp2
            rw [rounds_succ]
            go_wp2
            go_ret
            exact ⟨ret_int HR.out.symm, rfl⟩
        · have HR : Hid (numZ (nums s) = -1) := by unfold Hid; rw [hz]; simp only [numZ]; rw [if_neg (by unfold digB; simpa using hg)]
          have h48 : ¬ a = 48 := by omega
          have d48 : (a == 48) = false := by simpa using h48
          clear e48 hd0 hz hln
          by_cases hlo : a < 48
          · have d1 : decide (a < 48) = true := decide_eq_true hlo
            go_enter Tryd.func57, Tryd.ntmps57
            go_wp2
            refine wp_loop_rounds 1 ?_
            rw [rounds_succ]
            go_wp2
            go_ret
            exact ⟨ret_int HR.out.symm, rfl⟩
          · have d1 : decide (a < 48) = false := decide_eq_false hlo
            have d2 : decide (a > 57) = true := decide_eq_true (by omega)
            go_enter Tryd.func57, Tryd.ntmps57
            go_wp2
            refine wp_loop_rounds 1 ?_
            rw [rounds_succ]
            go_wp2
            go_ret
            exact ⟨ret_int HR.out.symm, rfl⟩
      · have h2 : s.size = 2 := by omega
        have hs1 : 1 < s.size := by omega
        have i1 : (1 : Int) < (s.size : Int) := by omega
        obtain ⟨b, hb⟩ : ∃ b : Int, (s[1].toNat : Int) = b := ⟨_, rfl⟩
        have hb0 : 0 ≤ b ∧ b < 256 := by have := s[1].toNat_lt; omega
        have hd1 := nums_drop s 1 hs1
        rw [hb] at hd1
        have hz : nums s = [a, b] := by
          rw [hd0]
          show a :: List.drop 1 (nums s) = _
          rw [hd1, List.drop_of_length_le (by omega)]
        rw [hz] at e48
        have e482 : (s.toList == [48]) = false := by rw [e48]; simp
        clear e48 hd0 hd1 hln
        by_cases h48 : a = 48
        · subst h48
          have HR : Hid (numZ (nums s) = -1) := by unfold Hid; rw [hz]; simp [numZ]
          clear hz
          go_enter Tryd.func57, Tryd.ntmps57
          go_wp2
          go_ret
          exact ⟨ret_int HR.out.symm, rfl⟩
        · have d48 : (a == 48) = false := by simpa using h48
          by_cases hlo : a < 48
          · have d1 : decide (a < 48) = true := decide_eq_true hlo
            have HR : Hid (numZ (nums s) = -1) := by unfold Hid; rw [hz]; simp only [numZ]; rw [if_neg (by unfold digB; simp; omega)]
            clear hz
            go_enter Tryd.func57, Tryd.ntmps57
            go_wp2
            refine wp_loop_rounds 1 ?_
            rw [rounds_succ]
            go_wp2
            go_ret
            exact ⟨ret_int HR.out.symm, rfl⟩
          · have d1 : decide (a < 48) = false := decide_eq_false hlo
            by_cases hhi : a > 57
            · have d2 : decide (a > 57) = true := decide_eq_true hhi
              have HR : Hid (numZ (nums s) = -1) := by unfold Hid; rw [hz]; simp only [numZ]; rw [if_neg (by unfold digB; simp; omega)]
              clear hz
              go_enter Tryd.func57, Tryd.ntmps57
              go_wp2
              refine wp_loop_rounds 1 ?_
              rw [rounds_succ]
              go_wp2
              go_ret
              exact ⟨ret_int HR.out.symm, rfl⟩
            · have d2 : decide (a > 57) = false := decide_eq_false hhi
              by_cases hlo2 : b < 48
              · have d3 : decide (b < 48) = true := decide_eq_true hlo2
                have HR : Hid (numZ (nums s) = -1) := by unfold Hid; rw [hz]; simp only [numZ]; rw [if_neg (by unfold digB; simp; omega)]
                clear hz
                go_enter Tryd.func57, Tryd.ntmps57
                go_wp2
                refine wp_loop_rounds 2 ?_
                rw [rounds_succ]
                go_wp2
                rw [rounds_succ]
                go_wp2
                go_ret
                exact ⟨ret_int HR.out.symm, rfl⟩
              · have d3 : decide (b < 48) = false := decide_eq_false hlo2
                by_cases hhi2 : b > 57
                · have d4 : decide (b > 57) = true := decide_eq_true hhi2
                  have HR : Hid (numZ (nums s) = -1) := by unfold Hid; rw [hz]; simp only [numZ]; rw [if_neg (by unfold digB; simp; omega)]
                  clear hz
                  go_enter Tryd.func57, Tryd.ntmps57
                  go_wp2
                  refine wp_loop_rounds 2 ?_
                  rw [rounds_succ]
                  go_wp2
                  rw [rounds_succ]
                  go_wp2
                  go_ret
                  exact ⟨ret_int HR.out.symm, rfl⟩
                · have d4 : decide (b > 57) = false := decide_eq_false hhi2
                  have HR : Hid (numZ (nums s) = (a - 48) * 10 + (b - 48)) := by unfold Hid; rw [hz]; simp only [numZ]; rw [if_pos (by unfold digB; simp; omega)]
                  clear hz
                  go_enter Tryd.func57, Tryd.ntmps57
                  go_wp2
                  refine wp_loop_rounds 3 ?_
                  rw [rounds_succ]
                  go_wp2
                  rw [rounds_succ]
                  go_wp2
                  rw [rounds_succ]
                  go_wp2
                  go_ret
                  exact ⟨ret_int HR.out.symm, rfl⟩
/-- Which piece a Name is: base, number, coded, found. -/
def pieceZ (s : List Int) : List Int × Int × Bool × Bool :=
  let c := decide (s.getLast? = some 42)
  let r := if s.getLast? = some 42 then s.dropLast else s
  let k := lastZ 42 r
  if 0 ≤ k ∧ numZ (r.drop (k.toNat + 1)) ≠ -1 then (r.take k.toNat, numZ (r.drop (k.toNat + 1)), c, true) else (r, -1, c, c)
theorem sfx_eq {s x : ByteArray} {b : Bool} (h : SfxA 42 s x b) : b = decide ((nums s).getLast? = some 42) ∧ nums x = if (nums s).getLast? = some 42 then (nums s).dropLast else nums s := by
  cases b with
  | true =>
    have := h.1 rfl
    rw [this]; simp
  | false =>
    have h2 := h.2 rfl
    have hn : ¬ (nums s).getLast? = some 42 := by
      intro q
      obtain ⟨r, hr⟩ := List.getLast?_eq_some_iff.1 q
      exact h2.2 r hr
    rw [if_neg hn, h2.1]
    simp [hn]
set_option maxRecDepth 100000 in
set_option maxHeartbeats 4000000 in
theorem pieceOf_any (s : ByteArray) (w : World) (hs : s.size ≤ 1000000000) : Calls Tryd.prog 37 #[.string s] w fun e w' => ∃ b : ByteArray, e = .returned (.tuple #[plV b (pieceZ (nums s)).2.1, .bool (pieceZ (nums s)).2.2.1, .bool (pieceZ (nums s)).2.2.2]) ∧ nums b = (pieceZ (nums s)).1 ∧ b.size ≤ s.size ∧ Below w.heap.size w w' := by
  have K : ∀ V, Calls Tryd.prog 55 #[.string s, .string ⟨#[42]⟩] V fun e w' => ∃ x b, e = .returned (.tuple #[.string x, .bool b]) ∧ SfxA 42 s x b ∧ V = w' ∧ x.size ≤ s.size := fun V => cutSuffix_any s 42 V hs
  unfold plV
  go_enter Tryd.func37, Tryd.ntmps37
  go_wp2_with fail
  refine (K _).mono ?_
  rintro e w' ⟨x, c, rfl, hsx, rfl, hxs⟩
  obtain ⟨hc, hx⟩ := sfx_eq hsx
  clear hsx K
  have K2 : ∀ V, Calls Tryd.prog 56 #[.string x, .string ⟨#[42]⟩] V fun e w' => e = .returned (.int .i64 (lastZ 42 (nums x))) ∧ V = w' := fun V => lastIndex_any x 42 V (by omega)
  have hk := last_ge 42 (nums x)
  rw [nums_len] at hk
  by_cases h0 : 0 ≤ lastZ 42 (nums x)
  · obtain ⟨k, hkk⟩ : ∃ k : Nat, lastZ 42 (nums x) = (k : Int) := ⟨(lastZ 42 (nums x)).toNat, by omega⟩
    have hkx : k < x.size := by omega
    rw [hkk] at K2
    have d0 : decide ((k : Int) ≥ 0) = true := decide_eq_true (by omega)
    have i1 : (k : Int) + 1 ≤ (x.size : Int) := by omega
    have i2 : ((k : Int) + 1).toNat = k + 1 := by omega
    have i3 : (0 : Int) ≤ (k : Int) + 1 := by omega
    have i4 : (k : Int) ≤ (x.size : Int) := by omega
    have K3 : ∀ V, Calls Tryd.prog 57 #[.string (x.extract (k + 1) x.size)] V fun e w' => e = .returned (.int .i64 (numZ ((nums x).drop (k + 1)))) ∧ V = w' := fun V => by
      rw [← nums_from]; exact numberOf_any _ V (by simp; omega)
    by_cases hn : numZ ((nums x).drop (k + 1)) = -1
    · have HP : Hid (pieceZ (nums s) = (nums x, -1, c, c)) := by
        unfold Hid pieceZ
        simp only
        rw [← hx, hkk, ← hc, if_neg (by intro q; exact q.2 hn)]
      rw [hn] at K3
      clear hx hc hk hkk
      go_wp2_with (first | (go_at_call 56; refine (K2 _).mono ?_; rintro e w' ⟨rfl, rfl⟩) | (go_at_call 57; refine (K3 _).mono ?_; rintro e w' ⟨rfl, rfl⟩))
      exact bodyPost_ret (v := .tuple #[.agg #[.string x, .int .i64 (-1)], .bool c, .bool c]) (by simp [results, Tryd.results37, go_sem]) rfl ⟨x, by rw [HP.out], by rw [HP.out], hxs, keep w _⟩
    · have HP : Hid (pieceZ (nums s) = ((nums x).take k, numZ ((nums x).drop (k + 1)), c, true)) := by
        unfold Hid pieceZ
        simp only
        rw [← hx, hkk, ← hc, if_pos ⟨by omega, by simpa using hn⟩]
        simp
      obtain ⟨m, hm⟩ : ∃ m, numZ ((nums x).drop (k + 1)) = m := ⟨_, rfl⟩
      rw [hm] at K3 HP hn
      have dm : (m != -1) = true := by simpa using hn
      clear hx hc hk hkk
      go_wp2_with (first | (go_at_call 56; refine (K2 _).mono ?_; rintro e w' ⟨rfl, rfl⟩) | (go_at_call 57; refine (K3 _).mono ?_; rintro e w' ⟨rfl, rfl⟩))
      exact bodyPost_ret (v := .tuple #[.agg #[.string (x.extract 0 k), .int .i64 m], .bool c, .bool true]) (by simp [results, Tryd.results37, go_sem]) rfl ⟨x.extract 0 k, by rw [HP.out], by rw [HP.out, nums_to], by simp; omega, keep w _⟩
  · obtain ⟨q, hq⟩ : ∃ q, lastZ 42 (nums x) = q := ⟨_, rfl⟩
    have HP : Hid (pieceZ (nums s) = (nums x, -1, c, c)) := by
      unfold Hid pieceZ
      simp only
      rw [← hx, ← hc, if_neg (by intro q; exact h0 q.1)]
    rw [hq] at K2 h0
    have d0 : decide (q ≥ 0) = false := decide_eq_false (by omega)
    clear hx hc hk hq
    go_wp2_with (go_at_call 56; refine (K2 _).mono ?_; rintro e w' ⟨rfl, rfl⟩)
    exact bodyPost_ret (v := .tuple #[.agg #[.string x, .int .i64 (-1)], .bool c, .bool c]) (by simp [results, Tryd.results37, go_sem]) rfl ⟨x, by rw [HP.out], by rw [HP.out], hxs, keep w _⟩
end Go.Proofs.YtfhgkkdbkbbpkaaDoor
