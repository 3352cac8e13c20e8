/-
  Coded texts read: the contract of Decode.
-/
import Derived.Test.YtfhgkkdbkbbpkaaDoorEb
namespace Go.Proofs.YtfhgkkdbkbbpkaaDoor
open Go.RowKit
set_option linter.unusedVariables false
set_option linter.unusedSimpArgs false

theorem or16 (a b : Int) (a0 : 0 ≤ a) (a1 : a < 16) (b0 : 0 ≤ b) (b1 : b < 16) : bits BinOp.or .i64 (a * 16) b = a * 16 + b := by
  have key : ∀ x y : Fin 16, bits BinOp.or .i64 ((x.val : Int) * 16) (y.val : Int) = (x.val : Int) * 16 + (y.val : Int) := by decide +kernel
  have := key ⟨a.toNat, by omega⟩ ⟨b.toNat, by omega⟩
  rw [show ((a.toNat : Nat) : Int) = a by omega, show ((b.toNat : Nat) : Int) = b by omega] at this
  exact this
theorem hex_in (c : Int) : -1 ≤ hexZ c ∧ hexZ c < 16 := by
  unfold hexZ
  split
  · omega
  · split
    · omega
    · split <;> omega
def DecP (w : World) (o : Option (List Int)) (e : Ending) (w' : World) : Prop :=
  (o = none → e = .returned (.tuple #[.slice none 0 0, .int .i64 3])) ∧ (∀ l, o = some l → ∃ v, e = .returned (.tuple #[v, .int .i64 0]) ∧ Own w' w.heap.size v l) ∧ Below w.heap.size w w'
theorem decP_none {w w' : World} (hb : Below w.heap.size w w') : DecP w none (.returned (.tuple #[.slice none 0 0, .int .i64 3])) w' := ⟨fun _ => rfl, fun l h => (by cases h), hb⟩
theorem decP_some {w w' : World} {l : List Int} {v : Value} (hb : Below w.heap.size w w') (ho : Own w' w.heap.size v l) : DecP w (some l) (.returned (.tuple #[v, .int .i64 0])) w' :=
  ⟨fun h => (by cases h), fun o h => ⟨v, rfl, (by rw [← Option.some.inj h]; exact ho)⟩, hb⟩
set_option maxHeartbeats 8000000 in
set_option maxRecDepth 100000 in
theorem decode_any (s : ByteArray) (w : World) (hs : s.size ≤ 1000000) : Calls Tryd.prog 13 #[.string s] w (DecP w (decZ (nums s))) := by
  obtain ⟨j0, hi, hz0, hz1, hz2⟩ := info_parts Tryd.info5
  obtain ⟨w1, hmk, hown1, hgr1⟩ := run_makeSlice_owned (P := Tryd.prog) (w := w) w.heap.size 31 5 j0 _ 1 Tryd.underlying31 hi hz0 hz1 .i64 .i64 s.size (by omega) (by rw [hz2]; omega) (by unfold maxLen; omega) (Nat.le_refl _)
  have HO1 : Hid (Own w1 w.heap.size (.slice (some ⟨w.heap.size, 0, none⟩) 0 s.size) []) := hown1
  have HB1 : Hid (Below w.heap.size w w1) := (Below.refl _ w).grown hgr1 (Nat.le_refl _) (fun k e => by cases e)
  clear hown1 hgr1
  obtain ⟨n, hn⟩ : ∃ n, s.size = n := ⟨_, rfl⟩
  have HN : Hid (s.size = n) := hn
  rw [hn] at hmk HO1
  go_enter Tryd.func13, Tryd.ntmps13
  go_wp2
  clear hmk
  go_loopw [5, 4, 6, 7] (fun i v _ _ wr => ∃ (k : Nat) (pre : List Int), i = .int .i64 k ∧ k ≤ n ∧ pre.length ≤ k ∧ Hid (Own wr w.heap.size v pre) ∧ Hid (Below w.heap.size w wr) ∧ Hid (decZ (nums s) = (decZ ((nums s).drop k)).map fun x => pre ++ x)) (fun i _ _ _ _ => n - (intOf i).toNat)
  case atStart => exact ⟨0, [], rfl, by omega, by simp, HO1, HB1, by unfold Hid; rw [List.drop_zero]; cases decZ (nums s) <;> simp⟩
  case round =>
    clear HO1 HB1
    obtain ⟨k, pre, rfl, hk, hpl, HO, HB, HQ⟩ := hrel
    obtain ⟨ao, co, rfl, hc1, hc2, hr2, hn2⟩ := own_row' HO.out
    clear hr2 hn2
    have hsz := HB.out.size
    by_cases hlt : k < n
    · have dl : decide ((k : Int) < (n : Int)) = true := decide_eq_true (by omega)
      have hks : k < s.size := by omega
      have hdr := nums_drop s k hks
      have k1 : (k : Int) < (s.size : Int) := by omega
      have hcb : ((s[k]'hks).toNat : Int) < 256 := by have := (s[k]'hks).toNat_lt; omega
      have hcb0 : (0 : Int) ≤ ((s[k]'hks).toNat : Int) := by omega
      obtain ⟨c, hc⟩ : ∃ c : Int, ((s[k]'hks).toNat : Int) = c := ⟨_, rfl⟩
      rw [hc] at hdr hcb hcb0
      by_cases h37 : c = 37
      · subst h37
        have d37 : ((37 : Int) != 37) = false := by decide
        by_cases hs3 : n - k < 3
        · have d3 : decide ((n : Int) - (k : Int) < 3) = true := decide_eq_true (by omega)
          have d3' : (n : Int) - (k : Int) < 3 := by omega
          have HR : Hid (decZ (nums s) = none) := by
            unfold Hid
            rw [HQ.out, hdr, dec_short (by rw [List.length_drop, nums_len]; omega)]; rfl
          clear hdr
          go_wp2
          go_ret2
          exact HR.out ▸ decP_none HB.out
        · have d3 : decide ((n : Int) - (k : Int) < 3) = false := decide_eq_false (by omega)
          have d3' : ¬ (n : Int) - (k : Int) < 3 := by omega
          have hk1 : k + 1 < s.size := by omega
          have hk2 : k + 2 < s.size := by omega
          have i1 : (k : Int) + 1 < (s.size : Int) := by omega
          have i2 : (k : Int) + 2 < (s.size : Int) := by omega
          have i3 : ((k : Int) + 1).toNat = k + 1 := by omega
          have i4 : ((k : Int) + 2).toNat = k + 2 := by omega
          have i5 : (0 : Int) ≤ (k : Int) + 1 := by omega
          have i6 : (0 : Int) ≤ (k : Int) + 2 := by omega
          have hd1 := nums_drop s (k + 1) hk1
          have hd2 := nums_drop s (k + 2) hk2
          obtain ⟨h, hh⟩ : ∃ h : Int, ((s[k + 1]'hk1).toNat : Int) = h := ⟨_, rfl⟩
          obtain ⟨l, hl⟩ : ∃ l : Int, ((s[k + 2]'hk2).toNat : Int) = l := ⟨_, rfl⟩
          have h0 : 0 ≤ h := by rw [← hh]; omega
          have h1 : h < 256 := by rw [← hh]; have := (s[k + 1]'hk1).toNat_lt; omega
          have l0 : 0 ≤ l := by rw [← hl]; omega
          have l1 : l < 256 := by rw [← hl]; have := (s[k + 2]'hk2).toNat_lt; omega
          rw [hh] at hd1
          rw [hl] at hd2
          have HST : Hid (decZ ((nums s).drop k) = if 0 ≤ hexZ h ∧ 0 ≤ hexZ l then (decZ ((nums s).drop (k + 3))).map fun x => (hexZ h * 16 + hexZ l) :: x else none) := by
            unfold Hid; rw [hdr, hd1, hd2, dec_code]
          have HH : Hid (∀ V, Calls Tryd.prog 29 #[.int .u8 h] V fun e w' => e = .returned (.int .i64 (hexZ h)) ∧ w' = V) := fun V => (digit_any h V h0 h1).mono fun e w' q => ⟨q.1, q.2.symm⟩
          have HL : Hid (∀ V, Calls Tryd.prog 29 #[.int .u8 l] V fun e w' => e = .returned (.int .i64 (hexZ l)) ∧ w' = V) := fun V => (digit_any l V l0 l1).mono fun e w' q => ⟨q.1, q.2.symm⟩
          have xh := hex_in h
          have xl := hex_in l
          obtain ⟨p, hp⟩ : ∃ p, hexZ h = p := ⟨_, rfl⟩
          obtain ⟨q, hq⟩ : ∃ q, hexZ l = q := ⟨_, rfl⟩
          rw [hp] at HST HH xh
          rw [hq] at HST HL xl
          clear hdr hd1 hd2 hp hq
          obtain ⟨p0, p1⟩ := xh
          obtain ⟨q0, q1⟩ := xl
          by_cases hpn : p < 0
          · have dp : decide (p < 0) = true := decide_eq_true hpn
            have HR : Hid (decZ (nums s) = none) := by unfold Hid; rw [HQ.out, HST.out, if_neg (by omega)]; rfl
            go_wp2
            go_quiet (first | (go_at_call_of 29 (Value.int IntKind.u8 h); exact Calls.quiet_of_same (HH.out _)) | (go_at_call_of 29 (Value.int IntKind.u8 l); exact Calls.quiet_of_same (HL.out _)))
            have HX : Hid (Below w.heap.size w (wr.drewN nq)) := below_drewN HB.out _
            go_wp2
            go_ret2
            exact HR.out ▸ decP_none HX.out
          · have dp : decide (p < 0) = false := decide_eq_false hpn
            by_cases hqn : q < 0
            · have dq : decide (q < 0) = true := decide_eq_true hqn
              have HR : Hid (decZ (nums s) = none) := by unfold Hid; rw [HQ.out, HST.out, if_neg (by omega)]; rfl
              go_wp2
              go_quiet (first | (go_at_call_of 29 (Value.int IntKind.u8 h); exact Calls.quiet_of_same (HH.out _)) | (go_at_call_of 29 (Value.int IntKind.u8 l); exact Calls.quiet_of_same (HL.out _)))
              have HX : Hid (Below w.heap.size w (wr.drewN nq)) := below_drewN HB.out _
              go_wp2
              go_ret2
              exact HR.out ▸ decP_none HX.out
            · have dq : decide (q < 0) = false := decide_eq_false hqn
              have hor := or16 p q (by omega) p1 (by omega) q1
              have HR : Hid (decZ (nums s) = (decZ ((nums s).drop (k + 3))).map fun x => (pre ++ [p * 16 + q]) ++ x) := by
                unfold Hid
                rw [HQ.out, HST.out, if_pos ⟨by omega, by omega⟩]
                cases decZ ((nums s).drop (k + 3)) <;> simp
              clear HST HQ
              go_wp2
              go_quiet (first | (go_at_call_of 29 (Value.int IntKind.u8 h); exact Calls.quiet_of_same (HH.out _)) | (go_at_call_of 29 (Value.int IntKind.u8 l); exact Calls.quiet_of_same (HL.out _)))
              have HX : Hid (Below w.heap.size w (wr.drewN nq)) := below_drewN HB.out _
              have HOd : Hid (∀ o, ((wr.drewN nq).alloc o).ownsRow w.heap.size 5 1 (.slice ao pre.length co) pre.length (pre.map (Value.int .u8))) := fun o => World.ownsRow.alloc (w := wr.drewN nq) HO.out o
              go_wp2_with (at_builtin; refine wpList_append_own _ rfl (.tmp 48) (.tmp 54) 31 rfl w.heap.size 5 j0 (.int .u8 0) 1 1 Tryd.underlying31 hi hz0 hz1 hz2 rfl (by decide) _ _ _ rfl (HOd.out _) ⟨wr.heap.size, 0, none⟩ 1 1 ([p * 16 + q].map (Value.int .u8)) rfl rfl (cells_new (wr.drewN nq) _ _) (ints_one _) ?a1 ?a2 ?a3 ?_)
              case a1 => unfold maxLen; omega
              case a2 => omega
              case a3 => simp; omega
              intro v' w2 hown2 hgrow2 _
              have HB2 : Hid (Below w.heap.size w w2) := (HX.out.alloc (by simp; omega) _).grown hgrow2 (by simp; omega) (fun z hz => by have := (HO.out.lt z hz).1; omega)
              have HO2 : Hid (Own w2 w.heap.size v' (pre ++ [p * 16 + q])) := own_snoc hown2
              clear hown2 hgrow2
              go_wp2
              go_roundw
              case rel => exact ⟨k + 3, pre ++ [p * 16 + q], by go_num, by omega, by simp; omega, HO2, HB2, HR⟩
              case measure => simp [intOf]; omega
      · have d37 : (c != 37) = true := by simpa using h37
        have HR : Hid (decZ (nums s) = (decZ ((nums s).drop (k + 1))).map fun x => (pre ++ [c]) ++ x) := by
          unfold Hid
          rw [HQ.out, hdr, dec_plain _ h37]
          cases decZ ((nums s).drop (k + 1)) <;> simp
        clear hdr HQ
        go_wp2_with (at_builtin; refine wpList_append_own _ rfl (.tmp 21) (.tmp 25) 31 rfl w.heap.size 5 j0 (.int .u8 0) 1 1 Tryd.underlying31 hi hz0 hz1 hz2 rfl (by decide) _ _ _ rfl (HO.out.alloc _) ⟨wr.heap.size, 0, none⟩ 1 1 ([c].map (Value.int .u8)) rfl rfl (cells_new _ _ _) (ints_one _) ?a1 ?a2 ?a3 ?_)
        case a1 => unfold maxLen; omega
        case a2 => omega
        case a3 => simp; omega
        intro v' w2 hown2 hgrow2 _
        have HB2 : Hid (Below w.heap.size w w2) := (HB.out.alloc hsz _).grown hgrow2 (by simp; omega) (fun z hz => by have := (HO.out.lt z hz).1; omega)
        have HO2 : Hid (Own w2 w.heap.size v' (pre ++ [c])) := own_snoc hown2
        clear hown2 hgrow2
        go_wp2
        go_roundw
        case rel => exact ⟨k + 1, pre ++ [c], by go_num, by omega, by simp; omega, HO2, HB2, HR⟩
        case measure => simp [intOf]; omega
    · obtain rfl : n = k := by omega
      have dl : decide ((n : Int) < (n : Int)) = false := by simp
      have HR : Hid (decZ (nums s) = some pre) := by
        unfold Hid; rw [HQ.out, List.drop_of_length_le (by rw [nums_len]; omega)]; simp [decZ]
      go_wp2
      go_ret2
      exact HR.out ▸ decP_some HB.out HO.out
end Go.Proofs.YtfhgkkdbkbbpkaaDoor
