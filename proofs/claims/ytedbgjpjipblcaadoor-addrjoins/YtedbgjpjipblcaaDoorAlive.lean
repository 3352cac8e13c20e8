/-
  The contracts of long and of the reference's Lower; what must come of fixed calls; addresses as they come in.
-/
import Derived.Test.YtedbgjpjipblcaaDoorRead
import Derived.WideShapes
import Derived.OpenShut
import Derived.SizedLaws
namespace Go.Proofs.YtedbgjpjipblcaaDoor
open Go.RowKit Go.ChangeShapes Go.WideShapes
set_option linter.unusedVariables false

set_option maxRecDepth 100000 in
set_option maxHeartbeats 4000000 in
theorem lower_any (s : ByteArray) (w : World) (hs : s.size ≤ 100000000) : Calls Tryd.prog 16 #[.string s] w fun e w' => e = .returned (.string (strOfNums ((nums s).map smallZ))) ∧ Below w.heap.size w w' := by
  obtain ⟨j0, hi, hz0, hz1, hz2⟩ := info_parts Tryd.info5
  go_enter Tryd.func16, Tryd.ntmps16
  go_wp2
  go_loopw [3, 4] (fun v i wr => ∃ k : Nat, i = .int .i64 k ∧ k ≤ s.size ∧ wr.ownsRow w.heap.size 5 1 v (((nums s).take k).map smallZ).length ((((nums s).take k).map smallZ).map (Value.int .u8)) ∧ Below w.heap.size w wr) (fun _ i _ => s.size - (intOf i).toNat)
  case atStart => exact ⟨0, rfl, by omega, World.ownsRow_nil _ _ _ _, Below.refl _ _⟩
  case round =>
    obtain ⟨k, rfl, hk, ho, hb⟩ := hrel
    have HO : Hid (wr.ownsRow w.heap.size 5 1 u3 (((nums s).take k).map smallZ).length ((((nums s).take k).map smallZ).map (Value.int .u8))) := ho
    have HB : Hid (Below w.heap.size w wr) := hb
    have hsz : w.heap.size ≤ wr.heap.size := hb.size
    clear ho hb
    by_cases hlt : k < s.size
    · have hdk : decide ((k : Int) < (s.size : Int)) = true := by simp; omega
      have HN : Hid ((nums s)[k]? = some (s[k].toNat : Int)) := nums_at s k hlt
      have hcb : (0 : Int) ≤ (s[k].toNat : Int) ∧ (s[k].toNat : Int) < 256 := by have := s[k].toNat_lt; omega
      obtain ⟨c, hc⟩ : ∃ c : Int, (s[k].toNat : Int) = c := ⟨_, rfl⟩
      rw [hc] at HN hcb
      have HT : Hid (((nums s).take (k + 1)).map smallZ = ((nums s).take k).map smallZ ++ [smallZ c]) := by unfold Hid; rw [List.take_add_one, HN.out]; simp
      have hln : (((nums s).take k).map smallZ).length = k := by simp [nums_len]; omega
      rw [hln] at HO
      by_cases hr : 65 ≤ c ∧ c ≤ 90
      · have hsm : smallZ c = c + 32 := by unfold smallZ; rw [if_pos hr]
        have hd1 : decide (c ≥ 65) = true := by simp; omega
        have hd2 : decide (c ≤ 90) = true := by simp; omega
        go_wp2_with (at_builtin; refine wpList_append_own _ rfl (.tmp 23) (.tmp 25) 53 rfl w.heap.size 5 j0 (.int .u8 0) 1 1 Tryd.underlying53 hi hz0 hz1 hz2 rfl (by decide) _ k _ rfl (own_keep HO.out (keep wr _)) ⟨wr.heap.size, 0, none⟩ 1 1 [.int .u8 (c + 32)] rfl rfl (cells_new wr _ 5) (by simp [Value.oneCell']) (by unfold maxLen; omega) (by omega) (by simp; omega) ?_)
        intro v2 w2 ho2 hg2 _
        have HO2 : Hid (w2.ownsRow w.heap.size 5 1 v2 (((nums s).take (k + 1)).map smallZ).length ((((nums s).take (k + 1)).map smallZ).map (Value.int .u8))) := by unfold Hid; rw [HT.out, hsm, List.length_append, hln]; simpa using ho2
        have HB2 : Hid (Below w.heap.size w w2) := (HB.out.alloc hsz _).trans ((Below.refl _ _).grown hg2 (by simp; omega) (fun q hq => by
          rcases HO.out.2 with ⟨h, _⟩ | ⟨g, cp, cur, h, h2, _⟩
          · rw [h] at hq; simp [Value.ownBlock] at hq
          · rw [h] at hq; simp [Value.ownBlock] at hq; omega))
        clear ho2 hg2
        go_wp2
        go_roundw
        case rel => exact ⟨k + 1, by go_num, by omega, HO2.out, HB2.out⟩
        case measure => simp [intOf]; omega
      · have hsm : smallZ c = c := by unfold smallZ; rw [if_neg hr]
        have key : ∀ (P : Prop), P → P := fun _ h => h
        by_cases h65 : 65 ≤ c
        · have hd1 : decide (c ≥ 65) = true := by simp; omega
          have hd2 : decide (c ≤ 90) = false := by simp; omega
          go_wp2_with (at_builtin; refine wpList_append_own _ rfl (.tmp 23) (.tmp 25) 53 rfl w.heap.size 5 j0 (.int .u8 0) 1 1 Tryd.underlying53 hi hz0 hz1 hz2 rfl (by decide) _ k _ rfl (own_keep HO.out (keep wr _)) ⟨wr.heap.size, 0, none⟩ 1 1 [.int .u8 c] rfl rfl (cells_new wr _ 5) (by simp [Value.oneCell']) (by unfold maxLen; omega) (by omega) (by simp; omega) ?_)
          intro v2 w2 ho2 hg2 _
          have HO2 : Hid (w2.ownsRow w.heap.size 5 1 v2 (((nums s).take (k + 1)).map smallZ).length ((((nums s).take (k + 1)).map smallZ).map (Value.int .u8))) := by unfold Hid; rw [HT.out, hsm, List.length_append, hln]; simpa using ho2
          have HB2 : Hid (Below w.heap.size w w2) := (HB.out.alloc hsz _).trans ((Below.refl _ _).grown hg2 (by simp; omega) (fun q hq => by
            rcases HO.out.2 with ⟨h, _⟩ | ⟨g, cp, cur, h, h2, _⟩
            · rw [h] at hq; simp [Value.ownBlock] at hq
            · rw [h] at hq; simp [Value.ownBlock] at hq; omega))
          clear ho2 hg2
          go_wp2
          go_roundw
          case rel => exact ⟨k + 1, by go_num, by omega, HO2.out, HB2.out⟩
          case measure => simp [intOf]; omega
        · have hd1 : decide (c ≥ 65) = false := by simp; omega
          go_wp2_with (at_builtin; refine wpList_append_own _ rfl (.tmp 23) (.tmp 25) 53 rfl w.heap.size 5 j0 (.int .u8 0) 1 1 Tryd.underlying53 hi hz0 hz1 hz2 rfl (by decide) _ k _ rfl (own_keep HO.out (keep wr _)) ⟨wr.heap.size, 0, none⟩ 1 1 [.int .u8 c] rfl rfl (cells_new wr _ 5) (by simp [Value.oneCell']) (by unfold maxLen; omega) (by omega) (by simp; omega) ?_)
          intro v2 w2 ho2 hg2 _
          have HO2 : Hid (w2.ownsRow w.heap.size 5 1 v2 (((nums s).take (k + 1)).map smallZ).length ((((nums s).take (k + 1)).map smallZ).map (Value.int .u8))) := by unfold Hid; rw [HT.out, hsm, List.length_append, hln]; simpa using ho2
          have HB2 : Hid (Below w.heap.size w w2) := (HB.out.alloc hsz _).trans ((Below.refl _ _).grown hg2 (by simp; omega) (fun q hq => by
            rcases HO.out.2 with ⟨h, _⟩ | ⟨g, cp, cur, h, h2, _⟩
            · rw [h] at hq; simp [Value.ownBlock] at hq
            · rw [h] at hq; simp [Value.ownBlock] at hq; omega))
          clear ho2 hg2
          go_wp2
          go_roundw
          case rel => exact ⟨k + 1, by go_num, by omega, HO2.out, HB2.out⟩
          case measure => simp [intOf]; omega
    · obtain rfl : k = s.size := by omega
      have hdk : decide ((s.size : Int) < (s.size : Int)) = false := by simp
      have HO2 : Hid (Own wr w.heap.size u3 ((nums s).map smallZ)) := by
        have h := HO.out
        rw [List.take_of_length_le (by rw [nums_len]; exact Nat.le_refl _)] at h
        exact h
      obtain ⟨a, c, hv, _, _, hrw, _⟩ := own_row' HO2.out
      obtain ⟨m, hm⟩ : ∃ m, ((nums s).map smallZ).length = m := ⟨_, rfl⟩
      rw [hm] at hv
      subst hv
      have kc := conv_row m c hm hrw
      clear hm
      go_wp2
      go_ret
      exact ⟨rfl, HB.out⟩
theorem long_any (n l d : ByteArray) (w : World) (h1 : n.size ≤ 140737488355328) (h2 : l.size ≤ 140737488355328) (h3 : d.size ≤ 140737488355328) :
    Calls Tryd.prog 12 #[addrV n l d] w fun e w' => e = .returned (.bool (decide (1000 < n.size + l.size) || decide (1000 < d.size))) ∧ Below w.heap.size w w' := by
  unfold addrV
  by_cases ha : 1000 < n.size + l.size
  · have hd : decide ((n.size : Int) + (l.size : Int) > 1000) = true := decide_eq_true (by omega)
    have HZ : Hid ((decide (1000 < n.size + l.size) || decide (1000 < d.size)) = true) := by unfold Hid; rw [decide_eq_true ha]; rfl
    clear ha
    go_enter Tryd.func12, Tryd.ntmps12
    go_wp2
    go_ret
    exact ⟨ret_bool HZ.out.symm, keep w _⟩
  · have hd : decide ((n.size : Int) + (l.size : Int) > 1000) = false := decide_eq_false (by omega)
    have HZ : Hid (decide ((d.size : Int) > 1000) = (decide (1000 < n.size + l.size) || decide (1000 < d.size))) := by
      unfold Hid; rw [decide_eq_false ha, Bool.false_or, Bool.eq_iff_iff]; simp; omega
    clear ha
    go_enter Tryd.func12, Tryd.ntmps12
    go_wp2
    go_ret
    exact ⟨ret_bool HZ.out, keep w _⟩
def alS : ByteArray := ⟨#[34, 65, 44, 32, 66, 34, 32, 60, 67, 64, 68, 46, 111, 114, 103, 62]⟩
theorem al_read : readR (nums alS) = some ([65, 44, 32, 66], [67], [68, 46, 111, 114, 103]) := by decide +kernel
theorem al_plain : plainR (nums ⟨#[97]⟩) = none := by decide +kernel
theorem al_right : rightZ (nums (⟨#[65, 44, 32, 66]⟩ : ByteArray)) (nums (⟨#[67]⟩ : ByteArray)) (nums (⟨#[68, 46, 111, 114, 103]⟩ : ByteArray)) = true := by decide +kernel
theorem al_norm : normL (nums (⟨#[67]⟩ : ByteArray)) (nums (⟨#[68, 46, 111, 114, 103]⟩ : ByteArray)) = nums (⟨#[99, 64, 100, 46, 111, 114, 103]⟩ : ByteArray) := by decide +kernel
set_option maxRecDepth 100000 in
set_option maxHeartbeats 4000000 in
theorem alive_any (w : World) : Calls Tryd.prog 7 #[] w fun e w' => e = .returned (.bool true) ∧ Below w.heap.size w w' := by
  have hread := read_any alS w (by decide)
  unfold RPost at hread
  rw [al_read] at hread
  unfold alS at hread
  go_enter Tryd.func7, Tryd.ntmps7
  go_wp2_with fail
  refine hread.mono ?_
  clear hread
  rintro e w1 ⟨n, l, d, c, rfl, hb1, hans, _⟩
  rcases hans with ⟨rfl, h⟩ | ⟨_, _, _, _, h⟩
  case inr => cases h
  simp only [Option.some.injEq, Prod.mk.injEq] at h
  obtain ⟨e1, e2, e3⟩ := h
  obtain rfl : n = ⟨#[65, 44, 32, 66]⟩ := nums_inj (e1.symm.trans rfl)
  obtain rfl : l = ⟨#[67]⟩ := nums_inj (e2.symm.trans rfl)
  obtain rfl : d = ⟨#[68, 46, 111, 114, 103]⟩ := nums_inj (e3.symm.trans rfl)
  clear e1 e2 e3
  have HB1 : Hid (Below w.heap.size w w1) := hb1
  have hs1 := hb1.size
  clear hb1
  unfold addrV
  have hpl := plain_any ⟨#[97]⟩ (w1.alloc (.cells #[.string ⟨#[65, 44, 32, 66]⟩, .string ⟨#[67]⟩, .string ⟨#[68, 46, 111, 114, 103]⟩] 24)) (by decide)
  go_wp2_with fail
  refine hpl.mono ?_
  clear hpl
  rintro e w2 ⟨n, l, d, c, rfl, hb2, hpa⟩
  obtain ⟨rfl, hpr⟩ := plain_R hpa
  rcases hpr with ⟨_, hpr, _⟩ | ⟨rfl, rfl, rfl, _⟩
  · rw [al_plain] at hpr; cases hpr
  have HA2 : Hid (AAt w2 w1.heap.size ⟨#[65, 44, 32, 66]⟩ ⟨#[67]⟩ ⟨#[68, 46, 111, 114, 103]⟩) := (aat_new w1 _ _ _).below hb2
  have HB2 : Hid (Below w.heap.size w w2) := (HB1.out.alloc hs1 _).trans (hb2.mono (by simp; omega))
  have hs2 := HB2.out.size
  clear hpa hb2
  obtain ⟨_, x0, x1, x2⟩ := HA2.out
  unfold addrV
  have hno := fun V => normal_any ⟨#[65, 44, 32, 66]⟩ ⟨#[67]⟩ ⟨#[68, 46, 111, 114, 103]⟩ V (by decide) (by decide) (by decide)
  rw [al_right] at hno
  unfold addrV at hno
  go_wp2_with (go_at_call 15; refine (hno _).mono ?_; rintro e w3 ⟨x, rfl, hb3, hna⟩; obtain rfl : x = ⟨#[99, 64, 100, 46, 111, 114, 103]⟩ := nums_inj ((hna.1 rfl).trans al_norm))
  go_ret
  exact ⟨rfl, (HB2.out.alloc hs2 _).trans (hb3.mono (by simp; omega))⟩
theorem Tryd.one9 : Tryd.prog.cellsOf 9 = 1 := by kernel_rfl
theorem Tryd.three24 : Tryd.prog.cellsOf 24 = 3 := by kernel_rfl
theorem reach_le {n : Nat} (h : n ≤ reachBytes) : n ≤ 140737488355328 := Nat.le_trans h (Nat.le_of_lt (by have := reachBytes_lt; omega))
def IsA (n l d : ByteArray) : Prop := n.size ≤ 140737488355328 ∧ l.size ≤ 140737488355328 ∧ d.size ≤ 140737488355328
set_option maxRecDepth 100000 in
theorem addr_arg {H : Type} {enc : TypeId × Value → H} {W : World} {base b0 : Nat} {sp : Nat → Bool} {held : Bool} {v : Value} {x : DataW H} {ps : List MemPlace} {r : Reach} (hv : Value.okWide Tryd.prog W r b0 24 v) (h : DataW.Trod enc Tryd.prog W base sp held 24 v x ps) (hw : ∀ n ∈ x.weights Tryd.prog 24, n ≤ reachBytes) :
    ∃ n l d, v = .agg #[.string n, .string l, .string d] ∧ IsA n l d := by
  obtain ⟨cs, rfl, hsz⟩ := okWide_struct Tryd.underlying24 hv
  rw [Tryd.three24] at hsz
  obtain ⟨fuel, hf⟩ := h
  obtain ⟨xs, n, rfl, hd, hlen, hxl, hx⟩ := DataW.trod_struct Tryd.underlying24 hf
  obtain ⟨c0, c1, c2, rfl⟩ : ∃ c0 c1 c2, cs = #[c0, c1, c2] := by
    obtain ⟨l⟩ := cs
    match l, hsz with
    | [c0, c1, c2], _ => exact ⟨c0, c1, c2, rfl⟩
  match xs, hxl with
  | [y0, y1, y2], _ =>
    have g0 : DataW.trod enc Tryd.prog W base sp held n 9 ((([c0, c1, c2] : List Value).drop 0).take (Tryd.prog.cellsOf 9)) = some y0 := hx 0 _ rfl
    have g1 : DataW.trod enc Tryd.prog W base sp held n 9 ((([c0, c1, c2] : List Value).drop 1).take (Tryd.prog.cellsOf 9)) = some y1 := hx 1 _ rfl
    have g2 : DataW.trod enc Tryd.prog W base sp held n 9 ((([c0, c1, c2] : List Value).drop 2).take (Tryd.prog.cellsOf 9)) = some y2 := hx 2 _ rfl
    rw [Tryd.one9] at g0 g1 g2
    obtain ⟨s, e0, f0, z0⟩ := DataW.trod_string Tryd.underlying9 g0
    obtain ⟨t, e1, f1, z1⟩ := DataW.trod_string Tryd.underlying9 g1
    obtain ⟨q, e2, f2, z2⟩ := DataW.trod_string Tryd.underlying9 g2
    simp at e0 e1 e2
    subst f0
    subst f1
    subst f2
    have hd2 : x = .agg [.lit (.string s.data.toList), .lit (.string t.data.toList), .lit (.string q.data.toList)] := by
      have := congrArg Prod.fst hd
      simpa using this
    subst hd2
    have hwe : ∀ n, n ∈ (.lit (.string s.data.toList) : DataW H).weights Tryd.prog 9 ++ ((.lit (.string t.data.toList) : DataW H).weights Tryd.prog 9 ++ ((.lit (.string q.data.toList) : DataW H).weights Tryd.prog 9 ++ [])) → n ≤ reachBytes := by
      intro n hn
      apply hw n
      simp only [DataW.weights, Tryd.underlying24]
      exact hn
    have hs : s.size ≤ reachBytes := hwe _ (by simp [DataW.weights])
    have ht : t.size ≤ reachBytes := hwe _ (by simp [DataW.weights])
    have hq : q.size ≤ reachBytes := hwe _ (by simp [DataW.weights])
    exact ⟨s, t, q, by rw [e0, e1, e2], reach_le hs, reach_le ht, reach_le hq⟩
end Go.Proofs.YtedbgjpjipblcaaDoor
