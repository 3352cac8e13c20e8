/-
  SheetTexts: whatever two texts come, what is escaped is unescaped as it was, and what is unescaped, escaped again is the same but for an N.
-/
import Derived.Test.YtjcjhcpaojhcfabRows
import Derived.Test.YtjcjhcpaojhcfabAl
import Derived.Test.YtjcjhcpaojhcfabUn
import Derived.WalkKit
import Derived.ProofKit
import Derived.OpenShut
import Derived.ShutString
import Derived.ChangeOld
import Derived.Below
import Derived.HandedShaped
namespace Go.Proofs.Ytjcjhcpaojhcfab.sheetTexts
open Go.ChangeShapes Go.WideShapes Go.ChangeAt Go.RowKit
open Go.ChangeMaps (open_string shut_string)
set_option linter.unusedVariables false

theorem unesc_back : ∀ l : List Int, unescZ (escZ l) = some l
  | [] => rfl
  | c :: l => by
    have ih := unesc_back l
    unfold escZ at ih ⊢
    rw [List.flatMap_cons]
    by_cases h : c = 92 ∨ c = 59 ∨ c = 44
    · have e : escC c = [92, c] := by unfold escC; rw [if_pos h]
      have e2 : escD c = some c := by unfold escD; rw [if_pos h]
      rw [e, List.cons_append, List.cons_append, List.nil_append, unesc_esc, e2, ih]; rfl
    · by_cases h2 : c = 10
      · subst h2
        have e : escC 10 = [92, 110] := by decide
        have e2 : escD 110 = some 10 := by decide
        rw [e, List.cons_append, List.cons_append, List.nil_append, unesc_esc, e2, ih]; rfl
      · have e : escC c = [c] := by unfold escC; rw [if_neg h, if_neg h2]
        rw [e, List.cons_append, List.nil_append, unesc_plain _ (by omega), ih]; rfl
theorem esc_ge : ∀ y : List Int, y.length ≤ (escZ y).length
  | [] => by simp
  | c :: y => by
    have ih := esc_ge y
    unfold escZ at ih ⊢
    rw [List.flatMap_cons, List.length_append, List.length_cons]
    have : 1 ≤ (escC c).length := by
      unfold escC
      split
      · simp
      · split <;> simp
    omega
/-- The same, but for an N behind a backslash. -/
def Sim : List Int → List Int → Prop
  | [], [] => True
  | c :: l, d :: m => (c = d ∨ (c = 110 ∧ d = 78)) ∧ Sim l m
  | _, _ => False
theorem sim_len : ∀ {l m : List Int}, Sim l m → l.length = m.length
  | [], [], _ => rfl
  | [], _ :: _, h => h.elim
  | _ :: _, [], h => h.elim
  | _ :: _, _ :: _, h => by simp [sim_len h.2]
theorem sim_at : ∀ {l m : List Int} (i : Nat) (c d : Int), Sim l m → l[i]? = some c → m[i]? = some d → c = d ∨ (c = 110 ∧ d = 78)
  | [], [], i, c, d, _, h1, _ => by simp at h1
  | [], _ :: _, _, _, _, h, _, _ => h.elim
  | _ :: _, [], _, _, _, h, _, _ => h.elim
  | a :: l, b :: m, 0, c, d, h, h1, h2 => by
    simp at h1 h2
    subst h1 h2
    exact h.1
  | a :: l, b :: m, i + 1, c, d, h, h1, h2 => sim_at i c d h.2 (by simpa using h1) (by simpa using h2)
theorem sim_esc : ∀ (n : Nat) (t y : List Int), t.length ≤ n → unescZ t = some y → Sim (escZ y) t
  | n, [], y, _, h => by
    unfold unescZ at h
    simp at h
    subst h
    trivial
  | 0, c :: t, y, hn, _ => by simp at hn
  | n + 1, c :: t, y, hn, h => by
    by_cases hb : c = 59 ∨ c = 44 ∨ c = 10
    · rw [unesc_bad t hb] at h; cases h
    · by_cases h92 : c = 92
      · subst h92
        cases t with
        | nil => rw [unesc_end] at h; cases h
        | cons d t =>
          rw [unesc_esc] at h
          rcases escD_iff d with ⟨he, hd⟩ | ⟨he, hd⟩ | ⟨he, _⟩
          · rw [he] at h
            simp only [Option.map_eq_some_iff] at h
            obtain ⟨y', h1, rfl⟩ := h
            have ih := sim_esc n t y' (by simp at hn; omega) h1
            have e : escZ (d :: y') = 92 :: d :: escZ y' := by unfold escZ; rw [List.flatMap_cons]; unfold escC; rw [if_pos hd]; rfl
            rw [e]
            exact ⟨.inl rfl, .inl rfl, ih⟩
          · rw [he] at h
            simp only [Option.map_eq_some_iff] at h
            obtain ⟨y', h1, rfl⟩ := h
            have ih := sim_esc n t y' (by simp at hn; omega) h1
            have e : escZ (10 :: y') = 92 :: 110 :: escZ y' := by unfold escZ; rw [List.flatMap_cons]; rfl
            rw [e]
            exact ⟨.inl rfl, (by rcases hd with rfl | rfl <;> simp), ih⟩
          · rw [he] at h; cases h
      · rw [unesc_plain t (by omega)] at h
        simp only [Option.map_eq_some_iff] at h
        obtain ⟨y', h1, rfl⟩ := h
        have ih := sim_esc n t y' (by simp at hn; omega) h1
        have e : escZ (c :: y') = c :: escZ y' := by unfold escZ; rw [List.flatMap_cons]; unfold escC; rw [if_neg (by omega), if_neg (by omega)]; rfl
        rw [e]
        exact ⟨.inl rfl, ih⟩
set_option maxHeartbeats 8000000 in
set_option maxRecDepth 100000 in
theorem walk (s t : ByteArray) (w : World) (hs : s.size ≤ maxLen) (ht : t.size ≤ maxLen) : Calls Try.prog 3 #[.string s, .string t] w fun e w' => e = .returned (.bool true) ∧ Below w.heap.size w w' := by
  by_cases h1 : s.size ≤ 3000
  case neg =>
    have d1 : decide ((3000 : Int) < (s.size : Int)) = true := by simp; omega
    go_enter Try.func3, Try.ntmps3
    go_wp2_with (go_at_call 4; refine (alive_any _).mono ?_; rintro e w1 ⟨rfl, hb1⟩)
    go_ret
    exact ⟨rfl, hb1⟩
  have d1 : decide ((3000 : Int) < (s.size : Int)) = false := by simp; omega
  by_cases h2 : t.size ≤ 3000
  case neg =>
    have d2 : decide ((3000 : Int) < (t.size : Int)) = true := by simp; omega
    go_enter Try.func3, Try.ntmps3
    go_wp2_with (go_at_call 4; refine (alive_any _).mono ?_; rintro e w1 ⟨rfl, hb1⟩)
    go_ret
    exact ⟨rfl, hb1⟩
  have d2 : decide ((3000 : Int) < (t.size : Int)) = false := by simp; omega
  obtain ⟨x, hx⟩ : ∃ x, strOfNums (escZ (nums s)) = x := ⟨_, rfl⟩
  have hxn : nums x = escZ (nums s) := by rw [← hx, nums_str (escZ_byt (nums_byt s))]
  have hxs : x.size ≤ 6000 := by rw [← nums_len, hxn]; have := escZ_len (nums s); rw [nums_len] at this; omega
  have hesc := fun V => escape_any s V (by omega)
  simp only [hx] at hesc
  have hun1 : ∀ V, Calls Try.prog 5 #[.string x] V fun e w' => e = .returned (.tuple #[.string s, .int .i64 0]) ∧ Below V.heap.size V w' := by
    intro V
    refine (unescape_any x V (by omega)).mono ?_
    rintro e w' ⟨h, hb⟩
    rw [hxn, unesc_back] at h
    rcases h with ⟨y, hy, _, rfl⟩ | ⟨hy, _⟩
    · simp at hy
      subst hy
      rw [str_nums]
      exact ⟨rfl, hb⟩
    · cases hy
  have hun2 := fun V => unescape_any t V (by omega)
  have hss : (s.toList == s.toList) = true := by simp
  clear hx hxn
  cases hu : unescZ (nums t) with
  | none =>
    have hun3 : ∀ V, Calls Try.prog 5 #[.string t] V fun e w' => e = .returned (.tuple #[.string ⟨#[]⟩, .int .i64 90]) ∧ Below V.heap.size V w' := by
      intro V
      refine (hun2 V).mono ?_
      rintro e w' ⟨h, hb⟩
      rcases h with ⟨y, hy, _⟩ | ⟨_, rfl⟩
      · rw [hu] at hy; cases hy
      · exact ⟨rfl, hb⟩
    clear hun2
    go_enter Try.func3, Try.ntmps3
    go_wp2_with (first
      | (go_at_call 6; refine (hesc _).mono ?_; rintro e w1 ⟨rfl, hb1⟩)
      | (go_at_call_of 5 (Value.string x); refine (hun1 _).mono ?_; rintro e w2 ⟨rfl, hb2⟩)
      | (go_at_call_of 5 (Value.string t); refine (hun3 _).mono ?_; rintro e w3 ⟨rfl, hb3⟩)
      | (go_at_call 4; refine (alive_any _).mono ?_; rintro e w4 ⟨rfl, hb4⟩))
    go_ret
    exact ⟨rfl, hb1.trans ((hb2.trans ((hb3.trans (hb4.mono hb3.size)).mono hb2.size)).mono hb1.size)⟩
  | some y =>
    have hun3 : ∀ V, Calls Try.prog 5 #[.string t] V fun e w' => (e = .returned (.tuple #[.string (strOfNums y), .int .i64 0]) ∧ Below V.heap.size V w') ∧ Byt y := by
      intro V
      refine (hun2 V).mono ?_
      rintro e w' ⟨h, hb⟩
      rcases h with ⟨y', hy, hby, rfl⟩ | ⟨hy, _⟩
      · rw [hu] at hy
        simp at hy
        subst hy
        exact ⟨⟨rfl, hb⟩, hby⟩
      · rw [hu] at hy; cases hy
    have HSIM : Hid (Sim (escZ y) (nums t)) := sim_esc _ _ _ (Nat.le_refl _) hu
    clear hun2 hu
    go_enter Try.func3, Try.ntmps3
    go_wp2_with (first
      | (go_at_call 6; refine (hesc _).mono ?_; rintro e w1 ⟨rfl, hb1⟩)
      | (go_at_call_of 5 (Value.string x); refine (hun1 _).mono ?_; rintro e w2 ⟨rfl, hb2⟩)
      | fail)
    refine (hun3 _).mono ?_
    rintro e w3 ⟨⟨rfl, hb3⟩, hby⟩
    have HB3 : Hid (Below w.heap.size w w3) := hb1.trans ((hb2.trans (hb3.mono hb2.size)).mono hb1.size)
    obtain ⟨zb, hzb⟩ : ∃ zb, strOfNums (escZ y) = zb := ⟨_, rfl⟩
    have hzn : nums zb = escZ y := by rw [← hzb, nums_str (escZ_byt hby)]
    have hlen : zb.size = t.size := by rw [← nums_len, hzn, sim_len HSIM.out, nums_len]
    have hys : (strOfNums y).size ≤ 6000 := by
      rw [← nums_len, nums_str hby]
      have h1 := sim_len HSIM.out
      rw [nums_len] at h1
      have h2 := esc_ge y
      omega
    have hesc2 : ∀ V, Calls Try.prog 6 #[.string (strOfNums y)] V fun e w' => e = .returned (.string zb) ∧ Below V.heap.size V w' := by
      intro V
      have := escape_any (strOfNums y) V (by omega)
      rw [nums_str hby, hzb] at this
      exact this
    have HZN : Hid (nums zb = escZ y) := hzn
    clear hb1 hb2 hb3 hun1 hun3 hesc hzn hzb hys hxs hby
    generalize strOfNums y = yb at hesc2
    go_wp2_with fail
    refine (hesc2 _).mono ?_
    rintro e w4 ⟨rfl, hb4⟩
    have HB4 : Hid (Below w.heap.size w w4) := HB3.out.trans (hb4.mono HB3.out.size)
    obtain ⟨cap, w5, kc, hcap, hmx, hrow, hb5, hfz⟩ := conv_bytes zb w4 (by unfold maxLen; omega)
    have HB5 : Hid (Below w.heap.size w w5) := HB4.out.trans (hb5.mono HB4.out.size)
    have HR5 : Hid (Row w5 (some ⟨w4.heap.size, 0, none⟩) (nums zb)) := hrow
    rw [hlen] at kc hcap
    clear hb4 hb5 hrow hfz hesc2 HB3
    go_wp2
    go_loopw [10] (fun i wr => ∃ (k n : Nat), i = .int .i64 k ∧ k ≤ t.size ∧ wr = w5.drewN n) (fun i _ => t.size - (intOf i).toNat)
    case atStart => exact ⟨0, 0, rfl, by omega, rfl⟩
    case round =>
      obtain ⟨k, n, rfl, hk, rfl⟩ := hrel
      clear kc
      by_cases hlt : k < t.size
      · have hzl : k < zb.size := by omega
        have hd1 : ((t[k]'hlt).toNat : Int) < 256 := by have := (t[k]'hlt).toNat_lt; omega
        have HT : Hid ((nums t)[k]? = some ((t[k]'hlt).toNat : Int)) := nums_at t k hlt
        have hcz := nums_at zb k hzl
        have hcell : w5.cell? ⟨w4.heap.size, k, none⟩ = some (.int .u8 ((zb[k]'hzl).toNat : Int)) := by
          rcases HR5.out with h | ⟨b', off, e, h⟩
          · rw [h] at hcz; cases hcz
          · simp at e
            obtain ⟨rfl, rfl⟩ := e
            have := h k (by rw [nums_len]; exact hzl)
            rw [Nat.zero_add] at this
            rw [this, List.getD_eq_getElem?_getD, hcz]; rfl
        rw [HZN.out] at hcz
        have hsim := sim_at k _ _ HSIM.out hcz HT.out
        obtain ⟨d, hd⟩ : ∃ d : Int, ((t[k]'hlt).toNat : Int) = d := ⟨_, rfl⟩
        obtain ⟨c, hc⟩ : ∃ c : Int, ((zb[k]'hzl).toNat : Int) = c := ⟨_, rfl⟩
        rw [hd, hc] at hsim
        rw [hc] at hcell
        clear hcz HT
        by_cases hcd : c = d
        · have e1 : (c != d) = false := by simp [hcd]
          clear hsim hcd
          go_wp2
          go_quiet (fail)
          go_wp2
          go_roundw
          case rel => exact ⟨k + 1, n + nq, by go_num, by omega, rfl⟩
          case measure => simp [intOf]; omega
        · have e1 : (c != d) = true := by simp [hcd]
          obtain ⟨rfl, rfl⟩ : c = 110 ∧ d = 78 := hsim.resolve_left hcd
          clear hsim hcd
          go_wp2
          go_quiet (fail)
          go_wp2
          go_roundw
          case rel => exact ⟨k + 1, n + nq, by go_num, by omega, rfl⟩
          case measure => simp [intOf]; omega
      · obtain rfl : k = t.size := by omega
        go_wp2_with (go_at_call 4; refine (alive_any _).mono ?_; rintro e w6 ⟨rfl, hb6⟩)
        go_ret
        have hb : Below w.heap.size w (w5.drewN n) := below_drewN HB5.out n
        exact ⟨rfl, hb.trans (hb6.mono hb.size)⟩
set_option maxRecDepth 100000 in
theorem lifted (os : Os) (started : os.Started) (H : Type) (enc : TypeId × Value → H) :
    ReturnsInHanded {} Try.checked os 3 .any (Rows.sheetTextsSpec.pre6 enc Try.prog Try.f3 Rows.sheetTextsRow.domain false) (Rows.sheetTextsSpec.post enc Try.prog Try.f3 false true false false) := by
  refine returnsInHanded_of_change_shaped (C := Try.checked) own started (by kernel_rfl) Try.func3
    (ChangeSpec.witness6 (enc := enc) (C := Try.checked) false ⟨#[], #[.string ⟨#[]⟩, .string ⟨#[]⟩], []⟩ 8 (by kernel_rfl) (by kernel_rfl) (by kernel_rfl) (by kernel_rfl)) ?_
  intro W base args ds gs before hval0 hW hcnd _ hsh _
  have hval : ∀ (j : Nat) t v, Try.f3.params[j]? = some t → args[j]? = some v → Value.okWide Try.prog W .any base t v := hval0
  have hW' := hW
  obtain ⟨p, q, hA0, hV, rfl, hfz, hnd⟩ := hW
  have hA : DataW.TrodAll enc Try.prog W 0 (fun _ => true) true Try.f3.params.toList args.toList ds p := hA0
  rw [Try.params3] at hA hval
  obtain ⟨v0, vs0, d0, ds0, p0, q0, hargs, rfl, rfl, h0, r0⟩ := trodAll_cons hA
  obtain ⟨v1, vs1, d1, ds1, p1, q1, rfl, rfl, rfl, h1, r1⟩ := trodAll_cons r0
  obtain ⟨rfl, rfl, rfl⟩ := trodAll_nil r1
  obtain rfl : args = #[v0, v1] := by cases args; simp_all
  obtain ⟨rfl, rfl⟩ := trodVars_none hV
  have k0 := h0
  have lt0 : ∀ x ∈ p0, x.block < W.heap.size := by obtain ⟨m, hm⟩ := k0; exact DataW.trod_lt m _ _ _ hm
  obtain ⟨s0, rfl, _, _, hs0⟩ := open_string Try.underlying9 (hval 0 9 v0 rfl rfl) h0
  have k1 := h1
  have lt1 : ∀ x ∈ p1, x.block < W.heap.size := by obtain ⟨m, hm⟩ := k1; exact DataW.trod_lt m _ _ _ hm
  obtain ⟨s1, rfl, _, _, hs1⟩ := open_string Try.underlying9 (hval 1 9 v1 rfl rfl) h1
  clear hA0 hval0
  refine (walk s0 s1 W hs0 hs1).mono fun e W' ⟨he, bel⟩ => ?_
  subst he
  exact ⟨_, rfl, _, _, _, [], _, [], hW', trodAll_mk1 (shut_bool Try.underlying4 _), (trodAll_cons_mk (Below.trod laidOut (by kernel_rfl) (of_decide_eq_true (by kernel_rfl)) k0 bel lt0) (trodAll_cons_mk (Below.trod laidOut (by kernel_rfl) (of_decide_eq_true (by kernel_rfl)) k1 bel lt1) trodAll_mk0)), rfl, bel.frame _, fun h => by cases h⟩

theorem over : Rows.SheetTextsSaid :=
  OpenClaim.holds_of_wide 3 Try.f3 rfl rfl rfl rfl rfl rfl rfl ⟨rfl, rfl, rfl, rfl, rfl⟩ rfl rfl rfl rfl rfl (by kernel_rfl) Try.func3 (by kernel_rfl)
    (of_decide_eq_true (by kernel_rfl)) (by unfold Func.isWrapper; first | (rw [if_pos (by decide +kernel)]; kernel_rfl) | (rw [if_neg (by decide +kernel)]; exact ⟨rfl, rfl⟩))
    (fun os started H enc _ => lifted os started H enc)
end Go.Proofs.Ytjcjhcpaojhcfab.sheetTexts
namespace Go.Proofs.Ytjcjhcpaojhcfab
theorem sheetTexts_holds : Rows.SheetTextsSaid := sheetTexts.over
#print axioms sheetTexts_holds
end Go.Proofs.Ytjcjhcpaojhcfab
