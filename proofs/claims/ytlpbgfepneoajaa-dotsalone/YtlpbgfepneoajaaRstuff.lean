/-
  The reference's Stuff.
-/
import Derived.Test.YtlpbgfepneoajaaRright
namespace Go.Proofs.Ytlpbgfepneoajaa
open Go.RowKit
set_option linter.unusedVariables false

set_option maxRecDepth 100000 in
set_option maxHeartbeats 4000000 in
theorem stuffR_bad (a : Option Addr) (b off len cap : Nat) (zs : List Int) (w : World) (hl : zs.length = len) (hb : len ≤ 1000000) (hcap : len ≤ cap) (hmax : cap ≤ maxLen) (hr : Row w a zs) (ha : zs ≠ [] → a = some ⟨b, off, none⟩) (hbad : (rightZ zs).2 ≠ 0) :
    Calls Try.prog 10 #[.slice a len cap] w fun e w' => e = .returned (.tuple #[.slice none 0 0, .int .i64 (rightZ zs).2]) ∧ Below w.heap.size w w' := by
  have hR := right_ref a b off len cap zs w hl hb hcap hmax hr ha
  obtain ⟨x, hx⟩ : ∃ x, (rightZ zs).1 = x := ⟨_, rfl⟩
  obtain ⟨y, hy⟩ : ∃ y, (rightZ zs).2 = y := ⟨_, rfl⟩
  rw [hx, hy] at hR
  rw [hy] at hbad ⊢
  have hb' : (y != 0) = true := by simpa using hbad
  clear hx hy hr ha hl
  go_enter Try.func10, Try.ntmps10
  go_wp2_with fail
  refine hR.mono ?_
  clear hR
  rintro e w1 ⟨rfl, hB1⟩
  go_wp2
  go_quiet (fail)
  go_wp2
  go_ret2
  refine ⟨rfl, ?_⟩
  exact (hB1.alloc hB1.size _).trans (Qt.below ⟨_, rfl⟩ _)

/-- One more append, onto a row of bytes of one's own. -/
theorem app_row {ops : Array Oper} {rest : List Oper} {o : Oper} {a : Act} {Q : Exit → Act → World → Prop} (W : World) (hgd : o.guard = none) (s x : Operand)
    (ho : o.op = .call { callee := .builtin .append, args := #[s, x], argTypes := #[22, 22] }) (B : Nat) (v : Value) (l : List Int) (hs : a.eval s = v) (hown : Own W B v l)
    (ad : Option Addr) (m c : Nat) (r : List Int) (hx : a.eval x = .slice ad m c) (hm : r.length = m) (hnil : ad = none → c = 0) (hrow : Row W ad r) (hlen : l.length + m ≤ 100000000000000) (hB : B ≤ W.heap.size)
    (h : ∀ v' w', Own w' B v' (l ++ r) → Below B W w' → wpList Try.prog ops Q rest (a.put o.dst v') w') : wpList Try.prog ops Q (o :: rest) a W := by
  obtain ⟨j0, hi, hz0, hz1, hz2⟩ := info_parts Try.info5
  refine wpList_append_rowk hgd s x 22 ho B 5 j0 (.int .u8 0) 1 Try.underlying22 hi hz0 hz1 hz2 rfl .u8 v l.length _ hs hown ad m c r hx hm hnil hrow (by unfold maxLen; omega) (by omega) hB ?_
  intro v2 w2 hown2 hgrow2
  exact h v2 w2 (own_snoc (by rw [hm]; exact hown2)) (grow_below hB hgrow2 hown)
/-- The same, of bytes that were laid just before. -/
theorem app_new {ops : Array Oper} {rest : List Oper} {o : Oper} {a : Act} {Q : Exit → Act → World → Prop} (W : World) (hgd : o.guard = none) (s x : Operand)
    (ho : o.op = .call { callee := .builtin .append, args := #[s, x], argTypes := #[22, 22] }) (B : Nat) (v : Value) (l : List Int) (hs : a.eval s = v) (hown : Own W B v l)
    (m : Nat) (r : List Int) (C : Array Value) (hC : (r.map (Value.int .u8)).toArray = C) (hx : a.eval x = .slice (some ⟨W.heap.size, 0, none⟩) m m) (hm : r.length = m) (hlen : l.length + m ≤ 100000000000000) (hB : B ≤ W.heap.size)
    (h : ∀ v' w', Own w' B v' (l ++ r) → Below B W w' → wpList Try.prog ops Q rest (a.put o.dst v') w') : wpList Try.prog ops Q (o :: rest) a (W.alloc (.cells C 5)) := by
  subst hC
  refine app_row _ hgd s x ho B v l hs (own_keep hown (keep W _)) _ m m r hx hm (by simp) (row_new W r) hlen (by simp; omega) ?_
  intro v' w' h1 h2
  exact h v' w' h1 (((keep W _).mono hB).trans h2)

theorem flatR_len (zs : List Int) (len : Nat) : ∀ m : List (Nat × Nat × Bool), (∀ x ∈ m, x.1 < len ∧ x.1 + x.2.1 ≤ len) → (flatZ zs m).length ≤ m.length * (len + 3)
  | [], _ => by simp [flatZ]
  | x :: m, hm => by
    have ih := flatR_len zs len m (fun y hy => hm y (by simp [hy]))
    have h0 := hm x (by simp)
    have h1 : (pieceZ zs x).length ≤ len := by simp only [pieceZ, List.length_take]; omega
    have h2 : (lineF (pieceZ zs x)).length ≤ len + 3 := by
      unfold lineF
      split <;> simp <;> omega
    have h3 : flatZ zs (x :: m) = lineF (pieceZ zs x) ++ flatZ zs m := by simp [flatZ]
    rw [h3, List.length_append, List.length_cons, Nat.succ_mul]
    omega

set_option maxRecDepth 100000 in
set_option maxHeartbeats 4000000 in
theorem stuffR_good (a : Option Addr) (b off len cap : Nat) (zs : List Int) (w : World) (hl : zs.length = len) (hb : len ≤ 1000000) (hcap : len ≤ cap) (hmax : cap ≤ maxLen) (hr : Row w a zs) (ha : zs ≠ [] → a = some ⟨b, off, none⟩) (hgood : (rightZ zs).2 = 0) :
    Calls Try.prog 10 #[.slice a len cap] w fun e w' => ∃ v, e = .returned (.tuple #[v, .int .i64 0]) ∧ Own w' w.heap.size v (frameZ zs) ∧ Below w.heap.size w w' := by
  have hR := right_ref a b off len cap zs w hl hb hcap hmax hr ha
  obtain ⟨x, hx⟩ : ∃ x, (rightZ zs).1 = x := ⟨_, rfl⟩
  rw [hx, hgood] at hR
  clear hx hgood
  have HR : Hid (Row w a zs) := hr
  have HL : Hid (zs.length = len) := hl
  have HA : Hid (zs ≠ [] → a = some ⟨b, off, none⟩) := ha
  clear hr hl ha
  go_enter Try.func10, Try.ntmps10
  go_wp2_with fail
  refine hR.mono ?_
  clear hR
  rintro e w0 ⟨rfl, hB0⟩
  have hB0' : Below w.heap.size w (w0.alloc (.cells #[.int .i64 x, .int .i64 0] 28)) := hB0.alloc hB0.size _
  have HB0 : Hid (Below w.heap.size w (w0.alloc (.cells #[.int .i64 x, .int .i64 0] 28))) := hB0'
  clear hB0 hB0'
  go_wp2_with fail
  refine (lines_ref a b off len cap zs _ HL.out hb hcap hmax (row_below HR.out HB0.out) HA.out).mono ?_
  rintro e w1 ⟨v, rfl, hO, hB⟩
  have HB1 : Hid (Below w.heap.size w w1) := HB0.out.trans (hB.mono HB0.out.size)
  obtain ⟨ls, hls⟩ : ∃ ls, linesZ 0 zs = ls := ⟨_, rfl⟩
  rw [hls] at hO
  have HLS : Hid (linesZ 0 zs = ls) := hls
  obtain ⟨av, cp, rfl⟩ := ownL_shape hO
  obtain ⟨B0, hB00⟩ : ∃ B0, (w0.alloc (.cells #[.int .i64 x, .int .i64 0] 28)).heap.size = B0 := ⟨_, rfl⟩
  rw [hB00] at hO
  clear hB00
  have hN : ls.length ≤ len := by have := linesZ_len zs.length 0 zs (Nat.le_refl _); rw [hls, HL.out] at this; exact this
  obtain ⟨N, hNN⟩ : ∃ N, ls.length = N := ⟨_, rfl⟩
  have HO : Hid (OwnL w1 B0 (.slice av N cp) b off cap ls) := by rw [← hNN]; exact hO
  rw [hNN] at hN ⊢
  have HNN : Hid (ls.length = N) := hNN
  clear hls hO hNN hB
  have HIN : Hid (∀ x ∈ ls, x.1 < len ∧ x.1 + x.2.1 ≤ len) := by
    intro x hx
    have := linesZ_in zs.length 0 zs (Nat.le_refl _) x (by rw [HLS.out]; exact hx)
    have := HL.out
    omega
  have HFB : Hid (∀ k, k ≤ N → (flatZ zs (ls.take k)).length ≤ 1000010000000) := by
    intro k hk
    have h2 := flatR_len zs len (ls.take k) (fun x hx => HIN.out x (List.mem_of_mem_take hx))
    have h3 : (ls.take k).length * (len + 3) ≤ 1000000 * 1000003 := Nat.mul_le_mul (by simp; omega) (by omega)
    omega
  go_wp2_with fail
  go_loopw [6, 7] (fun v j wr => ∃ k : Nat, j = .int .i64 k ∧ k ≤ N ∧ Own wr w1.heap.size v (flatZ zs (ls.take k)) ∧ Below w1.heap.size w1 wr) (fun _ j _ => N - (intOf j).toNat)
  case atStart => exact ⟨0, rfl, by omega, World.ownsRow_nil _ _ _ _, Below.refl _ _⟩
  case round =>
    obtain ⟨k, rfl, hk, hown, hbel⟩ := hrel
    have HW : Hid (Own wr w1.heap.size u6 (flatZ zs (ls.take k))) := hown
    have HBW : Hid (Below w1.heap.size w1 wr) := hbel
    have hsz : w1.heap.size ≤ wr.heap.size := hbel.size
    clear hown hbel
    have hfb := HFB.out k hk
    by_cases hlt : k < N
    · have hd : decide ((k : Int) < (N : Int)) = true := by simp; omega
      have hkl : k < ls.length := by rw [HNN.out]; exact hlt
      obtain ⟨g, cp', hv, hgb, hcl⟩ := lineAt HO.out (by intro h; rw [h] at hkl; simp at hkl)
      obtain ⟨rfl, hNl, rfl⟩ : av = some ⟨g, 0, none⟩ ∧ N = ls.length ∧ cp = cp' := by simpa using hv
      clear hNl hv
      have hin := HIN.out ls[k] (List.getElem_mem hkl)
      obtain ⟨q1, q2, q3⟩ := hcl k hkl
      have hgl : g < w1.heap.size := World.block_lt_of_cell? w1 _ q1
      obtain ⟨⟨p, n, ended⟩, hx⟩ : ∃ x, ls[k] = x := ⟨_, rfl⟩
      rw [hx] at q1 q2 q3 hin
      simp only at q1 q2 q3 hin
      have hne : zs ≠ [] := by intro h; have := HL.out; rw [h] at this; simp at this; omega
      obtain rfl := HA.out hne
      obtain ⟨pc, hpc⟩ : ∃ pc, (zs.drop p).take n = pc := ⟨_, rfl⟩
      have hrow : ∀ X, Below w1.heap.size w1 X → Row X (some ⟨b, off + p, none⟩) pc := by
        intro X hX
        have hl := HL.out
        have h := row_take n (row_drop (n := p) (cap := cap) (row_below HR.out (HB1.out.trans (hX.mono HB1.out.size))) (by omega))
        rw [if_neg (by omega), hpc] at h
        simp only [Option.map_some, add_plain] at h
        exact h
      have HROW : Hid (∀ X, Below w1.heap.size w1 X → Row X (some ⟨b, off + p, none⟩) pc) := hrow
      have HPL : Hid (pc.length = n) := by unfold Hid; rw [← hpc]; simp; have := HL.out; omega
      have HFL : Hid (flatZ zs (ls.take (k + 1)) = flatZ zs (ls.take k) ++ lineF pc) := by
        unfold Hid
        rw [List.take_succ_eq_append_getElem hkl, hx]
        simp [flatZ, pieceZ, hpc]
      have hn1 : n ≤ 1000000 := by omega
      have q2' : ∀ X, Below w1.heap.size w1 X → X.cell? ⟨g, k * 3 + 1, none⟩ = some (.slice (some ⟨b, off + p, none⟩) n (cap - p)) := fun X hX => (hX.cell (p := ⟨g, k * 3 + 1, none⟩) hgl).trans q2
      have HQ2 : Hid (∀ X, Below w1.heap.size w1 X → X.cell? ⟨g, k * 3 + 1, none⟩ = some (.slice (some ⟨b, off + p, none⟩) n (cap - p))) := q2'
      have r2 := q2' wr HBW.out
      have hadd : ∀ j, (⟨g, 0, none⟩ : Addr).add j = ⟨g, j, none⟩ := fun j => by rw [add_plain]; simp
      have hadd1 : (⟨g, k * 3, none⟩ : Addr).add 1 = ⟨g, k * 3 + 1, none⟩ := add_plain _ _ _
      have HEAD : Hid (pc = [] ∨ ∃ q, pc.head? = some q ∧ wr.cell? ⟨b, off + p, none⟩ = some (.int .u8 q)) := by
        rcases hrow wr HBW.out with h | ⟨b', off', hb', hc⟩
        · exact .inl h
        · cases hb'
          cases pc with
          | nil => exact .inl rfl
          | cons q pc' => exact .inr ⟨q, rfl, by have := hc 0 (by simp); simpa using this⟩
      obtain ⟨fl, hfl⟩ : ∃ fl, flatZ zs (ls.take k) = fl := ⟨_, rfl⟩
      rw [hfl] at HW HFL hfb
      clear hcl hin hx hpc hrow q1 q2 q3 q2' hgb hfl
      by_cases hn0 : n = 0
      · subst hn0
        have hpc0 : pc = [] := List.eq_nil_of_length_eq_zero HPL.out
        have HLINE : Hid (lineF pc = pc ++ [13, 10]) := by unfold Hid; rw [hpc0]; rfl
        clear hpc0
        go_wp2_with (at_builtin; refine app_row wr rfl (.tmp 43) (.tmp 48) rfl w1.heap.size u6 (fl) rfl HW.out (some ⟨b, off + p, none⟩) 0 (cap - p) pc rfl HPL.out (by simp) (HROW.out _ HBW.out) (by first | omega | (simp; omega)) HBW.out.size ?_)
        intro v5 x5 hO5 hB5
        have OW5 : Hid (Own x5 w1.heap.size v5 (fl ++ pc)) := by unfold Hid; simpa using hO5
        have BW5 : Hid (Below w1.heap.size w1 x5) := Below.trans HBW.out hB5
        clear hO5 hB5
        go_wp2_with (at_builtin; refine app_new x5 rfl (.tmp 50) (.tmp 51) rfl w1.heap.size v5 (fl ++ pc) rfl OW5.out 2 [13, 10] #[.int .u8 13, .int .u8 10] rfl rfl rfl (by have := HPL.out; simp; omega) BW5.out.size ?_)
        intro v6 x6 hO6 hB6
        have OW6 : Hid (Own x6 w1.heap.size v6 (fl ++ pc ++ [13, 10])) := by unfold Hid; simpa using hO6
        have BW6 : Hid (Below w1.heap.size w1 x6) := BW5.out.trans hB6
        clear hO6 hB6
        go_wp2
        go_roundw
        case rel => exact ⟨k + 1, by rw [show ((k + 1 : Nat) : Int) = (k : Int) + 1 from by omega], by omega, by rw [HFL.out]; have := OW6.out; rw [HLINE.out, ← List.append_assoc]; exact this, BW6.out⟩
        case measure => simp [intOf]; omega
      · have hd2 : decide ((n : Int) > 0) = true := by simp; omega
        rcases HEAD.out with h | ⟨q, hq, hcq⟩
        · have := HPL.out; rw [h] at this; simp at this; omega
        have hadd0 : (⟨b, off + p, none⟩ : Addr).add 0 = ⟨b, off + p, none⟩ := by rw [add_plain]; rfl
        by_cases hq46 : q = 46
        · subst hq46
          have HLINE : Hid (lineF pc = [46] ++ (pc ++ [13, 10])) := by unfold Hid lineF; rw [if_pos hq]
          go_wp2_with (at_builtin; refine app_new wr rfl (.tmp 40) (.tmp 41) rfl w1.heap.size u6 fl rfl HW.out 1 [46] #[.int .u8 46] rfl rfl rfl (by omega) hsz ?_)
          intro v4 x4 hO4 hB4
          have OW4 : Hid (Own x4 w1.heap.size v4 (fl ++ [46])) := hO4
          have BW4 : Hid (Below w1.heap.size w1 x4) := HBW.out.trans hB4
          have r4 := HQ2.out x4 BW4.out
          clear hO4 hB4
          go_wp2_with (at_builtin; refine app_row x4 rfl (.tmp 43) (.tmp 48) rfl w1.heap.size v4 (fl ++ [46]) rfl OW4.out (some ⟨b, off + p, none⟩) n (cap - p) pc rfl HPL.out (by simp) (HROW.out _ BW4.out) (by first | omega | (simp; omega)) BW4.out.size ?_)
          intro v5 x5 hO5 hB5
          have OW5 : Hid (Own x5 w1.heap.size v5 (fl ++ [46] ++ pc)) := by unfold Hid; simpa using hO5
          have BW5 : Hid (Below w1.heap.size w1 x5) := Below.trans BW4.out hB5
          clear hO5 hB5
          go_wp2_with (at_builtin; refine app_new x5 rfl (.tmp 50) (.tmp 51) rfl w1.heap.size v5 (fl ++ [46] ++ pc) rfl OW5.out 2 [13, 10] #[.int .u8 13, .int .u8 10] rfl rfl rfl (by have := HPL.out; simp; omega) BW5.out.size ?_)
          intro v6 x6 hO6 hB6
          have OW6 : Hid (Own x6 w1.heap.size v6 (fl ++ [46] ++ pc ++ [13, 10])) := by unfold Hid; simpa using hO6
          have BW6 : Hid (Below w1.heap.size w1 x6) := BW5.out.trans hB6
          clear hO6 hB6
          go_wp2
          go_roundw
          case rel => exact ⟨k + 1, by rw [show ((k + 1 : Nat) : Int) = (k : Int) + 1 from by omega], by omega, by rw [HFL.out]; have := OW6.out; rw [HLINE.out]; simpa [List.append_assoc] using this, BW6.out⟩
          case measure => simp [intOf]; omega
        · have hq' : (q == 46) = false := by rw [beq_eq_false_iff_ne]; exact hq46
          have HLINE : Hid (lineF pc = pc ++ [13, 10]) := by unfold Hid lineF; rw [hq, if_neg (by simpa using hq46)]; rfl
          go_wp2_with (at_builtin; refine app_row wr rfl (.tmp 43) (.tmp 48) rfl w1.heap.size u6 (fl) rfl HW.out (some ⟨b, off + p, none⟩) n (cap - p) pc rfl HPL.out (by simp) (HROW.out _ HBW.out) (by first | omega | (simp; omega)) HBW.out.size ?_)
          intro v5 x5 hO5 hB5
          have OW5 : Hid (Own x5 w1.heap.size v5 (fl ++ pc)) := by unfold Hid; simpa using hO5
          have BW5 : Hid (Below w1.heap.size w1 x5) := Below.trans HBW.out hB5
          clear hO5 hB5
          go_wp2_with (at_builtin; refine app_new x5 rfl (.tmp 50) (.tmp 51) rfl w1.heap.size v5 (fl ++ pc) rfl OW5.out 2 [13, 10] #[.int .u8 13, .int .u8 10] rfl rfl rfl (by have := HPL.out; simp; omega) BW5.out.size ?_)
          intro v6 x6 hO6 hB6
          have OW6 : Hid (Own x6 w1.heap.size v6 (fl ++ pc ++ [13, 10])) := by unfold Hid; simpa using hO6
          have BW6 : Hid (Below w1.heap.size w1 x6) := BW5.out.trans hB6
          clear hO6 hB6
          go_wp2
          go_roundw
          case rel => exact ⟨k + 1, by rw [show ((k + 1 : Nat) : Int) = (k : Int) + 1 from by omega], by omega, by rw [HFL.out]; have := OW6.out; rw [HLINE.out, ← List.append_assoc]; exact this, BW6.out⟩
          case measure => simp [intOf]; omega
    · have hd : decide ((k : Int) < (N : Int)) = false := by simp; omega
      have HFR : Hid (flatZ zs (ls.take k) ++ [46, 13, 10] = frameZ zs) := by
        unfold Hid frameZ
        rw [HLS.out, List.take_of_length_le (by rw [HNN.out]; omega)]
      go_wp2_with (at_builtin; refine app_new wr rfl (.tmp 53) (.tmp 54) rfl w1.heap.size u6 _ rfl HW.out 3 [46, 13, 10] #[.int .u8 46, .int .u8 13, .int .u8 10] rfl rfl rfl (by omega) hsz ?_)
      intro v4 x4 hO4 hB4
      have OW4 : Hid (Own x4 w1.heap.size v4 (frameZ zs)) := by unfold Hid; rw [← HFR.out]; exact hO4
      have BW4 : Hid (Below w1.heap.size w1 x4) := HBW.out.trans hB4
      clear hO4 hB4
      go_wp2
      go_ret2
      exact ⟨v4, rfl, own_base HB1.out.size OW4.out, HB1.out.trans (BW4.out.mono HB1.out.size)⟩
end Go.Proofs.Ytlpbgfepneoajaa
