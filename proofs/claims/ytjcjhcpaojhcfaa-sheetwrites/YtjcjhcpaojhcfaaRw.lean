/-
  The document's answers: Write.
-/
import Derived.Test.YtjcjhcpaojhcfaaRp
namespace Go.Proofs.Ytjcjhcpaojhcfaa
open Go.RowKit
set_option linter.unusedVariables false

theorem cut_s (l : List Int) (m : Nat) : Ut.cutZ l (m + 1) = if m + 1 < l.length ∧ l.getD (m + 1) 0 / 64 = 2 then Ut.cutZ l m else m + 1 := rfl
theorem cut_cons (c : Int) (l : List Int) (h0 : 0 < l.length → ¬ l.getD 0 0 / 64 = 2) : ∀ m : Nat, Ut.cutZ (c :: l) (m + 1) = Ut.cutZ l m + 1
  | 0 => by
    rw [cut_s, if_neg]
    · rfl
    · rintro ⟨h1, h2⟩
      simp at h1
      exact h0 (by simpa [List.length_pos_iff] using h1) (by simpa using h2)
  | m + 1 => by
    have ih := cut_cons c l h0 m
    rw [cut_s (c :: l) (m + 1), cut_s l m, ih]
    have e : (c :: l).getD (m + 1 + 1) 0 = l.getD (m + 1) 0 := by simp
    rw [e]
    by_cases h : m + 1 < l.length ∧ l.getD (m + 1) 0 / 64 = 2
    · rw [if_pos h, if_pos ⟨by simp; omega, h.2⟩]
    · rw [if_neg h, if_neg (fun q => h ⟨by have := q.1; simp at this; omega, q.2⟩)]
theorem cut_front (f l ps : List Int) (hps : Ut.AllPt ps) (hl : l = Ut.flat ps) (hf : f = [] ∨ f = [32]) : Ut.cutZ (f ++ l) 75 = f.length + Ut.cutZ l (75 - f.length) := by
  rcases hf with rfl | rfl
  · simp
  · have := cut_cons 32 l (fun h => by rw [hl] at h ⊢; exact Ut.front_byte hps h) 74
    show Ut.cutZ (32 :: l) 75 = 1 + Ut.cutZ l 74
    rw [this]; omega
theorem flat_front (f ps : List Int) (hf : f = [] ∨ f = [32]) : Ut.flat (f ++ ps) = f ++ Ut.flat ps := by
  rcases hf with rfl | rfl
  · rfl
  · rw [Ut.flat_append]; rfl
theorem all_front (f ps : List Int) (hf : f = [] ∨ f = [32]) (h : Ut.AllPt ps) : Ut.AllPt (f ++ ps) := by
  rcases hf with rfl | rfl
  · exact h
  · intro x hx
    rcases List.mem_append.1 hx with q | q
    · simp at q; subst q; decide
    · exact h x q
theorem fold_next (f l qs : List Int) (fuel : Nat) (hf : f = [] ∨ f = [32]) (hqs : Ut.AllPt qs) (hl : l = Ut.flat qs) (hfu : l.length ≤ fuel) (h : 75 < f.length + l.length) :
    ∃ d q2 n, n + 1 = fuel ∧ Ut.cutZ (f ++ l) 75 = f.length + d ∧ 71 ≤ d ∧ f.length + d ≤ 75 ∧ d ≤ l.length ∧ Ut.AllPt q2 ∧ l.drop d = Ut.flat q2 ∧ foldZ fuel f l = (f ++ l.take d) :: foldZ n [32] (l.drop d) := by
  have hf1 : f.length ≤ 1 := by rcases hf with rfl | rfl <;> simp
  obtain ⟨q1, q2, h1, h2, h3, h4⟩ := Ut.cut_split qs hqs (75 - f.length) (by rw [← hl]; omega)
  rw [← hl] at h2
  obtain ⟨n, rfl⟩ : ∃ n, fuel = n + 1 := ⟨fuel - 1, by omega⟩
  have e : l = Ut.flat q1 ++ Ut.flat q2 := by rw [hl, h1, Ut.flat_append]
  refine ⟨(Ut.flat q1).length, q2, n, rfl, ?_, by omega, by omega, by rw [e]; simp, fun x hx => hqs x (by rw [h1]; simp [hx]), by rw [e]; simp, ?_⟩
  · rw [cut_front f l qs hqs hl hf, h2]
  · rw [foldZ, if_pos h, h2]
theorem fold_last (f l : List Int) (fuel : Nat) (h : ¬ 75 < f.length + l.length) : foldZ fuel f l = [f ++ l] := by
  cases fuel with
  | zero => rfl
  | succ n => rw [foldZ, if_neg h]
theorem grown_own {x y : World} {B : Nat} {v : Value} {n : Nat} {xs : List Value} (hs : B ≤ x.heap.size) (ho : x.ownsRow B 5 1 v n xs) (hg : x.grownBy y v.ownBlock) : Below B x y :=
  (Below.refl _ _).grown hg hs (fun q hq => by
    rcases ho.2 with ⟨h, _⟩ | ⟨g, cp, cur, h, h2, _⟩
    · rw [h] at hq; simp [Value.ownBlock] at hq
    · rw [h] at hq; simp [Value.ownBlock] at hq; omega)
set_option maxHeartbeats 8000000 in
set_option maxRecDepth 100000 in
theorem rwrite_any (a : Option Addr) (len cap : Nat) (ls : List Lm) (w : World) (hn : ls.length = len) (hbig : len ≤ 9223372036854775807) (hr : LRow w a ls) (hsz : ∀ m ∈ ls, Fitm m) : Calls Try.prog 9 #[.slice a len cap] w (WPost w ls) := by
  obtain ⟨j0, hi, hz0, hz1, hz2⟩ := info_parts Try.info5
  have HR : Hid (LRow w a ls) := hr
  have HSZ : Hid (∀ m ∈ ls, Fitm m) := hsz
  clear hr hsz
  by_cases h128 : 4096 < len
  · have hd : decide ((4096 : Int) < (len : Int)) = true := by simp; omega
    have HC : Hid (writeC ls = 2 ∧ writeB ls = []) := by
      have h : writeC ls = 2 := by unfold writeC; rw [hn, if_pos h128]
      exact ⟨h, by unfold writeB; rw [h]; rfl⟩
    go_enter Try.func9, Try.ntmps9
    go_wp2
    go_ret2
    exact ⟨.slice none 0 0, by rw [HC.out.1]; rfl, by rw [HC.out.2]; exact World.ownsRow_nil _ _ _ _, Below.refl _ _⟩
  have hd : decide ((4096 : Int) < (len : Int)) = false := by simp; omega
  go_enter Try.func9, Try.ntmps9
  go_wp2
  go_loopw [5, 4, 6, 7] (fun i v _ _ wr => ∃ k : Nat, i = .int .i64 k ∧ k ≤ len ∧ (ls.take k).all okM = true ∧ Own wr w.heap.size v (outM (ls.take k)) ∧ Below w.heap.size w wr) (fun i _ _ _ _ => len - (intOf i).toNat)
  case atStart => exact ⟨0, rfl, by omega, by simp, World.ownsRow_nil _ _ _ _, Below.refl _ _⟩
  case round =>
    obtain ⟨k, rfl, hk, hall, hown, hb⟩ := hrel
    have HA : Hid ((ls.take k).all okM = true) := hall
    have HO : Hid (Own wr w.heap.size u4 (outM (ls.take k))) := hown
    have HB : Hid (Below w.heap.size w wr) := hb
    have hrw := HR.out.below hb
    clear hall hown hb
    by_cases hlt : k < len
    · have dk : decide ((k : Int) < (len : Int)) = true := by simp; omega
      obtain ⟨m, hmk⟩ : ∃ m, ls[k]? = some m := ⟨_, List.getElem?_eq_getElem (by omega)⟩
      have hfs := HSZ.out m (List.mem_of_getElem? hmk)
      have HTK : Hid (outM (ls.take (k + 1)) = outM (ls.take k) ++ endW (linesM m)) := by unfold Hid; rw [List.take_add_one, hmk]; exact outM_snoc _ _
      have HTA : Hid (okM m = true → (ls.take (k + 1)).all okM = true) := fun h => by rw [List.take_add_one, hmk]; simp [HA.out, h]
      have HNO : Hid (okM m = false → writeC ls = 90 ∧ writeB ls = []) := fun h => by
        have h1 : ls.all okM = false := by
          rw [List.all_eq_false]
          exact ⟨m, List.mem_of_getElem? hmk, by rw [h]; simp⟩
        have h2 : writeC ls = 90 := by unfold writeC; rw [hn, if_neg h128, if_pos h1]
        exact ⟨h2, by unfold writeB; rw [h2]; rfl⟩
      have HWS : Hid (okM m = true → (∃ ps, Ut.AllPt ps ∧ writtenZ m.ln = Ut.flat ps) ∧ (writtenZ m.ln).length ≤ 10000) := fun h => ⟨written_split m h, written_len m h⟩
      have HLM : Hid (linesM m = foldL (writtenZ m.ln)) := rfl
      have hwb := written_byt m.nm m.vl m.fs
      have hacc : (outM (ls.take k)).length ≤ 204800000 := by
        have h1 := outM_len (ls.take k) HA.out
        have h2 : (ls.take k).length ≤ 4096 := by simp; omega
        omega
      obtain ⟨nm, vl, ma, mc, fs⟩ := m
      obtain ⟨z1, z2, z3, z4⟩ := hfs
      obtain ⟨b, off, rfl, hcc⟩ : ∃ b off, a = some ⟨b, off, none⟩ ∧ ∀ i m, ls[i]? = some m → (wr.cell? ⟨b, off + i * 3, none⟩ = some (.string m.nm) ∧ wr.cell? ⟨b, off + i * 3 + 1, none⟩ = some (.slice m.a m.fs.length m.c) ∧ wr.cell? ⟨b, off + i * 3 + 2, none⟩ = some (.string m.vl)) ∧ FRow wr m.a m.fs := by
        rcases hrw with h | h
        · rw [h] at hn; simp at hn; omega
        · exact h
      obtain ⟨⟨hc1, hc2, hc3⟩, hfr⟩ := hcc k _ hmk
      clear hcc hmk
      simp only [Lm.ln] at hc1 hc2 hc3 hfr z1 z2 z3 z4 hwb HLM HWS
      have hright := rright_any nm vl ma fs.length mc fs wr rfl hfr (by omega) (by omega) (fun f hf => by have := z4 f hf; omega)
      unfold lineV at hright
      have HFR : Hid (FRow wr ma fs) := hfr
      clear hfr
      go_wp2_with fail
      refine hright.mono ?_
      rintro e w1 ⟨rfl, hb1⟩
      have HB1 : Hid (Below w.heap.size w w1) := HB.out.trans (hb1.mono HB.out.size)
      have HO1 : Hid (Own w1 w.heap.size u4 (outM (ls.take k))) := own_keep HO.out hb1
      have lb := World.block_lt_of_cell? wr _ hc1
      have d1 : w1.cell? ⟨b, off + k * 3, none⟩ = some (.string nm) := (hb1.cell lb).trans hc1
      have d2 : w1.cell? ⟨b, off + k * 3 + 1, none⟩ = some (.slice ma fs.length mc) := (hb1.cell (p := ⟨b, off + k * 3 + 1, none⟩) lb).trans hc2
      have d3 : w1.cell? ⟨b, off + k * 3 + 2, none⟩ = some (.string vl) := (hb1.cell (p := ⟨b, off + k * 3 + 2, none⟩) lb).trans hc3
      have hfr1 := HFR.out.below hb1
      clear hb1 hright hc1 hc2 hc3 lb HO HFR hrw
      cases hok : rightZ ⟨nums nm, numsP fs, nums vl⟩ with
      | false =>
        have HF : Hid (writeC ls = 90 ∧ writeB ls = []) := HNO.out hok
        go_wp2
        go_ret2
        exact ⟨.slice none 0 0, by rw [HF.out.1]; rfl, by rw [HF.out.2]; exact World.ownsRow_nil _ _ _ _, HB1.out⟩
      | true =>
        obtain ⟨⟨ps, hps, hpf⟩, hwl⟩ := HWS.out hok
        have hplain := rplain_any nm vl ma fs.length mc fs w1 rfl hfr1 z3 z1 z2 z4
        unfold lineV at hplain
        obtain ⟨wl, hwle⟩ : ∃ wl, writtenZ ⟨nums nm, numsP fs, nums vl⟩ = wl := ⟨_, rfl⟩
        rw [hwle] at hplain hpf hwl hwb HLM
        have hsn : nums (strOfNums wl) = wl := nums_str hwb
        obtain ⟨ws, hws⟩ : ∃ ws, strOfNums wl = ws := ⟨_, rfl⟩
        rw [hws] at hsn hplain
        clear hws hwle hfr1 HNO HWS
        go_wp2_with fail
        refine hplain.mono ?_
        rintro e w2 ⟨rfl, hb2⟩
        have HB2 : Hid (Below w.heap.size w w2) := HB1.out.trans (hb2.mono HB1.out.size)
        have HO2 : Hid (Own w2 w.heap.size u4 (outM (ls.take k))) := own_keep HO1.out hb2
        have HSN : Hid (nums ws = wl) := hsn
        have HPS : Hid (Ut.AllPt ps ∧ wl = Ut.flat ps) := ⟨hps, hpf⟩
        obtain ⟨acc, hae⟩ : ∃ acc, outM (ls.take k) = acc := ⟨_, rfl⟩
        have HAE : Hid (outM (ls.take k) = acc) := hae
        rw [hae] at HO2 hacc
        have hwz : ws.size = wl.length := by rw [← nums_len, hsn]
        clear hb2 hplain d1 d2 d3 hsn hps hpf hae HO1 HB1 HB
        go_wp2
        go_loopw [6, 4, 7] (fun s v _ wx => ∃ (t : ByteArray) (f l qs pre : List Int) (fuel : Nat), s = .string t ∧ (f = [] ∨ f = [32]) ∧ nums t = f ++ l ∧ Ut.AllPt qs ∧ l = Ut.flat qs ∧ l.length ≤ fuel ∧ l.length ≤ 10000 ∧ Own wx w.heap.size v pre ∧ pre.length + 4 * l.length ≤ 204900000 ∧ pre ++ endW (foldZ fuel f l) = acc ++ endW (foldL wl) ∧ Below w.heap.size w wx) (fun s _ _ _ => match s with | .string t => t.size | _ => 0)
        case atStart => exact ⟨ws, [], wl, ps, acc, wl.length, rfl, .inl rfl, HSN.out, HPS.out.1, HPS.out.2, Nat.le_refl _, hwl, HO2.out, by omega, rfl, HB2.out⟩
        case round =>
          obtain ⟨t, f, l, qs, pre, fuel, rfl, hf, htn, hqs, hlq, hlf, hl1, hown, hpl, hfo, hb⟩ := hrel
          have HF : Hid (f = [] ∨ f = [32]) := hf
          have HTN : Hid (nums t = f ++ l) := htn
          have HQS : Hid (Ut.AllPt qs ∧ l = Ut.flat qs) := ⟨hqs, hlq⟩
          have HO3 : Hid (Own wr w.heap.size u4 pre) := hown
          have HFO : Hid (pre ++ endW (foldZ fuel f l) = acc ++ endW (foldL wl)) := hfo
          have HB3 : Hid (Below w.heap.size w wr) := hb
          have hf1 : f.length ≤ 1 := by rcases hf with rfl | rfl <;> simp
          have htz : t.size = f.length + l.length := by rw [← nums_len, htn, List.length_append]
          have HTZ : Hid (t.size = f.length + l.length) := htz
          have hsz : w.heap.size ≤ wr.heap.size := hb.size
          by_cases h75 : 75 < t.size
          · have dk2 : decide ((75 : Int) < (t.size : Int)) = true := by simp; omega
            have dk3 : decide ((t.size : Int) > 75) = true := by simp; omega
            obtain ⟨d, q2, n, hn1, hcz, hd1, hd2, hd3, hq2, hq2f, hfn⟩ := fold_next f l qs fuel hf hqs hlq hlf (by omega)
            obtain ⟨cap1, w3, kc, hcap, hmx, hrow, hbc, hfz⟩ := conv_bytes t wr (by unfold maxLen; omega)
            have hcut := Ut.rcut_yes _ t.size cap1 75 (f ++ qs) w3 (by omega) (by omega) (by rw [flat_front f qs hf, ← hlq, ← htn, nums_len]) (all_front f qs hf hqs) hcap (by unfold maxLen; omega) (by omega) (by rw [flat_front f qs hf, ← hlq, ← htn]; exact hrow)
            have hm0 : Ut.m0Z (75 : Int) t.size = 75 := by unfold Ut.m0Z; omega
            rw [hm0, flat_front f qs hf, ← hlq, hcz] at hcut
            obtain ⟨c, hc⟩ : ∃ c, f.length + d = c := ⟨_, rfl⟩
            have HC : Hid (f.length + d = c) := hc
            rw [hc] at hcut hd2
            have hct : c ≤ t.size := by omega
            have HBc : Hid (Below w.heap.size w w3) := HB3.out.trans (hbc.mono HB3.out.size)
            have HOc : Hid (Own w3 w.heap.size u4 pre) := own_keep HO3.out hbc
            clear hrow hbc hfz hm0 hb hown hfo hqs hlq htn hf hcz htz
            go_wp2_with fail
            refine hcut.mono ?_
            rintro e w4 ⟨rfl, hb4⟩
            have HBx0 : Hid (Below w.heap.size w w4) := HBc.out.trans (hb4.mono HBc.out.size)
            have OW0 : Hid (Own w4 w.heap.size u4 pre) := own_keep HOc.out hb4
            have HZ1 : Hid ((t.extract 0 c).size ≤ 75) := by unfold Hid; rw [← nums_len, nums_to, List.length_take]; omega
            have hsz : w.heap.size ≤ w4.heap.size := HBx0.out.size
            clear hb4 hcut
            go_wp2_with (at_builtin; refine Lib.wpList_append_own_string _ rfl (.tmp 34) (.tmp 37) 25 9 rfl w.heap.size 5 j0 Try.underlying25 Try.underlying9 hi hz0 hz1 hz2 _ pre.length _ rfl OW0.out (t.extract 0 c) rfl (by have := HZ1.out; unfold maxLen; omega) (by have := HZ1.out; omega) hsz ?_)
            intro v1 x1 hown1 hgrow1 _
            have OW1 : Hid (Own x1 w.heap.size v1 (pre ++ nums (t.extract 0 c))) := own_of hown1 (by first | (simp [nums_len]; done) | (simp [nums_len]; omega)) (by rw [str_cells]; simp)
            have HBx1 : Hid (Below w.heap.size w x1) := HBx0.out.trans (grown_own hsz OW0.out hgrow1)
            have hsz1 : w.heap.size ≤ x1.heap.size := HBx1.out.size
            obtain ⟨n1, hn1⟩ : ∃ n1, (pre ++ nums (t.extract 0 c)).length = n1 := ⟨_, rfl⟩
            have hnb1 : n1 ≤ 300000000 := by have := HZ1.out; rw [← hn1, List.length_append, nums_len]; omega
            have ol1 : Hid (x1.ownsRow w.heap.size 5 1 v1 n1 ((pre ++ nums (t.extract 0 c)).map (Value.int .u8))) := by have := OW1.out; unfold Own at this; rw [hn1] at this; exact this
            clear hown1 hgrow1
            go_wp2_with (at_builtin; refine wpList_append_own _ rfl (.tmp 39) (.tmp 40) 25 rfl w.heap.size 5 j0 (.int .u8 0) 1 1 Try.underlying25 hi hz0 hz1 hz2 rfl (by decide) _ n1 _ rfl (own_keep ol1.out (keep x1 _)) ⟨x1.heap.size, 0, none⟩ 2 2 [.int .u8 13, .int .u8 10] rfl rfl (cells_new x1 _ 5) (by simp [Value.oneCell']) (by unfold maxLen; omega) (by omega) (by simp; omega) ?_)
            intro v2 x2 hown2 hgrow2 _
            have OW2 : Hid (Own x2 w.heap.size v2 (pre ++ nums (t.extract 0 c) ++ [13, 10])) := own_of hown2 (by simp at hn1 ⊢; omega) (by simp)
            have HBx2 : Hid (Below w.heap.size w x2) := (HBx1.out.alloc hsz1 _).trans (grown_own (by simp; omega) (own_keep ol1.out (keep x1 _)) hgrow2)
            clear hown2 hgrow2 hn1
            have HX : Hid (nums (t.extract 0 c) = f ++ l.take d) := by
              unfold Hid
              rw [nums_to, HTN.out, ← HC.out, List.take_append, List.take_of_length_le (by omega)]
              congr 2
              omega
            have HY : Hid (nums ((⟨#[32]⟩ : ByteArray) ++ t.extract c t.size) = [32] ++ l.drop d) := by
              unfold Hid
              rw [nums_append, nums_from, HTN.out, ← HC.out, List.drop_append, List.drop_of_length_le (by omega)]
              show [32] ++ _ = _
              rw [List.nil_append]
              congr 2
              omega
            go_wp2
            go_roundw
            case rel =>
              refine ⟨_, [32], l.drop d, q2, pre ++ nums (t.extract 0 c) ++ [13, 10], n, rfl, .inr rfl, HY.out, hq2, hq2f, by rw [List.length_drop]; omega, by rw [List.length_drop]; omega, OW2.out, ?_, ?_, HBx2.out⟩
              · have := HZ1.out
                rw [← nums_len] at this
                simp only [List.length_append, List.length_drop, List.length_cons, List.length_nil]
                omega
              · rw [← HFO.out, hfn, HX.out]
                simp [endW]
            case measure =>
              have hy := congrArg List.length HY.out
              rw [nums_len] at hy
              simp only [List.length_append, List.length_cons, List.length_nil, List.length_drop] at hy
              have := HTZ.out
              have := HC.out
              simp only
              omega
          · have dk2 : decide ((75 : Int) < (t.size : Int)) = false := by simp; omega
            have dk3 : decide ((t.size : Int) > 75) = false := by simp; omega
            have HBx0 : Hid (Below w.heap.size w wr) := HB3.out
            have OW0 : Hid (Own wr w.heap.size u4 pre) := HO3.out
            have HZ1 : Hid (t.size ≤ 75) := by unfold Hid; omega
            have HX : Hid (outM (ls.take (k + 1)) = pre ++ nums t ++ [13, 10]) := by
              unfold Hid
              rw [HTK.out, HAE.out, HLM.out, ← HFO.out, fold_last f l fuel (by omega), HTN.out]
              simp [endW]
            clear hb hown hfo hqs hlq htn hf htz
            go_wp2_with (at_builtin; refine Lib.wpList_append_own_string _ rfl (.tmp 46) (.tmp 47) 25 9 rfl w.heap.size 5 j0 Try.underlying25 Try.underlying9 hi hz0 hz1 hz2 _ pre.length _ rfl OW0.out t rfl (by have := HZ1.out; unfold maxLen; omega) (by have := HZ1.out; omega) hsz ?_)
            intro v1 x1 hown1 hgrow1 _
            have OW1 : Hid (Own x1 w.heap.size v1 (pre ++ nums t)) := own_of hown1 (by first | (simp [nums_len]; done) | (simp [nums_len]; omega)) (by rw [str_cells]; simp)
            have HBx1 : Hid (Below w.heap.size w x1) := HBx0.out.trans (grown_own hsz OW0.out hgrow1)
            have hsz1 : w.heap.size ≤ x1.heap.size := HBx1.out.size
            obtain ⟨n1, hn1⟩ : ∃ n1, (pre ++ nums t).length = n1 := ⟨_, rfl⟩
            have hnb1 : n1 ≤ 300000000 := by have := HZ1.out; rw [← hn1, List.length_append, nums_len]; omega
            have ol1 : Hid (x1.ownsRow w.heap.size 5 1 v1 n1 ((pre ++ nums t).map (Value.int .u8))) := by have := OW1.out; unfold Own at this; rw [hn1] at this; exact this
            clear hown1 hgrow1
            go_wp2_with (at_builtin; refine wpList_append_own _ rfl (.tmp 49) (.tmp 50) 25 rfl w.heap.size 5 j0 (.int .u8 0) 1 1 Try.underlying25 hi hz0 hz1 hz2 rfl (by decide) _ n1 _ rfl (own_keep ol1.out (keep x1 _)) ⟨x1.heap.size, 0, none⟩ 2 2 [.int .u8 13, .int .u8 10] rfl rfl (cells_new x1 _ 5) (by simp [Value.oneCell']) (by unfold maxLen; omega) (by omega) (by simp; omega) ?_)
            intro v2 x2 hown2 hgrow2 _
            have OW2 : Hid (Own x2 w.heap.size v2 (pre ++ nums t ++ [13, 10])) := own_of hown2 (by simp at hn1 ⊢; omega) (by simp)
            have HBx2 : Hid (Below w.heap.size w x2) := (HBx1.out.alloc hsz1 _).trans (grown_own (by simp; omega) (own_keep ol1.out (keep x1 _)) hgrow2)
            clear hown2 hgrow2 hn1
            go_wp2
            go_roundw
            case rel => exact ⟨k + 1, by go_num, by omega, HTA.out hok, by rw [HX.out]; exact OW2.out, HBx2.out⟩
            case measure => simp [intOf]; omega
    · have dk : decide ((k : Int) < (len : Int)) = false := by simp; omega
      have HE : Hid (writeC ls = 0 ∧ writeB ls = outM (ls.take k)) := by
        have h1 : ls.take k = ls := List.take_of_length_le (by omega)
        have h2 := HA.out
        rw [h1] at h2 ⊢
        have h3 : writeC ls = 0 := by unfold writeC; rw [hn, if_neg h128, if_neg (by rw [h2]; simp)]
        exact ⟨h3, by unfold writeB; rw [h3]; rfl⟩
      go_wp2
      go_ret2
      exact ⟨u4, by rw [HE.out.1]; rfl, by rw [HE.out.2]; exact HO.out, HB.out⟩
end Go.Proofs.Ytjcjhcpaojhcfaa
