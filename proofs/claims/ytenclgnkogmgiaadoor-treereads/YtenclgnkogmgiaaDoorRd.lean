/-
  Read.
-/
import Derived.Test.YtenclgnkogmgiaaDoorRj
namespace Go.Proofs.YtenclgnkogmgiaaDoor
open Go.RowKit Go.Shelf
set_option linter.unusedVariables false
attribute [local go_sem] Oper.semAt_some

/-- At the label: what is wrong lies in block F. -/
def JF (w : World) (sl : Value) (l : List Int) (a : Act) (W : World) : Prop :=
  ∃ (F p : Nat) (code : Int) (rs : List Nat), (∃ u1 u2 u4 u5 u6 u8 u9 u10 u11 u12 u13 u14 u15 u16 u17 u18 u19 u20 u21 u22 u23 u24 u25 u26 u27 u28 u29 u30 u31 u32 u33 u34 u35 u36 u37 u38 u39 u40 u41 u42 u43 u44 u45 u46 u47 u48 u49 u50 u51 u52 u53 u54 u55 u56 u57 u58 u59 u60 u61 u62 : Value, a = { tmps := #[sl, u1, u2, .pointer (some ⟨w.heap.size, 0, none⟩), u4, u5, u6, .pointer (some ⟨F, 0, none⟩), u8, u9, u10, u11, u12, u13, u14, u15, u16, u17, u18, u19, u20, u21, u22, u23, u24, u25, u26, u27, u28, u29, u30, u31, u32, u33, u34, u35, u36, u37, u38, u39, u40, u41, u42, u43, u44, u45, u46, u47, u48, u49, u50, u51, u52, u53, u54, u55, u56, u57, u58, u59, u60, u61, u62], defers := rs.map mark }) ∧ Blk W w.heap.size #[.int .i64 0, .int .i64 0] 56 ∧ Blk W F #[.int .i64 (p : Nat), .int .i64 code] 56 ∧ w.heap.size < F ∧ Below w.heap.size w W ∧ RF l p code ∧ Mks rs W ∧ ∀ r ∈ rs, w.heap.size < r
theorem blk_two {W : World} {R : Nat} {a b x y : Value} {t : TypeId} (h : Blk W R #[a, b] t) : Blk ((W.setCell ⟨R, 0, none⟩ x).setCell ⟨R, 1, none⟩ y) R #[x, y] t := by
  have h1 : Blk (W.setCell ⟨R, 0, none⟩ x) R #[x, b] t := heap_setCell_same W R 0 #[a, b] t x h
  exact heap_setCell_same _ R 1 #[x, b] t y h1
theorem read_leave {w V : World} {l : List Int} {p : Nat} {code : Int} {v : Value} {rs : List Nat} {tmps : Array Value} (hRb : Blk V w.heap.size #[.int .i64 (p : Nat), .int .i64 code] 56) (h2 : tmps[2]?.getD undef = v) (h3 : tmps[3]?.getD undef = .pointer (some ⟨w.heap.size, 0, none⟩)) (hmk : Mks rs V) (hrs : ∀ r ∈ rs, w.heap.size < r) (hB : Below w.heap.size w V)
    (hans : ∀ W', Tk (fun b => b ∈ rs) V W' → (RF l p code ∧ v = .slice none 0 0) ∨ (p = 0 ∧ code = 0 ∧ ∃ (a : Option Addr) (cap : Nat) (ls : List Lm), v = .slice a ls.length cap ∧ LRow W' a ls ∧ ROk l ls)) :
    LeavesInM Fence.wide 20 Tryd.prog Tryd.f36 tmps (RPost w l) (rs.map mark) .returning V := by
  refine leaves_marks rs V hmk (fun W' hb hs => ?_)
  have hB0 := hb 0 (by simp)
  have ht : Tk (fun b => b ∈ rs) V W' := ⟨hB0.os, hB0.tape, hB0.output, hB0.size, fun b _ hO => hs b hO⟩
  have hR' : Blk W' w.heap.size #[.int .i64 (p : Nat), .int .i64 code] 56 := (hs _ (fun q => by have := hrs _ q; omega)).trans hRb
  have c0 := hR'.cell 0
  have c1 := hR'.cell 1
  simp only [List.getElem?_toArray, List.getElem?_cons_zero, List.getElem?_cons_succ] at c0 c1
  refine ⟨.tuple #[v, .agg #[.int .i64 (p : Nat), .int .i64 code]], ?_, v, p, code, rfl, hB.trans (hb _ (fun r h => by have := hrs r h; omega)), hans W' ht⟩
  simp [results, Tryd.results36, go_sem, c0, c1, h2, h3]
theorem Tryd.info39 : (Tryd.prog.info? 39).map (fun i => (i.zero, i.size, i.bytes)) = some (some (.agg #[.string ⟨#[]⟩, .slice none 0 0, .string ⟨#[]⟩]), 3, 56) := by kernel_rfl
theorem FRow.blk {V V' : World} {a : Option Addr} {fs : List (ByteArray × ByteArray)} (h : FRow V a fs) (e : ∀ x, a = some x → V'.heap[x.block]? = V.heap[x.block]?) : FRow V' a fs := by
  rcases h with h | ⟨b, off, rfl, h⟩
  · exact .inl h
  · refine .inr ⟨b, off, rfl, fun i f hf => ?_⟩
    obtain ⟨h1, h2⟩ := h i f hf
    have e' : V'.heap[b]? = V.heap[b]? := e _ rfl
    exact ⟨(World.cell?_of_block (w := V) e').trans h1, (World.cell?_of_block (w := V) e').trans h2⟩
theorem RJ.app {w X2 X3 : World} {R Bo F nW : Nat} {S : List (List Int)} {k : Nat} {v v' : Value} {ls : List Lm} {m : Lm} {p : List Int}
    (h1 : Blk X2 R #[.int .i64 0, .int .i64 0] 56) (h2 : Blk X2 F #[.int .i64 0, .int .i64 0] 56) (h3 : Blk X2 Bo #[v] 22) (h4 : X2.ownsRow nW 39 3 v k (ls.flatMap cellM))
    (h5 : ∀ m', m' ∈ ls ++ [m] → FRow X2 m'.a m'.fs ∧ ∀ x, m'.a = some x → nW ≤ x.block ∧ ∃ cs, X2.heap[x.block]? = some (.cells cs 65 (0, 0)))
    (h6 : ls.length = k) (h7 : k < 4096) (h8 : ∀ (i : Nat) (m : Lm), ls[i]? = some m → ∃ q, S[i]? = some q ∧ goodP q = some m.ln) (hp : S[k]? = some p) (hg : goodP p = some m.ln) (h9 : Below w.heap.size w X2)
    (hR : w.heap.size ≤ R ∧ R < nW) (hF : F < nW) (hBo : w.heap.size ≤ Bo ∧ Bo < nW) (hRB : R ≠ Bo) (hFB : F ≠ Bo)
    (hown : X3.ownsRow nW 39 3 v' (k + 1) (ls.flatMap cellM ++ cellM m)) (hgr : X2.grownBy X3 v.ownBlock) :
    RJ w R Bo F nW S (k + 1) (X3.setCell ⟨Bo, 0, none⟩ v') ∧ (∀ b, b < nW → b < X2.heap.size → b ≠ Bo → (X3.setCell ⟨Bo, 0, none⟩ v').heap[b]? = X2.heap[b]?) ∧ Blk X3 Bo #[v] 22 := by
  have hge : ∀ g, v.ownBlock = some g → nW ≤ g := fun g hg => (h4.lt g hg).1
  have hlow : ∀ b, b < nW → b < X2.heap.size → X3.heap[b]? = X2.heap[b]? := fun b hb hb2 => hgr.block b hb2 (fun q => by have := hge b q.symm; omega)
  have g1 : Blk X3 R #[.int .i64 0, .int .i64 0] 56 := (hlow R hR.2 h1.lt).trans h1
  have g2 : Blk X3 F #[.int .i64 0, .int .i64 0] 56 := (hlow F hF h2.lt).trans h2
  have g3 : Blk X3 Bo #[v] 22 := (hlow Bo hBo.2 h3.lt).trans h3
  have hpar : ∀ (x : Addr) cs, X2.heap[x.block]? = some (.cells cs 65 (0, 0)) → X3.heap[x.block]? = X2.heap[x.block]? := fun x cs hx => hgr.block _ (Array.getElem?_eq_some_iff.1 hx).1 (ne_type h4 hx (by decide))
  refine ⟨⟨v', ls ++ [m], g1.other hRB _, g2.other hFB _, g3.same0 v', ?_, ?_, by simp [h6], by omega, ?_, ?_⟩, fun b hb hb2 hne => (heap_setCell_other _ _ _ _ (by simpa using hne)).trans (hlow b hb hb2), g3⟩
  · have : (X3.setCell ⟨Bo, 0, none⟩ v').ownsRow nW 39 3 v' (k + 1) (ls.flatMap cellM ++ cellM m) := own_set hBo.2 hown
    rw [List.length_append, h6, List.flatMap_append]
    simpa using this
  · intro m' hm'
    obtain ⟨q1, q2⟩ := h5 m' hm'
    refine ⟨(q1.blk (V' := X3) (fun x hx => ?_)).blk (fun x hx => ?_), fun x hx => ⟨(q2 x hx).1, ?_⟩⟩
    · obtain ⟨cs, hcs⟩ := (q2 x hx).2
      exact hpar x cs hcs
    · exact heap_setCell_other _ _ _ _ (by have := (q2 x hx).1; simp; omega)
    · obtain ⟨cs, hcs⟩ := (q2 x hx).2
      exact ⟨cs, (heap_setCell_other _ _ _ _ (by have := (q2 x hx).1; simp; omega)).trans ((hpar x cs hcs).trans hcs)⟩
  · intro i m' hi
    by_cases hik : i < ls.length
    · rw [List.getElem?_append_left hik] at hi
      exact h8 i m' hi
    · have hlt := (List.getElem?_eq_some_iff.1 hi).1
      simp at hlt
      obtain rfl : i = ls.length := by omega
      simp at hi
      subst hi
      exact ⟨p, by rw [h6]; exact hp, hg⟩
  · exact (h9.grown hgr h9.size (fun g hg => by have := hge g hg; omega)).setCell (p := ⟨Bo, 0, none⟩) hBo.1 _
theorem linesV_inv : ∀ (L : List (List Int)) (a k : Nat) (x : Array Value), (linesV a L)[k]? = some x → ∃ p, L[k]? = some p ∧ p ≠ [] ∧ x = #[.int .i64 ((a + (L.take k).flatten.length : Nat) : Int), .string (strOfNums p)]
  | [], a, k, x, h => by simp [linesV] at h
  | q :: L, a, k, x, h => by
    rw [linesV] at h
    split at h
    · simp at h
    · rename_i hq
      cases k with
      | zero =>
        simp only [List.getElem?_cons_zero, Option.some.injEq] at h
        exact ⟨q, rfl, hq, by rw [← h]; simp⟩
      | succ k =>
        simp only [List.getElem?_cons_succ] at h
        obtain ⟨p, h1, h2, h3⟩ := linesV_inv L (a + q.length) k x h
        exact ⟨p, by simpa using h1, h2, by rw [h3]; simp [Nat.add_assoc]⟩
set_option maxRecDepth 100000 in
theorem lines_any (s : ByteArray) (w : World) : Calls Tryd.prog 52 #[.string s] w fun e w' => e = .returned (.func (.func 75) #[] #[.pointer (some ⟨w.heap.size, 0, none⟩)]) ∧ w' = w.alloc (.cells #[.string s] 9) := by
  go_enter Tryd.func52, Tryd.ntmps52
  go_wp2
  go_ret
  exact ⟨rfl, rfl⟩
set_option maxHeartbeats 8000000 in
set_option maxRecDepth 100000 in
theorem read_any (a : Option Addr) (len cap : Nat) (l : List Int) (w : World) (hl : l.length = len) (hb : Byt l) (hcap : len ≤ cap) (hcm : cap ≤ maxLen) (hr : Row w a l) (m : Int) (hm : w.cell? ⟨0, 0, none⟩ = some (.int .i64 m)) :
    Calls Tryd.prog 36 #[.slice a len cap] w (RPost w l) := by
  have HR : Hid (Row w a l) := hr
  have HBY : Hid (Byt l) := hb
  have HL : Hid (l.length = len) := hl
  have HM : Hid (w.cell? ⟨0, 0, none⟩ = some (.int .i64 m)) := hm
  unfold maxLen at hcm
  clear hr hb hm
  refine (callsIn_wide (n := 20)).1 ?_
  refine callsIn_of_wp_marks Tryd.func36 rfl trivial ?_ rfl
  simp only [Tryd.ntmps36, List.size_toArray, List.length_cons, List.length_nil, Nat.reduceAdd, Nat.reduceSub, Array.replicate_succ, Array.replicate_zero, List.push_toArray, List.append_toArray, List.nil_append, List.cons_append]
  gi_wp2
  refine wpIn_wide.2 (wp_scope_jumps 0 (JF w (.slice a len cap) l) (fun _ _ => 0) rfl ((wpIn_wide (n := 20)).1 ?first) (fun a2 W2 hJ => ?pass))
  case pass =>
    obtain ⟨F, p, code, rs, ⟨u1, u2, u4, u5, u6, u8, u9, u10, u11, u12, u13, u14, u15, u16, u17, u18, u19, u20, u21, u22, u23, u24, u25, u26, u27, u28, u29, u30, u31, u32, u33, u34, u35, u36, u37, u38, u39, u40, u41, u42, u43, u44, u45, u46, u47, u48, u49, u50, u51, u52, u53, u54, u55, u56, u57, u58, u59, u60, u61, u62, rfl⟩, b1, b2, hF, hB, hRF, hmk, hrs⟩ := hJ
    have c1 := b1.cell 0
    have c2 := b1.cell 1
    have f1 := b1.frozen 0
    have f2 := b1.frozen 1
    have d1 := b2.cell 0
    have d2 := b2.cell 1
    simp only [List.getElem?_toArray, List.getElem?_cons_zero, List.getElem?_cons_succ] at c1 c2 d1 d2
    go_wp2
    go_region
    all_goals go_wp2
    refine read_leave (p := p) (code := code) (blk_two b1) rfl rfl ?_ hrs (below_drew (((hB.setCell (p := ⟨w.heap.size, 0, none⟩) (Nat.le_refl _) _)).setCell (p := ⟨w.heap.size, 1, none⟩) (Nat.le_refl _) _)) (fun _ _ => .inl ⟨hRF, rfl⟩)
    exact ⟨hmk.1, fun r hr => (heap_setCell_other _ _ _ _ (by have := hrs r hr; simp; omega)).trans ((heap_setCell_other _ _ _ _ (by have := hrs r hr; simp; omega)).trans (hmk.2 r hr))⟩
  case first =>
    by_cases h128 : 1048576 < len
    · have hd : decide ((len : Int) > 1048576) = true := by simp; omega
      gi_wp2
      exact read_leave (rs := []) (p := 0) (code := 2) (Blk.new w _ 56) rfl rfl ⟨List.nodup_nil, by simp⟩ (by simp) (keep w _) (fun _ _ => .inl ⟨.inl ⟨by rw [HL.out]; exact h128, rfl, rfl⟩, rfl⟩)
    have hd : decide ((len : Int) > 1048576) = false := by simp; omega
    have hB2 : Below w.heap.size w ((w.alloc (.cells #[.int .i64 0, .int .i64 0] 56)).alloc (.cells #[.slice none 0 0] 22)) := (keep w _).alloc (by simp) _
    have hunf := unfold_any a len cap l _ HL.out HBY.out (by omega) hcap (by unfold maxLen; omega) (row_below HR.out hB2)
    obtain ⟨u, hu⟩ : ∃ u, unfoldZ l = u := ⟨_, rfl⟩
    have hub : Byt u := by rw [← hu]; exact unfold_byt HBY.out
    have hul : u.length ≤ len := by rw [← hu, ← HL.out]; exact unfK_len 0 l
    have HU : Hid (unfoldZ l = u) := hu
    rw [hu] at hunf
    obtain ⟨T, hT⟩ : ∃ T, strOfNums u = T := ⟨_, rfl⟩
    have hTn : nums T = u := by rw [← hT]; exact nums_str hub
    have HTN : Hid (nums T = u) := hTn
    have HTZ : Hid (T.size = u.length) := by unfold Hid; rw [← nums_len, hTn]
    have hTs : T.size ≤ 1048576 := by have := HTZ.out; omega
    have HUB : Hid (Byt u) := hub
    rw [hT] at hunf
    clear hub hTn hul
    clear hu hT hB2
    gi_wp2_with fail
    refine ⟨trivial, (callsIn_wide.2 hunf).mono ?_⟩
    rintro e w3 ⟨rfl, hb3⟩
    have B0 : Blk w3 w.heap.size #[.int .i64 0, .int .i64 0] 56 := ((Blk.new w _ 56).alloc _).below hb3 (by simp; omega)
    have B1 : Blk w3 (w.heap.size + 1) #[.slice none 0 0] 22 := by
      have := (Blk.new (w.alloc (.cells #[.int .i64 0, .int .i64 0] 56)) #[.slice none 0 0] 22)
      rw [World.size_alloc] at this
      exact this.below hb3 (by simp)
    have HB3 : Hid (Below w.heap.size w w3) := ((keep w _).alloc (by simp) _).trans (hb3.mono (by simp; omega))
    have hz3 : w.heap.size + 2 ≤ w3.heap.size := by have := hb3.size; simp at this; omega
    clear hb3 hunf
    obtain ⟨cap1, w4, kc, hcap1, hmx, hrow, hb4, hfz⟩ := conv_bytes T w3 (by unfold maxLen; omega)
    have C0 : Blk w4 w.heap.size #[.int .i64 0, .int .i64 0] 56 := B0.below hb4 (by omega)
    have C1 : Blk w4 (w.heap.size + 1) #[.slice none 0 0] 22 := B1.below hb4 (by omega)
    have HB4 : Hid (Below w.heap.size w w4) := HB3.out.trans (hb4.mono HB3.out.size)
    have hz4 : w.heap.size + 2 ≤ w4.heap.size := by have := hb4.size; omega
    rw [HTN.out] at hrow
    clear hb4 hfz B0 B1 HB3
    obtain ⟨ps, r, hps, hur, hdr⟩ := Ut.split_ex u HUB.out
    by_cases hre : r = []
    case neg =>
      have hpt := Ut.points_no _ T.size cap1 ps r w4 (by rw [← hur, HTZ.out]) hps hdr hre (by have hub := HUB.out; rw [hur] at hub; exact fun x hx => hub x (by simp [hx])) hcap1 (by unfold maxLen; omega) (by omega) (by rw [← hur]; exact hrow)
      have HRF : Hid (RF l (Ut.flat ps).length 20) := .inr (.inl ⟨by rw [HL.out]; omega, ps, r, hps, (by have hub := HUB.out; rw [hur] at hub; exact fun x hx => hub x (by simp [hx])), by rw [HU.out]; exact hur, hdr, hre, rfl, rfl⟩)
      clear hrow hps hdr hre hur
      gi_wp2_with fail
      refine ⟨trivial, (callsIn_wide.2 hpt).mono ?_⟩
      rintro e w5 ⟨rfl, hb5⟩
      have D0 : Blk w5 w.heap.size #[.int .i64 0, .int .i64 0] 56 := C0.below hb5 (by omega)
      have HB5 : Hid (Below w.heap.size w w5) := HB4.out.trans (hb5.mono HB4.out.size)
      have hz5 : w.heap.size + 2 ≤ w5.heap.size := by have := hb5.size; omega
      clear hpt hb5
      gi_wp2
      refine wpIn_goto ?_
      exact ⟨rfl, w5.heap.size, (Ut.flat ps).length, 20, [], ⟨_, _, _, _, _, _, _, _, _, _, _, _, _, _, _, _, _, _, _, _, _, _, _, _, _, _, _, _, _, _, _, _, _, _, _, _, _, _, _, _, _, _, _, _, _, _, _, _, _, _, _, _, _, _, _, _, _, _, _, _, rfl⟩, D0.alloc _, Blk.new w5 _ 56, by omega, HB5.out.alloc HB5.out.size _, HRF.out, ⟨List.nodup_nil, by simp⟩, by simp⟩
    subst hre
    rw [List.append_nil] at hur
    have hpt := Ut.points_yes _ T.size cap1 ps w4 (by rw [← hur, HTZ.out]) hps hcap1 (by unfold maxLen; omega) (by omega) (by rw [← hur]; exact hrow)
    have HPS : Hid (∃ ps, Ut.AllPt ps ∧ unfoldZ l = Ut.flat ps) := ⟨ps, hps, by rw [HU.out]; exact hur⟩
    clear hrow hps hdr hur
    gi_wp2_with fail
    refine ⟨trivial, (callsIn_wide.2 hpt).mono ?_⟩
    rintro e w5 ⟨vp, rfl, _, hb5⟩
    have D0 : Blk w5 w.heap.size #[.int .i64 0, .int .i64 0] 56 := C0.below hb5 (by omega)
    have D1 : Blk w5 (w.heap.size + 1) #[.slice none 0 0] 22 := C1.below hb5 (by omega)
    have HB5 : Hid (Below w.heap.size w w5) := HB4.out.trans (hb5.mono HB4.out.size)
    have hz5 : w.heap.size + 2 ≤ w5.heap.size := by have := hb5.size; omega
    clear hpt hb5
    gi_wp2_with fail
    refine ⟨trivial, (callsIn_wide.2 (lines_any T _)).mono ?_⟩
    rintro e w6 ⟨rfl, hw6⟩
    obtain ⟨f5, hf5⟩ : ∃ f5, w5.heap.size = f5 := ⟨_, rfl⟩
    have E0 : Blk w6 w.heap.size #[.int .i64 0, .int .i64 0] 56 := by rw [hw6]; exact (D0.alloc _).alloc _
    have E1 : Blk w6 (w.heap.size + 1) #[.slice none 0 0] 22 := by rw [hw6]; exact (D1.alloc _).alloc _
    have E2 : Blk w6 f5 #[.int .i64 0, .int .i64 0] 56 := by rw [hw6, ← hf5]; exact (Blk.new w5 _ 56).alloc _
    have E3 : Sx w6 (f5 + 1) T := by
      have := Blk.new (w5.alloc (.cells #[.int .i64 0, .int .i64 0] 56)) #[.string T] 9
      rw [World.size_alloc, hf5] at this
      rw [hw6]; exact this
    have hz6 : w6.heap.size = f5 + 2 := by rw [hw6, ← hf5]; simp
    have HB6 : Hid (Below w.heap.size w w6) := by rw [Hid, hw6]; exact (HB5.out.alloc HB5.out.size _).alloc (by have := HB5.out.size; simp; omega) _
    rw [hf5] at hz5
    simp only [World.size_alloc, hf5]
    clear hw6 D0 D1 C0 C1 HB5 HB4 hf5 kc
    obtain ⟨S, hS⟩ : ∃ S, splitP T.size (nums T) = S := ⟨_, rfl⟩
    have HSU : Hid (splitP (unfoldZ l).length (unfoldZ l) = S) := by unfold Hid; rw [HU.out, ← HTZ.out, ← HTN.out]; exact hS
    have hSne := split_ne T.size (nums T)
    rw [hS] at hSne
    have HSN : Hid (∀ (i : Nat) (q : List Int), S[i]? = some q → i + 1 < S.length → q ≠ []) := hSne
    have HSB : Hid (∀ p ∈ S, Byt p ∧ p.length ≤ 1048576) := by
      intro p hp
      have hfl : S.flatten = nums T := by rw [← hS]; exact split_flat _ _
      have hsub : ∀ x ∈ p, x ∈ nums T := fun x hx => by rw [← hfl]; exact List.mem_flatten.2 ⟨p, hp, hx⟩
      refine ⟨fun x hx => nums_byt T x (hsub x hx), ?_⟩
      have : p.length ≤ S.flatten.length := by
        obtain ⟨s1, s2, rfl⟩ := List.append_of_mem hp
        simp; omega
      rw [hfl, nums_len] at this
      omega
    have hit0 := fun X (h : Sx X (f5 + 1) T) => lines1_iter 19 (by omega) (f5 + 1) T m (by omega) X h
    simp only [hS] at hit0
    clear hS hSne
    gi_wp2_with fail
    refine range_g 20 75 [.pointer (some ⟨f5 + 1, 0, none⟩)] (fun b => f5 + 4 ≤ b ∧ b < f5 + 11) (linesV 0 S) (fun V => V.cell? ⟨0, 0, none⟩ = some (.int .i64 m))
      (fun X hX hz => by have h := hit0 X (E3.below hX); rw [hz, hz6] at h; exact h) (fun b hb => by omega) ?ps rfl (fun args W => by simp [go_sem])
      (fun k V => RJ w w.heap.size (w.heap.size + 1) f5 (f5 + 11) S k V)
      (fun c V => c = .goto 0 ∧ ∃ (p : Nat) (code : Int), RF l p code ∧ Blk V w.heap.size #[.int .i64 0, .int .i64 0] 56 ∧ Blk V f5 #[.int .i64 (p : Nat), .int .i64 code] 56 ∧ Below w.heap.size w V) ?cI ?cX ?cG ?c0
      (fun x => { tmps := #[.slice a len cap, undef, .slice none 0 0, .pointer (some ⟨w.heap.size, 0, none⟩), .pointer (some ⟨w.heap.size + 1, 0, none⟩), .string T, vp, .pointer (some ⟨f5, 0, none⟩), x.getD 0 undef, x.getD 1 undef, undef, undef, undef, undef, .slice a len cap, .int .i64 (len : Nat), .bool false, undef, .slice a len cap, .string T, .tuple #[vp, .agg #[.int .i64 0, .int .i64 0]], .string T, .slice (some ⟨w3.heap.size, 0, none⟩) T.size cap1, .tuple #[vp, .agg #[.int .i64 0, .int .i64 0]], vp, .agg #[.int .i64 0, .int .i64 0], .pointer (some ⟨f5, 1, none⟩), .int .i64 0, .bool false, .string T, .func (.func 75) #[] #[.pointer (some ⟨f5 + 1, 0, none⟩)], x.getD 0 undef, x.getD 1 undef, undef, undef, undef, undef, undef, undef, undef, undef, undef, undef, undef, undef, undef, undef, undef, undef, undef, undef, undef, undef, undef, undef, undef, undef, undef, undef, undef, undef, undef, undef], defers := [] }) ?assign ?body ?done ?stop
    case ps =>
      intro k x hx
      obtain ⟨p, _, _, rfl⟩ := linesV_inv S 0 k x hx
      rfl
    case cI =>
      intro k V V' h ht
      exact h.tk ht (fun b hb => by omega)
    case cX =>
      rintro c V V' ⟨h1, p, code, h2, h3, h4, h5⟩ ht
      refine ⟨h1, p, code, h2, ht.kept h3 (by omega), ht.kept h4 (by omega), ?_⟩
      exact ⟨ht.1.trans h5.os, ht.2.1.trans h5.tape, ht.2.2.1.trans h5.output, Nat.le_trans h5.size ht.size, fun b hb => (ht.2.2.2.2 b (by have := h5.size; omega) (by omega)).trans (h5.block b hb)⟩
    case cG =>
      rintro k V ⟨v, ls, _, _, _, _, _, _, _, _, h9⟩
      exact (h9.cell (World.block_lt_of_cell? w _ HM.out)).trans HM.out
    case c0 => exact ⟨.slice none 0 0, [], E0, E2, E1, World.ownsRow_nil _ _ _ _, by simp, rfl, by omega, by simp, HB6.out⟩
    case assign =>
      intro i k x V K hx hK
      obtain ⟨p, _, _, rfl⟩ := linesV_inv S 0 k x hx
      generalize ((0 + (S.take k).flatten.length : Nat) : Int) = pk at hK ⊢
      gi_wp2
      exact hK
    case body =>
      rintro i k x V hx hI hsz hob
      have hVz : f5 + 11 ≤ V.heap.size := by have := hob (f5 + 10) (by omega); omega
      have hkM : k < (linesV 0 S).length := (List.getElem?_eq_some_iff.1 hx).1
      obtain ⟨p, hp, hpe, rfl⟩ := linesV_inv S 0 k x hx
      obtain ⟨hpb, hpl⟩ := HSB.out p (List.mem_of_getElem? hp)
      obtain ⟨q, hq⟩ : ∃ q, strOfNums p = q := ⟨_, rfl⟩
      have HQN : Hid (nums q = p) := by unfold Hid; rw [← hq]; exact nums_str hpb
      have hqs : q.size ≤ 1048576 := by rw [← nums_len, HQN.out]; exact hpl
      obtain ⟨pk, hpk⟩ : ∃ pk, 0 + (S.take k).flatten.length = pk := ⟨_, rfl⟩
      have HPK : Hid (pk = (S.take k).flatten.length) := by unfold Hid; omega
      have HP : Hid (S[k]? = some p ∧ p ≠ []) := ⟨hp, hpe⟩
      rw [hpk, hq]
      clear hx hpb hpl hpk hq hp hpe
      show Code.wpIn _ _ _ _ _ { tmps := #[.slice a len cap, undef, .slice none 0 0, .pointer (some ⟨w.heap.size, 0, none⟩), .pointer (some ⟨w.heap.size + 1, 0, none⟩), .string T, vp, .pointer (some ⟨f5, 0, none⟩), .int .i64 (pk : Nat), .string q, undef, undef, undef, undef, .slice a len cap, .int .i64 (len : Nat), .bool false, undef, .slice a len cap, .string T, .tuple #[vp, .agg #[.int .i64 0, .int .i64 0]], .string T, .slice (some ⟨w3.heap.size, 0, none⟩) T.size cap1, .tuple #[vp, .agg #[.int .i64 0, .int .i64 0]], vp, .agg #[.int .i64 0, .int .i64 0], .pointer (some ⟨f5, 1, none⟩), .int .i64 0, .bool false, .string T, .func (.func 75) #[] #[.pointer (some ⟨f5 + 1, 0, none⟩)], .int .i64 (pk : Nat), .string q, undef, undef, undef, undef, undef, undef, undef, undef, undef, undef, undef, undef, undef, undef, undef, undef, undef, undef, undef, undef, undef, undef, undef, undef, undef, undef, undef, undef, undef, undef], defers := [] } V
      have HRJ : Hid (RJ w w.heap.size (w.heap.size + 1) f5 (f5 + 11) S k V) := hI
      clear hI
      gi_wp2_with fail
      refine ⟨trivial, (CallsIn.inRound i (callsIn_wide.2 (cutSuffix_any q V (by omega)))).mono ?_⟩
      rintro e V0 ⟨rfl, rfl⟩
      obtain ⟨x, hx⟩ : ∃ x, stemB q = x := ⟨_, rfl⟩
      have HX : Hid (stemB q = x) := hx
      have hxs : x.size ≤ 2000000 := by
        rw [← hx]; unfold stemB; split
        · have : (q.extract 0 (q.size - 2)).size ≤ q.size := by rw [← nums_len, nums_to, List.length_take, nums_len]; omega
          omega
        · omega
      rw [hx]
      clear hx
      have hone := one_any x V hxs
      unfold OPost at hone
      gi_wp2_with fail
      refine ⟨trivial, (CallsIn.inRound i (callsIn_wide.2 hone)).mono ?_⟩
      rintro e V1 ⟨nm, vl, la, lcap, fs, code, rfl, hans, ⟨hfr, hfb, hsm⟩, hb1⟩
      unfold lineV
      obtain ⟨X1, hX1e⟩ : ∃ X1, V1.alloc (.cells #[.string nm, .slice la fs.length lcap, .string vl] 39) = X1 := ⟨_, rfl⟩
      have hX1 : Below V.heap.size V X1 := by rw [← hX1e]; exact hb1.alloc hb1.size _
      have hRJ1 : RJ w w.heap.size (w.heap.size + 1) f5 (f5 + 11) S k X1 := HRJ.out.tk (O := fun _ => False) (.of_below hX1) (fun b h => h.elim)
      have hfr1 : FRow X1 la fs := by rw [← hX1e]; exact hfr.below (keep V1 _)
      have L1 : Blk X1 V1.heap.size #[.string nm, .slice la fs.length lcap, .string vl] 39 := by rw [← hX1e]; exact Blk.new V1 _ 39
      have hz1 : V1.heap.size < X1.heap.size := L1.lt
      have hv1 := hb1.size
      obtain ⟨v, ls, k1, k2, k3, k4, k5, k6, k7, k8, k9⟩ := hRJ1
      have hprev : ∀ i r, i < k → S[i]? = some r → (goodP r).isSome = true := by
        intro i r hi hr
        obtain ⟨q', h1, h2⟩ := k8 i _ (List.getElem?_eq_getElem (by omega))
        rw [hr] at h1
        cases h1
        rw [h2]; rfl
      have HPV : Hid (∀ i r, i < k → S[i]? = some r → (goodP r).isSome = true) := hprev
      clear hprev hb1
      by_cases hbad : goodP p = none
      · have hcode : endsZ (nums q) = true → code = 90 := by
          intro hen
          rcases hans with ⟨h, _⟩ | ⟨_, h, _⟩
          · unfold goodP at hbad
            rw [← HQN.out, hen, if_pos rfl, ← nums_stem q hen, HX.out, h] at hbad
            cases hbad
          · exact h
        have HRF : Hid (RF l pk 90) := .inr (.inr ⟨by rw [HL.out]; omega, HPS.out, k, p, by rw [HSU.out]; exact HP.out.1, HP.out.2, by rw [HSU.out]; exact HPV.out, k7, by rw [HSU.out]; exact HPK.out, .inl ⟨hbad, rfl⟩⟩)
        have FB : Blk X1 f5 #[.int .i64 0, .int .i64 0] 56 := k2
        have HFR : Hid (∀ b, ((f5 + 4 ≤ b ∧ b < f5 + 11) ∨ b = w6.heap.size ∨ b = w6.heap.size + 1) → X1.heap[b]? = V.heap[b]?) := fun b hb => hX1.block b (by omega)
        have e1 := FB.cell 0
        have e2 := FB.cell 1
        have e3 := FB.frozen 0
        have e4 := FB.frozen 1
        simp only [List.getElem?_toArray, List.getElem?_cons_zero, List.getElem?_cons_succ] at e1 e2
        have HK1 : Hid (Blk X1 w.heap.size #[.int .i64 0, .int .i64 0] 56) := k1
        have HK2 : Hid (Blk X1 f5 #[.int .i64 0, .int .i64 0] 56) := k2
        have HK9 : Hid (Below w.heap.size w X1) := k9
        clear hone FB k1 k2 k3 k4 k5 k8 k9
        cases hen : endsZ (nums q) with
        | false =>
          gi_wp2
          refine wpIn_goto ?_
          exact ⟨⟨rfl, pk, 90, HRF.out, (HK1.out.other (by omega) _).other (by omega) _, blk_two HK2.out, (HK9.out.setCell (p := ⟨f5, 0, none⟩) (by show w.heap.size ≤ f5; omega) _).setCell (p := ⟨f5, 1, none⟩) (by show w.heap.size ≤ f5; omega) _⟩, fun b hb => (heap_setCell_other _ _ _ _ (by simp; omega)).trans ((heap_setCell_other _ _ _ _ (by simp; omega)).trans (HFR.out b hb))⟩
        | true =>
          obtain rfl := hcode hen
          gi_wp2
          refine wpIn_goto ?_
          exact ⟨⟨rfl, pk, 90, HRF.out, (HK1.out.other (by omega) _).other (by omega) _, blk_two HK2.out, (HK9.out.setCell (p := ⟨f5, 0, none⟩) (by show w.heap.size ≤ f5; omega) _).setCell (p := ⟨f5, 1, none⟩) (by show w.heap.size ≤ f5; omega) _⟩, fun b hb => (heap_setCell_other _ _ _ _ (by simp; omega)).trans ((heap_setCell_other _ _ _ _ (by simp; omega)).trans (HFR.out b hb))⟩
      · have hen : endsZ (nums q) = true := by
          cases h : endsZ (nums q) with
          | true => rfl
          | false => unfold goodP at hbad; rw [← HQN.out, h] at hbad; exact absurd rfl hbad
        have hgood : goodP p = some ⟨nums nm, numsP fs, nums vl⟩ ∧ code = 0 := by
          rcases hans with ⟨h, h'⟩ | ⟨h, _⟩
          · refine ⟨?_, h'⟩
            unfold goodP
            rw [← HQN.out, hen, if_pos rfl, ← nums_stem q hen, HX.out]; exact h
          · unfold goodP at hbad
            rw [← HQN.out, hen, if_pos rfl, ← nums_stem q hen, HX.out, h] at hbad
            exact absurd rfl hbad
        obtain ⟨hgp, rfl⟩ := hgood
        rw [hen]
        obtain ⟨a', cap', hv, _⟩ := ownM_view k4 (fun m hm => (k5 m hm).1)
        rw [k6] at hv k4
        subst hv
        have m1 := k3.cell 0
        have m2 := k3.frozen 0
        have n1 := L1.cell 0
        have n2 := L1.cell 1
        have n3 := L1.cell 2
        simp only [List.getElem?_toArray, List.getElem?_cons_zero, List.getElem?_cons_succ] at m1 n1 n2 n3
        by_cases h4096 : k = 4096
        · have dk : ((k : Int) == 4096) = true := by simp [h4096]
          have HRF : Hid (RF l pk 2) := .inr (.inr ⟨by rw [HL.out]; omega, HPS.out, k, p, by rw [HSU.out]; exact HP.out.1, HP.out.2, by rw [HSU.out]; exact HPV.out, k7, by rw [HSU.out]; exact HPK.out, .inr ⟨by rw [hgp]; rfl, h4096, rfl⟩⟩)
          have HFR : Hid (∀ b, ((f5 + 4 ≤ b ∧ b < f5 + 11) ∨ b = w6.heap.size ∨ b = w6.heap.size + 1) → X1.heap[b]? = V.heap[b]?) := fun b hb => hX1.block b (by omega)
          have e1 := k2.cell 0
          have e2 := k2.cell 1
          have e3 := k2.frozen 0
          have e4 := k2.frozen 1
          simp only [List.getElem?_toArray, List.getElem?_cons_zero, List.getElem?_cons_succ] at e1 e2
          have HK1 : Hid (Blk X1 w.heap.size #[.int .i64 0, .int .i64 0] 56) := k1
          have HK2 : Hid (Blk X1 f5 #[.int .i64 0, .int .i64 0] 56) := k2
          have HK9 : Hid (Below w.heap.size w X1) := k9
          clear hone k1 k2 k3 k4 k5 k8 k9 h4096 L1
          gi_wp2
          refine wpIn_goto ?_
          exact ⟨⟨rfl, pk, 2, HRF.out, (HK1.out.other (by omega) _).other (by omega) _, blk_two HK2.out, (HK9.out.setCell (p := ⟨f5, 0, none⟩) (by show w.heap.size ≤ f5; omega) _).setCell (p := ⟨f5, 1, none⟩) (by show w.heap.size ≤ f5; omega) _⟩, fun b hb => (heap_setCell_other _ _ _ _ (by simp; omega)).trans ((heap_setCell_other _ _ _ _ (by simp; omega)).trans (HFR.out b hb))⟩
        · have dk : ((k : Int) == 4096) = false := by rw [beq_eq_false_iff_ne]; omega
          have hk4 : k < 4096 := by omega
          obtain ⟨j0, hi, hz0, hz1', hz2⟩ := info_parts Tryd.info39
          have HO : Hid (X1.ownsRow (f5 + 11) 39 3 (.slice a' k cap') k (ls.flatMap cellM)) := k4
          have HAPP : Hid (∀ v' X3, X3.ownsRow (f5 + 11) 39 3 v' (k + 1) (ls.flatMap cellM ++ cellM ⟨nm, vl, la, lcap, fs⟩) → (X1.alloc (.cells #[.string nm, .slice la fs.length lcap, .string vl] 39)).grownBy X3 (Value.slice a' k cap').ownBlock → RJ w w.heap.size (w.heap.size + 1) f5 (f5 + 11) S (k + 1) (X3.setCell ⟨w.heap.size + 1, 0, none⟩ v') ∧ (∀ b, b < f5 + 11 → b < (X1.alloc (.cells #[.string nm, .slice la fs.length lcap, .string vl] 39)).heap.size → b ≠ w.heap.size + 1 → (X3.setCell ⟨w.heap.size + 1, 0, none⟩ v').heap[b]? = (X1.alloc (.cells #[.string nm, .slice la fs.length lcap, .string vl] 39)).heap[b]?) ∧ Blk X3 (w.heap.size + 1) #[.slice a' k cap'] 22) := by
            intro v' X3 hown hgr
            have hA := keep X1 (.cells #[.string nm, .slice la fs.length lcap, .string vl] 39)
            refine RJ.app (m := ⟨nm, vl, la, lcap, fs⟩) (p := p) (k1.alloc _) (k2.alloc _) (k3.alloc _) (own_keep k4 hA) ?_ k6 hk4 k8 HP.out.1 hgp (k9.alloc k9.size _) (by omega) (by omega) (by omega) (by omega) (by omega) hown hgr
            intro m' hm'
            rcases List.mem_append.1 hm' with h | h
            · obtain ⟨q1, q2⟩ := k5 m' h
              exact ⟨q1.below hA, fun x hx => ⟨(q2 x hx).1, (q2 x hx).2.elim fun cs hcs => ⟨cs, (hA.block _ (Array.getElem?_eq_some_iff.1 hcs).1).trans hcs⟩⟩⟩
            · simp only [List.mem_singleton] at h
              subst h
              refine ⟨hfr1.below hA, fun x hx => ?_⟩
              obtain ⟨r1, cs, hcs⟩ := hfb x hx
              have hlt := (Array.getElem?_eq_some_iff.1 hcs).1
              refine ⟨by omega, cs, ?_⟩
              rw [hA.block _ (by omega), ← hX1e, Below.heap_alloc _ _ _ hlt]; exact hcs
          have hsz1 : f5 + 11 ≤ X1.heap.size := by omega
          have HFR : Hid (∀ b, ((f5 + 4 ≤ b ∧ b < f5 + 11) ∨ b = w6.heap.size ∨ b = w6.heap.size + 1) → (X1.alloc (.cells #[.string nm, .slice la fs.length lcap, .string vl] 39)).heap[b]? = V.heap[b]?) := fun b hb => ((keep X1 _).block b (by omega)).trans (hX1.block b (by omega))
          clear hone k1 k2 k3 k4 k5 k8 k9 L1 hfr1 hfb hfr hsm hans
          gi_wp2_with (gi_at_builtin; refine wpListIn_append_own _ rfl (.tmp 56) (.tmp 58) 22 rfl (f5 + 11) 39 j0 _ 3 56 Tryd.underlying22 hi hz0 hz1' hz2 rfl (by decide) _ k _ rfl (own_keep HO.out (keep X1 _)) ⟨X1.heap.size, 0, none⟩ 1 1 (cellM ⟨nm, vl, la, lcap, fs⟩) rfl rfl (cells_new X1 _ 39) ?a4 (by unfold maxLen; omega) (by omega) (by simp; omega) ?_)
          case a4 => intro u hu; simp [cellM] at hu; rcases hu with rfl | rfl | rfl <;> rfl
          intro v' X3 hown3 hgrow3 _
          obtain ⟨hA1, hA2, hA3⟩ := HAPP.out v' X3 hown3 hgrow3
          have HA1 : Hid (RJ w w.heap.size (w.heap.size + 1) f5 (f5 + 11) S (k + 1) (X3.setCell ⟨w.heap.size + 1, 0, none⟩ v')) := hA1
          have HA2 : Hid (∀ b, ((f5 + 4 ≤ b ∧ b < f5 + 11) ∨ b = w6.heap.size ∨ b = w6.heap.size + 1) → (X3.setCell ⟨w.heap.size + 1, 0, none⟩ v').heap[b]? = V.heap[b]?) := fun b hb => (hA2 b (by omega) (by simp; omega) (by omega)).trans (HFR.out b hb)
          obtain ⟨a3, c3, hv3⟩ : ∃ a3 c3, v' = .slice a3 (k + 1) c3 := by
            rcases hown3.2 with ⟨_, hn⟩ | ⟨g, cp, cur, h, _⟩
            · omega
            · exact ⟨_, _, h⟩
          subst hv3
          have y1 := hA3.cell 0
          have y2 := hA3.frozen 0
          simp only [List.getElem?_toArray, List.getElem?_cons_zero] at y1
          clear hown3 hgrow3 hA1 hA2 hA3
          gi_wp2
          exact ⟨HA1.out, HA2.out⟩
    case done =>
      rintro V hI hd
      obtain ⟨v, ls, h1, h2, h3, h4, h5, h6, h7, h8, h9⟩ := hI
      have c1 := h1.cell 0
      have c2 := h1.cell 1
      have f1 := h1.frozen 0
      have f2 := h1.frozen 1
      have d1 := h3.cell 0
      simp only [List.getElem?_toArray, List.getElem?_cons_zero, List.getElem?_cons_succ] at c1 c2 d1
      have H1 : Hid (Blk V w.heap.size #[.int .i64 0, .int .i64 0] 56) := h1
      have H4 : Hid (V.ownsRow (f5 + 11) 39 3 v ls.length (ls.flatMap cellM)) := h4
      have H5 : Hid (∀ m ∈ ls, FRow V m.a m.fs ∧ ∀ x, m.a = some x → f5 + 11 ≤ x.block) := fun m hm => ⟨(h5 m hm).1, fun x hx => ((h5 m hm).2 x hx).1⟩
      have H9 : Hid (Below w.heap.size w V) := h9
      have HOK : Hid (ROk l ls) := ⟨by rw [HL.out]; omega, HPS.out, by rw [HSU.out]; exact h6, by omega, by rw [HSU.out]; exact h8⟩
      clear h1 h2 h3 h4 h5 h8 h9 h6
      gi_wp2
      refine read_leave (rs := [w6.heap.size]) (p := 0) (code := 0) (blk_two H1.out) rfl rfl ⟨by simp, ?_⟩ (by simp; omega) ((H9.out.setCell (p := ⟨w.heap.size, 0, none⟩) (Nat.le_refl _) _).setCell (p := ⟨w.heap.size, 1, none⟩) (Nat.le_refl _) _) (fun W' ht => .inr ⟨rfl, rfl, ?_⟩)
      · intro r hr
        simp only [List.mem_singleton] at hr
        subst hr
        exact (heap_setCell_other _ _ _ _ (by simp; omega)).trans ((heap_setCell_other _ _ _ _ (by simp; omega)).trans hd)
      · have t1 : Tk (fun b => b < f5 + 11) V W' := ((Tk.set (O := fun b => b < f5 + 11) V w.heap.size 0 _ (by omega)).trans (Tk.set (O := fun b => b < f5 + 11) _ w.heap.size 1 _ (by omega))).trans (ht.mono (fun b hb => by simp at hb; omega))
        obtain ⟨a', cap', hv, hLR⟩ := ownM_view (own_tk H4.out t1 (fun b h => h)) (fun m hm => (H5.out m hm).1.tk (H5.out m hm).2 t1 (fun b h => h))
        exact ⟨a', cap', ls, hv, hLR, HOK.out⟩
    case stop =>
      rintro c V ⟨rfl, p, code, h2, h3, h4, h5⟩ hd
      refine wpIn_goto ?_
      exact ⟨rfl, f5, p, code, [w6.heap.size], ⟨_, _, _, _, _, _, _, _, _, _, _, _, _, _, _, _, _, _, _, _, _, _, _, _, _, _, _, _, _, _, _, _, _, _, _, _, _, _, _, _, _, _, _, _, _, _, _, _, _, _, _, _, _, _, _, _, _, _, _, _, rfl⟩, h3, h4, by omega, h5, h2, ⟨by simp, by simpa using hd⟩, by simp; omega⟩
end Go.Proofs.YtenclgnkogmgiaaDoor
