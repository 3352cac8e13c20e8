/-
  Recipients; ServeMails: the contract of the law.
-/
import Derived.Test.YtbckbonffajmeaaGreatDoorTh
import Derived.Test.YtbckbonffajmeaaGreatDoorDZ
namespace Go.Proofs.YtbckbonffajmeaaGreatDoor
open Go.RowKit Go.Shelf Go.Maps
set_option linter.unusedVariables false
set_option linter.unusedSimpArgs false

/-- A session's recipients are owners, each once, at most 16; of a text's there is one. -/
structure Rcp (s : SS) : Prop where
  own : ∀ t ∈ s.tos, nums t ∈ s.owners
  one : s.tos.Nodup
  len : s.tos.length ≤ 16
  some' : s.takes = 1 → s.tos ≠ []
/-- One that is as another one but for what is no recipients' business. -/
theorem Rcp.same {s s' : SS} (h : Rcp s) (h1 : s'.tos = s.tos) (h2 : s'.owners = s.owners) (h3 : s'.takes = 1 → s.takes = 1) : Rcp s' :=
  ⟨fun t ht => by rw [h2]; exact h.own t (by rw [← h1]; exact ht), by rw [h1]; exact h.one, by rw [h1]; exact h.len, fun e => by rw [h1]; exact h.some' (h3 e)⟩
theorem Rcp.none' {s' : SS} (h1 : s'.tos = []) (h3 : s'.takes ≠ 1) : Rcp s' :=
  ⟨fun t ht => by rw [h1] at ht; simp at ht, by rw [h1]; exact List.nodup_nil, by rw [h1]; exact Nat.zero_le _, fun e => absurd e h3⟩
structure Keep (s s' : SS) : Prop where
  rcp : Rcp s'
  owners : s'.owners = s.owners
  size : s'.size = s.size
theorem fromZ_k {s : SS} (h : Rcp s) (h0 : s.takes = 0) (r : ByteArray) : Keep s (fromZ s r).1 := by
  unfold fromZ
  split
  · exact ⟨h, rfl, rfl⟩
  · split
    · exact ⟨h, rfl, rfl⟩
    · split
      · exact ⟨h, rfl, rfl⟩
      · exact ⟨h.same rfl rfl id, rfl, rfl⟩
theorem contains_mem {l : List ByteArray} {x : ByteArray} (h : ¬ Lib.containsS l x = true) : x ∉ l := by
  intro hx
  apply h
  unfold Lib.containsS
  exact decide_eq_true ((Lib.idxOfS_nonneg_iff l x).2 hx)
theorem gotoZ_k {s : SS} (h : Rcp s) (h0 : s.takes = 0) (r : ByteArray) : Keep s (gotoZ s r).1 := by
  unfold gotoZ
  split
  · exact ⟨h, rfl, rfl⟩
  · split
    · exact ⟨h, rfl, rfl⟩
    · split
      · exact ⟨h, rfl, rfl⟩
      · rename_i q3
        split
        · exact ⟨h, rfl, rfl⟩
        · rename_i q4
          split
          · exact ⟨h, rfl, rfl⟩
          · rename_i q5
            refine ⟨⟨fun t ht => ?_, ?_, ?_, fun e => ?_⟩, rfl, rfl⟩
            · have ht : t ∈ s.tos ++ [perB (pathZ r toN).1] := ht
              rcases List.mem_append.1 ht with q | q
              · exact h.own t q
              · simp only [List.mem_singleton] at q
                rw [q]
                have q3 : s.owners.contains (nums (perB (pathZ r toN).1)) = true := by
                  cases e : s.owners.contains (nums (perB (pathZ r toN).1)) with
                  | true => rfl
                  | false => exact absurd e q3
                exact List.contains_iff_mem.1 q3
            · show (s.tos ++ [perB (pathZ r toN).1]).Nodup
              rw [List.nodup_append]
              refine ⟨h.one, by simp, fun a ha b hb e => ?_⟩
              simp only [List.mem_singleton] at hb
              subst hb
              exact contains_mem q4 (e ▸ ha)
            · show (s.tos ++ [perB (pathZ r toN).1]).length ≤ 16
              have := h.len
              simp
              omega
            · have : s.takes = 1 := e
              rw [h0] at this
              cases this
theorem beginZ_k {s : SS} (h : Rcp s) (h0 : s.takes = 0) (r : ByteArray) : Keep s (beginZ s r).1 := by
  unfold beginZ
  split
  · exact ⟨h, rfl, rfl⟩
  · rename_i q
    split
    · exact ⟨h, rfl, rfl⟩
    · exact ⟨⟨h.own, h.one, h.len, fun _ => q⟩, rfl, rfl⟩
theorem leaveC_k {s : SS} (h : Rcp s) (h0 : s.takes = 0) (v r : ByteArray) : Keep s (leaveC s v r).1 := by
  have n1 : s.takes ≠ 1 := by rw [h0]; decide
  unfold leaveC
  split
  · exact ⟨h, rfl, rfl⟩
  · split
    · exact ⟨Rcp.none' rfl (by show (3 : Int) ≠ 1; decide), rfl, rfl⟩
    · exact ⟨Rcp.none' rfl n1, rfl, rfl⟩
theorem doZ_k {s : SS} (h : Rcp s) (h0 : s.takes = 0) (v r : ByteArray) : Keep s (doZ s v r).1 := by
  have n1 : s.takes ≠ 1 := by rw [h0]; decide
  unfold doZ codeZ
  split
  · unfold greetZ
    split
    · exact ⟨h, rfl, rfl⟩
    · exact ⟨Rcp.none' rfl n1, rfl, rfl⟩
  · split
    · exact fromZ_k h h0 r
    · split
      · exact gotoZ_k h h0 r
      · split
        · exact beginZ_k h h0 r
        · split
          · exact ⟨h, rfl, rfl⟩
          · split
            · exact ⟨h, rfl, rfl⟩
            · split
              · exact leaveC_k h h0 v r
              · exact ⟨h, rfl, rfl⟩
theorem addS_k (s : SS) (c : Int) : (addS s c).tos = s.tos ∧ (addS s c).owners = s.owners ∧ (addS s c).size = s.size ∧ (addS s c).takes = s.takes := by
  unfold addS
  split
  · exact ⟨rfl, rfl, rfl, rfl⟩
  · split
    · exact ⟨rfl, rfl, rfl, rfl⟩
    · exact ⟨rfl, rfl, rfl, rfl⟩
theorem byteZ_k {s : SS} (h : Rcp s) (h0 : s.takes = 0) (c : Int) : Keep s (byteZ s c).1 := by
  unfold byteZ
  split
  · unfold seZ
    split
    · exact ⟨h.same rfl rfl id, rfl, rfl⟩
    · obtain ⟨a, b, d⟩ := doZ_k (s := offZ (halfZ s c)) (h.same rfl rfl id) h0 (verbZ (halfZ s c).line) (restZ (halfZ s c).line)
      exact ⟨a, b, d⟩
  · dsimp only
    obtain ⟨a1, a2, a3, a4⟩ := addS_k (halfZ s c) 13
    split
    · split
      · exact ⟨h.same a1 a2 (fun e => a4.symm.trans e), a2, a3⟩
      · exact ⟨h.same rfl rfl id, rfl, rfl⟩
    · split
      · obtain ⟨b1, b2, b3, b4⟩ := addS_k (addS (halfZ s c) 13) c
        exact ⟨h.same (b1.trans a1) (b2.trans a2) (fun e => a4.symm.trans (b4.symm.trans e)), b2.trans a2, b3.trans a3⟩
      · obtain ⟨b1, b2, b3, b4⟩ := addS_k (halfZ s c) c
        exact ⟨h.same b1 b2 (fun e => b4.symm.trans e), b2, b3⟩
theorem textS_k {s : SS} (h : Rcp s) (r : Dt.RS × Nat) : Keep s (textS s r).1 := by
  unfold textS
  split
  · split
    · exact ⟨h.same rfl rfl (fun e => absurd (show (2 : Int) = 1 from e) (by decide)), rfl, rfl⟩
    · exact ⟨Rcp.none' rfl (by show (0 : Int) ≠ 1; decide), rfl, rfl⟩
  · exact ⟨h.same rfl rfl id, rfl, rfl⟩
theorem sb_k {s : SS} (h : Rcp s) (c : Int) : Keep s (sb s c).1 := by
  unfold sb
  split
  · rename_i h0
    exact byteZ_k h h0 c
  · split
    · exact ⟨h, rfl, rfl⟩
    · exact textS_k h _
theorem runS_k : ∀ (l : List Int) {s : SS}, Rcp s → Keep s (runS s l).1
  | [], s, h => ⟨h, rfl, rfl⟩
  | c :: l, s, h => by
    unfold runS
    split
    · have a := sb_k h c
      have b := runS_k l a.rcp
      exact ⟨b.rcp, b.owners.trans a.owners, b.size.trans a.size⟩
    · exact ⟨h, rfl, rfl⟩
theorem rcp_new (host : ByteArray) (os : List (List Int)) (size : Int) : Rcp (newS host os size) := Rcp.none' rfl (by show (0 : Int) ≠ 1; decide)

def r354 : List Int := [51, 53, 52, 32, 111, 107, 13, 10]
theorem codes_not : codesL.all (fun c => !decide (nums (replyZ xH c) = r354)) = true := by decide +kernel
theorem code_not {c : Int} (h : c ∈ codesL) : nums (replyZ xH c) ≠ r354 := by
  have := List.all_eq_true.1 codes_not c h
  simpa using this
theorem helo_not : nums (heloZ xH) ≠ r354 := by decide +kernel
theorem ehlo_not (z : Int) : nums (ehloZ xH z) ≠ r354 := by
  unfold ehloZ
  rw [nums_append, nums_append, nums_append, nums_append, nums_append, nums_append, nums_append, nums_append, nums_append]
  intro h
  have := congrArg List.head? h
  simp [r354, nums, xH] at this
/-- A reply 354 begins a text. -/
structure Begun (s s' : SS) : Prop where
  takes : s'.takes = 1
  text : s'.text = some (Dt.new0 s.size)
theorem OutI.not {s : SS} {p : SS × Int} (h : OutI s p) (hr : nums (replyZ xH p.2) = r354) : p.1.takes = 1 := by
  rcases h.said with ⟨_, h2⟩ | ⟨h1, _⟩
  · exact absurd hr (code_not h2)
  · exact h1
theorem doZ_354 {s : SS} (h0 : s.takes = 0) (hh : s.host = xH) (v r : ByteArray) (hr : nums (doZ s v r).2 = r354) : Begun s (doZ s v r).1 := by
  have no : ∀ p : SS × Int, OutI s p → p.1.takes ≠ 1 → nums (codeZ s.host p).2 = r354 → False := fun p hp hn e => by
    unfold codeZ at e
    rw [hh] at e
    exact hn (hp.not e)
  have pl : ∀ c ∈ codesL, nums (replyZ s.host c) = r354 → False := fun c hc e => by rw [hh] at e; exact code_not hc e
  unfold doZ at hr ⊢
  split at hr
  · rename_i q
    exfalso
    unfold greetZ at hr
    split at hr
    · exact pl 501 (by simp [codesL]) hr
    · have hr : nums (if v.toList = [72, 69, 76, 79] then heloZ s.host else ehloZ s.host s.size) = r354 := hr
      rw [hh] at hr
      split at hr
      · exact helo_not hr
      · exact ehlo_not _ hr
  · rename_i q
    rw [if_neg q]
    split at hr
    · exact (no _ (fromZ_r h0 r) (by
        unfold fromZ
        repeat' split
        all_goals (intro e; have e : s.takes = 1 := e; rw [h0] at e; cases e)) hr).elim
    · rename_i q
      rw [if_neg q]
      split at hr
      · exact (no _ (gotoZ_r h0 r) (by
          unfold gotoZ
          repeat' split
          all_goals (intro e; have e : s.takes = 1 := e; rw [h0] at e; cases e)) hr).elim
      · rename_i q
        rw [if_neg q]
        split at hr
        · rename_i q
          rw [if_pos q]
          unfold codeZ beginZ at *
          split at hr
          · exact (pl 503 (by simp [codesL]) hr).elim
          · rename_i q1
            rw [if_neg q1]
            split at hr
            · exact (pl 501 (by simp [codesL]) hr).elim
            · rename_i q2
              rw [if_neg q2]
              exact ⟨rfl, rfl⟩
        · rename_i q
          rw [if_neg q]
          split at hr
          · exact (pl 250 (by simp [codesL]) hr).elim
          · rename_i q
            rw [if_neg q]
            split at hr
            · exact (pl 252 (by simp [codesL]) hr).elim
            · rename_i q
              rw [if_neg q]
              split at hr
              · exact (no _ (leaveC_r h0 v r) (by
                  unfold leaveC
                  repeat' split
                  all_goals (intro e; first | (have e : s.takes = 1 := e; rw [h0] at e; cases e) | (have e : (3 : Int) = 1 := e; cases e))) hr).elim
              · exact (pl 500 (by simp [codesL]) hr).elim
theorem seZ_354 {s : SS} (h0 : s.takes = 0) (hh : s.host = xH) (hr : nums (seZ s).2 = r354) : Begun s (seZ s).1 := by
  unfold seZ at hr ⊢
  split at hr
  · exact absurd (by rw [← hh]; exact hr) (code_not (c := 500) (by simp [codesL]))
  · rename_i q
    rw [if_neg q]
    obtain ⟨a, b⟩ := doZ_354 (s := offZ s) h0 hh _ _ hr
    exact ⟨a, b⟩
theorem quiet_all : ∀ (l : List Int) (s : SS), s.takes = 0 → (∀ c ∈ l, c ≠ 10) → ∃ t, runS s l = (t, [], l.length) ∧ t.takes = 0 ∧ t.host = s.host ∧ t.size = s.size
  | [], s, h0, _ => ⟨s, rfl, h0, rfl, rfl⟩
  | c :: l, s, h0, hl => by
    obtain ⟨t, e, t0, th, t1, t2, t3⟩ := byte_quiet h0 (c := c) (fun h => hl c (by simp) h.2)
    obtain ⟨u, k1, k2, k3, k4⟩ := quiet_all l t t0 (fun d hd => hl d (by simp [hd]))
    refine ⟨u, ?_, k2, k3.trans t1, k4.trans t2⟩
    rw [runS_byte h0, e, k1]
    simp [nums_nil]
theorem r55_not : nums (replyZ xH 552) ≠ r354 ∧ (∀ l, nums (replyZ xH 552) ++ l ≠ r354) ∧ ∀ l, nums (replyZ xH 554) ++ l ≠ r354 := by
  refine ⟨by decide +kernel, fun l h => ?_, fun l h => ?_⟩
  · have e : nums (replyZ xH 552) = [53, 53, 50, 32, 110, 111, 13, 10] := by decide +kernel
    rw [e] at h
    have := congrArg List.head? h
    simp [r354] at this
  · have e : nums (replyZ xH 554) = [53, 53, 52, 32, 110, 111, 13, 10] := by decide +kernel
    rw [e] at h
    have := congrArg List.head? h
    simp [r354] at this
def dataL : List Int := [68, 65, 84, 65, 13, 10]
/-- DATA that is answered 354 begins a text. -/
theorem data_begun {s : SS} (hw : WfS s) (hh : s.host = xH) (hr : (runS s dataL).2.1 = r354) : Begun s (runS s dataL).1 := by
  by_cases h0 : s.takes = 0
  · obtain ⟨t, e, t0, t1, t2⟩ := quiet_all [68, 65, 84, 65, 13] s h0 (by decide)
    have ea : dataL = [68, 65, 84, 65, 13] ++ [10] := rfl
    have er : runS s dataL = ((runS t [10]).1, (runS t [10]).2.1, 5 + (runS t [10]).2.2) := by
      rw [ea, runS_app _ _ _ (by rw [e]), e]
      simp
    rw [er] at hr ⊢
    rw [runS_byte t0] at hr ⊢
    simp only [runS, List.append_nil] at hr ⊢
    by_cases hf : t.half = true
    · have e2 : byteZ t 10 = seZ (halfZ t 10) := by unfold byteZ; rw [if_pos ⟨hf, rfl⟩]
      rw [e2] at hr ⊢
      obtain ⟨a, b⟩ := seZ_354 (s := halfZ t 10) t0 (t1.trans hh) hr
      exact ⟨a, by rw [b]; show some (Dt.new0 t.size) = _; rw [t2]⟩
    · obtain ⟨u, e3, _⟩ := byte_quiet t0 (c := 10) (fun h => hf h.1)
      rw [e3] at hr
      simp [nums_nil, r354] at hr
  · by_cases h1 : s.takes = 1
    · exfalso
      obtain ⟨rs, e, ov⟩ := hw.t1 h1
      rw [runS_text _ _ _ h1 e ov] at hr
      have hr : nums (textS s (Dt.runZ rs dataL)).2.1 ++ (runS (textS s (Dt.runZ rs dataL)).1 (dataL.drop (Dt.runZ rs dataL).2)).2.1 = r354 := hr
      unfold textS at hr
      split at hr
      · split at hr
        · rw [runS_stop (by show ¬ ((2 : Int) = 0 ∨ (2 : Int) = 1); decide)] at hr
          simp [nums_nil, r354] at hr
        · rw [hh] at hr
          have hr : nums (replyZ xH (if Dt.faultZ (Dt.runZ rs dataL).1 = 2 then 552 else 554)) ++ _ = r354 := hr
          split at hr
          · exact r55_not.2.1 _ hr
          · exact r55_not.2.2 _ hr
      · rename_i q
        have hall := Dt.run_all dataL rs (by simpa using q)
        rw [hall, List.drop_length] at hr
        simp [runS, nums_nil, r354] at hr
    · rw [runS_stop (by simp [h0, h1])] at hr
      simp [r354] at hr
end Go.Proofs.YtbckbonffajmeaaGreatDoor
namespace Go.Proofs.YtbckbonffajmeaaGreatDoor
open Go.RowKit Go.Shelf Go.Maps
set_option linter.unusedVariables false
set_option linter.unusedSimpArgs false

/-- What a frame is to a reader. -/
structure Frm (l F : List Int) : Prop where
  ne : F ≠ []
  byt : Byt F
  len : F.length ≤ 10000
  run : ∀ m : Int, 0 ≤ m → (Dt.runZ (Dt.new0 m) F).1.over = true ∧ (Dt.runZ (Dt.new0 m) F).2 = F.length ∧ Dt.faultZ (Dt.runZ (Dt.new0 m) F).1 = (if m < (l.length : Int) then 2 else 0) ∧ ((l.length : Int) ≤ m → Dt.textZ (Dt.runZ (Dt.new0 m) F).1 = l)
theorem frame_put {s : SS} {l F : List Int} {m : Int} (hf : Frm l F) (hm : 0 ≤ m) (h1 : s.takes = 1) (ht : s.text = some (Dt.new0 m)) (hh : s.host = xH) :
    (m < (l.length : Int) → runS s F = (leaveZ s, nums (replyZ xH 552), F.length)) ∧ ((l.length : Int) ≤ m → ∃ rs, runS s F = ({ s with takes := 2, text := some rs }, [], F.length) ∧ Dt.textZ rs = l) := by
  obtain ⟨r1, r2, r3, r4⟩ := hf.run m hm
  have hr := runS_text F s (Dt.new0 m) h1 ht rfl
  rw [r2, List.drop_length] at hr
  constructor
  · intro hlt
    rw [if_pos hlt] at r3
    have e : textS s (Dt.runZ (Dt.new0 m) F) = (leaveZ s, replyZ xH 552, (Dt.runZ (Dt.new0 m) F).2) := by
      unfold textS
      rw [if_pos r1, if_neg (by rw [r3]; decide), if_pos r3, hh]
    rw [hr, e]
    simp [runS]
  · intro hle
    rw [if_neg (by omega)] at r3
    have e : textS s (Dt.runZ (Dt.new0 m) F) = ({ s with takes := 2, text := some (Dt.runZ (Dt.new0 m) F).1 }, ⟨#[]⟩, (Dt.runZ (Dt.new0 m) F).2) := by
      unfold textS
      rw [if_pos r1, if_pos r3]
    refine ⟨(Dt.runZ (Dt.new0 m) F).1, ?_, r4 hle⟩
    rw [hr, e]
    simp [runS, nums_nil]
theorem so354 : strOfNums r354 = ⟨#[51, 53, 52, 32, 111, 107, 13, 10]⟩ := rfl
theorem so552 : strOfNums (nums (replyZ xH 552)) = ⟨#[53, 53, 50, 32, 110, 111, 13, 10]⟩ := by rw [str_nums]; kernel_rfl
theorem so_354 {l : List Int} (hl : Byt l) (h : (strOfNums l).toList = [51, 53, 52, 32, 111, 107, 13, 10]) : l = r354 := by
  have e : strOfNums l = ⟨#[51, 53, 52, 32, 111, 107, 13, 10]⟩ := toList_inj (by rw [h, ByteArray.toList_eq])
  have := congrArg nums e
  rw [nums_str hl] at this
  exact this
set_option maxHeartbeats 16000000 in
set_option maxRecDepth 100000 in
theorem mails_any (mx : Int) (a0 : Option Addr) (n0 c0 : Nat) (os : List ByteArray) (size : Int) (a2 : Option Addr) (n2 c2 : Nat) (l2 : List Int) (a3 : Option Addr) (n3 c3 : Nat) (l3 F : List Int) (rz : Int) (w : World)
    (hn : os.length = n0) (hr : SRow w a0 os) (hl2 : l2.length = n2) (hc2 : n2 ≤ c2) (hb2 : Byt l2) (hrow2 : Row w a2 l2) (hl3 : l3.length = n3) (hrow3 : Row w a3 l3)
    (hst : ∀ V, Below w.heap.size w V → n3 ≤ 3000 → Calls Tryz.prog 23 #[.slice a3 n3 c3] V fun e w' => ∃ v, e = .returned (.tuple #[v, .int .i64 rz]) ∧ (rz = 0 → Own w' V.heap.size v F) ∧ Below V.heap.size V w')
    (hF : rz = 0 → n3 ≤ 3000 → Frm l3 F) (hgl : Gl mx w) :
    Calls Tryz.prog 7 #[.slice a0 n0 c0, .int .i64 size, .slice a2 n2 c2, .slice a3 n3 c3] w fun e w' => e = .returned (.bool true) ∧ Below w.heap.size w w' := by
  have HG : Hid (Gl mx w) := hgl
  have hal := fun (V : World) (hb : Below w.heap.size w V) => alive_any mx V (HG.out.below hb)
  have hlong := long_any a0 n0 c0 os w hn hr
  have HR : Hid (SRow w a0 os ∧ os.length = n0) := ⟨hr, hn⟩
  have HL : Hid (l2.length = n2 ∧ n2 ≤ c2 ∧ Byt l2 ∧ Row w a2 l2) := ⟨hl2, hc2, hb2, hrow2⟩
  have HT : Hid (l3.length = n3 ∧ Row w a3 l3) := ⟨hl3, hrow3⟩
  have HST : Hid (∀ V, Below w.heap.size w V → n3 ≤ 3000 → Calls Tryz.prog 23 #[.slice a3 n3 c3] V fun e w' => ∃ v, e = .returned (.tuple #[v, .int .i64 rz]) ∧ (rz = 0 → Own w' V.heap.size v F) ∧ Below V.heap.size V w') := hst
  have HF : Hid (rz = 0 → n3 ≤ 3000 → Frm l3 F) := hF
  clear hgl hr hn hl2 hc2 hb2 hrow2 hl3 hrow3 hst hF
  obtain ⟨lg, hlg⟩ : ∃ b, longZ os = b := ⟨_, rfl⟩
  rw [hlg] at hlong
  have HLG : Hid (longZ os = lg) := hlg
  clear hlg
  cases lg with
  | true =>
    go_enter Tryz.func7, Tryz.ntmps7
    go_wp2_with fail
    refine hlong.mono ?_
    rintro e w1 ⟨rfl, hw1⟩
    rw [hw1]
    clear hlong hw1 w1
    go_wp2_with (go_at_call 9; refine (hal _ (Below.refl _ _)).mono ?_; rintro e w2 ⟨rfl, hb2⟩)
    go_ret
    exact ⟨rfl, by assumption⟩
  | false =>
  by_cases p1 : 2000 < n2
  · have hd1 : decide ((n2 : Int) > 2000) = true := by simp; omega
    go_enter Tryz.func7, Tryz.ntmps7
    go_wp2_with fail
    refine hlong.mono ?_
    rintro e w1 ⟨rfl, hw1⟩
    rw [hw1]
    clear hlong hw1 w1
    go_wp2_with (go_at_call 9; refine (hal _ (Below.refl _ _)).mono ?_; rintro e w2 ⟨rfl, hb2⟩)
    go_ret
    exact ⟨rfl, by assumption⟩
  have hd1 : decide ((n2 : Int) > 2000) = false := by simp; omega
  by_cases p2 : 3000 < n3
  · have hd2 : decide ((n3 : Int) > 3000) = true := by simp; omega
    go_enter Tryz.func7, Tryz.ntmps7
    go_wp2_with fail
    refine hlong.mono ?_
    rintro e w1 ⟨rfl, hw1⟩
    rw [hw1]
    clear hlong hw1 w1
    go_wp2_with (go_at_call 9; refine (hal _ (Below.refl _ _)).mono ?_; rintro e w2 ⟨rfl, hb2⟩)
    go_ret
    exact ⟨rfl, by assumption⟩
  have hd2 : decide ((n3 : Int) > 3000) = false := by simp; omega
  have hn2 : n2 ≤ 2000 := by omega
  have hn0 : n0 ≤ 80 := by
    have h := HLG.out
    unfold longZ at h
    rw [Bool.or_eq_false_iff, HR.out.2] at h
    have := h.1
    simp at this
    omega
  have hn3 : n3 ≤ 3000 := by omega
  clear p1 p2
  have hz : ∀ o ∈ os, o.size ≤ 100000000 := by
    have h := HLG.out
    unfold longZ at h
    rw [Bool.or_eq_false_iff] at h
    intro o ho
    have := List.any_eq_false.1 h.2 o ho
    simp at this
    omega
  have hnew := new_any ⟨#[120]⟩ size a0 n0 c0 os w HR.out.2 HR.out.1 (by decide) hz
  clear hz
  obtain ⟨ok, hok⟩ : ∃ b, newOk ⟨#[120]⟩ os size = b := ⟨_, rfl⟩
  have HOK : Hid (newOk ⟨#[120]⟩ os size = ok) := hok
  clear hok
  go_enter Tryz.func7, Tryz.ntmps7
  go_wp2_with fail
  refine hlong.mono ?_
  rintro e w1 ⟨rfl, hw1⟩
  rw [hw1]
  clear hlong hw1 w1
  go_wp2_with fail
  refine hnew.mono ?_
  clear hnew
  rintro e w1 hans1
  have hb1 := hans1.bel
  have hstuff := HST.out w1 hb1 hn3
  cases ok with
  | false =>
    obtain rfl := hans1.no HOK.out
    clear hans1
    go_wp2_with fail
    refine hstuff.mono ?_
    rintro e w2 ⟨v, rfl, _, hb2⟩
    have hb3 := hb1.trans (hb2.mono hb1.size)
    have hal1 := hal w2 hb3
    go_wp2_with fail
    refine hal1.mono ?_
    rintro e w3 ⟨rfl, hb4⟩
    have hb5 := hb3.trans (hb4.mono hb3.size)
    go_wp2
    go_ret
    exact ⟨rfl, hb5⟩
  | true =>
  obtain ⟨g, o1, rfl, hat1, hg1, hp1⟩ := hans1.yes HOK.out
  clear hans1
  have S1 : Hid (Solo mx w 0 w1 (newM g o1) (cutS os size)) := ⟨⟨hat1, HG.out.below hb1, fun k q => by have := newM_own q; have := HG.out.size; omega⟩, fun k q => by have := newM_own q; omega, hb1⟩
  clear hat1 hb1 hg1 hp1
  go_wp2_with fail
  refine hstuff.mono ?_
  clear hstuff
  rintro e w2 ⟨v, rfl, hown, hbs⟩
  have S2 : Hid (Solo mx w 0 w2 (newM g o1) (cutS os size)) := S1.out.below hbs
  by_cases pz : rz = 0
  rotate_left
  · have hdz : (rz != 0) = true := by simpa using pz
    have hal1 := hal w2 S2.out.bel
    clear hown
    go_wp2_with fail
    refine hal1.mono ?_
    rintro e w3 ⟨rfl, hb4⟩
    have hb5 := S2.out.bel.trans (hb4.mono S2.out.bel.size)
    go_wp2
    go_ret
    exact ⟨rfl, hb5⟩
  have FR : Hid (Frm l3 F) := HF.out pz hn3
  obtain ⟨fa, fc, rfl, hfc1, hfc2, hfrow, _⟩ := own_row' (hown pz)
  have hfs : ∀ b off, fa = some ⟨b, off, none⟩ → ¬ sO (newM g o1) w2 b := fun b off e q => by
    have e1 := newM_own q
    have e2 : g < w1.heap.size := S1.out.a.at'.blk.lt
    have e3 : w1.heap.size ≤ b := by
      rcases (hown pz).2 with ⟨e4, e5⟩ | ⟨g', cap, cur, e4, e5, _⟩
      · exact absurd (List.eq_nil_of_length_eq_zero e5) FR.out.ne
      · cases e4
        cases e
        exact e5
    omega
  obtain ⟨fn, hfn⟩ : ∃ n, F.length = n := ⟨_, rfl⟩
  rw [hfn] at hfc1 ⊢
  have HFR : Hid (Row w2 fa F ∧ ∀ b off, fa = some ⟨b, off, none⟩ → ¬ sO (newM g o1) w2 b) := ⟨hfrow, hfs⟩
  have HFN : Hid (F.length = fn) := hfn
  clear hown hbs hfrow hfs hfn S1
  subst pz
  have hh0 : (cutS os size).host = xH := rfl
  have hw0 : WfS (cutS os size) := newS_wf _ _ _
  have H0 : Hid (WfS (cutS os size) ∧ (cutS os size).host = xH ∧ Rcp (cutS os size)) := ⟨hw0, hh0, rcp_new _ _ _⟩
  have HROW : Hid (∀ V, Below w.heap.size w V → Row V a2 l2) := fun V hb => row_below HL.out.2.2.2 hb
  have HSEP : Hid (l2 ≠ [] → ∀ x : Addr, a2 = some x → x.block < w.heap.size) := fun h => row_lt HL.out.2.2.2 h
  clear hh0 hw0
  have hput := sputL_any 0 mx (newM g o1) (cutS os size) w2 S2.out.a H0.out.1 (by rw [H0.out.2.1]; decide) a2 n2 c2 l2 HL.out.1 HL.out.2.1 HL.out.2.2.1 (HROW.out _ S2.out.bel) (fun h b off e q => by have h1 : b < w.heap.size := HSEP.out h _ e; have := S2.out.la b q; omega) (by omega)
  obtain ⟨⟨sA, outA, cntA⟩, hrA⟩ : ∃ r, runS (cutS os size) l2 = r := ⟨_, rfl⟩
  have HA : Hid (WfS sA ∧ sA.host = xH ∧ Keep (cutS os size) sA) := by
    have h1 := runS_host l2 (cutS os size)
    have h2 := runS_wf l2 H0.out.1
    have h3 := runS_k l2 H0.out.2.2
    rw [hrA] at h1 h2 h3
    exact ⟨h2, h1.trans H0.out.2.1, h3⟩
  rw [hrA] at hput
  clear hrA
  go_wp2_with fail
  refine hput.mono ?_
  clear hput
  rintro e w3 ⟨rfl, mA, h3, v3, hoA⟩
  have HOA : Hid (outA.length ≤ 1200 * n2) := hoA
  clear hoA
  have hgA : mA.g = g := v3.g
  have S3 : Hid (Solo mx w (0 + n2) w3 mA sA) := S2.out.step h3 v3
  have HFR3 : Hid (Row w3 fa F ∧ ∀ b off, fa = some ⟨b, off, none⟩ → ¬ sO mA w3 b) := row_mv HFR.out.1 HFR.out.2 v3 FR.out.ne
  clear h3 v3 HFR S2
  have kcc := fun (W : World) (C : Array Value) (n c : Nat) => Lib.run_convert_bytes_const (P := Tryz.prog) W 33 5 C n c Tryz.underlying33 Tryz.underlying5
  have hb3 := keep w3 (.cells (intsA dataL) 5 (6, 7))
  have hr3 := row_alloc w3 dataL (6, 7)
  have S4 : Hid (Solo mx w (0 + n2) (w3.alloc (.cells (intsA dataL) 5 (6, 7))) mA sA) := S3.out.below hb3
  have HFR4 : Hid (Row (w3.alloc (.cells (intsA dataL) 5 (6, 7))) fa F ∧ ∀ b off, fa = some ⟨b, off, none⟩ → ¬ sO mA (w3.alloc (.cells (intsA dataL) 5 (6, 7))) b) := row_mv HFR3.out.1 HFR3.out.2 (S3.out.a.below hb3).2 FR.out.ne
  have hput2 := sput_any (0 + n2) mx mA sA _ S4.out.a HA.out.1 (by rw [HA.out.2.1]; decide) (some ⟨w3.heap.size, 0, none⟩) 6 6 dataL rfl (Nat.le_refl _) (by unfold Byt; decide) hr3 (fun _ b off e q => by
    cases e
    have q1 := (S3.out.a.at'.keep hb3.size (fun k hk => hb3.block k (sO_lt S3.out.a.at' hk))).2 _ q
    have := sO_lt S3.out.a.at' (.inl q1)
    omega) (by omega)
  obtain ⟨⟨sB, outB, cntB⟩, hrB⟩ : ∃ r, runS sA dataL = r := ⟨_, rfl⟩
  have HB : Hid (WfS sB ∧ sB.host = xH ∧ Keep (cutS os size) sB ∧ Byt outB ∧ (outB = r354 → Begun sA sB)) := by
    have h1 := runS_host dataL sA
    have h2 := runS_wf dataL HA.out.1
    have h3 := runS_k dataL HA.out.2.2.rcp
    have h4 := runS_byt dataL sA
    have h5 := data_begun HA.out.1 HA.out.2.1
    rw [hrB] at h1 h2 h3 h4 h5
    exact ⟨h2, h1.trans HA.out.2.1, ⟨h3.rcp, h3.owners.trans HA.out.2.2.owners, h3.size.trans HA.out.2.2.size⟩, h4, h5⟩
  rw [hrB, hgA] at hput2
  clear hrB hb3 hr3 HFR3 S3
  go_wp2_with fail
  refine hput2.mono ?_
  clear hput2 kcc
  rintro e w5 ⟨rfl, mB, h5, v5⟩
  have hgB : mB.g = g := v5.g.trans hgA
  have S5 : Hid (Solo mx w (0 + n2 + 6) w5 mB sB) := S4.out.step h5 v5
  have HFR5 : Hid (Row w5 fa F ∧ ∀ b off, fa = some ⟨b, off, none⟩ → ¬ sO mB w5 b) := row_mv HFR4.out.1 HFR4.out.2 v5 FR.out.ne
  clear h5 v5 HFR4 S4
  by_cases pb : outB = r354
  rotate_left
  · have hbg : ((strOfNums outB).toList == [51, 53, 52, 32, 111, 107, 13, 10]) = false := by
      rw [beq_eq_false_iff_ne]
      exact fun h => pb (so_354 HB.out.2.2.2.1 h)
    have hal1 := hal w5 S5.out.bel
    go_wp2_with fail
    refine hal1.mono ?_
    rintro e w6 ⟨rfl, hb6⟩
    have hb7 := S5.out.bel.trans (hb6.mono S5.out.bel.size)
    go_wp2
    go_ret
    exact ⟨rfl, hb7⟩
  have HBG : Hid (Begun sA sB) := HB.out.2.2.2.2 pb
  rw [pb, so354]
  clear pb
  obtain ⟨za, hza⟩ : ∃ z, (strOfNums outA).size = z := ⟨_, rfl⟩
  have hzm : za ≤ 2400000 := by rw [← hza, so_size]; have := HOA.out; omega
  have hsz : sA.size = size := HA.out.2.2.size
  have hsB : sB.size = size := HB.out.2.2.1.size
  have hs0 : 1 ≤ size := by rw [← hsB]; exact S5.out.a.at'.ok.size0
  have hfp := frame_put FR.out (m := size) (by omega) HBG.out.takes (by rw [HBG.out.text, hsz]) HB.out.2.1
  have hput3 := sput_any (0 + n2 + 6) mx mB sB w5 S5.out.a HB.out.1 (by rw [HB.out.2.1]; decide) fa fn fc F HFN.out hfc1 FR.out.byt HFR5.out.1 (fun _ => HFR5.out.2) (by have := FR.out.len; have := HFN.out; omega)
  rw [hgB] at hput3
  have HPT : Hid (Calls Tryz.prog 13 #[.pointer (some ⟨g, 0, none⟩), .slice fa fn fc] w5 fun e w' => (size < (n3 : Int) → e = .returned (.tuple #[.int .i64 fn, .string ⟨#[53, 53, 50, 32, 110, 111, 13, 10]⟩]) ∧ ∃ m' s', SvAt (0 + n2 + 6 + fn) w' m' s' ∧ Mv mB m' w5 w' ∧ s'.takes = 0 ∧ s'.host = xH) ∧
      ((n3 : Int) ≤ size → e = .returned (.tuple #[.int .i64 fn, .string ⟨#[]⟩]) ∧ ∃ m' s' rs, SvAt (0 + n2 + 6 + fn) w' m' s' ∧ Mv mB m' w5 w' ∧ s'.takes = 2 ∧ s'.text = some rs ∧ Dt.textZ rs = l3 ∧ s'.host = xH ∧ s'.tos = sB.tos)) := by
    refine hput3.mono ?_
    rintro e w' ⟨rfl, m', h, v⟩
    rw [HT.out.1] at hfp
    refine ⟨fun hlt => ?_, fun hle => ?_⟩
    · have e1 := hfp.1 hlt
      rw [e1] at h ⊢
      refine ⟨?_, m', _, h, v, rfl, HB.out.2.1⟩
      show Ending.returned (.tuple #[.int .i64 (F.length : Nat), .string (strOfNums (nums (replyZ xH 552)))]) = _
      rw [HFN.out, so552]
    · obtain ⟨rs, e1, e2⟩ := hfp.2 hle
      rw [e1] at h ⊢
      refine ⟨?_, m', _, rs, h, v, rfl, rfl, e2, HB.out.2.1, rfl⟩
      show Ending.returned (.tuple #[.int .i64 (F.length : Nat), .string (strOfNums [])]) = _
      rw [HFN.out, so_nil]
  clear hput3 hfp hsz hsB
  by_cases p8 : 8 ≤ za
  · have hd8 : decide ((za : Int) ≥ 8) = true := by simp; omega
    obtain ⟨zb, hzb⟩ : ∃ zb, za = zb + 8 := ⟨za - 8, by omega⟩
    have hz8 : (za : Int) - 8 = (zb : Int) := by omega
    have hz9 : (zb : Int) ≤ (za : Int) := by omega
    have hz7 : (0 : Int) ≤ (zb : Int) := by omega
    obtain ⟨bb, hbb⟩ : ∃ b, (((strOfNums outA).extract zb za).toList == [51, 53, 52, 32, 111, 107, 13, 10]) = b := ⟨_, rfl⟩
    have hzc : (zb : Int) ≤ 2400000 := by omega
    clear hzb
    cases bb with
    | true =>
      have hal1 := hal w5 S5.out.bel
      go_wp2_with fail
      refine hal1.mono ?_
      rintro e w6 ⟨rfl, hb6⟩
      have hb7 := S5.out.bel.trans (hb6.mono S5.out.bel.size)
      go_wp2
      go_ret
      exact ⟨rfl, hb7⟩
    | false =>
      have hput3 := HPT.out
      go_wp2_with fail
      refine hput3.mono ?_
      clear hput3
      rintro e w6 ⟨k1, k2⟩
      by_cases pl : size < (n3 : Int)
      · obtain ⟨rfl, mC, sC, h6, v6, t6, x6⟩ := k1 pl
        clear k1 k2
        have hdl : decide ((n3 : Int) > size) = true := by simpa using pl
        have hgC : mC.g = g := v6.g.trans hgB
        have S6 : Hid (Solo mx w (0 + n2 + 6 + fn) w6 mC sC) := S5.out.step h6 v6
        have hw := waits_not _ mC sC w6 S6.out.a.at' (by rw [x6]; decide) (by rw [t6]; decide)
        rw [hgC] at hw
        clear h6 v6
        go_wp2_with fail
        refine hw.mono ?_
        clear hw
        rintro e w7 ⟨rfl, hb7⟩
        unfold noMail
        have S8 := (S6.out.below hb7).below (keep w7 (.cells #[.string ⟨#[]⟩, .slice none 0 0, .slice none 0 0] 48))
        have hal1 := hal _ S8.bel
        have HS8 : Hid (Below w.heap.size w (w7.alloc (.cells #[.string ⟨#[]⟩, .slice none 0 0, .slice none 0 0] 48))) := S8.bel
        clear S8 hb7
        go_wp2_with fail
        refine hal1.mono ?_
        clear hal1
        rintro e w9 ⟨rfl, hb9⟩
        have hb10 := HS8.out.trans (hb9.mono HS8.out.size)
        go_wp2
        go_ret
        exact ⟨rfl, hb10⟩
      · obtain ⟨rfl, mC, sC, rs, h6, v6, t6, x6, y6, z6, u6⟩ := k2 (by omega)
        clear k1 k2
        have hdl : decide ((n3 : Int) > size) = false := by simpa using pl
        have hgC : mC.g = g := v6.g.trans hgB
        have S6 : Hid (Solo mx w (0 + n2 + 6 + fn) w6 mC sC) := S5.out.step h6 v6
        have hw := waits_yes _ mC sC w6 rs S6.out.a.at' (by rw [z6]; decide) t6 x6 (by have := FR.out.len; have := HFN.out; omega)
        rw [hgC, y6, HT.out.1, u6] at hw
        obtain ⟨sd, hsd⟩ : ∃ x, sC.sender = x := ⟨_, rfl⟩
        obtain ⟨ts, hts⟩ : ∃ x, sB.tos = x := ⟨_, rfl⟩
        rw [hsd, hts] at hw
        have HTS : Hid ((∀ t ∈ ts, nums t ∈ os.map nums) ∧ ts.Nodup ∧ ts.length ≤ 16 ∧ ts ≠ []) := by
          have k := HB.out.2.2.1
          have ko : sB.owners = os.map nums := k.owners
          rw [← hts, ← ko]
          exact ⟨k.rcp.own, k.rcp.one, k.rcp.len, k.rcp.some' HBG.out.takes⟩
        obtain ⟨tn, htn⟩ : ∃ n, ts.length = n := ⟨_, rfl⟩
        have ht0 : 1 ≤ tn := by rw [← htn]; exact List.length_pos_iff.2 HTS.out.2.2.2
        have ht6 : tn ≤ 16 := by rw [← htn]; exact HTS.out.2.2.1
        have hd1' : decide ((tn : Int) < 1) = false := by simp; omega
        have hd2' : decide ((tn : Int) > 16) = false := by simp; omega
        rw [htn] at hw
        clear h6 v6 hsd hts
        go_wp2_with fail
        refine hw.mono ?_
        clear hw
        rintro e w7 ⟨v7, a8, c8, rfl, ho8, hr8, hb7⟩
        rw [← htn] at ho8
        obtain ⟨b8, d8, rfl, hs8⟩ := own_srow ho8
        rw [htn]
        clear ho8
        have hk := keep w7 (.cells #[.string sd, .slice b8 tn d8, .slice a8 n3 c8] 48)
        have S8 := (S6.out.below hb7).below hk
        have kx : Blk (w7.alloc (.cells #[.string sd, .slice b8 tn d8, .slice a8 n3 c8] 48)) w7.heap.size #[.string sd, .slice b8 tn d8, .slice a8 n3 c8] 48 := World.alloc_heap_new w7 _
        have x1 : (w7.alloc (.cells #[.string sd, .slice b8 tn d8, .slice a8 n3 c8] 48)).cell? ⟨w7.heap.size, 1, none⟩ = some (.slice b8 tn d8) := kx.cell 1
        have x2 : (w7.alloc (.cells #[.string sd, .slice b8 tn d8, .slice a8 n3 c8] 48)).cell? ⟨w7.heap.size, 2, none⟩ = some (.slice a8 n3 c8) := kx.cell 2
        have kc1 : (convert 33 9 (.slice a8 n3 c8)).run Tryz.prog (w7.alloc (.cells #[.string sd, .slice b8 tn d8, .slice a8 n3 c8] 48)) = .ok (.string (strOfNums l3)) (w7.alloc (.cells #[.string sd, .slice b8 tn d8, .slice a8 n3 c8] 48)) := conv_row n3 c8 HT.out.1 (row_below hr8 hk)
        have kc2 : (convert 33 9 (.slice a3 n3 c3)).run Tryz.prog (w7.alloc (.cells #[.string sd, .slice b8 tn d8, .slice a8 n3 c8] 48)) = .ok (.string (strOfNums l3)) (w7.alloc (.cells #[.string sd, .slice b8 tn d8, .slice a8 n3 c8] 48)) := conv_row n3 c3 HT.out.1 (row_below HT.out.2 S8.bel)
        have HS8 : Hid (Below w.heap.size w (w7.alloc (.cells #[.string sd, .slice b8 tn d8, .slice a8 n3 c8] 48)) ∧ SRow (w7.alloc (.cells #[.string sd, .slice b8 tn d8, .slice a8 n3 c8] 48)) b8 ts ∧ SRow (w7.alloc (.cells #[.string sd, .slice b8 tn d8, .slice a8 n3 c8] 48)) a0 os) := ⟨S8.bel, hs8.below hk, HR.out.1.below S8.bel⟩
        clear S8 hk kx hs8 hr8 hb7
        go_wp2_with fail
        generalize w7.alloc (.cells #[.string sd, .slice b8 tn d8, .slice a8 n3 c8] 48) = W8 at x1 HS8 kc1 kc2 x2 ⊢
        obtain ⟨g8, hg8⟩ : ∃ n, w7.heap.size = n := ⟨_, rfl⟩
        rw [hg8] at x1 ⊢
        clear kc1 kc2 x2 hg8
        go_loopw [21, 22, 23, 24] (fun v _ _ _ wr => ∃ (i q : Nat), v = .int .i64 i ∧ i ≤ tn ∧ wr = W8.drewN q) (fun v _ _ _ _ => tn - (intOf v).toNat)
        case atStart => exact ⟨0, 0, rfl, by omega, rfl⟩
        case round =>
          obtain ⟨i, q, rfl, hi, rfl⟩ := hrel
          have x1q : (W8.drewN q).cell? ⟨g8, 1, none⟩ = some (.slice b8 tn d8) := x1
          by_cases hlt : i < tn
          rotate_left
          · have hk2 : ¬ (i : Int) < (tn : Int) := by omega
            have hbq := below_drewN HS8.out.1 q
            have hal1 := hal (W8.drewN q) hbq
            go_wp2_with fail
            refine hal1.mono ?_
            rintro e w9 ⟨rfl, hb9⟩
            have hb10 := hbq.trans (hb9.mono hbq.size)
            go_wp2
            go_ret
            exact ⟨rfl, hb10⟩
          obtain ⟨t, ht⟩ : ∃ t, ts[i]? = some t := ⟨_, List.getElem?_eq_getElem (by omega)⟩
          obtain ⟨eb, ef, rfl, hy⟩ : ∃ b off, b8 = some ⟨b, off, none⟩ ∧ ∀ (j : Nat) (o : ByteArray), ts[j]? = some o → W8.cell? ⟨b, off + j, none⟩ = some (.string o) := by
            rcases HS8.out.2.1 with h | ⟨b, off, h1, h2⟩
            · exact absurd h HTS.out.2.2.2
            · exact ⟨b, off, h1, h2⟩
          have hti := hy i t ht
          have HY : Hid (∀ (j : Nat) (o : ByteArray), ts[j]? = some o → W8.cell? ⟨eb, ef + j, none⟩ = some (.string o)) := hy
          have HTI : Hid (ts[i]? = some t) := ht
          have i0 : (0 : Int) ≤ (i : Int) := by omega
          have i1 : (i : Int) < (tn : Int) := by omega
          clear hy ht
          go_wp2
          go_loopw [22, 23] (fun f v wr => ∃ (k q2 : Nat), f = .bool ((os.take k).any (fun o => decide (o = t))) ∧ v = .int .i64 k ∧ k ≤ n0 ∧ wr = W8.drewN q2) (fun f v _ => n0 - (intOf v).toNat)
          case atStart => exact ⟨0, q, rfl, rfl, by omega, rfl⟩
          case round =>
            obtain ⟨k, q2, rfl, rfl, hk, rfl⟩ := hrel
            have x1r : (W8.drewN q2).cell? ⟨g8, 1, none⟩ = some (.slice (some ⟨eb, ef, none⟩) tn d8) := x1
            by_cases hlk : k < n0
            · obtain ⟨o, ho⟩ : ∃ o, os[k]? = some o := ⟨_, List.getElem?_eq_getElem (by rw [HR.out.2]; exact hlk)⟩
              obtain ⟨ob, oof, rfl, hoc⟩ : ∃ b off, a0 = some ⟨b, off, none⟩ ∧ W8.cell? ⟨b, off + k, none⟩ = some (.string o) := by
                rcases HS8.out.2.2 with h | ⟨b, off, h1, h2⟩
                · rw [h] at ho; simp at ho
                · exact ⟨b, off, h1, h2 k o ho⟩
              have HT1 : Hid ((os.take (k + 1)).any (fun o => decide (o = t)) = ((os.take k).any (fun o => decide (o = t)) || decide (o = t))) := by
                unfold Hid
                rw [List.take_add_one, ho, List.any_append]
                simp
              have j0 : (0 : Int) ≤ (k : Int) := by omega
              have j1 : (k : Int) < (n0 : Int) := by omega
              obtain ⟨fb, hfb⟩ : ∃ b, (os.take k).any (fun o => decide (o = t)) = b := ⟨_, rfl⟩
              rw [hfb] at HT1 ⊢
              clear ho hfb
              cases fb with
              | true =>
                have HN : Hid ((os.take (k + 1)).any (fun o => decide (o = t)) = true) := HT1.out
                clear HT1 hoc
                go_wp2_with fail
                go_quiet (fail)
                go_wp2
                go_roundw
                case rel => exact ⟨k + 1, q2 + nq, by rw [HN.out], by go_num, by omega, by simp [World.drewN, Nat.add_assoc]⟩
                case measure => simp [intOf]; omega
              | false =>
                by_cases pe : o = t
                · have HN : Hid ((os.take (k + 1)).any (fun o => decide (o = t)) = true) := by unfold Hid; rw [HT1.out]; simp [pe]
                  clear HT1
                  rw [pe] at hoc
                  clear pe
                  go_wp2_with fail
                  go_quiet (fail)
                  go_wp2
                  go_roundw
                  case rel => exact ⟨k + 1, q2 + nq, by rw [HN.out], by go_num, by omega, by simp [World.drewN, Nat.add_assoc]⟩
                  case measure => simp [intOf]; omega
                · have HN : Hid ((os.take (k + 1)).any (fun o => decide (o = t)) = false) := by unfold Hid; rw [HT1.out]; simp [pe]
                  have e3 : (o.toList == t.toList) = false := by
                    rw [beq_eq_false_iff_ne]
                    exact fun h => pe (toList_inj h)
                  clear HT1
                  go_wp2_with fail
                  go_quiet (fail)
                  go_wp2
                  go_roundw
                  case rel => exact ⟨k + 1, q2 + nq, by rw [HN.out], by go_num, by omega, by simp [World.drewN, Nat.add_assoc]⟩
                  case measure => simp [intOf]; omega
            · have hf : (os.take k).any (fun o => decide (o = t)) = true := by
                rw [List.take_of_length_le (by rw [HR.out.2]; omega)]
                obtain ⟨o, ho, he⟩ := List.mem_map.1 (HTS.out.1 t (List.mem_of_getElem? HTI.out))
                exact List.any_eq_true.2 ⟨o, ho, by simpa using nums_inj he⟩
              rw [hf]
              have hk2 : ¬ (k : Int) < (n0 : Int) := by omega
              clear hf
              go_wp2
              go_loopw [22, 24] (fun f v wr => ∃ (k q3 : Nat), f = .bool true ∧ v = .int .i64 k ∧ k ≤ i ∧ wr = W8.drewN q3) (fun f v _ => i - (intOf v).toNat)
              case atStart => exact ⟨0, q2, rfl, rfl, by omega, rfl⟩
              case round =>
                obtain ⟨k', q3, rfl, rfl, hk', rfl⟩ := hrel
                have x1s : (W8.drewN q3).cell? ⟨g8, 1, none⟩ = some (.slice (some ⟨eb, ef, none⟩) tn d8) := x1
                by_cases hlk' : k' < i
                · obtain ⟨o, ho⟩ : ∃ o, ts[k']? = some o := ⟨_, List.getElem?_eq_getElem (by omega)⟩
                  have hoc := HY.out k' o ho
                  have pe : o ≠ t := fun e => by
                    obtain ⟨q1, q2⟩ := List.getElem?_eq_some_iff.1 ho
                    obtain ⟨q3, q4⟩ := List.getElem?_eq_some_iff.1 HTI.out
                    exact List.pairwise_iff_getElem.1 HTS.out.2.1 k' i q1 q3 hlk' (by rw [q2, q4, e])
                  have e3 : (o.toList == t.toList) = false := by
                    rw [beq_eq_false_iff_ne]
                    exact fun h => pe (toList_inj h)
                  have j0 : (0 : Int) ≤ (k' : Int) := by omega
                  have j1 : (k' : Int) < (tn : Int) := by omega
                  have j2 : (k' : Int) < (i : Int) := by omega
                  clear ho
                  go_wp2_with fail
                  go_quiet (fail)
                  go_wp2
                  go_roundw
                  case rel => exact ⟨k' + 1, q3 + nq, rfl, by go_num, by omega, by simp [World.drewN, Nat.add_assoc]⟩
                  case measure => simp [intOf]; omega
                · have hk3 : ¬ (k' : Int) < (i : Int) := by omega
                  go_wp2
                  go_roundw
                  case rel => exact ⟨i + 1, q3, by go_num, by omega, rfl⟩
                  case measure => simp [intOf]; omega
  · have hd8 : decide ((za : Int) ≥ 8) = false := by simp; omega
    have hput3 := HPT.out
    go_wp2_with fail
    refine hput3.mono ?_
    clear hput3
    rintro e w6 ⟨k1, k2⟩
    by_cases pl : size < (n3 : Int)
    · obtain ⟨rfl, mC, sC, h6, v6, t6, x6⟩ := k1 pl
      clear k1 k2
      have hdl : decide ((n3 : Int) > size) = true := by simpa using pl
      have hgC : mC.g = g := v6.g.trans hgB
      have S6 : Hid (Solo mx w (0 + n2 + 6 + fn) w6 mC sC) := S5.out.step h6 v6
      have hw := waits_not _ mC sC w6 S6.out.a.at' (by rw [x6]; decide) (by rw [t6]; decide)
      rw [hgC] at hw
      clear h6 v6
      go_wp2_with fail
      refine hw.mono ?_
      clear hw
      rintro e w7 ⟨rfl, hb7⟩
      unfold noMail
      have S8 := (S6.out.below hb7).below (keep w7 (.cells #[.string ⟨#[]⟩, .slice none 0 0, .slice none 0 0] 48))
      have hal1 := hal _ S8.bel
      have HS8 : Hid (Below w.heap.size w (w7.alloc (.cells #[.string ⟨#[]⟩, .slice none 0 0, .slice none 0 0] 48))) := S8.bel
      clear S8 hb7
      go_wp2_with fail
      refine hal1.mono ?_
      clear hal1
      rintro e w9 ⟨rfl, hb9⟩
      have hb10 := HS8.out.trans (hb9.mono HS8.out.size)
      go_wp2
      go_ret
      exact ⟨rfl, hb10⟩
    · obtain ⟨rfl, mC, sC, rs, h6, v6, t6, x6, y6, z6, u6⟩ := k2 (by omega)
      clear k1 k2
      have hdl : decide ((n3 : Int) > size) = false := by simpa using pl
      have hgC : mC.g = g := v6.g.trans hgB
      have S6 : Hid (Solo mx w (0 + n2 + 6 + fn) w6 mC sC) := S5.out.step h6 v6
      have hw := waits_yes _ mC sC w6 rs S6.out.a.at' (by rw [z6]; decide) t6 x6 (by have := FR.out.len; have := HFN.out; omega)
      rw [hgC, y6, HT.out.1, u6] at hw
      obtain ⟨sd, hsd⟩ : ∃ x, sC.sender = x := ⟨_, rfl⟩
      obtain ⟨ts, hts⟩ : ∃ x, sB.tos = x := ⟨_, rfl⟩
      rw [hsd, hts] at hw
      have HTS : Hid ((∀ t ∈ ts, nums t ∈ os.map nums) ∧ ts.Nodup ∧ ts.length ≤ 16 ∧ ts ≠ []) := by
        have k := HB.out.2.2.1
        have ko : sB.owners = os.map nums := k.owners
        rw [← hts, ← ko]
        exact ⟨k.rcp.own, k.rcp.one, k.rcp.len, k.rcp.some' HBG.out.takes⟩
      obtain ⟨tn, htn⟩ : ∃ n, ts.length = n := ⟨_, rfl⟩
      have ht0 : 1 ≤ tn := by rw [← htn]; exact List.length_pos_iff.2 HTS.out.2.2.2
      have ht6 : tn ≤ 16 := by rw [← htn]; exact HTS.out.2.2.1
      have hd1' : decide ((tn : Int) < 1) = false := by simp; omega
      have hd2' : decide ((tn : Int) > 16) = false := by simp; omega
      rw [htn] at hw
      clear h6 v6 hsd hts
      go_wp2_with fail
      refine hw.mono ?_
      clear hw
      rintro e w7 ⟨v7, a8, c8, rfl, ho8, hr8, hb7⟩
      rw [← htn] at ho8
      obtain ⟨b8, d8, rfl, hs8⟩ := own_srow ho8
      rw [htn]
      clear ho8
      have hk := keep w7 (.cells #[.string sd, .slice b8 tn d8, .slice a8 n3 c8] 48)
      have S8 := (S6.out.below hb7).below hk
      have kx : Blk (w7.alloc (.cells #[.string sd, .slice b8 tn d8, .slice a8 n3 c8] 48)) w7.heap.size #[.string sd, .slice b8 tn d8, .slice a8 n3 c8] 48 := World.alloc_heap_new w7 _
      have x1 : (w7.alloc (.cells #[.string sd, .slice b8 tn d8, .slice a8 n3 c8] 48)).cell? ⟨w7.heap.size, 1, none⟩ = some (.slice b8 tn d8) := kx.cell 1
      have x2 : (w7.alloc (.cells #[.string sd, .slice b8 tn d8, .slice a8 n3 c8] 48)).cell? ⟨w7.heap.size, 2, none⟩ = some (.slice a8 n3 c8) := kx.cell 2
      have kc1 : (convert 33 9 (.slice a8 n3 c8)).run Tryz.prog (w7.alloc (.cells #[.string sd, .slice b8 tn d8, .slice a8 n3 c8] 48)) = .ok (.string (strOfNums l3)) (w7.alloc (.cells #[.string sd, .slice b8 tn d8, .slice a8 n3 c8] 48)) := conv_row n3 c8 HT.out.1 (row_below hr8 hk)
      have kc2 : (convert 33 9 (.slice a3 n3 c3)).run Tryz.prog (w7.alloc (.cells #[.string sd, .slice b8 tn d8, .slice a8 n3 c8] 48)) = .ok (.string (strOfNums l3)) (w7.alloc (.cells #[.string sd, .slice b8 tn d8, .slice a8 n3 c8] 48)) := conv_row n3 c3 HT.out.1 (row_below HT.out.2 S8.bel)
      have HS8 : Hid (Below w.heap.size w (w7.alloc (.cells #[.string sd, .slice b8 tn d8, .slice a8 n3 c8] 48)) ∧ SRow (w7.alloc (.cells #[.string sd, .slice b8 tn d8, .slice a8 n3 c8] 48)) b8 ts ∧ SRow (w7.alloc (.cells #[.string sd, .slice b8 tn d8, .slice a8 n3 c8] 48)) a0 os) := ⟨S8.bel, hs8.below hk, HR.out.1.below S8.bel⟩
      clear S8 hk kx hs8 hr8 hb7
      go_wp2_with fail
      generalize w7.alloc (.cells #[.string sd, .slice b8 tn d8, .slice a8 n3 c8] 48) = W8 at x1 HS8 kc1 kc2 x2 ⊢
      obtain ⟨g8, hg8⟩ : ∃ n, w7.heap.size = n := ⟨_, rfl⟩
      rw [hg8] at x1 ⊢
      clear kc1 kc2 x2 hg8
      go_loopw [21, 22, 23, 24] (fun v _ _ _ wr => ∃ (i q : Nat), v = .int .i64 i ∧ i ≤ tn ∧ wr = W8.drewN q) (fun v _ _ _ _ => tn - (intOf v).toNat)
      case atStart => exact ⟨0, 0, rfl, by omega, rfl⟩
      case round =>
        obtain ⟨i, q, rfl, hi, rfl⟩ := hrel
        have x1q : (W8.drewN q).cell? ⟨g8, 1, none⟩ = some (.slice b8 tn d8) := x1
        by_cases hlt : i < tn
        rotate_left
        · have hk2 : ¬ (i : Int) < (tn : Int) := by omega
          have hbq := below_drewN HS8.out.1 q
          have hal1 := hal (W8.drewN q) hbq
          go_wp2_with fail
          refine hal1.mono ?_
          rintro e w9 ⟨rfl, hb9⟩
          have hb10 := hbq.trans (hb9.mono hbq.size)
          go_wp2
          go_ret
          exact ⟨rfl, hb10⟩
        obtain ⟨t, ht⟩ : ∃ t, ts[i]? = some t := ⟨_, List.getElem?_eq_getElem (by omega)⟩
        obtain ⟨eb, ef, rfl, hy⟩ : ∃ b off, b8 = some ⟨b, off, none⟩ ∧ ∀ (j : Nat) (o : ByteArray), ts[j]? = some o → W8.cell? ⟨b, off + j, none⟩ = some (.string o) := by
          rcases HS8.out.2.1 with h | ⟨b, off, h1, h2⟩
          · exact absurd h HTS.out.2.2.2
          · exact ⟨b, off, h1, h2⟩
        have hti := hy i t ht
        have HY : Hid (∀ (j : Nat) (o : ByteArray), ts[j]? = some o → W8.cell? ⟨eb, ef + j, none⟩ = some (.string o)) := hy
        have HTI : Hid (ts[i]? = some t) := ht
        have i0 : (0 : Int) ≤ (i : Int) := by omega
        have i1 : (i : Int) < (tn : Int) := by omega
        clear hy ht
        go_wp2
        go_loopw [22, 23] (fun f v wr => ∃ (k q2 : Nat), f = .bool ((os.take k).any (fun o => decide (o = t))) ∧ v = .int .i64 k ∧ k ≤ n0 ∧ wr = W8.drewN q2) (fun f v _ => n0 - (intOf v).toNat)
        case atStart => exact ⟨0, q, rfl, rfl, by omega, rfl⟩
        case round =>
          obtain ⟨k, q2, rfl, rfl, hk, rfl⟩ := hrel
          have x1r : (W8.drewN q2).cell? ⟨g8, 1, none⟩ = some (.slice (some ⟨eb, ef, none⟩) tn d8) := x1
          by_cases hlk : k < n0
          · obtain ⟨o, ho⟩ : ∃ o, os[k]? = some o := ⟨_, List.getElem?_eq_getElem (by rw [HR.out.2]; exact hlk)⟩
            obtain ⟨ob, oof, rfl, hoc⟩ : ∃ b off, a0 = some ⟨b, off, none⟩ ∧ W8.cell? ⟨b, off + k, none⟩ = some (.string o) := by
              rcases HS8.out.2.2 with h | ⟨b, off, h1, h2⟩
              · rw [h] at ho; simp at ho
              · exact ⟨b, off, h1, h2 k o ho⟩
            have HT1 : Hid ((os.take (k + 1)).any (fun o => decide (o = t)) = ((os.take k).any (fun o => decide (o = t)) || decide (o = t))) := by
              unfold Hid
              rw [List.take_add_one, ho, List.any_append]
              simp
            have j0 : (0 : Int) ≤ (k : Int) := by omega
            have j1 : (k : Int) < (n0 : Int) := by omega
            obtain ⟨fb, hfb⟩ : ∃ b, (os.take k).any (fun o => decide (o = t)) = b := ⟨_, rfl⟩
            rw [hfb] at HT1 ⊢
            clear ho hfb
            cases fb with
            | true =>
              have HN : Hid ((os.take (k + 1)).any (fun o => decide (o = t)) = true) := HT1.out
              clear HT1 hoc
              go_wp2_with fail
              go_quiet (fail)
              go_wp2
              go_roundw
              case rel => exact ⟨k + 1, q2 + nq, by rw [HN.out], by go_num, by omega, by simp [World.drewN, Nat.add_assoc]⟩
              case measure => simp [intOf]; omega
            | false =>
              by_cases pe : o = t
              · have HN : Hid ((os.take (k + 1)).any (fun o => decide (o = t)) = true) := by unfold Hid; rw [HT1.out]; simp [pe]
                clear HT1
                rw [pe] at hoc
                clear pe
                go_wp2_with fail
                go_quiet (fail)
                go_wp2
                go_roundw
                case rel => exact ⟨k + 1, q2 + nq, by rw [HN.out], by go_num, by omega, by simp [World.drewN, Nat.add_assoc]⟩
                case measure => simp [intOf]; omega
              · have HN : Hid ((os.take (k + 1)).any (fun o => decide (o = t)) = false) := by unfold Hid; rw [HT1.out]; simp [pe]
                have e3 : (o.toList == t.toList) = false := by
                  rw [beq_eq_false_iff_ne]
                  exact fun h => pe (toList_inj h)
                clear HT1
                go_wp2_with fail
                go_quiet (fail)
                go_wp2
                go_roundw
                case rel => exact ⟨k + 1, q2 + nq, by rw [HN.out], by go_num, by omega, by simp [World.drewN, Nat.add_assoc]⟩
                case measure => simp [intOf]; omega
          · have hf : (os.take k).any (fun o => decide (o = t)) = true := by
              rw [List.take_of_length_le (by rw [HR.out.2]; omega)]
              obtain ⟨o, ho, he⟩ := List.mem_map.1 (HTS.out.1 t (List.mem_of_getElem? HTI.out))
              exact List.any_eq_true.2 ⟨o, ho, by simpa using nums_inj he⟩
            rw [hf]
            have hk2 : ¬ (k : Int) < (n0 : Int) := by omega
            clear hf
            go_wp2
            go_loopw [22, 24] (fun f v wr => ∃ (k q3 : Nat), f = .bool true ∧ v = .int .i64 k ∧ k ≤ i ∧ wr = W8.drewN q3) (fun f v _ => i - (intOf v).toNat)
            case atStart => exact ⟨0, q2, rfl, rfl, by omega, rfl⟩
            case round =>
              obtain ⟨k', q3, rfl, rfl, hk', rfl⟩ := hrel
              have x1s : (W8.drewN q3).cell? ⟨g8, 1, none⟩ = some (.slice (some ⟨eb, ef, none⟩) tn d8) := x1
              by_cases hlk' : k' < i
              · obtain ⟨o, ho⟩ : ∃ o, ts[k']? = some o := ⟨_, List.getElem?_eq_getElem (by omega)⟩
                have hoc := HY.out k' o ho
                have pe : o ≠ t := fun e => by
                  obtain ⟨q1, q2⟩ := List.getElem?_eq_some_iff.1 ho
                  obtain ⟨q3, q4⟩ := List.getElem?_eq_some_iff.1 HTI.out
                  exact List.pairwise_iff_getElem.1 HTS.out.2.1 k' i q1 q3 hlk' (by rw [q2, q4, e])
                have e3 : (o.toList == t.toList) = false := by
                  rw [beq_eq_false_iff_ne]
                  exact fun h => pe (toList_inj h)
                have j0 : (0 : Int) ≤ (k' : Int) := by omega
                have j1 : (k' : Int) < (tn : Int) := by omega
                have j2 : (k' : Int) < (i : Int) := by omega
                clear ho
                go_wp2_with fail
                go_quiet (fail)
                go_wp2
                go_roundw
                case rel => exact ⟨k' + 1, q3 + nq, rfl, by go_num, by omega, by simp [World.drewN, Nat.add_assoc]⟩
                case measure => simp [intOf]; omega
              · have hk3 : ¬ (k' : Int) < (i : Int) := by omega
                go_wp2
                go_roundw
                case rel => exact ⟨i + 1, q3, by go_num, by omega, rfl⟩
                case measure => simp [intOf]; omega
end Go.Proofs.YtbckbonffajmeaaGreatDoor
namespace Go.Proofs.YtbckbonffajmeaaGreatDoor
open Go.RowKit Go.Shelf Go.Maps
set_option linter.unusedVariables false
set_option linter.unusedSimpArgs false

theorem frm_of {l : List Int} (h : (Dt.rightZ l).2 = 0) (hb : Byt l) (hl : l.length ≤ 3000) : Frm l (Dt.frameZ l) where
  ne := fun e => by unfold Dt.frameZ at e; simp at e
  byt := Dt.frame_byt hb
  len := by have := Dt.frame_len h; omega
  run := fun m hm => Dt.frame_long h hm
theorem mailsF_any (mx : Int) (a0 : Option Addr) (n0 c0 : Nat) (os : List ByteArray) (size : Int) (a2 : Option Addr) (n2 c2 : Nat) (l2 : List Int) (a3 : Option Addr) (n3 c3 : Nat) (l3 : List Int) (w : World)
    (hn : os.length = n0) (hr : SRow w a0 os) (hl2 : l2.length = n2) (hc2 : n2 ≤ c2) (hb2 : Byt l2) (hrow2 : Row w a2 l2) (hl3 : l3.length = n3) (hc3 : n3 ≤ c3) (hb3 : Byt l3) (hrow3 : Row w a3 l3) (hnil : a3 = none → c3 = 0) (hgl : Gl mx w) :
    Calls Tryz.prog 7 #[.slice a0 n0 c0, .int .i64 size, .slice a2 n2 c2, .slice a3 n3 c3] w fun e w' => e = .returned (.bool true) ∧ Below w.heap.size w w' := by
  refine mails_any mx a0 n0 c0 os size a2 n2 c2 l2 a3 n3 c3 l3 (Dt.frameZ l3) (Dt.rightZ l3).2 w hn hr hl2 hc2 hb2 hrow2 hl3 hrow3 (fun V hb h3 => ?_) (fun hz h3 => frm_of hz hb3 (by omega)) hgl
  have hmx : Dt.Mx V := ⟨mx, (hgl.below hb).len⟩
  by_cases hz : (Dt.rightZ l3).2 = 0
  · rw [hz]
    refine (Dt.stuff_good a3 n3 c3 l3 V hl3 hc3 hnil (by omega) hb3 (row_below hrow3 hb) hmx hz).mono ?_
    rintro e w' ⟨v, h1, h2, h4⟩
    exact ⟨v, h1, fun _ => h2, h4⟩
  · refine (Dt.stuff_bad a3 n3 c3 l3 V hl3 hc3 hnil (by omega) hb3 (row_below hrow3 hb) hmx hz).mono ?_
    rintro e w' ⟨h1, h4⟩
    exact ⟨_, h1, fun h => absurd h hz, h4⟩
end Go.Proofs.YtbckbonffajmeaaGreatDoor
