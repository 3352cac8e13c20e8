/-
  A line as it is written: the contracts of the builder's WriteString and String, and of written.
-/
import Derived.Test.YtenclgnkogmgiaaDoorOn
import Derived.Shelf.Strings.Builder1
namespace Go.Proofs.YtenclgnkogmgiaaDoor
open Go.RowKit
set_option linter.unusedVariables false

theorem str_cells (s : ByteArray) : Lib.strCells s = (nums s).map (Value.int .u8) := by
  rw [nums, List.map_map]; rfl
/-- A builder in block b that holds bytes. -/
def Bd (w : World) (B b : Nat) (l : List Int) : Prop := Lib.IsBuilder 96 5 B b (l.map (Value.int .u8)) w
/-- What is neither the builder nor bytes lies as it lay. -/
def Kw (b : Nat) (w w' : World) : Prop := ∀ (k : Nat) (cs : Array Value) (t : TypeId) (z : Nat × Nat), w.heap[k]? = some (.cells cs t z) → k ≠ b → t ≠ 5 → w'.heap[k]? = some (.cells cs t z)
theorem Kw.refl (b : Nat) (w : World) : Kw b w w := fun _ _ _ _ h _ _ => h
theorem Kw.trans {b : Nat} {x y z : World} (h : Kw b x y) (k : Kw b y z) : Kw b x z := fun i cs t q h1 h2 h3 => k i cs t q (h i cs t q h1 h2 h3) h2 h3
theorem Kw.of {b : Nat} {w w' : World} (h : Below w.heap.size w w') : Kw b w w' := fun i cs t q h1 _ _ => (h.block i (Array.getElem?_eq_some_iff.1 h1).1).trans h1
theorem Kw.set {b : Nat} (w : World) (o : Nat) (u : Value) : Kw b w (w.setCell ⟨b, o, none⟩ u) := fun i cs t q h1 h2 _ => (heap_setCell_other _ _ _ _ (by simpa using h2)).trans h1
theorem Kw.grown {b B n : Nat} {v : Value} {xs : List Value} {w w' : World} (hown : w.ownsRow B 5 1 v n xs) (h : w.grownBy w' v.ownBlock) : Kw b w w' := fun i cs t q h1 _ h3 => by
  refine (h.block i (Array.getElem?_eq_some_iff.1 h1).1 ?_).trans h1
  exact ne_type hown h1 h3
theorem Bd.below {w w' : World} {B b : Nat} {l : List Int} (h : Bd w B b l) (hb : Below w.heap.size w w') : Bd w' B b l := by
  have key : ∀ p, Lib.BuilderAt 96 5 B b p (l.map (Value.int .u8)) w → Lib.BuilderAt 96 5 B b p (l.map (Value.int .u8)) w' := by
    rintro p ⟨h1, v, h2, h3, h4⟩
    exact ⟨h1, v, (hb.block b (Array.getElem?_eq_some_iff.1 h2).1).trans h2, own_keep h3 hb, h4⟩
  rcases h with h | h
  · exact .inl (key _ h)
  · exact .inr (key _ h)
set_option maxHeartbeats 1000000 in
set_option maxRecDepth 100000 in
theorem copyCheck_any (B b : Nat) (l : List Int) (w : World) (h : Bd w B b l) : Calls Tryd.prog 88 #[.pointer (some ⟨b, 0, none⟩)] w fun e w' => e = .returned (.tuple #[]) ∧ (Lib.BuilderAt 96 5 B b (.pointer (some ⟨b, 0, none⟩)) (l.map (Value.int .u8)) w' ∧ Below B w w') ∧ Kw b w w' := by
  have sz : (Tryd.prog.info? 96).map (·.size) = some 2 := by kernel_rfl
  obtain ⟨j, hj, hjs⟩ := Option.map_eq_some_iff.1 sz
  rcases h with h | h
  · have h0 := h.cell0
    have hsh := h.shape
    have hfz := h.frozen0
    have HH : Hid (Lib.BuilderAt 96 5 B b (.pointer none) (l.map (Value.int .u8)) w) := h
    clear h
    go_enter Tryd.func88, Tryd.ntmps88
    go_wp2
    have hto : (convert 94 126 (.pointer (some ⟨b, 0, none⟩))).run Tryd.prog w = .ok (.pointer (some ⟨b, 0, none⟩)) w := by
      have hj0 : ¬ j.size = 0 := by rw [hjs]; decide
      simp [convert, run_underlying Tryd.underlying94, run_underlying Tryd.underlying126, Conv.unsafePointer, Conv.seenAt, viewAt, cellsIn, hsh, sizeOf, typeInfo, hj, hj0]
    rw [hto]
    simp only [Result.andThen]
    rw [Oper.upon_value]
    go_wp2
    rw [run_callFunc_extern Tryd.func98 (by kernel_rfl) (by kernel_rfl) (by kernel_rfl) (e := Extern.AbiNoEscape.same) (by kernel_rfl)]
    rw [Lib.run_noEscape]
    simp only [Result.andThen]
    rw [Oper.upon_value]
    go_wp2
    have hlies : liesAt Tryd.prog Tryd.prog.depth 96 (2 / Tryd.prog.cellsOf 96) 0 96 1 = true := by kernel_rfl
    have hfr : (convert 126 94 (.pointer (some ⟨b, 0, none⟩))).run Tryd.prog w = .ok (.pointer (some ⟨b, 0, none⟩)) w := by
      simp [convert, run_underlying Tryd.underlying94, run_underlying Tryd.underlying126, Conv.unsafePointer, Conv.seenAt, viewAt, hsh, variablesAt, hlies, sizeOf, typeInfo, hj]
    rw [hfr]
    simp only [Result.andThen]
    rw [Oper.upon_value]
    go_wp2
    go_end0
    exact ⟨rfl, ⟨HH.out.used _, (Below.refl B w).setCell (p := ⟨b, 0, none⟩) HH.out.1 _⟩, Kw.set _ _ _⟩
  · have h0 := h.cell0
    have HH : Hid (Lib.BuilderAt 96 5 B b (.pointer (some ⟨b, 0, none⟩)) (l.map (Value.int .u8)) w) := h
    clear h
    go_enter Tryd.func88, Tryd.ntmps88
    go_wp2
    rw [Lib.run_neq_ptr_same w _ Tryd.underlying94 hj]
    go_wp2
    go_end0
    exact ⟨rfl, ⟨HH.out, Below.refl B _⟩, Kw.refl _ _⟩
set_option maxHeartbeats 2000000 in
set_option maxRecDepth 100000 in
theorem ws_any (B b : Nat) (l : List Int) (s : ByteArray) (w : World) (h : Bd w B b l) (hlen : l.length + s.size ≤ 1000000000) (hBw : B ≤ w.heap.size) :
    Calls Tryd.prog 66 #[.pointer (some ⟨b, 0, none⟩), .string s] w fun e w' => e = .returned (.tuple #[.int .i64 s.size, .nilIface]) ∧ Bd w' B b (l ++ nums s) ∧ Below B w w' ∧ Kw b w w' := by
  obtain ⟨i0, hi, hz0, hz1, hz2⟩ := info_parts Tryd.info5
  go_enter Tryd.func66, Tryd.ntmps66
  go_wp2_with (go_at_call 88; refine (copyCheck_any B b l _ h).mono ?_)
  rintro e w1 ⟨rfl, ⟨h1, hb1⟩, hkw1⟩
  obtain ⟨hB, v, hbk, hown, hne⟩ := h1
  have c0 : w1.cell? ⟨b, 0, none⟩ = some (.pointer (some ⟨b, 0, none⟩)) := by rw [Lib.cell_of_heap hbk]; rfl
  have c1 : w1.cell? ⟨b, 1, none⟩ = some v := by rw [Lib.cell_of_heap hbk]; rfl
  rw [List.length_map] at hown
  go_wp2_with (at_builtin; refine Lib.wpList_append_own_string _ rfl _ _ 29 9 rfl B 5 i0 Tryd.underlying29 Tryd.underlying9 hi hz0 hz1 hz2 _ _ _ rfl hown s rfl ?c3 ?c4 ?c5 ?_)
  case c3 => unfold maxLen; omega
  case c4 => omega
  case c5 => have := hb1.size; omega
  intro v' w2 hown' hgrow _
  have hlt : b < w1.heap.size := (Array.getElem?_eq_some_iff.1 hbk).1
  have hb2 : w2.heap[b]? = some (.cells #[.pointer (some ⟨b, 0, none⟩), v] 96 (0, 0)) := by
    rw [hgrow.block b hlt (fun e => hne e.symm)]
    exact hbk
  have d0 : w2.cell? ⟨b, 0, none⟩ = some (.pointer (some ⟨b, 0, none⟩)) := by rw [Lib.cell_of_heap hb2]; rfl
  have d1 : w2.cell? ⟨b, 1, none⟩ = some v := by rw [Lib.cell_of_heap hb2]; rfl
  have f1 : w2.frozen? ⟨b, 1, none⟩ = false := Lib.frozen_of_heap hb2 1
  have HKW : Hid (Kw b w w2) := hkw1.trans (Kw.grown hown hgrow)
  obtain ⟨ao, n', cap, rfl⟩ : ∃ ao n' cap, v' = .slice ao n' cap := by
    rcases hown'.2 with ⟨hv, _⟩ | ⟨g, cap, cur, hv, _⟩
    · exact ⟨_, _, _, hv⟩
    · exact ⟨_, _, _, hv⟩
  have HP : Hid (w2.ownsRow B 5 1 (.slice ao n' cap) ((l ++ nums s).map (Value.int .u8)).length ((l ++ nums s).map (Value.int .u8))) := by
    unfold Hid
    rw [List.map_append, List.length_append, List.length_map, List.length_map, nums_len, ← str_cells]
    exact hown'
  have HBL : Hid (Below B w w2) := hb1.grown hgrow (by have := hb1.size; omega) (fun k hk => (hown.lt k hk).1)
  clear hown' hgrow hkw1
  go_wp2
  go_ret2
  exact ⟨rfl, .inr (Lib.BuilderAt.put (T := 96) (e := 5) hB hb2 (bs' := (l ++ nums s).map (Value.int .u8)) HP.out (by decide)), HBL.out.setCell (p := ⟨b, 1, none⟩) hB _, HKW.out.trans (Kw.set _ _ _)⟩
set_option maxRecDepth 100000 in
theorem bstr_any (B b : Nat) (l : List Int) (w : World) (h : Bd w B b l) (hl : Byt l) (hBw : B ≤ w.heap.size) : Calls Tryd.prog 68 #[.pointer (some ⟨b, 0, none⟩)] w fun e w' => e = .returned (.string (strOfNums l)) ∧ Below B w w' := by
  have e : l.map (Value.int .u8) = Lib.byteCells (strOfNums l).data.toList := by
    have := str_cells (strOfNums l)
    rw [nums_str hl] at this
    rw [← this]; rfl
  have h2 : Lib.IsBuilder 96 5 B b (Lib.byteCells (strOfNums l).data.toList) w := by rw [← e]; exact h
  have := Builder_String_any B b (strOfNums l).data.toList w h2 hBw
  simpa using this
/-- The signs that stand between two " alone. -/
def mk3 (c : Int) : Bool := [59, 58, 44].contains c
/-- A parameter as it is written. -/
def parW (p : List Int × List Int) : List Int := 59 :: (p.1 ++ 61 :: (if p.2.any mk3 = true then 34 :: (p.2 ++ [34]) else p.2))
/-- A line as it is written. -/
def writtenZ (l : Ln) : List Int := l.name ++ (l.pars.flatMap parW ++ 58 :: l.value)
theorem any_mk3 (l : List Int) : decide (0 ≤ anyI (nums ⟨#[59, 58, 44]⟩) l) = l.any mk3 := by
  have e : anyI (nums ⟨#[59, 58, 44]⟩) l = if l.any mk3 then ((l.takeWhile fun c => !mk3 c).length : Int) else -1 := rfl
  rw [e]
  cases l.any mk3 with
  | true => simp
  | false => simp
theorem mk3_asc : Asc ⟨#[59, 58, 44]⟩ := asc_of (by decide)
theorem parW_byt {p : List Int × List Int} (h1 : Byt p.1) (h2 : Byt p.2) : Byt (parW p) := by
  intro x hx
  unfold parW at hx
  split at hx
  · simp at hx
    rcases hx with rfl | hx | rfl | rfl | hx | rfl
    all_goals first | omega | exact h1 x hx | exact h2 x hx
  · simp at hx
    rcases hx with rfl | hx | rfl | hx
    all_goals first | omega | exact h1 x hx | exact h2 x hx
theorem parW_len (p : List Int × List Int) : (parW p).length ≤ p.1.length + p.2.length + 4 := by
  unfold parW; split <;> simp <;> omega
/-- All of a list of parameters, written. -/
theorem pars_len (fs : List (ByteArray × ByteArray)) (b : Nat) (h : ∀ f ∈ fs, f.1.size + f.2.size ≤ b) : ((numsP fs).flatMap parW).length ≤ (b + 4) * fs.length := by
  induction fs with
  | nil => simp [numsP]
  | cons f fs ih =>
    have h1 := ih (fun g hg => h g (by simp [hg]))
    have h2 := parW_len (nums f.1, nums f.2)
    have h3 := h f (by simp)
    simp only [nums_len] at h2
    unfold numsP at h1 ⊢
    rw [List.map_cons, List.flatMap_cons, List.length_append, List.length_cons, Nat.mul_succ]
    omega
theorem pars_take (fs : List (ByteArray × ByteArray)) (k : Nat) (f : ByteArray × ByteArray) (h : fs[k]? = some f) : (numsP (fs.take (k + 1))).flatMap parW = (numsP (fs.take k)).flatMap parW ++ parW (nums f.1, nums f.2) := by
  rw [List.take_add_one, h]; simp [numsP]
theorem written_byt (nm vl : ByteArray) (fs : List (ByteArray × ByteArray)) : Byt (writtenZ ⟨nums nm, numsP fs, nums vl⟩) := by
  unfold writtenZ
  refine (nums_byt nm).append (Byt.append ?_ ?_)
  · intro x hx
    obtain ⟨p, hp, hx⟩ := List.mem_flatMap.1 hx
    obtain ⟨f, hf, rfl⟩ := List.mem_map.1 hp
    exact parW_byt (nums_byt _) (nums_byt _) x hx
  · intro x hx
    simp at hx
    rcases hx with rfl | hx
    · omega
    · exact nums_byt vl x hx
set_option maxHeartbeats 1500000 in
set_option maxRecDepth 100000 in
theorem written_any (nm vl : ByteArray) (a : Option Addr) (n c : Nat) (fs : List (ByteArray × ByteArray)) (w : World) (hn : fs.length = n) (hr : FRow w a fs) (hn1 : n ≤ 1000) (h1 : nm.size ≤ 100000) (h2 : vl.size ≤ 100000) (hf : ∀ f ∈ fs, f.1.size + f.2.size ≤ 100000) :
    Calls Tryd.prog 45 #[lineV nm vl a n c] w fun e w' => e = .returned (.string (strOfNums (writtenZ ⟨nums nm, numsP fs, nums vl⟩))) ∧ Below w.heap.size w w' := by
  have HR : Hid (FRow w a fs) := hr
  have HF : Hid (∀ f ∈ fs, f.1.size + f.2.size ≤ 100000) := hf
  have hca := fun (v : ByteArray) (hv : v.size ≤ 1000000000) V => containsAny_any v ⟨#[59, 58, 44]⟩ V (by decide) (by decide) hv mk3_asc
  simp only [any_mk3] at hca
  have HCA : Hid _ := hca
  have HW : Hid (Byt (writtenZ ⟨nums nm, numsP fs, nums vl⟩)) := written_byt nm vl fs
  unfold lineV
  clear hr hf hca
  go_enter Tryd.func45, Tryd.ntmps45
  go_wp2_with fail
  have hbx := heap_alloc_last w (.cells #[.string nm, .slice a n c, .string vl] 39)
  have hB0 : Bd ((w.alloc (.cells #[.string nm, .slice a n c, .string vl] 39)).alloc (.cells #[.pointer none, .slice none 0 0] 96)) (w.heap.size + 1) (w.heap.size + 1) [] := by
    refine .inl ⟨Nat.le_refl _, .slice none 0 0, ?_, ⟨rfl, .inl ⟨rfl, rfl⟩⟩, by simp [Value.ownBlock]⟩
    have := heap_alloc_last (w.alloc (.cells #[.string nm, .slice a n c, .string vl] 39)) (.cells #[.pointer none, .slice none 0 0] 96)
    rw [World.size_alloc] at this
    exact this
  refine (ws_any (w.heap.size + 1) (w.heap.size + 1) [] nm _ hB0 (by simp; omega) (by simp)).mono ?_
  rintro e w1 ⟨rfl, hbd1, hbl1, hkw1⟩
  have HBD1 : Hid (Bd w1 (w.heap.size + 1) (w.heap.size + 1) (nums nm)) := by unfold Hid; simpa using hbd1
  have HLB1 : Hid (w1.heap[w.heap.size]? = some (.cells #[.string nm, .slice a n c, .string vl] 39 (0, 0))) := by
    unfold Hid; rw [hbl1.block _ (by omega), Below.heap_alloc _ _ _ (by simp)]; exact hbx
  have HB1 : Hid (Below w.heap.size w w1) := ((keep w _).alloc (by simp) _).trans (hbl1.mono (by omega))
  have hs1 : w.heap.size + 1 < w1.heap.size := by
    rcases HBD1.out with ⟨_, v, h, _⟩ | ⟨_, v, h, _⟩ <;> exact (Array.getElem?_eq_some_iff.1 h).1
  have x1 : w1.cell? ⟨w.heap.size, 1, none⟩ = some (.slice a n c) := by rw [cell_of_row _ _ _ _ _ _ HLB1.out]; rfl
  clear hbx hB0 hbd1 hbl1 hkw1
  go_wp2
  go_loopw [12, 5] (fun i _ wr => ∃ k : Nat, i = .int .i64 k ∧ k ≤ n ∧ Bd wr (w.heap.size + 1) (w.heap.size + 1) (nums nm ++ (numsP (fs.take k)).flatMap parW) ∧ wr.heap[w.heap.size]? = some (.cells #[.string nm, .slice a n c, .string vl] 39 (0, 0)) ∧ Below w.heap.size w wr ∧ w.heap.size + 1 < wr.heap.size) (fun i _ _ => n - (intOf i).toNat)
  case atStart => exact ⟨0, rfl, by omega, by simpa [numsP] using HBD1.out, HLB1.out, HB1.out, hs1⟩
  case round =>
    clear HBD1 HLB1 HB1 hs1 x1
    obtain ⟨k, rfl, hk, hbd, hlb, hb, hsz⟩ := hrel
    have HBD : Hid (Bd wr (w.heap.size + 1) (w.heap.size + 1) (nums nm ++ (numsP (fs.take k)).flatMap parW)) := hbd
    have HLB : Hid (wr.heap[w.heap.size]? = some (.cells #[.string nm, .slice a n c, .string vl] 39 (0, 0))) := hlb
    have HB : Hid (Below w.heap.size w wr) := hb
    have hrw := HR.out.below hb
    have hpl : (nums nm ++ (numsP (fs.take k)).flatMap parW).length ≤ 200000000 := by
      have h := pars_len (fs.take k) 100000 (fun f hf => HF.out f (List.mem_of_mem_take hf))
      rw [List.length_take] at h
      rw [List.length_append, nums_len]
      have : 100004 * min k fs.length ≤ 100004 * 1000 := Nat.mul_le_mul_left _ (by omega)
      omega
    clear hbd hlb hb
    by_cases hlt : k < n
    · obtain ⟨f, hfk⟩ : ∃ f, fs[k]? = some f := ⟨_, List.getElem?_eq_getElem (by omega)⟩
      have hfz := HF.out f (List.mem_of_getElem? hfk)
      have HPT : Hid ((numsP (fs.take (k + 1))).flatMap parW = (numsP (fs.take k)).flatMap parW ++ parW (nums f.1, nums f.2)) := pars_take fs k f hfk
      obtain ⟨pn, pv⟩ := f
      rcases hrw with h | ⟨b, off, rfl, h⟩
      · rw [h] at hn; simp at hn; omega
      obtain ⟨hc1, hc2⟩ := h k _ hfk
      clear h hfk
      simp only at hc1 hc2 hfz
      obtain ⟨pre, hpre⟩ : ∃ pre, nums nm ++ (numsP (fs.take k)).flatMap parW = pre := ⟨_, rfl⟩
      rw [hpre] at HBD hpl
      have HPRE : Hid (nums nm ++ (numsP (fs.take k)).flatMap parW = pre) := hpre
      clear hpre
      have z1 : (⟨#[59]⟩ ++ pn ++ ⟨#[61]⟩ : ByteArray).size ≤ 100002 := by simp only [← nums_len, nums_append, List.length_append]; simp [nums]; omega
      obtain ⟨sa, hsa⟩ : ∃ sa : ByteArray, (⟨#[59]⟩ : ByteArray) ++ pn ++ ⟨#[61]⟩ = sa := ⟨_, rfl⟩
      rw [hsa] at z1
      have hws := ws_any (w.heap.size + 1) (w.heap.size + 1) pre sa (wr.alloc (.cells #[.string pn, .string pv] 65)) (HBD.out.below (keep wr _)) (by omega) (by simp; omega)
      go_wp2_with fail
      try rw [hsa]
      refine hws.mono ?_
      rintro e w2 ⟨rfl, hbd2, hbl2, hkw2⟩
      have HBD2 : Hid (Bd w2 (w.heap.size + 1) (w.heap.size + 1) (pre ++ nums sa)) := hbd2
      have HPB : Hid (w2.heap[wr.heap.size]? = some (.cells #[.string pn, .string pv] 65 (0, 0))) := hkw2 _ _ _ _ (heap_alloc_last wr _) (by omega) (by decide)
      have HLB2 : Hid (w2.heap[w.heap.size]? = some (.cells #[.string nm, .slice (some ⟨b, off, none⟩) n c, .string vl] 39 (0, 0))) := by
        unfold Hid; rw [hbl2.block _ (by omega), Below.heap_alloc _ _ _ (by omega)]; exact HLB.out
      have HB2 : Hid (Below w.heap.size w w2) := (HB.out.alloc HB.out.size _).trans (hbl2.mono (by omega))
      have hs2 : wr.heap.size < w2.heap.size := (Array.getElem?_eq_some_iff.1 HPB.out).1
      have p1 : w2.cell? ⟨wr.heap.size, 1, none⟩ = some (.string pv) := by rw [cell_of_row _ _ _ _ _ _ HPB.out]; rfl
      have hca := fun V => HCA.out pv (by omega) V
      clear hbd2 hbl2 hkw2 hc1 hc2 HBD HLB HB
      have zl : (nums sa).length ≤ 100002 := by rw [nums_len]; exact z1
      clear hws
      cases hany : (nums pv).any mk3 with
      | true =>
        obtain ⟨sb, hsb⟩ : ∃ sb : ByteArray, (⟨#[34]⟩ : ByteArray) ++ pv ++ ⟨#[34]⟩ = sb := ⟨_, rfl⟩
        have HPX : Hid (parW (nums pn, nums pv) = nums sa ++ nums sb) := by
          unfold Hid parW; simp only; rw [if_pos hany, ← hsa, ← hsb]
          simp only [nums_append]; simp [nums]
        have z2 : sb.size ≤ 100002 := by rw [← hsb]; simp only [← nums_len, nums_append, List.length_append]; simp [nums]; have : pv.data.size = pv.size := rfl; omega
        go_wp2_with fail
        refine (hca _).mono ?_
        rintro e w3 ⟨rfl, hb3⟩
        rw [hany]
        have hbd3 := HBD2.out.below hb3
        have hs3 := hb3.size
        have hp3 := (hb3.block _ (Array.getElem?_eq_some_iff.1 HPB.out).1).trans HPB.out
        have p3 : w3.cell? ⟨wr.heap.size, 1, none⟩ = some (.string pv) := by rw [cell_of_row _ _ _ _ _ _ hp3]; rfl
        have HLB3 : Hid (w3.heap[w.heap.size]? = some (.cells #[.string nm, .slice (some ⟨b, off, none⟩) n c, .string vl] 39 (0, 0))) := by
          unfold Hid; rw [hb3.block _ (Array.getElem?_eq_some_iff.1 HLB2.out).1]; exact HLB2.out
        have HB3 : Hid (Below w.heap.size w w3) := HB2.out.trans (hb3.mono HB2.out.size)
        have hws2 := ws_any (w.heap.size + 1) (w.heap.size + 1) _ sb w3 hbd3 (by rw [List.length_append]; omega) (by omega)
        clear hbd3 hp3 hb3 hca p1
        go_wp2_with fail
        try rw [hsb]
        refine hws2.mono ?_
        rintro e w4 ⟨rfl, hbd4, hbl4, hkw4⟩
        have HBD4 : Hid (Bd w4 (w.heap.size + 1) (w.heap.size + 1) (nums nm ++ (numsP (fs.take (k + 1))).flatMap parW)) := by
          unfold Hid; rw [HPT.out, HPX.out, ← List.append_assoc, ← List.append_assoc, HPRE.out]; exact hbd4
        have HLB4 : Hid (w4.heap[w.heap.size]? = some (.cells #[.string nm, .slice (some ⟨b, off, none⟩) n c, .string vl] 39 (0, 0))) := by
          unfold Hid; rw [hbl4.block _ (by omega)]; exact HLB3.out
        have HB4 : Hid (Below w.heap.size w w4) := HB3.out.trans (hbl4.mono (by omega))
        have hs4 : w.heap.size + 1 < w4.heap.size := Nat.lt_of_lt_of_le (by omega) hbl4.size
        clear hbd4 hbl4 hkw4 p3 hws2
        go_wp2
        go_roundw
        case rel => exact ⟨k + 1, by go_num, by omega, HBD4.out, HLB4.out, HB4.out, hs4⟩
        case measure => simp [intOf]; omega
      | false =>
        have HPX : Hid (parW (nums pn, nums pv) = nums sa ++ nums pv) := by
          unfold Hid parW; simp only; rw [if_neg (by rw [hany]; simp), ← hsa]
          simp only [nums_append]; simp [nums]
        have z2 : pv.size ≤ 100002 := by omega
        go_wp2_with fail
        refine (hca _).mono ?_
        rintro e w3 ⟨rfl, hb3⟩
        rw [hany]
        have hbd3 := HBD2.out.below hb3
        have hs3 := hb3.size
        have hp3 := (hb3.block _ (Array.getElem?_eq_some_iff.1 HPB.out).1).trans HPB.out
        have p3 : w3.cell? ⟨wr.heap.size, 1, none⟩ = some (.string pv) := by rw [cell_of_row _ _ _ _ _ _ hp3]; rfl
        have HLB3 : Hid (w3.heap[w.heap.size]? = some (.cells #[.string nm, .slice (some ⟨b, off, none⟩) n c, .string vl] 39 (0, 0))) := by
          unfold Hid; rw [hb3.block _ (Array.getElem?_eq_some_iff.1 HLB2.out).1]; exact HLB2.out
        have HB3 : Hid (Below w.heap.size w w3) := HB2.out.trans (hb3.mono HB2.out.size)
        have hws2 := ws_any (w.heap.size + 1) (w.heap.size + 1) _ pv w3 hbd3 (by rw [List.length_append]; omega) (by omega)
        clear hbd3 hp3 hb3 hca p1
        go_wp2_with fail
        refine hws2.mono ?_
        rintro e w4 ⟨rfl, hbd4, hbl4, hkw4⟩
        have HBD4 : Hid (Bd w4 (w.heap.size + 1) (w.heap.size + 1) (nums nm ++ (numsP (fs.take (k + 1))).flatMap parW)) := by
          unfold Hid; rw [HPT.out, HPX.out, ← List.append_assoc, ← List.append_assoc, HPRE.out]; exact hbd4
        have HLB4 : Hid (w4.heap[w.heap.size]? = some (.cells #[.string nm, .slice (some ⟨b, off, none⟩) n c, .string vl] 39 (0, 0))) := by
          unfold Hid; rw [hbl4.block _ (by omega)]; exact HLB3.out
        have HB4 : Hid (Below w.heap.size w w4) := HB3.out.trans (hbl4.mono (by omega))
        have hs4 : w.heap.size + 1 < w4.heap.size := Nat.lt_of_lt_of_le (by omega) hbl4.size
        clear hbd4 hbl4 hkw4 p3 hws2
        go_wp2
        go_roundw
        case rel => exact ⟨k + 1, by go_num, by omega, HBD4.out, HLB4.out, HB4.out, hs4⟩
        case measure => simp [intOf]; omega
    · obtain rfl : k = n := by omega
      have x2 : wr.cell? ⟨w.heap.size, 2, none⟩ = some (.string vl) := by rw [cell_of_row _ _ _ _ _ _ HLB.out]; rfl
      have z3 : (⟨#[58]⟩ ++ vl : ByteArray).size ≤ 100001 := by simp only [← nums_len, nums_append, List.length_append]; simp [nums]; omega
      rw [List.take_of_length_le (by omega)] at HBD hpl
      obtain ⟨sv, hsv⟩ : ∃ sv : ByteArray, (⟨#[58]⟩ : ByteArray) ++ vl = sv := ⟨_, rfl⟩
      rw [hsv] at z3
      have hws := ws_any (w.heap.size + 1) (w.heap.size + 1) _ sv wr HBD.out (by omega) (by omega)
      go_wp2_with fail
      try rw [hsv]
      refine hws.mono ?_
      rintro e w2 ⟨rfl, hbd2, hbl2, _⟩
      have HB2 : Hid (Below w.heap.size w w2) := HB.out.trans (hbl2.mono (by omega))
      have hwz : nums nm ++ (numsP fs).flatMap parW ++ nums sv = writtenZ ⟨nums nm, numsP fs, nums vl⟩ := by
        unfold writtenZ; rw [← hsv]; simp only [nums_append]; simp [nums]
      rw [hwz] at hbd2
      have hbs := bstr_any (w.heap.size + 1) (w.heap.size + 1) _ w2 hbd2 HW.out (Nat.le_trans (by omega) hbl2.size)
      clear hbd2 hbl2 hws hwz x2
      go_wp2_with (go_at_call 68; refine hbs.mono ?_; rintro e w3 ⟨rfl, hb3⟩)
      go_ret
      exact ⟨rfl, HB2.out.trans (hb3.mono (by omega))⟩
end Go.Proofs.YtenclgnkogmgiaaDoor
