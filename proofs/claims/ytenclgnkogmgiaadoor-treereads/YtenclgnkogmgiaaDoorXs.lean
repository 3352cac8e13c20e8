/-
  Reading lines, of the document.
-/
import Derived.Test.YtenclgnkogmgiaaDoorXr
import Derived.Test.YtenclgnkogmgiaaDoorSa
namespace Go.Proofs.YtenclgnkogmgiaaDoor
open Go.RowKit
set_option linter.unusedVariables false

def tl (f : Int → Bool) (l : List Int) (p : Nat) : Nat := ((l.drop p).takeWhile f).length
theorem dw_drop (f : Int → Bool) (l : List Int) (p : Nat) : (l.drop p).dropWhile f = l.drop (p + tl f l p) := by
  have key : ∀ x : List Int, x.dropWhile f = x.drop (x.takeWhile f).length := by
    intro x
    have h := List.takeWhile_append_dropWhile (p := f) (l := x)
    exact (List.drop_left' (l₁ := x.takeWhile f) (l₂ := x.dropWhile f) rfl).symm.trans (by rw [h])
  rw [key, List.drop_drop]; rfl
theorem tw_tk (f : Int → Bool) (l : List Int) (p : Nat) : (l.drop p).takeWhile f = (l.drop p).take (tl f l p) := by
  exact (tw_take f (l.drop p)).symm
theorem tl_le (f : Int → Bool) (l : List Int) (p : Nat) (h : p ≤ l.length) : p + tl f l p ≤ l.length := by
  have := tw_le f (l.drop p)
  rw [List.length_drop] at this
  unfold tl; omega
theorem pq_none {l : List Int} {p q : Nat} (hq : p + tl (fun c => !dl3 c) l p = q) (h : ∀ c, l[q]? = some c → c ≠ 61) : paramQ (l.drop p) = none := by
  unfold paramQ
  rw [dw_drop, hq, if_neg]
  intro hs
  have := sign_cons hs
  have h2 := congrArg (·[0]?) this
  simp only [List.getElem?_drop, List.getElem?_cons_zero, Nat.add_zero] at h2
  exact h 61 h2 rfl
theorem pq_some {l : List Int} {p q : Nat} (hq : p + tl (fun c => !dl3 c) l p = q) (h : l[q]? = some 61) : paramQ (l.drop p) = (valueQ (l.drop (q + 1))).map fun x => ((((l.drop p).take (q - p)).map largeZ, x.1), x.2) := by
  have hlt := (List.getElem?_eq_some_iff.1 h).1
  have he := (List.getElem?_eq_some_iff.1 h).2
  unfold paramQ
  rw [dw_drop, tw_tk, hq, if_pos, List.tail_drop, show tl (fun c => !dl3 c) l p = q - p by omega]
  rw [List.drop_eq_getElem_cons hlt, he]
  simp [signB]
theorem vq_none {l : List Int} {k e : Nat} (h : l[k]? = some 34) (he : k + 1 + tl (fun c => !decide (c = 34)) l (k + 1) = e) (hl : l.length ≤ e) : valueQ (l.drop k) = none := by
  have hlt := (List.getElem?_eq_some_iff.1 h).1
  have hx := (List.getElem?_eq_some_iff.1 h).2
  unfold valueQ
  rw [List.drop_eq_getElem_cons hlt, hx, if_pos (by simp [signB]), List.tail_cons, if_neg]
  intro hc
  rw [List.contains_iff_mem] at hc
  have h4 := tw_none (p := fun c => !decide (c = 34)) (l.drop (k + 1))
  have h5 : (l.drop (k + 1)).takeWhile (fun c => !decide (c = 34)) = l.drop (k + 1) := by
    rw [tw_tk, List.take_of_length_le (by rw [List.length_drop]; omega)]
  rw [h5] at h4
  have := List.all_eq_true.1 h4 34 hc
  simp at this
theorem tl_stop (f : Int → Bool) (l : List Int) (p : Nat) (h : p + tl f l p < l.length) : f (l[p + tl f l p]) = false := by
  have h2 := dw_drop f l p
  rw [List.drop_eq_getElem_cons h] at h2
  cases hf : f (l[p + tl f l p]) with
  | false => rfl
  | true =>
    exfalso
    have := List.head?_dropWhile_not f (l.drop p)
    rw [h2, List.head?_cons] at this
    simp only [hf] at this
    cases this
theorem vq_quot {l : List Int} {k e : Nat} (h : l[k]? = some 34) (he : k + 1 + tl (fun c => !decide (c = 34)) l (k + 1) = e) (hl : e < l.length) : valueQ (l.drop k) = some ((l.drop (k + 1)).take (e - (k + 1)), l.drop (e + 1)) := by
  have hlt := (List.getElem?_eq_some_iff.1 h).1
  have hx := (List.getElem?_eq_some_iff.1 h).2
  have hst := tl_stop (fun c => !decide (c = 34)) l (k + 1) (by omega)
  unfold valueQ
  rw [List.drop_eq_getElem_cons hlt, hx, if_pos (by simp [signB]), List.tail_cons, if_pos, dw_drop, tw_tk, he, List.tail_drop, show tl (fun c => !decide (c = 34)) l (k + 1) = e - (k + 1) by omega]
  rw [List.contains_iff_mem]
  have : l[k + 1 + tl (fun c => !decide (c = 34)) l (k + 1)]'(by omega) = 34 := by simpa using hst
  rw [← this]
  have hm : (l.drop (k + 1))[tl (fun c => !decide (c = 34)) l (k + 1)]'(by rw [List.length_drop]; omega) ∈ l.drop (k + 1) := List.getElem_mem _
  rwa [List.getElem_drop] at hm
theorem vq_plain {l : List Int} {k e : Nat} (h : ∀ c, l[k]? = some c → c ≠ 34) (he : k + tl (fun c => !mkQ c) l k = e) : valueQ (l.drop k) = some ((l.drop k).take (e - k), l.drop e) := by
  unfold valueQ
  rw [if_neg, dw_drop, tw_tk, he, show tl (fun c => !mkQ c) l k = e - k by omega]
  intro hs
  have h2 := congrArg (·[0]?) (sign_cons hs)
  simp only [List.getElem?_drop, List.getElem?_cons_zero, Nat.add_zero] at h2
  exact h 34 h2 rfl
theorem in2 : (fun c => !decide (c ∈ nums ⟨#[59, 58]⟩)) = fun c => !dl2 c := by
  funext c
  have e : nums ⟨#[59, 58]⟩ = [59, 58] := rfl
  rw [e]; unfold dl2; simp
theorem in3 : (fun c => !decide (c ∈ nums ⟨#[61, 59, 58]⟩)) = fun c => !dl3 c := by
  funext c
  have e : nums ⟨#[61, 59, 58]⟩ = [61, 59, 58] := rfl
  rw [e]; unfold dl3; simp
theorem in34 : (fun c => !decide (c ∈ nums ⟨#[34]⟩)) = fun c => !decide (c = 34) := by
  funext c
  have e : nums ⟨#[34]⟩ = [34] := rfl
  rw [e]; simp
theorem inQ : (fun c => !decide (c ∈ nums ⟨#[59, 58, 44, 34]⟩)) = fun c => !mkQ c := by
  funext c
  have e : nums ⟨#[59, 58, 44, 34]⟩ = [59, 58, 44, 34] := rfl
  rw [e]; unfold mkQ; simp
set_option maxRecDepth 100000 in
theorem place_at (s ends : ByteArray) (f : Int → Bool) (hf : (fun c => !decide (c ∈ nums ends)) = f) (x : Int) (p q : Nat) (w : World) (hx : x = (p : Nat)) (hs : s.size ≤ 1000000000) (he : ends.size ≤ 100) (hp : p ≤ s.size) (hq : p + tl f (nums s) p = q) :
    Calls Tryd.prog 82 #[.string s, .int .i64 x, .string ends] w fun e w' => e = .returned (.int .i64 (q : Nat)) ∧ w = w' := by
  subst hx hf hq
  exact place_any s ends p w hs he hp
theorem two_cells {W : World} {P : Nat} {x y : Value} {t : TypeId} (h : W.heap[P]? = some (.cells #[x, y] t (0, 0))) : W.cell? ⟨P, 0, none⟩ = some x ∧ W.cell? ⟨P, 1, none⟩ = some y := ⟨(cell_of_row _ _ 0 _ _ _ h).trans rfl, (cell_of_row _ _ 1 _ _ _ h).trans rfl⟩
/-- What is answered in block R, the bad line in block R + 1, the line in block K. -/
structure Oe (W : World) (R K : Nat) (nm vl : ByteArray) (vf : Value) (fs : List (ByteArray × ByteArray)) : Prop where
  res : W.heap[R]? = some (.cells #[.string ⟨#[]⟩, .slice none 0 0, .string ⟨#[]⟩] 39 (0, 0))
  bad : W.heap[R + 1]? = some (.cells #[.string ⟨#[]⟩, .slice none 0 0, .string ⟨#[]⟩] 39 (0, 0))
  line : W.heap[K]? = some (.cells #[.string nm, vf, .string vl] 39 (0, 0))
  own : OwnF W (K + 1) vf fs
  RK : R + 1 < K
theorem Oe.lt {W : World} {R K : Nat} {nm vl : ByteArray} {vf : Value} {fs : List (ByteArray × ByteArray)} (h : Oe W R K nm vl vf fs) : K < W.heap.size := (Array.getElem?_eq_some_iff.1 h.line).1
theorem Oe.below {W W' : World} {R K : Nat} {nm vl : ByteArray} {vf : Value} {fs : List (ByteArray × ByteArray)} (h : Oe W R K nm vl vf fs) (hb : Below W.heap.size W W') : Oe W' R K nm vl vf fs := by
  have h1 := h.RK
  have h3 := h.lt
  exact ⟨(hb.block R (by omega)).trans h.res, (hb.block (R + 1) (by omega)).trans h.bad, (hb.block K h3).trans h.line, own_keep h.own hb, h1⟩
theorem Oe.app {W W' : World} {R K : Nat} {nm vl : ByteArray} {vf v' : Value} {fs fs' : List (ByteArray × ByteArray)} (h : Oe W R K nm vl vf fs) (hg : W.grownBy W' vf.ownBlock) (ho : OwnF W' (K + 1) v' fs') : Oe (W'.setCell ⟨K, 1, none⟩ v') R K nm vl v' fs' := by
  have h1 := h.RK
  have h3 := h.lt
  have ek : W'.heap[K]? = some (.cells #[.string nm, vf, .string vl] 39 (0, 0)) := (hg.block K h3 (ne_type h.own h.line (by decide))).trans h.line
  have er : W'.heap[R]? = some (.cells #[.string ⟨#[]⟩, .slice none 0 0, .string ⟨#[]⟩] 39 (0, 0)) := (hg.block R (by omega) (ne_type h.own h.res (by decide))).trans h.res
  have eb : W'.heap[R + 1]? = some (.cells #[.string ⟨#[]⟩, .slice none 0 0, .string ⟨#[]⟩] 39 (0, 0)) := (hg.block (R + 1) (by omega) (ne_type h.own h.bad (by decide))).trans h.bad
  exact ⟨(heap_setCell_other _ _ _ _ (by simp; omega)).trans er, (heap_setCell_other _ _ _ _ (by simp; omega)).trans eb, heap_setCell_same _ _ 1 _ 39 _ ek, own_set (by omega) ho, h1⟩
theorem Oe.set2 {W : World} {R K : Nat} {nm vl : ByteArray} {vf : Value} {fs : List (ByteArray × ByteArray)} (h : Oe W R K nm vl vf fs) (x : ByteArray) : Oe (W.setCell ⟨K, 2, none⟩ (.string x)) R K nm x vf fs := by
  have h1 := h.RK
  exact ⟨(heap_setCell_other _ _ _ _ (by simp; omega)).trans h.res, (heap_setCell_other _ _ _ _ (by simp; omega)).trans h.bad, heap_setCell_same _ _ 2 _ 39 _ h.line, own_set (by omega) h.own, h1⟩
theorem three_cells {W : World} {K : Nat} {x y z : Value} {t : TypeId} (h : W.heap[K]? = some (.cells #[x, y, z] t (0, 0))) : W.cell? ⟨K, 0, none⟩ = some x ∧ W.cell? ⟨K, 1, none⟩ = some y ∧ W.cell? ⟨K, 2, none⟩ = some z ∧ W.frozen? ⟨K, 0, none⟩ = false ∧ W.frozen? ⟨K, 1, none⟩ = false ∧ W.frozen? ⟨K, 2, none⟩ = false :=
  ⟨(cell_of_row _ _ 0 _ _ _ h).trans rfl, (cell_of_row _ _ 1 _ _ _ h).trans rfl, (cell_of_row _ _ 2 _ _ _ h).trans rfl, frozen_of_row _ _ _ _ _ h, frozen_of_row _ _ _ _ _ h, frozen_of_row _ _ _ _ _ h⟩
def SmG (fs : List (ByteArray × ByteArray)) : Prop := ∀ f ∈ fs, f.1.size ≤ 2000000 ∧ f.2.size ≤ 2000000
theorem SmG.small {fs : List (ByteArray × ByteArray)} (h : SmG fs) : SmallF fs := fun f hf => by have := h f hf; exact ⟨by omega, by omega⟩
theorem rone_fin {w W : World} {R K : Nat} {nm vl : ByteArray} {vf : Value} {fs : List (ByteArray × ByteArray)} {l : List Int} {A : Act} (h : Oe W R K nm vl vf fs) (hb : Below w.heap.size w W) (hR : w.heap.size ≤ R) (hz : Small nm ∧ Small vl ∧ SmallF fs) (ha : oneR l = some ⟨nums nm, numsP fs, nums vl⟩)
    (hd : A.defers = []) (h2 : A.tmps[2]?.getD undef = .pointer (some ⟨R, 0, none⟩)) (h3 : A.tmps[3]?.getD undef = .int .i64 0) :
    bodyPost Tryd.prog Tryd.f58 (OPost w l) .ret A (finW W R nm vl vf) := by
  obtain ⟨c0, c1, c2⟩ := fin_cells (nm := nm) (vl := vl) (vf := vf) h.res
  have h1 := h.RK
  have hown3 := own_set (f := R) (o := 2) (u := .string vl) (by omega) (own_set (f := R) (o := 1) (u := vf) (by omega) (own_set (f := R) (o := 0) (u := .string nm) (by omega) h.own))
  obtain ⟨a, cap, e, hf⟩ := ownF_view hown3
  subst e
  have hbs : ∀ x, a = some x → w.heap.size ≤ x.block ∧ ∃ cs, (finW W R nm vl (.slice a fs.length cap)).heap[x.block]? = some (.cells cs 65 (0, 0)) := fun x hx => ⟨by have := ownF_base h.own x hx; omega, ownF_type hown3 x hx⟩
  refine bodyPost_ret (v := .tuple #[lineV nm vl a fs.length cap, .int .i64 0]) ?_ hd ⟨nm, vl, a, cap, fs, 0, rfl, .inl ⟨ha, rfl⟩, ⟨hf, hbs, hz⟩, fin_below hb hR⟩
  simp [results, Tryd.results58, go_sem, c0, c1, c2, h2, h3, lineV]
theorem rone_bad {w W : World} {R : Nat} {l : List Int} {A : Act} (h : W.heap[R]? = some (.cells #[.string ⟨#[]⟩, .slice none 0 0, .string ⟨#[]⟩] 39 (0, 0))) (hb : Below w.heap.size w W) (hR : w.heap.size ≤ R) (ha : oneR l = none)
    (hd : A.defers = []) (h2 : A.tmps[2]?.getD undef = .pointer (some ⟨R, 0, none⟩)) (h3 : A.tmps[3]?.getD undef = .int .i64 90) :
    bodyPost Tryd.prog Tryd.f58 (OPost w l) .ret A (finW W R ⟨#[]⟩ ⟨#[]⟩ (.slice none 0 0)) := by
  obtain ⟨c0, c1, c2⟩ := fin_cells (nm := ⟨#[]⟩) (vl := ⟨#[]⟩) (vf := .slice none 0 0) h
  refine bodyPost_ret (v := .tuple #[lineV ⟨#[]⟩ ⟨#[]⟩ none 0 0, .int .i64 90]) ?_ hd ⟨⟨#[]⟩, ⟨#[]⟩, none, 0, [], 90, rfl, .inr ⟨ha, rfl, rfl, rfl, rfl⟩, ⟨.inl rfl, (fun x hx => by cases hx), (show Small ⟨#[]⟩ by unfold Small; decide), (show Small ⟨#[]⟩ by unfold Small; decide), (fun f hf => by cases hf)⟩, fin_below hb hR⟩
  simp [results, Tryd.results58, go_sem, c0, c1, c2, h2, h3, lineV]
theorem oneQ_at (nm l : List Int) (m : Nat) (acc : List (List Int × List Int)) (p : Nat) (h : l[p]? = some 59) : oneF nm (parsQ (m + 1) acc (l.drop p)) = oneF nm (match paramQ (l.drop (p + 1)) with | none => none | some (x, r) => parsQ m (acc ++ [x]) r) := by
  have hlt := (List.getElem?_eq_some_iff.1 h).1
  have hx := (List.getElem?_eq_some_iff.1 h).2
  rw [List.drop_eq_getElem_cons hlt, hx, parsQ, if_pos (by simp [signB]), List.tail_cons]
  cases paramQ (l.drop (p + 1)) with
  | none => rfl
  | some y => rfl
theorem oneQ_out (nm l : List Int) (m : Nat) (acc : List (List Int × List Int)) (p : Nat) (h : ∀ c, l[p]? = some c → c ≠ 59) : oneF nm (parsQ (m + 1) acc (l.drop p)) = oneF nm (some (acc, l.drop p)) := by
  rw [parsQ, if_neg]
  intro hs
  have h2 := congrArg (·[0]?) (sign_cons hs)
  simp only [List.getElem?_drop, List.getElem?_cons_zero, Nat.add_zero] at h2
  exact h 59 h2 rfl
theorem oneQ_no (nm l : List Int) (acc : List (List Int × List Int)) (p : Nat) (h : ∀ c, l[p]? = some c → c ≠ 58) : oneF nm (some (acc, l.drop p)) = none := by
  unfold oneF
  simp only
  rw [if_neg]
  intro hs
  have h2 := congrArg (·[0]?) (sign_cons hs)
  simp only [List.getElem?_drop, List.getElem?_cons_zero, Nat.add_zero] at h2
  exact h 58 h2 rfl
theorem oneQ_yes (nm l : List Int) (acc : List (List Int × List Int)) (p : Nat) (h : l[p]? = some 58) : oneF nm (some (acc, l.drop p)) = if rightZ ⟨nm, acc, l.drop (p + 1)⟩ = true then some ⟨nm, acc, l.drop (p + 1)⟩ else none := by
  have hlt := (List.getElem?_eq_some_iff.1 h).1
  have hx := (List.getElem?_eq_some_iff.1 h).2
  unfold oneF
  simp only
  rw [if_pos (by rw [List.drop_eq_getElem_cons hlt, hx]; simp [signB]), List.tail_drop]
set_option maxHeartbeats 16000000 in
set_option maxRecDepth 100000 in
theorem rone_any (s : ByteArray) (w : World) (hs : s.size ≤ 2000000) : Calls Tryd.prog 58 #[.string s] w (OPost w (nums s)) := by
  obtain ⟨j0, hi, hz0, hz1, hz2⟩ := info_parts Tryd.info65
  have hln := nums_len s
  have HLN : Hid ((nums s).length = s.size) := hln
  obtain ⟨p0, hp0⟩ : ∃ p0, 0 + tl (fun c => !dl2 c) (nums s) 0 = p0 := ⟨_, rfl⟩
  have hp0s : p0 ≤ s.size := by rw [← hp0, ← hln]; exact tl_le _ _ _ (by omega)
  have HP0 : Hid (0 + tl (fun c => !dl2 c) (nums s) 0 = p0) := hp0
  clear hln hp0
  have k0 : (0 : Int) ≤ (p0 : Int) := by omega
  have k1 : (p0 : Int) ≤ (s.size : Int) := by omega
  go_enter Tryd.func58, Tryd.ntmps58
  go_wp2_with fail
  refine (place_at s ⟨#[59, 58]⟩ _ in2 0 0 p0 _ rfl (by omega) (by decide) (by omega) HP0.out).mono ?_
  rintro e wz ⟨rfl, rfl⟩
  go_wp2_with fail
  refine (rupper_any (s.extract 0 p0) _ (by simp; omega)).mono ?_
  rintro e w1 ⟨rfl, hb1⟩
  have hW1 : Below w.heap.size w w1 := ((keep w _).alloc (by simp) _).trans (hb1.mono (by simp; omega))
  have hsz1 : w.heap.size + 2 ≤ w1.heap.size := by have := hb1.size; simp at this; omega
  have hres1 : w1.heap[w.heap.size]? = some (.cells #[.string ⟨#[]⟩, .slice none 0 0, .string ⟨#[]⟩] 39 (0, 0)) := by
    rw [hb1.block _ (by simp; omega), Below.heap_alloc _ _ _ (by simp)]; exact heap_alloc_last w _
  have hbad1 : w1.heap[w.heap.size + 1]? = some (.cells #[.string ⟨#[]⟩, .slice none 0 0, .string ⟨#[]⟩] 39 (0, 0)) := by
    have := heap_alloc_last (w.alloc (.cells #[.string ⟨#[]⟩, .slice none 0 0, .string ⟨#[]⟩] 39)) (.cells #[.string ⟨#[]⟩, .slice none 0 0, .string ⟨#[]⟩] 39)
    rw [World.size_alloc] at this
    rw [hb1.block _ (by simp)]; exact this
  have hnm : (((nums s).takeWhile fun c => !dl2 c).map largeZ) = (nums (s.extract 0 p0)).map largeZ := by
    have h0 := tw_tk (fun c => !dl2 c) (nums s) 0
    have h1 := HP0.out
    rw [List.drop_zero] at h0
    rw [h0, nums_to, show tl (fun c => !dl2 c) (nums s) 0 = p0 by omega]
  have hnb : Byt ((nums (s.extract 0 p0)).map largeZ) := map_large_byt (nums_byt _)
  obtain ⟨nm, hnme⟩ : ∃ nm, strOfNums ((nums (s.extract 0 p0)).map largeZ) = nm := ⟨_, rfl⟩
  have hnn : nums nm = (nums (s.extract 0 p0)).map largeZ := by rw [← hnme, nums_str hnb]
  have hsn : nm.size ≤ s.size := by rw [← nums_len, hnn, List.length_map, nums_len]; simp; omega
  have HQ : Hid (oneR (nums s) = oneF (nums nm) (parsQ (s.size + 1) (numsP []) ((nums s).drop p0))) := by
    unfold Hid
    have h2 := dw_drop (fun c => !dl2 c) (nums s) 0
    rw [List.drop_zero, HP0.out] at h2
    rw [← one_eq, oneQ, hnm, ← hnn, h2, HLN.out]; rfl
  rw [hnme]
  have HOD : Hid (Oe (w1.alloc (.cells #[.string nm, .slice none 0 0, .string ⟨#[]⟩] 39)) w.heap.size w1.heap.size nm ⟨#[]⟩ (.slice none 0 0) []) :=
    ⟨(Below.heap_alloc w1 _ _ (by omega)).trans hres1, (Below.heap_alloc w1 _ _ (by omega)).trans hbad1, heap_alloc_last w1 _, ⟨rfl, .inl ⟨rfl, rfl⟩⟩, by omega⟩
  have HB : Hid (Below w.heap.size w (w1.alloc (.cells #[.string nm, .slice none 0 0, .string ⟨#[]⟩] 39))) := hW1.alloc hW1.size _
  clear hb1 hW1 hres1 hbad1 hnm hnb hnme hnn k0 k1 HP0
  go_wp2
  go_loopw [5, 7, 8, 9] (fun i _ _ _ wr => ∃ (p : Nat) (vf : Value) (fs : List (ByteArray × ByteArray)) (m : Nat), i = .int .i64 p ∧ p ≤ s.size ∧ Oe wr w.heap.size w1.heap.size nm ⟨#[]⟩ vf fs ∧ Below w.heap.size w wr ∧ oneR (nums s) = oneF (nums nm) (parsQ m (numsP fs) ((nums s).drop p)) ∧ s.size < p + m ∧ fs.length ≤ p ∧ SmG fs) (fun i _ _ _ _ => s.size - (intOf i).toNat)
  case atStart => exact ⟨p0, _, [], s.size + 1, rfl, hp0s, HOD.out, HB.out, HQ.out, by omega, by simp, by intro f hf; cases hf⟩
  case round =>
    clear HOD HB HQ hp0s
    obtain ⟨p, vf, fs, m, rfl, hp, hod, hb, hq, hm, hfl, hsf⟩ := hrel
    have HD : Hid (Oe wr w.heap.size w1.heap.size nm ⟨#[]⟩ vf fs) := hod
    have HB : Hid (Below w.heap.size w wr) := hb
    have HSF : Hid (SmG fs) := hsf
    obtain ⟨m', rfl⟩ : ∃ m', m = m' + 1 := ⟨m - 1, by omega⟩
    have HQ : Hid (oneR (nums s) = oneF (nums nm) (parsQ (m' + 1) (numsP fs) ((nums s).drop p))) := hq
    clear hod hb hq hsf
    obtain ⟨af, cap, rfl, hfr⟩ := ownF_view HD.out.own
    clear hfr
    have hlw := HD.out.lt
    by_cases hlt : p < s.size
    · have hat : (nums s)[p]? = some ((s[p]'hlt).toNat : Int) := nums_at s p hlt
      have dl : decide ((p : Int) < (s.size : Int)) = true := by simp; omega
      have gl : decide ((s.size : Int) ≤ (p : Int)) = false := by simp; omega
      obtain ⟨c, hc⟩ : ∃ c : Int, ((s[p]'hlt).toNat : Int) = c := ⟨_, rfl⟩
      rw [hc] at hat
      have HAT : Hid ((nums s)[p]? = some c) := hat
      clear hat
      by_cases h59 : c = 59
      · subst h59
        have HQ1 : Hid (oneR (nums s) = oneF (nums nm) (match paramQ ((nums s).drop (p + 1)) with | none => none | some (x, r) => parsQ m' (numsP fs ++ [x]) r)) := by
          unfold Hid; rw [HQ.out]; exact oneQ_at _ _ _ _ _ HAT.out
        clear HQ
        obtain ⟨q, hq⟩ : ∃ q, p + 1 + tl (fun c => !dl3 c) (nums s) (p + 1) = q := ⟨_, rfl⟩
        have hqs : q ≤ s.size := by rw [← hq, ← HLN.out]; exact tl_le _ _ _ (by rw [HLN.out]; omega)
        have hpq : p + 1 ≤ q := by omega
        have HPQ : Hid (p + 1 + tl (fun c => !dl3 c) (nums s) (p + 1) = q) := hq
        clear hq
        go_wp2_with fail
        refine (place_at s ⟨#[61, 59, 58]⟩ _ in3 _ (p + 1) q _ (by omega) (by omega) (by decide) (by omega) HPQ.out).mono ?_
        rintro e wz ⟨rfl, rfl⟩
        by_cases hql : q = s.size
        · have HN : Hid (oneR (nums s) = none) := by
            unfold Hid; rw [HQ1.out, pq_none HPQ.out (fun c h => by have := (List.getElem?_eq_some_iff.1 h).1; rw [HLN.out] at this; omega)]; rfl
          have e1 : ((q : Int) == (s.size : Int)) = true := by rw [hql]; simp
          clear hql HPQ
          obtain ⟨r0, r1, r2, f0, f1, f2⟩ := three_cells HD.out.res
          obtain ⟨g0, g1, g2, _, _, _⟩ := three_cells HD.out.bad
          go_wp2
          exact rone_bad HD.out.res HB.out (Nat.le_refl _) HN.out rfl rfl rfl
        · have hql' : q < s.size := by omega
          have e1 : ((q : Int) == (s.size : Int)) = false := by rw [beq_eq_false_iff_ne]; omega
          have hatq : (nums s)[q]? = some ((s[q]'hql').toNat : Int) := nums_at s q hql'
          obtain ⟨d, hd⟩ : ∃ d : Int, ((s[q]'hql').toNat : Int) = d := ⟨_, rfl⟩
          rw [hd] at hatq
          have HAQ : Hid ((nums s)[q]? = some d) := hatq
          have lq : decide ((q : Int) < (s.size : Int)) = true := by simp; omega
          clear hatq hql
          by_cases h61 : d = 61
          · subst h61
            have HQ2 : Hid (paramQ ((nums s).drop (p + 1)) = (valueQ ((nums s).drop (q + 1))).map fun x => (((((nums s).drop (p + 1)).take (q - (p + 1))).map largeZ, x.1), x.2)) := pq_some HPQ.out HAQ.out
            clear HPQ
            have k0 : (0 : Int) ≤ (p : Int) + 1 := by omega
            have k1 : (p : Int) + 1 ≤ (q : Int) := by omega
            have k2 : (q : Int) ≤ (s.size : Int) := by omega
            have k3 : ((p : Int) + 1).toNat = p + 1 := by omega
            have hxs : (s.extract (p + 1) q).size ≤ s.size := by simp; omega
            go_wp2_with fail
            refine (rupper_any (s.extract (p + 1) q) _ (by omega)).mono ?_
            rintro e w3 ⟨rfl, hb3⟩
            have hnx : nums (s.extract (p + 1) q) = ((nums s).drop (p + 1)).take (q - (p + 1)) := nums_extract s _ _
            obtain ⟨pn, hpne⟩ : ∃ pn, strOfNums ((nums (s.extract (p + 1) q)).map largeZ) = pn := ⟨_, rfl⟩
            have hpn : nums pn = (((nums s).drop (p + 1)).take (q - (p + 1))).map largeZ := by rw [← hpne, nums_str (map_large_byt (nums_byt _)), hnx]
            have hsp : pn.size ≤ s.size := by rw [← nums_len, hpn, List.length_map, ← hnx, nums_len]; exact hxs
            have HQ3 : Hid (paramQ ((nums s).drop (p + 1)) = (valueQ ((nums s).drop (q + 1))).map fun x => ((nums pn, x.1), x.2)) := by unfold Hid; rw [HQ2.out, hpn]
            rw [hpne]
            have HD3 : Hid (Oe w3 w.heap.size w1.heap.size nm ⟨#[]⟩ (.slice af fs.length cap) fs) := HD.out.below hb3
            have HB3 : Hid (Below w.heap.size w w3) := HB.out.trans (hb3.mono HB.out.size)
            have HDA : Hid (Oe (w3.alloc (.cells #[.string pn, .string ⟨#[]⟩] 65)) w.heap.size w1.heap.size nm ⟨#[]⟩ (.slice af fs.length cap) fs) := (HD.out.below hb3).below (keep w3 _)
            have HBA : Hid (Below w.heap.size w (w3.alloc (.cells #[.string pn, .string ⟨#[]⟩] 65))) := (HB.out.trans (hb3.mono HB.out.size)).alloc (by have := hb3.size; have := HB.out.size; omega) _
            have hl3 : w1.heap.size < w3.heap.size := by have := hb3.size; omega
            have HPA : Hid ((w3.alloc (.cells #[.string pn, .string ⟨#[]⟩] 65)).heap[w3.heap.size]? = some (.cells #[.string pn, .string ⟨#[]⟩] 65 (0, 0))) := heap_alloc_last w3 _
            have x1 : (w3.alloc (.cells #[.string pn, .string ⟨#[]⟩] 65)).cell? ⟨w3.heap.size, 1, none⟩ = some (.string ⟨#[]⟩) := (two_cells HPA.out).2
            have y1 : (w3.alloc (.cells #[.string pn, .string ⟨#[]⟩] 65)).frozen? ⟨w3.heap.size, 1, none⟩ = false := frozen_of_row _ _ _ _ _ HPA.out
            clear hnx hpne hpn HQ2 hb3 k0 k1 k2 k3 hxs HD HB
            by_cases hq1 : q + 1 < s.size
            · have hatk : (nums s)[q + 1]? = some ((s[q + 1]'hq1).toNat : Int) := nums_at s (q + 1) hq1
              obtain ⟨u, hu⟩ : ∃ u : Int, ((s[q + 1]'hq1).toNat : Int) = u := ⟨_, rfl⟩
              rw [hu] at hatk
              have HAK : Hid ((nums s)[q + 1]? = some u) := hatk
              have lk : decide ((q : Int) + 1 < (s.size : Int)) = true := by simp; omega
              have j0' : (0 : Int) ≤ (q : Int) + 1 := by omega
              have j3' : ((q : Int) + 1).toNat = q + 1 := by omega
              clear hatk
              by_cases h34 : u = 34
              · subst h34
                obtain ⟨ee, hee⟩ : ∃ ee, q + 2 + tl (fun c => !decide (c = 34)) (nums s) (q + 2) = ee := ⟨_, rfl⟩
                have hes : ee ≤ s.size := by rw [← hee, ← HLN.out]; exact tl_le _ _ _ (by rw [HLN.out]; omega)
                have heq : q + 2 ≤ ee := by omega
                have HEE : Hid (q + 1 + 1 + tl (fun c => !decide (c = 34)) (nums s) (q + 1 + 1) = ee) := hee
                have HEE' : Hid (q + 2 + tl (fun c => !decide (c = 34)) (nums s) (q + 2) = ee) := hee
                clear hee
                by_cases hel : ee = s.size
                · have HN : Hid (oneR (nums s) = none) := by
                    unfold Hid; rw [HQ1.out, HQ3.out, vq_none HAK.out HEE.out (by rw [HLN.out]; omega)]; rfl
                  have e5 : ((ee : Int) == (s.size : Int)) = true := by rw [hel]; simp
                  obtain ⟨r0, r1, r2, f0, f1, f2⟩ := three_cells HDA.out.res
                  obtain ⟨g0, g1, g2, _, _, _⟩ := three_cells HDA.out.bad
                  clear hel
                  go_wp2_with (go_at_call 82; refine (place_at s ⟨#[34]⟩ _ in34 _ (q + 2) ee _ (by omega) (by omega) (by decide) (by omega) HEE'.out).mono ?_; rintro e wz ⟨rfl, rfl⟩)
                  exact rone_bad HDA.out.res HBA.out (Nat.le_refl _) HN.out rfl rfl rfl
                · have e5 : ((ee : Int) == (s.size : Int)) = false := by rw [beq_eq_false_iff_ne]; omega
                  have k0 : (0 : Int) ≤ (q : Int) + 2 := by omega
                  have k1 : (q : Int) + 2 ≤ (ee : Int) := by omega
                  have k2 : (ee : Int) ≤ (s.size : Int) := by omega
                  have k3 : ((q : Int) + 2).toNat = q + 2 := by omega
                  obtain ⟨pv, hpve⟩ : ∃ pv, s.extract (q + 2) ee = pv := ⟨_, rfl⟩
                  have hnv : nums pv = ((nums s).drop (q + 2)).take (ee - (q + 2)) := by rw [← hpve]; exact nums_extract s _ _
                  have hsv : pv.size ≤ s.size := by rw [← hpve]; simp; omega
                  obtain ⟨r, hr⟩ : ∃ r, ee + 1 = r := ⟨_, rfl⟩
                  have HQ4 : Hid (oneR (nums s) = oneF (nums nm) (parsQ m' (numsP fs ++ [(nums pn, nums pv)]) ((nums s).drop r))) := by
                    unfold Hid; rw [HQ1.out, HQ3.out, vq_quot HAK.out HEE.out (by rw [HLN.out]; omega), hnv, ← hr]; rfl
                  clear hnv HQ1 HQ3
                  have HDS : Hid (Oe (w3.alloc (.cells #[.string pn, .string pv] 65)) w.heap.size w1.heap.size nm ⟨#[]⟩ (.slice af fs.length cap) fs) := HD3.out.below (keep w3 _)
                  have HBS : Hid (Below w.heap.size w (w3.alloc (.cells #[.string pn, .string pv] 65))) := HB3.out.alloc HB3.out.size _
                  have HPS : Hid ((w3.alloc (.cells #[.string pn, .string pv] 65)).heap[w3.heap.size]? = some (.cells #[.string pn, .string pv] 65 (0, 0))) := heap_alloc_last w3 _
                  obtain ⟨pc0, pc1⟩ := two_cells HPS.out
                  obtain ⟨_, x2, _, _, _, _⟩ := three_cells HDS.out.line
                  have hlen : (fs ++ [(pn, pv)]).length = fs.length + 1 := by simp
                  have HP : Hid (oneR (nums s) = oneF (nums nm) (parsQ m' (numsP (fs ++ [(pn, pv)])) ((nums s).drop r))) := by
                    unfold Hid; rw [HQ4.out]; simp [numsP]
                  clear HQ4
                  go_wp2_with fail
                  refine (place_at s ⟨#[34]⟩ _ in34 _ (q + 2) ee _ (by omega) (by omega) (by decide) (by omega) HEE'.out).mono ?_
                  rintro e wz ⟨rfl, rfl⟩
                  go_wp2_with (at_builtin; refine wpList_append_own _ rfl (.tmp 90) (.tmp 92) 37 rfl (w1.heap.size + 1) 65 j0 _ 2 32 Tryd.underlying37 hi hz0 hz1 hz2 rfl (by decide) _ _ _ rfl (own_keep HDS.out.own (keep _ _)) ⟨w3.heap.size + 1, 0, none⟩ 1 1 (cellF (pn, pv)) rfl rfl ?a0 ?a4 ?a1 ?a2 ?a3 ?_)
                  case a0 =>
                    intro j u hu
                    have q := cell_two_new (w3.alloc (.cells #[.string pn, .string pv] 65)) (.string pn) (.string pv) 65 j u hu
                    rwa [show (w3.alloc (.cells #[.string pn, .string pv] 65)).heap.size = w3.heap.size + 1 from by simp] at q
                  case a4 => intro u hu; simp [cellF] at hu; rcases hu with rfl | rfl <;> rfl
                  case a1 => unfold maxLen; omega
                  case a2 => omega
                  case a3 => simp; omega
                  intro v' w12 hown12 hgrow12 _
                  have hO12 : OwnF w12 (w1.heap.size + 1) v' (fs ++ [(pn, pv)]) := by
                    unfold OwnF; rw [hlen, List.flatMap_append]; simpa using hown12
                  have hDb := HDS.out.below (keep (w3.alloc (.cells #[.string pn, .string pv] 65)) (.cells #[.string pn, .string pv] 65))
                  have hD12 := hDb.app hgrow12 hO12
                  have hBb : Below w.heap.size w ((w3.alloc (.cells #[.string pn, .string pv] 65)).alloc (.cells #[.string pn, .string pv] 65)) := HBS.out.alloc HBS.out.size _
                  have hB12 : Below w.heap.size w (w12.setCell ⟨w1.heap.size, 1, none⟩ v') :=
                    (hBb.grown hgrow12 hBb.size (fun j hj => by have := (hDb.own.lt j hj).1; omega)).setCell (p := ⟨w1.heap.size, 1, none⟩) (by simp; omega) _
                  have e12 : w12.heap[w1.heap.size]? = some (.cells #[.string nm, .slice af fs.length cap, .string ⟨#[]⟩] 39 (0, 0)) := (hgrow12.block _ hDb.lt (ne_type hDb.own hDb.line (by decide))).trans hDb.line
                  obtain ⟨a12, cap12, hv12, _⟩ := ownF_view hO12
                  rw [hlen] at hv12
                  subst hv12
                  have HD12 : Hid (Oe (w12.setCell ⟨w1.heap.size, 1, none⟩ (.slice a12 (fs.length + 1) cap12)) w.heap.size w1.heap.size nm ⟨#[]⟩ (.slice a12 (fs.length + 1) cap12) (fs ++ [(pn, pv)])) := hD12
                  have HB12 : Hid (Below w.heap.size w (w12.setCell ⟨w1.heap.size, 1, none⟩ (.slice a12 (fs.length + 1) cap12))) := hB12
                  have y12 : w12.cell? ⟨w1.heap.size, 1, none⟩ = some (.slice af fs.length cap) := by rw [cell_of_row _ _ _ _ _ _ e12]; rfl
                  have z1 : w12.frozen? ⟨w1.heap.size, 1, none⟩ = false := frozen_of_row _ _ _ _ _ e12
                  clear hown12 hgrow12 hO12 hDb hD12 hB12 hBb e12 x2 HD3 HB3 pc0 pc1 HDS HBS HPS HDA HBA HPA x1
                  go_wp2
                  go_roundw
                  case rel =>
                    refine ⟨r, _, fs ++ [(pn, pv)], m', by go_num, by omega, HD12.out, HB12.out, HP.out, by omega, by rw [hlen]; omega, ?_⟩
                    intro f hf
                    rcases List.mem_append.1 hf with q | q
                    · exact HSF.out f q
                    · simp at q; subst q; exact ⟨by simp; omega, by simp; omega⟩
                  case measure => simp [intOf]; omega
              · have e4 : (u == 34) = false := by rw [beq_eq_false_iff_ne]; exact h34
                have HNQ : Hid (∀ c, (nums s)[q + 1]? = some c → c ≠ 34) := fun c h => by rw [HAK.out] at h; cases h; exact h34
                clear h34
                obtain ⟨r, hr⟩ : ∃ r, q + 1 + tl (fun c => !mkQ c) (nums s) (q + 1) = r := ⟨_, rfl⟩
                have hrs : r ≤ s.size := by rw [← hr, ← HLN.out]; exact tl_le _ _ _ (by rw [HLN.out]; omega)
                have hrq : q + 1 ≤ r := by omega
                have HR : Hid (q + 1 + tl (fun c => !mkQ c) (nums s) (q + 1) = r) := hr
                clear hr
                have k0 : (0 : Int) ≤ (q : Int) + 1 := by omega
                have k1 : (q : Int) + 1 ≤ (r : Int) := by omega
                have k2 : (r : Int) ≤ (s.size : Int) := by omega
                have k3 : ((q : Int) + 1).toNat = q + 1 := by omega
                obtain ⟨pv, hpve⟩ : ∃ pv, s.extract (q + 1) r = pv := ⟨_, rfl⟩
                have hnv : nums pv = ((nums s).drop (q + 1)).take (r - (q + 1)) := by rw [← hpve]; exact nums_extract s _ _
                have hsv : pv.size ≤ s.size := by rw [← hpve]; simp; omega
                have HQ4 : Hid (oneR (nums s) = oneF (nums nm) (parsQ m' (numsP fs ++ [(nums pn, nums pv)]) ((nums s).drop r))) := by
                  unfold Hid; rw [HQ1.out, HQ3.out, vq_plain HNQ.out HR.out, hnv]; rfl
                clear hnv HQ1 HQ3
                have HDS : Hid (Oe (w3.alloc (.cells #[.string pn, .string pv] 65)) w.heap.size w1.heap.size nm ⟨#[]⟩ (.slice af fs.length cap) fs) := HD3.out.below (keep w3 _)
                have HBS : Hid (Below w.heap.size w (w3.alloc (.cells #[.string pn, .string pv] 65))) := HB3.out.alloc HB3.out.size _
                have HPS : Hid ((w3.alloc (.cells #[.string pn, .string pv] 65)).heap[w3.heap.size]? = some (.cells #[.string pn, .string pv] 65 (0, 0))) := heap_alloc_last w3 _
                obtain ⟨pc0, pc1⟩ := two_cells HPS.out
                obtain ⟨_, x2, _, _, _, _⟩ := three_cells HDS.out.line
                have hlen : (fs ++ [(pn, pv)]).length = fs.length + 1 := by simp
                have HP : Hid (oneR (nums s) = oneF (nums nm) (parsQ m' (numsP (fs ++ [(pn, pv)])) ((nums s).drop r))) := by
                  unfold Hid; rw [HQ4.out]; simp [numsP]
                clear HQ4
                go_wp2_with fail
                refine (place_at s ⟨#[59, 58, 44, 34]⟩ _ inQ _ (q + 1) r _ (by omega) (by omega) (by decide) (by omega) HR.out).mono ?_
                rintro e wz ⟨rfl, rfl⟩
                go_wp2_with (at_builtin; refine wpList_append_own _ rfl (.tmp 90) (.tmp 92) 37 rfl (w1.heap.size + 1) 65 j0 _ 2 32 Tryd.underlying37 hi hz0 hz1 hz2 rfl (by decide) _ _ _ rfl (own_keep HDS.out.own (keep _ _)) ⟨w3.heap.size + 1, 0, none⟩ 1 1 (cellF (pn, pv)) rfl rfl ?a0 ?a4 ?a1 ?a2 ?a3 ?_)
                case a0 =>
                  intro j u hu
                  have q := cell_two_new (w3.alloc (.cells #[.string pn, .string pv] 65)) (.string pn) (.string pv) 65 j u hu
                  rwa [show (w3.alloc (.cells #[.string pn, .string pv] 65)).heap.size = w3.heap.size + 1 from by simp] at q
                case a4 => intro u hu; simp [cellF] at hu; rcases hu with rfl | rfl <;> rfl
                case a1 => unfold maxLen; omega
                case a2 => omega
                case a3 => simp; omega
                intro v' w12 hown12 hgrow12 _
                have hO12 : OwnF w12 (w1.heap.size + 1) v' (fs ++ [(pn, pv)]) := by
                  unfold OwnF; rw [hlen, List.flatMap_append]; simpa using hown12
                have hDb := HDS.out.below (keep (w3.alloc (.cells #[.string pn, .string pv] 65)) (.cells #[.string pn, .string pv] 65))
                have hD12 := hDb.app hgrow12 hO12
                have hBb : Below w.heap.size w ((w3.alloc (.cells #[.string pn, .string pv] 65)).alloc (.cells #[.string pn, .string pv] 65)) := HBS.out.alloc HBS.out.size _
                have hB12 : Below w.heap.size w (w12.setCell ⟨w1.heap.size, 1, none⟩ v') :=
                  (hBb.grown hgrow12 hBb.size (fun j hj => by have := (hDb.own.lt j hj).1; omega)).setCell (p := ⟨w1.heap.size, 1, none⟩) (by simp; omega) _
                have e12 : w12.heap[w1.heap.size]? = some (.cells #[.string nm, .slice af fs.length cap, .string ⟨#[]⟩] 39 (0, 0)) := (hgrow12.block _ hDb.lt (ne_type hDb.own hDb.line (by decide))).trans hDb.line
                obtain ⟨a12, cap12, hv12, _⟩ := ownF_view hO12
                rw [hlen] at hv12
                subst hv12
                have HD12 : Hid (Oe (w12.setCell ⟨w1.heap.size, 1, none⟩ (.slice a12 (fs.length + 1) cap12)) w.heap.size w1.heap.size nm ⟨#[]⟩ (.slice a12 (fs.length + 1) cap12) (fs ++ [(pn, pv)])) := hD12
                have HB12 : Hid (Below w.heap.size w (w12.setCell ⟨w1.heap.size, 1, none⟩ (.slice a12 (fs.length + 1) cap12))) := hB12
                have y12 : w12.cell? ⟨w1.heap.size, 1, none⟩ = some (.slice af fs.length cap) := by rw [cell_of_row _ _ _ _ _ _ e12]; rfl
                have z1 : w12.frozen? ⟨w1.heap.size, 1, none⟩ = false := frozen_of_row _ _ _ _ _ e12
                clear hown12 hgrow12 hO12 hDb hD12 hB12 hBb e12 x2 HD3 HB3 pc0 pc1 HDS HBS HPS HDA HBA HPA x1
                go_wp2
                go_roundw
                case rel =>
                  refine ⟨r, _, fs ++ [(pn, pv)], m', by go_num, by omega, HD12.out, HB12.out, HP.out, by omega, by rw [hlen]; omega, ?_⟩
                  intro f hf
                  rcases List.mem_append.1 hf with q | q
                  · exact HSF.out f q
                  · simp at q; subst q; exact ⟨by simp; omega, by simp; omega⟩
                case measure => simp [intOf]; omega
            · have lk : decide ((q : Int) + 1 < (s.size : Int)) = false := by simp; omega
              have HNQ : Hid (∀ c, (nums s)[q + 1]? = some c → c ≠ 34) := fun c h => by have := (List.getElem?_eq_some_iff.1 h).1; rw [HLN.out] at this; omega
              obtain ⟨r, hr⟩ : ∃ r, q + 1 + tl (fun c => !mkQ c) (nums s) (q + 1) = r := ⟨_, rfl⟩
              have hrs : r ≤ s.size := by rw [← hr, ← HLN.out]; exact tl_le _ _ _ (by rw [HLN.out]; omega)
              have hrq : q + 1 ≤ r := by omega
              have HR : Hid (q + 1 + tl (fun c => !mkQ c) (nums s) (q + 1) = r) := hr
              clear hr
              have k0 : (0 : Int) ≤ (q : Int) + 1 := by omega
              have k1 : (q : Int) + 1 ≤ (r : Int) := by omega
              have k2 : (r : Int) ≤ (s.size : Int) := by omega
              have k3 : ((q : Int) + 1).toNat = q + 1 := by omega
              obtain ⟨pv, hpve⟩ : ∃ pv, s.extract (q + 1) r = pv := ⟨_, rfl⟩
              have hnv : nums pv = ((nums s).drop (q + 1)).take (r - (q + 1)) := by rw [← hpve]; exact nums_extract s _ _
              have hsv : pv.size ≤ s.size := by rw [← hpve]; simp; omega
              have HQ4 : Hid (oneR (nums s) = oneF (nums nm) (parsQ m' (numsP fs ++ [(nums pn, nums pv)]) ((nums s).drop r))) := by
                unfold Hid; rw [HQ1.out, HQ3.out, vq_plain HNQ.out HR.out, hnv]; rfl
              clear hnv HQ1 HQ3
              have HDS : Hid (Oe (w3.alloc (.cells #[.string pn, .string pv] 65)) w.heap.size w1.heap.size nm ⟨#[]⟩ (.slice af fs.length cap) fs) := HD3.out.below (keep w3 _)
              have HBS : Hid (Below w.heap.size w (w3.alloc (.cells #[.string pn, .string pv] 65))) := HB3.out.alloc HB3.out.size _
              have HPS : Hid ((w3.alloc (.cells #[.string pn, .string pv] 65)).heap[w3.heap.size]? = some (.cells #[.string pn, .string pv] 65 (0, 0))) := heap_alloc_last w3 _
              obtain ⟨pc0, pc1⟩ := two_cells HPS.out
              obtain ⟨_, x2, _, _, _, _⟩ := three_cells HDS.out.line
              have hlen : (fs ++ [(pn, pv)]).length = fs.length + 1 := by simp
              have HP : Hid (oneR (nums s) = oneF (nums nm) (parsQ m' (numsP (fs ++ [(pn, pv)])) ((nums s).drop r))) := by
                unfold Hid; rw [HQ4.out]; simp [numsP]
              clear HQ4
              go_wp2_with fail
              refine (place_at s ⟨#[59, 58, 44, 34]⟩ _ inQ _ (q + 1) r _ (by omega) (by omega) (by decide) (by omega) HR.out).mono ?_
              rintro e wz ⟨rfl, rfl⟩
              go_wp2_with (at_builtin; refine wpList_append_own _ rfl (.tmp 90) (.tmp 92) 37 rfl (w1.heap.size + 1) 65 j0 _ 2 32 Tryd.underlying37 hi hz0 hz1 hz2 rfl (by decide) _ _ _ rfl (own_keep HDS.out.own (keep _ _)) ⟨w3.heap.size + 1, 0, none⟩ 1 1 (cellF (pn, pv)) rfl rfl ?a0 ?a4 ?a1 ?a2 ?a3 ?_)
              case a0 =>
                intro j u hu
                have q := cell_two_new (w3.alloc (.cells #[.string pn, .string pv] 65)) (.string pn) (.string pv) 65 j u hu
                rwa [show (w3.alloc (.cells #[.string pn, .string pv] 65)).heap.size = w3.heap.size + 1 from by simp] at q
              case a4 => intro u hu; simp [cellF] at hu; rcases hu with rfl | rfl <;> rfl
              case a1 => unfold maxLen; omega
              case a2 => omega
              case a3 => simp; omega
              intro v' w12 hown12 hgrow12 _
              have hO12 : OwnF w12 (w1.heap.size + 1) v' (fs ++ [(pn, pv)]) := by
                unfold OwnF; rw [hlen, List.flatMap_append]; simpa using hown12
              have hDb := HDS.out.below (keep (w3.alloc (.cells #[.string pn, .string pv] 65)) (.cells #[.string pn, .string pv] 65))
              have hD12 := hDb.app hgrow12 hO12
              have hBb : Below w.heap.size w ((w3.alloc (.cells #[.string pn, .string pv] 65)).alloc (.cells #[.string pn, .string pv] 65)) := HBS.out.alloc HBS.out.size _
              have hB12 : Below w.heap.size w (w12.setCell ⟨w1.heap.size, 1, none⟩ v') :=
                (hBb.grown hgrow12 hBb.size (fun j hj => by have := (hDb.own.lt j hj).1; omega)).setCell (p := ⟨w1.heap.size, 1, none⟩) (by simp; omega) _
              have e12 : w12.heap[w1.heap.size]? = some (.cells #[.string nm, .slice af fs.length cap, .string ⟨#[]⟩] 39 (0, 0)) := (hgrow12.block _ hDb.lt (ne_type hDb.own hDb.line (by decide))).trans hDb.line
              obtain ⟨a12, cap12, hv12, _⟩ := ownF_view hO12
              rw [hlen] at hv12
              subst hv12
              have HD12 : Hid (Oe (w12.setCell ⟨w1.heap.size, 1, none⟩ (.slice a12 (fs.length + 1) cap12)) w.heap.size w1.heap.size nm ⟨#[]⟩ (.slice a12 (fs.length + 1) cap12) (fs ++ [(pn, pv)])) := hD12
              have HB12 : Hid (Below w.heap.size w (w12.setCell ⟨w1.heap.size, 1, none⟩ (.slice a12 (fs.length + 1) cap12))) := hB12
              have y12 : w12.cell? ⟨w1.heap.size, 1, none⟩ = some (.slice af fs.length cap) := by rw [cell_of_row _ _ _ _ _ _ e12]; rfl
              have z1 : w12.frozen? ⟨w1.heap.size, 1, none⟩ = false := frozen_of_row _ _ _ _ _ e12
              clear hown12 hgrow12 hO12 hDb hD12 hB12 hBb e12 x2 HD3 HB3 pc0 pc1 HDS HBS HPS HDA HBA HPA x1
              go_wp2
              go_roundw
              case rel =>
                refine ⟨r, _, fs ++ [(pn, pv)], m', by go_num, by omega, HD12.out, HB12.out, HP.out, by omega, by rw [hlen]; omega, ?_⟩
                intro f hf
                rcases List.mem_append.1 hf with q | q
                · exact HSF.out f q
                · simp at q; subst q; exact ⟨by simp; omega, by simp; omega⟩
              case measure => simp [intOf]; omega
          · have HN : Hid (oneR (nums s) = none) := by
              unfold Hid; rw [HQ1.out, pq_none HPQ.out (fun c h => by rw [HAQ.out] at h; cases h; exact h61)]; rfl
            have e2 : (d != 61) = true := by simp [h61]
            clear HPQ h61
            obtain ⟨r0, r1, r2, f0, f1, f2⟩ := three_cells HD.out.res
            obtain ⟨g0, g1, g2, _, _, _⟩ := three_cells HD.out.bad
            go_wp2
            exact rone_bad HD.out.res HB.out (Nat.le_refl _) HN.out rfl rfl rfl
      · have e1 : (c == 59) = false := by rw [beq_eq_false_iff_ne]; exact h59
        have HQ1 : Hid (oneR (nums s) = oneF (nums nm) (some (numsP fs, (nums s).drop p))) := by
          unfold Hid; rw [HQ.out]; exact oneQ_out _ _ _ _ _ (fun d h => by rw [HAT.out] at h; cases h; exact h59)
        clear HQ h59
        by_cases h58 : c = 58
        · subst h58
          have HQ2 : Hid (oneR (nums s) = if rightZ ⟨nums nm, numsP fs, (nums s).drop (p + 1)⟩ = true then some ⟨nums nm, numsP fs, (nums s).drop (p + 1)⟩ else none) := by
            unfold Hid; rw [HQ1.out]; exact oneQ_yes _ _ _ _ HAT.out
          clear HQ1
          have k0 : (0 : Int) ≤ (p : Int) + 1 := by omega
          have k1 : (p : Int) + 1 ≤ (s.size : Int) := by omega
          have k3 : ((p : Int) + 1).toNat = p + 1 := by omega
          obtain ⟨vl, hvl⟩ : ∃ vl, s.extract (p + 1) s.size = vl := ⟨_, rfl⟩
          have hnv : nums vl = (nums s).drop (p + 1) := by rw [← hvl]; exact nums_from s (p + 1)
          have hsv : vl.size ≤ s.size := by rw [← nums_len, hnv, List.length_drop, HLN.out]; omega
          have HQ3 : Hid (oneR (nums s) = if rightZ ⟨nums nm, numsP fs, nums vl⟩ = true then some ⟨nums nm, numsP fs, nums vl⟩ else none) := by unfold Hid; rw [HQ2.out, hnv]
          clear hnv HQ2
          obtain ⟨l0, l1, l2, y0, y1, y2⟩ := three_cells HD.out.line
          have HDA : Hid (Oe (wr.setCell ⟨w1.heap.size, 2, none⟩ (.string vl)) w.heap.size w1.heap.size nm vl (.slice af fs.length cap) fs) := HD.out.set2 vl
          have HBA : Hid (Below w.heap.size w (wr.setCell ⟨w1.heap.size, 2, none⟩ (.string vl))) := HB.out.setCell (p := ⟨w1.heap.size, 2, none⟩) (by simp; omega) _
          obtain ⟨z0, z1, z2, _, _, _⟩ := three_cells HDA.out.line
          clear HD HB
          go_wp2_with fail
          generalize wr.setCell ⟨w1.heap.size, 2, none⟩ (.string vl) = wA at HDA HBA z0 z1 z2 ⊢
          clear l0 l1 l2 y0 y1 y2 hvl
          obtain ⟨aA, cA, eA, hfA⟩ := ownF_view HDA.out.own
          simp only [Value.slice.injEq] at eA
          obtain ⟨rfl, _, rfl⟩ := eA
          refine (rright_any nm vl af fs.length cap fs _ rfl hfA (by omega) (by omega) (fun f hf => by have := HSF.out f hf; exact ⟨by omega, by omega⟩)).mono ?_
          rintro e wB ⟨rfl, hbB⟩
          have HDB : Hid (Oe wB w.heap.size w1.heap.size nm vl (.slice af fs.length cap) fs) := HDA.out.below hbB
          have HBB : Hid (Below w.heap.size w wB) := HBA.out.trans (hbB.mono HBA.out.size)
          clear hbB hfA z0 z1 z2 HDA HBA
          cases hrz : rightZ ⟨nums nm, numsP fs, nums vl⟩ with
          | false =>
            have HN : Hid (oneR (nums s) = none) := by unfold Hid; rw [HQ3.out, if_neg (by rw [hrz]; simp)]
            obtain ⟨r0, r1, r2, f0, f1, f2⟩ := three_cells HDB.out.res
            obtain ⟨g0, g1, g2, _, _, _⟩ := three_cells HDB.out.bad
            go_wp2
            exact rone_bad HDB.out.res HBB.out (Nat.le_refl _) HN.out rfl rfl rfl
          | true =>
            have HN : Hid (oneR (nums s) = some ⟨nums nm, numsP fs, nums vl⟩) := by unfold Hid; rw [HQ3.out, if_pos hrz]
            obtain ⟨z0, z1, z2, _, _, _⟩ := three_cells HDB.out.line
            obtain ⟨r0, r1, r2, f0, f1, f2⟩ := three_cells HDB.out.res
            go_wp2
            exact rone_fin HDB.out HBB.out (Nat.le_refl _) ⟨by unfold Small; omega, by unfold Small; omega, HSF.out.small⟩ HN.out rfl rfl rfl
        · have e2 : (c != 58) = true := by simp [h58]
          have HN : Hid (oneR (nums s) = none) := by
            unfold Hid; rw [HQ1.out]; exact oneQ_no _ _ _ _ (fun d h => by rw [HAT.out] at h; cases h; exact h58)
          clear h58
          obtain ⟨r0, r1, r2, f0, f1, f2⟩ := three_cells HD.out.res
          obtain ⟨g0, g1, g2, _, _, _⟩ := three_cells HD.out.bad
          go_wp2
          exact rone_bad HD.out.res HB.out (Nat.le_refl _) HN.out rfl rfl rfl
    · have dl : decide ((p : Int) < (s.size : Int)) = false := by simp; omega
      have gl : decide ((s.size : Int) ≤ (p : Int)) = true := by simp; omega
      have hno : ∀ c, (nums s)[p]? = some c → False := fun c h => by have := (List.getElem?_eq_some_iff.1 h).1; rw [HLN.out] at this; omega
      have HN : Hid (oneR (nums s) = none) := by
        unfold Hid; rw [HQ.out, oneQ_out _ _ _ _ _ (fun c h => (hno c h).elim)]; exact oneQ_no _ _ _ _ (fun c h => (hno c h).elim)
      clear hno
      obtain ⟨r0, r1, r2, f0, f1, f2⟩ := three_cells HD.out.res
      obtain ⟨g0, g1, g2, _, _, _⟩ := three_cells HD.out.bad
      go_wp2
      exact rone_bad HD.out.res HB.out (Nat.le_refl _) HN.out rfl rfl rfl
end Go.Proofs.YtenclgnkogmgiaaDoor
namespace Go.Proofs.YtenclgnkogmgiaaDoor
open Go.RowKit
set_option linter.unusedVariables false

theorem pairI_spec : ∀ l : List Int, 0 ≤ pairI l → l.drop (pairI l).toNat = 13 :: 10 :: l.drop ((pairI l).toNat + 2)
  | [], h => by simp [pairI] at h
  | c :: l, h => by
    have hg := pairI_ge l
    rw [pairI_cons] at h ⊢
    by_cases h1 : c = 13 ∧ l.head? = some 10
    · rw [if_pos h1]
      obtain ⟨rfl, h2⟩ := h1
      cases l with
      | nil => simp at h2
      | cons d l => simp at h2; subst h2; simp
    · rw [if_neg h1] at h ⊢
      by_cases h2 : pairI l = -1
      · rw [if_pos h2] at h; omega
      · rw [if_neg h2]
        have ih := pairI_spec l (by omega)
        have e : (pairI l + 1).toNat = (pairI l).toNat + 1 := by omega
        rw [e]
        simpa using ih
theorem pairI_none : ∀ (t x : List Int), 0 ≤ pairI (t ++ 13 :: 10 :: x)
  | [], x => by simp [pairI]
  | c :: t, x => by
    have ih := pairI_none t x
    rw [List.cons_append, pairI_cons]
    split
    · omega
    · split <;> omega
/-- The lines, out of the pieces. -/
def conv : Nat → List (List Int) → List (Nat × Nat × Bool)
  | _, [] => []
  | p, q :: r => if q = [] then [] else (p, (if endsZ q = true then q.length - 2 else q.length), endsZ q) :: conv (p + q.length) r
theorem lines_split : ∀ (n : Nat) (U : List Int) (p : Nat), U.length ≤ n → linesZ p U = conv p (splitP n U)
  | 0, U, p, h => by
    have : U = [] := List.eq_nil_of_length_eq_zero (by omega)
    subst this
    rw [linesZ_nil]; rfl
  | n + 1, U, p, h => by
    rw [splitP]
    by_cases hp : 0 ≤ pairI U
    · have hroom := pairI_room U hp
      have hsp := pairI_spec U hp
      rw [if_pos hp, linesZ_pair p U hp, conv]
      have hlen : (U.take ((pairI U).toNat + 2)).length = (pairI U).toNat + 2 := by rw [List.length_take]; omega
      have hne : U.take ((pairI U).toNat + 2) ≠ [] := by intro e; rw [e] at hlen; simp at hlen
      have hends : endsZ (U.take ((pairI U).toNat + 2)) = true := by
        unfold endsZ
        rw [decide_eq_true_eq, hlen]
        refine ⟨by omega, ?_⟩
        rw [show (pairI U).toNat + 2 - 2 = (pairI U).toNat by omega, List.drop_take, hsp, show (pairI U).toNat + 2 - (pairI U).toNat = 2 by omega]
        rfl
      rw [if_neg hne, hends, if_pos rfl, hlen, lines_split n _ _ (by rw [List.length_drop]; omega)]
      congr 1
    · rw [if_neg hp]
      by_cases hne : U = []
      · subst hne; rw [linesZ_nil]; rfl
      · rw [linesZ_last p U hne hp, conv, if_neg hne]
        have hends : endsZ U = false := by
          cases he : endsZ U with
          | false => rfl
          | true =>
            exfalso
            unfold endsZ at he
            rw [decide_eq_true_eq] at he
            have := List.take_append_drop (U.length - 2) U
            rw [he.2] at this
            exact hp (by rw [← this]; exact pairI_none _ [])
        rw [hends, if_neg (by simp)]
        rfl
theorem conv_len : ∀ (S : List (List Int)) (p a : Nat), (conv p S).length = (linesV a S).length
  | [], p, a => rfl
  | q :: r, p, a => by
    rw [conv, linesV]
    split
    · rfl
    · rw [List.length_cons, List.length_cons, conv_len r _ (a + q.length)]
theorem conv_at : ∀ (S : List (List Int)) (p k : Nat) (x : Nat × Nat × Bool), (conv p S)[k]? = some x → ∃ q, S[k]? = some q ∧ q ≠ [] ∧ x = (p + (S.take k).flatten.length, (if endsZ q = true then q.length - 2 else q.length), endsZ q)
  | [], p, k, x, h => by simp [conv] at h
  | q :: r, p, k, x, h => by
    rw [conv] at h
    split at h
    · simp at h
    · rename_i hne
      cases k with
      | zero =>
        simp only [List.getElem?_cons_zero, Option.some.injEq] at h
        exact ⟨q, rfl, hne, by rw [← h]; simp⟩
      | succ k =>
        simp only [List.getElem?_cons_succ] at h
        obtain ⟨q', h1, h2, h3⟩ := conv_at r _ k x h
        refine ⟨q', by simpa using h1, h2, ?_⟩
        rw [h3]
        simp only [List.take_succ_cons, List.flatten_cons, List.length_append, Prod.mk.injEq, and_true]
        omega
theorem split_count : ∀ (n : Nat) (l : List Int), (splitP n l).length ≤ n + 1
  | 0, l => by simp [splitP]
  | n + 1, l => by
    rw [splitP]
    split
    · have := split_count n (l.drop ((pairI l).toNat + 2))
      rw [List.length_cons]; omega
    · simp
theorem part_at {S : List (List Int)} {k : Nat} {q : List Int} (h : S[k]? = some q) (n : Nat) (hn : n ≤ q.length) : (S.flatten.drop (S.take k).flatten.length).take n = q.take n ∧ (S.take k).flatten.length + q.length ≤ S.flatten.length := by
  have hlt := (List.getElem?_eq_some_iff.1 h).1
  have hx := (List.getElem?_eq_some_iff.1 h).2
  have e : S = S.take k ++ q :: S.drop (k + 1) := by
    conv => lhs; rw [← List.take_append_drop k S, List.drop_eq_getElem_cons hlt, hx]
  have ef : S.flatten = (S.take k).flatten ++ (q ++ (S.drop (k + 1)).flatten) := by
    conv => lhs; rw [e]
    simp
  rw [ef]
  refine ⟨?_, by simp⟩
  rw [List.drop_left, List.take_append_of_le_length hn]
theorem row_piece {w : World} {b off q : Nat} {zs x : List Int} (h : Row w (some ⟨b, off, none⟩) zs) (hx : (zs.drop q).take x.length = x) (hq : q + x.length ≤ zs.length) : Row w (some ⟨b, off + q, none⟩) x := by
  rcases h with rfl | ⟨b', off', e, h⟩
  · left
    simpa using hx
  · simp at e
    obtain ⟨rfl, rfl⟩ := e
    refine .inr ⟨b, off + q, rfl, fun i hi => ?_⟩
    rw [Nat.add_assoc, h (q + i) (by omega)]
    congr 2
    rw [List.getD_eq_getElem?_getD, List.getD_eq_getElem?_getD]
    congr 1
    conv => rhs; rw [← hx]
    rw [List.getElem?_take, if_pos hi, List.getElem?_drop]
theorem ownL_cells {w : World} {B : Nat} {v : Value} {b off cap : Nat} {ls : List (Nat × Nat × Bool)} (h : OwnL w B v b off cap ls) (hne : ls ≠ []) :
    ∃ g c, v = .slice (some ⟨g, 0, none⟩) ls.length c ∧ ∀ i x, ls[i]? = some x → w.cell? ⟨g, i * 3, none⟩ = some (.int .i64 (x.1 : Nat)) ∧ w.cell? ⟨g, i * 3 + 1, none⟩ = some (.slice (some ⟨b, off + x.1, none⟩) x.2.1 (cap - x.1)) ∧ w.cell? ⟨g, i * 3 + 2, none⟩ = some (.bool x.2.2) := by
  have h0 := h
  rcases h.2 with ⟨rfl, hn⟩ | ⟨g, c, cur, rfl, hb, hg, hn, hm, hs, ht⟩
  · exact absurd (List.eq_nil_of_length_eq_zero hn) hne
  · refine ⟨g, c, rfl, fun i x hx => ?_⟩
    have key : ∀ j, j < 3 → (ls.flatMap (cellL b off cap))[i * 3 + j]? = (cellL b off cap x)[j]? := by
      intro j hj
      clear h0 h hg hn hm hs ht hb hne
      induction ls generalizing i with
      | nil => simp at hx
      | cons y r ih =>
        cases i with
        | zero =>
          simp only [List.getElem?_cons_zero, Option.some.injEq] at hx
          subst hx
          rw [List.flatMap_cons, List.getElem?_append_left (by simp [cellL]; omega)]
          simp
        | succ i =>
          simp only [List.getElem?_cons_succ] at hx
          rw [List.flatMap_cons, List.getElem?_append_right (by simp [cellL]; omega)]
          rw [← ih i hx]
          congr 1
          simp [cellL]; omega
    have c0 := h0.cells (g := g) rfl (i * 3 + 0) _ (by rw [key 0 (by omega)]; rfl)
    have c1 := h0.cells (g := g) rfl (i * 3 + 1) _ (by rw [key 1 (by omega)]; rfl)
    have c2 := h0.cells (g := g) rfl (i * 3 + 2) _ (by rw [key 2 (by omega)]; rfl)
    rw [add_plain] at c0 c1 c2
    exact ⟨by simpa using c0, by simpa using c1, by simpa using c2⟩
/-- Between two lines: k lines have been read. -/
def QJ (W0 : World) (S : List (List Int)) (k : Nat) (v : Value) (V : World) : Prop :=
  ∃ (ls : List Lm), V.ownsRow W0.heap.size 39 3 v ls.length (ls.flatMap cellM) ∧ (∀ m ∈ ls, FRow V m.a m.fs ∧ ∀ x, m.a = some x → W0.heap.size ≤ x.block ∧ ∃ cs, V.heap[x.block]? = some (.cells cs 65 (0, 0))) ∧
    ls.length = k ∧ k ≤ 4096 ∧ (∀ (i : Nat) (m : Lm), ls[i]? = some m → ∃ q, S[i]? = some q ∧ goodP q = some m.ln) ∧ Below W0.heap.size W0 V
theorem QJ.below {W0 V V' : World} {S : List (List Int)} {k : Nat} {v : Value} (h : QJ W0 S k v V) (hb : Below V.heap.size V V') : QJ W0 S k v V' := by
  obtain ⟨ls, h1, h2, h3, h4, h5, h6⟩ := h
  refine ⟨ls, own_keep h1 hb, fun m hm => ⟨(h2 m hm).1.below hb, fun x hx => ⟨((h2 m hm).2 x hx).1, ?_⟩⟩, h3, h4, h5, h6.trans (hb.mono h6.size)⟩
  obtain ⟨cs, hcs⟩ := ((h2 m hm).2 x hx).2
  exact ⟨cs, (hb.block _ (Array.getElem?_eq_some_iff.1 hcs).1).trans hcs⟩
theorem QJ.app {W0 V V' : World} {S : List (List Int)} {k : Nat} {v v' : Value} {m : Lm} {ls : List Lm} {p : List Int} (h1 : V.ownsRow W0.heap.size 39 3 v k (ls.flatMap cellM))
    (h2 : ∀ m', m' ∈ ls ++ [m] → FRow V m'.a m'.fs ∧ ∀ x, m'.a = some x → W0.heap.size ≤ x.block ∧ ∃ cs, V.heap[x.block]? = some (.cells cs 65 (0, 0))) (h3 : ls.length = k) (h4 : k < 4096)
    (h5 : ∀ (i : Nat) (m : Lm), ls[i]? = some m → ∃ q, S[i]? = some q ∧ goodP q = some m.ln) (h6 : Below W0.heap.size W0 V) (hp : S[k]? = some p) (hg : goodP p = some m.ln)
    (hown : V'.ownsRow W0.heap.size 39 3 v' (k + 1) (ls.flatMap cellM ++ cellM m)) (hgr : V.grownBy V' v.ownBlock) : QJ W0 S (k + 1) v' V' := by
  have hpar : ∀ (x : Addr) cs, V.heap[x.block]? = some (.cells cs 65 (0, 0)) → V'.heap[x.block]? = V.heap[x.block]? := fun x cs hx => hgr.block _ (Array.getElem?_eq_some_iff.1 hx).1 (ne_type h1 hx (by decide))
  refine ⟨ls ++ [m], by rw [List.length_append, h3, List.flatMap_append]; simpa using hown, ?_, by simp [h3], by omega, ?_, h6.grown hgr h6.size (fun g hg => (h1.lt g hg).1)⟩
  · intro m' hm'
    obtain ⟨q1, q2⟩ := h2 m' hm'
    refine ⟨q1.blk (fun x hx => ?_), fun x hx => ⟨(q2 x hx).1, ?_⟩⟩
    · obtain ⟨cs, hcs⟩ := (q2 x hx).2
      exact hpar x cs hcs
    · obtain ⟨cs, hcs⟩ := (q2 x hx).2
      exact ⟨cs, (hpar x cs hcs).trans hcs⟩
  · intro i m' hi
    by_cases hik : i < ls.length
    · rw [List.getElem?_append_left hik] at hi
      exact h5 i m' hi
    · have hlt := (List.getElem?_eq_some_iff.1 hi).1
      simp at hlt
      obtain rfl : i = ls.length := by omega
      simp at hi
      subst hi
      exact ⟨p, by rw [h3]; exact hp, hg⟩
theorem rread_ret {w X : World} {l : List Int} {p : Nat} {code : Int} {v : Value} {A : Act} (hX : Blk X w.heap.size #[.int .i64 (p : Nat), .int .i64 code] 56) (hb : Below w.heap.size w X)
    (hans : (RF l p code ∧ v = .slice none 0 0) ∨ (p = 0 ∧ code = 0 ∧ ∃ (a : Option Addr) (cap : Nat) (ls : List Lm), v = .slice a ls.length cap ∧ LRow X a ls ∧ ROk l ls))
    (hd : A.defers = []) (h2 : A.tmps[2]?.getD undef = v) (h3 : A.tmps[3]?.getD undef = .pointer (some ⟨w.heap.size, 0, none⟩)) : bodyPost Tryd.prog Tryd.f39 (RPost w l) .ret A X := by
  have q0 := hX.cell 0
  have q1 := hX.cell 1
  simp only [List.getElem?_toArray, List.getElem?_cons_zero, List.getElem?_cons_succ] at q0 q1
  refine bodyPost_ret (v := .tuple #[v, .agg #[.int .i64 (p : Nat), .int .i64 code]]) ?_ hd ⟨v, p, code, rfl, hb, hans⟩
  simp [results, Tryd.results39, go_sem, q0, q1, h2, h3]
theorem blk_set2 {W : World} {R : Nat} {a b x y : Value} {t : TypeId} (h : Blk W R #[a, b] t) : Blk ((W.setCell ⟨R, 0, none⟩ x).setCell ⟨R, 1, none⟩ y) R #[x, y] t := blk_two h
theorem two_facts {W : World} {R : Nat} {a b : Value} {t : TypeId} (h : Blk W R #[a, b] t) : W.cell? ⟨R, 0, none⟩ = some a ∧ W.cell? ⟨R, 1, none⟩ = some b ∧ W.frozen? ⟨R, 0, none⟩ = false ∧ W.frozen? ⟨R, 1, none⟩ = false := by
  have q0 := h.cell 0
  have q1 := h.cell 1
  simp only [List.getElem?_toArray, List.getElem?_cons_zero, List.getElem?_cons_succ] at q0 q1
  exact ⟨q0, q1, h.frozen 0, h.frozen 1⟩
/-- The world before the lines are gone through, and what was read. -/
structure At (w W0 : World) (l : List Int) (b off cap g : Nat) : Prop where
  res : Blk W0 w.heap.size #[.int .i64 0, .int .i64 0] 56
  bel : Below w.heap.size w W0
  row : Row W0 (some ⟨b, off, none⟩) (unfoldZ l)
  cells : ∀ i x, (linesZ 0 (unfoldZ l))[i]? = some x → W0.cell? ⟨g, i * 3, none⟩ = some (.int .i64 (x.1 : Nat)) ∧ W0.cell? ⟨g, i * 3 + 1, none⟩ = some (.slice (some ⟨b, off + x.1, none⟩) x.2.1 (cap - x.1)) ∧ W0.cell? ⟨g, i * 3 + 2, none⟩ = some (.bool x.2.2)
  len : l.length ≤ 1048576
  valid : ∃ ps, Ut.AllPt ps ∧ unfoldZ l = Ut.flat ps
/-- What a round meets. -/
theorem At.piece {w W0 : World} {l : List Int} {b off cap g : Nat} (h : At w W0 l b off cap g) {i : Nat} (hi : i < (linesZ 0 (unfoldZ l)).length) :
    ∃ (q B : List Int) (p : Nat) (e : Bool), (splitP (unfoldZ l).length (unfoldZ l))[i]? = some q ∧ q ≠ [] ∧ p = ((splitP (unfoldZ l).length (unfoldZ l)).take i).flatten.length ∧ goodP q = (if e = true then oneR B else none) ∧ Byt B ∧ B.length ≤ 1048576 ∧
      Row W0 (some ⟨b, off + p, none⟩) B ∧ W0.cell? ⟨g, i * 3, none⟩ = some (.int .i64 (p : Nat)) ∧ W0.cell? ⟨g, i * 3 + 1, none⟩ = some (.slice (some ⟨b, off + p, none⟩) B.length (cap - p)) ∧ W0.cell? ⟨g, i * 3 + 2, none⟩ = some (.bool e) := by
  have hls := lines_split (unfoldZ l).length (unfoldZ l) 0 (Nat.le_refl _)
  obtain ⟨x, hx⟩ : ∃ x, (linesZ 0 (unfoldZ l))[i]? = some x := ⟨_, List.getElem?_eq_getElem hi⟩
  obtain ⟨c0, c1, c2⟩ := h.cells i x hx
  rw [hls] at hx
  obtain ⟨q, h1, h2, rfl⟩ := conv_at _ _ _ _ hx
  rw [Nat.zero_add] at c0 c1
  have hbyt : Byt (unfoldZ l) := by
    obtain ⟨ps, h1, h2⟩ := h.valid
    rw [h2]; exact Ut.flat_byt h1
  have hul := unf_len l
  have hfl := split_flat (unfoldZ l).length (unfoldZ l)
  have hn : (if endsZ q = true then q.length - 2 else q.length) ≤ q.length := by split <;> omega
  obtain ⟨p1, p2⟩ := part_at h1 _ hn
  rw [hfl] at p1 p2
  obtain ⟨B, hB⟩ : ∃ B, q.take (if endsZ q = true then q.length - 2 else q.length) = B := ⟨_, rfl⟩
  have hBl : B.length = (if endsZ q = true then q.length - 2 else q.length) := by rw [← hB, List.length_take]; omega
  rw [hB] at p1
  rw [← hBl] at c1 p1
  have hlen := h.len
  refine ⟨q, B, _, _, h1, h2, rfl, ?_, ?_, by omega, row_piece h.row p1 (by omega), c0, c1, c2⟩
  · unfold goodP
    split
    · rename_i he
      rw [← hB, if_pos he]
    · rfl
  · rw [← p1]
    exact fun y hy => hbyt y (List.mem_of_mem_drop (List.mem_of_mem_take hy))
set_option maxHeartbeats 16000000 in
set_option maxRecDepth 100000 in
theorem rread_any (a : Option Addr) (len cap : Nat) (l : List Int) (w : World) (hl : l.length = len) (hb : Byt l) (hcap : len ≤ cap) (hcm : cap ≤ maxLen) (hr : Row w a l) : Calls Tryd.prog 39 #[.slice a len cap] w (RPost w l) := by
  obtain ⟨j0, hi, hz0, hz1, hz2⟩ := info_parts Tryd.info39
  have hbig : len ≤ 9223372036854775807 := by have : maxLen = 9223372036854775807 := rfl; omega
  have HL : Hid (l.length = len) := hl
  have HR0 : Hid (Blk (w.alloc (.cells #[.int .i64 0, .int .i64 0] 56)) w.heap.size #[.int .i64 0, .int .i64 0] 56) := Blk.new w _ 56
  have hk0 : Below w.heap.size w (w.alloc (.cells #[.int .i64 0, .int .i64 0] 56)) := keep w _
  obtain ⟨c0, c1, f0, f1⟩ := two_facts HR0.out
  clear hl
  by_cases hlong : 1048576 < len
  · have HF : Hid (RF l 0 2) := .inl ⟨by rw [HL.out]; exact hlong, rfl, rfl⟩
    go_enter Tryd.func39, Tryd.ntmps39
    go_wp2
    refine rread_ret (p := 0) (code := 2) ?_ ?_ (.inl ⟨HF.out, rfl⟩) rfl rfl rfl
    · exact Blk.new w #[.int .i64 ((0 : Nat) : Int), .int .i64 2] 56
    · exact keep w _
  have HUL : Hid ((unfoldZ l).length ≤ 1048576) := by have := unf_len l; have := HL.out; unfold Hid; omega
  go_enter Tryd.func39, Tryd.ntmps39
  go_wp2_with fail
  refine (runfold_any a len cap l _ HL.out hb (by omega) hcap hcm (row_below hr hk0)).mono ?_
  rintro e w1 ⟨v1, rfl, hown1, hb1⟩
  obtain ⟨a1, c1', rfl, hcl1, hcm1, hrow1, _⟩ := own_row' hown1
  have HB1 : Hid (Below w.heap.size w w1) := hk0.trans (hb1.mono (by simp))
  have HR1 : Hid (Blk w1 w.heap.size #[.int .i64 0, .int .i64 0] 56) := HR0.out.below hb1 (by simp)
  have HRW : Hid (Row w1 a1 (unfoldZ l)) := hrow1
  have hUB : Byt (unfoldZ l) := unfold_byt hb
  obtain ⟨ps, r, hps, hur, hdr⟩ := Ut.split_ex (unfoldZ l) hUB
  obtain ⟨ul, hule⟩ : ∃ ul, (unfoldZ l).length = ul := ⟨_, rfl⟩
  have hul2 : ul ≤ 1048576 := by rw [← hule]; exact HUL.out
  rw [hule] at hcl1 ⊢
  have HULE : Hid ((unfoldZ l).length = ul) := hule
  clear hown1 hb1 hrow1 c0 c1 f0 f1 hk0 hule
  by_cases hrn : r = []
  case neg =>
    have HF : Hid (RF l (Ut.flat ps).length 20) := .inr (.inl ⟨by rw [HL.out]; omega, ps, r, hps, fun y hy => hUB y (by rw [hur]; simp [hy]), hur, hdr, hrn, rfl, rfl⟩)
    have hpts := Ut.rpoints_no a1 ul c1' ps r w1 (by rw [← hur]; exact HULE.out) hps hdr hrn (fun y hy => hUB y (by rw [hur]; simp [hy])) hcl1 hcm1 (by omega) (by rw [← hur]; exact HRW.out)
    obtain ⟨fp, hfp⟩ : ∃ fp, (Ut.flat ps).length = fp := ⟨_, rfl⟩
    rw [hfp] at HF hpts
    clear hur hdr hps hrn hfp hUB
    go_wp2_with fail
    refine hpts.mono ?_
    rintro e w2 ⟨rfl, hb2⟩
    have HB2 : Hid (Below w.heap.size w w2) := HB1.out.trans (hb2.mono HB1.out.size)
    have hR2 : Blk w2 w.heap.size #[.int .i64 0, .int .i64 0] 56 := HR1.out.below hb2 (by exact HR1.out.lt)
    have hR3 : Blk (w2.alloc (.cells #[.int .i64 (fp : Nat), .int .i64 20] 56)) w.heap.size #[.int .i64 0, .int .i64 0] 56 := hR2.below (keep w2 _) hR2.lt
    obtain ⟨d0, d1, g0, g1⟩ := two_facts hR3
    obtain ⟨e0, e1, _, _⟩ := two_facts (Blk.new w2 #[.int .i64 (fp : Nat), .int .i64 20] 56)
    have HR3 : Hid (Blk (w2.alloc (.cells #[.int .i64 (fp : Nat), .int .i64 20] 56)) w.heap.size #[.int .i64 0, .int .i64 0] 56) := hR3
    have HB3 : Hid (Below w.heap.size w (w2.alloc (.cells #[.int .i64 (fp : Nat), .int .i64 20] 56))) := HB2.out.alloc HB2.out.size _
    clear hb2 hR2 hR3
    go_wp2
    generalize w2.alloc (.cells #[.int .i64 (fp : Nat), .int .i64 20] 56) = w3 at d0 d1 g0 g1 e0 e1 HR3 HB3 ⊢
    go_region
    go_wp2
    exact rread_ret (p := fp) (code := 20) (blk_set2 HR3.out) (below_drew ((HB3.out.setCell (p := ⟨w.heap.size, 0, none⟩) (Nat.le_refl _) _).setCell (p := ⟨w.heap.size, 1, none⟩) (Nat.le_refl _) _)) (.inl ⟨HF.out, rfl⟩) rfl rfl rfl
  subst hrn
  rw [List.append_nil] at hur
  have hpts := Ut.rpoints_yes a1 ul c1' ps w1 (by rw [← hur]; exact HULE.out) hps hcl1 hcm1 (by omega) (by rw [← hur]; exact HRW.out)
  have HV : Hid (∃ ps, Ut.AllPt ps ∧ unfoldZ l = Ut.flat ps) := ⟨ps, hps, hur⟩
  clear hur hdr hps hUB
  go_wp2_with fail
  refine hpts.mono ?_
  rintro e w2 ⟨v2, rfl, _, hb2⟩
  have HB2 : Hid (Below w.heap.size w w2) := HB1.out.trans (hb2.mono HB1.out.size)
  have HR2 : Hid (Blk w2 w.heap.size #[.int .i64 0, .int .i64 0] 56) := HR1.out.below hb2 HR1.out.lt
  have HRW2 : Hid (Row w2 a1 (unfoldZ l)) := row_below HRW.out hb2
  obtain ⟨e0, e1, _, _⟩ := two_facts (Blk.new w2 #[.int .i64 0, .int .i64 0] 56)
  obtain ⟨bb, oo, ha⟩ : ∃ bb oo, unfoldZ l ≠ [] → a1 = some ⟨bb, oo, none⟩ := by
    rcases HRW.out with h | ⟨bb, oo, h, _⟩
    · exact ⟨0, 0, fun q => absurd h q⟩
    · exact ⟨bb, oo, fun _ => h⟩
  have hk2 := keep w2 (.cells #[.int .i64 0, .int .i64 0] 56)
  have hlr := lines_ref a1 bb oo ul c1' (unfoldZ l) (w2.alloc (.cells #[.int .i64 0, .int .i64 0] 56)) HULE.out (by omega) hcl1 hcm1 (row_below HRW2.out hk2) ha
  clear hb2 hpts
  go_wp2_with fail
  refine hlr.mono ?_
  rintro e w3 ⟨v3, rfl, hown3, hb3⟩
  have HB3 : Hid (Below w.heap.size w w3) := (HB2.out.alloc HB2.out.size _).trans (hb3.mono (by have := HB2.out.size; simp; omega))
  have HR3 : Hid (Blk w3 w.heap.size #[.int .i64 0, .int .i64 0] 56) := (HR2.out.below hk2 HR2.out.lt).below hb3 (by have := HR2.out.lt; simp; omega)
  have HRW3 : Hid (Row w3 a1 (unfoldZ l)) := row_below (row_below HRW2.out hk2) hb3
  obtain ⟨n, hne⟩ : ∃ n, (linesZ 0 (unfoldZ l)).length = n := ⟨_, rfl⟩
  have HN : Hid ((linesZ 0 (unfoldZ l)).length = n) := hne
  have hnle : n ≤ 1048577 := by
    rw [← hne, lines_split (unfoldZ l).length _ 0 (Nat.le_refl _), conv_len _ 0 0]
    have h1 := linesV_le (splitP (unfoldZ l).length (unfoldZ l)) 0
    have h2 := split_count (unfoldZ l).length (unfoldZ l)
    have := HUL.out
    omega
  obtain ⟨a3, c3, rfl, HAT⟩ : ∃ a3 c3, v3 = .slice a3 n c3 ∧ Hid (0 < n → ∃ b off g, a3 = some ⟨g, 0, none⟩ ∧ At w w3 l b off c1' g) := by
    by_cases hn0 : linesZ 0 (unfoldZ l) = []
    · rw [hn0] at hne hown3
      obtain rfl : n = 0 := hne.symm
      rcases hown3.2 with ⟨rfl, _⟩ | ⟨g, c, cur, rfl, _⟩
      · exact ⟨none, 0, rfl, fun h => by omega⟩
      · exact ⟨_, c, rfl, fun h => by omega⟩
    · obtain ⟨g, c, e, hc⟩ := ownL_cells hown3 hn0
      rw [hne] at e
      refine ⟨_, c, e, fun _ => ⟨bb, oo, g, rfl, HR3.out, HB3.out, ?_, hc, by rw [HL.out]; omega, HV.out⟩⟩
      have hUne : unfoldZ l ≠ [] := fun h => hn0 (by rw [h, linesZ_nil])
      rw [← ha hUne]; exact HRW3.out
  clear hown3 hb3 hlr hk2 e0 e1 hne ha
  obtain ⟨S, hS⟩ : ∃ S, splitP (unfoldZ l).length (unfoldZ l) = S := ⟨_, rfl⟩
  have HSS : Hid (splitP (unfoldZ l).length (unfoldZ l) = S) := hS
  clear hS
  go_wp2
  go_loopw [8, 7, 9, 10] (fun i v _ _ wr => ∃ k : Nat, i = .int .i64 k ∧ k ≤ n ∧ QJ w3 S k v wr) (fun i _ _ _ _ => n - (intOf i).toNat)
  case atStart => exact ⟨0, rfl, by omega, [], ⟨rfl, .inl ⟨rfl, rfl⟩⟩, by simp, rfl, by omega, by simp, Below.refl _ _⟩
  case round =>
    obtain ⟨k, rfl, hk, hq⟩ := hrel
    have HQ : Hid (QJ w3 S k u7 wr) := hq
    obtain ⟨ls, _, _, hlk, hk4, _, hbel⟩ := hq
    have HBW : Hid (Below w3.heap.size w3 wr) := hbel
    obtain ⟨av, cv, hv⟩ : ∃ av cv, u7 = .slice av k cv := by
      obtain ⟨ls', h1, _, h3, _⟩ := HQ.out
      rcases h1.2 with ⟨e, hn⟩ | ⟨g, c, cur, e, _⟩
      · exact ⟨none, 0, by rw [e]; rw [← h3, hn]⟩
      · exact ⟨_, c, by rw [e, h3]⟩
    subst hv
    clear hlk hbel
    by_cases hlt : k < n
    · have dl : decide ((k : Int) < (n : Int)) = true := by simp; omega
      obtain ⟨b, off, g, rfl, hat⟩ := HAT.out (by omega)
      obtain ⟨q, B, p, e, hq1, hq2, hq3, hq4, hq5, hq6, hrow, m0, m1, m2⟩ := hat.piece (i := k) (by rw [HN.out]; exact hlt)
      rw [HSS.out] at hq1 hq3
      have HQ1 : Hid (S[k]? = some q) := hq1
      have HQ3 : Hid (p = (S.take k).flatten.length) := hq3
      have HQ4 : Hid (goodP q = if e = true then oneR B else none) := hq4
      have HQ2 : Hid (q ≠ []) := hq2
      have x0 : wr.cell? ⟨g, k * 3, none⟩ = some (.int .i64 (p : Nat)) := cell_keep HBW.out m0
      have x1 : wr.cell? ⟨g, k * 3 + 1, none⟩ = some (.slice (some ⟨b, off + p, none⟩) B.length (c1' - p)) := cell_keep HBW.out m1
      have x2 : wr.cell? ⟨g, k * 3 + 2, none⟩ = some (.bool e) := cell_keep HBW.out m2
      have kc := conv_row B.length (c1' - p) rfl (row_below hrow HBW.out)
      have hadd : (⟨g, 0, none⟩ : Addr).add (k * 3) = ⟨g, k * 3, none⟩ := by rw [add_plain, Nat.zero_add]
      have hsB : (strOfNums B).size ≤ 2000000 := by have := nums_len (strOfNums B); rw [nums_str hq5] at this; omega
      have hone := fun V => rone_any (strOfNums B) V hsB
      rw [nums_str hq5] at hone
      have HK4 : Hid (k ≤ 4096) := hk4
      obtain ⟨bl, hbl⟩ : ∃ bl, B.length = bl := ⟨_, rfl⟩
      rw [hbl] at x1 kc
      have hbl2 : bl ≤ 1048576 := by omega
      clear hq1 hq2 hq3 hq4 hq5 hq6 hrow m0 m1 m2 hat hsB hbl
      go_wp2_with fail
      refine (hone _).mono ?_
      rintro e' w4 ⟨nm, vl, fa, fc, fs, code, rfl, hans, hln, hb4⟩
      have HJ4 : Hid (QJ w3 S k (.slice av k cv) w4) := HQ.out.below hb4
      have y0 := cell_keep hb4 x0
      have y2 := cell_keep hb4 x2
      have HB4 : Hid (Below w3.heap.size w3 w4) := HBW.out.trans (hb4.mono HBW.out.size)
      clear x0 x1 x2 kc hone HQ
      unfold lineV
      have hk4' := keep w4 (.cells #[.string nm, .slice fa fs.length fc, .string vl] 39)
      have z0 := cell_keep hk4' y0
      have z2 := cell_keep hk4' y2
      have HJ5 : Hid (QJ w3 S k (.slice av k cv) (w4.alloc (.cells #[.string nm, .slice fa fs.length fc, .string vl] 39))) := HJ4.out.below hk4'
      have HR5 : Hid (Blk (w4.alloc (.cells #[.string nm, .slice fa fs.length fc, .string vl] 39)) w.heap.size #[.int .i64 0, .int .i64 0] 56) := (HR3.out.below HB4.out HR3.out.lt).below hk4' (by have := HR3.out.lt; have := HB4.out.size; omega)
      obtain ⟨d0, d1, g0, g1⟩ := two_facts HR5.out
      have HB5 : Hid (Below w.heap.size w (w4.alloc (.cells #[.string nm, .slice fa fs.length fc, .string vl] 39))) := (HB3.out.trans (HB4.out.mono HB3.out.size)).alloc (by have := HB3.out.size; have := HB4.out.size; omega) _
      have hlow : w.heap.size < w4.heap.size := by have := HR3.out.lt; have := HB4.out.size; omega
      have good : goodP q = none → Hid (RF l p 90) := fun hn => .inr (.inr ⟨by rw [HL.out]; omega, HV.out, k, q, by rw [HSS.out]; exact HQ1.out, HQ2.out, (by
        intro i r hik hr
        obtain ⟨ls', _, _, h3, _, h5, _⟩ := HJ4.out
        rw [HSS.out] at hr
        obtain ⟨q', hq', hg'⟩ := h5 i ls'[i] (List.getElem?_eq_getElem (by omega))
        rw [hr] at hq'; cases hq'; rw [hg']; rfl), HK4.out, by rw [HSS.out]; exact HQ3.out, .inl ⟨hn, rfl⟩⟩)
      have many : (goodP q).isSome = true → k = 4096 → Hid (RF l p 2) := fun hn h4 => .inr (.inr ⟨by rw [HL.out]; omega, HV.out, k, q, by rw [HSS.out]; exact HQ1.out, HQ2.out, (by
        intro i r hik hr
        obtain ⟨ls', _, _, h3, _, h5, _⟩ := HJ4.out
        rw [HSS.out] at hr
        obtain ⟨q', hq', hg'⟩ := h5 i ls'[i] (List.getElem?_eq_getElem (by omega))
        rw [hr] at hq'; cases hq'; rw [hg']; rfl), HK4.out, by rw [HSS.out]; exact HQ3.out, .inr ⟨hn, h4, rfl⟩⟩)
      have bad : ∀ cc (HF : Hid (RF l p cc)) (A : Act) (X : World), X = ((w4.alloc (.cells #[.string nm, .slice fa fs.length fc, .string vl] 39)).setCell ⟨w.heap.size, 0, none⟩ (.int .i64 (p : Nat))).setCell ⟨w.heap.size, 1, none⟩ (.int .i64 cc) → A.defers = [] → A.tmps[2]?.getD undef = .slice none 0 0 → A.tmps[3]?.getD undef = .pointer (some ⟨w.heap.size, 0, none⟩) → ∀ j, bodyPost Tryd.prog Tryd.f39 (RPost w l) .ret A (X.drewN j) := by
        intro cc HF A X hX h1 h2 h3 j
        subst hX
        exact rread_ret (p := p) (code := cc) (show Blk (World.drewN _ j) _ _ _ from blk_set2 HR5.out) (below_drewN ((HB5.out.setCell (p := ⟨w.heap.size, 0, none⟩) (Nat.le_refl _) _).setCell (p := ⟨w.heap.size, 1, none⟩) (Nat.le_refl _) _) j) (.inl ⟨HF.out, rfl⟩) h1 h2 h3
      rcases hans with ⟨hsome, rfl⟩ | ⟨hnone, rfl, hno⟩
      case inr =>
        have HF := good (by rw [HQ4.out, hnone]; split <;> rfl)
        clear hln hnone hno good many
        go_wp2
        generalize w4.alloc (.cells #[.string nm, .slice fa fs.length fc, .string vl] 39) = w5 at z0 z2 d0 d1 g0 g1 bad HR5 HB5 HJ5 hk4' ⊢
        go_region
        go_wp2
        exact bad 90 HF _ _ rfl rfl rfl rfl _
      cases e with
      | false =>
        have HF := good (by rw [HQ4.out]; rfl)
        clear hln hsome good many
        go_wp2
        generalize w4.alloc (.cells #[.string nm, .slice fa fs.length fc, .string vl] 39) = w5 at z0 z2 d0 d1 g0 g1 bad HR5 HB5 HJ5 hk4' ⊢
        go_region
        go_wp2
        exact bad 90 HF _ _ rfl rfl rfl rfl _
      | true =>
        have hgq : goodP q = some ⟨nums nm, numsP fs, nums vl⟩ := by rw [HQ4.out, if_pos rfl, hsome]
        by_cases h4096 : k = 4096
        · have HF := many (by rw [hgq]; rfl) h4096
          have e4 : ((k : Int) == 4096) = true := by simp [h4096]
          clear hln hsome good many hgq h4096
          go_wp2
          generalize w4.alloc (.cells #[.string nm, .slice fa fs.length fc, .string vl] 39) = w5 at z0 z2 d0 d1 g0 g1 bad HR5 HB5 HJ5 hk4' ⊢
          go_region
          go_wp2
          exact bad 2 HF _ _ rfl rfl rfl rfl _
        · have e4 : ((k : Int) == 4096) = false := by rw [beq_eq_false_iff_ne]; omega
          obtain ⟨l0, l1, l2, _, _, _⟩ := three_cells (heap_alloc_last w4 (.cells #[.string nm, .slice fa fs.length fc, .string vl] 39))
          obtain ⟨ls', o1, o2, o3, o4, o5, o6⟩ := HJ5.out
          have HO1 : Hid ((w4.alloc (.cells #[.string nm, .slice fa fs.length fc, .string vl] 39)).ownsRow w3.heap.size 39 3 (.slice av k cv) k (ls'.flatMap cellM)) := by rw [o3] at o1; exact o1
          have HFR : Hid (FRow (w4.alloc (.cells #[.string nm, .slice fa fs.length fc, .string vl] 39)) fa fs ∧ ∀ x, fa = some x → w3.heap.size ≤ x.block ∧ ∃ cs, (w4.alloc (.cells #[.string nm, .slice fa fs.length fc, .string vl] 39)).heap[x.block]? = some (.cells cs 65 (0, 0))) := by
            refine ⟨hln.1.below hk4', fun x hx => ?_⟩
            obtain ⟨h1, cs, h2⟩ := hln.2.1 x hx
            exact ⟨by have := HBW.out.size; omega, cs, (hk4'.block _ (Array.getElem?_eq_some_iff.1 h2).1).trans h2⟩
          have H26 : Hid ((∀ m ∈ ls', FRow (w4.alloc (.cells #[.string nm, .slice fa fs.length fc, .string vl] 39)) m.a m.fs ∧ ∀ x, m.a = some x → w3.heap.size ≤ x.block ∧ ∃ cs, (w4.alloc (.cells #[.string nm, .slice fa fs.length fc, .string vl] 39)).heap[x.block]? = some (.cells cs 65 (0, 0))) ∧ ls'.length = k ∧ (∀ (i : Nat) (m : Lm), ls'[i]? = some m → ∃ q, S[i]? = some q ∧ goodP q = some m.ln)) := ⟨o2, o3, o5⟩
          have HB6 : Hid (Below w3.heap.size w3 (w4.alloc (.cells #[.string nm, .slice fa fs.length fc, .string vl] 39))) := o6
          have HGQ : Hid (goodP q = some ⟨nums nm, numsP fs, nums vl⟩) := hgq
          have hsz5 : (w4.alloc (.cells #[.string nm, .slice fa fs.length fc, .string vl] 39)).heap.size = w4.heap.size + 1 := by simp
          have hw34 := HB4.out.size
          clear hln hsome good many hgq o1 o2 o3 o4 o5 o6 HJ4 HJ5 bad hb4
          go_wp2_with (at_builtin; refine wpList_append_own _ rfl (.tmp 69) (.tmp 71) 22 rfl w3.heap.size 39 j0 _ 3 56 Tryd.underlying22 hi hz0 hz1 hz2 rfl (by decide) (.slice av k cv) k _ rfl (own_keep HO1.out (keep _ _)) ⟨w4.heap.size + 1, 0, none⟩ 1 1 [.string nm, .slice fa fs.length fc, .string vl] rfl rfl ?a0 ?a4 ?a1 ?a2 ?a3 ?_)
          case a0 =>
            intro j u hu
            have q := cells_new (w4.alloc (.cells #[.string nm, .slice fa fs.length fc, .string vl] 39)) [.string nm, .slice fa fs.length fc, .string vl] 39 j u hu
            rwa [hsz5] at q
          case a4 => intro u hu; simp at hu; rcases hu with rfl | rfl | rfl <;> rfl
          case a1 => unfold maxLen; omega
          case a2 => omega
          case a3 => simp; omega
          intro v' w6 hown6 hgrow6 _
          have hk5 := keep (w4.alloc (.cells #[.string nm, .slice fa fs.length fc, .string vl] 39)) (.cells #[.string nm, .slice fa fs.length fc, .string vl] 39)
          have HJ6 : Hid (QJ w3 S (k + 1) v' w6) := by
            refine QJ.app (m := ⟨nm, vl, fa, fc, fs⟩) (own_keep HO1.out hk5) ?_ H26.out.2.1 (by have := HK4.out; omega) H26.out.2.2 (HB6.out.trans (hk5.mono HB6.out.size)) HQ1.out HGQ.out hown6 hgrow6
            intro m' hm'
            have key : FRow (w4.alloc (.cells #[.string nm, .slice fa fs.length fc, .string vl] 39)) m'.a m'.fs ∧ ∀ x, m'.a = some x → w3.heap.size ≤ x.block ∧ ∃ cs, (w4.alloc (.cells #[.string nm, .slice fa fs.length fc, .string vl] 39)).heap[x.block]? = some (.cells cs 65 (0, 0)) := by
              rcases List.mem_append.1 hm' with h | h
              · exact H26.out.1 m' h
              · simp at h; subst h; exact HFR.out
            refine ⟨key.1.below hk5, fun x hx => ⟨(key.2 x hx).1, ?_⟩⟩
            obtain ⟨cs, hcs⟩ := (key.2 x hx).2
            exact ⟨cs, (hk5.block _ (Array.getElem?_eq_some_iff.1 hcs).1).trans hcs⟩
          clear hown6 hgrow6
          go_wp2
          go_roundw
          case rel => exact ⟨k + 1, by go_num, by omega, HJ6.out⟩
          case measure => simp [intOf]; omega
    · have dl : decide ((k : Int) < (n : Int)) = false := by simp; omega
      have HRk : Hid (Blk wr w.heap.size #[.int .i64 0, .int .i64 0] 56) := HR3.out.below HBW.out HR3.out.lt
      have HBk : Hid (Below w.heap.size w wr) := HB3.out.trans (HBW.out.mono HB3.out.size)
      obtain ⟨d0, d1, g0, g1⟩ := two_facts HRk.out
      have HANS : Hid (∃ (a : Option Addr) (cap : Nat) (ls : List Lm), (.slice av k cv : Value) = .slice a ls.length cap ∧ LRow ((wr.setCell ⟨w.heap.size, 0, none⟩ (.int .i64 0)).setCell ⟨w.heap.size, 1, none⟩ (.int .i64 0)) a ls ∧ ROk l ls) := by
        obtain ⟨ls', o1, o2, o3, o4, o5, o6⟩ := HQ.out
        have hRlt := HR3.out.lt
        have o1' := own_set (f := w.heap.size) (o := 1) (u := .int .i64 0) hRlt (own_set (f := w.heap.size) (o := 0) (u := .int .i64 0) hRlt o1)
        obtain ⟨a', cap', e', hlr⟩ := ownM_view o1' (fun m hm => ((o2 m hm).1.blk (fun x hx => heap_setCell_other _ _ _ _ (by have := ((o2 m hm).2 x hx).1; simp; omega))).blk (fun x hx => heap_setCell_other _ _ _ _ (by have := ((o2 m hm).2 x hx).1; simp; omega)))
        refine ⟨a', cap', ls', e', hlr, by rw [HL.out]; omega, HV.out, ?_, by omega, by rw [HSS.out]; exact o5⟩
        rw [← conv_len _ 0 0, ← lines_split _ _ 0 (Nat.le_refl _), HN.out]
        omega
      go_wp2
      refine rread_ret (p := 0) (code := 0) ?_ ?_ (.inr ⟨rfl, rfl, ?_⟩) rfl rfl rfl
      · exact blk_set2 HRk.out
      · exact (HBk.out.setCell (p := ⟨w.heap.size, 0, none⟩) (Nat.le_refl _) _).setCell (p := ⟨w.heap.size, 1, none⟩) (Nat.le_refl _) _
      · exact HANS.out
end Go.Proofs.YtenclgnkogmgiaaDoor
namespace Go.Proofs.YtenclgnkogmgiaaDoor
open Go.RowKit
set_option linter.unusedVariables false

theorem good_ne {q : List Int} (h : (goodP q).isSome = true) : q ≠ [] := by
  rintro rfl
  revert h
  decide
theorem rf_rf {l : List Int} {p p' : Nat} {c c' : Int} (h : RF l p c) (h' : RF l p' c') : p = p' ∧ c = c' := by
  rcases h with ⟨h1, rfl, rfl⟩ | ⟨h1, ps, r, a1, a2, a3, a4, a5, rfl, rfl⟩ | ⟨h1, ⟨ps, v1, v2⟩, k, q, b1, b2, b3, b4, rfl, b5⟩
  · rcases h' with ⟨g1, rfl, rfl⟩ | ⟨g1, _⟩ | ⟨g1, _⟩
    · exact ⟨rfl, rfl⟩
    · omega
    · omega
  · rcases h' with ⟨g1, rfl, rfl⟩ | ⟨g1, ps', r', d1, d2, d3, d4, d5, rfl, rfl⟩ | ⟨g1, ⟨ps', d1, d2⟩, _⟩
    · omega
    · have := Ut.split_one a1 d1 a4 d4 (by rw [← a3, d3])
      rw [this.1]; exact ⟨rfl, rfl⟩
    · have := Ut.split_one a1 d1 a4 (show Ut.decZ [] = none from rfl) (by rw [← a3, d2, List.append_nil])
      exact absurd this.2 a5
  · rcases h' with ⟨g1, rfl, rfl⟩ | ⟨g1, ps', r', d1, d2, d3, d4, d5, rfl, rfl⟩ | ⟨g1, _, k', q', d1, d2, d3, d4, rfl, d5⟩
    · omega
    · have := Ut.split_one d1 v1 d4 (show Ut.decZ [] = none from rfl) (by rw [← d3, v2, List.append_nil])
      exact absurd this.2 d5
    · have key : ∀ {k k' : Nat} {q q' : List Int}, (splitP (unfoldZ l).length (unfoldZ l))[k]? = some q → (∀ i r, i < k' → (splitP (unfoldZ l).length (unfoldZ l))[i]? = some r → (goodP r).isSome = true) → k' ≤ 4096 → ((goodP q = none ∧ c = 90) ∨ ((goodP q).isSome = true ∧ k = 4096 ∧ c = 2)) → ¬ k < k' := by
        intro k k' q q' e1 e2 e3 e4 hlt
        have := e2 k q hlt e1
        rcases e4 with ⟨e4, _⟩ | ⟨_, e4, _⟩
        · rw [e4] at this; cases this
        · omega
      have key' : ∀ {k k' : Nat} {q q' : List Int}, (splitP (unfoldZ l).length (unfoldZ l))[k]? = some q → (∀ i r, i < k' → (splitP (unfoldZ l).length (unfoldZ l))[i]? = some r → (goodP r).isSome = true) → k' ≤ 4096 → ((goodP q = none ∧ c' = 90) ∨ ((goodP q).isSome = true ∧ k = 4096 ∧ c' = 2)) → ¬ k < k' := by
        intro k k' q q' e1 e2 e3 e4 hlt
        have := e2 k q hlt e1
        rcases e4 with ⟨e4, _⟩ | ⟨_, e4, _⟩
        · rw [e4] at this; cases this
        · omega
      have n1 := key (q' := q') b1 d3 d4 b5
      have n2 := key' (q' := q) d1 b3 b4 d5
      obtain rfl : k = k' := by omega
      rw [b1] at d1
      cases d1
      refine ⟨rfl, ?_⟩
      rcases b5 with ⟨e, rfl⟩ | ⟨e, _, rfl⟩ <;> rcases d5 with ⟨f, rfl⟩ | ⟨f, _, rfl⟩
      · rfl
      · rw [e] at f; cases f
      · rw [f] at e; cases e
      · rfl
theorem rf_rok {l : List Int} {p : Nat} {c : Int} {ls : List Lm} (h : RF l p c) (h' : ROk l ls) : False := by
  obtain ⟨g1, ⟨qs, g2, g3⟩, g4, g5, g6⟩ := h'
  rcases h with ⟨h1, _, _⟩ | ⟨_, ps, r, a1, a2, a3, a4, a5, _, _⟩ | ⟨_, _, k, q, b1, b2, b3, b4, _, b5⟩
  · omega
  · have := Ut.split_one a1 g2 a4 (show Ut.decZ [] = none from rfl) (by rw [← a3, g3, List.append_nil])
    exact a5 this.2
  · have hk : k < ls.length := by
      rw [g4]
      have := linesV_at (splitP (unfoldZ l).length (unfoldZ l)) 0 k q b1 (fun i r hi hr => good_ne (b3 i r hi hr)) b2
      exact (List.getElem?_eq_some_iff.1 this).1
    obtain ⟨q', e1, e2⟩ := g6 k ls[k] (List.getElem?_eq_getElem hk)
    rw [b1] at e1
    cases e1
    rcases b5 with ⟨b5, _⟩ | ⟨_, b5, _⟩
    · rw [e2] at b5; cases b5
    · omega
theorem ln_inj {m m' : Lm} (e : m'.ln = m.ln) : m'.nm = m.nm ∧ m'.vl = m.vl ∧ m'.fs = m.fs := by
  unfold Lm.ln at e
  injection e with e1 e2 e3
  exact ⟨nums_inj e1, nums_inj e3, numsP_inj e2⟩
theorem rok_rok {l : List Int} {ls ks : List Lm} (h : ROk l ls) (h' : ROk l ks) : SameL ls ks := by
  obtain ⟨_, _, g4, _, g6⟩ := h
  obtain ⟨_, _, d4, _, d6⟩ := h'
  refine ⟨by rw [g4, d4], fun i m m' hm hm' => ?_⟩
  obtain ⟨q, h1, h2⟩ := g6 i m hm
  obtain ⟨q', h3, h4⟩ := d6 i m' hm'
  rw [h1] at h3
  cases h3
  rw [h2] at h4
  exact ln_inj (Option.some.inj h4).symm
theorem both_read {l : List Int} {w1 w2 : World} {v1 v2 : Value} {p1 p2 : Nat} {c1 c2 : Int}
    (h1 : (RF l p1 c1 ∧ v1 = .slice none 0 0) ∨ (p1 = 0 ∧ c1 = 0 ∧ ∃ (a : Option Addr) (cap : Nat) (ls : List Lm), v1 = .slice a ls.length cap ∧ LRow w1 a ls ∧ ROk l ls))
    (h2 : (RF l p2 c2 ∧ v2 = .slice none 0 0) ∨ (p2 = 0 ∧ c2 = 0 ∧ ∃ (a : Option Addr) (cap : Nat) (ls : List Lm), v2 = .slice a ls.length cap ∧ LRow w2 a ls ∧ ROk l ls)) :
    p1 = p2 ∧ c1 = c2 ∧ ∃ (a b : Option Addr) (n k ca cb : Nat) (ls ks : List Lm), v1 = .slice a n ca ∧ v2 = .slice b k cb ∧ ls.length = n ∧ ks.length = k ∧ n ≤ 5000 ∧ (∀ m ∈ ls, m.fs.length ≤ 1000) ∧ LRow w1 a ls ∧ LRow w2 b ks ∧ SameL ls ks := by
  rcases h1 with ⟨f1, rfl⟩ | ⟨rfl, rfl, a, ca, ls, rfl, r1, o1⟩ <;> rcases h2 with ⟨f2, rfl⟩ | ⟨rfl, rfl, b, cb, ks, rfl, r2, o2⟩
  · obtain ⟨e1, e2⟩ := rf_rf f1 f2
    exact ⟨e1, e2, none, none, 0, 0, 0, 0, [], [], rfl, rfl, rfl, rfl, by omega, by simp, .inl rfl, .inl rfl, rfl, by simp⟩
  · exact (rf_rok f1 o2).elim
  · exact (rf_rok f2 o1).elim
  · refine ⟨rfl, rfl, a, b, _, _, ca, cb, ls, ks, rfl, rfl, rfl, rfl, by have := o1.2.2.2.1; omega, fun m hm => ?_, r1, r2, rok_rok o1 o2⟩
    have hall := (read_right o1).1
    exact (ok_fit (List.all_eq_true.1 hall m hm)).2.2.1
theorem both_one {x : Option Ln} {c c' : Int} {nm nm' vl vl' : ByteArray} {fs fs' : List (ByteArray × ByteArray)} {l : List Int} (hx : x = oneR l) (h : OAns x c nm vl fs) (h' : OAns x c' nm' vl' fs') : c' = c ∧ nm' = nm ∧ vl' = vl ∧ fs' = fs ∧ fs.length ≤ 1000 := by
  rcases h with ⟨h1, rfl⟩ | ⟨h1, rfl, rfl, rfl, rfl⟩ <;> rcases h' with ⟨g1, rfl⟩ | ⟨g1, rfl, rfl, rfl, rfl⟩
  · rw [h1] at g1
    have e := Option.some.inj g1
    injection e with e1 e2 e3
    refine ⟨rfl, (nums_inj e1).symm, (nums_inj e3).symm, (numsP_inj e2).symm, ?_⟩
    have hr := one_right (hx.symm.trans h1)
    have := (ok_fit (m := ⟨nm, vl, none, 0, fs⟩) hr).2.2.1
    exact this
  · rw [h1] at g1; cases g1
  · rw [h1] at g1; cases g1
  · exact ⟨rfl, rfl, rfl, rfl, by simp⟩
theorem one_row {W : World} {g : Nat} {nm vl : ByteArray} {a : Option Addr} {n c : Nat} {fs : List (ByteArray × ByteArray)} (h : Blk W g #[.string nm, .slice a n c, .string vl] 39) (hn : fs.length = n) (hf : FRow W a fs) : LRow W (some ⟨g, 0, none⟩) [⟨nm, vl, a, c, fs⟩] := by
  obtain ⟨c0, c1, c2, _⟩ := three_cells h
  subst hn
  refine .inr ⟨g, 0, rfl, fun i m hi => ?_⟩
  cases i with
  | zero =>
    simp at hi
    subst hi
    exact ⟨⟨by simpa using c0, by simpa using c1, by simpa using c2⟩, hf⟩
  | succ i => simp at hi
end Go.Proofs.YtenclgnkogmgiaaDoor
