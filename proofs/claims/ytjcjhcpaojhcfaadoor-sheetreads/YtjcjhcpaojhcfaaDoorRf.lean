/-
  The document's One.
-/
import Derived.Test.YtjcjhcpaojhcfaaDoorRx
namespace Go.Proofs.YtjcjhcpaojhcfaaDoor
open Go.RowKit
set_option linter.unusedVariables false

def tl (f : Int → Bool) (l : List Int) (p : Nat) : Nat := ((l.drop p).takeWhile f).length
theorem dw_drop (f : Int → Bool) (l : List Int) (p : Nat) : (l.drop p).dropWhile f = l.drop (p + tl f l p) := by
  have key : ∀ x : List Int, x.dropWhile f = x.drop (x.takeWhile f).length := by
    intro x
    have h := List.takeWhile_append_dropWhile (p := f) (l := x)
    exact (List.drop_left' (l₁ := x.takeWhile f) (l₂ := x.dropWhile f) rfl).symm.trans (by rw [h])
  rw [key, List.drop_drop]; rfl
theorem tw_tk (f : Int → Bool) (l : List Int) (p : Nat) : (l.drop p).takeWhile f = (l.drop p).take (tl f l p) := by
  exact (tw_take f (l.drop p)).symm
theorem tl_le (f : Int → Bool) (l : List Int) (p : Nat) (h : p ≤ l.length) : p + tl f l p ≤ l.length := by
  have := tw_le f (l.drop p)
  rw [List.length_drop] at this
  unfold tl; omega
theorem pq_none {l : List Int} {p q : Nat} (hq : p + tl (fun c => !dl3 c) l p = q) (h : ∀ c, l[q]? = some c → c ≠ 61) : paramQ (l.drop p) = none := by
  unfold paramQ
  rw [dw_drop, hq, if_neg]
  intro hs
  have := sign_cons hs
  have h2 := congrArg (·[0]?) this
  simp only [List.getElem?_drop, List.getElem?_cons_zero, Nat.add_zero] at h2
  exact h 61 h2 rfl
theorem pq_some {l : List Int} {p q : Nat} (hq : p + tl (fun c => !dl3 c) l p = q) (h : l[q]? = some 61) : paramQ (l.drop p) = (valueQ (l.drop (q + 1))).map fun x => ((((l.drop p).take (q - p)).map largeZ, x.1), x.2) := by
  have hlt := (List.getElem?_eq_some_iff.1 h).1
  have he := (List.getElem?_eq_some_iff.1 h).2
  unfold paramQ
  rw [dw_drop, tw_tk, hq, if_pos, List.tail_drop, show tl (fun c => !dl3 c) l p = q - p by omega]
  rw [List.drop_eq_getElem_cons hlt, he]
  simp [signB]
theorem vq_none {l : List Int} {k e : Nat} (h : l[k]? = some 34) (he : k + 1 + tl (fun c => !decide (c = 34)) l (k + 1) = e) (hl : l.length ≤ e) : valueQ (l.drop k) = none := by
  have hlt := (List.getElem?_eq_some_iff.1 h).1
  have hx := (List.getElem?_eq_some_iff.1 h).2
  unfold valueQ
  rw [List.drop_eq_getElem_cons hlt, hx, if_pos (by simp [signB]), List.tail_cons, if_neg]
  intro hc
  rw [List.contains_iff_mem] at hc
  have h4 := tw_none (p := fun c => !decide (c = 34)) (l.drop (k + 1))
  have h5 : (l.drop (k + 1)).takeWhile (fun c => !decide (c = 34)) = l.drop (k + 1) := by
    rw [tw_tk, List.take_of_length_le (by rw [List.length_drop]; omega)]
  rw [h5] at h4
  have := List.all_eq_true.1 h4 34 hc
  simp at this
theorem tl_stop (f : Int → Bool) (l : List Int) (p : Nat) (h : p + tl f l p < l.length) : f (l[p + tl f l p]) = false := by
  have h2 := dw_drop f l p
  rw [List.drop_eq_getElem_cons h] at h2
  cases hf : f (l[p + tl f l p]) with
  | false => rfl
  | true =>
    exfalso
    have := List.head?_dropWhile_not f (l.drop p)
    rw [h2, List.head?_cons] at this
    simp only [hf] at this
    cases this
theorem vq_quot {l : List Int} {k e : Nat} (h : l[k]? = some 34) (he : k + 1 + tl (fun c => !decide (c = 34)) l (k + 1) = e) (hl : e < l.length) : valueQ (l.drop k) = some ((l.drop (k + 1)).take (e - (k + 1)), l.drop (e + 1)) := by
  have hlt := (List.getElem?_eq_some_iff.1 h).1
  have hx := (List.getElem?_eq_some_iff.1 h).2
  have hst := tl_stop (fun c => !decide (c = 34)) l (k + 1) (by omega)
  unfold valueQ
  rw [List.drop_eq_getElem_cons hlt, hx, if_pos (by simp [signB]), List.tail_cons, if_pos, dw_drop, tw_tk, he, List.tail_drop, show tl (fun c => !decide (c = 34)) l (k + 1) = e - (k + 1) by omega]
  rw [List.contains_iff_mem]
  have : l[k + 1 + tl (fun c => !decide (c = 34)) l (k + 1)]'(by omega) = 34 := by simpa using hst
  rw [← this]
  have hm : (l.drop (k + 1))[tl (fun c => !decide (c = 34)) l (k + 1)]'(by rw [List.length_drop]; omega) ∈ l.drop (k + 1) := List.getElem_mem _
  rwa [List.getElem_drop] at hm
theorem vq_plain {l : List Int} {k e : Nat} (h : ∀ c, l[k]? = some c → c ≠ 34) (he : k + tl (fun c => !mkQ c) l k = e) : valueQ (l.drop k) = some ((l.drop k).take (e - k), l.drop e) := by
  unfold valueQ
  rw [if_neg, dw_drop, tw_tk, he, show tl (fun c => !mkQ c) l k = e - k by omega]
  intro hs
  have h2 := congrArg (·[0]?) (sign_cons hs)
  simp only [List.getElem?_drop, List.getElem?_cons_zero, Nat.add_zero] at h2
  exact h 34 h2 rfl
theorem in2 : (fun c => !decide (c ∈ nums ⟨#[59, 58]⟩)) = fun c => !dl2 c := by
  funext c
  have e : nums ⟨#[59, 58]⟩ = [59, 58] := rfl
  rw [e]; unfold dl2; simp
theorem in3 : (fun c => !decide (c ∈ nums ⟨#[61, 59, 58]⟩)) = fun c => !dl3 c := by
  funext c
  have e : nums ⟨#[61, 59, 58]⟩ = [61, 59, 58] := rfl
  rw [e]; unfold dl3; simp
theorem in34 : (fun c => !decide (c ∈ nums ⟨#[34]⟩)) = fun c => !decide (c = 34) := by
  funext c
  have e : nums ⟨#[34]⟩ = [34] := rfl
  rw [e]; simp
theorem inQ : (fun c => !decide (c ∈ nums ⟨#[59, 58, 44, 34]⟩)) = fun c => !mkQ c := by
  funext c
  have e : nums ⟨#[59, 58, 44, 34]⟩ = [59, 58, 44, 34] := rfl
  rw [e]; unfold mkQ; simp
theorem place_at (s ends : ByteArray) (f : Int → Bool) (hf : (fun c => !decide (c ∈ nums ends)) = f) (x : Int) (p q : Nat) (w : World) (hx : x = (p : Nat)) (hs : s.size ≤ 1000000000) (he : ends.size ≤ 100) (hp : p ≤ s.size) (hq : p + tl f (nums s) p = q) :
    Calls Tryd.prog 26 #[.string s, .int .i64 x, .string ends] w fun e w' => e = .returned (.int .i64 (q : Nat)) ∧ w = w' := by
  subst hx hf hq
  exact place_any s ends p w hs he hp
theorem two_cells {W : World} {P : Nat} {x y : Value} {t : TypeId} (h : W.heap[P]? = some (.cells #[x, y] t (0, 0))) : W.cell? ⟨P, 0, none⟩ = some x ∧ W.cell? ⟨P, 1, none⟩ = some y := ⟨(cell_of_row _ _ 0 _ _ _ h).trans rfl, (cell_of_row _ _ 1 _ _ _ h).trans rfl⟩
/-- What is answered in block R, the bad line in block R + 1, the line in block K. -/
structure Oe (W : World) (R K : Nat) (nm vl : ByteArray) (vf : Value) (fs : List (ByteArray × ByteArray)) : Prop where
  res : W.heap[R]? = some (.cells #[.string ⟨#[]⟩, .slice none 0 0, .string ⟨#[]⟩] 32 (0, 0))
  bad : W.heap[R + 1]? = some (.cells #[.string ⟨#[]⟩, .slice none 0 0, .string ⟨#[]⟩] 32 (0, 0))
  line : W.heap[K]? = some (.cells #[.string nm, vf, .string vl] 32 (0, 0))
  own : OwnF W (K + 1) vf fs
  RK : R + 1 < K
theorem Oe.lt {W : World} {R K : Nat} {nm vl : ByteArray} {vf : Value} {fs : List (ByteArray × ByteArray)} (h : Oe W R K nm vl vf fs) : K < W.heap.size := (Array.getElem?_eq_some_iff.1 h.line).1
theorem Oe.below {W W' : World} {R K : Nat} {nm vl : ByteArray} {vf : Value} {fs : List (ByteArray × ByteArray)} (h : Oe W R K nm vl vf fs) (hb : Below W.heap.size W W') : Oe W' R K nm vl vf fs := by
  have h1 := h.RK
  have h3 := h.lt
  exact ⟨(hb.block R (by omega)).trans h.res, (hb.block (R + 1) (by omega)).trans h.bad, (hb.block K h3).trans h.line, own_keep h.own hb, h1⟩
theorem Oe.app {W W' : World} {R K : Nat} {nm vl : ByteArray} {vf v' : Value} {fs fs' : List (ByteArray × ByteArray)} (h : Oe W R K nm vl vf fs) (hg : W.grownBy W' vf.ownBlock) (ho : OwnF W' (K + 1) v' fs') : Oe (W'.setCell ⟨K, 1, none⟩ v') R K nm vl v' fs' := by
  have h1 := h.RK
  have h3 := h.lt
  have ek : W'.heap[K]? = some (.cells #[.string nm, vf, .string vl] 32 (0, 0)) := (hg.block K h3 (ne_type h.own h.line (by decide))).trans h.line
  have er : W'.heap[R]? = some (.cells #[.string ⟨#[]⟩, .slice none 0 0, .string ⟨#[]⟩] 32 (0, 0)) := (hg.block R (by omega) (ne_type h.own h.res (by decide))).trans h.res
  have eb : W'.heap[R + 1]? = some (.cells #[.string ⟨#[]⟩, .slice none 0 0, .string ⟨#[]⟩] 32 (0, 0)) := (hg.block (R + 1) (by omega) (ne_type h.own h.bad (by decide))).trans h.bad
  exact ⟨(heap_setCell_other _ _ _ _ (by simp; omega)).trans er, (heap_setCell_other _ _ _ _ (by simp; omega)).trans eb, heap_setCell_same _ _ 1 _ 32 _ ek, own_set (by omega) ho, h1⟩
theorem Oe.set2 {W : World} {R K : Nat} {nm vl : ByteArray} {vf : Value} {fs : List (ByteArray × ByteArray)} (h : Oe W R K nm vl vf fs) (x : ByteArray) : Oe (W.setCell ⟨K, 2, none⟩ (.string x)) R K nm x vf fs := by
  have h1 := h.RK
  exact ⟨(heap_setCell_other _ _ _ _ (by simp; omega)).trans h.res, (heap_setCell_other _ _ _ _ (by simp; omega)).trans h.bad, heap_setCell_same _ _ 2 _ 32 _ h.line, own_set (by omega) h.own, h1⟩
theorem three_cells {W : World} {K : Nat} {x y z : Value} {t : TypeId} (h : W.heap[K]? = some (.cells #[x, y, z] t (0, 0))) : W.cell? ⟨K, 0, none⟩ = some x ∧ W.cell? ⟨K, 1, none⟩ = some y ∧ W.cell? ⟨K, 2, none⟩ = some z ∧ W.frozen? ⟨K, 0, none⟩ = false ∧ W.frozen? ⟨K, 1, none⟩ = false ∧ W.frozen? ⟨K, 2, none⟩ = false :=
  ⟨(cell_of_row _ _ 0 _ _ _ h).trans rfl, (cell_of_row _ _ 1 _ _ _ h).trans rfl, (cell_of_row _ _ 2 _ _ _ h).trans rfl, frozen_of_row _ _ _ _ _ h, frozen_of_row _ _ _ _ _ h, frozen_of_row _ _ _ _ _ h⟩
def SmG (fs : List (ByteArray × ByteArray)) : Prop := ∀ f ∈ fs, f.1.size ≤ 2000000 ∧ f.2.size ≤ 2000000
theorem SmG.small {fs : List (ByteArray × ByteArray)} (h : SmG fs) : SmallF fs := fun f hf => by have := h f hf; exact ⟨by omega, by omega⟩
theorem rone_fin {w W : World} {R K : Nat} {nm vl : ByteArray} {vf : Value} {fs : List (ByteArray × ByteArray)} {l : List Int} {A : Act} (h : Oe W R K nm vl vf fs) (hb : Below w.heap.size w W) (hR : w.heap.size ≤ R) (hz : Small nm ∧ Small vl ∧ SmallF fs) (ha : oneR l = some ⟨nums nm, numsP fs, nums vl⟩)
    (hd : A.defers = []) (h2 : A.tmps[2]?.getD undef = .pointer (some ⟨R, 0, none⟩)) (h3 : A.tmps[3]?.getD undef = .int .i64 0) :
    bodyPost Tryd.prog Tryd.f10 (OPost w l) .ret A (finW W R nm vl vf) := by
  obtain ⟨c0, c1, c2⟩ := fin_cells (nm := nm) (vl := vl) (vf := vf) h.res
  have h1 := h.RK
  have hown3 := own_set (f := R) (o := 2) (u := .string vl) (by omega) (own_set (f := R) (o := 1) (u := vf) (by omega) (own_set (f := R) (o := 0) (u := .string nm) (by omega) h.own))
  obtain ⟨a, cap, e, hf⟩ := ownF_view hown3
  subst e
  have hbs : ∀ x, a = some x → w.heap.size ≤ x.block ∧ ∃ cs, (finW W R nm vl (.slice a fs.length cap)).heap[x.block]? = some (.cells cs 42 (0, 0)) := fun x hx => ⟨by have := ownF_base h.own x hx; omega, ownF_type hown3 x hx⟩
  refine bodyPost_ret (v := .tuple #[lineV nm vl a fs.length cap, .int .i64 0]) ?_ hd ⟨nm, vl, a, cap, fs, 0, rfl, .inl ⟨ha, rfl⟩, ⟨hf, hbs, hz⟩, fin_below hb hR⟩
  simp [results, Tryd.results10, go_sem, c0, c1, c2, h2, h3, lineV]
theorem rone_bad {w W : World} {R : Nat} {l : List Int} {A : Act} (h : W.heap[R]? = some (.cells #[.string ⟨#[]⟩, .slice none 0 0, .string ⟨#[]⟩] 32 (0, 0))) (hb : Below w.heap.size w W) (hR : w.heap.size ≤ R) (ha : oneR l = none)
    (hd : A.defers = []) (h2 : A.tmps[2]?.getD undef = .pointer (some ⟨R, 0, none⟩)) (h3 : A.tmps[3]?.getD undef = .int .i64 90) :
    bodyPost Tryd.prog Tryd.f10 (OPost w l) .ret A (finW W R ⟨#[]⟩ ⟨#[]⟩ (.slice none 0 0)) := by
  obtain ⟨c0, c1, c2⟩ := fin_cells (nm := ⟨#[]⟩) (vl := ⟨#[]⟩) (vf := .slice none 0 0) h
  refine bodyPost_ret (v := .tuple #[lineV ⟨#[]⟩ ⟨#[]⟩ none 0 0, .int .i64 90]) ?_ hd ⟨⟨#[]⟩, ⟨#[]⟩, none, 0, [], 90, rfl, .inr ⟨ha, rfl, rfl, rfl, rfl⟩, ⟨.inl rfl, (fun x hx => by cases hx), (show Small ⟨#[]⟩ by unfold Small; decide), (show Small ⟨#[]⟩ by unfold Small; decide), (fun f hf => by cases hf)⟩, fin_below hb hR⟩
  simp [results, Tryd.results10, go_sem, c0, c1, c2, h2, h3, lineV]
theorem oneQ_at (nm l : List Int) (m : Nat) (acc : List (List Int × List Int)) (p : Nat) (h : l[p]? = some 59) : oneF nm (parsQ (m + 1) acc (l.drop p)) = oneF nm (match paramQ (l.drop (p + 1)) with | none => none | some (x, r) => parsQ m (acc ++ [x]) r) := by
  have hlt := (List.getElem?_eq_some_iff.1 h).1
  have hx := (List.getElem?_eq_some_iff.1 h).2
  rw [List.drop_eq_getElem_cons hlt, hx, parsQ, if_pos (by simp [signB]), List.tail_cons]
  cases paramQ (l.drop (p + 1)) with
  | none => rfl
  | some y => rfl
theorem oneQ_out (nm l : List Int) (m : Nat) (acc : List (List Int × List Int)) (p : Nat) (h : ∀ c, l[p]? = some c → c ≠ 59) : oneF nm (parsQ (m + 1) acc (l.drop p)) = oneF nm (some (acc, l.drop p)) := by
  rw [parsQ, if_neg]
  intro hs
  have h2 := congrArg (·[0]?) (sign_cons hs)
  simp only [List.getElem?_drop, List.getElem?_cons_zero, Nat.add_zero] at h2
  exact h 59 h2 rfl
theorem oneQ_no (nm l : List Int) (acc : List (List Int × List Int)) (p : Nat) (h : ∀ c, l[p]? = some c → c ≠ 58) : oneF nm (some (acc, l.drop p)) = none := by
  unfold oneF
  simp only
  rw [if_neg]
  intro hs
  have h2 := congrArg (·[0]?) (sign_cons hs)
  simp only [List.getElem?_drop, List.getElem?_cons_zero, Nat.add_zero] at h2
  exact h 58 h2 rfl
theorem oneQ_yes (nm l : List Int) (acc : List (List Int × List Int)) (p : Nat) (h : l[p]? = some 58) : oneF nm (some (acc, l.drop p)) = if rightZ ⟨nm, acc, l.drop (p + 1)⟩ = true then some ⟨nm, acc, l.drop (p + 1)⟩ else none := by
  have hlt := (List.getElem?_eq_some_iff.1 h).1
  have hx := (List.getElem?_eq_some_iff.1 h).2
  unfold oneF
  simp only
  rw [if_pos (by rw [List.drop_eq_getElem_cons hlt, hx]; simp [signB]), List.tail_drop]
set_option maxHeartbeats 16000000 in
set_option maxRecDepth 100000 in
theorem rone_any (s : ByteArray) (w : World) (hs : s.size ≤ 2000000) : Calls Tryd.prog 10 #[.string s] w (OPost w (nums s)) := by
  obtain ⟨j0, hi, hz0, hz1, hz2⟩ := info_parts Tryd.info42
  have hln := nums_len s
  have HLN : Hid ((nums s).length = s.size) := hln
  obtain ⟨p0, hp0⟩ : ∃ p0, 0 + tl (fun c => !dl2 c) (nums s) 0 = p0 := ⟨_, rfl⟩
  have hp0s : p0 ≤ s.size := by rw [← hp0, ← hln]; exact tl_le _ _ _ (by omega)
  have HP0 : Hid (0 + tl (fun c => !dl2 c) (nums s) 0 = p0) := hp0
  clear hln hp0
  have k0 : (0 : Int) ≤ (p0 : Int) := by omega
  have k1 : (p0 : Int) ≤ (s.size : Int) := by omega
  go_enter Tryd.func10, Tryd.ntmps10
  go_wp2_with fail
  refine (place_at s ⟨#[59, 58]⟩ _ in2 0 0 p0 _ rfl (by omega) (by decide) (by omega) HP0.out).mono ?_
  rintro e wz ⟨rfl, rfl⟩
  go_wp2_with fail
  refine (rupper_any (s.extract 0 p0) _ (by simp; omega)).mono ?_
  rintro e w1 ⟨rfl, hb1⟩
  have hW1 : Below w.heap.size w w1 := ((keep w _).alloc (by simp) _).trans (hb1.mono (by simp; omega))
  have hsz1 : w.heap.size + 2 ≤ w1.heap.size := by have := hb1.size; simp at this; omega
  have hres1 : w1.heap[w.heap.size]? = some (.cells #[.string ⟨#[]⟩, .slice none 0 0, .string ⟨#[]⟩] 32 (0, 0)) := by
    rw [hb1.block _ (by simp; omega), Below.heap_alloc _ _ _ (by simp)]; exact heap_alloc_last w _
  have hbad1 : w1.heap[w.heap.size + 1]? = some (.cells #[.string ⟨#[]⟩, .slice none 0 0, .string ⟨#[]⟩] 32 (0, 0)) := by
    have := heap_alloc_last (w.alloc (.cells #[.string ⟨#[]⟩, .slice none 0 0, .string ⟨#[]⟩] 32)) (.cells #[.string ⟨#[]⟩, .slice none 0 0, .string ⟨#[]⟩] 32)
    rw [World.size_alloc] at this
    rw [hb1.block _ (by simp)]; exact this
  have hnm : (((nums s).takeWhile fun c => !dl2 c).map largeZ) = (nums (s.extract 0 p0)).map largeZ := by
    have h0 := tw_tk (fun c => !dl2 c) (nums s) 0
    have h1 := HP0.out
    rw [List.drop_zero] at h0
    rw [h0, nums_to, show tl (fun c => !dl2 c) (nums s) 0 = p0 by omega]
  have hnb : Byt ((nums (s.extract 0 p0)).map largeZ) := map_large_byt (nums_byt _)
  obtain ⟨nm, hnme⟩ : ∃ nm, strOfNums ((nums (s.extract 0 p0)).map largeZ) = nm := ⟨_, rfl⟩
  have hnn : nums nm = (nums (s.extract 0 p0)).map largeZ := by rw [← hnme, nums_str hnb]
  have hsn : nm.size ≤ s.size := by rw [← nums_len, hnn, List.length_map, nums_len]; simp; omega
  have HQ : Hid (oneR (nums s) = oneF (nums nm) (parsQ (s.size + 1) (numsP []) ((nums s).drop p0))) := by
    unfold Hid
    have h2 := dw_drop (fun c => !dl2 c) (nums s) 0
    rw [List.drop_zero, HP0.out] at h2
    rw [← one_eq, oneQ, hnm, ← hnn, h2, HLN.out]; rfl
  rw [hnme]
  have HOD : Hid (Oe (w1.alloc (.cells #[.string nm, .slice none 0 0, .string ⟨#[]⟩] 32)) w.heap.size w1.heap.size nm ⟨#[]⟩ (.slice none 0 0) []) :=
    ⟨(Below.heap_alloc w1 _ _ (by omega)).trans hres1, (Below.heap_alloc w1 _ _ (by omega)).trans hbad1, heap_alloc_last w1 _, ⟨rfl, .inl ⟨rfl, rfl⟩⟩, by omega⟩
  have HB : Hid (Below w.heap.size w (w1.alloc (.cells #[.string nm, .slice none 0 0, .string ⟨#[]⟩] 32))) := hW1.alloc hW1.size _
  clear hb1 hW1 hres1 hbad1 hnm hnb hnme hnn k0 k1 HP0
  go_wp2
  go_loopw [5, 7, 8, 9] (fun i _ _ _ wr => ∃ (p : Nat) (vf : Value) (fs : List (ByteArray × ByteArray)) (m : Nat), i = .int .i64 p ∧ p ≤ s.size ∧ Oe wr w.heap.size w1.heap.size nm ⟨#[]⟩ vf fs ∧ Below w.heap.size w wr ∧ oneR (nums s) = oneF (nums nm) (parsQ m (numsP fs) ((nums s).drop p)) ∧ s.size < p + m ∧ fs.length ≤ p ∧ SmG fs) (fun i _ _ _ _ => s.size - (intOf i).toNat)
  case atStart => exact ⟨p0, _, [], s.size + 1, rfl, hp0s, HOD.out, HB.out, HQ.out, by omega, by simp, by intro f hf; cases hf⟩
  case round =>
    clear HOD HB HQ hp0s
    obtain ⟨p, vf, fs, m, rfl, hp, hod, hb, hq, hm, hfl, hsf⟩ := hrel
    have HD : Hid (Oe wr w.heap.size w1.heap.size nm ⟨#[]⟩ vf fs) := hod
    have HB : Hid (Below w.heap.size w wr) := hb
    have HSF : Hid (SmG fs) := hsf
    obtain ⟨m', rfl⟩ : ∃ m', m = m' + 1 := ⟨m - 1, by omega⟩
    have HQ : Hid (oneR (nums s) = oneF (nums nm) (parsQ (m' + 1) (numsP fs) ((nums s).drop p))) := hq
    clear hod hb hq hsf
    obtain ⟨af, cap, rfl, hfr⟩ := ownF_view HD.out.own
    clear hfr
    have hlw := HD.out.lt
    by_cases hlt : p < s.size
    · have hat : (nums s)[p]? = some ((s[p]'hlt).toNat : Int) := nums_at s p hlt
      have dl : decide ((p : Int) < (s.size : Int)) = true := by simp; omega
      have gl : decide ((s.size : Int) ≤ (p : Int)) = false := by simp; omega
      obtain ⟨c, hc⟩ : ∃ c : Int, ((s[p]'hlt).toNat : Int) = c := ⟨_, rfl⟩
      rw [hc] at hat
      have HAT : Hid ((nums s)[p]? = some c) := hat
      clear hat
      by_cases h59 : c = 59
      · subst h59
        have HQ1 : Hid (oneR (nums s) = oneF (nums nm) (match paramQ ((nums s).drop (p + 1)) with | none => none | some (x, r) => parsQ m' (numsP fs ++ [x]) r)) := by
          unfold Hid; rw [HQ.out]; exact oneQ_at _ _ _ _ _ HAT.out
        clear HQ
        obtain ⟨q, hq⟩ : ∃ q, p + 1 + tl (fun c => !dl3 c) (nums s) (p + 1) = q := ⟨_, rfl⟩
        have hqs : q ≤ s.size := by rw [← hq, ← HLN.out]; exact tl_le _ _ _ (by rw [HLN.out]; omega)
        have hpq : p + 1 ≤ q := by omega
        have HPQ : Hid (p + 1 + tl (fun c => !dl3 c) (nums s) (p + 1) = q) := hq
        clear hq
        go_wp2_with fail
        refine (place_at s ⟨#[61, 59, 58]⟩ _ in3 _ (p + 1) q _ (by omega) (by omega) (by decide) (by omega) HPQ.out).mono ?_
        rintro e wz ⟨rfl, rfl⟩
        by_cases hql : q = s.size
        · have HN : Hid (oneR (nums s) = none) := by
            unfold Hid; rw [HQ1.out, pq_none HPQ.out (fun c h => by have := (List.getElem?_eq_some_iff.1 h).1; rw [HLN.out] at this; omega)]; rfl
          have e1 : ((q : Int) == (s.size : Int)) = true := by rw [hql]; simp
          clear hql HPQ
          obtain ⟨r0, r1, r2, f0, f1, f2⟩ := three_cells HD.out.res
          obtain ⟨g0, g1, g2, _, _, _⟩ := three_cells HD.out.bad
          go_wp2
          exact rone_bad HD.out.res HB.out (Nat.le_refl _) HN.out rfl rfl rfl
        · have hql' : q < s.size := by omega
          have e1 : ((q : Int) == (s.size : Int)) = false := by rw [beq_eq_false_iff_ne]; omega
          have hatq : (nums s)[q]? = some ((s[q]'hql').toNat : Int) := nums_at s q hql'
          obtain ⟨d, hd⟩ : ∃ d : Int, ((s[q]'hql').toNat : Int) = d := ⟨_, rfl⟩
          rw [hd] at hatq
          have HAQ : Hid ((nums s)[q]? = some d) := hatq
          have lq : decide ((q : Int) < (s.size : Int)) = true := by simp; omega
          clear hatq hql
          by_cases h61 : d = 61
          · subst h61
            have HQ2 : Hid (paramQ ((nums s).drop (p + 1)) = (valueQ ((nums s).drop (q + 1))).map fun x => (((((nums s).drop (p + 1)).take (q - (p + 1))).map largeZ, x.1), x.2)) := pq_some HPQ.out HAQ.out
            clear HPQ
            have k0 : (0 : Int) ≤ (p : Int) + 1 := by omega
            have k1 : (p : Int) + 1 ≤ (q : Int) := by omega
            have k2 : (q : Int) ≤ (s.size : Int) := by omega
            have k3 : ((p : Int) + 1).toNat = p + 1 := by omega
            have hxs : (s.extract (p + 1) q).size ≤ s.size := by simp; omega
            go_wp2_with fail
            refine (rupper_any (s.extract (p + 1) q) _ (by omega)).mono ?_
            rintro e w3 ⟨rfl, hb3⟩
            have hnx : nums (s.extract (p + 1) q) = ((nums s).drop (p + 1)).take (q - (p + 1)) := nums_extract s _ _
            obtain ⟨pn, hpne⟩ : ∃ pn, strOfNums ((nums (s.extract (p + 1) q)).map largeZ) = pn := ⟨_, rfl⟩
            have hpn : nums pn = (((nums s).drop (p + 1)).take (q - (p + 1))).map largeZ := by rw [← hpne, nums_str (map_large_byt (nums_byt _)), hnx]
            have hsp : pn.size ≤ s.size := by rw [← nums_len, hpn, List.length_map, ← hnx, nums_len]; exact hxs
            have HQ3 : Hid (paramQ ((nums s).drop (p + 1)) = (valueQ ((nums s).drop (q + 1))).map fun x => ((nums pn, x.1), x.2)) := by unfold Hid; rw [HQ2.out, hpn]
            rw [hpne]
            have HD3 : Hid (Oe w3 w.heap.size w1.heap.size nm ⟨#[]⟩ (.slice af fs.length cap) fs) := HD.out.below hb3
            have HB3 : Hid (Below w.heap.size w w3) := HB.out.trans (hb3.mono HB.out.size)
            have HDA : Hid (Oe (w3.alloc (.cells #[.string pn, .string ⟨#[]⟩] 42)) w.heap.size w1.heap.size nm ⟨#[]⟩ (.slice af fs.length cap) fs) := (HD.out.below hb3).below (keep w3 _)
            have HBA : Hid (Below w.heap.size w (w3.alloc (.cells #[.string pn, .string ⟨#[]⟩] 42))) := (HB.out.trans (hb3.mono HB.out.size)).alloc (by have := hb3.size; have := HB.out.size; omega) _
            have hl3 : w1.heap.size < w3.heap.size := by have := hb3.size; omega
            have HPA : Hid ((w3.alloc (.cells #[.string pn, .string ⟨#[]⟩] 42)).heap[w3.heap.size]? = some (.cells #[.string pn, .string ⟨#[]⟩] 42 (0, 0))) := heap_alloc_last w3 _
            have x1 : (w3.alloc (.cells #[.string pn, .string ⟨#[]⟩] 42)).cell? ⟨w3.heap.size, 1, none⟩ = some (.string ⟨#[]⟩) := (two_cells HPA.out).2
            have y1 : (w3.alloc (.cells #[.string pn, .string ⟨#[]⟩] 42)).frozen? ⟨w3.heap.size, 1, none⟩ = false := frozen_of_row _ _ _ _ _ HPA.out
            clear hnx hpne hpn HQ2 hb3 k0 k1 k2 k3 hxs HD HB
            by_cases hq1 : q + 1 < s.size
            · have hatk : (nums s)[q + 1]? = some ((s[q + 1]'hq1).toNat : Int) := nums_at s (q + 1) hq1
              obtain ⟨u, hu⟩ : ∃ u : Int, ((s[q + 1]'hq1).toNat : Int) = u := ⟨_, rfl⟩
              rw [hu] at hatk
              have HAK : Hid ((nums s)[q + 1]? = some u) := hatk
              have lk : decide ((q : Int) + 1 < (s.size : Int)) = true := by simp; omega
              have j0' : (0 : Int) ≤ (q : Int) + 1 := by omega
              have j3' : ((q : Int) + 1).toNat = q + 1 := by omega
              clear hatk
              by_cases h34 : u = 34
              · subst h34
                obtain ⟨ee, hee⟩ : ∃ ee, q + 2 + tl (fun c => !decide (c = 34)) (nums s) (q + 2) = ee := ⟨_, rfl⟩
                have hes : ee ≤ s.size := by rw [← hee, ← HLN.out]; exact tl_le _ _ _ (by rw [HLN.out]; omega)
                have heq : q + 2 ≤ ee := by omega
                have HEE : Hid (q + 1 + 1 + tl (fun c => !decide (c = 34)) (nums s) (q + 1 + 1) = ee) := hee
                have HEE' : Hid (q + 2 + tl (fun c => !decide (c = 34)) (nums s) (q + 2) = ee) := hee
                clear hee
                by_cases hel : ee = s.size
                · have HN : Hid (oneR (nums s) = none) := by
                    unfold Hid; rw [HQ1.out, HQ3.out, vq_none HAK.out HEE.out (by rw [HLN.out]; omega)]; rfl
                  have e5 : ((ee : Int) == (s.size : Int)) = true := by rw [hel]; simp
                  obtain ⟨r0, r1, r2, f0, f1, f2⟩ := three_cells HDA.out.res
                  obtain ⟨g0, g1, g2, _, _, _⟩ := three_cells HDA.out.bad
                  clear hel
                  go_wp2_with (go_at_call 26; refine (place_at s ⟨#[34]⟩ _ in34 _ (q + 2) ee _ (by omega) (by omega) (by decide) (by omega) HEE'.out).mono ?_; rintro e wz ⟨rfl, rfl⟩)
                  exact rone_bad HDA.out.res HBA.out (Nat.le_refl _) HN.out rfl rfl rfl
                · have e5 : ((ee : Int) == (s.size : Int)) = false := by rw [beq_eq_false_iff_ne]; omega
                  have k0 : (0 : Int) ≤ (q : Int) + 2 := by omega
                  have k1 : (q : Int) + 2 ≤ (ee : Int) := by omega
                  have k2 : (ee : Int) ≤ (s.size : Int) := by omega
                  have k3 : ((q : Int) + 2).toNat = q + 2 := by omega
                  obtain ⟨pv, hpve⟩ : ∃ pv, s.extract (q + 2) ee = pv := ⟨_, rfl⟩
                  have hnv : nums pv = ((nums s).drop (q + 2)).take (ee - (q + 2)) := by rw [← hpve]; exact nums_extract s _ _
                  have hsv : pv.size ≤ s.size := by rw [← hpve]; simp; omega
                  obtain ⟨r, hr⟩ : ∃ r, ee + 1 = r := ⟨_, rfl⟩
                  have HQ4 : Hid (oneR (nums s) = oneF (nums nm) (parsQ m' (numsP fs ++ [(nums pn, nums pv)]) ((nums s).drop r))) := by
                    unfold Hid; rw [HQ1.out, HQ3.out, vq_quot HAK.out HEE.out (by rw [HLN.out]; omega), hnv, ← hr]; rfl
                  clear hnv HQ1 HQ3
                  have HDS : Hid (Oe (w3.alloc (.cells #[.string pn, .string pv] 42)) w.heap.size w1.heap.size nm ⟨#[]⟩ (.slice af fs.length cap) fs) := HD3.out.below (keep w3 _)
                  have HBS : Hid (Below w.heap.size w (w3.alloc (.cells #[.string pn, .string pv] 42))) := HB3.out.alloc HB3.out.size _
                  have HPS : Hid ((w3.alloc (.cells #[.string pn, .string pv] 42)).heap[w3.heap.size]? = some (.cells #[.string pn, .string pv] 42 (0, 0))) := heap_alloc_last w3 _
                  obtain ⟨pc0, pc1⟩ := two_cells HPS.out
                  obtain ⟨_, x2, _, _, _, _⟩ := three_cells HDS.out.line
                  have hlen : (fs ++ [(pn, pv)]).length = fs.length + 1 := by simp
                  have HP : Hid (oneR (nums s) = oneF (nums nm) (parsQ m' (numsP (fs ++ [(pn, pv)])) ((nums s).drop r))) := by
                    unfold Hid; rw [HQ4.out]; simp [numsP]
                  clear HQ4
                  go_wp2_with fail
                  refine (place_at s ⟨#[34]⟩ _ in34 _ (q + 2) ee _ (by omega) (by omega) (by decide) (by omega) HEE'.out).mono ?_
                  rintro e wz ⟨rfl, rfl⟩
                  go_wp2_with (at_builtin; refine wpList_append_own _ rfl (.tmp 90) (.tmp 92) 30 rfl (w1.heap.size + 1) 42 j0 _ 2 32 Tryd.underlying30 hi hz0 hz1 hz2 rfl (by decide) _ _ _ rfl (own_keep HDS.out.own (keep _ _)) ⟨w3.heap.size + 1, 0, none⟩ 1 1 (cellF (pn, pv)) rfl rfl ?a0 ?a4 ?a1 ?a2 ?a3 ?_)
                  case a0 =>
                    intro j u hu
                    have q := cell_two_new (w3.alloc (.cells #[.string pn, .string pv] 42)) (.string pn) (.string pv) 42 j u hu
                    rwa [show (w3.alloc (.cells #[.string pn, .string pv] 42)).heap.size = w3.heap.size + 1 from by simp] at q
                  case a4 => intro u hu; simp [cellF] at hu; rcases hu with rfl | rfl <;> rfl
                  case a1 => unfold maxLen; omega
                  case a2 => omega
                  case a3 => simp; omega
                  intro v' w12 hown12 hgrow12 _
                  have hO12 : OwnF w12 (w1.heap.size + 1) v' (fs ++ [(pn, pv)]) := by
                    unfold OwnF; rw [hlen, List.flatMap_append]; simpa using hown12
                  have hDb := HDS.out.below (keep (w3.alloc (.cells #[.string pn, .string pv] 42)) (.cells #[.string pn, .string pv] 42))
                  have hD12 := hDb.app hgrow12 hO12
                  have hBb : Below w.heap.size w ((w3.alloc (.cells #[.string pn, .string pv] 42)).alloc (.cells #[.string pn, .string pv] 42)) := HBS.out.alloc HBS.out.size _
                  have hB12 : Below w.heap.size w (w12.setCell ⟨w1.heap.size, 1, none⟩ v') :=
                    (hBb.grown hgrow12 hBb.size (fun j hj => by have := (hDb.own.lt j hj).1; omega)).setCell (p := ⟨w1.heap.size, 1, none⟩) (by simp; omega) _
                  have e12 : w12.heap[w1.heap.size]? = some (.cells #[.string nm, .slice af fs.length cap, .string ⟨#[]⟩] 32 (0, 0)) := (hgrow12.block _ hDb.lt (ne_type hDb.own hDb.line (by decide))).trans hDb.line
                  obtain ⟨a12, cap12, hv12, _⟩ := ownF_view hO12
                  rw [hlen] at hv12
                  subst hv12
                  have HD12 : Hid (Oe (w12.setCell ⟨w1.heap.size, 1, none⟩ (.slice a12 (fs.length + 1) cap12)) w.heap.size w1.heap.size nm ⟨#[]⟩ (.slice a12 (fs.length + 1) cap12) (fs ++ [(pn, pv)])) := hD12
                  have HB12 : Hid (Below w.heap.size w (w12.setCell ⟨w1.heap.size, 1, none⟩ (.slice a12 (fs.length + 1) cap12))) := hB12
                  have y12 : w12.cell? ⟨w1.heap.size, 1, none⟩ = some (.slice af fs.length cap) := by rw [cell_of_row _ _ _ _ _ _ e12]; rfl
                  have z1 : w12.frozen? ⟨w1.heap.size, 1, none⟩ = false := frozen_of_row _ _ _ _ _ e12
                  clear hown12 hgrow12 hO12 hDb hD12 hB12 hBb e12 x2 HD3 HB3 pc0 pc1 HDS HBS HPS HDA HBA HPA x1
                  go_wp2
                  go_roundw
                  case rel =>
                    refine ⟨r, _, fs ++ [(pn, pv)], m', by go_num, by omega, HD12.out, HB12.out, HP.out, by omega, by rw [hlen]; omega, ?_⟩
                    intro f hf
                    rcases List.mem_append.1 hf with q | q
                    · exact HSF.out f q
                    · simp at q; subst q; exact ⟨by simp; omega, by simp; omega⟩
                  case measure => simp [intOf]; omega
              · have e4 : (u == 34) = false := by rw [beq_eq_false_iff_ne]; exact h34
                have HNQ : Hid (∀ c, (nums s)[q + 1]? = some c → c ≠ 34) := fun c h => by rw [HAK.out] at h; cases h; exact h34
                clear h34
                obtain ⟨r, hr⟩ : ∃ r, q + 1 + tl (fun c => !mkQ c) (nums s) (q + 1) = r := ⟨_, rfl⟩
                have hrs : r ≤ s.size := by rw [← hr, ← HLN.out]; exact tl_le _ _ _ (by rw [HLN.out]; omega)
                have hrq : q + 1 ≤ r := by omega
                have HR : Hid (q + 1 + tl (fun c => !mkQ c) (nums s) (q + 1) = r) := hr
                clear hr
                have k0 : (0 : Int) ≤ (q : Int) + 1 := by omega
                have k1 : (q : Int) + 1 ≤ (r : Int) := by omega
                have k2 : (r : Int) ≤ (s.size : Int) := by omega
                have k3 : ((q : Int) + 1).toNat = q + 1 := by omega
                obtain ⟨pv, hpve⟩ : ∃ pv, s.extract (q + 1) r = pv := ⟨_, rfl⟩
                have hnv : nums pv = ((nums s).drop (q + 1)).take (r - (q + 1)) := by rw [← hpve]; exact nums_extract s _ _
                have hsv : pv.size ≤ s.size := by rw [← hpve]; simp; omega
                have HQ4 : Hid (oneR (nums s) = oneF (nums nm) (parsQ m' (numsP fs ++ [(nums pn, nums pv)]) ((nums s).drop r))) := by
                  unfold Hid; rw [HQ1.out, HQ3.out, vq_plain HNQ.out HR.out, hnv]; rfl
                clear hnv HQ1 HQ3
                have HDS : Hid (Oe (w3.alloc (.cells #[.string pn, .string pv] 42)) w.heap.size w1.heap.size nm ⟨#[]⟩ (.slice af fs.length cap) fs) := HD3.out.below (keep w3 _)
                have HBS : Hid (Below w.heap.size w (w3.alloc (.cells #[.string pn, .string pv] 42))) := HB3.out.alloc HB3.out.size _
                have HPS : Hid ((w3.alloc (.cells #[.string pn, .string pv] 42)).heap[w3.heap.size]? = some (.cells #[.string pn, .string pv] 42 (0, 0))) := heap_alloc_last w3 _
                obtain ⟨pc0, pc1⟩ := two_cells HPS.out
                obtain ⟨_, x2, _, _, _, _⟩ := three_cells HDS.out.line
                have hlen : (fs ++ [(pn, pv)]).length = fs.length + 1 := by simp
                have HP : Hid (oneR (nums s) = oneF (nums nm) (parsQ m' (numsP (fs ++ [(pn, pv)])) ((nums s).drop r))) := by
                  unfold Hid; rw [HQ4.out]; simp [numsP]
                clear HQ4
                go_wp2_with fail
                refine (place_at s ⟨#[59, 58, 44, 34]⟩ _ inQ _ (q + 1) r _ (by omega) (by omega) (by decide) (by omega) HR.out).mono ?_
                rintro e wz ⟨rfl, rfl⟩
                go_wp2_with (at_builtin; refine wpList_append_own _ rfl (.tmp 90) (.tmp 92) 30 rfl (w1.heap.size + 1) 42 j0 _ 2 32 Tryd.underlying30 hi hz0 hz1 hz2 rfl (by decide) _ _ _ rfl (own_keep HDS.out.own (keep _ _)) ⟨w3.heap.size + 1, 0, none⟩ 1 1 (cellF (pn, pv)) rfl rfl ?a0 ?a4 ?a1 ?a2 ?a3 ?_)
                case a0 =>
                  intro j u hu
                  have q := cell_two_new (w3.alloc (.cells #[.string pn, .string pv] 42)) (.string pn) (.string pv) 42 j u hu
                  rwa [show (w3.alloc (.cells #[.string pn, .string pv] 42)).heap.size = w3.heap.size + 1 from by simp] at q
                case a4 => intro u hu; simp [cellF] at hu; rcases hu with rfl | rfl <;> rfl
                case a1 => unfold maxLen; omega
                case a2 => omega
                case a3 => simp; omega
                intro v' w12 hown12 hgrow12 _
                have hO12 : OwnF w12 (w1.heap.size + 1) v' (fs ++ [(pn, pv)]) := by
                  unfold OwnF; rw [hlen, List.flatMap_append]; simpa using hown12
                have hDb := HDS.out.below (keep (w3.alloc (.cells #[.string pn, .string pv] 42)) (.cells #[.string pn, .string pv] 42))
                have hD12 := hDb.app hgrow12 hO12
                have hBb : Below w.heap.size w ((w3.alloc (.cells #[.string pn, .string pv] 42)).alloc (.cells #[.string pn, .string pv] 42)) := HBS.out.alloc HBS.out.size _
                have hB12 : Below w.heap.size w (w12.setCell ⟨w1.heap.size, 1, none⟩ v') :=
                  (hBb.grown hgrow12 hBb.size (fun j hj => by have := (hDb.own.lt j hj).1; omega)).setCell (p := ⟨w1.heap.size, 1, none⟩) (by simp; omega) _
                have e12 : w12.heap[w1.heap.size]? = some (.cells #[.string nm, .slice af fs.length cap, .string ⟨#[]⟩] 32 (0, 0)) := (hgrow12.block _ hDb.lt (ne_type hDb.own hDb.line (by decide))).trans hDb.line
                obtain ⟨a12, cap12, hv12, _⟩ := ownF_view hO12
                rw [hlen] at hv12
                subst hv12
                have HD12 : Hid (Oe (w12.setCell ⟨w1.heap.size, 1, none⟩ (.slice a12 (fs.length + 1) cap12)) w.heap.size w1.heap.size nm ⟨#[]⟩ (.slice a12 (fs.length + 1) cap12) (fs ++ [(pn, pv)])) := hD12
                have HB12 : Hid (Below w.heap.size w (w12.setCell ⟨w1.heap.size, 1, none⟩ (.slice a12 (fs.length + 1) cap12))) := hB12
                have y12 : w12.cell? ⟨w1.heap.size, 1, none⟩ = some (.slice af fs.length cap) := by rw [cell_of_row _ _ _ _ _ _ e12]; rfl
                have z1 : w12.frozen? ⟨w1.heap.size, 1, none⟩ = false := frozen_of_row _ _ _ _ _ e12
                clear hown12 hgrow12 hO12 hDb hD12 hB12 hBb e12 x2 HD3 HB3 pc0 pc1 HDS HBS HPS HDA HBA HPA x1
                go_wp2
                go_roundw
                case rel =>
                  refine ⟨r, _, fs ++ [(pn, pv)], m', by go_num, by omega, HD12.out, HB12.out, HP.out, by omega, by rw [hlen]; omega, ?_⟩
                  intro f hf
                  rcases List.mem_append.1 hf with q | q
                  · exact HSF.out f q
                  · simp at q; subst q; exact ⟨by simp; omega, by simp; omega⟩
                case measure => simp [intOf]; omega
            · have lk : decide ((q : Int) + 1 < (s.size : Int)) = false := by simp; omega
              have HNQ : Hid (∀ c, (nums s)[q + 1]? = some c → c ≠ 34) := fun c h => by have := (List.getElem?_eq_some_iff.1 h).1; rw [HLN.out] at this; omega
              obtain ⟨r, hr⟩ : ∃ r, q + 1 + tl (fun c => !mkQ c) (nums s) (q + 1) = r := ⟨_, rfl⟩
              have hrs : r ≤ s.size := by rw [← hr, ← HLN.out]; exact tl_le _ _ _ (by rw [HLN.out]; omega)
              have hrq : q + 1 ≤ r := by omega
              have HR : Hid (q + 1 + tl (fun c => !mkQ c) (nums s) (q + 1) = r) := hr
              clear hr
              have k0 : (0 : Int) ≤ (q : Int) + 1 := by omega
              have k1 : (q : Int) + 1 ≤ (r : Int) := by omega
              have k2 : (r : Int) ≤ (s.size : Int) := by omega
              have k3 : ((q : Int) + 1).toNat = q + 1 := by omega
              obtain ⟨pv, hpve⟩ : ∃ pv, s.extract (q + 1) r = pv := ⟨_, rfl⟩
              have hnv : nums pv = ((nums s).drop (q + 1)).take (r - (q + 1)) := by rw [← hpve]; exact nums_extract s _ _
              have hsv : pv.size ≤ s.size := by rw [← hpve]; simp; omega
              have HQ4 : Hid (oneR (nums s) = oneF (nums nm) (parsQ m' (numsP fs ++ [(nums pn, nums pv)]) ((nums s).drop r))) := by
                unfold Hid; rw [HQ1.out, HQ3.out, vq_plain HNQ.out HR.out, hnv]; rfl
              clear hnv HQ1 HQ3
              have HDS : Hid (Oe (w3.alloc (.cells #[.string pn, .string pv] 42)) w.heap.size w1.heap.size nm ⟨#[]⟩ (.slice af fs.length cap) fs) := HD3.out.below (keep w3 _)
              have HBS : Hid (Below w.heap.size w (w3.alloc (.cells #[.string pn, .string pv] 42))) := HB3.out.alloc HB3.out.size _
              have HPS : Hid ((w3.alloc (.cells #[.string pn, .string pv] 42)).heap[w3.heap.size]? = some (.cells #[.string pn, .string pv] 42 (0, 0))) := heap_alloc_last w3 _
              obtain ⟨pc0, pc1⟩ := two_cells HPS.out
              obtain ⟨_, x2, _, _, _, _⟩ := three_cells HDS.out.line
              have hlen : (fs ++ [(pn, pv)]).length = fs.length + 1 := by simp
              have HP : Hid (oneR (nums s) = oneF (nums nm) (parsQ m' (numsP (fs ++ [(pn, pv)])) ((nums s).drop r))) := by
                unfold Hid; rw [HQ4.out]; simp [numsP]
              clear HQ4
              go_wp2_with fail
              refine (place_at s ⟨#[59, 58, 44, 34]⟩ _ inQ _ (q + 1) r _ (by omega) (by omega) (by decide) (by omega) HR.out).mono ?_
              rintro e wz ⟨rfl, rfl⟩
              go_wp2_with (at_builtin; refine wpList_append_own _ rfl (.tmp 90) (.tmp 92) 30 rfl (w1.heap.size + 1) 42 j0 _ 2 32 Tryd.underlying30 hi hz0 hz1 hz2 rfl (by decide) _ _ _ rfl (own_keep HDS.out.own (keep _ _)) ⟨w3.heap.size + 1, 0, none⟩ 1 1 (cellF (pn, pv)) rfl rfl ?a0 ?a4 ?a1 ?a2 ?a3 ?_)
              case a0 =>
                intro j u hu
                have q := cell_two_new (w3.alloc (.cells #[.string pn, .string pv] 42)) (.string pn) (.string pv) 42 j u hu
                rwa [show (w3.alloc (.cells #[.string pn, .string pv] 42)).heap.size = w3.heap.size + 1 from by simp] at q
              case a4 => intro u hu; simp [cellF] at hu; rcases hu with rfl | rfl <;> rfl
              case a1 => unfold maxLen; omega
              case a2 => omega
              case a3 => simp; omega
              intro v' w12 hown12 hgrow12 _
              have hO12 : OwnF w12 (w1.heap.size + 1) v' (fs ++ [(pn, pv)]) := by
                unfold OwnF; rw [hlen, List.flatMap_append]; simpa using hown12
              have hDb := HDS.out.below (keep (w3.alloc (.cells #[.string pn, .string pv] 42)) (.cells #[.string pn, .string pv] 42))
              have hD12 := hDb.app hgrow12 hO12
              have hBb : Below w.heap.size w ((w3.alloc (.cells #[.string pn, .string pv] 42)).alloc (.cells #[.string pn, .string pv] 42)) := HBS.out.alloc HBS.out.size _
              have hB12 : Below w.heap.size w (w12.setCell ⟨w1.heap.size, 1, none⟩ v') :=
                (hBb.grown hgrow12 hBb.size (fun j hj => by have := (hDb.own.lt j hj).1; omega)).setCell (p := ⟨w1.heap.size, 1, none⟩) (by simp; omega) _
              have e12 : w12.heap[w1.heap.size]? = some (.cells #[.string nm, .slice af fs.length cap, .string ⟨#[]⟩] 32 (0, 0)) := (hgrow12.block _ hDb.lt (ne_type hDb.own hDb.line (by decide))).trans hDb.line
              obtain ⟨a12, cap12, hv12, _⟩ := ownF_view hO12
              rw [hlen] at hv12
              subst hv12
              have HD12 : Hid (Oe (w12.setCell ⟨w1.heap.size, 1, none⟩ (.slice a12 (fs.length + 1) cap12)) w.heap.size w1.heap.size nm ⟨#[]⟩ (.slice a12 (fs.length + 1) cap12) (fs ++ [(pn, pv)])) := hD12
              have HB12 : Hid (Below w.heap.size w (w12.setCell ⟨w1.heap.size, 1, none⟩ (.slice a12 (fs.length + 1) cap12))) := hB12
              have y12 : w12.cell? ⟨w1.heap.size, 1, none⟩ = some (.slice af fs.length cap) := by rw [cell_of_row _ _ _ _ _ _ e12]; rfl
              have z1 : w12.frozen? ⟨w1.heap.size, 1, none⟩ = false := frozen_of_row _ _ _ _ _ e12
              clear hown12 hgrow12 hO12 hDb hD12 hB12 hBb e12 x2 HD3 HB3 pc0 pc1 HDS HBS HPS HDA HBA HPA x1
              go_wp2
              go_roundw
              case rel =>
                refine ⟨r, _, fs ++ [(pn, pv)], m', by go_num, by omega, HD12.out, HB12.out, HP.out, by omega, by rw [hlen]; omega, ?_⟩
                intro f hf
                rcases List.mem_append.1 hf with q | q
                · exact HSF.out f q
                · simp at q; subst q; exact ⟨by simp; omega, by simp; omega⟩
              case measure => simp [intOf]; omega
          · have HN : Hid (oneR (nums s) = none) := by
              unfold Hid; rw [HQ1.out, pq_none HPQ.out (fun c h => by rw [HAQ.out] at h; cases h; exact h61)]; rfl
            have e2 : (d != 61) = true := by simp [h61]
            clear HPQ h61
            obtain ⟨r0, r1, r2, f0, f1, f2⟩ := three_cells HD.out.res
            obtain ⟨g0, g1, g2, _, _, _⟩ := three_cells HD.out.bad
            go_wp2
            exact rone_bad HD.out.res HB.out (Nat.le_refl _) HN.out rfl rfl rfl
      · have e1 : (c == 59) = false := by rw [beq_eq_false_iff_ne]; exact h59
        have HQ1 : Hid (oneR (nums s) = oneF (nums nm) (some (numsP fs, (nums s).drop p))) := by
          unfold Hid; rw [HQ.out]; exact oneQ_out _ _ _ _ _ (fun d h => by rw [HAT.out] at h; cases h; exact h59)
        clear HQ h59
        by_cases h58 : c = 58
        · subst h58
          have HQ2 : Hid (oneR (nums s) = if rightZ ⟨nums nm, numsP fs, (nums s).drop (p + 1)⟩ = true then some ⟨nums nm, numsP fs, (nums s).drop (p + 1)⟩ else none) := by
            unfold Hid; rw [HQ1.out]; exact oneQ_yes _ _ _ _ HAT.out
          clear HQ1
          have k0 : (0 : Int) ≤ (p : Int) + 1 := by omega
          have k1 : (p : Int) + 1 ≤ (s.size : Int) := by omega
          have k3 : ((p : Int) + 1).toNat = p + 1 := by omega
          obtain ⟨vl, hvl⟩ : ∃ vl, s.extract (p + 1) s.size = vl := ⟨_, rfl⟩
          have hnv : nums vl = (nums s).drop (p + 1) := by rw [← hvl]; exact nums_from s (p + 1)
          have hsv : vl.size ≤ s.size := by rw [← nums_len, hnv, List.length_drop, HLN.out]; omega
          have HQ3 : Hid (oneR (nums s) = if rightZ ⟨nums nm, numsP fs, nums vl⟩ = true then some ⟨nums nm, numsP fs, nums vl⟩ else none) := by unfold Hid; rw [HQ2.out, hnv]
          clear hnv HQ2
          obtain ⟨l0, l1, l2, y0, y1, y2⟩ := three_cells HD.out.line
          have HDA : Hid (Oe (wr.setCell ⟨w1.heap.size, 2, none⟩ (.string vl)) w.heap.size w1.heap.size nm vl (.slice af fs.length cap) fs) := HD.out.set2 vl
          have HBA : Hid (Below w.heap.size w (wr.setCell ⟨w1.heap.size, 2, none⟩ (.string vl))) := HB.out.setCell (p := ⟨w1.heap.size, 2, none⟩) (by simp; omega) _
          obtain ⟨z0, z1, z2, _, _, _⟩ := three_cells HDA.out.line
          clear HD HB
          go_wp2_with fail
          generalize wr.setCell ⟨w1.heap.size, 2, none⟩ (.string vl) = wA at HDA HBA z0 z1 z2 ⊢
          clear l0 l1 l2 y0 y1 y2 hvl
          obtain ⟨aA, cA, eA, hfA⟩ := ownF_view HDA.out.own
          simp only [Value.slice.injEq] at eA
          obtain ⟨rfl, _, rfl⟩ := eA
          refine (rright_any nm vl af fs.length cap fs _ rfl hfA (by omega) (by omega) (fun f hf => by have := HSF.out f hf; exact ⟨by omega, by omega⟩)).mono ?_
          rintro e wB ⟨rfl, hbB⟩
          have HDB : Hid (Oe wB w.heap.size w1.heap.size nm vl (.slice af fs.length cap) fs) := HDA.out.below hbB
          have HBB : Hid (Below w.heap.size w wB) := HBA.out.trans (hbB.mono HBA.out.size)
          clear hbB hfA z0 z1 z2 HDA HBA
          cases hrz : rightZ ⟨nums nm, numsP fs, nums vl⟩ with
          | false =>
            have HN : Hid (oneR (nums s) = none) := by unfold Hid; rw [HQ3.out, if_neg (by rw [hrz]; simp)]
            obtain ⟨r0, r1, r2, f0, f1, f2⟩ := three_cells HDB.out.res
            obtain ⟨g0, g1, g2, _, _, _⟩ := three_cells HDB.out.bad
            go_wp2
            exact rone_bad HDB.out.res HBB.out (Nat.le_refl _) HN.out rfl rfl rfl
          | true =>
            have HN : Hid (oneR (nums s) = some ⟨nums nm, numsP fs, nums vl⟩) := by unfold Hid; rw [HQ3.out, if_pos hrz]
            obtain ⟨z0, z1, z2, _, _, _⟩ := three_cells HDB.out.line
            obtain ⟨r0, r1, r2, f0, f1, f2⟩ := three_cells HDB.out.res
            go_wp2
            exact rone_fin HDB.out HBB.out (Nat.le_refl _) ⟨by unfold Small; omega, by unfold Small; omega, HSF.out.small⟩ HN.out rfl rfl rfl
        · have e2 : (c != 58) = true := by simp [h58]
          have HN : Hid (oneR (nums s) = none) := by
            unfold Hid; rw [HQ1.out]; exact oneQ_no _ _ _ _ (fun d h => by rw [HAT.out] at h; cases h; exact h58)
          clear h58
          obtain ⟨r0, r1, r2, f0, f1, f2⟩ := three_cells HD.out.res
          obtain ⟨g0, g1, g2, _, _, _⟩ := three_cells HD.out.bad
          go_wp2
          exact rone_bad HD.out.res HB.out (Nat.le_refl _) HN.out rfl rfl rfl
    · have dl : decide ((p : Int) < (s.size : Int)) = false := by simp; omega
      have gl : decide ((s.size : Int) ≤ (p : Int)) = true := by simp; omega
      have hno : ∀ c, (nums s)[p]? = some c → False := fun c h => by have := (List.getElem?_eq_some_iff.1 h).1; rw [HLN.out] at this; omega
      have HN : Hid (oneR (nums s) = none) := by
        unfold Hid; rw [HQ.out, oneQ_out _ _ _ _ _ (fun c h => (hno c h).elim)]; exact oneQ_no _ _ _ _ (fun c h => (hno c h).elim)
      clear hno
      obtain ⟨r0, r1, r2, f0, f1, f2⟩ := three_cells HD.out.res
      obtain ⟨g0, g1, g2, _, _, _⟩ := three_cells HD.out.bad
      go_wp2
      exact rone_bad HD.out.res HB.out (Nat.le_refl _) HN.out rfl rfl rfl
end Go.Proofs.YtjcjhcpaojhcfaaDoor
