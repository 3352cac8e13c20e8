/-
  between: what stands between the borders of a knot's content.
-/
import Derived.Test.YtmdkmedlncfcbaaGreatDoorRr
namespace Go.Proofs.YtmdkmedlncfcbaaGreatDoor
open Go.RowKit Go.Shelf
set_option linter.unusedVariables false
set_option linter.unusedSimpArgs false
attribute [local go_sem] Oper.semAt_some

theorem Tryz.info22 : (Tryz.prog.info? 22).map (fun i => (i.zero, i.size, i.bytes)) = some (some (.slice none 0 0), 1, 24) := by kernel_rfl
/-- What between answers. -/
def TPost (w : World) (a : Option Addr) (c : Nat) (x : Option (List (Nat × Nat))) (e : Ending) (w' : World) : Prop :=
  ∃ v b, e = .returned (.tuple #[v, .bool b]) ∧ Below w.heap.size w w' ∧ ((b = false ∧ x = none ∧ v = .slice none 0 0) ∨ (b = true ∧ ∃ ts, x = some ts ∧ w'.ownsRow w.heap.size 22 1 v ts.length (ts.map (cutV a c))))
theorem below_drew {n : Nat} {w w' : World} (h : Below n w w') : Below n w w'.drew := below_drewN h 1
theorem own_tg {O : Nat → Prop} {V V' : World} {B e sz n : Nat} {v : Value} {xs : List Value} (h : V.ownsRow B e sz v n xs) (ht : Tg O V V') (hO : ∀ b, O b → b < B) : V'.ownsRow B e sz v n xs := by
  refine ⟨h.1, ?_⟩
  rcases h.2 with h | ⟨g, cap, cur, h1, h2, h3, h4⟩
  · exact .inl h
  · exact .inr ⟨g, cap, cur, h1, h2, ht.kept h3 (fun q => by have := hO g q; omega), h4⟩
theorem own_set {W : World} {B e size f o : Nat} {u v : Value} {n : Nat} {xs : List Value} (hf : f < B) (h : W.ownsRow B e size v n xs) : (W.setCell ⟨f, o, none⟩ u).ownsRow B e size v n xs := by
  refine ⟨h.1, ?_⟩
  rcases h.2 with h | ⟨b, cap, cur, h1, h2, h3, h4⟩
  · exact .inl h
  · exact .inr ⟨b, cap, cur, h1, h2, (heap_setCell_other _ _ _ _ (by simp; omega)).trans h3, h4⟩
theorem between_leave {w V : World} {v : Value} {b : Bool} {rs : List Nat} {tmps : Array Value} {a : Option Addr} {c : Nat} {x : Option (List (Nat × Nat))} (hR : Blk V (w.heap.size + 2) #[v] 44) (hR2 : Blk V (w.heap.size + 3) #[.bool b] 4) (h4 : tmps[4]?.getD undef = .pointer (some ⟨w.heap.size + 2, 0, none⟩)) (h5 : tmps[5]?.getD undef = .pointer (some ⟨w.heap.size + 3, 0, none⟩)) (hmk : Mks rs V) (hrs : ∀ r ∈ rs, w.heap.size + 3 < r) (hB : Below w.heap.size w V)
    (hans : (b = false ∧ x = none ∧ v = .slice none 0 0) ∨ (b = true ∧ ∃ ts, x = some ts ∧ ∃ Z, w.heap.size ≤ Z ∧ (∀ r ∈ rs, r < Z) ∧ V.ownsRow Z 22 1 v ts.length (ts.map (cutV a c)))) :
    LeavesInM Fence.wide 20 Tryz.prog Tryz.f32 tmps (TPost w a c x) (rs.map mark) .returning V := by
  refine leaves_marks rs V hmk (fun W' hb' hs => ?_)
  have hR' : Blk W' (w.heap.size + 2) #[v] 44 := (hs _ (fun q => by have := hrs _ q; omega)).trans hR
  have hR2' : Blk W' (w.heap.size + 3) #[.bool b] 4 := (hs _ (fun q => by have := hrs _ q; omega)).trans hR2
  have c0 := cell1 hR'
  have c1 := cell1 hR2'
  have hB0 := hb' 0 (by simp)
  have ht : Tg (fun b => b ∈ rs) V W' := ⟨hB0.os, hB0.tape, hB0.output, hB0.size, fun b _ hO => hs b hO⟩
  refine ⟨.tuple #[v, .bool b], ?_, v, b, rfl, hB.trans (hb' _ (fun r h => by have := hrs r h; omega)), ?_⟩
  · simp [results, Tryz.results32, go_sem, c0, c1, h4, h5]
  · rcases hans with h | ⟨h1, ts, h2, Z, h3, h4, h5⟩
    · exact .inl h
    · exact .inr ⟨h1, ts, h2, own_base h3 (own_tg h5 ht h4)⟩
theorem bt_next {nx : List Int} {p bg : Nat} {op : Bool} {out : List (Nat × Nat)} {q : List Int} {S : List (List Int)} {k : Nat} (hq : S[k]? = some q) (hn : ¬ (op = true ∧ bareZ q = nx ++ [45, 45])) :
    betwL nx p bg op out (S.drop k) = betwL nx (p + q.length) (if bareZ q = nx then p + q.length else bg) (op || decide (bareZ q = nx)) (if op = true ∧ bareZ q = nx then out ++ [(bg, max bg (p - 2))] else out) (S.drop (k + 1)) := by
  have hlt := (List.getElem?_eq_some_iff.1 hq).1
  have hx := (List.getElem?_eq_some_iff.1 hq).2
  rw [List.drop_eq_getElem_cons hlt, hx, betwL, if_neg hn]
theorem bt_last {nx : List Int} {p bg : Nat} {out : List (Nat × Nat)} {q : List Int} {S : List (List Int)} {k : Nat} (hq : S[k]? = some q) (hn : bareZ q = nx ++ [45, 45]) :
    betwL nx p bg true out (S.drop k) = some (out ++ [(bg, max bg (p - 2))]) := by
  have hlt := (List.getElem?_eq_some_iff.1 hq).1
  have hx := (List.getElem?_eq_some_iff.1 hq).2
  rw [List.drop_eq_getElem_cons hlt, hx, betwL, if_pos ⟨rfl, hn⟩]
theorem flat_succ {S : List (List Int)} {k : Nat} {q : List Int} (hq : S[k]? = some q) : (S.take (k + 1)).flatten.length = (S.take k).flatten.length + q.length := by
  rw [List.take_add_one, hq]; simp
theorem flat_le (S : List (List Int)) (k : Nat) : (S.take k).flatten.length ≤ S.flatten.length := by
  conv => rhs; rw [← List.take_append_drop k S]
  rw [List.flatten_append, List.length_append]; omega
/-- Between two lines. -/
def BJ (w : World) (B Z : Nat) (a : Option Addr) (n c : Nat) (nx la : ByteArray) (S : List (List Int)) (bg : Nat) (op : Bool) (out : List (Nat × Nat)) (k : Nat) (V : World) : Prop :=
  ∃ v, Below w.heap.size w V ∧ Blk V B #[.slice a n c] 22 ∧ Blk V (B + 2) #[.slice none 0 0] 44 ∧ Blk V (B + 3) #[.bool false] 4 ∧ Blk V Z #[.string nx] 9 ∧ Blk V (Z + 1) #[.string la] 9 ∧ Blk V (Z + 2) #[v] 44 ∧ V.ownsRow (Z + 12) 22 1 v out.length (out.map (cutV a c)) ∧
    Blk V (Z + 3) #[.int .i64 ((S.take k).flatten.length : Nat)] 3 ∧ Blk V (Z + 4) #[.int .i64 (bg : Nat)] 3 ∧ Blk V (Z + 5) #[.bool op] 4 ∧ PrB V (Z + 6) ∧ Blk V (Z + 8) #[.slice (some ⟨Z + 6, 0, none⟩) 2 2] 22 ∧ Blk V (Z + 9) #[.int .i64 2] 3
theorem BJ.tg {O : Nat → Prop} {w : World} {B Z : Nat} {a : Option Addr} {n c : Nat} {nx la : ByteArray} {S : List (List Int)} {bg : Nat} {op : Bool} {out : List (Nat × Nat)} {k : Nat} {V V' : World} (h : BJ w B Z a n c nx la S bg op out k V) (ht : Tg O V V') (hB : w.heap.size = B) (hBZ : B + 4 ≤ Z) (hO : ∀ b, O b → b = Z + 7 ∨ b = Z + 10 ∨ b = Z + 11) : BJ w B Z a n c nx la S bg op out k V' := by
  obtain ⟨v, h1, h2, h3, h4, h5, h6, h7, h8, h9, h10, h11, h12, h13, h14⟩ := h
  have key : ∀ b, (b < Z + 7 ∨ b = Z + 8 ∨ b = Z + 9) → ¬ O b := fun b hb q => by have := hO b q; omega
  exact ⟨v, below_tg h1 h1.size ht (fun b hb => by have := hO b hb; omega), ht.kept h2 (key _ (by omega)), ht.kept h3 (key _ (by omega)), ht.kept h4 (key _ (by omega)), ht.kept h5 (key _ (by omega)), ht.kept h6 (key _ (by omega)), ht.kept h7 (key _ (by omega)), own_tg h8 ht (fun b hb => by have := hO b hb; omega), ht.kept h9 (key _ (by omega)), ht.kept h10 (key _ (by omega)), ht.kept h11 (key _ (by omega)), ht.kept h12 (key _ (by omega)), ht.kept h13 (key _ (by omega)), ht.kept h14 (key _ (by omega))⟩
theorem split_count : ∀ (n : Nat) (l : List Int), (splitP n l).length ≤ n + 1
  | 0, l => by simp [splitP]
  | n + 1, l => by
    rw [splitP]
    split
    · have := split_count n (l.drop ((pairI l).toNat + 2))
      rw [List.length_cons]; omega
    · simp
theorem size_setCell' (W : World) (p : Addr) (u : Value) : (W.setCell p u).heap.size = W.heap.size := by simp
theorem BJ.at {w : World} {B Z : Nat} {a : Option Addr} {n c : Nat} {nx la : ByteArray} {S : List (List Int)} {bg : Nat} {op : Bool} {out : List (Nat × Nat)} {k : Nat} {V : World} {q : List Int} {p : Nat} (h : BJ w B Z a n c nx la S bg op out k V) (hB : w.heap.size = B) (hBZ : B + 4 ≤ Z) (hq : S[k]? = some q) (hp : p = (S.take k).flatten.length + q.length) : BJ w B Z a n c nx la S bg op out (k + 1) (V.setCell ⟨Z + 3, 0, none⟩ (.int .i64 (p : Nat))) := by
  obtain ⟨v, h1, h2, h3, h4, h5, h6, h7, h8, h9, h10, h11, h12, h13, h14⟩ := h
  refine ⟨v, h1.setCell (p := ⟨Z + 3, 0, none⟩) (by simp; omega) _, h2.other (by omega) _, h3.other (by omega) _, h4.other (by omega) _, h5.other (by omega) _, h6.other (by omega) _, h7.other (by omega) _, own_set (by omega) h8, ?_, h10.other (by omega) _, h11.other (by omega) _, (heap_setCell_other _ _ _ _ (by simp)).trans h12, h13.other (by omega) _, h14.other (by omega) _⟩
  rw [flat_succ hq, ← hp]; exact h9.same0 _
theorem BJ.bg {w : World} {B Z : Nat} {a : Option Addr} {n c : Nat} {nx la : ByteArray} {S : List (List Int)} {bg : Nat} {op : Bool} {out : List (Nat × Nat)} {k : Nat} {V : World} (p : Nat) (h : BJ w B Z a n c nx la S bg op out k V) (hB : w.heap.size = B) (hBZ : B + 4 ≤ Z) : BJ w B Z a n c nx la S p true out k ((V.setCell ⟨Z + 4, 0, none⟩ (.int .i64 (p : Nat))).setCell ⟨Z + 5, 0, none⟩ (.bool true)) := by
  obtain ⟨v, h1, h2, h3, h4, h5, h6, h7, h8, h9, h10, h11, h12, h13, h14⟩ := h
  exact ⟨v, (h1.setCell (p := ⟨Z + 4, 0, none⟩) (by simp; omega) _).setCell (p := ⟨Z + 5, 0, none⟩) (by simp; omega) _, (h2.other (by omega) _).other (by omega) _, (h3.other (by omega) _).other (by omega) _, (h4.other (by omega) _).other (by omega) _, (h5.other (by omega) _).other (by omega) _, (h6.other (by omega) _).other (by omega) _, (h7.other (by omega) _).other (by omega) _, own_set (by omega) (own_set (by omega) h8), (h9.other (by omega) _).other (by omega) _, (h10.same0 _).other (by omega) _, (h11.other (by omega) _).same0 _, (heap_setCell_other _ _ _ _ (by simp)).trans ((heap_setCell_other _ _ _ _ (by simp)).trans h12), (h13.other (by omega) _).other (by omega) _, (h14.other (by omega) _).other (by omega) _⟩
theorem grown_blk {V V' : World} {Z b : Nat} {v : Value} {m : Nat} {xs : List Value} (h8 : V.ownsRow (Z + 12) 22 1 v m xs) (hg : V.grownBy V' v.ownBlock) (hlt : b < V.heap.size) (hb : b < Z + 12) : V'.heap[b]? = V.heap[b]? :=
  hg.block b hlt (fun q => by have := (h8.lt b q.symm).1; omega)
theorem BJ.app {w : World} {B Z : Nat} {a : Option Addr} {n c : Nat} {nx la : ByteArray} {S : List (List Int)} {bg : Nat} {op : Bool} {out : List (Nat × Nat)} {k : Nat} {V V' : World} {v v' : Value} {x : Nat × Nat} (h : BJ w B Z a n c nx la S bg op out k V) (hv : Blk V (Z + 2) #[v] 44) (ho : V.ownsRow (Z + 12) 22 1 v out.length (out.map (cutV a c))) (hB : w.heap.size = B) (hBZ : B + 4 ≤ Z) (hg : V.grownBy V' v.ownBlock) (hZV : Z + 12 ≤ V.heap.size) (ho' : V'.ownsRow (Z + 12) 22 1 v' (out.length + 1) (out.map (cutV a c) ++ [cutV a c x])) :
    BJ w B Z a n c nx la S bg op (out ++ [x]) k (V'.setCell ⟨Z + 2, 0, none⟩ v') ∧ Blk V' (Z + 2) #[v] 44 := by
  obtain ⟨v0, h1, h2, h3, h4, h5, h6, h7, h8, h9, h10, h11, h12, h13, h14⟩ := h
  have key : ∀ b, b < Z + 12 → V'.heap[b]? = V.heap[b]? := fun b hb => grown_blk ho hg (by omega) hb
  have hv' : Blk V' (Z + 2) #[v] 44 := (key _ (by omega)).trans hv
  have hb' : Below w.heap.size w V' := h1.grown hg h1.size (fun j hj => by have := (ho.lt j hj).1; omega)
  refine ⟨⟨v', hb'.setCell (p := ⟨Z + 2, 0, none⟩) (by simp; omega) _, ?_⟩, hv'⟩
  have t : ∀ {b : Nat} {cs : Array Value} {ty : TypeId}, Blk V b cs ty → b < Z + 12 → b ≠ Z + 2 → Blk (V'.setCell ⟨Z + 2, 0, none⟩ v') b cs ty := fun hh hb hne => Blk.other ((key _ hb).trans hh) (by omega) _
  refine ⟨t h2 (by omega) (by omega), t h3 (by omega) (by omega), t h4 (by omega) (by omega), t h5 (by omega) (by omega), t h6 (by omega) (by omega), hv'.same0 _, ?_, t h9 (by omega) (by omega), t h10 (by omega) (by omega), t h11 (by omega) (by omega), (heap_setCell_other _ _ _ _ (by simp)).trans ((key _ (by omega)).trans h12), t h13 (by omega) (by omega), t h14 (by omega) (by omega)⟩
  rw [List.length_append, List.map_append]
  exact own_set (by omega) ho'
theorem BJ.facts {w : World} {B Z : Nat} {a : Option Addr} {n c : Nat} {nx la : ByteArray} {S : List (List Int)} {bg : Nat} {op : Bool} {out : List (Nat × Nat)} {k : Nat} {V : World} {p : Nat} (h : BJ w B Z a n c nx la S bg op out k V) (hp : (S.take k).flatten.length = p) :
    V.cell? ⟨B, 0, none⟩ = some (.slice a n c) ∧ V.cell? ⟨Z, 0, none⟩ = some (.string nx) ∧ V.cell? ⟨Z + 1, 0, none⟩ = some (.string la) ∧ V.cell? ⟨Z + 3, 0, none⟩ = some (.int .i64 (p : Nat)) ∧ V.cell? ⟨Z + 4, 0, none⟩ = some (.int .i64 (bg : Nat)) ∧ V.cell? ⟨Z + 5, 0, none⟩ = some (.bool op) ∧
      V.frozen? ⟨Z + 3, 0, none⟩ = false ∧ V.frozen? ⟨Z + 4, 0, none⟩ = false ∧ V.frozen? ⟨Z + 5, 0, none⟩ = false ∧ V.frozen? ⟨Z + 2, 0, none⟩ = false ∧ V.cell? ⟨B + 2, 0, none⟩ = some (.slice none 0 0) ∧ V.cell? ⟨B + 3, 0, none⟩ = some (.bool false) ∧ V.frozen? ⟨B + 2, 0, none⟩ = false ∧ V.frozen? ⟨B + 3, 0, none⟩ = false := by
  obtain ⟨v, h1, h2, h3, h4, h5, h6, h7, h8, h9, h10, h11, h12, h13, h14⟩ := h
  rw [hp] at h9
  exact ⟨cell1 h2, cell1 h5, cell1 h6, cell1 h9, cell1 h10, cell1 h11, h9.frozen 0, h10.frozen 0, h11.frozen 0, h7.frozen 0, cell1 h3, cell1 h4, h3.frozen 0, h4.frozen 0⟩
set_option maxHeartbeats 16000000 in
set_option maxRecDepth 100000 in
theorem between_any (a : Option Addr) (n c : Nat) (l : List Int) (ty sub : ByteArray) (ka : Option Addr) (kn kc : Nat) (ks : List (ByteArray × ByteArray)) (w : World) (hl : l.length = n) (hb : Byt l) (hr : Row w a l) (hcap : n ≤ c) (hcm : c ≤ maxLen) (hnil : a = none → c = 0) (hn : n ≤ 2000000) (hm : Mx w) (hkn : ks.length = kn) (hk : KAt w ty sub ka ks) :
    Calls Tryz.prog 32 #[.slice a n c, Kd.kindV ty sub ka kn kc] w (TPost w a c ((bord (knOf ty sub ks)).bind (betw l))) := by
  have HR : Hid (Row w a l) := hr
  have HBY : Hid (Byt l) := hb
  have HL : Hid (l.length = n) := hl
  have HM : Hid (Mx w) := hm
  have hcmx : c ≤ 9223372036854775807 := hcm
  unfold Kd.kindV
  obtain ⟨B, hB⟩ : ∃ B, w.heap.size = B := ⟨_, rfl⟩
  obtain ⟨w4, hw4⟩ : ∃ w4, (((w.alloc (.cells #[.slice a n c] 22)).alloc (.cells #[.string ty, .string sub, .slice ka kn kc] 39)).alloc (.cells #[.slice none 0 0] 44)).alloc (.cells #[.bool false] 4) = w4 := ⟨_, rfl⟩
  have E0 : Blk w4 B #[.slice a n c] 22 := by
    have := Blk.new w #[.slice a n c] 22
    rw [hB] at this
    rw [← hw4]; exact ((this.alloc _).alloc _).alloc _
  have E1 : w4.heap[B + 1]? = some (.cells #[.string ty, .string sub, .slice ka kn kc] 39 (0, 0)) := by
    have := Blk.new (w.alloc (.cells #[.slice a n c] 22)) #[.string ty, .string sub, .slice ka kn kc] 39
    rw [World.size_alloc, hB] at this
    rw [← hw4]; exact (this.alloc _).alloc _
  have E2 : Blk w4 (B + 2) #[.slice none 0 0] 44 := by
    have := Blk.new ((w.alloc (.cells #[.slice a n c] 22)).alloc (.cells #[.string ty, .string sub, .slice ka kn kc] 39)) #[.slice none 0 0] 44
    rw [World.size_alloc, World.size_alloc, hB] at this
    rw [← hw4]; exact this.alloc _
  have E3 : Blk w4 (B + 3) #[.bool false] 4 := by
    have := Blk.new (((w.alloc (.cells #[.slice a n c] 22)).alloc (.cells #[.string ty, .string sub, .slice ka kn kc] 39)).alloc (.cells #[.slice none 0 0] 44)) #[.bool false] 4
    rw [World.size_alloc, World.size_alloc, World.size_alloc, hB] at this
    rw [← hw4]; exact this
  have hB4 : Below w.heap.size w w4 := by
    rw [← hw4]; exact (((keep w _).alloc (by simp) _).alloc (by simp; omega) _).alloc (by simp; omega) _
  have hbo := borderOf_any ty sub ka kn kc ks w4 hkn (hk.below hB4)
  unfold Kd.kindV at hbo
  obtain ⟨k0, k1, k2⟩ := cells3 E1
  have hz4 : w4.heap.size = B + 4 := by rw [← hw4, ← hB]; simp
  clear hr hb hm hk
  refine (callsIn_wide (n := 20)).1 ?_
  refine callsIn_of_wp_marks Tryz.func32 rfl trivial ?_ rfl
  simp only [Tryz.ntmps32, List.size_toArray, List.length_cons, List.length_nil, Nat.reduceAdd, Nat.reduceSub, Array.replicate_succ, Array.replicate_zero, List.push_toArray, List.append_toArray, List.nil_append, List.cons_append]
  have HZ4 : Hid (w4.heap.size = B + 4) := hz4
  clear hz4
  gi_wp2_with fail
  refine ⟨trivial, (callsIn_wide.2 hbo).mono ?_⟩
  rintro e w1 ⟨s, fd, rfl, hb1, hbt, hbf, hss⟩
  have hz4 := HZ4.out
  have F0 : Blk w1 B #[.slice a n c] 22 := E0.below hb1 (by omega)
  have F2 : Blk w1 (B + 2) #[.slice none 0 0] 44 := E2.below hb1 (by omega)
  have F3 : Blk w1 (B + 3) #[.bool false] 4 := E3.below hb1 (by omega)
  have HB1 : Hid (Below w.heap.size w w1) := hB4.trans (hb1.mono (by omega))
  have hz1 : B + 4 ≤ w1.heap.size := by have := hb1.size; omega
  have HBE : Hid (w.heap.size = B) := hB
  clear hbo hb1 k0 k1 k2 E0 E1 E2 E3 hB4 hz4 hw4
  cases fd with
  | false =>
    have HN : Hid (((bord (knOf ty sub ks)).bind (betw l)) = none) := by unfold Hid; rw [hbf rfl]; rfl
    have c2 := cell1 F2
    have c3 := cell1 F3
    have f2 := F2.frozen 0
    have f3 := F3.frozen 0
    clear hbt hbf
    gi_wp2
    have hbe := HBE.out
    refine between_leave (rs := []) (b := false) (v := .slice none 0 0) ?_ ?_ (by rw [HBE.out]; rfl) (by rw [HBE.out]; rfl) ⟨List.nodup_nil, by simp⟩ (by simp) ?_ (.inl ⟨rfl, HN.out, rfl⟩)
    · rw [HBE.out]; exact (F2.same0 _).other (by omega) _
    · rw [HBE.out]; exact (F3.other (by omega) _).same0 _
    · exact (HB1.out.setCell (p := ⟨B + 2, 0, none⟩) (by simp; omega) _).setCell (p := ⟨B + 3, 0, none⟩) (by simp; omega) _
  | true =>
    have hbd := hbt rfl
    have hsp := bord_spec hbd
    have hs70 : s.size ≤ 70 := by have := hsp.2.2; rw [nums_len] at this; exact this
    obtain ⟨nx, hnx⟩ : ∃ nx, (⟨#[45, 45]⟩ : ByteArray) ++ s = nx := ⟨_, rfl⟩
    obtain ⟨la, hla⟩ : ∃ la, nx ++ (⟨#[45, 45]⟩ : ByteArray) = la := ⟨_, rfl⟩
    have hnn : nums nx = 45 :: 45 :: nums s := by rw [← hnx, nums_append]; rfl
    have hln : nums la = nums nx ++ [45, 45] := by rw [← hla, nums_append]; rfl
    obtain ⟨S, hS⟩ : ∃ S, splitP l.length l = S := ⟨_, rfl⟩
    obtain ⟨xx, hx⟩ : ∃ xx, (bord (knOf ty sub ks)).bind (betw l) = xx := ⟨_, rfl⟩
    have HXE : Hid ((bord (knOf ty sub ks)).bind (betw l) = xx) := hx
    have HX : Hid (xx = betwL (nums nx) 0 0 false [] S) := by unfold Hid; rw [← hx, hbd, Option.bind_some, betw, hS, hnn]
    have HNN : Hid (nums la = nums nx ++ [45, 45]) := hln
    have HSE : Hid (splitP n l = S) := by unfold Hid; rw [← HL.out]; exact hS
    have HSF : Hid (S.flatten.length = n) := by unfold Hid; rw [← hS, split_flat]; exact HL.out
    have hns : nx.size = s.size + 2 := by rw [← nums_len, hnn]; simp [nums_len]
    obtain ⟨Z, hZ⟩ : ∃ Z, w1.heap.size = Z := ⟨_, rfl⟩
    obtain ⟨w7, hw7⟩ : ∃ w7, (((((w1.alloc (.cells #[.string nx] 9)).alloc (.cells #[.string la] 9)).alloc (.cells #[.slice none 0 0] 44)).alloc (.cells #[.int .i64 0] 3)).alloc (.cells #[.int .i64 0] 3)).alloc (.cells #[.bool false] 4) = w7 := ⟨_, rfl⟩
    have hz7 : w7.heap.size = Z + 6 := by rw [← hw7, ← hZ]; simp
    have G0 : Blk w7 Z #[.string nx] 9 := by
      have := Blk.new w1 #[.string nx] 9
      rw [hZ] at this
      rw [← hw7]; exact ((((this.alloc _).alloc _).alloc _).alloc _).alloc _
    have G1 : Blk w7 (Z + 1) #[.string la] 9 := by
      have := Blk.new (w1.alloc (.cells #[.string nx] 9)) #[.string la] 9
      rw [World.size_alloc, hZ] at this
      rw [← hw7]; exact (((this.alloc _).alloc _).alloc _).alloc _
    have G2 : Blk w7 (Z + 2) #[.slice none 0 0] 44 := by
      have := Blk.new ((w1.alloc (.cells #[.string nx] 9)).alloc (.cells #[.string la] 9)) #[.slice none 0 0] 44
      rw [World.size_alloc, World.size_alloc, hZ] at this
      rw [← hw7]; exact ((this.alloc _).alloc _).alloc _
    have G3 : Blk w7 (Z + 3) #[.int .i64 0] 3 := by
      have := Blk.new (((w1.alloc (.cells #[.string nx] 9)).alloc (.cells #[.string la] 9)).alloc (.cells #[.slice none 0 0] 44)) #[.int .i64 0] 3
      rw [World.size_alloc, World.size_alloc, World.size_alloc, hZ] at this
      rw [← hw7]; exact (this.alloc _).alloc _
    have G4 : Blk w7 (Z + 4) #[.int .i64 0] 3 := by
      have := Blk.new ((((w1.alloc (.cells #[.string nx] 9)).alloc (.cells #[.string la] 9)).alloc (.cells #[.slice none 0 0] 44)).alloc (.cells #[.int .i64 0] 3)) #[.int .i64 0] 3
      rw [World.size_alloc, World.size_alloc, World.size_alloc, World.size_alloc, hZ] at this
      rw [← hw7]; exact this.alloc _
    have G5 : Blk w7 (Z + 5) #[.bool false] 4 := by
      have := Blk.new (((((w1.alloc (.cells #[.string nx] 9)).alloc (.cells #[.string la] 9)).alloc (.cells #[.slice none 0 0] 44)).alloc (.cells #[.int .i64 0] 3)).alloc (.cells #[.int .i64 0] 3)) #[.bool false] 4
      rw [World.size_alloc, World.size_alloc, World.size_alloc, World.size_alloc, World.size_alloc, hZ] at this
      rw [← hw7]; exact this
    have hB7 : Below w1.heap.size w1 w7 := by
      rw [← hw7]; exact (((((keep w1 _).alloc (by simp) _).alloc (by simp; omega) _).alloc (by simp; omega) _).alloc (by simp; omega) _).alloc (by simp; omega) _
    have H0 : Blk w7 B #[.slice a n c] 22 := F0.below hB7 F0.lt
    have H2 : Blk w7 (B + 2) #[.slice none 0 0] 44 := F2.below hB7 F2.lt
    have H3 : Blk w7 (B + 3) #[.bool false] 4 := F3.below hB7 F3.lt
    have HB7 : Hid (Below w.heap.size w w7) := HB1.out.trans (hB7.mono HB1.out.size)
    have cb := cell1 H0
    have kc2 := conv_const w7 #[.int .u8 13, .int .u8 10] 2 2 (Z + 6) hz7
    rw [← hw7] at cb kc2
    have HW7 : Hid (((((((w1.alloc (.cells #[.string nx] 9)).alloc (.cells #[.string la] 9)).alloc (.cells #[.slice none 0 0] 44)).alloc (.cells #[.int .i64 0] 3)).alloc (.cells #[.int .i64 0] 3)).alloc (.cells #[.bool false] 4)) = w7) := hw7
    have HZE : Hid (w1.heap.size = Z) := hZ
    rw [hZ] at hz1
    have HZ7 : Hid (w7.heap.size = Z + 6) := hz7
    have HLA : Hid (nx.size ≤ 100) := by unfold Hid; omega
    have hs1 : s.size ≤ 100 := by omega
    clear hbd hsp hnn hln hS hx F0 F2 F3 hB7 hbt hbf HB1 hs70 hss hz7 hw7
    gi_wp2_with fail
    refine ⟨trivial, (callsIn_wide.2 (split_after a n c (Z + 6) _)).mono ?_⟩
    rintro e w10 ⟨rfl, hw10⟩
    have hz7' := HZ7.out
    rw [HW7.out] at hw10 ⊢
    have I6 : PrB w10 (Z + 6) := by
      have := World.alloc_heap_new w7 (.cells #[.int .u8 13, .int .u8 10] 5 (2, 3))
      rw [hz7'] at this
      rw [hw10]; exact ((PrB.alloc this _).alloc _).alloc _
    have I7 : Blk w10 (Z + 7) #[.slice a n c] 22 := by
      have := Blk.new (w7.alloc (.cells #[.int .u8 13, .int .u8 10] 5 (2, 3))) #[.slice a n c] 22
      rw [World.size_alloc, hz7'] at this
      rw [hw10]; exact (this.alloc _).alloc _
    have I8 : Blk w10 (Z + 8) #[.slice (some ⟨Z + 6, 0, none⟩) 2 2] 22 := by
      have := Blk.new ((w7.alloc (.cells #[.int .u8 13, .int .u8 10] 5 (2, 3))).alloc (.cells #[.slice a n c] 22)) #[.slice (some ⟨Z + 6, 0, none⟩) 2 2] 22
      rw [World.size_alloc, World.size_alloc, hz7'] at this
      rw [hw10]; exact this.alloc _
    have I9 : Blk w10 (Z + 9) #[.int .i64 2] 3 := by
      have := Blk.new (((w7.alloc (.cells #[.int .u8 13, .int .u8 10] 5 (2, 3))).alloc (.cells #[.slice a n c] 22)).alloc (.cells #[.slice (some ⟨Z + 6, 0, none⟩) 2 2] 22)) #[.int .i64 2] 3
      rw [World.size_alloc, World.size_alloc, World.size_alloc, hz7'] at this
      rw [hw10]; exact this
    have hB10 : Below w7.heap.size w7 w10 := by
      rw [hw10]; exact (((keep w7 _).alloc (by simp) _).alloc (by simp; omega) _).alloc (by simp; omega) _
    have hz10 : w10.heap.size = Z + 10 := by rw [hw10]; simp [hz7']
    have HJ0 : Hid (BJ w B Z a n c nx la S 0 false [] 0 w10) :=
      ⟨.slice none 0 0, HB7.out.trans (hB10.mono HB7.out.size), H0.below hB10 H0.lt, H2.below hB10 H2.lt, H3.below hB10 H3.lt, G0.below hB10 G0.lt, G1.below hB10 G1.lt, G2.below hB10 G2.lt, World.ownsRow_nil _ _ _ _, G3.below hB10 G3.lt, G4.below hB10 G4.lt, G5.below hB10 G5.lt, I6, I8, I9⟩
    have HZ10 : Hid (w10.heap.size = Z + 10) := hz10
    have HI7 : Hid (Blk w10 (Z + 7) #[.slice a n c] 22) := I7
    have hadr : (w7.alloc (.cells #[.int .u8 13, .int .u8 10] 5 (2, 3))).heap.size = Z + 7 := by rw [World.size_alloc, hz7']
    simp only [hadr]
    clear hw10 HW7 hz7' hz10 kc2 cb H0 H2 H3 G0 G1 G2 G3 G4 G5 I6 I7 I8 I9 HB7 hB10 HZ7 hadr hB hZ
    have GBV : ∀ k V bg op out, BJ w B Z a n c nx la S bg op out k V → GB (Z + 8) (Z + 9) (Z + 6) 2 a l V := by
      rintro k V bg op out ⟨v, h1, _, _, _, _, _, _, _, _, _, _, h12, h13, h14⟩
      refine ⟨cell1 h13, h12.row, cell1 h14, ?_, row_below HR.out h1⟩
      obtain ⟨m, hm⟩ := HM.out
      exact ⟨m, keep_cell h1 hm⟩
    have hit0 := fun X (h : Sb X (Z + 7) (.slice a n c)) => splitB2_iter 19 (by omega) (Z + 8) (Z + 7) (Z + 9) (Z + 6) a n c l HL.out HBY.out hcap hcm hnil (by omega) X h
    have hSe := HSE.out
    rw [hSe] at hit0
    gi_wp2_with fail
    refine range_g 20 141 [.pointer (some ⟨Z + 7 + 1, 0, none⟩), .pointer (some ⟨Z + 7, 0, none⟩), .pointer (some ⟨Z + 7 + 2, 0, none⟩)] (fun b => b = Z + 7) (sbV 2 a c S) (GB (Z + 8) (Z + 9) (Z + 6) 2 a l)
      (fun X hX hz => hit0 X (HI7.out.below hX HI7.out.lt)) (fun b hb => by have := HZ10.out; omega) ?ps rfl (fun args W => by simp [go_sem])
      (fun k V => ∃ bg op out, BJ w B Z a n c nx la S bg op out k V ∧ xx = betwL (nums nx) (S.take k).flatten.length bg op out (S.drop k) ∧ (op = true → 2 ≤ bg) ∧ bg ≤ (S.take k).flatten.length ∧ out.length ≤ k)
      (fun cd V => cd = .ret ∧ ∃ ts v, xx = some ts ∧ Blk V (B + 2) #[v] 44 ∧ Blk V (B + 3) #[.bool true] 4 ∧ V.ownsRow (Z + 12) 22 1 v ts.length (ts.map (cutV a c)) ∧ Below w.heap.size w V) ?cI ?cX ?cG ?c0
      (fun x => { tmps := #[.slice a n c, .agg #[.string ty, .string sub, .slice ka kn kc], .pointer (some ⟨B, 0, none⟩), .pointer (some ⟨B + 1, 0, none⟩), .pointer (some ⟨B + 1 + 1, 0, none⟩), .pointer (some ⟨B + 1 + 1 + 1, 0, none⟩), .string s, .bool true, .pointer (some ⟨Z, 0, none⟩), .pointer (some ⟨Z + 1, 0, none⟩), .pointer (some ⟨Z + 1 + 1, 0, none⟩), .pointer (some ⟨Z + 1 + 1 + 1, 0, none⟩), .pointer (some ⟨Z + 1 + 1 + 1 + 1, 0, none⟩), .pointer (some ⟨Z + 1 + 1 + 1 + 1 + 1, 0, none⟩), x.getD 0 undef, undef, .tuple #[.string s, .bool true], .agg #[.string ty, .string sub, .slice ka kn kc], .tuple #[.string s, .bool true], .string s, .bool true, .bool true, .bool false, .string s, .string nx, .string s, .string nx, .string la, .slice a n c, .slice (some ⟨Z + 1 + 1 + 1 + 1 + 1 + 1, 0, none⟩) 2 2, .slice (some ⟨Z + 6, 0, none⟩) 2 2, .func (.func 141) #[] #[.pointer (some ⟨Z + 7 + 1, 0, none⟩), .pointer (some ⟨Z + 7, 0, none⟩), .pointer (some ⟨Z + 7 + 2, 0, none⟩)], x.getD 0 undef, undef, undef, undef, undef, undef, undef, undef, undef, undef, undef, undef, undef, undef, undef, undef, undef, undef, undef, undef, undef, undef, undef, undef, undef, undef, undef, undef, undef, undef, undef, undef, undef, undef, undef, undef, undef, undef, undef, undef, undef, undef, undef], defers := [] }) ?assign ?body ?done ?stop
    case ps =>
      intro k x hx
      rw [← hSe] at hx
      obtain ⟨q, a', _, rfl, _⟩ := sbV_at2 n l a c k x (by rw [HL.out]; exact hcap) hx
      rfl
    case cI =>
      rintro k V V' ⟨bg, op, out, h1, h2⟩ ht
      exact ⟨bg, op, out, h1.tg ht HBE.out hz1 (fun b hb => by have := HZ10.out; omega), h2⟩
    case cX =>
      rintro cd V V' ⟨h1, ts, v, h2, h3, h4, h5, h6⟩ ht
      have hbe := HBE.out
      have hz := HZ10.out
      exact ⟨h1, ts, v, h2, ht.kept h3 (by omega), ht.kept h4 (by omega), own_tg h5 ht (fun b hb => by omega), below_tg h6 h6.size ht (fun b hb => by omega)⟩
    case cG =>
      rintro k V ⟨bg, op, out, h1, h2⟩
      exact GBV k V bg op out h1
    case c0 => exact ⟨0, false, [], HJ0.out, HX.out, (fun q => by cases q), by simp, by simp⟩
    case assign =>
      intro i k x V K hx hK
      rw [← hSe] at hx
      obtain ⟨q, a', _, rfl, _⟩ := sbV_at2 n l a c k x (by rw [HL.out]; exact hcap) hx
      gi_wp2
      exact hK
    case body =>
      rintro i k x V hx ⟨bg, op, out, hJ, hE, hop, hbg, hol⟩ hsz hob
      have hkS : k < n + 2 := by
        have := (List.getElem?_eq_some_iff.1 hx).1
        rw [← hSe, sbV_len] at this
        have := split_count n l
        omega
      have hz10 := HZ10.out
      rw [← hSe] at hx
      obtain ⟨q, a', hq, rfl, hrow⟩ := sbV_at2 n l a c k x (by rw [HL.out]; exact hcap) hx
      rw [hSe] at hq
      have hqm : ∀ y ∈ q, y ∈ l := fun y hy => by
        have hfl := split_flat n l
        rw [hSe] at hfl
        rw [← hfl]; exact List.mem_flatten.2 ⟨q, List.mem_of_getElem? hq, hy⟩
      have hqb : Byt q := fun y hy => HBY.out y (hqm y hy)
      have hfs := flat_succ hq
      have hfle := flat_le S (k + 1)
      rw [HSF.out, hfs] at hfle
      obtain ⟨p, hp⟩ : ∃ p, (S.take k).flatten.length = p := ⟨_, rfl⟩
      rw [hp] at hfs hfle hbg hE
      obtain ⟨ql, hqle⟩ : ∃ ql, q.length = ql := ⟨_, rfl⟩
      have HQ : Hid (S[k]? = some q) := hq
      have HP : Hid ((S.take k).flatten.length = p) := hp
      have HQL : Hid (q.length = ql) := hqle
      have HE : Hid (xx = betwL (nums nx) p bg op out (S.drop k)) := hE
      rw [hqle] at hfle
      have hrV := hrow V (row_below HR.out (by obtain ⟨v, h1, _⟩ := hJ; exact h1))
      have kcp := conv_const V #[.int .u8 13, .int .u8 10] 2 2 V.heap.size rfl
      have hk1 := keep V (.cells #[.int .u8 13, .int .u8 10] 5 (2, 3))
      have hpr : PrB (V.alloc (.cells #[.int .u8 13, .int .u8 10] 5 (2, 3))) V.heap.size := World.alloc_heap_new V _
      have hts := trimSuffix_any a' (some ⟨V.heap.size, 0, none⟩) ql ql 2 q (V.alloc (.cells #[.int .u8 13, .int .u8 10] 5 (2, 3))) hqle hqb (row_below hrV hk1) hpr.row (Nat.le_refl _) (by omega)
      obtain ⟨ms, hms, est⟩ := stem_take q
      have hsb : Byt (stemZ q) := by rw [est]; exact fun y hy => hqb y (List.mem_of_mem_take hy)
      have hsl : (stemZ q).length ≤ ql := by rw [est, List.length_take]; omega
      have hrS : Row (V.alloc (.cells #[.int .u8 13, .int .u8 10] 5 (2, 3))) a' (stemZ q) := by rw [est]; exact row_take ms (row_below hrV hk1)
      have htr := trimRight_any a' (stemZ q).length ql (stemZ q) (V.alloc (.cells #[.int .u8 13, .int .u8 10] 5 (2, 3))) rfl hsl (by omega) hrS hsb
      obtain ⟨sl, hsle⟩ : ∃ sl, (stemZ q).length = sl := ⟨_, rfl⟩
      rw [hsle] at hts htr
      have hbt := bare_take q
      have hbb : Byt (bareZ q) := by rw [hbt]; exact fun y hy => hqb y (List.mem_of_mem_take hy)
      have HRB : Hid (∀ W, Below V.heap.size V W → Row W a' (bareZ q)) := fun W hW => by rw [hbt]; exact row_take _ (row_below hrV hW)
      have ebr : (trimR (stemZ q)).length = (bareZ q).length := rfl
      rw [ebr] at htr
      obtain ⟨bl, hble⟩ : ∃ bl, (bareZ q).length = bl := ⟨_, rfl⟩
      rw [hble] at htr
      have hbl : bl ≤ ql := by rw [← hble, ← hqle, hbt, List.length_take]; omega
      have HBL : Hid ((bareZ q).length = bl) := hble
      obtain ⟨bs, hbs⟩ : ∃ bs, strOfNums (bareZ q) = bs := ⟨_, rfl⟩
      have HBS : Hid (nums bs = bareZ q) := by unfold Hid; rw [← hbs]; exact nums_str hbb
      have HBSE : Hid (strOfNums (bareZ q) = bs) := hbs
      have HJ : Hid (BJ w B Z a n c nx la S bg op out k V) := hJ
      have HNA : Hid (2 ≤ n → ∃ ab ao, a = some ⟨ab, ao, none⟩) := fun h2 => by
        rcases HR.out with h | ⟨b, off, h, _⟩
        · rw [← HL.out, h] at h2; simp at h2
        · exact ⟨b, off, h⟩
      have hVz : Z + 12 ≤ V.heap.size := by omega
      show Code.wpIn _ _ _ _ _ { tmps := #[.slice a n c, .agg #[.string ty, .string sub, .slice ka kn kc], .pointer (some ⟨B, 0, none⟩), .pointer (some ⟨B + 1, 0, none⟩), .pointer (some ⟨B + 1 + 1, 0, none⟩), .pointer (some ⟨B + 1 + 1 + 1, 0, none⟩), .string s, .bool true, .pointer (some ⟨Z, 0, none⟩), .pointer (some ⟨Z + 1, 0, none⟩), .pointer (some ⟨Z + 1 + 1, 0, none⟩), .pointer (some ⟨Z + 1 + 1 + 1, 0, none⟩), .pointer (some ⟨Z + 1 + 1 + 1 + 1, 0, none⟩), .pointer (some ⟨Z + 1 + 1 + 1 + 1 + 1, 0, none⟩), .slice a' q.length q.length, undef, .tuple #[.string s, .bool true], .agg #[.string ty, .string sub, .slice ka kn kc], .tuple #[.string s, .bool true], .string s, .bool true, .bool true, .bool false, .string s, .string nx, .string s, .string nx, .string la, .slice a n c, .slice (some ⟨Z + 1 + 1 + 1 + 1 + 1 + 1, 0, none⟩) 2 2, .slice (some ⟨Z + 6, 0, none⟩) 2 2, .func (.func 141) #[] #[.pointer (some ⟨Z + 7 + 1, 0, none⟩), .pointer (some ⟨Z + 7, 0, none⟩), .pointer (some ⟨Z + 7 + 2, 0, none⟩)], .slice a' q.length q.length, undef, undef, undef, undef, undef, undef, undef, undef, undef, undef, undef, undef, undef, undef, undef, undef, undef, undef, undef, undef, undef, undef, undef, undef, undef, undef, undef, undef, undef, undef, undef, undef, undef, undef, undef, undef, undef, undef, undef, undef, undef, undef], defers := [] } _
      clear hx hE hJ hrow hqm hqb hrV hrS hsb hms est hbt hbb ebr hble hbs hsle hp hq hit0 GBV hfs hpr
      rw [hqle]
      clear hqle
      gi_wp2_with fail
      refine ⟨trivial, (CallsIn.inRound i (callsIn_wide.2 hts)).mono ?_⟩
      rintro e V0 ⟨rfl, rfl⟩
      clear hts kcp
      gi_wp2_with fail
      refine ⟨trivial, (CallsIn.inRound i (callsIn_wide.2 htr)).mono ?_⟩
      rintro e V2 ⟨rfl, hb2⟩
      have hVV2 : Below V.heap.size V V2 := hk1.trans (hb2.mono (by simp))
      have kcb := conv_row bl ql HBL.out (HRB.out V2 hVV2)
      rw [HBSE.out] at kcb
      have hJ2 : BJ w B Z a n c nx la S bg op out k V2 := HJ.out.tg (O := fun _ => False) (.of_below hVV2) HBE.out hz1 (fun b h => h.elim)
      have HV2 : Hid (Below V.heap.size V V2) := hVV2
      have HJ2 : Hid (BJ w B Z a n c nx la S bg op out k V2) := hJ2
      obtain ⟨x0, xn, xl, x3, x4, x5, f3, f4, f5, f2, y2, y3, g2, g3⟩ := hJ2.facts HP.out
      have hVz2 : Z + 12 ≤ V2.heap.size := by have := hVV2.size; omega
      have hbe := HBE.out
      clear hb2 htr hk1 hVV2 HJ hJ2
      have same : ∀ (W : World), (∀ b, b < V2.heap.size → b ≠ Z + 2 → b ≠ Z + 3 → b ≠ Z + 4 → b ≠ Z + 5 → b < Z + 12 → W.heap[b]? = V2.heap[b]?) → ∀ b, b = Z + 7 ∨ b = w10.heap.size ∨ b = w10.heap.size + 1 → W.heap[b]? = V.heap[b]? := fun W h b hb => by
        rw [h b (by omega) (by omega) (by omega) (by omega) (by omega) (by omega)]
        exact HV2.out.block b (by omega)
      have HSM : Hid (∀ (W : World), (∀ b, b < V2.heap.size → b ≠ Z + 2 → b ≠ Z + 3 → b ≠ Z + 4 → b ≠ Z + 5 → b < Z + 12 → W.heap[b]? = V2.heap[b]?) → ∀ b, b = Z + 7 ∨ b = w10.heap.size ∨ b = w10.heap.size + 1 → W.heap[b]? = V.heap[b]?) := same
      clear same
      have en := eq_nums bs nx
      have el := eq_nums bs la
      rw [HBS.out] at en el
      have HNL : Hid (nums nx ≠ nums la) := fun h => by rw [HNN.out] at h; have := congrArg List.length h; simp at this
      cases op with
      | false =>
        have HPN : Hid ((S.take (k + 1)).flatten.length = p + ql) := by unfold Hid; rw [flat_succ HQ.out, HP.out, HQL.out]
        by_cases hbn : bareZ q = nums nx
        · rw [decide_eq_true hbn] at en
          have en2 : bs.toList = nx.toList := by simpa using en
          have HX2 : Hid (xx = betwL (nums nx) (p + ql) (p + ql) true out (S.drop (k + 1))) := by
            unfold Hid
            rw [HE.out, bt_next HQ.out (by rintro ⟨h, _⟩; cases h), if_pos hbn, decide_eq_true hbn, if_neg (by rintro ⟨h, _⟩; cases h), HQL.out]
            rfl
          have hql2 : 2 ≤ ql := by
            have h1 := HBL.out
            rw [hbn, nums_len] at h1
            omega
          clear en el hbn
          gi_wp2
          refine ⟨⟨p + ql, true, out, ?_, ?_, fun _ => by omega, ?_, by omega⟩, HSM.out _ ?_⟩
          · have := (HJ2.out.at HBE.out hz1 HQ.out (p := p + ql) (by rw [HP.out, HQL.out])).bg (p + ql) HBE.out hz1
            simpa using this
          · rw [HPN.out]; exact HX2.out
          · rw [HPN.out]; omega
          · intro b _ h2 h3 h4 h5 _
            rw [heap_setCell_other _ _ _ _ (by simp; omega), heap_setCell_other _ _ _ _ (by simp; omega), heap_setCell_other _ _ _ _ (by simp; omega)]
        · rw [decide_eq_false hbn] at en
          have en2 : ¬ bs.toList = nx.toList := by simpa using en
          have HX2 : Hid (xx = betwL (nums nx) (p + ql) bg false out (S.drop (k + 1))) := by
            unfold Hid
            rw [HE.out, bt_next HQ.out (by rintro ⟨h, _⟩; cases h), if_neg hbn, decide_eq_false hbn, if_neg (by rintro ⟨h, _⟩; cases h), HQL.out]
            rfl
          clear el hbn
          gi_wp2
          refine ⟨⟨bg, false, out, ?_, ?_, (fun h => by cases h), ?_, by omega⟩, HSM.out _ ?_⟩
          · have := HJ2.out.at HBE.out hz1 HQ.out (p := p + ql) (by rw [HP.out, HQL.out])
            simpa using this
          · rw [HPN.out]; exact HX2.out
          · rw [HPN.out]; omega
          · intro b _ h2 h3 h4 h5 _
            rw [heap_setCell_other _ _ _ _ (by simp; omega)]
      | true =>
        have hbg2 := hop rfl
        have HPN : Hid ((S.take (k + 1)).flatten.length = p + ql) := by unfold Hid; rw [flat_succ HQ.out, HP.out, HQL.out]
        obtain ⟨ab, ao, rfl⟩ := HNA.out (by omega)
        obtain ⟨mx, hmx⟩ : ∃ mx, max bg (p - 2) = mx := ⟨_, rfl⟩
        have hmx1 : bg ≤ mx ∧ mx ≤ p := by omega
        have hmxi : max (bg : Int) ((p : Int) - 2) = (mx : Int) := by omega
        obtain ⟨v, hv2, ho2⟩ : ∃ v, Blk V2 (Z + 2) #[v] 44 ∧ V2.ownsRow (Z + 12) 22 1 v out.length (out.map (cutV (some ⟨ab, ao, none⟩) c)) := by
          obtain ⟨v, _, _, _, _, _, _, h7, h8, _⟩ := HJ2.out
          exact ⟨v, h7, h8⟩
        have x2 := cell1 hv2
        have HVB : Hid (Blk V2 (Z + 2) #[v] 44) := hv2
        have HO2 : Hid (V2.ownsRow (Z + 12) 22 1 v out.length (out.map (cutV (some ⟨ab, ao, none⟩) c))) := ho2
        have hk2 := keep V2 (.cells #[(.slice (some ⟨ab, ao + bg, none⟩) (mx - bg) (c - bg))] 22)
        have HO3 : Hid ((V2.alloc (.cells #[(.slice (some ⟨ab, ao + bg, none⟩) (mx - bg) (c - bg))] 22)).drew.ownsRow (Z + 12) 22 1 v out.length (out.map (cutV (some ⟨ab, ao, none⟩) c))) := own_keep ho2 (below_drew hk2)
        have x2a : (V2.alloc (.cells #[(.slice (some ⟨ab, ao + bg, none⟩) (mx - bg) (c - bg))] 22)).cell? ⟨Z + 2, 0, none⟩ = some v := keep_cell hk2 x2
        obtain ⟨j0, hi, hz0, hz1', hz2⟩ := info_parts Tryz.info22
        obtain ⟨hm1, hm2⟩ := hmx1
        have hout : out.length ≤ 3000000 := by omega
        clear hv2 ho2 hk2
        by_cases hbn : bareZ q = nums nx
        · rw [decide_eq_true hbn] at en
          have enl : (nx.toList == la.toList) = false := by rw [eq_nums, decide_eq_false HNL.out]
          have enl2 : ¬ nx.toList = la.toList := by simpa using enl
          have en2 : bs.toList = nx.toList := by simpa using en
          have hql2 : 2 ≤ ql := by
            have h1 := HBL.out
            rw [hbn, nums_len] at h1
            omega
          have HX2 : Hid (xx = betwL (nums nx) (p + ql) (p + ql) true (out ++ [(bg, mx)]) (S.drop (k + 1))) := by
            unfold Hid
            rw [HE.out, bt_next HQ.out (by rintro ⟨_, h⟩; rw [hbn, ← HNN.out] at h; exact HNL.out h), if_pos hbn, decide_eq_true hbn, if_pos ⟨rfl, hbn⟩, HQL.out, hmx]
            rfl
          have el2 : ¬ bs.toList = la.toList := by
            intro h
            have h2 := eq_nums bs la
            rw [h] at h2
            simp at h2
            exact HNL.out (by rw [← hbn, ← HBS.out, h2])
          have hcb : ¬ c = bg := by omega
          have hmc : ¬ c < mx := by omega
          have hwp : IntKind.i64.wrap ((p : Int) - 2) = (p : Int) - 2 := by rw [IntKind.wrap_i64]; omega
          clear en el hbn
          gi_wp2
          refine region_round (S := (fun W => W.cell? ⟨B, 0, none⟩ = some (.slice (some ⟨ab, ao, none⟩) n c) ∧ W.cell? ⟨Z + 4, 0, none⟩ = some (.int .i64 (bg : Nat)) ∧ W.cell? ⟨Z + 3, 0, none⟩ = some (.int .i64 (p : Nat)))) (by kernel_rfl) (by kernel_rfl) ?lo ⟨x0, x4, x3⟩ (fun hHeld => ?_)
          case lo => rintro ⟨_, _, q⟩; exact q
          refine takeD (some 51) (i := 1) (v := (.slice (some ⟨ab, ao, none⟩) n c)) rfl rfl (by kernel_rfl) (by kernel_rfl) (by kernel_rfl) (fun _ _ _ h => h) (Or.inl ⟨by kernel_rfl, ?_⟩) (by assumption) ?_
          · (intro w hSw; (try dsimp only at hSw); go_simp)
          (try simp only [Act.put, List.setIfInBounds_toArray, List.set_cons_zero, List.set_cons_succ])
          refine takeD (some 52) (i := 2) (v := (.int .i64 (bg : Nat))) rfl rfl (by kernel_rfl) (by kernel_rfl) (by kernel_rfl) (fun _ _ _ h => h) (Or.inl ⟨by kernel_rfl, ?_⟩) (by assumption) ?_
          · (intro w hSw; (try dsimp only at hSw); go_simp)
          (try simp only [Act.put, List.setIfInBounds_toArray, List.set_cons_zero, List.set_cons_succ])
          refine takeD (some 53) (i := 3) (v := (.int .i64 (bg : Nat))) rfl rfl (by kernel_rfl) (by kernel_rfl) (by kernel_rfl) (fun _ _ _ h => h) (Or.inl ⟨by kernel_rfl, ?_⟩) (by assumption) ?_
          · (intro w hSw; (try dsimp only at hSw); go_simp)
          (try simp only [Act.put, List.setIfInBounds_toArray, List.set_cons_zero, List.set_cons_succ])
          refine takeD (some 54) (i := 4) (v := (.int .i64 (p : Nat))) rfl rfl (by kernel_rfl) (by kernel_rfl) (by kernel_rfl) (fun _ _ _ h => h) (Or.inl ⟨by kernel_rfl, ?_⟩) (by assumption) ?_
          · (intro w hSw; (try dsimp only at hSw); go_simp)
          (try simp only [Act.put, List.setIfInBounds_toArray, List.set_cons_zero, List.set_cons_succ])
          refine takeD (some 55) (i := 5) (v := (.int .i64 ((p : Int) - 2))) rfl rfl (by kernel_rfl) (by kernel_rfl) (by kernel_rfl) (fun _ _ _ h => h) (Or.inl ⟨by kernel_rfl, ?_⟩) (by assumption) ?_
          · (intro w hSw; (try dsimp only at hSw); go_simp)
          (try simp only [Act.put, List.setIfInBounds_toArray, List.set_cons_zero, List.set_cons_succ])
          refine takeD (some 56) (i := 6) (v := (.int .i64 (mx : Nat))) rfl rfl (by kernel_rfl) (by kernel_rfl) (by kernel_rfl) (fun _ _ _ h => h) (Or.inl ⟨by kernel_rfl, ?_⟩) (by assumption) ?_
          · (intro w hSw; (try dsimp only at hSw); go_simp)
          (try simp only [Act.put, List.setIfInBounds_toArray, List.set_cons_zero, List.set_cons_succ])
          refine takeD (some 57) (i := 7) (v := (.slice (some ⟨ab, ao + bg, none⟩) (mx - bg) (c - bg))) rfl rfl (by kernel_rfl) (by kernel_rfl) (by kernel_rfl) (fun _ _ _ h => h) (Or.inl ⟨by kernel_rfl, ?_⟩) (by assumption) ?_
          · (intro w hSw; (try dsimp only at hSw); go_simp)
          (try simp only [Act.put, List.setIfInBounds_toArray, List.set_cons_zero, List.set_cons_succ])
          refine wpAnyH_ready (rs := [0, 8]) (by kernel_rfl) (by simp) ?_
          refine AllReadyH.cons rfl (fun K hK => ?_) (AllReadyH.cons rfl (fun K hK => ?_) AllReadyH.nil)
          · go_simp
            refine hK.out _ _ hHeld (fun hHeld => ?_)
            clear hK K
            (try simp only [Act.put, List.setIfInBounds_toArray, List.set_cons_zero, List.set_cons_succ])
            refine wpAnyH_ready (rs := [8]) (by kernel_rfl) (by simp) ?_
            refine AllReadyH.cons rfl (fun K hK => ?_) AllReadyH.nil
            go_simp
            refine hK.out _ _ ⟨keep_cell (keep _ _) hHeld.1, keep_cell (keep _ _) hHeld.2.1, keep_cell (keep _ _) hHeld.2.2⟩ (fun hHeld => ?_)
            clear hK K
            (try simp only [Act.put, List.setIfInBounds_toArray, List.set_cons_zero, List.set_cons_succ])
            refine wpAnyH_ready (rs := [9]) (by kernel_rfl) (by simp) ?_
            refine AllReadyH.cons rfl (fun K hK => ?_) AllReadyH.nil
            refine step_append_lies _ rfl (.tmp 50) (.tmp 58) 44 rfl (Z + 12) 22 j0 _ 1 24 Tryz.underlying44 hi hz0 hz1' hz2 rfl (by decide) v out.length (out.map (cutV (some ⟨ab, ao, none⟩) c)) rfl HO3.out ⟨V2.heap.size, 0, none⟩ 1 1 [(.slice (some ⟨ab, ao + bg, none⟩) (mx - bg) (c - bg))] rfl rfl (fun j u hu => cells_new V2 [(.slice (some ⟨ab, ao + bg, none⟩) (mx - bg) (c - bg))] 22 j u hu) (by intro u hu; simp at hu; subst hu; rfl) (by decide) (by unfold maxLen; omega) (by omega) (by first | (simp; done) | (simp; omega) | omega) _ rfl ?_
            intro g5 cap5 V3 hown3 hgrow3 _ _
            have key3 : ∀ b, b < Z + 12 → V3.heap[b]? = V2.heap[b]? := fun b hb => (grown_blk HO3.out hgrow3 (by simp; omega) hb).trans (Below.heap_alloc V2 _ b (by omega))
            have HB3 : Hid (∀ b cs ty, Blk V2 b cs ty → b < Z + 12 → Blk V3 b cs ty) := fun b cs ty h hb => (key3 b hb).trans h
            obtain ⟨_, _, e2, _, _, _, _, _, _, e9, e10, _⟩ := HJ2.out
            rw [HP.out] at e9
            have s2 := cell1 (HB3.out _ _ _ HVB.out (by omega))
            have sf := (HB3.out _ _ _ HVB.out (by omega)).frozen 0
            have s0 := cell1 (HB3.out _ _ _ e2 (by omega))
            have s4 := cell1 (HB3.out _ _ _ e10 (by omega))
            have s3 := cell1 (HB3.out _ _ _ e9 (by omega))
            refine hK.out _ _ ⟨s0, s4, s3⟩ (fun hHeld => ?_)
            clear hK K e2 e9 e10
            (try simp only [Act.put, List.setIfInBounds_toArray, List.set_cons_zero, List.set_cons_succ])
            refine wpAnyH_ready (rs := [10]) (by kernel_rfl) (by simp) ?_
            refine AllReadyH.cons rfl (fun K hK => ?_) AllReadyH.nil
            go_simp
            refine hK.out _ _ ⟨by rw [World.cell?_setCell_other _ _ _ _ (by first | (simp; done) | (simp; omega))]; exact s0, by rw [World.cell?_setCell_other _ _ _ _ (by simp)]; exact s4, by rw [World.cell?_setCell_other _ _ _ _ (by simp)]; exact s3⟩ (fun hHeld => ?_)
            clear hK K
            (try simp only [Act.put, List.setIfInBounds_toArray, List.set_cons_zero, List.set_cons_succ])
            refine wpAnyH_done (by kernel_rfl) ?_ _
            have hJ3 : BJ w B Z (some ⟨ab, ao, none⟩) n c nx la S bg true out k (V2.alloc (.cells #[(.slice (some ⟨ab, ao + bg, none⟩) (mx - bg) (c - bg))] 22)).drew := HJ2.out.tg (O := fun _ => False) (.of_below (below_drew (keep V2 _))) HBE.out hz1 (fun b h => h.elim)
            have hcv : cutV (some ⟨ab, ao, none⟩) c (bg, mx) = .slice (some ⟨ab, ao + bg, none⟩) (mx - bg) (c - bg) := by unfold cutV dropA; rw [if_neg hcb]; simp [add_plain]
            rw [← hcv] at hown3
            have hvb : Blk (V2.alloc (.cells #[(.slice (some ⟨ab, ao + bg, none⟩) (mx - bg) (c - bg))] 22)).drew (Z + 2) #[v] 44 := HVB.out.below (below_drew (keep V2 _)) HVB.out.lt
            obtain ⟨hJ4, _⟩ := hJ3.app (x := (bg, mx)) hvb HO3.out HBE.out hz1 hgrow3 (by first | (simp; done) | (simp; omega)) hown3
            have HK4 : Hid (∀ b, b < Z + 12 → b ≠ Z + 2 → (V3.setCell ⟨Z + 2, 0, none⟩ (.slice (some ⟨g5, 0, none⟩) (out.length + 1) cap5)).heap[b]? = V2.heap[b]?) := fun b hb hne => (heap_setCell_other _ _ _ _ (by simp; omega)).trans (key3 b hb)
            have HW4 : Hid (Blk (V3.setCell ⟨Z + 2, 0, none⟩ (.slice (some ⟨g5, 0, none⟩) (out.length + 1) cap5)) (Z + 2) #[.slice (some ⟨g5, 0, none⟩) (out.length + 1) cap5] 44) := (HB3.out _ _ _ HVB.out (by omega)).same0 _
            have HO4 : Hid ((V3.setCell ⟨Z + 2, 0, none⟩ (.slice (some ⟨g5, 0, none⟩) (out.length + 1) cap5)).ownsRow (Z + 12) 22 1 (.slice (some ⟨g5, 0, none⟩) (out.length + 1) cap5) (out ++ [(bg, mx)]).length ((out ++ [(bg, mx)]).map (cutV (some ⟨ab, ao, none⟩) c))) := by unfold Hid; rw [List.length_append, List.map_append]; exact own_set (by omega) hown3
            have hVz4 : Z + 12 ≤ (V3.setCell ⟨Z + 2, 0, none⟩ (.slice (some ⟨g5, 0, none⟩) (out.length + 1) cap5)).heap.size := by have := hgrow3.size; rw [size_setCell']; simp at this; omega
            generalize V3.setCell ⟨Z + 2, 0, none⟩ (.slice (some ⟨g5, 0, none⟩) (out.length + 1) cap5) = V4 at hJ4 HK4 HW4 HO4 hVz4 ⊢
            have HJ4 : Hid (BJ w B Z (some ⟨ab, ao, none⟩) n c nx la S bg true (out ++ [(bg, mx)]) k V4) := hJ4
            obtain ⟨w0, wn, wl, w3, w4', w5, v3, v4, v5, v2, z2, z3, u2, u3⟩ := hJ4.facts HP.out
            clear hHeld hJ3 hJ4 hown3 hgrow3 hvb s0 s2 s3 s4 sf key3 HB3 x0 xn xl x3 x4 x5 f3 f4 f5 f2 y2 y3 g2 g3 x2 x2a
            gi_wp2
            refine ⟨⟨p + ql, true, out ++ [(bg, mx)], ?_, ?_, fun _ => by omega, ?_, by rw [List.length_append]; simp; omega⟩, HSM.out _ ?_⟩
            · have := (HJ4.out.at HBE.out hz1 HQ.out (p := p + ql) (by rw [HP.out, HQL.out])).bg (p + ql) HBE.out hz1
              simpa using this
            · rw [HPN.out]; exact HX2.out
            · rw [HPN.out]; omega
            · intro b _ h2 h3 h4 h5 hb
              rw [heap_setCell_other _ _ _ _ (by simp; omega), heap_setCell_other _ _ _ _ (by simp; omega), heap_setCell_other _ _ _ _ (by simp; omega)]
              exact HK4.out b hb h2
          · go_simp
            refine hK.out _ _ ⟨keep_cell (keep _ _) hHeld.1, keep_cell (keep _ _) hHeld.2.1, keep_cell (keep _ _) hHeld.2.2⟩ (fun hHeld => ?_)
            clear hK K
            (try simp only [Act.put, List.setIfInBounds_toArray, List.set_cons_zero, List.set_cons_succ])
            refine wpAnyH_ready (rs := [0]) (by kernel_rfl) (by simp) ?_
            refine AllReadyH.cons rfl (fun K hK => ?_) AllReadyH.nil
            go_simp
            refine hK.out _ _ hHeld (fun hHeld => ?_)
            clear hK K
            (try simp only [Act.put, List.setIfInBounds_toArray, List.set_cons_zero, List.set_cons_succ])
            refine wpAnyH_ready (rs := [9]) (by kernel_rfl) (by simp) ?_
            refine AllReadyH.cons rfl (fun K hK => ?_) AllReadyH.nil
            refine step_append_lies _ rfl (.tmp 50) (.tmp 58) 44 rfl (Z + 12) 22 j0 _ 1 24 Tryz.underlying44 hi hz0 hz1' hz2 rfl (by decide) v out.length (out.map (cutV (some ⟨ab, ao, none⟩) c)) rfl HO3.out ⟨V2.heap.size, 0, none⟩ 1 1 [(.slice (some ⟨ab, ao + bg, none⟩) (mx - bg) (c - bg))] rfl rfl (fun j u hu => cells_new V2 [(.slice (some ⟨ab, ao + bg, none⟩) (mx - bg) (c - bg))] 22 j u hu) (by intro u hu; simp at hu; subst hu; rfl) (by decide) (by unfold maxLen; omega) (by omega) (by first | (simp; done) | (simp; omega) | omega) _ rfl ?_
            intro g5 cap5 V3 hown3 hgrow3 _ _
            have key3 : ∀ b, b < Z + 12 → V3.heap[b]? = V2.heap[b]? := fun b hb => (grown_blk HO3.out hgrow3 (by simp; omega) hb).trans (Below.heap_alloc V2 _ b (by omega))
            have HB3 : Hid (∀ b cs ty, Blk V2 b cs ty → b < Z + 12 → Blk V3 b cs ty) := fun b cs ty h hb => (key3 b hb).trans h
            obtain ⟨_, _, e2, _, _, _, _, _, _, e9, e10, _⟩ := HJ2.out
            rw [HP.out] at e9
            have s2 := cell1 (HB3.out _ _ _ HVB.out (by omega))
            have sf := (HB3.out _ _ _ HVB.out (by omega)).frozen 0
            have s0 := cell1 (HB3.out _ _ _ e2 (by omega))
            have s4 := cell1 (HB3.out _ _ _ e10 (by omega))
            have s3 := cell1 (HB3.out _ _ _ e9 (by omega))
            refine hK.out _ _ ⟨s0, s4, s3⟩ (fun hHeld => ?_)
            clear hK K e2 e9 e10
            (try simp only [Act.put, List.setIfInBounds_toArray, List.set_cons_zero, List.set_cons_succ])
            refine wpAnyH_ready (rs := [10]) (by kernel_rfl) (by simp) ?_
            refine AllReadyH.cons rfl (fun K hK => ?_) AllReadyH.nil
            go_simp
            refine hK.out _ _ ⟨by rw [World.cell?_setCell_other _ _ _ _ (by first | (simp; done) | (simp; omega))]; exact s0, by rw [World.cell?_setCell_other _ _ _ _ (by simp)]; exact s4, by rw [World.cell?_setCell_other _ _ _ _ (by simp)]; exact s3⟩ (fun hHeld => ?_)
            clear hK K
            (try simp only [Act.put, List.setIfInBounds_toArray, List.set_cons_zero, List.set_cons_succ])
            refine wpAnyH_done (by kernel_rfl) ?_ _
            have hJ3 : BJ w B Z (some ⟨ab, ao, none⟩) n c nx la S bg true out k (V2.alloc (.cells #[(.slice (some ⟨ab, ao + bg, none⟩) (mx - bg) (c - bg))] 22)).drew := HJ2.out.tg (O := fun _ => False) (.of_below (below_drew (keep V2 _))) HBE.out hz1 (fun b h => h.elim)
            have hcv : cutV (some ⟨ab, ao, none⟩) c (bg, mx) = .slice (some ⟨ab, ao + bg, none⟩) (mx - bg) (c - bg) := by unfold cutV dropA; rw [if_neg hcb]; simp [add_plain]
            rw [← hcv] at hown3
            have hvb : Blk (V2.alloc (.cells #[(.slice (some ⟨ab, ao + bg, none⟩) (mx - bg) (c - bg))] 22)).drew (Z + 2) #[v] 44 := HVB.out.below (below_drew (keep V2 _)) HVB.out.lt
            obtain ⟨hJ4, _⟩ := hJ3.app (x := (bg, mx)) hvb HO3.out HBE.out hz1 hgrow3 (by first | (simp; done) | (simp; omega)) hown3
            have HK4 : Hid (∀ b, b < Z + 12 → b ≠ Z + 2 → (V3.setCell ⟨Z + 2, 0, none⟩ (.slice (some ⟨g5, 0, none⟩) (out.length + 1) cap5)).heap[b]? = V2.heap[b]?) := fun b hb hne => (heap_setCell_other _ _ _ _ (by simp; omega)).trans (key3 b hb)
            have HW4 : Hid (Blk (V3.setCell ⟨Z + 2, 0, none⟩ (.slice (some ⟨g5, 0, none⟩) (out.length + 1) cap5)) (Z + 2) #[.slice (some ⟨g5, 0, none⟩) (out.length + 1) cap5] 44) := (HB3.out _ _ _ HVB.out (by omega)).same0 _
            have HO4 : Hid ((V3.setCell ⟨Z + 2, 0, none⟩ (.slice (some ⟨g5, 0, none⟩) (out.length + 1) cap5)).ownsRow (Z + 12) 22 1 (.slice (some ⟨g5, 0, none⟩) (out.length + 1) cap5) (out ++ [(bg, mx)]).length ((out ++ [(bg, mx)]).map (cutV (some ⟨ab, ao, none⟩) c))) := by unfold Hid; rw [List.length_append, List.map_append]; exact own_set (by omega) hown3
            have hVz4 : Z + 12 ≤ (V3.setCell ⟨Z + 2, 0, none⟩ (.slice (some ⟨g5, 0, none⟩) (out.length + 1) cap5)).heap.size := by have := hgrow3.size; rw [size_setCell']; simp at this; omega
            generalize V3.setCell ⟨Z + 2, 0, none⟩ (.slice (some ⟨g5, 0, none⟩) (out.length + 1) cap5) = V4 at hJ4 HK4 HW4 HO4 hVz4 ⊢
            have HJ4 : Hid (BJ w B Z (some ⟨ab, ao, none⟩) n c nx la S bg true (out ++ [(bg, mx)]) k V4) := hJ4
            obtain ⟨w0, wn, wl, w3, w4', w5, v3, v4, v5, v2, z2, z3, u2, u3⟩ := hJ4.facts HP.out
            clear hHeld hJ3 hJ4 hown3 hgrow3 hvb s0 s2 s3 s4 sf key3 HB3 x0 xn xl x3 x4 x5 f3 f4 f5 f2 y2 y3 g2 g3 x2 x2a
            gi_wp2
            refine ⟨⟨p + ql, true, out ++ [(bg, mx)], ?_, ?_, fun _ => by omega, ?_, by rw [List.length_append]; simp; omega⟩, HSM.out _ ?_⟩
            · have := (HJ4.out.at HBE.out hz1 HQ.out (p := p + ql) (by rw [HP.out, HQL.out])).bg (p + ql) HBE.out hz1
              simpa using this
            · rw [HPN.out]; exact HX2.out
            · rw [HPN.out]; omega
            · intro b _ h2 h3 h4 h5 hb
              rw [heap_setCell_other _ _ _ _ (by simp; omega), heap_setCell_other _ _ _ _ (by simp; omega), heap_setCell_other _ _ _ _ (by simp; omega)]
              exact HK4.out b hb h2
        · by_cases hbl2 : bareZ q = nums la
          · rw [decide_eq_false hbn] at en
            rw [decide_eq_true hbl2] at el
            have en2 : ¬ bs.toList = nx.toList := by simpa using en
            have el2 : bs.toList = la.toList := by simpa using el
            have enl : (la.toList == nx.toList) = false := by rw [eq_nums, decide_eq_false (fun h => HNL.out h.symm)]
            have enl2 : ¬ la.toList = nx.toList := by simpa using enl
            have HX2 : Hid (xx = some (out ++ [(bg, mx)])) := by
              unfold Hid
              rw [HE.out, bt_last HQ.out (by rw [← HNN.out]; exact hbl2), hmx]
            have hql2 : 2 ≤ ql := by
              have h1 := HBL.out
              rw [hbl2, HNN.out, List.length_append] at h1
              simp at h1
              omega
            have hcb : ¬ c = bg := by omega
            have hmc : ¬ c < mx := by omega
            have hwp : IntKind.i64.wrap ((p : Int) - 2) = (p : Int) - 2 := by rw [IntKind.wrap_i64]; omega
            clear hbn hbl2
            gi_wp2
            refine region_round (S := (fun W => W.cell? ⟨B, 0, none⟩ = some (.slice (some ⟨ab, ao, none⟩) n c) ∧ W.cell? ⟨Z + 4, 0, none⟩ = some (.int .i64 (bg : Nat)) ∧ W.cell? ⟨Z + 3, 0, none⟩ = some (.int .i64 (p : Nat)))) (by kernel_rfl) (by kernel_rfl) ?lo ⟨x0, x4, x3⟩ (fun hHeld => ?_)
            case lo => rintro ⟨_, _, q⟩; exact q
            refine takeD (some 51) (i := 1) (v := (.slice (some ⟨ab, ao, none⟩) n c)) rfl rfl (by kernel_rfl) (by kernel_rfl) (by kernel_rfl) (fun _ _ _ h => h) (Or.inl ⟨by kernel_rfl, ?_⟩) (by assumption) ?_
            · (intro w hSw; (try dsimp only at hSw); go_simp)
            (try simp only [Act.put, List.setIfInBounds_toArray, List.set_cons_zero, List.set_cons_succ])
            refine takeD (some 52) (i := 2) (v := (.int .i64 (bg : Nat))) rfl rfl (by kernel_rfl) (by kernel_rfl) (by kernel_rfl) (fun _ _ _ h => h) (Or.inl ⟨by kernel_rfl, ?_⟩) (by assumption) ?_
            · (intro w hSw; (try dsimp only at hSw); go_simp)
            (try simp only [Act.put, List.setIfInBounds_toArray, List.set_cons_zero, List.set_cons_succ])
            refine takeD (some 53) (i := 3) (v := (.int .i64 (bg : Nat))) rfl rfl (by kernel_rfl) (by kernel_rfl) (by kernel_rfl) (fun _ _ _ h => h) (Or.inl ⟨by kernel_rfl, ?_⟩) (by assumption) ?_
            · (intro w hSw; (try dsimp only at hSw); go_simp)
            (try simp only [Act.put, List.setIfInBounds_toArray, List.set_cons_zero, List.set_cons_succ])
            refine takeD (some 54) (i := 4) (v := (.int .i64 (p : Nat))) rfl rfl (by kernel_rfl) (by kernel_rfl) (by kernel_rfl) (fun _ _ _ h => h) (Or.inl ⟨by kernel_rfl, ?_⟩) (by assumption) ?_
            · (intro w hSw; (try dsimp only at hSw); go_simp)
            (try simp only [Act.put, List.setIfInBounds_toArray, List.set_cons_zero, List.set_cons_succ])
            refine takeD (some 55) (i := 5) (v := (.int .i64 ((p : Int) - 2))) rfl rfl (by kernel_rfl) (by kernel_rfl) (by kernel_rfl) (fun _ _ _ h => h) (Or.inl ⟨by kernel_rfl, ?_⟩) (by assumption) ?_
            · (intro w hSw; (try dsimp only at hSw); go_simp)
            (try simp only [Act.put, List.setIfInBounds_toArray, List.set_cons_zero, List.set_cons_succ])
            refine takeD (some 56) (i := 6) (v := (.int .i64 (mx : Nat))) rfl rfl (by kernel_rfl) (by kernel_rfl) (by kernel_rfl) (fun _ _ _ h => h) (Or.inl ⟨by kernel_rfl, ?_⟩) (by assumption) ?_
            · (intro w hSw; (try dsimp only at hSw); go_simp)
            (try simp only [Act.put, List.setIfInBounds_toArray, List.set_cons_zero, List.set_cons_succ])
            refine takeD (some 57) (i := 7) (v := (.slice (some ⟨ab, ao + bg, none⟩) (mx - bg) (c - bg))) rfl rfl (by kernel_rfl) (by kernel_rfl) (by kernel_rfl) (fun _ _ _ h => h) (Or.inl ⟨by kernel_rfl, ?_⟩) (by assumption) ?_
            · (intro w hSw; (try dsimp only at hSw); go_simp)
            (try simp only [Act.put, List.setIfInBounds_toArray, List.set_cons_zero, List.set_cons_succ])
            refine wpAnyH_ready (rs := [0, 8]) (by kernel_rfl) (by simp) ?_
            refine AllReadyH.cons rfl (fun K hK => ?_) (AllReadyH.cons rfl (fun K hK => ?_) AllReadyH.nil)
            · go_simp
              refine hK.out _ _ hHeld (fun hHeld => ?_)
              clear hK K
              (try simp only [Act.put, List.setIfInBounds_toArray, List.set_cons_zero, List.set_cons_succ])
              refine wpAnyH_ready (rs := [8]) (by kernel_rfl) (by simp) ?_
              refine AllReadyH.cons rfl (fun K hK => ?_) AllReadyH.nil
              go_simp
              refine hK.out _ _ ⟨keep_cell (keep _ _) hHeld.1, keep_cell (keep _ _) hHeld.2.1, keep_cell (keep _ _) hHeld.2.2⟩ (fun hHeld => ?_)
              clear hK K
              (try simp only [Act.put, List.setIfInBounds_toArray, List.set_cons_zero, List.set_cons_succ])
              refine wpAnyH_ready (rs := [9]) (by kernel_rfl) (by simp) ?_
              refine AllReadyH.cons rfl (fun K hK => ?_) AllReadyH.nil
              refine step_append_lies _ rfl (.tmp 50) (.tmp 58) 44 rfl (Z + 12) 22 j0 _ 1 24 Tryz.underlying44 hi hz0 hz1' hz2 rfl (by decide) v out.length (out.map (cutV (some ⟨ab, ao, none⟩) c)) rfl HO3.out ⟨V2.heap.size, 0, none⟩ 1 1 [(.slice (some ⟨ab, ao + bg, none⟩) (mx - bg) (c - bg))] rfl rfl (fun j u hu => cells_new V2 [(.slice (some ⟨ab, ao + bg, none⟩) (mx - bg) (c - bg))] 22 j u hu) (by intro u hu; simp at hu; subst hu; rfl) (by decide) (by unfold maxLen; omega) (by omega) (by first | (simp; done) | (simp; omega) | omega) _ rfl ?_
              intro g5 cap5 V3 hown3 hgrow3 _ _
              have key3 : ∀ b, b < Z + 12 → V3.heap[b]? = V2.heap[b]? := fun b hb => (grown_blk HO3.out hgrow3 (by simp; omega) hb).trans (Below.heap_alloc V2 _ b (by omega))
              have HB3 : Hid (∀ b cs ty, Blk V2 b cs ty → b < Z + 12 → Blk V3 b cs ty) := fun b cs ty h hb => (key3 b hb).trans h
              obtain ⟨_, _, e2, _, _, _, _, _, _, e9, e10, _⟩ := HJ2.out
              rw [HP.out] at e9
              have s2 := cell1 (HB3.out _ _ _ HVB.out (by omega))
              have sf := (HB3.out _ _ _ HVB.out (by omega)).frozen 0
              have s0 := cell1 (HB3.out _ _ _ e2 (by omega))
              have s4 := cell1 (HB3.out _ _ _ e10 (by omega))
              have s3 := cell1 (HB3.out _ _ _ e9 (by omega))
              refine hK.out _ _ ⟨s0, s4, s3⟩ (fun hHeld => ?_)
              clear hK K e2 e9 e10
              (try simp only [Act.put, List.setIfInBounds_toArray, List.set_cons_zero, List.set_cons_succ])
              refine wpAnyH_ready (rs := [10]) (by kernel_rfl) (by simp) ?_
              refine AllReadyH.cons rfl (fun K hK => ?_) AllReadyH.nil
              go_simp
              refine hK.out _ _ ⟨by rw [World.cell?_setCell_other _ _ _ _ (by first | (simp; done) | (simp; omega))]; exact s0, by rw [World.cell?_setCell_other _ _ _ _ (by simp)]; exact s4, by rw [World.cell?_setCell_other _ _ _ _ (by simp)]; exact s3⟩ (fun hHeld => ?_)
              clear hK K
              (try simp only [Act.put, List.setIfInBounds_toArray, List.set_cons_zero, List.set_cons_succ])
              refine wpAnyH_done (by kernel_rfl) ?_ _
              have hJ3 : BJ w B Z (some ⟨ab, ao, none⟩) n c nx la S bg true out k (V2.alloc (.cells #[(.slice (some ⟨ab, ao + bg, none⟩) (mx - bg) (c - bg))] 22)).drew := HJ2.out.tg (O := fun _ => False) (.of_below (below_drew (keep V2 _))) HBE.out hz1 (fun b h => h.elim)
              have hcv : cutV (some ⟨ab, ao, none⟩) c (bg, mx) = .slice (some ⟨ab, ao + bg, none⟩) (mx - bg) (c - bg) := by unfold cutV dropA; rw [if_neg hcb]; simp [add_plain]
              rw [← hcv] at hown3
              have hvb : Blk (V2.alloc (.cells #[(.slice (some ⟨ab, ao + bg, none⟩) (mx - bg) (c - bg))] 22)).drew (Z + 2) #[v] 44 := HVB.out.below (below_drew (keep V2 _)) HVB.out.lt
              obtain ⟨hJ4, _⟩ := hJ3.app (x := (bg, mx)) hvb HO3.out HBE.out hz1 hgrow3 (by first | (simp; done) | (simp; omega)) hown3
              have HK4 : Hid (∀ b, b < Z + 12 → b ≠ Z + 2 → (V3.setCell ⟨Z + 2, 0, none⟩ (.slice (some ⟨g5, 0, none⟩) (out.length + 1) cap5)).heap[b]? = V2.heap[b]?) := fun b hb hne => (heap_setCell_other _ _ _ _ (by simp; omega)).trans (key3 b hb)
              have HW4 : Hid (Blk (V3.setCell ⟨Z + 2, 0, none⟩ (.slice (some ⟨g5, 0, none⟩) (out.length + 1) cap5)) (Z + 2) #[.slice (some ⟨g5, 0, none⟩) (out.length + 1) cap5] 44) := (HB3.out _ _ _ HVB.out (by omega)).same0 _
              have HO4 : Hid ((V3.setCell ⟨Z + 2, 0, none⟩ (.slice (some ⟨g5, 0, none⟩) (out.length + 1) cap5)).ownsRow (Z + 12) 22 1 (.slice (some ⟨g5, 0, none⟩) (out.length + 1) cap5) (out ++ [(bg, mx)]).length ((out ++ [(bg, mx)]).map (cutV (some ⟨ab, ao, none⟩) c))) := by unfold Hid; rw [List.length_append, List.map_append]; exact own_set (by omega) hown3
              have hVz4 : Z + 12 ≤ (V3.setCell ⟨Z + 2, 0, none⟩ (.slice (some ⟨g5, 0, none⟩) (out.length + 1) cap5)).heap.size := by have := hgrow3.size; rw [size_setCell']; simp at this; omega
              generalize V3.setCell ⟨Z + 2, 0, none⟩ (.slice (some ⟨g5, 0, none⟩) (out.length + 1) cap5) = V4 at hJ4 HK4 HW4 HO4 hVz4 ⊢
              have HJ4 : Hid (BJ w B Z (some ⟨ab, ao, none⟩) n c nx la S bg true (out ++ [(bg, mx)]) k V4) := hJ4
              obtain ⟨w0, wn, wl, w3, w4', w5, v3, v4, v5, v2, z2, z3, u2, u3⟩ := hJ4.facts HP.out
              clear hHeld hJ3 hJ4 hown3 hgrow3 hvb s0 s2 s3 s4 sf key3 HB3 x0 xn xl x3 x4 x5 f3 f4 f5 f2 y2 y3 g2 g3 x2 x2a
              have w2 := cell1 HW4.out
              have w2b : V4.cell? ⟨Z + 1 + 1, 0, none⟩ = some (.slice (some ⟨g5, 0, none⟩) (out.length + 1) cap5) := w2
              gi_wp2
              refine ⟨⟨rfl, out ++ [(bg, mx)], .slice (some ⟨g5, 0, none⟩) (out.length + 1) cap5, HX2.out, ?_, ?_, ?_, ?_⟩, ?_⟩
              · obtain ⟨_, _, _, e3, _⟩ := HJ4.out
                exact (e3.same0 _).other (by omega) _
              · obtain ⟨_, _, _, _, e4, _⟩ := HJ4.out
                exact (e4.other (by omega) _).same0 _
              · exact own_set (by omega) (own_set (by omega) HO4.out)
              · obtain ⟨_, e1, _⟩ := HJ4.out
                exact (e1.setCell (p := ⟨B + 2, 0, none⟩) (by simp; omega) _).setCell (p := ⟨B + 3, 0, none⟩) (by simp; omega) _
              · rintro b hb
                rw [heap_setCell_other _ _ _ _ (by simp; omega), heap_setCell_other _ _ _ _ (by simp; omega), HK4.out b (by omega) (by omega)]
                exact HV2.out.block b (by omega)
            · go_simp
              refine hK.out _ _ ⟨keep_cell (keep _ _) hHeld.1, keep_cell (keep _ _) hHeld.2.1, keep_cell (keep _ _) hHeld.2.2⟩ (fun hHeld => ?_)
              clear hK K
              (try simp only [Act.put, List.setIfInBounds_toArray, List.set_cons_zero, List.set_cons_succ])
              refine wpAnyH_ready (rs := [0]) (by kernel_rfl) (by simp) ?_
              refine AllReadyH.cons rfl (fun K hK => ?_) AllReadyH.nil
              go_simp
              refine hK.out _ _ hHeld (fun hHeld => ?_)
              clear hK K
              (try simp only [Act.put, List.setIfInBounds_toArray, List.set_cons_zero, List.set_cons_succ])
              refine wpAnyH_ready (rs := [9]) (by kernel_rfl) (by simp) ?_
              refine AllReadyH.cons rfl (fun K hK => ?_) AllReadyH.nil
              refine step_append_lies _ rfl (.tmp 50) (.tmp 58) 44 rfl (Z + 12) 22 j0 _ 1 24 Tryz.underlying44 hi hz0 hz1' hz2 rfl (by decide) v out.length (out.map (cutV (some ⟨ab, ao, none⟩) c)) rfl HO3.out ⟨V2.heap.size, 0, none⟩ 1 1 [(.slice (some ⟨ab, ao + bg, none⟩) (mx - bg) (c - bg))] rfl rfl (fun j u hu => cells_new V2 [(.slice (some ⟨ab, ao + bg, none⟩) (mx - bg) (c - bg))] 22 j u hu) (by intro u hu; simp at hu; subst hu; rfl) (by decide) (by unfold maxLen; omega) (by omega) (by first | (simp; done) | (simp; omega) | omega) _ rfl ?_
              intro g5 cap5 V3 hown3 hgrow3 _ _
              have key3 : ∀ b, b < Z + 12 → V3.heap[b]? = V2.heap[b]? := fun b hb => (grown_blk HO3.out hgrow3 (by simp; omega) hb).trans (Below.heap_alloc V2 _ b (by omega))
              have HB3 : Hid (∀ b cs ty, Blk V2 b cs ty → b < Z + 12 → Blk V3 b cs ty) := fun b cs ty h hb => (key3 b hb).trans h
              obtain ⟨_, _, e2, _, _, _, _, _, _, e9, e10, _⟩ := HJ2.out
              rw [HP.out] at e9
              have s2 := cell1 (HB3.out _ _ _ HVB.out (by omega))
              have sf := (HB3.out _ _ _ HVB.out (by omega)).frozen 0
              have s0 := cell1 (HB3.out _ _ _ e2 (by omega))
              have s4 := cell1 (HB3.out _ _ _ e10 (by omega))
              have s3 := cell1 (HB3.out _ _ _ e9 (by omega))
              refine hK.out _ _ ⟨s0, s4, s3⟩ (fun hHeld => ?_)
              clear hK K e2 e9 e10
              (try simp only [Act.put, List.setIfInBounds_toArray, List.set_cons_zero, List.set_cons_succ])
              refine wpAnyH_ready (rs := [10]) (by kernel_rfl) (by simp) ?_
              refine AllReadyH.cons rfl (fun K hK => ?_) AllReadyH.nil
              go_simp
              refine hK.out _ _ ⟨by rw [World.cell?_setCell_other _ _ _ _ (by first | (simp; done) | (simp; omega))]; exact s0, by rw [World.cell?_setCell_other _ _ _ _ (by simp)]; exact s4, by rw [World.cell?_setCell_other _ _ _ _ (by simp)]; exact s3⟩ (fun hHeld => ?_)
              clear hK K
              (try simp only [Act.put, List.setIfInBounds_toArray, List.set_cons_zero, List.set_cons_succ])
              refine wpAnyH_done (by kernel_rfl) ?_ _
              have hJ3 : BJ w B Z (some ⟨ab, ao, none⟩) n c nx la S bg true out k (V2.alloc (.cells #[(.slice (some ⟨ab, ao + bg, none⟩) (mx - bg) (c - bg))] 22)).drew := HJ2.out.tg (O := fun _ => False) (.of_below (below_drew (keep V2 _))) HBE.out hz1 (fun b h => h.elim)
              have hcv : cutV (some ⟨ab, ao, none⟩) c (bg, mx) = .slice (some ⟨ab, ao + bg, none⟩) (mx - bg) (c - bg) := by unfold cutV dropA; rw [if_neg hcb]; simp [add_plain]
              rw [← hcv] at hown3
              have hvb : Blk (V2.alloc (.cells #[(.slice (some ⟨ab, ao + bg, none⟩) (mx - bg) (c - bg))] 22)).drew (Z + 2) #[v] 44 := HVB.out.below (below_drew (keep V2 _)) HVB.out.lt
              obtain ⟨hJ4, _⟩ := hJ3.app (x := (bg, mx)) hvb HO3.out HBE.out hz1 hgrow3 (by first | (simp; done) | (simp; omega)) hown3
              have HK4 : Hid (∀ b, b < Z + 12 → b ≠ Z + 2 → (V3.setCell ⟨Z + 2, 0, none⟩ (.slice (some ⟨g5, 0, none⟩) (out.length + 1) cap5)).heap[b]? = V2.heap[b]?) := fun b hb hne => (heap_setCell_other _ _ _ _ (by simp; omega)).trans (key3 b hb)
              have HW4 : Hid (Blk (V3.setCell ⟨Z + 2, 0, none⟩ (.slice (some ⟨g5, 0, none⟩) (out.length + 1) cap5)) (Z + 2) #[.slice (some ⟨g5, 0, none⟩) (out.length + 1) cap5] 44) := (HB3.out _ _ _ HVB.out (by omega)).same0 _
              have HO4 : Hid ((V3.setCell ⟨Z + 2, 0, none⟩ (.slice (some ⟨g5, 0, none⟩) (out.length + 1) cap5)).ownsRow (Z + 12) 22 1 (.slice (some ⟨g5, 0, none⟩) (out.length + 1) cap5) (out ++ [(bg, mx)]).length ((out ++ [(bg, mx)]).map (cutV (some ⟨ab, ao, none⟩) c))) := by unfold Hid; rw [List.length_append, List.map_append]; exact own_set (by omega) hown3
              have hVz4 : Z + 12 ≤ (V3.setCell ⟨Z + 2, 0, none⟩ (.slice (some ⟨g5, 0, none⟩) (out.length + 1) cap5)).heap.size := by have := hgrow3.size; rw [size_setCell']; simp at this; omega
              generalize V3.setCell ⟨Z + 2, 0, none⟩ (.slice (some ⟨g5, 0, none⟩) (out.length + 1) cap5) = V4 at hJ4 HK4 HW4 HO4 hVz4 ⊢
              have HJ4 : Hid (BJ w B Z (some ⟨ab, ao, none⟩) n c nx la S bg true (out ++ [(bg, mx)]) k V4) := hJ4
              obtain ⟨w0, wn, wl, w3, w4', w5, v3, v4, v5, v2, z2, z3, u2, u3⟩ := hJ4.facts HP.out
              clear hHeld hJ3 hJ4 hown3 hgrow3 hvb s0 s2 s3 s4 sf key3 HB3 x0 xn xl x3 x4 x5 f3 f4 f5 f2 y2 y3 g2 g3 x2 x2a
              have w2 := cell1 HW4.out
              have w2b : V4.cell? ⟨Z + 1 + 1, 0, none⟩ = some (.slice (some ⟨g5, 0, none⟩) (out.length + 1) cap5) := w2
              gi_wp2
              refine ⟨⟨rfl, out ++ [(bg, mx)], .slice (some ⟨g5, 0, none⟩) (out.length + 1) cap5, HX2.out, ?_, ?_, ?_, ?_⟩, ?_⟩
              · obtain ⟨_, _, _, e3, _⟩ := HJ4.out
                exact (e3.same0 _).other (by omega) _
              · obtain ⟨_, _, _, _, e4, _⟩ := HJ4.out
                exact (e4.other (by omega) _).same0 _
              · exact own_set (by omega) (own_set (by omega) HO4.out)
              · obtain ⟨_, e1, _⟩ := HJ4.out
                exact (e1.setCell (p := ⟨B + 2, 0, none⟩) (by simp; omega) _).setCell (p := ⟨B + 3, 0, none⟩) (by simp; omega) _
              · rintro b hb
                rw [heap_setCell_other _ _ _ _ (by simp; omega), heap_setCell_other _ _ _ _ (by simp; omega), HK4.out b (by omega) (by omega)]
                exact HV2.out.block b (by omega)
          · rw [decide_eq_false hbn] at en
            rw [decide_eq_false hbl2] at el
            have en2 : ¬ bs.toList = nx.toList := by simpa using en
            have el2 : ¬ bs.toList = la.toList := by simpa using el
            have HX2 : Hid (xx = betwL (nums nx) (p + ql) bg true out (S.drop (k + 1))) := by
              unfold Hid
              rw [HE.out, bt_next HQ.out (by rintro ⟨_, h⟩; rw [← HNN.out] at h; exact hbl2 h), if_neg hbn, decide_eq_false hbn, if_neg (by rintro ⟨_, h⟩; exact hbn h), HQL.out]
              rfl
            clear hbn hbl2
            gi_wp2
            refine ⟨⟨bg, true, out, ?_, ?_, fun _ => hbg2, ?_, by omega⟩, HSM.out _ ?_⟩
            · have := HJ2.out.at HBE.out hz1 HQ.out (p := p + ql) (by rw [HP.out, HQL.out])
              simpa using this
            · rw [HPN.out]; exact HX2.out
            · rw [HPN.out]; omega
            · intro b _ h2 h3 h4 h5 _
              rw [heap_setCell_other _ _ _ _ (by simp; omega)]
    case done =>
      rintro V ⟨bg, op, out, h1, h2, _⟩ hmk
      have HN : Hid (xx = none) := by
        unfold Hid
        rw [h2, List.drop_of_length_le (by rw [← hSe, sbV_len]; exact Nat.le_refl _)]
        rfl
      obtain ⟨v, g1, g2, g3, g4, _⟩ := h1
      have c3 := cell1 g3
      have c4 := cell1 g4
      have f3 := g3.frozen 0
      have f4 := g4.frozen 0
      have hbe := HBE.out
      have hz := HZ10.out
      have HMK : Hid (V.heap[w10.heap.size]? = some (.deferred (some []))) := hmk
      have HG3 : Hid (Blk V (B + 2) #[.slice none 0 0] 44) := g3
      have HG4 : Hid (Blk V (B + 3) #[.bool false] 4) := g4
      have HG1 : Hid (Below w.heap.size w V) := g1
      clear h2 g1 g2 g3 g4 hmk
      gi_wp2
      refine between_leave (rs := [w10.heap.size]) (b := false) (v := .slice none 0 0) ?_ ?_ (by rw [HBE.out]; rfl) (by rw [HBE.out]; rfl) ⟨by simp, ?_⟩ (by intro r hr; simp at hr; omega) ?_ (.inl ⟨rfl, HXE.out.trans HN.out, rfl⟩)
      · rw [HBE.out]; exact (HG3.out.same0 _).other (by omega) _
      · rw [HBE.out]; exact (HG4.out.other (by omega) _).same0 _
      · intro r hr
        simp at hr
        subst hr
        rw [heap_setCell_other _ _ _ _ (by simp; omega), heap_setCell_other _ _ _ _ (by simp; omega)]
        exact HMK.out
      · exact (HG1.out.setCell (p := ⟨B + 2, 0, none⟩) (by simp; omega) _).setCell (p := ⟨B + 3, 0, none⟩) (by simp; omega) _
    case stop =>
      rintro cd V ⟨rfl, ts, v, h2, h3, h4, h5, h6⟩ hmk
      have hbe := HBE.out
      have hz := HZ10.out
      gi_wp2
      refine between_leave (rs := [w10.heap.size]) (b := true) (v := v) (by rw [HBE.out]; exact h3) (by rw [HBE.out]; exact h4) (by rw [HBE.out]; rfl) (by rw [HBE.out]; rfl) ⟨by simp, ?_⟩ (by intro r hr; simp at hr; omega) h6 (.inr ⟨rfl, ts, HXE.out.trans h2, Z + 12, by omega, by intro r hr; simp at hr; omega, h5⟩)
      intro r hr
      simp at hr
      subst hr
      exact hmk
end Go.Proofs.YtmdkmedlncfcbaaGreatDoor
