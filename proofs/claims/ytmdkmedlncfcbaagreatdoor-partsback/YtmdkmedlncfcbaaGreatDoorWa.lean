/-
  Trees that are written: what Write tells, and what it keeps.
-/
import Derived.Test.YtmdkmedlncfcbaaGreatDoorSm
namespace Go.Proofs.YtmdkmedlncfcbaaGreatDoor
open Go.RowKit Go.Shelf
set_option linter.unusedVariables false
set_option linter.unusedSimpArgs false

def wrL (rec : Nat → List Int → Prt → Nat × List Int × Bool) (bd : List Int) : Nat → List Int → List Prt → Nat × List Int × Bool
  | ct, out, [] => (ct, out ++ (45 :: 45 :: bd ++ [45, 45, 13, 10]), true)
  | ct, out, q :: r => match rec ct (out ++ (45 :: 45 :: bd ++ [13, 10])) q with
    | (c, o, false) => (c, o, false)
    | (c, o, true) => if beginsZ (o.drop (out ++ (45 :: 45 :: bd ++ [13, 10])).length) (45 :: 45 :: bd) = true then (c, o, false) else wrL rec bd c (o ++ [13, 10]) r
/-- Is there room for a part's own bytes? -/
def roomZ (t : Prt) (out : List Int) : Bool := decide (writeC t.fs = 0) && decide (t.body.length + (writeB t.fs).length + out.length ≤ 1048576)
def wrK (ct : Nat) (o : List Int) (g : List Int → Nat × List Int × Bool) : Option (List Int) → Nat × List Int × Bool
  | none => (ct, o, false)
  | some bd => g bd
def wrH (ct : Nat) (out : List Int) (t : Prt) (g : List Int → List Int → Nat × List Int × Bool) : Nat × List Int × Bool :=
  if 64 < ct then (ct, out, false) else
  match knd t.fs with
  | none => (ct, out, false)
  | some k => if shapedZ k t.body.length t.ps.length = false ∨ roomZ t out = false then (ct, out, false) else
    if k.1 = mpZ then wrK ct (out ++ writeB t.fs ++ t.body) (fun bd => g bd (out ++ writeB t.fs ++ t.body)) (bord k)
    else (ct, out ++ writeB t.fs ++ t.body, true)
/-- Write: so many storeys may stand, this one included. -/
def wrP : Nat → Nat → List Int → Prt → Nat × List Int × Bool
  | 0, ct, out, t => (ct + 1, out, false)
  | f + 1, ct, out, t => wrH (ct + 1) out t (fun bd o => wrL (wrP f) bd (ct + 1) o t.ps)
/-- A tree whose parts are not too great to be looked at. -/
def FitT : Nat → Prt → Prop
  | 0, _ => False
  | h + 1, t => FitF t.fs ∧ t.body.length ≤ 10000000 ∧ t.ps.length ≤ 10000000 ∧ ∀ q ∈ t.ps, FitT h q
def isU8 (w : World) (b : Nat) : Prop := ∃ cs fr, w.heap[b]? = some (.cells cs 5 fr)
/-- What Write changes: the count, where the bytes' slice lies, and rows of bytes of its own. -/
def OW (Bo C O : Nat) (w : World) : Nat → Prop := fun b => b = C ∨ b = O ∨ (Bo ≤ b ∧ isU8 w b)
theorem tw_trans {Bo C O : Nat} {U V W : World} (h : Tg (OW Bo C O U) U V) (k : Tg (OW Bo C O V) V W) : Tg (OW Bo C O U) U W := by
  refine h.two k (fun _ _ q => q) (fun b hb q => ?_)
  by_cases hO : OW Bo C O U b
  · exact hO
  · have e := h.2.2.2.2 b hb hO
    rcases q with q | q | ⟨q1, cs, fr, q2⟩
    · exact .inl q
    · exact .inr (.inl q)
    · exact .inr (.inr ⟨q1, cs, fr, by rw [← e]; exact q2⟩)
theorem tw_below {Bo C O : Nat} {U V : World} (h : Below U.heap.size U V) : Tg (OW Bo C O U) U V := .of_below h
theorem tw_grown {Bo C O : Nat} {U V : World} {v : Value} {n : Nat} {xs : List Value} (ho : U.ownsRow Bo 5 1 v n xs) (hg : U.grownBy V v.ownBlock) : Tg (OW Bo C O U) U V := by
  refine Tg.grown hg (fun b hb => .inr (.inr ?_))
  rcases ho.2 with ⟨rfl, _⟩ | ⟨g, cap, cur, rfl, h2, h3, _⟩
  · simp [Value.ownBlock] at hb
  · have e : g = b := by simpa [Value.ownBlock] using hb
    subst e
    exact ⟨h2, cur, _, h3⟩
/-- A block that is no row of bytes is kept. -/
theorem tw_kept {Bo C O : Nat} {U V : World} (h : Tg (OW Bo C O U) U V) {b : Nat} {cs : Array Value} {t : TypeId} (hb : Blk U b cs t) (ht : t ≠ 5) (hC : b ≠ C) (hO : b ≠ O) : Blk V b cs t :=
  h.kept hb (fun q => by
    rcases q with q | q | ⟨_, cs', fr, q⟩
    · exact hC q
    · exact hO q
    · rw [show U.heap[b]? = _ from hb] at q; cases q; exact ht rfl)
theorem tw_stay {Bo C O : Nat} {U V : World} {Q : World → Prop} (h : Tg (OW Bo C O U) U V) (hs : Stay (fun b => b = C ∨ b = O ∨ Bo ≤ b) U Q) : Stay (fun b => b = C ∨ b = O ∨ Bo ≤ b) V Q :=
  hs.go h (fun b _ q => by
    rcases q with q | q | q
    · exact .inl q
    · exact .inr (.inl q)
    · exact .inr (.inr q.1)) (fun _ _ q => q)
theorem writeB_size (fs : List (ByteArray × ByteArray)) : (writeB fs).length ≤ 600000000 := by
  unfold writeB
  split
  · rename_i h
    unfold writeC at h
    have a1 : ¬ 128 < fs.length := fun q => by rw [if_pos q] at h; omega
    rw [if_neg a1] at h
    have a2 : ¬ fs.all okF = false := fun q => by rw [if_pos q] at h; omega
    rw [if_neg a2] at h
    have a3 : ¬ longW fs = true := fun q => by rw [if_pos q] at h; omega
    have := outW_len (fs := fs) (by simpa using a2) (by simpa using a3)
    rw [List.length_append]
    simp only [List.length_cons, List.length_nil]
    omega
  · simp
theorem step_append_row {P : Program} {ops : Array Oper} {o : Oper} {a : Act} {K : Act → World → Prop} {Q : Exit → Act → World → Prop} {E : Prop} (w : World) (hgd : o.guard = none) (s x : Operand) (t : TypeId)
    (ho : o.op = .call { callee := .builtin .append, args := #[s, x], argTypes := #[t, t] })
    (base : Nat) (e : TypeId) (i : TypeInfo) (z : Value) (bytes : Nat) (ht : P.underlying t = some (.slice e)) (hi : P.info? e = some i) (hz : i.zero = some z)
    (hsize : i.size = 1) (hby : i.bytes = bytes) (hzs : z.cells.size = 1)
    (v : Value) (n : Nat) (xs : List Value) (hs : a.eval s = v) (hown : w.ownsRow base e 1 v n xs)
    (ad : Option Addr) (m c : Nat) (l : List Int) (hx : a.eval x = .slice ad m c) (hl : l.length = m) (hnil : ad = none → c = 0) (hrow : RowK .u8 w ad l)
    (h63 : n + m ≤ maxLen) (hbytes : (n + m) * bytes ≤ 140737488355328) (hbase : base ≤ w.heap.size)
    (h : ∀ v' w', w'.ownsRow base e 1 v' (n + m) (xs ++ l.map (Value.int .u8)) → w.grownBy w' v.ownBlock → (v'.ownBlock = v.ownBlock ∨ v'.ownBlock = some w.heap.size) → K (a.put o.dst v') w') :
    if Region.wanted o (yielded ops a.tmps) = true then Oper.wp P o a w K Q else E := by
  have hw : Region.wanted o (yielded ops a.tmps) = true := by simp [Region.wanted, hgd]
  rw [if_pos hw]
  have one : ∀ u ∈ l.map (Value.int .u8), u.oneCell' = true := by
    intro u hu; simp at hu; obtain ⟨_, _, rfl⟩ := hu; rfl
  cases ad with
  | none =>
    have hl0 : l = [] := by
      rcases hrow with h | ⟨b, off, hb, _⟩
      · exact h
      · cases hb
    subst hl0
    have hc := hnil rfl
    subst hc
    have hm : m = 0 := by simpa using hl.symm
    subst hm
    have hr := run_append_owned_none (P := P) (w := w) base t o.type e i 1 ht hi v n xs hown
    unfold Oper.wp execOp
    simp only [ho, resolve, invoke, builtin, Sem.run_bind, Sem.run_pure, Result.andThen_ok, List.map_toArray, List.map_cons, List.map_nil, hs, hx, hr]
    exact h v w (by simpa using hown) ⟨rfl, rfl, rfl, Nat.le_refl _, fun _ _ _ => rfl⟩ (.inl rfl)
  | some y =>
    obtain ⟨v', w', hr, h1, h2, _, h5⟩ := run_append_own_at (P := P) w base t o.type e i z 1 bytes ht hi hz hsize hby hzs (by decide) v n xs hown y m c (l.map (Value.int .u8)) (by simp [hl]) (by
      intro j u hu
      rcases hrow with h | ⟨b, off, hb, hc⟩
      · subst h; simp at hu
      · cases hb
        rw [List.getElem?_map] at hu
        obtain ⟨q, hq, rfl⟩ := Option.map_eq_some_iff.1 hu
        have hj := (List.getElem?_eq_some_iff.1 hq).1
        rw [add_plain, hc j hj, List.getD_eq_getElem?_getD, hq]; rfl) one h63 hbytes hbase
    unfold Oper.wp execOp
    simp only [ho, resolve, invoke, builtin, Sem.run_bind, Sem.run_pure, Result.andThen_ok, List.map_toArray, List.map_cons, List.map_nil, hs, hx, hr]
    exact h v' w' h1 h2 h5
theorem kat_tg {O : Nat → Prop} {V W : World} {ty sub : ByteArray} {a : Option Addr} {ks : List (ByteArray × ByteArray)} (h : KAt V ty sub a ks) (ht : Tg O V W) (hO : ∀ x, a = some x → ks ≠ [] → x.block < V.heap.size → ¬ O x.block) : KAt W ty sub a ks := by
  refine ⟨?_, h.2⟩
  rcases h.1 with h0 | ⟨b, off, rfl, hc⟩
  · exact .inl h0
  · refine .inr ⟨b, off, rfl, fun i f hf => ?_⟩
    have hne : ks ≠ [] := by rintro rfl; simp at hf
    obtain ⟨c1, c2⟩ := hc i f hf
    have hlt := World.block_lt_of_cell? V _ c1
    have e := ht.2.2.2.2 b hlt (hO _ rfl hne hlt)
    exact ⟨(World.cell?_of_block e).trans c1, (World.cell?_of_block e).trans c2⟩
theorem mx_tw {Bo C O : Nat} {U V : World} {n m : Int} {v : Value} (h : Mx U) (ht : Tg (OW Bo C O U) U V) (hC : Blk U C #[.int .i64 n] 3) (hCV : Blk V C #[.int .i64 m] 3) (hO : Blk U O #[v] 22) (hv : ∀ k : Int, v ≠ .int .i64 k) (hB : 0 < Bo) : Mx V := by
  obtain ⟨k, h⟩ := h
  by_cases h0 : C = 0
  · subst h0; exact ⟨m, cell1 hCV⟩
  · refine ⟨k, (World.cell?_of_block (ht.2.2.2.2 0 (World.block_lt_of_cell? U _ h) (fun q => ?_))).trans h⟩
    rcases q with q | q | q
    · exact h0 q.symm
    · subst q
      rw [cell1 hO] at h
      cases h
      exact hv k rfl
    · omega
/-- What Write leaves. -/
def WrPost (w : World) (Bo C O f : Nat) (x : Nat × List Int × Bool) (e : Ending) (w' : World) : Prop :=
  e = .returned (.bool x.2.2) ∧ Tg (OW Bo C O w) w w' ∧ Blk w' C #[.int .i64 (x.1 : Nat)] 3 ∧ (∃ v', Blk w' O #[v'] 22 ∧ Own w' Bo v' x.2.1) ∧ (x.2.2 = true → x.1 ≤ 64 ∧ x.2.1.length ≤ 1048576 + 82 * f ∧ Byt x.2.1)
theorem wr_ret {w W : World} {Bo C O f : Nat} {x : Nat × List Int × Bool} {v' : Value} {A : Act} (ht : Tg (OW Bo C O w) w W) (hC : Blk W C #[.int .i64 (x.1 : Nat)] 3) (hO : Blk W O #[v'] 22) (hown : Own W Bo v' x.2.1) (hok : x.2.2 = true → x.1 ≤ 64 ∧ x.2.1.length ≤ 1048576 + 82 * f ∧ Byt x.2.1) (hd : A.defers = []) (h7 : A.tmps[7]?.getD undef = .bool x.2.2) :
    bodyPost Tryz.prog Tryz.f37 (WrPost w Bo C O f x) .ret A W := by
  refine bodyPost_ret (v := .bool x.2.2) ?_ hd ⟨rfl, ht, hC, ⟨v', hO, hown⟩, hok⟩
  simp [results, Tryz.results37, go_sem, h7]
def wrF (C O F : Nat) : Value := .func (.func 37) #[] #[.pointer (some ⟨C, 0, none⟩), .pointer (some ⟨O, 0, none⟩), .pointer (some ⟨F, 0, none⟩)]
def WrC (f : Nat) : Prop := ∀ (d : Int), d = 9 - (f : Int) → ∀ (h ct C O F Bo : Nat) (out : List Int) (v x y z : Value) (t : Prt) (w : World), ct ≤ 64 → out.length ≤ 1050000 → Stay (fun b => b = C ∨ b = O ∨ Bo ≤ b) w (fun W => PtAt h W t x y z) → FitT h t → Mx w → Byt out → C < Bo → O < Bo → F < Bo → Bo ≤ w.heap.size → C ≠ O → C ≠ F → O ≠ F →
  Blk w C #[.int .i64 (ct : Nat)] 3 → Blk w O #[v] 22 → Own w Bo v out → Blk w F #[wrF C O F] 34 →
  Calls Tryz.prog 37 #[partV x y z, .int .i64 d, .pointer (some ⟨C, 0, none⟩), .pointer (some ⟨O, 0, none⟩), .pointer (some ⟨F, 0, none⟩)] w (WrPost w Bo C O f (wrP f ct out t))
end Go.Proofs.YtmdkmedlncfcbaaGreatDoor
