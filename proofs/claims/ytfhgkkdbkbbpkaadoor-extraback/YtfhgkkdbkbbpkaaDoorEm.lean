/-
  The maps of a kind's pieces: what they hold, key by key.
-/
import Derived.Test.YtfhgkkdbkbbpkaaDoorRight
import Derived.DeepKeys4
namespace Go.Proofs.YtfhgkkdbkbbpkaaDoor
open Go.RowKit Go.Maps
set_option linter.unusedVariables false
set_option linter.unusedSimpArgs false

theorem row61 : (61 : TypeId) < Tryd.prog.types.size := of_decide_eq_true (by kernel_rfl)
theorem wide61 : (match Tryd.prog.underlying 61 with | some (.array _ _) | some (.struct _) => true | _ => false) = true := by kernel_rfl
set_option maxRecDepth 100000 in
theorem law61 : Keyed Tryd.prog 61 := Keyed.of_law (deep_law_laid laidOut (m := 2) (by omega) row61 (by kernel_rfl) wide61)
theorem zero83 (w : World) : (zeroValue 83).run Tryd.prog w = .ok (.agg #[.string ⟨#[]⟩, .bool false]) w := by kernel_rfl
/-- A place as a key. -/
def plV (s : ByteArray) (n : Int) : Value := .agg #[.string s, .int .i64 n]
theorem keyType61 : Tryd.prog.keyType 61 = true := by kernel_rfl
theorem cells9 : Tryd.prog.cellsOf 9 = 1 := by kernel_rfl
theorem cells3 : Tryd.prog.cellsOf 3 = 1 := by kernel_rfl
theorem cells61 : Tryd.prog.cellsOf 61 = 2 := by kernel_rfl
theorem lits61 (d : Nat) (s : ByteArray) (n : Int) (hs : s.size ≤ maxLen) (hn : (Lit.int .i64 n).wf = true) : Tryd.prog.keyLits (d + 2) 61 [.string s, .int .i64 n] = some [.string s.data.toList, .int .i64 n] := by
  unfold Program.keyLits
  simp only [Tryd.underlying61, cells61]
  simp [Program.keyLits, Tryd.underlying9, Tryd.underlying3, hs, hn, cells9, cells3]
theorem size61 : ∃ m, Tryd.prog.types.size = m + 1 := by
  have h : (61 : Nat) < Tryd.prog.types.size := row61
  exact ⟨Tryd.prog.types.size - 1, by omega⟩
def kp (s : ByteArray) (n : Int) : Lit := .string (keyBytes [.string s.data.toList, .int .i64 n])
theorem key_pl (s : ByteArray) (n : Int) (hs : s.size ≤ maxLen) (hn : (Lit.int .i64 n).wf = true) : keyOf Tryd.prog 61 (plV s n) = some (kp s n) := by
  have hf : (plV s n).formed Tryd.prog 61 = true := by simp [plV, Value.formed, Tryd.underlying61, cells61]
  unfold keyOf
  rw [Tryd.underlying61]
  simp only [keyType61, hf, Bool.and_self, if_true]
  obtain ⟨m, hm⟩ := size61
  rw [hm]
  show Option.map _ (Tryd.prog.keyLits _ 61 [.string s, .int .i64 n]) = _
  rw [lits61 _ s n hs hn]
  rfl
theorem kp_inj {s t : ByteArray} {n m : Int} (hs : s.size ≤ maxLen) (hn : (Lit.int .i64 n).wf = true) (ht : t.size ≤ maxLen) (hm : (Lit.int .i64 m).wf = true) (h : kp s n = kp t m) : s = t ∧ n = m := by
  have h1 := key_pl s n hs hn
  have h2 := key_pl t m ht hm
  rw [h] at h1
  have := law61.inj h1 h2
  unfold plV at this
  simpa using this
theorem kp_key (s : ByteArray) (n : Int) : WideAt.IsKeyLit (kp s n) := trivial
/-- A piece as an element. -/
def pcV (s : ByteArray) (c : Bool) : Value := .agg #[.string s, .bool c]
def pcD (s : ByteArray) (c : Bool) : DataW Unit := .agg [.lit (.string s.data.toList), .lit (.bool c)]
def pcR : Value → Option (DataW Unit × List MemPlace)
  | .agg cs => match cs.toList with
    | [.string s, .bool c] => some (pcD s c, [])
    | _ => none
  | _ => none
theorem pcR_mk (s : ByteArray) (c : Bool) : pcR (pcV s c) = some (pcD s c, []) := rfl
theorem pcR_inv {v : Value} {z : DataW Unit × List MemPlace} (h : pcR v = some z) : ∃ s c, v = pcV s c ∧ z = (pcD s c, []) := by
  unfold pcR at h
  split at h
  · rename_i cs
    split at h
    · rename_i s c he
      cases h
      exact ⟨s, c, by rw [pcV, ← he], rfl⟩
    · cases h
  · cases h
theorem pcD_inj {s t : ByteArray} {c d : Bool} (h : pcD s c = pcD t d) : s = t ∧ c = d := by
  unfold pcD at h
  simp at h
  exact ⟨nums_inj (by rw [nums, nums, h.1]), h.2⟩

/-- The pieces that were met: base, number, text, coded. -/
abbrev Pc := List Int × Int × List Int × Bool
def lookZ : List Pc → List Int → Int → Option (List Int × Bool)
  | [], _, _ => none
  | p :: r, b, n => if p.1 = b ∧ p.2.1 = n then some p.2.2 else lookZ r b n
def cntZ (L : List Pc) (b : List Int) : Nat := (L.filter fun p => decide (p.1 = b)).length
theorem look_snoc (L : List Pc) (p : Pc) (b : List Int) (n : Int) (h : lookZ L p.1 p.2.1 = none) : lookZ (L ++ [p]) b n = if p.1 = b ∧ p.2.1 = n then some p.2.2 else lookZ L b n := by
  induction L with
  | nil => rfl
  | cons q r ih =>
    have h' := h
    simp only [lookZ] at h'
    split at h'
    · cases h'
    · rename_i hne
      simp only [List.cons_append, lookZ]
      rw [ih h']
      by_cases e : q.1 = b ∧ q.2.1 = n
      · rw [if_pos e, if_pos e]
        rw [if_neg]
        rintro ⟨e1, e2⟩
        exact hne ⟨e.1.trans e1.symm, e.2.trans e2.symm⟩
      · rw [if_neg e, if_neg e]
theorem cnt_snoc (L : List Pc) (p : Pc) (b : List Int) : cntZ (L ++ [p]) b = cntZ L b + if p.1 = b then 1 else 0 := by
  unfold cntZ
  rw [List.filter_append, List.length_append]
  by_cases e : p.1 = b <;> simp [e]
/-- The map of the pieces. -/
def PMap (w : World) (b n : Nat) (L : List Pc) : Prop := ∃ D, w.ownsMap Tryd.prog 61 pcR b n D ∧ IsMap D ∧
  ∀ (s : ByteArray) (k : Int), s.size ≤ maxLen → (Lit.int .i64 k).wf = true →
    (lookZ L (nums s) k = none → Maps.has D (kp s k) = false) ∧ (∀ v c, lookZ L (nums s) k = some (v, c) → Maps.has D (kp s k) = true ∧ ∃ t, nums t = v ∧ ∀ z, D.atKey (kp s k) z = pcD t c)
theorem PMap.lt {w : World} {b n : Nat} {L : List Pc} (h : PMap w b n L) : b < w.heap.size := by obtain ⟨D, h, _⟩ := h; exact h.lt
theorem PMap.below {w w' : World} {b n : Nat} {L : List Pc} (h : PMap w b n L) (hb : Below w.heap.size w w') : PMap w' b n L := by
  obtain ⟨D, hown, r⟩ := h
  have hlt := hown.lt
  obtain ⟨es, clock, h1, F, hs, hD⟩ := hown
  exact ⟨D, ⟨es, clock, (hb.block b hlt).trans h1, F, hs, hD⟩, r⟩
theorem PMap.alloc {w : World} {b n : Nat} {L : List Pc} (h : PMap w b n L) (o : Obj) : PMap (w.alloc o) b n L := by
  obtain ⟨D, hown, r⟩ := h
  exact ⟨D, hown.alloc o, r⟩
theorem PMap.kept {w w' : World} {b n : Nat} {L : List Pc} {row : Option Nat} (h : PMap w b n L) (hg : w.grownBy w' row) (hne : some b ≠ row) : PMap w' b n L := by
  obtain ⟨D, hown, r⟩ := h
  exact ⟨D, hown.kept hg hne, r⟩
theorem PMap.setCell {w : World} {b n : Nat} {L : List Pc} (h : PMap w b n L) {a : Addr} (ha : b ≠ a.block) (u : Value) : PMap (w.setCell a u) b n L := by
  obtain ⟨D, hown, r⟩ := h
  exact ⟨D, hown.setCell ha u, r⟩
theorem PMap.made (w : World) : PMap (w.alloc (.map #[] 0)) w.heap.size 0 [] :=
  ⟨.map [], World.ownsMap_made _ _ _ _, isMap_empty, fun s k _ _ => ⟨fun _ => rfl, fun v c h => by cases h⟩⟩
theorem PMap.look_miss {w : World} {b n : Nat} {L : List Pc} (h : PMap w b n L) (s : ByteArray) (k : Int) (hs : s.size ≤ maxLen) (hk : (Lit.int .i64 k).wf = true) (hz : lookZ L (nums s) k = none) :
    ∃ t c, (Instr.lookup 55 (.map (some b)) (plV s k) true).run Tryd.prog w = .ok (.tuple #[pcV t c, .bool false]) w := by
  obtain ⟨D, hown, hD, hr⟩ := h
  obtain ⟨v, ps, hrun, hv⟩ := hown.look_ok law61 Tryd.underlying55 (zero83 w) (pcR_mk _ _) (key_pl s k hs hk)
  obtain ⟨t, c, rfl, _⟩ := pcR_inv hv
  rw [(hr s k hs hk).1 hz] at hrun
  exact ⟨t, c, hrun⟩
theorem PMap.look_hit {w : World} {b n : Nat} {L : List Pc} (h : PMap w b n L) (s : ByteArray) (k : Int) (hs : s.size ≤ maxLen) (hk : (Lit.int .i64 k).wf = true) {v : List Int} {c : Bool} (hz : lookZ L (nums s) k = some (v, c)) :
    ∃ t, nums t = v ∧ (Instr.lookup 55 (.map (some b)) (plV s k) true).run Tryd.prog w = .ok (.tuple #[pcV t c, .bool true]) w := by
  obtain ⟨D, hown, hD, hr⟩ := h
  obtain ⟨u, ps, hrun, hv⟩ := hown.look_ok law61 Tryd.underlying55 (zero83 w) (pcR_mk _ _) (key_pl s k hs hk)
  obtain ⟨t, c', rfl, he⟩ := pcR_inv hv
  obtain ⟨h1, t', h2, h3⟩ := (hr s k hs hk).2 v c hz
  rw [h1] at hrun
  rw [h3] at he
  simp only [Prod.mk.injEq] at he
  obtain ⟨rfl, rfl⟩ := pcD_inj he.1
  exact ⟨t', h2, hrun⟩
theorem wpList_look_miss {P : Program} {w : World} {ops : Array Oper} {rest : List Oper} {o : Oper} {a : Act} {Q : Exit → Act → World → Prop} (hg : o.guard = none) (m x : Operand) (t : TypeId) (c : Bool) (hop : o.op = Op.lookup t m x c) (v : Value)
    (hrun : (Instr.lookup t (a.eval m) (a.eval x) c).run P w = .ok v w) (hK : wpList P ops Q rest (a.put o.dst v) w) : wpList P ops Q (o :: rest) a w := by
  refine wpList_plain hg fun K' hK' => ?_
  unfold Oper.wp
  simp [execOp, hop, hrun, Result.andThen]
  exact hK' _ _ hK
theorem PMap.put {w : World} {b n : Nat} {L : List Pc} (h : PMap w b n L) (s : ByteArray) (k : Int) (hs : s.size ≤ maxLen) (hk : (Lit.int .i64 k).wf = true) (t : ByteArray) (c : Bool) (hn : n < maxLen) (hz : lookZ L (nums s) k = none) :
    ∃ w', (Instr.mapUpdate 55 (.map (some b)) (plV s k) (pcV t c)).run Tryd.prog w = .ok () w' ∧ PMap w' b (n + 1) (L ++ [(nums s, k, nums t, c)]) ∧ w.grownBy w' (some b) := by
  obtain ⟨D, hown, hD, hr⟩ := h
  obtain ⟨w', hrun, ho, hg⟩ := hown.update law61 Tryd.underlying55 hn (key_pl s k hs hk) (pcR_mk t c)
  refine ⟨w', hrun, ⟨D.put (kp s k) (pcD t c), ho, hD.put _ _, fun u j hu hj => ?_⟩, hg⟩
  rw [look_snoc L (nums s, k, nums t, c) _ _ hz]
  by_cases e : nums s = nums u ∧ k = j
  · rw [if_pos e]
    obtain ⟨e1, rfl⟩ := e
    obtain rfl := nums_inj e1
    refine ⟨fun h => (by cases h), fun v d h => ?_⟩
    cases h
    exact ⟨has_put_same hD (kp_key s k) _, t, rfl, fun z => atKey_put_same hD (kp_key s k) _ _⟩
  · rw [if_neg e]
    have hne : kp u j ≠ kp s k := fun q => e (by obtain ⟨rfl, rfl⟩ := kp_inj hu hj hs hk q; exact ⟨rfl, rfl⟩)
    rw [has_put_other hne]
    refine ⟨(hr u j hu hj).1, fun v d h => ?_⟩
    obtain ⟨h1, t', h2, h3⟩ := (hr u j hu hj).2 v d h
    exact ⟨h1, t', h2, fun z => by rw [atKey_put_other hne]; exact h3 z⟩
/-- The map of the counts. -/
def CMap (w : World) (b n : Nat) (F : List Int → Nat) : Prop := ∃ D : DataW Unit, w.ownsMap Tryd.prog 9 (plainElem Tryd.prog 3) b n D ∧ IsMap D ∧ ∀ s : ByteArray, D.atKey (keyZ s) (.lit (.int .i64 0)) = .lit (.int .i64 (F (nums s)))
theorem CMap.lt {w : World} {b n : Nat} {F : List Int → Nat} (h : CMap w b n F) : b < w.heap.size := by obtain ⟨D, h, _⟩ := h; exact h.lt
theorem CMap.below {w w' : World} {b n : Nat} {F : List Int → Nat} (h : CMap w b n F) (hb : Below w.heap.size w w') : CMap w' b n F := by
  obtain ⟨D, hown, r⟩ := h
  exact ⟨D, map_below hown hb, r⟩
theorem CMap.alloc {w : World} {b n : Nat} {F : List Int → Nat} (h : CMap w b n F) (o : Obj) : CMap (w.alloc o) b n F := by
  obtain ⟨D, hown, r⟩ := h
  exact ⟨D, hown.alloc o, r⟩
theorem CMap.kept {w w' : World} {b n : Nat} {F : List Int → Nat} {row : Option Nat} (h : CMap w b n F) (hg : w.grownBy w' row) (hne : some b ≠ row) : CMap w' b n F := by
  obtain ⟨D, hown, r⟩ := h
  exact ⟨D, hown.kept hg hne, r⟩
theorem CMap.setCell {w : World} {b n : Nat} {F : List Int → Nat} (h : CMap w b n F) {a : Addr} (ha : b ≠ a.block) (u : Value) : CMap (w.setCell a u) b n F := by
  obtain ⟨D, hown, r⟩ := h
  exact ⟨D, hown.setCell ha u, r⟩
theorem CMap.made (w : World) : CMap (w.alloc (.map #[] 0)) w.heap.size 0 (fun _ => 0) := ⟨.map [], World.ownsMap_made _ _ _ _, isMap_empty, fun s => rfl⟩
theorem CMap.congr {w : World} {b n : Nat} {F G : List Int → Nat} (h : CMap w b n F) (e : ∀ x, F x = G x) : CMap w b n G := by
  obtain ⟨D, hown, hD, hr⟩ := h
  exact ⟨D, hown, hD, fun s => by rw [hr, e]⟩
theorem CMap.look {w : World} {b n : Nat} {F : List Int → Nat} (h : CMap w b n F) (s : ByteArray) (hs : s.size ≤ maxLen) : (Instr.lookup 53 (.map (some b)) (.string s) false).run Tryd.prog w = .ok (.int .i64 (F (nums s))) w := by
  obtain ⟨D, hown, hD, hr⟩ := h
  obtain ⟨c, hrun, hat, hw⟩ := hown.lookup_int law9 Tryd.underlying53 Tryd.underlying3 (zero3 w) (WideMaps.keyOf_string_mk Tryd.underlying9 hs)
  have := hr s
  unfold keyZ at this
  rw [this] at hat
  simp at hat
  rw [hat]
  exact hrun
theorem CMap.put {w : World} {b n : Nat} {F : List Int → Nat} (h : CMap w b n F) (s : ByteArray) (hs : s.size ≤ maxLen) (hn : n < maxLen) (k : Nat) (hk : k ≤ 1000000) :
    ∃ w', (Instr.mapUpdate 53 (.map (some b)) (.string s) (.int .i64 k)).run Tryd.prog w = .ok () w' ∧ CMap w' b (n + 1) (fun x => if x = nums s then k else F x) ∧ w.grownBy w' (some b) := by
  obtain ⟨D, hown, hD, hr⟩ := h
  obtain ⟨w', hrun, ho, hg⟩ := hown.update law9 Tryd.underlying53 hn (WideMaps.keyOf_string_mk Tryd.underlying9 hs) (plainElem_int Tryd.underlying3 (WalkArith.wf_i64 (n := (k : Int)) (by omega)))
  refine ⟨w', hrun, ⟨D.put (keyZ s) _, ho, hD.put _ _, fun u => ?_⟩, hg⟩
  by_cases e : nums u = nums s
  · have e2 := nums_inj e
    subst e2
    rw [atKey_put_same hD (by unfold keyZ; trivial)]
    simp
  · rw [atKey_put_other (fun q => e (keyZ_inj q)), hr u]; simp [e]
theorem CMap.del {w : World} {b n : Nat} {F : List Int → Nat} (h : CMap w b n F) (s : ByteArray) (hs : s.size ≤ maxLen) (ty : TypeId) :
    ∃ w', (Builtin.delete_ #[53, 9] ty #[.map (some b), .string s]).run Tryd.prog w = .ok (.tuple #[]) w' ∧ CMap w' b n (fun x => if x = nums s then 0 else F x) ∧ w.grownBy w' (some b) := by
  obtain ⟨D, hown, hD, hr⟩ := h
  obtain ⟨w', hrun, ho, hg⟩ := hown.drop law9 Tryd.underlying53 (WideMaps.keyOf_string_mk Tryd.underlying9 hs) ty
  refine ⟨w', hrun, ⟨D.del (keyZ s), ho, hD.del _, fun u => ?_⟩, hg.grown⟩
  by_cases e : nums u = nums s
  · have e2 := nums_inj e
    subst e2
    rw [atKey_del_same]
    simp
  · rw [atKey_del_other (fun q => e (keyZ_inj q)), hr u]; simp [e]
end Go.Proofs.YtfhgkkdbkbbpkaaDoor
