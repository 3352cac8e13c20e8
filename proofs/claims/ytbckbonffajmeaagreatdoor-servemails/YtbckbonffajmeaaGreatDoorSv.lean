/-
  A session is made: the contract of New.
-/
import Derived.Test.YtbckbonffajmeaaGreatDoorSu
namespace Go.Proofs.YtbckbonffajmeaaGreatDoor
open Go.RowKit Go.Shelf Go.Maps
set_option linter.unusedVariables false
set_option linter.unusedSimpArgs false

theorem toList_inj {x o : ByteArray} (h : x.toList = o.toList) : x = o := by
  rw [ByteArray.toList_eq, ByteArray.toList_eq] at h
  cases x; cases o
  simp at h
  rw [h]
/-- A row of strings. -/
def SRow (w : World) (a : Option Addr) (os : List ByteArray) : Prop := os = [] ∨ ∃ b off, a = some ⟨b, off, none⟩ ∧ ∀ i o, os[i]? = some o → w.cell? ⟨b, off + i, none⟩ = some (.string o)
theorem SRow.below {w w' : World} {a : Option Addr} {os : List ByteArray} (h : SRow w a os) (hb : Below w.heap.size w w') : SRow w' a os := by
  rcases h with h | ⟨b, off, e, h⟩
  · exact .inl h
  · refine .inr ⟨b, off, e, fun i o hi => ?_⟩
    rw [hb.cell (World.block_lt_of_cell? w _ (h i o hi))]
    exact h i o hi
def ownZ (o : ByteArray) : Bool := decide (perZ (nums o) = some (nums o))
def newOk (host : ByteArray) (os : List ByteArray) (size : Int) : Bool := domainZ (nums host) && decide (os.length ≤ 64) && decide (1 ≤ size) && decide (size ≤ 65536) && os.all ownZ
def newS (host : ByteArray) (owners : List (List Int)) (size : Int) : SS := ⟨host, owners, size, 0, false, false, ⟨#[]⟩, [], [], false, false, none⟩
def newM (g ob : Nat) : Sm := ⟨g, .slice none 0 0, .slice none 0 0, ob, none⟩
theorem newS_wf (host : ByteArray) (owners : List (List Int)) (size : Int) : WfS (newS host owners size) := OutC.wf (.inl ⟨rfl, .inl rfl⟩)
theorem newS_at {w : World} {g ob : Nat} {host : ByteArray} {owners : List (List Int)} {size : Int} (hb : Blk w g (cellsS (newM g ob) (newS host owners size)) 46) (hm : MpAt w ob owners) (hh : host.size ≤ 1000) (h0 : 1 ≤ size) (h1 : size ≤ 65536) : SvAt 0 w (newM g ob) (newS host owners size) :=
  ⟨hb, World.ownsRow_nil _ _ _ _, World.ownsRow_nil _ _ _ _, hm, trivial, fun q => absurd rfl q, hh, h0, h1, (by decide : (0 : Int) ≤ 0), (by decide : (0 : Int) ≤ 3), Nat.zero_le _, Nat.zero_le _, fun t ht => by simp [newS] at ht, fun c hc => by simp [newS] at hc, Nat.zero_le _⟩
theorem newM_own {w : World} {g ob k : Nat} (h : sO (newM g ob) w k) : k = g := by
  rcases h with h | h | h | ⟨gr, Br, e, _⟩
  · exact h
  · simp [newM, Value.ownBlock] at h
  · simp [newM, Value.ownBlock] at h
  · cases e
theorem map_below {w w' : World} {b n : Nat} {D : DataW Unit} (h : w.ownsMap Tryz.prog 9 (plainElem Tryz.prog 3) b n D) (hb : Below w.heap.size w w') : w'.ownsMap Tryz.prog 9 (plainElem Tryz.prog 3) b n D := by
  obtain ⟨es, clock, h1, h2⟩ := h
  exact ⟨es, clock, (hb.block b (Array.getElem?_eq_some_iff.1 h1).1).trans h1, h2⟩
/-- What New answers. -/
structure NewAns (host : ByteArray) (os : List ByteArray) (size : Int) (w : World) (e : Ending) (w' : World) : Prop where
  no : newOk host os size = false → e = .returned (.tuple #[.pointer none, .int .i64 1])
  yes : newOk host os size = true → ∃ g ob, e = .returned (.tuple #[.pointer (some ⟨g, 0, none⟩), .int .i64 0]) ∧ SvAt 0 w' (newM g ob) (newS host (os.map nums) size) ∧ w.heap.size ≤ g ∧ w.heap.size ≤ ob
  bel : Below w.heap.size w w'
set_option maxHeartbeats 16000000 in
set_option maxRecDepth 100000 in
theorem new_any (host : ByteArray) (size : Int) (a : Option Addr) (n c : Nat) (os : List ByteArray) (w : World) (hn : os.length = n) (hr : SRow w a os) (hh : host.size ≤ 1000) (hz : ∀ o ∈ os, o.size ≤ 100000000) :
    Calls Tryz.prog 10 #[.string host, .slice a n c, .int .i64 size] w fun e w' => NewAns host os size w e w' := by
  have hmm := @run_makeMap Tryz.prog
  have HR : Hid (SRow w a os) := hr
  have HZ : Hid (∀ o ∈ os, o.size ≤ 100000000) := hz
  have hdom := isDom_any host w (by omega)
  clear hr hz
  obtain ⟨d, hd⟩ : ∃ d, domainZ (nums host) = d := ⟨_, rfl⟩
  rw [hd] at hdom
  by_cases ok1 : d = true ∧ n ≤ 64 ∧ 1 ≤ size ∧ size ≤ 65536
  rotate_left
  · have HN : Hid (newOk host os size = false) := by
      unfold Hid newOk
      rw [hd, hn]
      rw [Bool.eq_false_iff]
      intro q
      simp at q
      exact ok1 ⟨q.1.1.1.1, q.1.1.1.2, q.1.1.2, q.1.2⟩
    have fin : ∀ (w1 : World), Below w.heap.size w w1 → NewAns host os size w (.returned (.tuple #[.pointer none, .int .i64 1])) w1 := fun w1 hb => ⟨fun _ => rfl, fun q => (by rw [HN.out] at q; cases q), hb⟩
    have FIN : Hid _ := fin
    clear fin
    cases d with
    | false =>
      go_enter Tryz.func10, Tryz.ntmps10
      go_wp2_with fail
      refine hdom.mono ?_
      rintro e w1 ⟨rfl, hb1⟩
      clear hdom
      go_wp2
      go_ret2
      exact FIN.out _ hb1
    | true =>
      by_cases p1 : 64 < n
      · have hd1 : decide ((n : Int) > 64) = true := by simp; omega
        go_enter Tryz.func10, Tryz.ntmps10
        go_wp2_with fail
        refine hdom.mono ?_
        rintro e w1 ⟨rfl, hb1⟩
        clear hdom
        go_wp2
        go_ret2
        exact FIN.out _ hb1
      · have hd1 : decide ((n : Int) > 64) = false := by simp; omega
        by_cases p2 : size < 1
        · have hd2 : decide (size < 1) = true := by simpa using p2
          go_enter Tryz.func10, Tryz.ntmps10
          go_wp2_with fail
          refine hdom.mono ?_
          rintro e w1 ⟨rfl, hb1⟩
          clear hdom
          go_wp2
          go_ret2
          exact FIN.out _ hb1
        · have hd2 : decide (size < 1) = false := by simpa using p2
          have p3 : size > 65536 := by
            rcases Int.lt_or_le 65536 size with q | q
            · exact q
            · exact absurd ⟨rfl, by omega, by omega, q⟩ ok1
          have hd3 : decide (size > 65536) = true := by simpa using p3
          go_enter Tryz.func10, Tryz.ntmps10
          go_wp2_with fail
          refine hdom.mono ?_
          rintro e w1 ⟨rfl, hb1⟩
          clear hdom
          go_wp2
          go_ret2
          exact FIN.out _ hb1
  obtain ⟨rfl, p1, p2, p3⟩ := ok1
  have hd1 : decide ((n : Int) > 64) = false := by simp; omega
  have hd2 : decide (size < 1) = false := by simp; omega
  have hd3 : decide (size > 65536) = false := by simp; omega
  have HQ : Hid (newOk host os size = os.all ownZ) := by
    unfold Hid newOk
    rw [hd, hn, decide_eq_true p1, decide_eq_true p2, decide_eq_true p3]; rfl
  clear hd
  go_enter Tryz.func10, Tryz.ntmps10
  go_wp2_with fail
  refine hdom.mono ?_
  rintro e w1 ⟨rfl, hb1⟩
  clear hdom
  have HB1 : Hid (Below w.heap.size w w1) := hb1
  have hs1 := hb1.size
  clear hb1
  go_wp2_with fail
  go_loopw [36, 9, 10, 11, 12] (fun i v9 v10 v11 v12 wr => ∃ (k : Nat) (D : DataW Unit), i = .int .i64 k ∧ k ≤ n ∧ wr.ownsMap Tryz.prog 9 (plainElem Tryz.prog 3) w1.heap.size k D ∧ Seen D ((os.take k).map nums) ∧ (os.take k).all ownZ = true ∧ Blk wr (w1.heap.size + 1) (cellsS (newM (w1.heap.size + 1) w1.heap.size) (newS host [] size)) 46 ∧ Below w.heap.size w wr ∧ w1.heap.size + 1 < wr.heap.size) (fun i v9 v10 v11 v12 _ => n - (intOf i).toNat)
  case atStart =>
    have e1 : (w1.alloc (.map #[] 0)).heap.size = w1.heap.size + 1 := by simp
    refine ⟨0, .map [], rfl, Nat.zero_le _, (map_below (World.ownsMap_made w1 _ _ _) (keep (w1.alloc (.map #[] 0)) _)), fun s => rfl, rfl, ?_, (HB1.out.alloc hs1 _).alloc (by simp; omega) _, by simp⟩
    have := World.alloc_heap_new (w1.alloc (.map #[] 0)) (.cells (cellsS (newM (w1.heap.size + 1) w1.heap.size) (newS host [] size)) 46)
    rw [e1] at this
    exact this
  case round =>
    obtain ⟨k, D, rfl, hk, hown, hseen, hall, hblk, hb, hsz⟩ := hrel
    have HI : Hid (wr.ownsMap Tryz.prog 9 (plainElem Tryz.prog 3) w1.heap.size k D ∧ Seen D ((os.take k).map nums) ∧ (os.take k).all ownZ = true ∧ Blk wr (w1.heap.size + 1) (cellsS (newM (w1.heap.size + 1) w1.heap.size) (newS host [] size)) 46 ∧ Below w.heap.size w wr) := ⟨hown, hseen, hall, hblk, hb⟩
    have hrw := HR.out.below hb
    have hws := hb.size
    clear hown hseen hall hblk hb
    by_cases hlt : k < n
    rotate_left
    · obtain rfl : k = n := by omega
      have hd : decide ((k : Int) < (k : Int)) = false := by simp
      have HF : Hid (NewAns host os size w (.returned (.tuple #[.pointer (some ⟨w1.heap.size + 1, 0, none⟩), .int .i64 0])) wr) := by
        obtain ⟨x1, x2, x3, x4, x5⟩ := HI.out
        rw [List.take_of_length_le (by omega)] at x2 x3
        refine ⟨fun q => (by rw [HQ.out, x3] at q; cases q), fun _ => ⟨_, w1.heap.size, rfl, newS_at x4 ⟨_, D, x1, x2⟩ hh p2 p3, by omega, by omega⟩, x5⟩
      go_wp2
      go_ret2
      exact HF.out
    have hd : decide ((k : Int) < (n : Int)) = true := by simp; omega
    obtain ⟨o, ho⟩ : ∃ o, os[k]? = some o := ⟨_, List.getElem?_eq_getElem (by omega)⟩
    have hoz := HZ.out o (List.mem_of_getElem? ho)
    rcases hrw with q | ⟨b, off, rfl, hcell⟩
    · rw [q] at hn; simp at hn; omega
    have hc1 := hcell k o ho
    have HO : Hid (os[k]? = some o) := ho
    have HT : Hid (os.take (k + 1) = os.take k ++ [o]) := by unfold Hid; rw [List.take_add_one, ho]; rfl
    clear hcell ho
    have hper := person_any o wr hoz
    have hkey : keyOf Tryz.prog 9 (.string o) = some (keyZ o) := Go.WideMaps.keyOf_string_mk Tryz.underlying9 (by unfold maxLen; omega)
    go_wp2_with fail
    refine hper.mono ?_
    rintro e w2 ⟨x, ok, rfl, hb2, hpa⟩
    have HB2 : Hid (Below w.heap.size w w2) := HI.out.2.2.2.2.trans (hb2.mono hws)
    have HO2 : Hid (w2.ownsMap Tryz.prog 9 (plainElem Tryz.prog 3) w1.heap.size k D) := map_below HI.out.1 hb2
    have HK2 : Hid (Blk w2 (w1.heap.size + 1) (cellsS (newM (w1.heap.size + 1) w1.heap.size) (newS host [] size)) 46) := (hb2.block _ hsz).trans HI.out.2.2.2.1
    have y1 : w2.cell? ⟨w1.heap.size + 1, 1, none⟩ = some (.map (some w1.heap.size)) := by rw [HK2.out.cell]; rfl
    have hs2 := hb2.size
    have HPA : Hid (PerAns (nums o) x ok) := hpa
    clear hper hb2 hpa hc1
    have no : ownZ o = false → NewAns host os size w (.returned (.tuple #[.pointer none, .int .i64 1])) w2 := fun q => by
      have : newOk host os size = false := by
        rw [HQ.out, List.all_eq_false]
        exact ⟨o, List.mem_of_getElem? HO.out, by rw [q]; decide⟩
      exact ⟨fun _ => rfl, fun r => (by rw [this] at r; cases r), HB2.out⟩
    have NO : Hid _ := no
    clear no
    cases ok with
    | false =>
      have HX : Hid (ownZ o = false) := by
        unfold Hid ownZ
        rw [decide_eq_false_iff_not]
        intro q
        have := HPA.out.1
        rw [q] at this
        cases this
      go_wp2
      go_ret2
      exact NO.out HX.out
    | true =>
      by_cases hx : x = o
      rotate_left
      · have HX : Hid (ownZ o = false) := by
          unfold Hid ownZ
          rw [decide_eq_false_iff_not]
          intro q
          have := HPA.out.2
          rw [q] at this
          exact hx (nums_inj this)
        have hx1 : (x.toList == o.toList) = false := by
          rw [beq_eq_false_iff_ne]
          intro q
          exact hx (toList_inj q)
        go_wp2
        go_ret2
        exact NO.out HX.out
      · subst hx
        have HX : Hid (ownZ x = true) := by
          unfold Hid ownZ
          rw [decide_eq_true_iff]
          have h1 := HPA.out.1
          have h2 := HPA.out.2
          cases q : perZ (nums x) with
          | none => rw [q] at h1; cases h1
          | some z => rw [q] at h2; rw [h2]; rfl
        go_wp2_with (at_mapUpdate; refine wpList_mapUpdate_own _ rfl _ _ _ 43 rfl 9 3 law9 Tryz.underlying43 (plainElem (H := Unit) Tryz.prog 3) w1.heap.size k D rfl HO2.out (by unfold maxLen; omega) _ _ _ rfl rfl hkey _ [] (plainElem_int Tryz.underlying3 (WalkArith.wf_i64 (by omega))) ?_; intro w5 hown5 hgrow5)
        have HB5 : Hid (Below w.heap.size w w5) := HB2.out.grown hgrow5 HB2.out.size (fun j hj => by cases hj; omega)
        have hs5 := hgrow5.size
        have HK5 : Hid (Blk w5 (w1.heap.size + 1) (cellsS (newM (w1.heap.size + 1) w1.heap.size) (newS host [] size)) 46) := (hgrow5.block _ (by omega) (by simp)).trans HK2.out
        go_wp2
        go_roundw
        case rel =>
          refine ⟨k + 1, _, by rw [show ((k + 1 : Nat) : Int) = (k : Int) + 1 from by omega], by omega, hown5, ?_, ?_, HK5.out, HB5.out, by omega⟩
          · rw [HT.out, List.map_append]
            exact seen_put HI.out.2.1 HO2.out.isMap x _
          · rw [HT.out, List.all_append, HI.out.2.2.1]
            simp [HX.out]
        case measure => simp [intOf]; omega
end Go.Proofs.YtbckbonffajmeaaGreatDoor
