/-
  A kind's pieces gathered.
-/
import Derived.Test.YtfhgkkdbkbbpkaaDoorEn
import Derived.Test.YtfhgkkdbkbbpkaaDoorWr
import Derived.Deep.AppendLies
namespace Go.Proofs.YtfhgkkdbkbbpkaaDoor
open Go.RowKit Go.Maps
set_option linter.unusedVariables false
set_option linter.unusedSimpArgs false

theorem wpList_upd_run {P : Program} {w w' : World} {ops : Array Oper} {rest : List Oper} {o : Oper} {a : Act} {Q : Exit → Act → World → Prop} (hg : o.guard = none) (m x v : Operand) (t : TypeId) (hop : o.op = Op.mapUpdate t m x v)
    (hrun : (Instr.mapUpdate t (a.eval m) (a.eval x) (a.eval v)).run P w = .ok () w') (hK : wpList P ops Q rest (a.put o.dst undef) w') : wpList P ops Q (o :: rest) a w := by
  refine wpList_plain hg fun K' hK' => ?_
  unfold Oper.wp
  simp [execOp, hop, hrun, Result.andThen]
  exact hK' _ _ hK
theorem PMap.mono {w : World} {b n n' : Nat} {L : List Pc} (h : PMap w b n L) (hn : n ≤ n') : PMap w b n' L := by
  obtain ⟨D, hown, r⟩ := h
  exact ⟨D, hown.mono hn, r⟩
theorem CMap.mono {w : World} {b n n' : Nat} {F : List Int → Nat} (h : CMap w b n F) (hn : n ≤ n') : CMap w b n' F := by
  obtain ⟨D, hown, r⟩ := h
  exact ⟨D, hown.mono hn, r⟩
theorem cell_of {w : World} {b i : Nat} {cs : Array Value} {t : TypeId} {v : Value} (h : w.heap[b]? = some (.cells cs t)) (hi : cs[i]? = some v) : w.cell? ⟨b, i, none⟩ = some v := by
  simp [World.cell?, h, hi]
theorem frozen_of {w : World} {b i : Nat} {cs : Array Value} {t : TypeId} (h : w.heap[b]? = some (.cells cs t)) : w.frozen? ⟨b, i, none⟩ = false := by
  simp [World.frozen?, h]
theorem cnt_more (M : List Pc) (b : List Int) (m : Int) (v : List Int) (c : Bool) (x : List Int) : (if x = b then cntZ M b + 1 else cntZ M x) = cntZ (M ++ [(b, m, v, c)]) x := by
  rw [cnt_snoc]
  by_cases e : x = b
  · simp [e]
  · have e2 : ¬ b = x := fun q => e q.symm
    simp [e, e2]
def gatherZ : List (List Int × List Int) → List Pc → Option (List Pc)
  | [], L => some L
  | p :: r, L => if (pieceZ p.1).2.2.2 = false then gatherZ r L
    else if (lookZ L (pieceZ p.1).1 (pieceZ p.1).2.1).isSome ∨ (pieceZ p.1).1 = [] then none
    else gatherZ r (L ++ [((pieceZ p.1).1, (pieceZ p.1).2.1, p.2, (pieceZ p.1).2.2.1)])
theorem piece_num (s : List Int) : -1 ≤ (pieceZ s).2.1 ∧ (pieceZ s).2.1 ≤ 99 := by
  unfold pieceZ
  simp only
  repeat' split
  all_goals first | exact num_ge _ | exact ⟨by simp, by simp⟩
theorem wf_small {n : Int} (h0 : -1 ≤ n) (h1 : n ≤ 99) : (Lit.int .i64 n).wf = true := WalkArith.wf_i64 (by omega)
set_option maxRecDepth 100000 in
set_option maxHeartbeats 8000000 in
theorem gather_ok (ty sub : ByteArray) (a : Option Addr) (n c : Nat) (fs : List (ByteArray × ByteArray)) (L : List Pc) (w : World) (hn : fs.length = n) (hbig : n ≤ 1000000) (hr : FRow w a fs) (hf : ∀ f ∈ fs, f.1.size ≤ 1000000000 ∧ f.2.size ≤ 1000000000)
    (hz : gatherZ (numsP fs) [] = some L) :
    Calls Tryd.prog 36 #[kindV ty sub a n c] w fun e w' => ∃ m1 m2 k, e = .returned (.tuple #[.agg #[.map (some m1), .map (some m2)], .bool true]) ∧ PMap w' m1 k L ∧ CMap w' m2 k (cntZ L) ∧ k ≤ n ∧ w.heap.size ≤ m1 ∧ w.heap.size ≤ m2 ∧ m1 ≠ m2 ∧ Below w.heap.size w w' := by
  have HR : Hid (FRow w a fs) := hr
  have HF : Hid (∀ f ∈ fs, f.1.size ≤ 1000000000 ∧ f.2.size ≤ 1000000000) := hf
  have HZ : Hid (gatherZ (numsP fs) [] = some L) := hz
  have hmm := @run_makeMap Tryd.prog
  clear hr hf hz
  unfold kindV
  go_enter Tryd.func36, Tryd.ntmps36
  go_wp2
  have HP0 : Hid (PMap (((((w.alloc (.cells #[.string ty, .string sub, .slice a n c] 24)).alloc (.cells #[.map none, .map none] 57)).alloc (.map #[] 0)).alloc (.map #[] 0)).alloc (.cells #[.map (some (w.heap.size + 1 + 1)), .map (some (w.heap.size + 1 + 1 + 1))] 57)) (w.heap.size + 1 + 1) 0 []) := by
    have := ((PMap.made ((w.alloc (.cells #[.string ty, .string sub, .slice a n c] 24)).alloc (.cells #[.map none, .map none] 57))).alloc (.map #[] 0)).alloc (.cells #[.map (some (w.heap.size + 1 + 1)), .map (some (w.heap.size + 1 + 1 + 1))] 57)
    simpa [Hid] using this
  have HC0 : Hid (CMap (((((w.alloc (.cells #[.string ty, .string sub, .slice a n c] 24)).alloc (.cells #[.map none, .map none] 57)).alloc (.map #[] 0)).alloc (.map #[] 0)).alloc (.cells #[.map (some (w.heap.size + 1 + 1)), .map (some (w.heap.size + 1 + 1 + 1))] 57)) (w.heap.size + 1 + 1 + 1) 0 (cntZ [])) := by
    have := (CMap.made (((w.alloc (.cells #[.string ty, .string sub, .slice a n c] 24)).alloc (.cells #[.map none, .map none] 57)).alloc (.map #[] 0))).alloc (.cells #[.map (some (w.heap.size + 1 + 1)), .map (some (w.heap.size + 1 + 1 + 1))] 57)
    exact CMap.congr (F := fun _ => 0) (by simpa using this) (fun _ => rfl)
  have G0 : Hid ((((((w.alloc (.cells #[.string ty, .string sub, .slice a n c] 24)).alloc (.cells #[.map none, .map none] 57)).alloc (.map #[] 0)).alloc (.map #[] 0)).alloc (.cells #[.map (some (w.heap.size + 1 + 1)), .map (some (w.heap.size + 1 + 1 + 1))] 57)).cell? ⟨w.heap.size + 1 + 1 + 1 + 1, 0, none⟩ = some (.map (some (w.heap.size + 1 + 1))) ∧ (((((w.alloc (.cells #[.string ty, .string sub, .slice a n c] 24)).alloc (.cells #[.map none, .map none] 57)).alloc (.map #[] 0)).alloc (.map #[] 0)).alloc (.cells #[.map (some (w.heap.size + 1 + 1)), .map (some (w.heap.size + 1 + 1 + 1))] 57)).cell? ⟨w.heap.size + 1 + 1 + 1 + 1, 1, none⟩ = some (.map (some (w.heap.size + 1 + 1 + 1)))) := by
    have e4 : ((((w.alloc (.cells #[.string ty, .string sub, .slice a n c] 24)).alloc (.cells #[.map none, .map none] 57)).alloc (.map #[] 0)).alloc (.map #[] 0)).heap.size = w.heap.size + 1 + 1 + 1 + 1 := by simp
    unfold Hid
    rw [← e4, World.cell?_alloc_mark, World.cell?_alloc_mark]
    exact ⟨rfl, rfl⟩
  have R0 : Hid ((((((w.alloc (.cells #[.string ty, .string sub, .slice a n c] 24)).alloc (.cells #[.map none, .map none] 57)).alloc (.map #[] 0)).alloc (.map #[] 0)).alloc (.cells #[.map (some (w.heap.size + 1 + 1)), .map (some (w.heap.size + 1 + 1 + 1))] 57)).heap[w.heap.size + 1]? = some (.cells #[.map none, .map none] 57)) := by
    unfold Hid
    rw [(MapKept.heap_alloc _ _).2 _ (by simp), (MapKept.heap_alloc _ _).2 _ (by simp), (MapKept.heap_alloc _ _).2 _ (by simp)]
    have := (MapKept.heap_alloc (w.alloc (.cells #[.string ty, .string sub, .slice a n c] 24)) (.cells #[.map none, .map none] 57)).1
    simpa using this
  go_loopw [18] (fun i wr => ∃ (k : Nat) (M : List Pc), i = .int .i64 k ∧ k ≤ n ∧ Hid (PMap wr (w.heap.size + 1 + 1) k M) ∧ Hid (CMap wr (w.heap.size + 1 + 1 + 1) k (cntZ M)) ∧ Hid (gatherZ (numsP (fs.drop k)) M = some L)
    ∧ wr.cell? ⟨w.heap.size + 1 + 1 + 1 + 1, 0, none⟩ = some (.map (some (w.heap.size + 1 + 1))) ∧ wr.cell? ⟨w.heap.size + 1 + 1 + 1 + 1, 1, none⟩ = some (.map (some (w.heap.size + 1 + 1 + 1)))
    ∧ wr.heap[w.heap.size + 1]? = some (.cells #[.map none, .map none] 57) ∧ Hid (Below w.heap.size w wr) ∧ M.length ≤ k) (fun i _ => n - (intOf i).toNat)
  case atStart =>
    refine ⟨0, [], rfl, by omega, HP0, HC0, HZ, G0.out.1, G0.out.2, R0.out, ?_, by simp⟩
    · exact ((((keep w _).alloc (by simp) _).alloc (by simp; omega) _).alloc (by simp; omega) _).alloc (by simp; omega) _
  case round =>
    clear HP0 HC0 HZ G0 R0
    obtain ⟨k, M, rfl, hk, HP, HC, HZ, g0, g1, r0, HB, hML⟩ := hrel
    have hrw := HR.out.below HB.out
    have hsz : w.heap.size + 1 + 1 + 1 + 1 < wr.heap.size := World.block_lt_of_cell? wr _ g0
    by_cases hlt : k < n
    · obtain ⟨f, hfk⟩ : ∃ f, fs[k]? = some f := ⟨_, List.getElem?_eq_getElem (by omega)⟩
      have HD : Hid (fs.drop k = f :: fs.drop (k + 1)) := by
        unfold Hid
        rw [List.drop_eq_getElem_cons (by omega)]
        rw [List.getElem?_eq_getElem (by omega)] at hfk
        simp only [Option.some.injEq] at hfk
        rw [hfk]
      have hfz := HF.out f (List.mem_of_getElem? hfk)
      obtain ⟨nm, vl⟩ := f
      obtain ⟨hz1, hz2⟩ := hfz
      rcases hrw with h | ⟨b, off, rfl, h⟩
      · rw [h] at hn; simp at hn; omega
      obtain ⟨hc1, hc2⟩ := h k _ hfk
      clear h hfk
      simp only at hc1 hc2 hz1 hz2
      have hgz := HZ.out
      rw [HD.out] at hgz
      simp only [numsP, List.map_cons, gatherZ] at hgz
      have hpn := piece_num (nums nm)
      have hkn : k < 1000000 := by omega
      go_wp2_with fail
      refine (pieceOf_any nm _ hz1).mono ?_
      rintro e w1 ⟨bs, rfl, hbs, hbz, hb1⟩
      unfold plV
      rw [← hbs] at hgz
      obtain ⟨m, hm⟩ : ∃ m, (pieceZ (nums nm)).2.1 = m := ⟨_, rfl⟩
      obtain ⟨cd, hcd⟩ : ∃ cd, (pieceZ (nums nm)).2.2.1 = cd := ⟨_, rfl⟩
      rw [hm, hcd] at hgz ⊢
      rw [hm] at hpn
      have hx1 := hb1.size
      have s1 : wr.heap.size < w1.heap.size := by have : (wr.alloc (.cells #[.string nm, .string vl] 37)).heap.size = wr.heap.size + 1 := by simp
                                                  omega
      have p0 : w1.cell? ⟨wr.heap.size, 0, none⟩ = some (.string nm) := by rw [hb1.cell (p := ⟨wr.heap.size, 0, none⟩) (by simp)]; rw [World.cell?_alloc_mark]; rfl
      have p1 : w1.cell? ⟨wr.heap.size, 1, none⟩ = some (.string vl) := by rw [hb1.cell (p := ⟨wr.heap.size, 1, none⟩) (by simp)]; rw [World.cell?_alloc_mark]; rfl
      have hbw : Below wr.heap.size wr w1 := (keep wr _).trans (hb1.mono (by simp))
      have g0' : w1.cell? ⟨w.heap.size + 1 + 1 + 1 + 1, 0, none⟩ = some (.map (some (w.heap.size + 1 + 1))) := by rw [hbw.cell hsz]; exact g0
      have g1' : w1.cell? ⟨w.heap.size + 1 + 1 + 1 + 1, 1, none⟩ = some (.map (some (w.heap.size + 1 + 1 + 1))) := by rw [hbw.cell hsz]; exact g1
      have r0' : w1.heap[w.heap.size + 1]? = some (.cells #[.map none, .map none] 57) := by rw [hbw.block _ (by omega)]; exact r0
      have HP1 : Hid (PMap w1 (w.heap.size + 1 + 1) k M) := HP.out.below hbw
      have HC1 : Hid (CMap w1 (w.heap.size + 1 + 1 + 1) k (cntZ M)) := HC.out.below hbw
      have HB1 : Hid (Below w.heap.size w w1) := HB.out.trans (hbw.mono (by omega))
      have hs1 : w.heap.size + 1 + 1 + 1 + 1 < w1.heap.size := by omega
      clear hb1 hbw HP HC HB g0 g1 r0 hm hcd hc1 hc2 hx1 hbs
      cases hfd : (pieceZ (nums nm)).2.2.2 with
      | false =>
        have HG : Hid (gatherZ (numsP (fs.drop (k + 1))) M = some L) := by
          unfold Hid; rw [hfd, if_pos rfl] at hgz; exact hgz
        have HP2 : Hid (PMap (w1.alloc (.cells #[.string bs, .int .i64 m] 61)) (w.heap.size + 1 + 1) (k + 1) M) := (HP1.out.alloc _).mono (by omega)
        have HC2 : Hid (CMap (w1.alloc (.cells #[.string bs, .int .i64 m] 61)) (w.heap.size + 1 + 1 + 1) (k + 1) (cntZ M)) := (HC1.out.alloc _).mono (by omega)
        clear hgz HZ HD
        go_wp2
        go_roundw
        case rel => exact ⟨k + 1, M, by go_num, by omega, HP2, HC2, HG, ((keep w1 _).cell hs1).trans g0', ((keep w1 _).cell hs1).trans g1', ((keep w1 _).block _ (by omega)).trans r0', HB1.out.alloc (by omega) _, by omega⟩
        case measure => simp [intOf]; omega
      | true =>
        rw [hfd, if_neg (by decide)] at hgz
        have hnn : ¬ ((lookZ M (nums bs) m).isSome ∨ nums bs = []) := by
          intro q; rw [if_pos q] at hgz; cases hgz
        rw [if_neg hnn] at hgz
        have HG : Hid (gatherZ (numsP (fs.drop (k + 1))) (M ++ [(nums bs, m, nums vl, cd)]) = some L) := hgz
        have hlk : lookZ M (nums bs) m = none := by
          cases q : lookZ M (nums bs) m with
          | none => rfl
          | some x => exact absurd (.inl (by rw [q]; rfl)) hnn
        have hbe : bs.toList.isEmpty = false := by
          have en := eq_nums bs ⟨#[]⟩
          rw [show nums (⟨#[]⟩ : ByteArray) = [] from rfl, ByteArray.toList_eq (⟨#[]⟩)] at en
          simp only at en
          cases hq : bs.toList with
          | nil => rw [hq] at en; simp at en; exact absurd (.inr en) hnn
          | cons x r => rfl
        have hmb : bs.size ≤ maxLen := by unfold maxLen; omega
        have hkm : k < maxLen := by unfold maxLen; omega
        have hwf := wf_small hpn.1 hpn.2
        obtain ⟨t, cc, hrun⟩ := (HP1.out.alloc (.cells #[.string bs, .int .i64 m] 61)).look_miss bs m hmb hwf hlk
        obtain ⟨w5, hrun5, hP5, hg5⟩ := ((HP1.out.alloc (.cells #[.string bs, .int .i64 m] 61)).alloc (.cells #[.string t, .bool cc] 83)).put bs m hmb hwf vl cd hkm hlk
        have hC5 := ((HC1.out.alloc (.cells #[.string bs, .int .i64 m] 61)).alloc (.cells #[.string t, .bool cc] 83)).kept hg5 (fun q => by simp only [Option.some.injEq] at q; omega)
        have hl5 := hC5.look bs hmb
        have hcl : cntZ M (nums bs) ≤ M.length := List.length_filter_le _ _
        obtain ⟨w6, hrun6, hC6, hg6⟩ := hC5.put bs hmb hkm (cntZ M (nums bs) + 1) (by omega)
        have kp2 : Below w1.heap.size w1 ((w1.alloc (.cells #[.string bs, .int .i64 m] 61)).alloc (.cells #[.string t, .bool cc] 83)) := (keep w1 _).alloc (by simp) _
        have a0 : ((w1.alloc (.cells #[.string bs, .int .i64 m] 61)).alloc (.cells #[.string t, .bool cc] 83)).cell? ⟨w.heap.size + 1 + 1 + 1 + 1, 0, none⟩ = some (.map (some (w.heap.size + 1 + 1))) := (kp2.cell hs1).trans g0'
        have a1 : ((w1.alloc (.cells #[.string bs, .int .i64 m] 61)).alloc (.cells #[.string t, .bool cc] 83)).cell? ⟨w.heap.size + 1 + 1 + 1 + 1, 1, none⟩ = some (.map (some (w.heap.size + 1 + 1 + 1))) := (kp2.cell hs1).trans g1'
        have a2 : ((w1.alloc (.cells #[.string bs, .int .i64 m] 61)).alloc (.cells #[.string t, .bool cc] 83)).cell? ⟨wr.heap.size, 1, none⟩ = some (.string vl) := (kp2.cell s1).trans p1
        have a3 : ((w1.alloc (.cells #[.string bs, .int .i64 m] 61)).alloc (.cells #[.string t, .bool cc] 83)).cell? ⟨w1.heap.size, 0, none⟩ = some (.string bs) := by
          rw [(keep (w1.alloc (.cells #[.string bs, .int .i64 m] 61)) _).cell (by simp), World.cell?_alloc_mark]; rfl
        have b1 : w5.cell? ⟨w.heap.size + 1 + 1 + 1 + 1, 1, none⟩ = some (.map (some (w.heap.size + 1 + 1 + 1))) := hg5.cell a1 (fun q => by simp only [Option.some.injEq] at q; omega)
        have b2 : w5.cell? ⟨w1.heap.size, 0, none⟩ = some (.string bs) := hg5.cell a3 (fun q => by simp only [Option.some.injEq] at q; omega)
        have HB5 : Hid (Below w.heap.size w w5) := ((HB1.out.alloc (by omega) _).alloc (by simp; omega) _).grown hg5 (by simp; omega) (fun j hj => by cases hj; omega)
        have hs5 : w1.heap.size + 2 ≤ w5.heap.size := by have := hg5.size; simpa using this
        have HB6 : Hid (Below w.heap.size w w6) := HB5.out.grown hg6 (by omega) (fun j hj => by cases hj; omega)
        have d0 : w6.cell? ⟨w.heap.size + 1 + 1 + 1 + 1, 0, none⟩ = some (.map (some (w.heap.size + 1 + 1))) := hg6.cell (hg5.cell a0 (fun q => by simp only [Option.some.injEq] at q; omega)) (fun q => by simp only [Option.some.injEq] at q; omega)
        have d1 : w6.cell? ⟨w.heap.size + 1 + 1 + 1 + 1, 1, none⟩ = some (.map (some (w.heap.size + 1 + 1 + 1))) := hg6.cell b1 (fun q => by simp only [Option.some.injEq] at q; omega)
        have d2 : w6.heap[w.heap.size + 1]? = some (.cells #[.map none, .map none] 57) := by
          rw [hg6.block _ (by omega) (fun q => by simp only [Option.some.injEq] at q; omega), hg5.block _ (by simp; omega) (fun q => by simp only [Option.some.injEq] at q; omega), kp2.block _ (by omega)]; exact r0'
        have HP6 : Hid (PMap w6 (w.heap.size + 1 + 1) (k + 1) (M ++ [(nums bs, m, nums vl, cd)])) := hP5.kept hg6 (fun q => by simp only [Option.some.injEq] at q; omega)
        have HC6 : Hid (CMap w6 (w.heap.size + 1 + 1 + 1) (k + 1) (cntZ (M ++ [(nums bs, m, nums vl, cd)]))) := CMap.congr hC6 (cnt_more M _ _ _ _)
        have ecnt : ((cntZ M (nums bs) + 1 : Nat) : Int) = (cntZ M (nums bs) : Int) + 1 := by omega
        rw [ecnt] at hrun6
        unfold plV pcV at hrun hrun5
        clear hgz hP5 hC5 hC6 hg5 hg6 kp2 HP1 HC1 HB1 HZ HD hnn hlk
        go_wp2_with (first
          | (at_lookup; refine wpList_look_miss rfl _ _ _ _ rfl _ hrun ?_)
          | (at_lookup; refine wpList_look_miss rfl _ _ _ _ rfl _ hl5 ?_)
          | (at_mapUpdate; refine wpList_upd_run rfl _ _ _ _ rfl hrun5 ?_)
          | (at_mapUpdate; refine wpList_upd_run rfl _ _ _ _ rfl hrun6 ?_))
        go_roundw
        case rel => exact ⟨k + 1, _, by go_num, by omega, HP6, HC6, HG, d0, d1, d2, HB6, by simp; omega⟩
        case measure => simp [intOf]; omega
    · obtain rfl : k = n := by omega
      have hgz := HZ.out
      rw [List.drop_of_length_le (by omega)] at hgz
      have hML : M = L := by simpa [numsP, gatherZ] using hgz
      subst hML
      clear HZ hgz
      have q0 : wr.cell? ⟨w.heap.size + 1, 0, none⟩ = some (.map none) := cell_of r0 rfl
      have q1 : wr.cell? ⟨w.heap.size + 1, 1, none⟩ = some (.map none) := cell_of r0 rfl
      have f0 : wr.frozen? ⟨w.heap.size + 1, 0, none⟩ = false := frozen_of r0
      have f1 : wr.frozen? ⟨w.heap.size + 1, 1, none⟩ = false := frozen_of r0
      go_wp2
      exact bodyPost_ret (v := .tuple #[.agg #[.map (some (w.heap.size + 1 + 1)), .map (some (w.heap.size + 1 + 1 + 1))], .bool true]) (by simp [results, Tryd.results36, go_sem, q0, q1]) rfl
        ⟨_, _, k, rfl, (HP.out.setCell (by intro q; dsimp only at q; omega) _).setCell (by intro q; dsimp only at q; omega) _, (HC.out.setCell (by intro q; dsimp only at q; omega) _).setCell (by intro q; dsimp only at q; omega) _, by omega, by omega, by omega, by omega, (HB.out.setCell (by simp) _).setCell (by simp) _⟩
end Go.Proofs.YtfhgkkdbkbbpkaaDoor
