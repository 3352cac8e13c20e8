/-
  A base's pieces in their order; what a first coded piece names.
-/
import Derived.Test.YtfhgkkdbkbbpkaaDoorEg
import Derived.Test.YtfhgkkdbkbbpkaaDoorEd
import Derived.Lib.AppendStr
namespace Go.Proofs.YtfhgkkdbkbbpkaaDoor
open Go.RowKit Go.Maps
set_option linter.unusedVariables false
set_option linter.unusedSimpArgs false

theorem ownB {w : World} {B B' : Nat} {e : TypeId} {size : Nat} {v : Value} {n : Nat} {xs : List Value} (hB : B' ≤ B) (h : w.ownsRow B e size v n xs) : w.ownsRow B' e size v n xs := by
  refine ⟨h.1, ?_⟩
  rcases h.2 with h | ⟨g, cap, cur, h1, h2, h3⟩
  · exact .inl h
  · exact .inr ⟨g, cap, cur, h1, Nat.le_trans hB h2, h3⟩
theorem Tryd.info83 : (Tryd.prog.info? 83).map (fun i => (i.zero, i.size, i.bytes)) = some (some (.agg #[.string ⟨#[]⟩, .bool false]), 2, 24) := by kernel_rfl
def cellP (p : ByteArray × Bool) : List Value := [.string p.1, .bool p.2]
def OwnP (w : World) (B : Nat) (v : Value) (ps : List (ByteArray × Bool)) : Prop := w.ownsRow B 83 2 v ps.length (ps.flatMap cellP)
def psZ (ps : List (ByteArray × Bool)) : List (List Int × Bool) := ps.map fun p => (nums p.1, p.2)
def PRow (w : World) (a : Option Addr) (ps : List (ByteArray × Bool)) : Prop :=
  ps = [] ∨ ∃ b, a = some ⟨b, 0, none⟩ ∧ ∀ i p, ps[i]? = some p → w.cell? ⟨b, i * 2, none⟩ = some (.string p.1) ∧ w.cell? ⟨b, i * 2 + 1, none⟩ = some (.bool p.2)
theorem PRow.below {w w' : World} {a : Option Addr} {ps : List (ByteArray × Bool)} (h : PRow w a ps) (hb : Below w.heap.size w w') : PRow w' a ps := by
  rcases h with h | ⟨b, ha, h⟩
  · exact .inl h
  · refine .inr ⟨b, ha, fun i f hf => ?_⟩
    have := h i f hf
    have h1 := World.block_lt_of_cell? w _ this.1
    exact ⟨(hb.cell h1).trans this.1, (hb.cell (p := ⟨b, i * 2 + 1, none⟩) h1).trans this.2⟩
theorem ownP_view {w : World} {B : Nat} {v : Value} {fs : List (ByteArray × Bool)} (h : OwnP w B v fs) : ∃ a cap, v = .slice a fs.length cap ∧ PRow w a fs := by
  have h0 := h
  rcases h.2 with ⟨rfl, hn⟩ | ⟨g, cap, cur, rfl, hb, hg, hn, hm, hs, ht⟩
  · exact ⟨none, 0, by rw [hn], .inl (List.eq_nil_of_length_eq_zero hn)⟩
  · refine ⟨some ⟨g, 0, none⟩, cap, rfl, .inr ⟨g, rfl, fun i f hf => ?_⟩⟩
    have key : ∀ j, j < 2 → (fs.flatMap cellP)[i * 2 + j]? = (cellP f)[j]? := by
      intro j hj
      clear h0 h hg hn hm hs ht hb
      induction fs generalizing i with
      | nil => simp at hf
      | cons x r ih =>
        cases i with
        | zero =>
          simp only [List.getElem?_cons_zero, Option.some.injEq] at hf
          subst hf
          rw [List.flatMap_cons, List.getElem?_append_left (by simp [cellP]; omega)]
          simp
        | succ i =>
          simp only [List.getElem?_cons_succ] at hf
          rw [List.flatMap_cons, List.getElem?_append_right (by simp [cellP]; omega)]
          rw [← ih i hf]
          congr 1
          simp [cellP]; omega
    have c0 := h0.cells (g := g) rfl (i * 2 + 0) (.string f.1) (by rw [key 0 (by omega)]; rfl)
    have c1 := h0.cells (g := g) rfl (i * 2 + 1) (.bool f.2) (by rw [key 1 (by omega)]; rfl)
    rw [add_plain] at c0 c1
    exact ⟨by simpa using c0, by simpa [Nat.add_assoc] using c1⟩
theorem ownP_one (w : World) (p : ByteArray × Bool) : OwnP (w.alloc (.cells #[.string p.1, .bool p.2] 83)) w.heap.size (.slice (some ⟨w.heap.size, 0, none⟩) 1 1) [p] :=
  ⟨rfl, .inr ⟨w.heap.size, 1, #[.string p.1, .bool p.2], rfl, Nat.le_refl _, heap_alloc_last w _, Nat.le_refl _, by simp [maxLen], rfl, rfl⟩⟩
def rowF (L : List Pc) (b : List Int) : Nat → Nat → List (List Int × Bool)
  | 0, _ => []
  | f + 1, n => match lookZ L b (n : Int) with
    | none => []
    | some p => p :: rowF L b f (n + 1)
def rowZ (L : List Pc) (b : List Int) : List (List Int × Bool) := match lookZ L b (-1) with
  | some p => [p]
  | none => rowF L b 100 0
set_option maxRecDepth 100000 in
set_option maxHeartbeats 8000000 in
theorem row_any (m1 m2 n : Nat) (L : List Pc) (s : ByteArray) (w : World) (hs : s.size ≤ 1000000000) (hp : PMap w m1 n L) :
    Calls Tryd.prog 58 #[.agg #[.map (some m1), .map (some m2)], .string s] w fun e w' => ∃ v ps, e = .returned v ∧ OwnP w' w.heap.size v ps ∧ psZ ps = rowZ L (nums s) ∧ ps.length ≤ 100 ∧ Below w.heap.size w w' := by
  obtain ⟨j0, hi, hz0, hz1, hz2⟩ := info_parts Tryd.info83
  have HP : Hid (PMap w m1 n L) := hp
  have hmb : s.size ≤ maxLen := by unfold maxLen; omega
  clear hp
  cases h1 : lookZ L (nums s) (-1) with
  | some p =>
    obtain ⟨v, c⟩ := p
    obtain ⟨t, ht, hrun⟩ := (HP.out.alloc (.cells #[.map (some m1), .map (some m2)] 57)).look_hit s (-1) hmb (wf_small (by omega) (by omega)) h1
    have HZ : Hid (psZ [(t, c)] = rowZ L (nums s)) := by unfold Hid rowZ; rw [h1]; simp [psZ, ht]
    unfold plV pcV at hrun
    clear ht h1
    go_enter Tryd.func58, Tryd.ntmps58
    go_wp2_with (at_lookup; refine wpList_look_miss rfl _ _ _ _ rfl _ hrun ?_)
    go_ret
    have ho : OwnP ((((w.alloc (.cells #[.map (some m1), .map (some m2)] 57)).alloc (.cells #[.string t, .bool c] 83)).alloc (.cells #[.string t, .bool c] 83))) (w.heap.size + 1 + 1) (.slice (some ⟨w.heap.size + 1 + 1, 0, none⟩) 1 1) [(t, c)] := by
      have := ownP_one ((w.alloc (.cells #[.map (some m1), .map (some m2)] 57)).alloc (.cells #[.string t, .bool c] 83)) (t, c)
      rw [show ((w.alloc (.cells #[.map (some m1), .map (some m2)] 57)).alloc (.cells #[.string t, .bool c] 83)).heap.size = w.heap.size + 1 + 1 by simp] at this
      exact this
    refine ⟨_, [(t, c)], rfl, ownB (by omega) ho, HZ.out, by simp, ?_⟩
    · exact ((keep w _).alloc (by simp) _).alloc (by simp; omega) _
  | none =>
    obtain ⟨t0, c0, hrun⟩ := (HP.out.alloc (.cells #[.map (some m1), .map (some m2)] 57)).look_miss s (-1) hmb (wf_small (by omega) (by omega)) h1
    have HZ : Hid (rowZ L (nums s) = rowF L (nums s) 100 0) := by unfold Hid rowZ; rw [h1]
    unfold plV pcV at hrun
    clear h1
    go_enter Tryd.func58, Tryd.ntmps58
    go_wp2_with (at_lookup; refine wpList_look_miss rfl _ _ _ _ rfl _ hrun ?_)
    clear hrun
    have g0 : (w.alloc (.cells #[.map (some m1), .map (some m2)] 57)).cell? ⟨w.heap.size, 0, none⟩ = some (.map (some m1)) := by rw [World.cell?_alloc_mark]; rfl
    go_loopw [7, 8] (fun v i wr => ∃ (k : Nat) (ps : List (ByteArray × Bool)), i = .int .i64 k ∧ k ≤ 100 ∧ ps.length = k ∧ OwnP wr (w.heap.size + 1) v ps ∧ Hid (psZ ps ++ rowF L (nums s) (100 - k) k = rowZ L (nums s)) ∧ wr.cell? ⟨w.heap.size, 0, none⟩ = some (.map (some m1)) ∧ Hid (Below w.heap.size w wr)) (fun _ i _ => 100 - (intOf i).toNat)
    case atStart =>
      exact ⟨0, [], rfl, by omega, rfl, World.ownsRow_nil _ _ _ _, by unfold Hid; rw [HZ.out]; rfl, ((keep (w.alloc (.cells #[.map (some m1), .map (some m2)] 57)) _).cell (by simp)).trans g0, (keep w _).alloc (by simp) _⟩
    case round =>
      clear g0
      obtain ⟨k, ps, rfl, hk, hpl, hown, HQ, g0, HB⟩ := hrel
      have hw0 : w.heap.size < wr.heap.size := World.block_lt_of_cell? wr _ g0
      have hw1 : w.heap.size + 1 ≤ wr.heap.size := by omega
      by_cases hlt : k < 100
      · have dl : decide ((k : Int) ≤ 99) = true := decide_eq_true (by omega)
        have hsu : 100 - k = (100 - (k + 1)) + 1 := by omega
        have HPr := HP.out.below HB.out
        cases h1 : lookZ L (nums s) (k : Int) with
        | none =>
          obtain ⟨t0, c0, hrun⟩ := HPr.look_miss s (k : Int) hmb (wf_small (by omega) (by omega)) h1
          have HR : Hid (psZ ps = rowZ L (nums s)) := by unfold Hid; rw [← HQ.out, hsu, rowF, h1, List.append_nil]
          unfold plV pcV at hrun
          clear HQ h1 HZ
          go_wp2_with (at_lookup; refine wpList_look_miss rfl _ _ _ _ rfl _ hrun ?_)
          go_ret
          exact ⟨_, ps, rfl, ownB (by omega) (hown.alloc _), HR.out, by omega, HB.out.alloc (by omega) _⟩
        | some p =>
          obtain ⟨v, c⟩ := p
          obtain ⟨t, ht, hrun⟩ := HPr.look_hit s (k : Int) hmb (wf_small (by omega) (by omega)) h1
          have HR : Hid (psZ (ps ++ [(t, c)]) ++ rowF L (nums s) (100 - (k + 1)) (k + 1) = rowZ L (nums s)) := by
            unfold Hid; rw [← HQ.out, hsu, rowF, h1]; simp [psZ, ht]
          unfold plV pcV at hrun
          clear HQ h1 HZ ht
          unfold OwnP at hown
          rw [hpl] at hown
          go_wp2_with (first
            | (at_lookup; refine wpList_look_miss rfl _ _ _ _ rfl _ hrun ?_)
            | (at_builtin; refine wpList_append_own _ rfl _ _ 88 rfl (w.heap.size + 1) 83 j0 _ 2 24 Tryd.underlying88 hi hz0 hz1 hz2 rfl (by decide) _ k (ps.flatMap cellP) rfl ((hown.alloc _).alloc _) ⟨wr.heap.size + 1, 0, none⟩ 1 1 [.string t, .bool c] rfl rfl ?c2 ?c6 ?c3 ?c4 ?c5 ?_))
          case c2 =>
            have := cells_new (wr.alloc (.cells #[.string t, .bool c] 83)) [.string t, .bool c] 83
            simpa using this
          case c6 => intro u hu; simp at hu; rcases hu with rfl | rfl <;> rfl
          case c3 => unfold maxLen; omega
          case c4 => omega
          case c5 => simp; omega
          intro v' w4 hown' hgrow _
          have HO' : Hid (OwnP w4 (w.heap.size + 1) v' (ps ++ [(t, c)])) := by
            unfold Hid OwnP; rw [List.length_append, List.flatMap_append, hpl]; exact hown'
          have HB' : Hid (Below w.heap.size w w4) := ((HB.out.alloc (by omega) _).alloc (by simp; omega) _).grown hgrow (by simp; omega) (fun z hz => by have := (hown.lt z hz).1; omega)
          have g4 : w4.cell? ⟨w.heap.size, 0, none⟩ = some (.map (some m1)) := hgrow.cell ((((keep wr (.cells #[.string t, .bool c] 83)).alloc (by simp) (.cells #[.string t, .bool c] 83)).cell hw0).trans g0) (fun q => by have := (hown.lt _ q.symm).1; dsimp only at this; omega)
          clear hown' hgrow hown g0 HB hrun
          go_wp2
          go_roundw
          case rel => exact ⟨k + 1, _, by go_num, by omega, by simp; omega, HO'.out, HR, g4, HB'⟩
          case measure => simp [intOf]; omega
      · obtain rfl : k = 100 := by omega
        have dl : decide ((100 : Int) ≤ 99) = false := by decide
        have HR : Hid (psZ ps = rowZ L (nums s)) := by
          have := HQ.out
          unfold Hid
          rw [← this]; simp [rowF]
        clear HQ HZ
        go_wp2
        go_ret
        exact ⟨_, ps, rfl, ownB (by omega) hown, HR.out, by omega, HB.out⟩
theorem cut_one {c : Int} : ∀ {l u r v : List Int}, l ++ c :: r = u ++ c :: v → c ∉ l → c ∉ u → l = u ∧ r = v
  | [], [], r, v, h, _, _ => by simp at h; exact ⟨rfl, h⟩
  | [], x :: u, r, v, h, _, hu => by simp at h hu; exact absurd h.1 hu.1
  | x :: l, [], r, v, h, hl, _ => by simp at h hl; exact absurd h.1.symm hl.1
  | x :: l, y :: u, r, v, h, hl, hu => by
    simp at h hl hu
    obtain ⟨rfl, h⟩ := h
    obtain ⟨rfl, rfl⟩ := cut_one h hl.2 hu.2
    exact ⟨rfl, rfl⟩
def utfP : List Int := [117, 116, 102, 45, 56, 39, 39]
set_option maxRecDepth 100000 in
set_option maxHeartbeats 4000000 in
theorem named_utf (s : ByteArray) (t : List Int) (w : World) (hs : s.size ≤ 1000000000) (hz : nums s = utfP ++ t) :
    Calls Tryd.prog 59 #[.string s] w fun e w' => ∃ x : ByteArray, e = .returned (.tuple #[.string Cs.utfS, .string x, .bool true]) ∧ nums x = t ∧ x.size ≤ s.size ∧ Below w.heap.size w w' := by
  have K : ∀ V, Calls Tryd.prog 75 #[.string s, .string ⟨#[39]⟩] V fun e w' => ∃ r : ByteArray, e = .returned (.tuple #[.string Cs.utfS, .string r, .bool true]) ∧ nums r = 39 :: t ∧ Below V.heap.size V w' ∧ r.size ≤ s.size := fun V => by
    refine (cut_any s 39 V hs).mono ?_
    rintro e w' ⟨l, r, b, rfl, hc, hb, hl, hr⟩
    cases b with
    | false =>
      have := (hc.2 rfl).1
      rw [hz] at this
      simp [utfP] at this
    | true =>
      obtain ⟨h1, h2⟩ := hc.1 rfl
      rw [hz] at h1
      have h3 : [117, 116, 102, 45, 56] ++ (39 : Int) :: (39 :: t) = nums l ++ 39 :: nums r := h1
      obtain ⟨q1, q2⟩ := cut_one h3 (by simp) h2
      have q3 : l = Cs.utfS := nums_inj (by rw [← q1]; rfl)
      exact ⟨r, by rw [q3], q2.symm, hb, hr⟩
  have hne : Cs.utfS.toList.isEmpty = false := by rw [ByteArray.toList_eq]; rfl
  revert K hne
  generalize Cs.utfS = us
  intro K hne
  go_enter Tryd.func59, Tryd.ntmps59
  go_wp2_with fail
  refine (K _).mono ?_
  rintro e w1 ⟨r, rfl, hr, hb1, hr1⟩
  clear K
  have K2 : ∀ V, Calls Tryd.prog 75 #[.string r, .string ⟨#[39]⟩] V fun e w' => ∃ l x : ByteArray, e = .returned (.tuple #[.string l, .string x, .bool true]) ∧ nums x = t ∧ Below V.heap.size V w' ∧ x.size ≤ r.size := fun V => by
    refine (cut_any r 39 V (by omega)).mono ?_
    rintro e w' ⟨l, x, b, rfl, hc, hb, hl, hx⟩
    cases b with
    | false =>
      have := (hc.2 rfl).1
      rw [hr] at this
      simp at this
    | true =>
      obtain ⟨h1, h2⟩ := hc.1 rfl
      rw [hr] at h1
      have h3 : [] ++ (39 : Int) :: t = nums l ++ 39 :: nums x := h1
      obtain ⟨q1, q2⟩ := cut_one h3 (by simp) h2
      exact ⟨l, x, rfl, q2.symm, hb, hx⟩
  clear hr
  go_wp2_with fail
  refine (K2 _).mono ?_
  rintro e w2 ⟨l, x, rfl, hx, hb2, hx1⟩
  clear K2
  go_wp2
  exact bodyPost_ret (v := .tuple #[.string us, .string x, .bool true]) (by simp [results, Tryd.results59, go_sem]) rfl ⟨x, rfl, hx, by omega, hb1.trans (hb2.mono hb1.size)⟩
end Go.Proofs.YtfhgkkdbkbbpkaaDoor
