/-
  The contract of One.
-/
import Derived.Test.YtnhbmekhmkkccaaDoorCt
namespace Go.Proofs.YtnhbmekhmkkccaaDoor
open Go.RowKit
set_option linter.unusedVariables false

/-- What stands between =? and ?=. -/
def innerR (l : List Int) : Option (List Int) := if l.take 2 = [61, 63] ∧ 4 ≤ l.length ∧ l.drop (l.length - 2) = [63, 61] then some ((l.drop 2).take (l.length - 4)) else none
theorem inner_some (i : List Int) : innerR ([61, 63] ++ i ++ [63, 61]) = some i := by
  unfold innerR
  have h1 : ([61, 63] ++ i ++ [63, 61] : List Int).length = i.length + 4 := by simp
  have h2 : ([61, 63] ++ i ++ [63, 61] : List Int).drop (i.length + 4 - 2) = [63, 61] := by
    rw [show i.length + 4 - 2 = ([61, 63] ++ i : List Int).length by simp, List.drop_left]
  rw [h1, if_pos ⟨by simp, by omega, h2⟩]
  simp
theorem inner_none {l : List Int} (h : ∀ i, l ≠ [61, 63] ++ i ++ [63, 61]) : innerR l = none := by
  unfold innerR
  rw [if_neg]
  rintro ⟨h1, h2, h3⟩
  apply h ((l.drop 2).take (l.length - 4))
  have e1 : l = l.take 2 ++ l.drop 2 := (List.take_append_drop 2 l).symm
  have e2 : l.drop 2 = (l.drop 2).take (l.length - 4) ++ (l.drop 2).drop (l.length - 4) := (List.take_append_drop _ _).symm
  have e3 : (l.drop 2).drop (l.length - 4) = [63, 61] := by rw [List.drop_drop, show 2 + (l.length - 4) = l.length - 2 by omega]; exact h3
  rw [e3] at e2
  conv => lhs; rw [e1, h1, e2]
  simp
def saidR (set way txt : List Int) : Option (List Int) := match contR way txt with | some said => if setR set said = true then some said else none | none => none
def partsR : List (List Int) → Option (List Int)
  | [set, way, txt] => saidR set way txt
  | _ => none
/-- What a word says. -/
def oneR (l : List Int) : Option (List Int) := if 75 < l.length then none else match innerR l with | some i => partsR (pieces 63 i) | none => none
def OAns (b : Bool) (x : ByteArray) (r : Option (List Int)) : Prop := (b = true → r = some (nums x)) ∧ (b = false → r = none ∧ x = ⟨#[]⟩)
set_option maxHeartbeats 8000000 in
set_option maxRecDepth 100000 in
theorem one_any (s : ByteArray) (m : Int) (w : World) (hs : s.size ≤ 1000000000) (hm : w.cell? ⟨0, 0, none⟩ = some (.int .i64 m)) :
    Calls Tryd.prog 14 #[.string s] w fun e w' => ∃ x b, e = .returned (.tuple #[.string x, .bool b]) ∧ OAns b x (oneR (nums s)) ∧ Below w.heap.size w w' := by
  have hp := cutPrefix_any s ⟨#[61, 63]⟩ w
  have e1 : nums (⟨#[61, 63]⟩ : ByteArray) = [61, 63] := rfl
  have e2 : nums (⟨#[63, 61]⟩ : ByteArray) = [63, 61] := rfl
  rw [e1] at hp
  go_enter Tryd.func14, Tryd.ntmps14
  go_wp2_with fail
  refine hp.mono ?_
  clear hp
  rintro e w' ⟨x, b1, rfl, hpa, rfl, hxs⟩
  have hq := cutSuffix_any x ⟨#[63, 61]⟩ w (by omega)
  rw [e2] at hq
  clear e1 e2
  go_wp2_with fail
  refine hq.mono ?_
  clear hq
  rintro e w' ⟨y, b2, rfl, hsa, rfl, hys⟩
  have HI : Hid ((b1 = true ∧ b2 = true ∧ innerR (nums s) = some (nums y)) ∨ ((b1 = false ∨ (b1 = true ∧ b2 = false)) ∧ innerR (nums s) = none)) := by
    cases b1 with
    | false =>
      refine .inr ⟨.inl rfl, inner_none fun i hi => (hpa.2 rfl).2 (i ++ [63, 61]) (by rw [hi]; simp)⟩
    | true =>
      cases b2 with
      | false =>
        refine .inr ⟨.inr ⟨rfl, rfl⟩, inner_none fun i hi => (hsa.2 rfl).2 i ?_⟩
        have := hpa.1 rfl
        rw [hi] at this
        simpa using this.symm
      | true =>
        refine .inl ⟨rfl, rfl, ?_⟩
        rw [hpa.1 rfl, hsa.1 rfl, ← List.append_assoc]
        exact inner_some _
  clear hpa hsa
  by_cases h75 : 75 < s.size
  · have HO : Hid (oneR (nums s) = none) := by unfold Hid oneR; rw [if_pos (by rw [nums_len]; exact h75)]
    have hd : decide ((s.size : Int) > 75) = true := decide_eq_true (by omega)
    clear HI
    cases b1 <;> cases b2
    all_goals (
      go_wp2
      go_ret2
      exact ⟨_, false, rfl, ⟨fun e => (by cases e), fun _ => ⟨HO.out, rfl⟩⟩, Below.refl _ _⟩)
  have hd : decide ((s.size : Int) > 75) = false := decide_eq_false (by omega)
  rcases HI.out with ⟨rfl, rfl, hin⟩ | ⟨hb, hin⟩
  case inr =>
    have HO : Hid (oneR (nums s) = none) := by unfold Hid oneR; rw [if_neg (by rw [nums_len]; exact h75), hin]
    clear HI hin
    rcases hb with rfl | ⟨rfl, rfl⟩
    · cases b2
      all_goals (
        go_wp2
        go_ret2
        exact ⟨_, false, rfl, ⟨fun e => (by cases e), fun _ => ⟨HO.out, rfl⟩⟩, Below.refl _ _⟩)
    · go_wp2
      go_ret2
      exact ⟨_, false, rfl, ⟨fun e => (by cases e), fun _ => ⟨HO.out, rfl⟩⟩, Below.refl _ _⟩
  case inl =>
  have hsp := split_any y 63 m w (by omega) hm
  have e63 : ((63 : UInt8).toNat : Int) = 63 := rfl
  rw [e63] at hsp
  have HO : Hid (oneR (nums s) = partsR (pieces 63 (nums y))) := by unfold Hid oneR; rw [if_neg (by rw [nums_len]; exact h75), hin]
  clear HI hin e63 hm
  go_wp2_with fail
  refine hsp.mono ?_
  clear hsp
  rintro e w1 ⟨xs, hxp, rfl, hw1⟩
  rw [← hxp] at HO
  have HP : Hid (xs.map nums = pieces 63 (nums y)) := hxp
  clear hxp
  by_cases h3 : xs.length = 3
  case neg =>
    have HO2 : Hid (oneR (nums s) = none) := by
      unfold Hid; rw [HO.out]
      match xs, h3 with
      | [], _ => rfl
      | [_], _ => rfl
      | [_, _], _ => rfl
      | [_, _, _], h => exact absurd rfl h
      | _ :: _ :: _ :: _ :: _, _ => rfl
    have HB : Hid (Below w.heap.size w w1) := by unfold Hid; rw [hw1]; exact keep w _
    have hb3 : ((xs.length : Int) != 3) = true := by simp; omega
    clear hw1
    go_wp2
    go_ret2
    exact ⟨_, false, rfl, ⟨fun e => (by cases e), fun _ => ⟨HO2.out, rfl⟩⟩, HB.out⟩
  case pos =>
  obtain ⟨set, way, txt, rfl⟩ : ∃ set way txt, xs = [set, way, txt] := by
    match xs, h3 with
    | [a, b, c], _ => exact ⟨a, b, c, rfl⟩
  have HO1 : Hid (oneR (nums s) = saidR (nums set) (nums way) (nums txt)) := HO.out
  have hmem : ∀ z ∈ [set, way, txt], z.size ≤ 75 := by
    intro z hz
    have hq : nums z ∈ pieces 63 (nums y) := by rw [← HP.out]; exact List.mem_map_of_mem hz
    have hlen : ∀ (l : List Int) (q : List Int), q ∈ pieces 63 l → q.length ≤ l.length := by
      intro l
      induction l with
      | nil => intro q hq; simp [pieces] at hq; rw [hq]; simp
      | cons d r ih =>
        intro q hq
        unfold pieces at hq
        split at hq
        · rcases List.mem_cons.1 hq with rfl | hq
          · simp
          · have := ih q hq; simp; omega
        · have hne := pieces_ne 63 r
          obtain ⟨p, ps, hps⟩ : ∃ p ps, pieces 63 r = p :: ps := by cases h : pieces 63 r with | nil => exact absurd h hne | cons p ps => exact ⟨p, ps, rfl⟩
          rw [hps] at hq ih
          rcases List.mem_cons.1 hq with rfl | hq
          · have := ih p (by simp); simp; omega
          · have := ih q (by simp at hq ⊢; exact .inr hq); simp; omega
    have := hlen _ _ hq
    rw [nums_len, nums_len] at this
    omega
  have z1 := hmem set (by simp)
  have z2 := hmem txt (by simp)
  have HB1 : Hid (Below w.heap.size w w1) := by unfold Hid; rw [hw1]; exact keep w _
  have c0 : w1.cell? ⟨w.heap.size, 0, none⟩ = some (.string set) := by rw [hw1, World.cell?_alloc_mark]; rfl
  have c1 : w1.cell? ⟨w.heap.size, 1, none⟩ = some (.string way) := by rw [hw1, World.cell?_alloc_mark]; rfl
  have c2 : w1.cell? ⟨w.heap.size, 2, none⟩ = some (.string txt) := by rw [hw1, World.cell?_alloc_mark]; rfl
  have hlt := World.block_lt_of_cell? w1 _ c0
  simp only at hlt
  clear hmem HO HP hw1 h3
  have hcon := fun V => content_any way txt V (by omega)
  simp only [List.length_cons, List.length_nil, Nat.zero_add, Nat.reduceAdd]
  go_wp2_with fail
  go_region_held3 (fun W => Below w1.heap.size w1 W ∧ W.cell? ⟨w.heap.size, 1, none⟩ = some (.string way) ∧ W.cell? ⟨w.heap.size, 2, none⟩ = some (.string txt)) (refine ⟨?_, ?_, ?_⟩ <;> first | assumption | exact below_drew (Below.refl _ _) | simp [*]) (first
    | (go_at_call 32; refine (hcon _).mono ?_; rintro e w3 ⟨v3, b3, rfl, hba, hb3⟩; have hB3 : Below w1.heap.size w1 w3 := (show Below w1.heap.size w1 _ by first | assumption | exact below_drew (Below.refl _ _)).trans (hb3.mono (show Below w1.heap.size w1 _ by first | assumption | exact below_drew (Below.refl _ _)).size); have hS1 : w3.cell? ⟨w.heap.size, 1, none⟩ = some (.string way) := (hB3.cell (p := ⟨w.heap.size, 1, none⟩) hlt).trans c1; have hS2 : w3.cell? ⟨w.heap.size, 2, none⟩ = some (.string txt) := (hB3.cell (p := ⟨w.heap.size, 2, none⟩) hlt).trans c2; clear hb3))
  have HB3 : Hid (Below w1.heap.size w1 w3) := hB3
  have HBA : Hid (BAns b3 v3 (contR (nums way) (nums txt)) w3) := hba
  have d0 : w3.cell? ⟨w.heap.size, 0, none⟩ = some (.string set) := (hB3.cell (p := ⟨w.heap.size, 0, none⟩) hlt).trans c0
  clear hB3 hba hS1 hS2 c0 c1 c2 hcon
  cases b3 with
  | false =>
    obtain ⟨hn, a, n, c, rfl⟩ := HBA.out.2 rfl
    have HO2 : Hid (oneR (nums s) = none) := by unfold Hid; rw [HO1.out, saidR, hn]
    clear hn HBA
    go_wp2
    go_ret2
    exact ⟨_, false, rfl, ⟨fun e => (by cases e), fun _ => ⟨HO2.out, rfl⟩⟩, HB1.out.trans (HB3.out.mono HB1.out.size)⟩
  | true =>
    obtain ⟨l, a, cap, hx, rfl, hcap, hmx, hrow, hby⟩ := HBA.out.1 rfl
    obtain ⟨n, hn⟩ : ∃ n, l.length = n := ⟨_, rfl⟩
    have hset := inSet_any set a n cap l w3 hn hby (by omega) hmx hrow (by omega)
    have HO2 : Hid (oneR (nums s) = if setR (nums set) l = true then some l else none) := by unfold Hid; rw [HO1.out, saidR, hx]
    have HR : Hid (Row w3 a l) := hrow
    have HBY : Hid (Byt l) := hby
    have HN : Hid (l.length = n) := hn
    rw [hn] at hcap ⊢
    clear hx HBA hrow hby hn HO1 hmx
    generalize setR (nums set) l = bs at hset HO2
    cases bs with
    | false =>
      go_wp2_with (go_at_call 33; refine hset.mono ?_; rintro e w4 ⟨rfl, hb4⟩)
      go_ret2
      exact ⟨_, false, rfl, ⟨fun e => (by cases e), fun _ => ⟨HO2.out, rfl⟩⟩, HB1.out.trans ((HB3.out.trans (hb4.mono HB3.out.size)).mono HB1.out.size)⟩
    | true =>
      have kc := fun (V : World) (hb : Below w3.heap.size w3 V) => conv_row n cap HN.out (row_below HR.out hb)
      go_wp2_with fail
      refine hset.mono ?_
      clear hset
      rintro e w4 ⟨rfl, hb4⟩
      have kc4 := kc w4 hb4
      have HB4 : Hid (Below w1.heap.size w1 w4) := HB3.out.trans (hb4.mono HB3.out.size)
      clear hb4 kc
      go_wp2
      go_ret2
      exact ⟨_, true, rfl, ⟨fun _ => by rw [HO2.out, nums_str HBY.out]; rfl, fun e => (by cases e)⟩, HB1.out.trans (HB4.out.mono HB1.out.size)⟩
end Go.Proofs.YtnhbmekhmkkccaaDoor
