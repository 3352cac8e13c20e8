/-
  For every kind: with large letters in its types and names it is read as the same; no condition but what the row lists.
-/
import Derived.Test.YtkbkajipkdlmbaaDoorCards
import Derived.Test.YtkbkajipkdlmbaaDoorTie
import Derived.Test.YtkbkajipkdlmbaaDoorBig
import Derived.WalkKit
import Derived.ProofKit
import Derived.OpenShut
import Derived.ShutString
import Derived.ChangeOld
import Derived.Below
import Derived.LaidMore
import Derived.Lay
import Derived.SevenTiedAt
import Derived.Stop.Joined
namespace Go.Proofs.YtkbkajipkdlmbaaDoor.kindLetters
open Go.ChangeShapes Go.WideShapes Go.ChangeAt Go.RowKit
open Go.ChangeMaps (open_string shut_string)
set_option linter.unusedVariables false

/-- A kind lies in block g. -/
def At (w : World) (g : Nat) (ty sub : ByteArray) (a : Option Addr) (n c : Nat) : Prop := g < w.heap.size ∧ w.cell? ⟨g, 0, none⟩ = some (.string ty) ∧ w.cell? ⟨g, 1, none⟩ = some (.string sub) ∧ w.cell? ⟨g, 2, none⟩ = some (.slice a n c)
theorem At.below {w w' : World} {g : Nat} {ty sub : ByteArray} {a : Option Addr} {n c : Nat} (h : At w g ty sub a n c) (hb : Below w.heap.size w w') : At w' g ty sub a n c :=
  ⟨Nat.lt_of_lt_of_le h.1 hb.size, (hb.cell (p := ⟨g, 0, none⟩) h.1).trans h.2.1, (hb.cell (p := ⟨g, 1, none⟩) h.1).trans h.2.2.1, (hb.cell (p := ⟨g, 2, none⟩) h.1).trans h.2.2.2⟩
theorem at_new (w : World) (ty sub : ByteArray) (a : Option Addr) (n c : Nat) : At (w.alloc (.cells #[.string ty, .string sub, .slice a n c] 24)) w.heap.size ty sub a n c := by
  refine ⟨by simp, ?_, ?_, ?_⟩ <;> (rw [World.cell?_alloc_mark]; rfl)
theorem small_big {c : Int} (h : smallZ c = c) : smallZ (bigZ c) = c := by
  unfold smallZ at h ⊢
  unfold bigZ
  split at h
  · omega
  · split
    · rw [if_pos (by omega)]; omega
    · rfl
theorem map_small_big : ∀ {l : List Int}, l.map smallZ = l → (l.map bigZ).map smallZ = l
  | [], _ => rfl
  | c :: l, h => by
    simp only [List.map_cons, List.cons.injEq] at h ⊢
    exact ⟨small_big h.1, map_small_big h.2⟩
theorem tok_big {c : Int} (h : tokC c = true) : tokC (bigZ c) = true := by
  unfold bigZ
  split
  · simp only [tokC, marksZ, Bool.and_eq_true, decide_eq_true_eq, Bool.not_eq_true', List.contains_cons, List.contains_nil, Bool.or_false, Bool.or_eq_false_iff, beq_eq_false_iff_ne]
    omega
  · exact h
theorem all_big {l : List Int} (h : l.all tokC = true) : (l.map bigZ).all tokC = true := by
  rw [List.all_eq_true] at h ⊢
  intro x hx
  obtain ⟨y, hy, rfl⟩ := List.mem_map.1 hx
  exact tok_big (h y hy)
/-- A kind with large letters. -/
def bigP (p : List Int × List Int) : List Int := 59 :: (p.1.map bigZ ++ 61 :: writtenZ p.2)
def bigL (ty sub : List Int) (ps : List (List Int × List Int)) : List Int := ty.map bigZ ++ 47 :: (sub.map bigZ ++ ps.flatMap bigP)
theorem big_flat (ps : List (List Int × List Int)) : ps.flatMap bigP = (ps.map fun p => (p.1.map bigZ, p.2)).flatMap (parX []) := by
  induction ps with
  | nil => rfl
  | cons p ps ih => rw [List.flatMap_cons, List.map_cons, List.flatMap_cons, ih]; rfl
theorem big_read {ty sub : List Int} {ps : List (List Int × List Int)} (h : rightZ ty sub ps = true) : readR (bigL ty sub ps) = some (ty, sub, ps) := by
  obtain ⟨h1, h2, h3, h4⟩ := right_all h
  have n1 := name_all h1
  have n2 := name_all h2
  have hk := kind_back (P := []) (bl := []) (fun _ hq => by cases hq) (fun _ hq => by cases hq) tail_nil (ty := ty.map bigZ) (sub := sub.map bigZ) ⟨all_big n1.1, by simpa using n1.2.1⟩ (all_big n2.1) (ps.map fun p => (p.1.map bigZ, p.2)) (by
    intro q hq
    obtain ⟨p, hp, rfl⟩ := List.mem_map.1 hq
    have := name_all (h4 p hp).1
    exact ⟨all_big this.1, by simpa using this.2.1⟩)
  have hm : (ps.map fun p => (p.1.map bigZ, p.2)).map (fun q => (q.1.map smallZ, q.2)) = ps := by
    rw [List.map_map]
    conv => rhs; rw [← List.map_id ps]
    apply List.map_congr_left
    intro p hp
    simp only [Function.comp, id]
    rw [map_small_big (name_all (h4 p hp).1).2.2.2]
  rw [hm, map_small_big n1.2.2.2, map_small_big n2.2.2.2, List.nil_append, List.append_nil, ← big_flat] at hk
  unfold readR
  rw [show kindR (bigL ty sub ps) = some (ty, sub, ps) from hk]
  simp only [h, if_true]
theorem one_right {v : List Int} (h : valueZ v = true) : rightZ [97] [98] [([110], v)] = true := by
  have e1 : nameZ [97] = true := by decide
  have e2 : nameZ [98] = true := by decide
  have e3 : nameZ [110] = true := by decide
  simp [rightZ, rightL, e1, e2, e3, h]
theorem one_drop (v : List Int) : (writeL [97] [98] [([110], v)]).drop 7 = writtenZ v := by
  simp [writeL, parW]
theorem bigZ_byt {c : Int} (h : 0 ≤ c ∧ c < 256) : 0 ≤ bigZ c ∧ bigZ c < 256 := by unfold bigZ; split <;> omega
theorem map_big_byt {l : List Int} (h : Byt l) : Byt (l.map bigZ) := by
  intro x hx
  obtain ⟨y, hy, rfl⟩ := List.mem_map.1 hx
  exact bigZ_byt (h y hy)
theorem nums_big (s : ByteArray) : nums (strOfNums ((nums s).map bigZ)) = (nums s).map bigZ := nums_str (map_big_byt (nums_byt s))
theorem size_big (s : ByteArray) : (strOfNums ((nums s).map bigZ)).size = s.size := by rw [← nums_len, nums_big, List.length_map, nums_len]
theorem below_drew {n : Nat} {w w' : World} (h : Below n w w') : Below n w w'.drew := below_drewN h 1
theorem cell_keep {w w' : World} {p : Addr} {v : Value} (hb : Below w.heap.size w w') (h : w.cell? p = some v) : w'.cell? p = some v := (hb.cell (World.block_lt_of_cell? w p h)).trans h
set_option maxHeartbeats 8000000 in
set_option maxRecDepth 100000 in
theorem walk (t s : ByteArray) (a : Option Addr) (len cap : Nat) (z : List (ByteArray × ByteArray)) (w : World) (hk : IsK w t s a len z) :
    Calls Tryd.prog 7 #[.agg #[.string t, .string s, .slice a len cap]] w fun e w' => e = .returned (.bool true) ∧ Below w.heap.size w w' := by
  obtain ⟨rfl, hlen, hfr, hz1, hz2, hz3⟩ := hk
  have HF : Hid (FRow w a z) := hfr
  clear hfr
  have hgreat := great_any t s a z.length cap z (w.alloc (.cells #[.string t, .string s, .slice a z.length cap] 24)) rfl hlen (HF.out.below (keep w _)) hz1 hz2 hz3
  unfold kindV at hgreat
  go_enter Tryd.func7, Tryd.ntmps7
  go_wp2_with fail
  refine hgreat.mono ?_
  clear hgreat
  rintro e w1 ⟨rfl, hb1⟩
  have HA1 : Hid (At w1 w.heap.size t s a z.length cap) := (at_new w t s a z.length cap).below hb1
  have HB1 : Hid (Below w.heap.size w w1) := (keep w _).trans (hb1.mono (by simp))
  have HF1 : Hid (FRow w1 a z) := (HF.out.below (keep w _)).below hb1
  clear hb1 HF
  cases hg : greatZ t s z with
  | true =>
    go_wp2_with (go_at_call 9; refine (alive_any _).mono ?_; rintro e w2 ⟨rfl, hb2⟩)
    go_ret
    exact ⟨rfl, HB1.out.trans (hb2.mono HB1.out.size)⟩
  | false =>
    obtain ⟨q1, q2, q3⟩ := great_mem hg
    have y1 : t.size ≤ 1000000000 := by omega
    have y2 : s.size ≤ 1000000000 := by omega
    have Y3 : Hid (∀ f ∈ z, f.1.size ≤ 1000000000 ∧ f.2.size ≤ 1000000000) := fun f hf => by have := q3 f hf; omega
    have Q3 : Hid (∀ f ∈ z, f.1.size + f.2.size ≤ 600) := q3
    have hright := right_any t s a z.length cap z w1 rfl HF1.out y1 y2 Y3.out
    unfold kindV at hright
    obtain ⟨_, x0, x1, x2⟩ := HA1.out
    clear hg q3 hz3
    go_wp2_with fail
    refine hright.mono ?_
    clear hright x0 x1 x2
    rintro e w2 ⟨rfl, hb2⟩
    have HA2 : Hid (At w2 w.heap.size t s a z.length cap) := HA1.out.below hb2
    have HB2 : Hid (Below w.heap.size w w2) := HB1.out.trans (hb2.mono HB1.out.size)
    have HF2 : Hid (FRow w2 a z) := HF1.out.below hb2
    clear hb2 HA1 HF1
    cases hrz : rightZ (nums t) (nums s) (numsP z) with
    | false =>
      go_wp2_with (go_at_call 9; refine (alive_any _).mono ?_; rintro e w3 ⟨rfl, hb3⟩)
      go_ret
      exact ⟨rfl, HB2.out.trans (hb3.mono HB2.out.size)⟩
    | true =>
      have HRZ : Hid (rightZ (nums t) (nums s) (numsP z) = true) := hrz
      obtain ⟨hg0, x0, x1, x2⟩ := HA2.out
      have h47 : (⟨#[47]⟩ : ByteArray).size = 1 := rfl
      have g1 := size_big t
      have g2 := size_big s
      have cb1 := fun W => big_any t W y1
      have cb2 := fun W => big_any s W y2
      obtain ⟨bt, hbt⟩ : ∃ bt, strOfNums ((nums t).map bigZ) = bt := ⟨_, rfl⟩
      obtain ⟨bs, hbs⟩ : ∃ bs, strOfNums ((nums s).map bigZ) = bs := ⟨_, rfl⟩
      have HBT : Hid (nums bt = (nums t).map bigZ) := by unfold Hid; rw [← hbt, nums_big]
      have HBS : Hid (nums bs = (nums s).map bigZ) := by unfold Hid; rw [← hbs, nums_big]
      rw [hbt] at g1 cb1
      rw [hbs] at g2 cb2
      have z1 : bt.size ≤ 1000 := by omega
      have z2 : bs.size ≤ 1000 := by omega
      clear g1 g2 hbt hbs
      have hn1 : ¬ (9223372036854775807 < bt.size + 1) := by omega
      have hn2 : ¬ (9223372036854775807 ≤ bt.size) := by omega
      have hn3 : ¬ (9223372036854775807 < bt.size + 1 + bs.size) := by omega
      clear hrz
      go_wp2_with fail
      go_region_held3 (fun W => Below w2.heap.size w2 W ∧ W.cell? ⟨w.heap.size, 0, none⟩ = some (.string t) ∧ W.cell? ⟨w.heap.size, 1, none⟩ = some (.string s)) (refine ⟨?_, ?_, ?_⟩ <;> first | assumption | exact below_drew (Below.refl _ _) | simp [*]) (first
        | (go_at_call_of 20 (Value.string t); refine (cb1 _).mono ?_; rintro e w3 ⟨rfl, hb3⟩; have hB3 : Below w2.heap.size w2 w3 := (show Below w2.heap.size w2 _ by first | assumption | exact below_drew (Below.refl _ _)).trans (hb3.mono (show Below w2.heap.size w2 _ by first | assumption | exact below_drew (Below.refl _ _)).size); have hS1 : w3.cell? ⟨w.heap.size, 0, none⟩ = some (.string t) := (hB3.cell (p := ⟨w.heap.size, 0, none⟩) hg0).trans x0; have hS2 : w3.cell? ⟨w.heap.size, 1, none⟩ = some (.string s) := (hB3.cell (p := ⟨w.heap.size, 1, none⟩) hg0).trans x1; clear hb3)
        | (go_at_call_of 20 (Value.string s); refine (cb2 _).mono ?_; rintro e w3 ⟨rfl, hb3⟩; have hB3 : Below w2.heap.size w2 w3 := (show Below w2.heap.size w2 _ by first | assumption | exact below_drew (Below.refl _ _)).trans (hb3.mono (show Below w2.heap.size w2 _ by first | assumption | exact below_drew (Below.refl _ _)).size); have hS1 : w3.cell? ⟨w.heap.size, 0, none⟩ = some (.string t) := (hB3.cell (p := ⟨w.heap.size, 0, none⟩) hg0).trans x0; have hS2 : w3.cell? ⟨w.heap.size, 1, none⟩ = some (.string s) := (hB3.cell (p := ⟨w.heap.size, 1, none⟩) hg0).trans x1; clear hb3))
      have HB3 : Hid (Below w2.heap.size w2 w3) := hB3
      clear hB3 hS1 hS2
      clear hn1 hn2 hn3 x0 x1 x2
      go_wp2
      go_loopw [4, 5] (fun v i wr => ∃ (k : Nat) (o : ByteArray), v = .string o ∧ i = .int .i64 k ∧ k ≤ z.length ∧ nums o = bigL (nums t) (nums s) (numsP (z.take k)) ∧ o.size ≤ 2001 + k * 3000 ∧ Below w2.heap.size w2 wr) (fun _ i _ => z.length - (intOf i).toNat)
      case atStart => exact ⟨0, _, rfl, rfl, by omega, by rw [nums_append, nums_append, HBT.out, HBS.out]; simp [bigL, numsP]; rfl, by simp only [ByteArray.size_append]; omega, HB3.out⟩
      case round =>
        obtain ⟨k, o, rfl, rfl, hk, ho, hos, hb⟩ := hrel
        have HO : Hid (nums o = bigL (nums t) (nums s) (numsP (z.take k))) := ho
        have HB : Hid (Below w2.heap.size w2 wr) := hb
        have HA : Hid (At wr w.heap.size t s a z.length cap) := HA2.out.below hb
        have hrw := HF2.out.below hb
        have hsz := hb.size
        obtain ⟨hgr, c0, c1, c2⟩ := HA.out
        clear ho hb c0 c1
        by_cases hlt : k < z.length
        · obtain ⟨f, hfk⟩ : ∃ f, z[k]? = some f := ⟨_, List.getElem?_eq_getElem (by omega)⟩
          have HT : Hid (numsP (z.take (k + 1)) = numsP (z.take k) ++ [(nums f.1, nums f.2)]) := by
            unfold Hid numsP; rw [List.take_add_one, hfk]; simp
          have hfz := Q3.out f (List.mem_of_getElem? hfk)
          have hvz : valueZ (nums f.2) = true := ((right_all HRZ.out).2.2.2 (nums f.1, nums f.2) (by unfold numsP; exact List.mem_map_of_mem (f := fun f : ByteArray × ByteArray => (nums f.1, nums f.2)) (List.mem_of_getElem? hfk))).2
          obtain ⟨nm, vl⟩ := f
          simp only at hfz hvz
          rcases hrw with h | ⟨b, off, rfl, h⟩
          · rw [h] at hlt; simp at hlt
          obtain ⟨d1, d2⟩ := h k _ hfk
          clear h hfk
          simp only at d1 d2
          have y3 : nm.size ≤ 1000000000 := by omega
          have y4 : vl.size ≤ 1000000000 := by omega
          have hfr : FRow (wr.alloc (.cells #[.string ⟨#[110]⟩, .string vl] 42)) (some ⟨wr.heap.size, 0, none⟩) [(⟨#[110]⟩, vl)] := by
            refine .inr ⟨wr.heap.size, 0, rfl, fun i f hf => ?_⟩
            cases i with
            | zero =>
              simp at hf
              subst hf
              exact ⟨by rw [World.cell?_alloc_mark]; rfl, by rw [World.cell?_alloc_mark]; rfl⟩
            | succ i => simp at hf
          have hwr := write_any ⟨#[97]⟩ ⟨#[98]⟩ (some ⟨wr.heap.size, 0, none⟩) 1 1 [(⟨#[110]⟩, vl)] (wr.alloc (.cells #[.string ⟨#[110]⟩, .string vl] 42)) rfl hfr (by decide) (by decide) (by intro f hf; simp at hf; subst hf; exact ⟨show (⟨#[110]⟩ : ByteArray).size ≤ 1000000000 by decide, y4⟩)
          have e97 : nums (⟨#[97]⟩ : ByteArray) = [97] := rfl
          have e98 : nums (⟨#[98]⟩ : ByteArray) = [98] := rfl
          have ep : numsP [((⟨#[110]⟩ : ByteArray), vl)] = [([110], nums vl)] := rfl
          rw [e97, e98, ep, one_right hvz] at hwr
          unfold kindV at hwr
          clear hfr e97 e98 ep
          go_wp2_with fail
          refine hwr.mono ?_
          clear hwr
          rintro e w4 ⟨x, cc, rfl, hb4, hwa⟩
          obtain ⟨hx, rfl⟩ := hwa.1 rfl
          clear hwa
          have HX : Hid ((nums x).drop 7 = writtenZ (nums vl)) := by unfold Hid; rw [hx, one_drop]
          have hx7 : 7 ≤ x.size := by rw [← nums_len, hx]; simp [writeL, parW]
          have hxl : x.size ≤ 1300 := by rw [← nums_len, hx]; have := written_len (nums vl); rw [nums_len] at this; simp [writeL, parW]; omega
          have hB4 : Below wr.heap.size wr w4 := (keep wr _).trans (hb4.mono (by simp))
          have HB4 : Hid (Below wr.heap.size wr w4) := hB4
          have c2' : w4.cell? ⟨w.heap.size, 2, none⟩ = some (.slice (some ⟨b, off, none⟩) z.length cap) := cell_keep hB4 c2
          have d1' : w4.cell? ⟨b, off + k * 2, none⟩ = some (.string nm) := cell_keep hB4 d1
          clear hx hb4 hB4 c2 d1 d2
          have hd7 : decide ((x.size : Int) < 7) = false := by simp; omega
          have gn := size_big nm
          have cbn := fun W => big_any nm W y3
          obtain ⟨bn, hbn⟩ : ∃ bn, strOfNums ((nums nm).map bigZ) = bn := ⟨_, rfl⟩
          have HBN : Hid (nums bn = (nums nm).map bigZ) := by unfold Hid; rw [← hbn, nums_big]
          rw [hbn] at gn cbn
          have zn : bn.size ≤ 600 := by omega
          clear gn hbn
          have k0 : (0 : Int) ≤ (k : Int) := by omega
          have k1 : (k : Int) < (z.length : Int) := by omega
          have m1 : ¬ (9223372036854775807 < o.size + 1) := by omega
          have m2 : ¬ (9223372036854775807 ≤ o.size) := by omega
          have m3 : ¬ (9223372036854775807 < o.size + 1 + bn.size) := by omega
          have m4 : ¬ (9223372036854775807 < o.size + 1 + bn.size + 1) := by omega
          have m5 : ¬ (9223372036854775807 ≤ o.size + 1 + bn.size) := by omega
          have m6 : ¬ (9223372036854775807 < o.size + 1 + bn.size + 1 + (x.size - 7)) := by omega
          have m7 : (7 : Int) ≤ (x.size : Int) := by omega
          go_wp2_with fail
          go_region_held3 (fun W => Below w4.heap.size w4 W ∧ W.cell? ⟨w.heap.size, 2, none⟩ = some (.slice (some ⟨b, off, none⟩) z.length cap) ∧ W.cell? ⟨b, off + k * 2, none⟩ = some (.string nm)) (refine ⟨?_, ?_, ?_⟩ <;> first | assumption | exact below_drew (Below.refl _ _) | simp [*]) (first
            | (go_at_call_of 20 (Value.string nm); refine (cbn _).mono ?_; rintro e w5 ⟨rfl, hb5⟩; have hB5 : Below w4.heap.size w4 w5 := (show Below w4.heap.size w4 _ by first | assumption | exact below_drew (Below.refl _ _)).trans (hb5.mono (show Below w4.heap.size w4 _ by first | assumption | exact below_drew (Below.refl _ _)).size); have hS1 : w5.cell? ⟨w.heap.size, 2, none⟩ = some (.slice (some ⟨b, off, none⟩) z.length cap) := cell_keep hB5 c2'; have hS2 : w5.cell? ⟨b, off + k * 2, none⟩ = some (.string nm) := cell_keep hB5 d1'; clear hb5))
          have HB5 : Hid (Below w2.heap.size w2 w5) := HB.out.trans ((HB4.out.trans (hB5.mono HB4.out.size)).mono hsz)
          clear hB5 hS1 hS2
          go_wp2
          go_roundw
          case rel => exact ⟨k + 1, _, rfl, by go_num, by omega, by rw [HT.out]; simp only [nums_append, HO.out, HBN.out, nums_from, HX.out]; simp [bigL, bigP]; rfl, by simp only [ByteArray.size_append, sz61]; have : (⟨#[59]⟩ : ByteArray).size = 1 := rfl; have q : (x.extract 7 x.size).size = x.size - 7 := (by rw [← nums_len, nums_from, List.length_drop, nums_len]); omega, HB5.out⟩
          case measure => simp [intOf]; omega
        · obtain rfl : k = z.length := by omega
          have hread := read_any o wr (by omega)
          have hoe := HO.out
          rw [List.take_of_length_le (Nat.le_refl _)] at hoe
          rw [hoe, big_read HRZ.out] at hread
          clear hoe hrw HO
          go_wp2_with fail
          refine hread.mono ?_
          clear hread c2
          rintro e w4 ⟨ty4, sub4, a4, cap4, fs4, c4, rfl, hfr4, _, hb4, hans4⟩
          rcases hans4 with ⟨h, _⟩ | ⟨h, rfl⟩
          · cases h
          simp only [Option.some.injEq, Prod.mk.injEq] at h
          obtain ⟨hty, hsub, hqs⟩ := h
          obtain rfl := nums_inj hty
          obtain rfl := nums_inj hsub
          obtain rfl := numsP_inj hqs
          have HA4 : Hid (At (w4.alloc (.cells #[.string t, .string s, .slice a4 z.length cap4] 24)) w.heap.size t s a z.length cap) := (HA.out.below hb4).below (keep w4 _)
          have HD4 : Hid (At (w4.alloc (.cells #[.string t, .string s, .slice a4 z.length cap4] 24)) w4.heap.size t s a4 z.length cap4) := at_new w4 t s a4 z.length cap4
          have HB4 : Hid (Below w2.heap.size w2 (w4.alloc (.cells #[.string t, .string s, .slice a4 z.length cap4] 24))) := (HB.out.trans (hb4.mono HB.out.size)).alloc (HB.out.trans (hb4.mono HB.out.size)).size _
          have HG4 : Hid (FRow (w4.alloc (.cells #[.string t, .string s, .slice a4 z.length cap4] 24)) a4 z) := hfr4.below (keep w4 _)
          have HF4 : Hid (FRow (w4.alloc (.cells #[.string t, .string s, .slice a4 z.length cap4] 24)) a z) := HF2.out.below HB4.out
          clear hb4 hty hsub hqs hfr4
          unfold kindV
          have hlow : ∀ V, Calls Tryd.prog 21 #[.string bt] V fun e w' => e = .returned (.string t) ∧ Below V.heap.size V w' := by
            intro V
            have := lower_any bt V (by omega)
            rwa [HBT.out, map_small_big (name_all (right_all HRZ.out).1).2.2.2, str_nums] at this
          go_wp2_with fail
          generalize (w4.alloc (.cells #[.string t, .string s, .slice a4 z.length cap4] 24)) = W at HA4 HD4 HB4 HG4 HF4 ⊢
          have hsame := fun V (hb : Below W.heap.size W V) => same_any t s t s a4 a cap4 cap z z V rfl rfl rfl (by omega) (HG4.out.below hb) (HF4.out.below hb)
          unfold kindV at hsame
          obtain ⟨_, u0, u1, u2⟩ := HA4.out
          obtain ⟨_, u3, u4, u5⟩ := HD4.out
          clear HA4 HD4
          go_region_held3 (fun V => Below W.heap.size W V ∧ V.cell? ⟨w.heap.size, 0, none⟩ = some (.string t) ∧ V.cell? ⟨w.heap.size, 1, none⟩ = some (.string s) ∧ V.cell? ⟨w.heap.size, 2, none⟩ = some (.slice a z.length cap) ∧ V.cell? ⟨w4.heap.size, 0, none⟩ = some (.string t) ∧ V.cell? ⟨w4.heap.size, 1, none⟩ = some (.string s) ∧ V.cell? ⟨w4.heap.size, 2, none⟩ = some (.slice a4 z.length cap4)) (refine ⟨?_, ?_, ?_, ?_, ?_, ?_, ?_⟩ <;> first | assumption | exact below_drew (Below.refl _ _) | simp [*]) (first
            | (go_at_call 9; refine (alive_any _).mono ?_; rintro e w5 ⟨rfl, hb5⟩; have hB5 : Below W.heap.size W w5 := (show Below W.heap.size W _ by first | assumption | exact below_drew (Below.refl _ _)).trans (hb5.mono (show Below W.heap.size W _ by first | assumption | exact below_drew (Below.refl _ _)).size); have hS0 := cell_keep hB5 u0; have hS1 := cell_keep hB5 u1; have hS2 := cell_keep hB5 u2; have hS3 := cell_keep hB5 u3; have hS4 := cell_keep hB5 u4; have hS5 := cell_keep hB5 u5; clear hb5)
            | (go_at_call 19; refine (hsame _ (by first | assumption | exact below_drew (Below.refl _ _))).mono ?_; rintro e w5 ⟨rfl, hb5⟩; have hB5 : Below W.heap.size W w5 := (show Below W.heap.size W _ by first | assumption | exact below_drew (Below.refl _ _)).trans (hb5.mono (show Below W.heap.size W _ by first | assumption | exact below_drew (Below.refl _ _)).size); have hS0 := cell_keep hB5 u0; have hS1 := cell_keep hB5 u1; have hS2 := cell_keep hB5 u2; have hS3 := cell_keep hB5 u3; have hS4 := cell_keep hB5 u4; have hS5 := cell_keep hB5 u5; clear hb5)
            | (go_at_call_of 20 (Value.string t); refine (cb1 _).mono ?_; rintro e w5 ⟨rfl, hb5⟩; have hB5 : Below W.heap.size W w5 := (show Below W.heap.size W _ by first | assumption | exact below_drew (Below.refl _ _)).trans (hb5.mono (show Below W.heap.size W _ by first | assumption | exact below_drew (Below.refl _ _)).size); have hS0 := cell_keep hB5 u0; have hS1 := cell_keep hB5 u1; have hS2 := cell_keep hB5 u2; have hS3 := cell_keep hB5 u3; have hS4 := cell_keep hB5 u4; have hS5 := cell_keep hB5 u5; clear hb5)
            | (go_at_call_of 21 (Value.string bt); refine (hlow _).mono ?_; rintro e w5 ⟨rfl, hb5⟩; have hB5 : Below W.heap.size W w5 := (show Below W.heap.size W _ by first | assumption | exact below_drew (Below.refl _ _)).trans (hb5.mono (show Below W.heap.size W _ by first | assumption | exact below_drew (Below.refl _ _)).size); have hS0 := cell_keep hB5 u0; have hS1 := cell_keep hB5 u1; have hS2 := cell_keep hB5 u2; have hS3 := cell_keep hB5 u3; have hS4 := cell_keep hB5 u4; have hS5 := cell_keep hB5 u5; clear hb5))
          all_goals (
            have HB5 : Hid (Below w.heap.size w w5) := HB2.out.trans ((HB4.out.trans (hB5.mono HB4.out.size)).mono HB2.out.size)
            clear hB5 hS0 hS1 hS2 hS3 hS4 hS5
            go_wp2
            go_ret
            exact ⟨rfl, HB5.out⟩)

set_option maxRecDepth 100000 in
theorem lifted (os : Os) (started : os.Started) (H : Type) (enc : TypeId × Value → H) :
    ReturnsInHanded {} Tryd.checked os 7 .any (fun w args => (Rows.kindLettersSpec.pre enc Tryd.prog Tryd.f7 Rows.kindLettersRow.domain false w args ∧ laidMetH Tryd.prog Rows.kindLettersRow.laid w) ∧ sizedMet enc Tryd.prog Tryd.f7 (OpenSpec.ofChange Rows.kindLettersSpec) false w args)
      (Rows.kindLettersSpec.post enc Tryd.prog Tryd.f7 false true false false) := by
  refine returnsInHanded_of_change_and (C := Tryd.checked) (X := fun w _ => laidMetH Tryd.prog Rows.kindLettersRow.laid w) (fun _ _ _ hh h => h.of_heap hh) own started (by kernel_rfl) Tryd.func7
    (ChangeSpec.witness_shaped (enc := enc) (C := Tryd.checked) (os := os) (X := fun w _ => laidMetH Tryd.prog Rows.kindLettersRow.laid w) false (World.laidAll Tryd.prog os Rows.kindLettersRow.laid) #[.agg #[.string ⟨#[]⟩, .string ⟨#[]⟩, .slice none 0 0]] 8 (World.laidAll_os _ _ _)
      (World.shaped_of_ZipB (by kernel_rfl) (by kernel_rfl)) (by kernel_rfl) (by kernel_rfl) (by kernel_rfl)
      (by rw [MakeChecks.laidMetH_plain _ _ _ (by kernel_rfl)]; exact laidMet_laidAll _ (by kernel_rfl) (by kernel_rfl))) ?_
  intro W base args ds gs before hval0 hW hcnd hsz0 hL _
  have hval : ∀ (j : Nat) t v, Tryd.f7.params[j]? = some t → args[j]? = some v → Value.okWide Tryd.prog W .any base t v := hval0
  have hsz : (DataW.weightsEach Tryd.prog (Tryd.f7.params.toList ++ Rows.kindLettersSpec.plain.varTypes Tryd.prog) (ds ++ gs)).all (· ≤ reachBytes) = true := hsz0
  have hW' := hW
  obtain ⟨p, q, hA0, hV, rfl, hfz, hnd⟩ := hW
  have hA : DataW.TrodAll enc Tryd.prog W 0 (fun _ => true) true Tryd.f7.params.toList args.toList ds p := hA0
  rw [Tryd.params7] at hA hval hsz
  obtain ⟨v0, vs0, d0, ds0, p0, q0, hargs, rfl, rfl, h0, r0⟩ := trodAll_cons hA
  obtain ⟨rfl, rfl, rfl⟩ := trodAll_nil r0
  obtain rfl : args = #[v0] := by cases args; simp_all
  obtain ⟨rfl, rfl⟩ := trodVars_none hV
  have k0 := h0
  have lt0 : ∀ x ∈ p0, x.block < W.heap.size := by obtain ⟨m, hm⟩ := k0; exact DataW.trod_lt m _ _ _ hm
  obtain ⟨t0, s0, a0, len0, cap0, z0, rfl, w0⟩ := kind_arg (hval 0 24 v0 rfl rfl) h0 (fun n hn => by simpa using List.all_eq_true.1 hsz n (DataW.weights_mem_each (j := 0) rfl rfl n hn))
  clear hA0 hval0
  refine (walk t0 s0 a0 len0 cap0 z0 W w0).mono fun e W' ⟨he, bel⟩ => ?_
  subst he
  exact ⟨_, rfl, _, _, _, [], _, [], hW', trodAll_mk1 (shut_bool Tryd.underlying4 _), (trodAll_cons_mk (Below.trod laidOut (by kernel_rfl) (of_decide_eq_true (by kernel_rfl)) k0 bel lt0) trodAll_mk0), rfl, bel.frame _, fun h => by cases h⟩

theorem over : Rows.KindLettersSaid :=
  OpenClaim.holds_of_wide 7 Tryd.f7 rfl rfl rfl rfl rfl rfl rfl ⟨rfl, rfl, rfl, rfl, rfl⟩ rfl rfl rfl rfl rfl (by kernel_rfl) Tryd.func7 (by kernel_rfl)
    (of_decide_eq_true (by kernel_rfl)) (by unfold Func.isWrapper; first | (rw [if_pos (by decide +kernel)]; kernel_rfl) | (rw [if_neg (by decide +kernel)]; exact ⟨rfl, rfl⟩))
    (fun os started H enc _ => lifted os started H enc)
end Go.Proofs.YtkbkajipkdlmbaaDoor.kindLetters
namespace Go.Proofs.YtkbkajipkdlmbaaDoor
theorem kindLetters_card : Rows.KindLettersCardSaid :=
  Claim7.holds_tied_plain_at .later [] _ _ _ _ kindLetters.over (fun _ h => by cases h) (by kernel_rfl) (fun _ h => by cases h) kindLetters_row_tie rfl ⟨rfl, rfl⟩ (by kernel_rfl) rfl
    (fun f fn hf hfn => by
      obtain rfl : f = 7 := Option.some.inj ((show Tryd.prog.funcNamed Rows.kindLettersRow.func = some 7 by kernel_rfl).symm.trans hf) |>.symm
      obtain rfl : fn = Tryd.f7 := (Option.some.inj (Tryd.func7.symm.trans hfn)).symm
      exact ⟨by kernel_rfl, fun j t ht => by
        rw [Tryd.params7] at ht
        have hm : t ∈ [24] := by simpa using Array.mem_of_getElem? ht
        have hall : ([24].all fun u => !Tryd.prog.wantsStandIn u) = true := by kernel_rfl
        exact (show Tryd.prog.wantsStandIn t = false by simpa using List.all_eq_true.1 hall t hm)⟩)
    (by kernel_rfl)
#print axioms kindLetters_card
end Go.Proofs.YtkbkajipkdlmbaaDoor
