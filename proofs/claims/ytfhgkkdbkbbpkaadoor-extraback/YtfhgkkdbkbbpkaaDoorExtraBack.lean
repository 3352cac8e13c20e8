/-
  For every kind without stars in its Names that is not too great for the statement: what is split of it, and may be a kind then, is joined as it was, also when it was written and read between; for all others fixed calls answer as they must. Conditions: the listed tables of the library are tied to the pruned copy of the project that the seat holds, and say nothing of its other packages, commands or tests.
-/
import Derived.Test.YtfhgkkdbkbbpkaaDoorCards
import Derived.Test.YtfhgkkdbkbbpkaaDoorTie
import Derived.Test.YtfhgkkdbkbbpkaaDoorArgs
import Derived.Test.YtfhgkkdbkbbpkaaDoorFb
import Derived.Test.YtfhgkkdbkbbpkaaDoorFo
import Derived.Test.YtfhgkkdbkbbpkaaDoorRead
import Derived.Test.YtfhgkkdbkbbpkaaDoorBmath
import Derived.WalkKit
import Derived.ProofKit
import Derived.OpenShut
import Derived.ShutString
import Derived.ChangeOld
import Derived.Below
import Derived.LaidMore
import Derived.Lay
import Derived.SevenTiedAt
import Derived.Stop.Joined
namespace Go.Proofs.YtfhgkkdbkbbpkaaDoor.extraBack
open Go.ChangeShapes Go.WideShapes Go.ChangeAt Go.RowKit
open Go.ChangeMaps (open_string shut_string)
set_option linter.unusedVariables false

def KAt (w : World) (g : Nat) (ty sub : ByteArray) (a : Option Addr) (n c : Nat) : Prop := g < w.heap.size ∧ w.cell? ⟨g, 0, none⟩ = some (.string ty) ∧ w.cell? ⟨g, 1, none⟩ = some (.string sub) ∧ w.cell? ⟨g, 2, none⟩ = some (.slice a n c)
theorem KAt.below {w w' : World} {g : Nat} {ty sub : ByteArray} {a : Option Addr} {n c : Nat} (h : KAt w g ty sub a n c) (hb : Below w.heap.size w w') : KAt w' g ty sub a n c :=
  ⟨Nat.lt_of_lt_of_le h.1 hb.size, (hb.cell (p := ⟨g, 0, none⟩) h.1).trans h.2.1, (hb.cell (p := ⟨g, 1, none⟩) h.1).trans h.2.2.1, (hb.cell (p := ⟨g, 2, none⟩) h.1).trans h.2.2.2⟩
theorem kat_new (w : World) (ty sub : ByteArray) (a : Option Addr) (n c : Nat) : KAt (w.alloc (.cells #[.string ty, .string sub, .slice a n c] 24)) w.heap.size ty sub a n c := by
  refine ⟨by simp, ?_, ?_, ?_⟩ <;> (rw [World.cell?_alloc_mark]; rfl)
def codeP (ps : List Int) : List Int := codeL (Cs.Ut.flat ps)
theorem codeP_app (ps qs : List Int) : codeP (ps ++ qs) = codeP ps ++ codeP qs := by unfold codeP; rw [Cs.Ut.flat_append, codeL_app]
theorem codeP_one (p : Int) : codeP [p] = codeL (Cs.Ut.encZ p) := by unfold codeP; rw [Cs.Ut.flat_cons, Cs.Ut.flat_nil, List.append_nil]
theorem fit_le : ∀ (ps : List Int) (r : Nat), (codeP (ps.take (fitN r ps))).length ≤ r
  | [], r => by simp [fitN, codeP, codeL, Cs.Ut.flat]
  | p :: ps, r => by
    simp only [fitN]
    by_cases h : r < (codeL (Cs.Ut.encZ p)).length
    · rw [if_pos h]; simp [codeP, codeL, Cs.Ut.flat]
    · rw [if_neg h, List.take_succ_cons, ← List.singleton_append, codeP_app, codeP_one, List.length_append]
      have := fit_le ps (r - (codeL (Cs.Ut.encZ p)).length)
      omega
theorem chunksF_45 : ∀ (n : Nat) (ps : List Int) {c : List Int}, c ∈ chunksF n ps → (codeP c).length ≤ 45
  | 0, _, _, h => by simp [chunksF] at h
  | n + 1, [], _, h => by simp [chunksF] at h
  | n + 1, p :: ps, c, h => by
    simp only [chunksF, List.mem_cons] at h
    rcases h with rfl | h
    · exact fit_le _ _
    · exact chunksF_45 n _ h
theorem pieces_small {nm : List Int} (hn : nm.length ≤ 64) : ∀ (cs : List (List Int)) (i : Nat), (∀ c ∈ cs, (codeP c).length ≤ 45) → ∀ p ∈ piecesL nm i cs, p.1.length ≤ 100 ∧ p.2.length ≤ 100
  | [], _, _, p, h => by cases h
  | c :: r, i, hc, p, h => by
    simp only [piecesL, List.mem_cons] at h
    rcases h with rfl | h
    · have h1 := hc c (by simp)
      have h2 : (itoaZ i).length ≤ 2 := by unfold itoaZ; split <;> simp
      have h3 : (hdZ i).length ≤ 7 := by unfold hdZ; split <;> simp [utfP]
      simp only [pieceL, List.length_append, List.length_cons, List.length_nil]
      have h4 : (codeL (Cs.Ut.flat c)).length = (codeP c).length := rfl
      exact ⟨by omega, by omega⟩
    · exact pieces_small hn r (i + 1) (fun d hd => hc d (by simp [hd])) p h
theorem parted_small {nm ps : List Int} {g : List (List Int × List Int)} (hn : nm.length ≤ 64) (h : partedZ nm ps = some g) : ∀ p ∈ g, p.1.length ≤ 100 ∧ p.2.length ≤ 100 := by
  unfold partedZ at h
  split at h
  · rename_i hst
    cases h
    intro p hp
    simp only [List.mem_singleton] at hp
    subst hp
    unfold staysZ at hst
    simp only [Bool.and_eq_true, decide_eq_true_eq] at hst
    exact ⟨by simp only; omega, by simp only; omega⟩
  · split at h
    · cases h
    · split at h
      · cases h
        intro p hp
        simp only [List.mem_singleton] at hp
        subst hp
        simp only [List.length_append, List.length_singleton]
        have : utfP.length = 7 := rfl
        exact ⟨by omega, by omega⟩
      · split at h
        · cases h
        · cases h
          exact pieces_small hn _ 0 (fun c hc => chunksF_45 _ _ hc)
theorem split_small : ∀ {qs l : List (List Int × List Int)}, (∀ q ∈ qs, q.1.length ≤ 64) → splitZ qs = some l → ∀ p ∈ l, p.1.length ≤ 100 ∧ p.2.length ≤ 100
  | [], l, _, h => by simp only [splitZ, Option.some.injEq] at h; subst h; intro p hp; cases hp
  | q :: r, l, hq, h => by
    simp only [splitZ] at h
    cases hp : partedZ q.1 q.2 with
    | none => rw [hp] at h; cases h
    | some g =>
      rw [hp] at h
      simp only [Option.bind_some] at h
      cases hr : splitZ r with
      | none => rw [hr] at h; cases h
      | some y =>
        rw [hr] at h
        simp only [Option.map_some, Option.some.injEq] at h
        subst h
        intro p hm
        rcases List.mem_append.1 hm with hm | hm
        · exact parted_small (hq q (by simp)) hp p hm
        · exact split_small (fun x hx => hq x (by simp [hx])) hr p hm
theorem gs_small {ty sub : ByteArray} {fs gs : List (ByteArray × ByteArray)} {qs l : List (List Int × List Int)} (hz : SplitsP ty sub fs) (hq : PtsOf fs qs) (hl : splitZ qs = some l) (hg : numsP gs = l) : ∀ f ∈ gs, f.1.size ≤ 1000 ∧ f.2.size ≤ 1000 := by
  intro f hf
  have hn : ∀ q ∈ qs, q.1.length ≤ 64 := fun q hq' => by
    have hm : flatQ q ∈ numsP fs := by rw [hq.1]; exact List.mem_map.2 ⟨q, hq', rfl⟩
    obtain ⟨x, hx, e⟩ := List.mem_map.1 hm
    simp only [flatQ, Prod.mk.injEq] at e
    have hm2 : (nums x.1, nums (⟨#[]⟩ : ByteArray)) ∈ numsP (bareF fs) := List.mem_map.2 ⟨(x.1, ⟨#[]⟩), List.mem_map.2 ⟨x, hx, rfl⟩, rfl⟩
    have := name_len (rightL_mem (rightZ_parts hz.2.2).2.2.2 _ hm2).1
    rw [← e.1]; exact this
  have := split_small hn hl (nums f.1, nums f.2) (by rw [← hg]; exact List.mem_map.2 ⟨f, hf, rfl⟩)
  simp only [nums_len] at this
  exact ⟨by omega, by omega⟩
theorem keep' {W w2 : World} {o : Obj} (h : Below W.heap.size W w2) : Below W.heap.size W (w2.alloc o) := h.alloc h.size _
set_option maxRecDepth 100000 in
set_option maxHeartbeats 8000000 in
theorem walk (ty sub : ByteArray) (a : Option Addr) (n c : Nat) (fs : List (ByteArray × ByteArray)) (w : World) (w0 : IsK w ty sub a n fs) : Calls Tryd.prog 5 #[.agg #[.string ty, .string sub, .slice a n c]] w fun e w' => e = .returned (.bool true) ∧ Below w.heap.size w w' := by
  obtain ⟨hn, hnb, hrow, hty, hsub, hfz⟩ := w0
  have KA := fun V : World => alive_any V
  have KG := fun (V : World) (hV : Below w.heap.size w V) => great_any ty sub a n c fs V hn hnb (hrow.below hV) hty hsub hfz
  have HR : Hid (FRow w a fs) := hrow
  have kb := keep w (.cells #[.string ty, .string sub, .slice a n c] 24)
  have hk0 := kat_new w ty sub a n c
  clear hrow hfz hty hsub
  unfold kindV at KG
  go_enter Tryd.func5, Tryd.ntmps5
  go_wp2_with fail
  refine (KG _ kb).mono ?_
  rintro e W1 ⟨g, rfl, hg, hb1⟩
  have HK1 : Hid (KAt W1 w.heap.size ty sub a n c) := hk0.below hb1
  have HB1 : Hid (Below w.heap.size w W1) := kb.trans (hb1.mono (by simp))
  clear hb1 KG hk0
  cases g with
  | true =>
    clear hg
    go_wp2_with (go_at_call 9; refine (KA _).mono ?_; rintro e w' ⟨rfl, hb⟩)
    go_ret
    exact ⟨rfl, HB1.out.trans (hb.mono HB1.out.size)⟩
  | false =>
    obtain ⟨hn40, hts, hfz⟩ := hg rfl
    clear hg
    have HF : Hid (∀ f ∈ fs, f.1.size ≤ 200 ∧ f.2.size ≤ 2100) := hfz
    have y1 : ty.size ≤ 1000000000 := by omega
    have y2 : sub.size ≤ 1000000000 := by omega
    clear hfz
    obtain ⟨hlt0, d0, d1, d2⟩ := HK1.out
    go_wp2
    go_loopw [3, 4] (fun i j wr => ∃ (k : Nat), i = .int .i64 k ∧ k ≤ n ∧ wr = W1 ∧ Hid (∀ f ∈ fs.take k, 42 ∉ nums f.1)) (fun i _ _ => n - (intOf i).toNat)
    case atStart => exact ⟨0, rfl, by omega, rfl, by simp [Hid]⟩
    case round =>
      obtain ⟨k, rfl, hk, hwr, HN⟩ := hrel
      obtain rfl : W1 = wr := hwr.symm
      clear hwr
      by_cases hlt : k < n
      · obtain ⟨f, hfk⟩ : ∃ f, fs[k]? = some f := ⟨_, List.getElem?_eq_getElem (by omega)⟩
        have hfz := HF.out f (List.mem_of_getElem? hfk)
        have HTK : Hid (fs.take (k + 1) = fs.take k ++ [f]) := by unfold Hid; rw [List.take_add_one, hfk]; rfl
        obtain ⟨nm, vl⟩ := f
        obtain ⟨hz1, hz2⟩ := hfz
        rcases HR.out.below HB1.out with h | ⟨b, off, rfl, h⟩
        · rw [h] at hn; simp at hn; omega
        obtain ⟨hc1, hc2⟩ := h k _ hfk
        clear h hfk
        simp only at hc1 hc2 hz1 hz2
        go_wp2
        go_loopw [4] (fun j wr => ∃ m : Nat, j = .int .i64 m ∧ m ≤ nm.size ∧ wr = W1 ∧ Hid (42 ∉ (nums nm).take m)) (fun j _ => nm.size - (intOf j).toNat)
        case atStart => exact ⟨0, rfl, by omega, rfl, by simp [Hid]⟩
        case round =>
          obtain ⟨m, rfl, hm, hwr, HM⟩ := hrel
          obtain rfl : W1 = wr := hwr.symm
          clear hwr
          by_cases hlm : m < nm.size
          · have mk : (m : Int) < (nm.size : Int) := by omega
            obtain ⟨ch, hch⟩ : ∃ ch : Int, (nm[m].toNat : Int) = ch := ⟨_, rfl⟩
            have hget := nums_at nm m hlm
            rw [hch] at hget
            by_cases h42 : ch = 42
            · subst h42
              go_wp2_with (go_at_call 9; refine (KA _).mono ?_; rintro e w' ⟨rfl, hb⟩)
              go_ret
              exact ⟨rfl, HB1.out.trans (hb.mono HB1.out.size)⟩
            · have e42 : (ch == 42) = false := by simpa using h42
              have HM2 : Hid (42 ∉ (nums nm).take (m + 1)) := by
                unfold Hid
                rw [List.take_add_one, hget]
                intro q
                rcases List.mem_append.1 q with q | q
                · exact HM.out q
                · simp at q; exact h42 q.symm
              clear hget
              go_wp2
              go_roundw
              case rel => exact ⟨m + 1, by go_num, by omega, trivial, HM2⟩
              case measure => simp [intOf]; omega
          · obtain rfl : m = nm.size := by omega
            have HN2 : Hid (∀ f ∈ fs.take (k + 1), 42 ∉ nums f.1) := by
              unfold Hid
              rw [HTK.out]
              intro f hf
              rcases List.mem_append.1 hf with h | h
              · exact HN.out f h
              · simp at h; subst h
                have := HM.out
                rw [List.take_of_length_le (by rw [nums_len]; omega)] at this
                exact this
            go_wp2
            go_roundw
            case rel => exact ⟨k + 1, by go_num, by omega, trivial, HN2⟩
            case measure => simp [intOf]; omega
      · obtain rfl : k = n := by omega
        have HNN : Hid (∀ f ∈ fs, 42 ∉ nums f.1) := by
          have := HN.out
          rw [List.take_of_length_le (by omega)] at this
          exact this
        have hf9 : ∀ f ∈ fs, f.1.size ≤ 1000000000 ∧ f.2.size ≤ 1000000000 := fun f hf => by have := HF.out f hf; omega
        have KSM : Hid (∀ (V : World) (va : Option Addr) (gs : List (ByteArray × ByteArray)) (vc : Nat), Below w.heap.size w V → FRow V va gs → numsP gs = numsP fs → Calls Tryd.prog 12 #[.agg #[.string ty, .string sub, .slice va gs.length vc], .agg #[.string ty, .string sub, .slice a k c]] V fun e w' => e = .returned (.bool true) ∧ Below V.heap.size V w') := fun V va gs vc hV hg hq => by
          have hgl : gs.length = fs.length := by have := congrArg List.length hq; simpa [numsP] using this
          have := same_any ty sub ty sub va a vc c gs fs V rfl rfl hq (by omega) hg (HR.out.below hV)
          unfold kindV at this
          rw [← hn]
          exact this
        clear HN hlt hk
        generalize k = n at *
        by_cases hsp : SplitsP ty sub fs
        · obtain ⟨qs, hpq⟩ := pts_ex hsp.2.1
          have HSP : Hid (SplitsP ty sub fs) := hsp
          have HPQ : Hid (PtsOf fs qs) := hpq
          have KS := split_ok ty sub a n c fs qs W1 hn (HR.out.below HB1.out) y1 y2 hf9 hsp hpq
          unfold kindV at KS
          cases hsl : splitZ qs with
          | none =>
            rw [hsl] at KS
            have KS : Calls Tryd.prog 10 #[.agg #[.string ty, .string sub, .slice a n c]] W1 fun e w' => e = .returned (.tuple #[.agg #[.string ⟨#[]⟩, .string ⟨#[]⟩, .slice none 0 0], .int .i64 3]) ∧ Below W1.heap.size W1 w' := KS.mono fun e w' h => ⟨h.1 rfl, h.2.2⟩
            clear hsp hpq hf9 hsl
            go_wp2_with fail
            refine KS.mono ?_
            rintro e w2 ⟨rfl, hb2⟩
            go_wp2_with (go_at_call 9; refine (KA _).mono ?_; rintro e w' ⟨rfl, hb⟩)
            go_ret
            exact ⟨rfl, HB1.out.trans (((keep' hb2).trans (hb.mono (by have := hb2.size; simp; omega))).mono HB1.out.size)⟩
          | some l =>
            have HSL : Hid (splitZ qs = some l) := hsl
            rw [hsl] at KS
            clear hsp hpq hf9 hsl
            go_wp2_with fail
            refine KS.mono ?_
            rintro e w2 ⟨_, hP2, hb2⟩
            obtain ⟨v, gs, rfl, hown, hgs⟩ := hP2 l rfl
            obtain ⟨va, vc, rfl, hgr⟩ := ownF_view hown
            obtain ⟨L, hL, hJ⟩ := back_join HSP.out HPQ.out HSL.out HNN.out hgs
            have HL : Hid (gatherZ (numsP gs) [] = some L) := hL
            have HJ : Hid (JoinR L gs (numsP gs) [] (numsP fs)) := hJ
            have hsm := gs_small HSP.out HPQ.out HSL.out hgs
            have HSM : Hid (∀ f ∈ gs, f.1.size ≤ 1000 ∧ f.2.size ≤ 1000) := hsm
            have k3 := keep w2 (.cells #[.string ty, .string sub, .slice va gs.length vc] 24)
            obtain ⟨W3, hW3⟩ : ∃ W, w2.alloc (.cells #[.string ty, .string sub, .slice va gs.length vc] 24) = W := ⟨_, rfl⟩
            have HX3 : Hid (KAt W3 w2.heap.size ty sub va gs.length vc) := by unfold Hid; rw [← hW3]; exact kat_new w2 ty sub va gs.length vc
            rw [hW3] at k3
            have hb12 : Below W1.heap.size W1 W3 := hb2.trans (k3.mono hb2.size)
            have HK3 : Hid (KAt W3 w.heap.size ty sub a n c) := HK1.out.below hb12
            have HG3 : Hid (FRow W3 va gs) := hgr.below k3
            have HB3 : Hid (Below w.heap.size w W3) := HB1.out.trans (hb12.mono HB1.out.size)
            have KR := right_any ty sub va gs.length vc gs W3 rfl HG3.out y1 y2 (fun f hf => by have := hsm f hf; omega)
            unfold kindV at KR
            obtain ⟨z, hzz⟩ : ∃ z, rightZ (nums ty) (nums sub) (numsP gs) = z := ⟨_, rfl⟩
            have HZ : Hid (rightZ (nums ty) (nums sub) (numsP gs) = z) := hzz
            rw [hzz] at KR
            obtain ⟨_, x0, x1, x2⟩ := HX3.out
            clear hP2 hown hgs hgr hL hJ hsm k3 hb2 hb12 hzz HK1 HB1 KS
            go_wp2_with fail
            refine KR.mono ?_
            rintro e w4 ⟨rfl, hb4⟩
            have HB4 : Hid (Below w.heap.size w w4) := HB3.out.trans (hb4.mono HB3.out.size)
            clear x0 x1 x2 KR
            cases z with
            | false =>
              go_wp2_with (go_at_call 9; refine (KA _).mono ?_; rintro e w' ⟨rfl, hb⟩)
              go_ret
              exact ⟨rfl, HB4.out.trans (hb.mono HB4.out.size)⟩
            | true =>
              have HK4 : Hid (KAt w4 w.heap.size ty sub a n c) := HK3.out.below hb4
              have HX4 : Hid (KAt w4 w2.heap.size ty sub va gs.length vc) := HX3.out.below hb4
              have HG4 : Hid (FRow w4 va gs) := HG3.out.below hb4
              have KJ := join_ok ty sub va gs.length vc gs L (numsP fs) w4 rfl HG4.out y1 y2 (fun f hf => by have := HSM.out f hf; omega) HZ.out HL.out HJ.out
              unfold kindV at KJ
              obtain ⟨_, x0, x1, x2⟩ := HX4.out
              clear hb4 HK3 HX3 HG3 HB3
              go_wp2_with fail
              refine KJ.mono ?_
              rintro e w5 ⟨v5, g5, rfl, hown5, hg5, hb5⟩
              obtain ⟨a5, c5, rfl, hr5⟩ := ownF_view hown5
              have hl5 : g5.length = fs.length := by have := congrArg List.length hg5; simpa [numsP] using this
              have k6 := keep w5 (.cells #[.string ty, .string sub, .slice a5 g5.length c5] 24)
              obtain ⟨W6, hW6⟩ : ∃ W, w5.alloc (.cells #[.string ty, .string sub, .slice a5 g5.length c5] 24) = W := ⟨_, rfl⟩
              have HY6 : Hid (KAt W6 w5.heap.size ty sub a5 g5.length c5) := by unfold Hid; rw [← hW6]; exact kat_new w5 ty sub a5 g5.length c5
              rw [hW6] at k6
              have hb46 : Below w4.heap.size w4 W6 := hb5.trans (k6.mono hb5.size)
              have HK6 : Hid (KAt W6 w.heap.size ty sub a n c) := HK4.out.below hb46
              have HX6 : Hid (KAt W6 w2.heap.size ty sub va gs.length vc) := HX4.out.below hb46
              have HG6 : Hid (FRow W6 va gs) := HG4.out.below hb46
              have HR6 : Hid (FRow W6 a5 g5) := hr5.below k6
              have HB6 : Hid (Below w.heap.size w W6) := HB4.out.trans (hb46.mono HB4.out.size)
              have HG5 : Hid (numsP g5 = numsP fs) := hg5
              have HL5 : Hid (g5.length = fs.length) := hl5
              have KW := write_any ty sub va gs.length vc gs W6 rfl HG6.out y1 y2 (fun f hf => by have := HSM.out f hf; omega)
              unfold kindV at KW
              clear x0 x1 x2 KJ hown5 hg5 hl5 hr5 k6 hb5 hb46 HK4 HX4 HG4 HB4
              obtain ⟨_, x0, x1, x2⟩ := HX6.out
              go_wp2_with fail
              refine KW.mono ?_
              rintro e w7 ⟨s, cc, rfl, hb7, hwa⟩
              obtain ⟨hs, rfl⟩ := hwa.1 HZ.out
              have hxl := write_len HZ.out
              rw [← hs, nums_len] at hxl
              have HK7 : Hid (KAt w7 w.heap.size ty sub a n c) := HK6.out.below hb7
              have HY7 : Hid (KAt w7 w5.heap.size ty sub a5 g5.length c5) := HY6.out.below hb7
              have HR7 : Hid (FRow w7 a5 g5) := HR6.out.below hb7
              have HB7 : Hid (Below w.heap.size w w7) := HB6.out.trans (hb7.mono HB6.out.size)
              have KD := read_any s w7 (by omega)
              have hrb := read_back (P := []) (T := []) (fun _ hq => by cases hq) tail_nil HZ.out
              rw [List.nil_append, List.append_nil, ← hs] at hrb
              rw [hrb] at KD
              clear x0 x1 x2 KW hwa hs hrb hb7 HK6 HX6 HY6 HG6 HR6 HB6
              go_wp2_with fail
              refine KD.mono ?_
              rintro e w8 ⟨ty8, sub8, a8, c8, fs8, cc8, rfl, hr8, _, hb8, hans⟩
              rcases hans with ⟨h, _⟩ | ⟨h, rfl⟩
              · cases h
              simp only [Option.some.injEq, Prod.mk.injEq] at h
              obtain ⟨hty, hsub, hqs⟩ := h
              obtain rfl := nums_inj hty
              obtain rfl := nums_inj hsub
              obtain rfl := numsP_inj hqs
              have k9 := keep w8 (.cells #[.string ty, .string sub, .slice a8 gs.length c8] 24)
              obtain ⟨W9, hW9⟩ : ∃ W, w8.alloc (.cells #[.string ty, .string sub, .slice a8 gs.length c8] 24) = W := ⟨_, rfl⟩
              have HV9 : Hid (KAt W9 w8.heap.size ty sub a8 gs.length c8) := by unfold Hid; rw [← hW9]; exact kat_new w8 ty sub a8 gs.length c8
              rw [hW9] at k9
              have hb79 : Below w7.heap.size w7 W9 := hb8.trans (k9.mono hb8.size)
              have HK9 : Hid (KAt W9 w.heap.size ty sub a n c) := HK7.out.below hb79
              have HY9 : Hid (KAt W9 w5.heap.size ty sub a5 g5.length c5) := HY7.out.below hb79
              have HR9 : Hid (FRow W9 a5 g5) := HR7.out.below hb79
              have HB9 : Hid (Below w.heap.size w W9) := HB7.out.trans (hb79.mono HB7.out.size)
              have KJ := join_ok ty sub a8 gs.length c8 gs L (numsP fs) W9 rfl (hr8.below k9) y1 y2 (fun f hf => by have := HSM.out f hf; omega) HZ.out HL.out HJ.out
              unfold kindV at KJ ⊢
              clear hty hsub hqs KD hr8 hb8 k9 hb79 HK7 HY7 HR7 HB7 hxl
              obtain ⟨_, x0, x1, x2⟩ := HV9.out
              go_wp2_with fail
              refine KJ.mono ?_
              rintro e w10 ⟨v10, g10, rfl, hown10, hg10, hb10⟩
              obtain ⟨a10, c10, rfl, hr10⟩ := ownF_view hown10
              have hl10 : g10.length = fs.length := by have := congrArg List.length hg10; simpa [numsP] using this
              have k11 := keep w10 (.cells #[.string ty, .string sub, .slice a10 g10.length c10] 24)
              obtain ⟨W11, hW11⟩ : ∃ W, w10.alloc (.cells #[.string ty, .string sub, .slice a10 g10.length c10] 24) = W := ⟨_, rfl⟩
              have HV11 : Hid (KAt W11 w10.heap.size ty sub a10 g10.length c10) := by unfold Hid; rw [← hW11]; exact kat_new w10 ty sub a10 g10.length c10
              rw [hW11] at k11
              have hb911 : Below W9.heap.size W9 W11 := hb10.trans (k11.mono hb10.size)
              have HK11 : Hid (KAt W11 w.heap.size ty sub a n c) := HK9.out.below hb911
              have HY11 : Hid (KAt W11 w5.heap.size ty sub a5 g5.length c5) := HY9.out.below hb911
              have HR11 : Hid (FRow W11 a5 g5) := HR9.out.below hb911
              have HT11 : Hid (FRow W11 a10 g10) := hr10.below k11
              have HB11 : Hid (Below w.heap.size w W11) := HB9.out.trans (hb911.mono HB9.out.size)
              have HG10 : Hid (numsP g10 = numsP fs) := hg10
              have HL10 : Hid (g10.length = fs.length) := hl10
              clear x0 x1 x2 KJ hown10 hg10 hl10 hr10 k11 hb10 hb911 HK9 HY9 HV9 HR9 HB9
              go_wp2_with fail
              refine (KA _).mono ?_
              rintro e w12 ⟨rfl, hb12⟩
              have HK12 : Hid (KAt w12 w.heap.size ty sub a n c) := HK11.out.below hb12
              have HY12 : Hid (KAt w12 w5.heap.size ty sub a5 g5.length c5) := HY11.out.below hb12
              have HV12 : Hid (KAt w12 w10.heap.size ty sub a10 g10.length c10) := HV11.out.below hb12
              have HT12 : Hid (FRow w12 a10 g10) := HT11.out.below hb12
              have HB12 : Hid (Below w.heap.size w w12) := HB11.out.trans (hb12.mono HB11.out.size)
              have KM := KSM.out w12 a5 g5 c5 HB12.out (HR11.out.below hb12) HG5.out
              obtain ⟨_, x0, x1, x2⟩ := HY12.out
              obtain ⟨_, u0, u1, u2⟩ := HK12.out
              clear hb12 HK11 HY11 HV11 HR11 HT11 HB11
              go_wp2_with fail
              refine KM.mono ?_
              rintro e w13 ⟨rfl, hb13⟩
              have HB13 : Hid (Below w.heap.size w w13) := HB12.out.trans (hb13.mono HB12.out.size)
              have KM2 := KSM.out w13 a10 g10 c10 HB13.out (HT12.out.below hb13) HG10.out
              clear x0 x1 x2 u0 u1 u2 KM
              obtain ⟨_, x0, x1, x2⟩ := HV12.out.below hb13
              obtain ⟨_, u0, u1, u2⟩ := HK12.out.below hb13
              clear hb13 HK12 HY12 HV12 HT12 HB12
              go_wp2_with fail
              refine KM2.mono ?_
              rintro e w14 ⟨rfl, hb14⟩
              go_wp2
              go_ret
              exact ⟨rfl, HB13.out.trans (hb14.mono HB13.out.size)⟩
        · have KS := split_bad ty sub a n c fs W1 hn (HR.out.below HB1.out) y1 y2 hf9 (by omega) hsp
          unfold kindV at KS
          clear hsp hf9
          go_wp2_with fail
          refine KS.mono ?_
          rintro e w2 ⟨rfl, hb2⟩
          go_wp2_with (go_at_call 9; refine (KA _).mono ?_; rintro e w' ⟨rfl, hb⟩)
          go_ret
          exact ⟨rfl, HB1.out.trans (((keep' hb2).trans (hb.mono (by have := hb2.size; simp; omega))).mono HB1.out.size)⟩

set_option maxRecDepth 100000 in
theorem lifted (os : Os) (started : os.Started) (H : Type) (enc : TypeId × Value → H) :
    ReturnsInHanded {} Tryd.checked os 5 .any (fun w args => (Rows.extraBackSpec.pre enc Tryd.prog Tryd.f5 Rows.extraBackRow.domain false w args ∧ laidMetH Tryd.prog Rows.extraBackRow.laid w) ∧ sizedMet enc Tryd.prog Tryd.f5 (OpenSpec.ofChange Rows.extraBackSpec) false w args)
      (Rows.extraBackSpec.post enc Tryd.prog Tryd.f5 false true false false) := by
  refine returnsInHanded_of_change_and (C := Tryd.checked) (X := fun w _ => laidMetH Tryd.prog Rows.extraBackRow.laid w) (fun _ _ _ hh h => h.of_heap hh) own started (by kernel_rfl) Tryd.func5
    (ChangeSpec.witness_shaped (enc := enc) (C := Tryd.checked) (os := os) (X := fun w _ => laidMetH Tryd.prog Rows.extraBackRow.laid w) false (World.laidAll Tryd.prog os Rows.extraBackRow.laid) #[.agg #[.string ⟨#[]⟩, .string ⟨#[]⟩, .slice none 0 0]] 8 (World.laidAll_os _ _ _)
      (World.shaped_of_ZipB (by kernel_rfl) (by kernel_rfl)) (by kernel_rfl) (by kernel_rfl) (by kernel_rfl)
      (by rw [MakeChecks.laidMetH_plain _ _ _ (by kernel_rfl)]; exact laidMet_laidAll _ (by kernel_rfl) (by kernel_rfl))) ?_
  intro W base args ds gs before hval0 hW hcnd hsz0 hL0 _
  have hsz : (DataW.weightsEach Tryd.prog (Tryd.f5.params.toList ++ Rows.extraBackSpec.plain.varTypes Tryd.prog) (ds ++ gs)).all (· ≤ reachBytes) = true := hsz0
  have hval : ∀ (j : Nat) t v, Tryd.f5.params[j]? = some t → args[j]? = some v → Value.okWide Tryd.prog W .any base t v := hval0
  have hW' := hW
  obtain ⟨p, q, hA0, hV, rfl, hfz, hnd⟩ := hW
  have hA : DataW.TrodAll enc Tryd.prog W 0 (fun _ => true) true Tryd.f5.params.toList args.toList ds p := hA0
  rw [Tryd.params5] at hA hval hsz
  obtain ⟨v0, vs0, d0, ds0, p0, q0, hargs, rfl, rfl, h0, r0⟩ := trodAll_cons hA
  obtain ⟨rfl, rfl, rfl⟩ := trodAll_nil r0
  obtain rfl : args = #[v0] := by cases args; simp_all
  obtain ⟨rfl, rfl⟩ := trodVars_none hV
  have k0 := h0
  have lt0 : ∀ x ∈ p0, x.block < W.heap.size := by obtain ⟨m, hm⟩ := k0; exact DataW.trod_lt m _ _ _ hm
  obtain ⟨t0, s0, a0, len0, cap0, z0, rfl, w0⟩ := kind_arg (hval 0 24 v0 rfl rfl) h0 (fun n hn => by simpa using List.all_eq_true.1 hsz n (DataW.weights_mem_each (j := 0) rfl rfl n hn))
  clear hA0 hval0
  simp only [List.append_nil] at hW'
  refine (walk t0 s0 a0 len0 cap0 z0 W w0).mono fun e W' ⟨he, bel⟩ => ?_
  subst he
  exact ⟨_, rfl, _, _, _, [], _, [], hW', trodAll_mk1 (shut_bool Tryd.underlying4 _), (trodAll_cons_mk (Below.trod laidOut (by kernel_rfl) (of_decide_eq_true (by kernel_rfl)) k0 bel lt0) trodAll_mk0), rfl, bel.frame _, fun h => by cases h⟩

theorem over : Rows.ExtraBackSaid :=
  OpenClaim.holds_of_wide 5 Tryd.f5 rfl rfl rfl rfl rfl rfl rfl ⟨rfl, rfl, rfl, rfl, rfl⟩ rfl rfl rfl rfl rfl (by kernel_rfl) Tryd.func5 (by kernel_rfl)
    (of_decide_eq_true (by kernel_rfl)) (by unfold Func.isWrapper; first | (rw [if_pos (by decide +kernel)]; kernel_rfl) | (rw [if_neg (by decide +kernel)]; exact ⟨rfl, rfl⟩))
    (fun os started H enc _ => lifted os started H enc)
end Go.Proofs.YtfhgkkdbkbbpkaaDoor.extraBack
namespace Go.Proofs.YtfhgkkdbkbbpkaaDoor
theorem extraBack_card : Rows.ExtraBackCardSaid :=
  Claim7.holds_tied_plain_at .later [] _ _ _ _ extraBack.over (fun _ h => by cases h) (by kernel_rfl) (fun _ h => by cases h) extraBack_row_tie rfl ⟨rfl, rfl⟩ (by kernel_rfl) rfl
    (fun f fn hf hfn => by
      obtain rfl : f = 5 := Option.some.inj ((show Tryd.prog.funcNamed Rows.extraBackRow.func = some 5 by kernel_rfl).symm.trans hf) |>.symm
      obtain rfl : fn = Tryd.f5 := (Option.some.inj (Tryd.func5.symm.trans hfn)).symm
      exact ⟨by kernel_rfl, fun j t ht => by
        rw [Tryd.params5] at ht
        have hm : t ∈ [24] := by simpa using Array.mem_of_getElem? ht
        have hall : ([24].all fun u => !Tryd.prog.wantsStandIn u) = true := by kernel_rfl
        exact (show Tryd.prog.wantsStandIn t = false by simpa using List.all_eq_true.1 hall t hm)⟩)
    (by kernel_rfl)
#print axioms extraBack_card
end Go.Proofs.YtfhgkkdbkbbpkaaDoor
