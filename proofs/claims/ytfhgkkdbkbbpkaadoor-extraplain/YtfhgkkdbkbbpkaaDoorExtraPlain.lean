/-
  For every kind that may be and is not too great for the statement: without stars in its Names it is joined as it is, and with Values of at most 60 bytes it is split as it is; for all others fixed calls answer as they must. Conditions: the listed tables of the library are tied to the pruned copy of the project that the seat holds, and say nothing of its other packages, commands or tests.
-/
import Derived.Test.YtfhgkkdbkbbpkaaDoorCards
import Derived.Test.YtfhgkkdbkbbpkaaDoorTie
import Derived.Test.YtfhgkkdbkbbpkaaDoorArgs
import Derived.Test.YtfhgkkdbkbbpkaaDoorFb
import Derived.Test.YtfhgkkdbkbbpkaaDoorFh
import Derived.WalkKit
import Derived.ProofKit
import Derived.OpenShut
import Derived.ShutString
import Derived.ChangeOld
import Derived.Below
import Derived.LaidMore
import Derived.Lay
import Derived.SevenTiedAt
import Derived.Stop.Joined
namespace Go.Proofs.YtfhgkkdbkbbpkaaDoor.extraPlain
open Go.ChangeShapes Go.WideShapes Go.ChangeAt Go.RowKit
open Go.ChangeMaps (open_string shut_string)
set_option linter.unusedVariables false

set_option maxRecDepth 100000 in
set_option maxHeartbeats 8000000 in
theorem walk (ty sub : ByteArray) (a : Option Addr) (n c : Nat) (fs : List (ByteArray × ByteArray)) (w : World) (w0 : IsK w ty sub a n fs) : Calls Tryd.prog 7 #[.agg #[.string ty, .string sub, .slice a n c]] w fun e w' => e = .returned (.bool true) ∧ Below w.heap.size w w' := by
  obtain ⟨hn, hnb, hrow, hty, hsub, hfz⟩ := w0
  have KA := fun V : World => alive_any V
  have KG := fun (V : World) (hV : Below w.heap.size w V) => great_any ty sub a n c fs V hn hnb (hrow.below hV) hty hsub hfz
  have KRt : Hid (ty.size ≤ 1000000000 → sub.size ≤ 1000000000 → (∀ f ∈ fs, f.1.size ≤ 1000000000 ∧ f.2.size ≤ 1000000000) → ∀ V, Below w.heap.size w V → Calls Tryd.prog 17 #[kindV ty sub a n c] V fun e w' => e = .returned (.bool (rightZ (nums ty) (nums sub) (numsP fs))) ∧ Below V.heap.size V w') := fun h1 h2 h3 V hV => right_any ty sub a n c fs V hn (hrow.below hV) h1 h2 h3
  have HR : Hid (FRow w a fs) := hrow
  have kb := keep w (.cells #[.string ty, .string sub, .slice a n c] 24)
  clear hrow hfz hty hsub
  unfold kindV at KG KRt
  go_enter Tryd.func7, Tryd.ntmps7
  go_wp2_with fail
  refine (KG _ kb).mono ?_
  rintro e w1 ⟨g, rfl, hg, hb1⟩
  have b0 : w1.cell? ⟨w.heap.size, 0, none⟩ = some (.string ty) := by rw [hb1.cell (p := ⟨w.heap.size, 0, none⟩) (by simp)]; rw [World.cell?_alloc_mark]; rfl
  have b1 : w1.cell? ⟨w.heap.size, 1, none⟩ = some (.string sub) := by rw [hb1.cell (p := ⟨w.heap.size, 1, none⟩) (by simp)]; rw [World.cell?_alloc_mark]; rfl
  have b2 : w1.cell? ⟨w.heap.size, 2, none⟩ = some (.slice a n c) := by rw [hb1.cell (p := ⟨w.heap.size, 2, none⟩) (by simp)]; rw [World.cell?_alloc_mark]; rfl
  have s1 : w.heap.size < w1.heap.size := by have := hb1.size; simp at this; omega
  have hbw : Below w.heap.size w w1 := kb.trans (hb1.mono (by simp))
  clear hb1 KG
  cases g with
  | true =>
    clear hg
    go_wp2_with (go_at_call 9; refine (KA _).mono ?_; rintro e w' ⟨rfl, hb⟩)
    go_ret
    exact ⟨rfl, hbw.trans (hb.mono (by omega))⟩
  | false =>
    obtain ⟨hn40, hts, hfz⟩ := hg rfl
    clear hg
    have KR := KRt.out (by omega) (by omega) (fun f hf => by have := hfz f hf; omega)
    obtain ⟨z, hz⟩ : ∃ z, rightZ (nums ty) (nums sub) (numsP fs) = z := ⟨_, rfl⟩
    rw [hz] at KR
    have HZ : Hid (rightZ (nums ty) (nums sub) (numsP fs) = z) := hz
    have HF : Hid (∀ f ∈ fs, f.1.size ≤ 200 ∧ f.2.size ≤ 2100) := hfz
    clear KRt hz hfz
    go_wp2_with fail
    refine (KR _ hbw).mono ?_
    rintro e w2 ⟨rfl, hb2⟩
    have s2 := hb2.size
    have d0 := (hb2.cell (p := ⟨w.heap.size, 0, none⟩) s1).trans b0
    have d1 := (hb2.cell (p := ⟨w.heap.size, 1, none⟩) s1).trans b1
    have d2 := (hb2.cell (p := ⟨w.heap.size, 2, none⟩) s1).trans b2
    have hbx : Below w.heap.size w w2 := hbw.trans (hb2.mono (by omega))
    have HB2 : Hid (Below w.heap.size w w2) := hbx
    have s3 : w.heap.size < w2.heap.size := by omega
    clear b0 b1 b2 hb2 hbw hbx KR s2 s1
    cases z with
    | false =>
      go_wp2_with (go_at_call 9; refine (KA _).mono ?_; rintro e w' ⟨rfl, hb⟩)
      go_ret
      exact ⟨rfl, HB2.out.trans (hb.mono (by omega))⟩
    | true =>
      go_wp2
      go_loopw [3, 4, 5] (fun t i j wr => ∃ (k : Nat) (sh : Bool), t = .bool sh ∧ i = .int .i64 k ∧ k ≤ n ∧ wr = w2 ∧ Hid (sh = true → ∀ f ∈ fs.take k, f.2.size ≤ 60) ∧ Hid (∀ f ∈ fs.take k, 42 ∉ nums f.1)) (fun _ i _ _ => n - (intOf i).toNat)
      case atStart => exact ⟨0, true, rfl, rfl, by omega, rfl, by simp [Hid], by simp [Hid]⟩
      case round =>
        obtain ⟨k, sh, rfl, rfl, hk, hwr, HS, HN⟩ := hrel
        obtain rfl : w2 = wr := hwr.symm
        clear hwr
        by_cases hlt : k < n
        · obtain ⟨f, hfk⟩ : ∃ f, fs[k]? = some f := ⟨_, List.getElem?_eq_getElem (by omega)⟩
          have hfz := HF.out f (List.mem_of_getElem? hfk)
          have HTK : Hid (fs.take (k + 1) = fs.take k ++ [f]) := by unfold Hid; rw [List.take_add_one, hfk]; rfl
          obtain ⟨nm, vl⟩ := f
          obtain ⟨hz1, hz2⟩ := hfz
          rcases HR.out.below HB2.out with h | ⟨b, off, rfl, h⟩
          · rw [h] at hn; simp at hn; omega
          obtain ⟨hc1, hc2⟩ := h k _ hfk
          clear h hfk
          simp only at hc1 hc2 hz1 hz2
          obtain ⟨v60, hv60⟩ : ∃ v60, decide ((vl.size : Int) ≤ 60) = v60 := ⟨_, rfl⟩
          obtain ⟨s4, hs4⟩ : ∃ s4, (sh && v60) = s4 := ⟨_, rfl⟩
          have HS2 : Hid (s4 = true → ∀ f ∈ fs.take (k + 1), f.2.size ≤ 60) := by
            intro q
            rw [← hs4, Bool.and_eq_true] at q
            rw [HTK.out]
            intro f hf
            rcases List.mem_append.1 hf with h | h
            · exact HS.out q.1 f h
            · simp at h; subst h; rw [← hv60] at q; have := of_decide_eq_true q.2; show vl.size ≤ 60; omega
          have HS4 : Hid ((sh && v60) = s4) := hs4
          have hp : (if sh = true then v60 else false) = s4 := by rw [← HS4.out]; cases sh <;> rfl
          clear hs4 HS
          have HTK0 : True := trivial
          cases sh with
          | false =>
            obtain rfl : false = s4 := HS4.out
            clear HS4 hp hv60 HTK0
            go_wp2
            go_loopw [5] (fun j wr => ∃ m : Nat, j = .int .i64 m ∧ m ≤ nm.size ∧ wr = w2 ∧ Hid (42 ∉ (nums nm).take m)) (fun j _ => nm.size - (intOf j).toNat)
            case atStart => exact ⟨0, rfl, by omega, rfl, by simp [Hid]⟩
            case round =>
              obtain ⟨m, rfl, hm, hwr, HM⟩ := hrel
              obtain rfl : w2 = wr := hwr.symm
              clear hwr
              by_cases hlm : m < nm.size
              · have mk : (m : Int) < (nm.size : Int) := by omega
                obtain ⟨ch, hch⟩ : ∃ ch : Int, (nm[m].toNat : Int) = ch := ⟨_, rfl⟩
                have hget := nums_at nm m hlm
                rw [hch] at hget
                by_cases h42 : ch = 42
                · subst h42
                  go_wp2_with (go_at_call 9; refine (KA _).mono ?_; rintro e w' ⟨rfl, hb⟩)
                  go_ret
                  exact ⟨rfl, HB2.out.trans (hb.mono (by omega))⟩
                · have e42 : (ch == 42) = false := by simpa using h42
                  have HM2 : Hid (42 ∉ (nums nm).take (m + 1)) := by
                    unfold Hid
                    rw [List.take_add_one, hget]
                    intro q
                    rcases List.mem_append.1 q with q | q
                    · exact HM.out q
                    · simp at q; exact h42 q.symm
                  clear hget
                  go_wp2
                  go_roundw
                  case rel => exact ⟨m + 1, by go_num, by omega, trivial, HM2⟩
                  case measure => simp [intOf]; omega
              · obtain rfl : m = nm.size := by omega
                have HN2 : Hid (∀ f ∈ fs.take (k + 1), 42 ∉ nums f.1) := by
                  unfold Hid
                  rw [HTK.out]
                  intro f hf
                  rcases List.mem_append.1 hf with h | h
                  · exact HN.out f h
                  · simp at h; subst h
                    have := HM.out
                    rw [List.take_of_length_le (by rw [nums_len]; omega)] at this
                    exact this
                go_wp2
                go_roundw
                case rel => exact ⟨k + 1, false, rfl, by go_num, by omega, trivial, fun q => (by cases q), HN2⟩
                case measure => simp [intOf]; omega
          | true =>
            cases v60 with
            | false =>
              obtain rfl : false = s4 := HS4.out
              have hv6 := hv60
              clear HS4 hp hv60 HTK0
              go_wp2
              go_loopw [5] (fun j wr => ∃ m : Nat, j = .int .i64 m ∧ m ≤ nm.size ∧ wr = w2 ∧ Hid (42 ∉ (nums nm).take m)) (fun j _ => nm.size - (intOf j).toNat)
              case atStart => exact ⟨0, rfl, by omega, rfl, by simp [Hid]⟩
              case round =>
                obtain ⟨m, rfl, hm, hwr, HM⟩ := hrel
                obtain rfl : w2 = wr := hwr.symm
                clear hwr
                by_cases hlm : m < nm.size
                · have mk : (m : Int) < (nm.size : Int) := by omega
                  obtain ⟨ch, hch⟩ : ∃ ch : Int, (nm[m].toNat : Int) = ch := ⟨_, rfl⟩
                  have hget := nums_at nm m hlm
                  rw [hch] at hget
                  by_cases h42 : ch = 42
                  · subst h42
                    go_wp2_with (go_at_call 9; refine (KA _).mono ?_; rintro e w' ⟨rfl, hb⟩)
                    go_ret
                    exact ⟨rfl, HB2.out.trans (hb.mono (by omega))⟩
                  · have e42 : (ch == 42) = false := by simpa using h42
                    have HM2 : Hid (42 ∉ (nums nm).take (m + 1)) := by
                      unfold Hid
                      rw [List.take_add_one, hget]
                      intro q
                      rcases List.mem_append.1 q with q | q
                      · exact HM.out q
                      · simp at q; exact h42 q.symm
                    clear hget
                    go_wp2
                    go_roundw
                    case rel => exact ⟨m + 1, by go_num, by omega, trivial, HM2⟩
                    case measure => simp [intOf]; omega
                · obtain rfl : m = nm.size := by omega
                  have HN2 : Hid (∀ f ∈ fs.take (k + 1), 42 ∉ nums f.1) := by
                    unfold Hid
                    rw [HTK.out]
                    intro f hf
                    rcases List.mem_append.1 hf with h | h
                    · exact HN.out f h
                    · simp at h; subst h
                      have := HM.out
                      rw [List.take_of_length_le (by rw [nums_len]; omega)] at this
                      exact this
                  go_wp2
                  go_roundw
                  case rel => exact ⟨k + 1, false, rfl, by go_num, by omega, trivial, fun q => (by cases q), HN2⟩
                  case measure => simp [intOf]; omega
            | true =>
              obtain rfl : true = s4 := HS4.out
              have hv6 := hv60
              clear HS4 hp hv60 HTK0
              go_wp2
              go_loopw [5] (fun j wr => ∃ m : Nat, j = .int .i64 m ∧ m ≤ nm.size ∧ wr = w2 ∧ Hid (42 ∉ (nums nm).take m)) (fun j _ => nm.size - (intOf j).toNat)
              case atStart => exact ⟨0, rfl, by omega, rfl, by simp [Hid]⟩
              case round =>
                obtain ⟨m, rfl, hm, hwr, HM⟩ := hrel
                obtain rfl : w2 = wr := hwr.symm
                clear hwr
                by_cases hlm : m < nm.size
                · have mk : (m : Int) < (nm.size : Int) := by omega
                  obtain ⟨ch, hch⟩ : ∃ ch : Int, (nm[m].toNat : Int) = ch := ⟨_, rfl⟩
                  have hget := nums_at nm m hlm
                  rw [hch] at hget
                  by_cases h42 : ch = 42
                  · subst h42
                    go_wp2_with (go_at_call 9; refine (KA _).mono ?_; rintro e w' ⟨rfl, hb⟩)
                    go_ret
                    exact ⟨rfl, HB2.out.trans (hb.mono (by omega))⟩
                  · have e42 : (ch == 42) = false := by simpa using h42
                    have HM2 : Hid (42 ∉ (nums nm).take (m + 1)) := by
                      unfold Hid
                      rw [List.take_add_one, hget]
                      intro q
                      rcases List.mem_append.1 q with q | q
                      · exact HM.out q
                      · simp at q; exact h42 q.symm
                    clear hget
                    go_wp2
                    go_roundw
                    case rel => exact ⟨m + 1, by go_num, by omega, trivial, HM2⟩
                    case measure => simp [intOf]; omega
                · obtain rfl : m = nm.size := by omega
                  have HN2 : Hid (∀ f ∈ fs.take (k + 1), 42 ∉ nums f.1) := by
                    unfold Hid
                    rw [HTK.out]
                    intro f hf
                    rcases List.mem_append.1 hf with h | h
                    · exact HN.out f h
                    · simp at h; subst h
                      have := HM.out
                      rw [List.take_of_length_le (by rw [nums_len]; omega)] at this
                      exact this
                  go_wp2
                  go_roundw
                  case rel => exact ⟨k + 1, true, rfl, by go_num, by omega, trivial, fun _ => HS2.out trivial, HN2⟩
                  case measure => simp [intOf]; omega
        · obtain rfl : k = n := by omega
          have HTF : Hid (fs.take k = fs) := List.take_of_length_le (by omega)
          have hnn : ∀ p ∈ numsP fs, 42 ∉ p.1 := by
            intro p hp
            obtain ⟨f, hf, rfl⟩ := List.mem_map.1 hp
            have := HN.out f (by rw [HTF.out]; exact hf)
            exact this
          have hsp := right_splits HZ.out
          have hf9 : ∀ f ∈ fs, f.1.size ≤ 1000000000 ∧ f.2.size ≤ 1000000000 := fun f hf => by have := HF.out f hf; omega
          have KJ := join_ok ty sub a k c fs [] (numsP fs) w2 hn (HR.out.below HB2.out) (by omega) (by omega) (fun f hf => by have := HF.out f hf; omega) HZ.out (gather_none hnn) (join_none hnn)
          have KP : Hid (∀ V, Below w.heap.size w V → Calls Tryd.prog 10 #[.agg #[.string ty, .string sub, .slice a k c]] V (SpR ty sub (splitZ (numsP fs)) V)) := fun V hV =>
            split_ok ty sub a k c fs (numsP fs) V hn (HR.out.below hV) (by omega) (by omega) hf9 hsp.1 hsp.2
          have HSO : Hid (sh = true → splitZ (numsP fs) = some (numsP fs)) := fun q => split_short (ty := []) (sub := []) (fun p hp => by
            obtain ⟨f, hf, rfl⟩ := List.mem_map.1 hp
            have h6 := HS.out q f (by rw [HTF.out]; exact hf)
            exact ⟨(rightL_mem (rightZ_parts HZ.out).2.2.2 _ hp).2, by rw [nums_len]; exact h6⟩)
          obtain ⟨o, ho⟩ : ∃ o, splitZ (numsP fs) = o := ⟨_, rfl⟩
          rw [ho] at KP HSO
          have KM : Hid (∀ (V : World) (va : Option Addr) (gs : List (ByteArray × ByteArray)) (vc : Nat), Below w.heap.size w V → FRow V va gs → numsP gs = numsP fs → Calls Tryd.prog 12 #[.agg #[.string ty, .string sub, .slice va gs.length vc], .agg #[.string ty, .string sub, .slice a k c]] V fun e w' => e = .returned (.bool true) ∧ Below V.heap.size V w') := fun V va gs vc hV hg hq => by
            have hgl : gs.length = fs.length := by have := congrArg List.length hq; simpa [numsP] using this
            have := same_any ty sub ty sub va a vc c gs fs V rfl rfl hq (by omega) hg (HR.out.below hV)
            unfold kindV at this
            rw [← hn]
            exact this
          unfold kindV at KJ
          clear hnn hsp hf9 HTF HS HN ho
          go_wp2_with fail
          refine KJ.mono ?_
          rintro e w3 ⟨v, gs, rfl, hown, hgs, hb3⟩
          obtain ⟨va, vc, rfl, hgr⟩ := ownF_view hown
          have s4 := hb3.size
          have hbz : Below w.heap.size w w3 := HB2.out.trans (hb3.mono (by omega))
          have kx := keep w3 (.cells #[.string ty, .string sub, .slice va gs.length vc] 24)
          have hby : Below w.heap.size w (w3.alloc (.cells #[.string ty, .string sub, .slice va gs.length vc] 24)) := hbz.alloc hbz.size _
          have f0 := (kx.cell (p := ⟨w.heap.size, 0, none⟩) (by dsimp only; omega)).trans ((hb3.cell (p := ⟨w.heap.size, 0, none⟩) s3).trans d0)
          have f1 := (kx.cell (p := ⟨w.heap.size, 1, none⟩) (by dsimp only; omega)).trans ((hb3.cell (p := ⟨w.heap.size, 1, none⟩) s3).trans d1)
          have f2 := (kx.cell (p := ⟨w.heap.size, 2, none⟩) (by dsimp only; omega)).trans ((hb3.cell (p := ⟨w.heap.size, 2, none⟩) s3).trans d2)
          have z0 : (w3.alloc (.cells #[.string ty, .string sub, .slice va gs.length vc] 24)).cell? ⟨w3.heap.size, 0, none⟩ = some (.string ty) := by rw [World.cell?_alloc_mark]; rfl
          have z1 : (w3.alloc (.cells #[.string ty, .string sub, .slice va gs.length vc] 24)).cell? ⟨w3.heap.size, 1, none⟩ = some (.string sub) := by rw [World.cell?_alloc_mark]; rfl
          have z2 : (w3.alloc (.cells #[.string ty, .string sub, .slice va gs.length vc] 24)).cell? ⟨w3.heap.size, 2, none⟩ = some (.slice va gs.length vc) := by rw [World.cell?_alloc_mark]; rfl
          have hgz : (w3.alloc (.cells #[.string ty, .string sub, .slice va gs.length vc] 24)).heap.size = w3.heap.size + 1 := by simp
          have HGR : Hid (FRow (w3.alloc (.cells #[.string ty, .string sub, .slice va gs.length vc] 24)) va gs) := hgr.below kx
          have HGS : Hid (numsP gs = numsP fs) := hgs
          clear hown hgs hb3 hbz kx hgr KJ d0 d1 d2
          have KPx := KP.out _ hby
          go_wp2_with fail
          refine KPx.mono ?_
          rintro e w4 ⟨hP1, hP2, hb4⟩
          have s5 := hb4.size
          rw [hgz] at s5
          have HB4 : Hid (Below w.heap.size w w4) := hby.trans (hb4.mono hby.size)
          have a0 := (hb4.cell (p := ⟨w.heap.size, 0, none⟩) (by simp; omega)).trans f0
          have a1 := (hb4.cell (p := ⟨w.heap.size, 1, none⟩) (by simp; omega)).trans f1
          have a2 := (hb4.cell (p := ⟨w.heap.size, 2, none⟩) (by simp; omega)).trans f2
          have y0 := (hb4.cell (p := ⟨w3.heap.size, 0, none⟩) (by simp)).trans z0
          have y1 := (hb4.cell (p := ⟨w3.heap.size, 1, none⟩) (by simp)).trans z1
          have y2 := (hb4.cell (p := ⟨w3.heap.size, 2, none⟩) (by simp)).trans z2
          have HG4 : Hid (FRow w4 va gs) := HGR.out.below hb4
          clear f0 f1 f2 z0 z1 z2 hb4 hby KP KPx HGR hgz
          cases o with
          | none =>
            have hP := hP1 rfl
            unfold kindV at hP
            subst hP
            clear hP1 hP2
            cases sh with
            | true => exact absurd (HSO.out rfl) (by simp)
            | false =>
              have ky := keep w4 (.cells #[.string ⟨#[]⟩, .string ⟨#[]⟩, .slice none 0 0] 24)
              have b0 := (ky.cell (p := ⟨w.heap.size, 0, none⟩) (by dsimp only; omega)).trans a0
              have b1 := (ky.cell (p := ⟨w.heap.size, 1, none⟩) (by dsimp only; omega)).trans a1
              have b2 := (ky.cell (p := ⟨w.heap.size, 2, none⟩) (by dsimp only; omega)).trans a2
              have x0 := (ky.cell (p := ⟨w3.heap.size, 0, none⟩) (by dsimp only; omega)).trans y0
              have x1 := (ky.cell (p := ⟨w3.heap.size, 1, none⟩) (by dsimp only; omega)).trans y1
              have x2 := (ky.cell (p := ⟨w3.heap.size, 2, none⟩) (by dsimp only; omega)).trans y2
              have HG5 : Hid (FRow (w4.alloc (.cells #[.string ⟨#[]⟩, .string ⟨#[]⟩, .slice none 0 0] 24)) va gs) := HG4.out.below ky
              have HB5 : Hid (Below w.heap.size w (w4.alloc (.cells #[.string ⟨#[]⟩, .string ⟨#[]⟩, .slice none 0 0] 24))) := HB4.out.trans (ky.mono HB4.out.size)
              have s6 : (w4.alloc (.cells #[.string ⟨#[]⟩, .string ⟨#[]⟩, .slice none 0 0] 24)).heap.size = w4.heap.size + 1 := by simp
              clear a0 a1 a2 y0 y1 y2 ky HG4 HB4
              go_wp2_with fail
              refine (KA _).mono ?_
              rintro e w6 ⟨rfl, hb6⟩
              have g0 := (hb6.cell (p := ⟨w.heap.size, 0, none⟩) (by simp; omega)).trans b0
              have g1 := (hb6.cell (p := ⟨w.heap.size, 1, none⟩) (by simp; omega)).trans b1
              have g2 := (hb6.cell (p := ⟨w.heap.size, 2, none⟩) (by simp; omega)).trans b2
              have h0 := (hb6.cell (p := ⟨w3.heap.size, 0, none⟩) (by simp; omega)).trans x0
              have h1 := (hb6.cell (p := ⟨w3.heap.size, 1, none⟩) (by simp; omega)).trans x1
              have h2 := (hb6.cell (p := ⟨w3.heap.size, 2, none⟩) (by simp; omega)).trans x2
              have HB6 : Hid (Below w.heap.size w w6) := HB5.out.trans (hb6.mono HB5.out.size)
              have s7 := hb6.size
              have HG6 : Hid (FRow w6 va gs) := HG5.out.below hb6
              clear b0 b1 b2 x0 x1 x2 HG5 HB5 hb6
              rw [s6] at s7
              go_wp2_with fail
              refine (KM.out w6 va gs vc HB6.out HG6.out HGS.out).mono ?_
              rintro e w8 ⟨rfl, hb8⟩
              go_wp2
              go_ret
              exact ⟨rfl, HB6.out.trans (hb8.mono HB6.out.size)⟩
          | some l =>
            obtain ⟨v2, gs2, rfl, hown2, hgs2⟩ := hP2 l rfl
            obtain ⟨va2, vc2, rfl, hgr2⟩ := ownF_view hown2
            clear hP1 hP2 hown2
            cases sh with
            | false =>
              clear hgs2 hgr2
              have ky := keep w4 (.cells #[.string ty, .string sub, .slice va2 gs2.length vc2] 24)
              have b0 := (ky.cell (p := ⟨w.heap.size, 0, none⟩) (by dsimp only; omega)).trans a0
              have b1 := (ky.cell (p := ⟨w.heap.size, 1, none⟩) (by dsimp only; omega)).trans a1
              have b2 := (ky.cell (p := ⟨w.heap.size, 2, none⟩) (by dsimp only; omega)).trans a2
              have x0 := (ky.cell (p := ⟨w3.heap.size, 0, none⟩) (by dsimp only; omega)).trans y0
              have x1 := (ky.cell (p := ⟨w3.heap.size, 1, none⟩) (by dsimp only; omega)).trans y1
              have x2 := (ky.cell (p := ⟨w3.heap.size, 2, none⟩) (by dsimp only; omega)).trans y2
              have HG5 : Hid (FRow (w4.alloc (.cells #[.string ty, .string sub, .slice va2 gs2.length vc2] 24)) va gs) := HG4.out.below ky
              have HB5 : Hid (Below w.heap.size w (w4.alloc (.cells #[.string ty, .string sub, .slice va2 gs2.length vc2] 24))) := HB4.out.trans (ky.mono HB4.out.size)
              have s6 : (w4.alloc (.cells #[.string ty, .string sub, .slice va2 gs2.length vc2] 24)).heap.size = w4.heap.size + 1 := by simp
              clear a0 a1 a2 y0 y1 y2 ky HG4 HB4
              go_wp2_with fail
              refine (KA _).mono ?_
              rintro e w6 ⟨rfl, hb6⟩
              have g0 := (hb6.cell (p := ⟨w.heap.size, 0, none⟩) (by simp; omega)).trans b0
              have g1 := (hb6.cell (p := ⟨w.heap.size, 1, none⟩) (by simp; omega)).trans b1
              have g2 := (hb6.cell (p := ⟨w.heap.size, 2, none⟩) (by simp; omega)).trans b2
              have h0 := (hb6.cell (p := ⟨w3.heap.size, 0, none⟩) (by simp; omega)).trans x0
              have h1 := (hb6.cell (p := ⟨w3.heap.size, 1, none⟩) (by simp; omega)).trans x1
              have h2 := (hb6.cell (p := ⟨w3.heap.size, 2, none⟩) (by simp; omega)).trans x2
              have HB6 : Hid (Below w.heap.size w w6) := HB5.out.trans (hb6.mono HB5.out.size)
              have s7 := hb6.size
              have HG6 : Hid (FRow w6 va gs) := HG5.out.below hb6
              clear b0 b1 b2 x0 x1 x2 HG5 HB5 hb6
              rw [s6] at s7
              go_wp2_with fail
              refine (KM.out w6 va gs vc HB6.out HG6.out HGS.out).mono ?_
              rintro e w8 ⟨rfl, hb8⟩
              go_wp2
              go_ret
              exact ⟨rfl, HB6.out.trans (hb8.mono HB6.out.size)⟩
            | true =>
              have HGS2 : Hid (numsP gs2 = numsP fs) := by have := HSO.out rfl; simp only [Option.some.injEq] at this; unfold Hid; rw [hgs2, this]
              clear hgs2
              have ky := keep w4 (.cells #[.string ty, .string sub, .slice va2 gs2.length vc2] 24)
              have b0 := (ky.cell (p := ⟨w.heap.size, 0, none⟩) (by dsimp only; omega)).trans a0
              have b1 := (ky.cell (p := ⟨w.heap.size, 1, none⟩) (by dsimp only; omega)).trans a1
              have b2 := (ky.cell (p := ⟨w.heap.size, 2, none⟩) (by dsimp only; omega)).trans a2
              have x0 := (ky.cell (p := ⟨w3.heap.size, 0, none⟩) (by dsimp only; omega)).trans y0
              have x1 := (ky.cell (p := ⟨w3.heap.size, 1, none⟩) (by dsimp only; omega)).trans y1
              have x2 := (ky.cell (p := ⟨w3.heap.size, 2, none⟩) (by dsimp only; omega)).trans y2
              have HG5 : Hid (FRow (w4.alloc (.cells #[.string ty, .string sub, .slice va2 gs2.length vc2] 24)) va gs) := HG4.out.below ky
              have HB5 : Hid (Below w.heap.size w (w4.alloc (.cells #[.string ty, .string sub, .slice va2 gs2.length vc2] 24))) := HB4.out.trans (ky.mono HB4.out.size)
              have u0 : (w4.alloc (.cells #[.string ty, .string sub, .slice va2 gs2.length vc2] 24)).cell? ⟨w4.heap.size, 0, none⟩ = some (.string ty) := by rw [World.cell?_alloc_mark]; rfl
              have u1 : (w4.alloc (.cells #[.string ty, .string sub, .slice va2 gs2.length vc2] 24)).cell? ⟨w4.heap.size, 1, none⟩ = some (.string sub) := by rw [World.cell?_alloc_mark]; rfl
              have u2 : (w4.alloc (.cells #[.string ty, .string sub, .slice va2 gs2.length vc2] 24)).cell? ⟨w4.heap.size, 2, none⟩ = some (.slice va2 gs2.length vc2) := by rw [World.cell?_alloc_mark]; rfl
              have HG52 : Hid (FRow (w4.alloc (.cells #[.string ty, .string sub, .slice va2 gs2.length vc2] 24)) va2 gs2) := hgr2.below ky
              have s6 : (w4.alloc (.cells #[.string ty, .string sub, .slice va2 gs2.length vc2] 24)).heap.size = w4.heap.size + 1 := by simp
              clear a0 a1 a2 y0 y1 y2 ky HG4 HB4 hgr2
              go_wp2_with fail
              refine (KA _).mono ?_
              rintro e w6 ⟨rfl, hb6⟩
              have g0 := (hb6.cell (p := ⟨w.heap.size, 0, none⟩) (by simp; omega)).trans b0
              have g1 := (hb6.cell (p := ⟨w.heap.size, 1, none⟩) (by simp; omega)).trans b1
              have g2 := (hb6.cell (p := ⟨w.heap.size, 2, none⟩) (by simp; omega)).trans b2
              have h0 := (hb6.cell (p := ⟨w3.heap.size, 0, none⟩) (by simp; omega)).trans x0
              have h1 := (hb6.cell (p := ⟨w3.heap.size, 1, none⟩) (by simp; omega)).trans x1
              have h2 := (hb6.cell (p := ⟨w3.heap.size, 2, none⟩) (by simp; omega)).trans x2
              have v0 := (hb6.cell (p := ⟨w4.heap.size, 0, none⟩) (by simp)).trans u0
              have v1 := (hb6.cell (p := ⟨w4.heap.size, 1, none⟩) (by simp)).trans u1
              have v2 := (hb6.cell (p := ⟨w4.heap.size, 2, none⟩) (by simp)).trans u2
              have HB6 : Hid (Below w.heap.size w w6) := HB5.out.trans (hb6.mono HB5.out.size)
              have s7 := hb6.size
              have HG6 : Hid (FRow w6 va gs) := HG5.out.below hb6
              have HG62 : Hid (FRow w6 va2 gs2) := HG52.out.below hb6
              clear b0 b1 b2 x0 x1 x2 HG5 HB5 hb6 u0 u1 u2 HG52
              rw [s6] at s7
              go_wp2_with fail
              refine (KM.out w6 va gs vc HB6.out HG6.out HGS.out).mono ?_
              rintro e w8 ⟨rfl, hb8⟩
              have k0 := (hb8.cell (p := ⟨w.heap.size, 0, none⟩) (by dsimp only; omega)).trans g0
              have k1 := (hb8.cell (p := ⟨w.heap.size, 1, none⟩) (by dsimp only; omega)).trans g1
              have k2 := (hb8.cell (p := ⟨w.heap.size, 2, none⟩) (by dsimp only; omega)).trans g2
              have l0 := (hb8.cell (p := ⟨w4.heap.size, 0, none⟩) (by dsimp only; omega)).trans v0
              have l1 := (hb8.cell (p := ⟨w4.heap.size, 1, none⟩) (by dsimp only; omega)).trans v1
              have l2 := (hb8.cell (p := ⟨w4.heap.size, 2, none⟩) (by dsimp only; omega)).trans v2
              have HB8 : Hid (Below w.heap.size w w8) := HB6.out.trans (hb8.mono HB6.out.size)
              have HG82 : Hid (FRow w8 va2 gs2) := HG62.out.below hb8
              clear g0 g1 g2 h0 h1 h2 v0 v1 v2 HG6 HG62 HB6 hb8
              go_wp2_with fail
              refine (KM.out w8 va2 gs2 vc2 HB8.out HG82.out HGS2.out).mono ?_
              rintro e w9 ⟨rfl, hb9⟩
              go_wp2
              go_ret
              exact ⟨rfl, HB8.out.trans (hb9.mono HB8.out.size)⟩

set_option maxRecDepth 100000 in
theorem lifted (os : Os) (started : os.Started) (H : Type) (enc : TypeId × Value → H) :
    ReturnsInHanded {} Tryd.checked os 7 .any (fun w args => (Rows.extraPlainSpec.pre enc Tryd.prog Tryd.f7 Rows.extraPlainRow.domain false w args ∧ laidMetH Tryd.prog Rows.extraPlainRow.laid w) ∧ sizedMet enc Tryd.prog Tryd.f7 (OpenSpec.ofChange Rows.extraPlainSpec) false w args)
      (Rows.extraPlainSpec.post enc Tryd.prog Tryd.f7 false true false false) := by
  refine returnsInHanded_of_change_and (C := Tryd.checked) (X := fun w _ => laidMetH Tryd.prog Rows.extraPlainRow.laid w) (fun _ _ _ hh h => h.of_heap hh) own started (by kernel_rfl) Tryd.func7
    (ChangeSpec.witness_shaped (enc := enc) (C := Tryd.checked) (os := os) (X := fun w _ => laidMetH Tryd.prog Rows.extraPlainRow.laid w) false (World.laidAll Tryd.prog os Rows.extraPlainRow.laid) #[.agg #[.string ⟨#[]⟩, .string ⟨#[]⟩, .slice none 0 0]] 8 (World.laidAll_os _ _ _)
      (World.shaped_of_ZipB (by kernel_rfl) (by kernel_rfl)) (by kernel_rfl) (by kernel_rfl) (by kernel_rfl)
      (by rw [MakeChecks.laidMetH_plain _ _ _ (by kernel_rfl)]; exact laidMet_laidAll _ (by kernel_rfl) (by kernel_rfl))) ?_
  intro W base args ds gs before hval0 hW hcnd hsz0 hL0 _
  have hsz : (DataW.weightsEach Tryd.prog (Tryd.f7.params.toList ++ Rows.extraPlainSpec.plain.varTypes Tryd.prog) (ds ++ gs)).all (· ≤ reachBytes) = true := hsz0
  have hval : ∀ (j : Nat) t v, Tryd.f7.params[j]? = some t → args[j]? = some v → Value.okWide Tryd.prog W .any base t v := hval0
  have hW' := hW
  obtain ⟨p, q, hA0, hV, rfl, hfz, hnd⟩ := hW
  have hA : DataW.TrodAll enc Tryd.prog W 0 (fun _ => true) true Tryd.f7.params.toList args.toList ds p := hA0
  rw [Tryd.params7] at hA hval hsz
  obtain ⟨v0, vs0, d0, ds0, p0, q0, hargs, rfl, rfl, h0, r0⟩ := trodAll_cons hA
  obtain ⟨rfl, rfl, rfl⟩ := trodAll_nil r0
  obtain rfl : args = #[v0] := by cases args; simp_all
  obtain ⟨rfl, rfl⟩ := trodVars_none hV
  have k0 := h0
  have lt0 : ∀ x ∈ p0, x.block < W.heap.size := by obtain ⟨m, hm⟩ := k0; exact DataW.trod_lt m _ _ _ hm
  obtain ⟨t0, s0, a0, len0, cap0, z0, rfl, w0⟩ := kind_arg (hval 0 24 v0 rfl rfl) h0 (fun n hn => by simpa using List.all_eq_true.1 hsz n (DataW.weights_mem_each (j := 0) rfl rfl n hn))
  clear hA0 hval0
  simp only [List.append_nil] at hW'
  refine (walk t0 s0 a0 len0 cap0 z0 W w0).mono fun e W' ⟨he, bel⟩ => ?_
  subst he
  exact ⟨_, rfl, _, _, _, [], _, [], hW', trodAll_mk1 (shut_bool Tryd.underlying4 _), (trodAll_cons_mk (Below.trod laidOut (by kernel_rfl) (of_decide_eq_true (by kernel_rfl)) k0 bel lt0) trodAll_mk0), rfl, bel.frame _, fun h => by cases h⟩

theorem over : Rows.ExtraPlainSaid :=
  OpenClaim.holds_of_wide 7 Tryd.f7 rfl rfl rfl rfl rfl rfl rfl ⟨rfl, rfl, rfl, rfl, rfl⟩ rfl rfl rfl rfl rfl (by kernel_rfl) Tryd.func7 (by kernel_rfl)
    (of_decide_eq_true (by kernel_rfl)) (by unfold Func.isWrapper; first | (rw [if_pos (by decide +kernel)]; kernel_rfl) | (rw [if_neg (by decide +kernel)]; exact ⟨rfl, rfl⟩))
    (fun os started H enc _ => lifted os started H enc)
end Go.Proofs.YtfhgkkdbkbbpkaaDoor.extraPlain
namespace Go.Proofs.YtfhgkkdbkbbpkaaDoor
theorem extraPlain_card : Rows.ExtraPlainCardSaid :=
  Claim7.holds_tied_plain_at .later [] _ _ _ _ extraPlain.over (fun _ h => by cases h) (by kernel_rfl) (fun _ h => by cases h) extraPlain_row_tie rfl ⟨rfl, rfl⟩ (by kernel_rfl) rfl
    (fun f fn hf hfn => by
      obtain rfl : f = 7 := Option.some.inj ((show Tryd.prog.funcNamed Rows.extraPlainRow.func = some 7 by kernel_rfl).symm.trans hf) |>.symm
      obtain rfl : fn = Tryd.f7 := (Option.some.inj (Tryd.func7.symm.trans hfn)).symm
      exact ⟨by kernel_rfl, fun j t ht => by
        rw [Tryd.params7] at ht
        have hm : t ∈ [24] := by simpa using Array.mem_of_getElem? ht
        have hall : ([24].all fun u => !Tryd.prog.wantsStandIn u) = true := by kernel_rfl
        exact (show Tryd.prog.wantsStandIn t = false by simpa using List.all_eq_true.1 hall t hm)⟩)
    (by kernel_rfl)
#print axioms extraPlain_card
end Go.Proofs.YtfhgkkdbkbbpkaaDoor
