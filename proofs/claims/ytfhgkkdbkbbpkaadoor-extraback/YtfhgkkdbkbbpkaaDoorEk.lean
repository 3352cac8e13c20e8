/-
  What must come of fixed calls: the contract of alive.
-/
import Derived.Test.YtfhgkkdbkbbpkaaDoorEj
import Derived.Lib.SlBytesConst
namespace Go.Proofs.YtfhgkkdbkbbpkaaDoor
open Go.RowKit Go.Maps
set_option linter.unusedVariables false
set_option linter.unusedSimpArgs false

def alF : List (ByteArray × ByteArray) := [(⟨#[110, 97, 109, 101, 42, 49]⟩, ⟨#[98]⟩), (⟨#[110, 97, 109, 101, 42, 48, 42]⟩, ⟨#[117, 116, 102, 45, 56, 39, 39, 97, 37, 50, 48]⟩)]
def alL : List Pc := [([110, 97, 109, 101], 1, [98], false), ([110, 97, 109, 101], 0, [117, 116, 102, 45, 56, 39, 39, 97, 37, 50, 48], true)]
theorem al_right : rightZ (nums ⟨#[97]⟩) (nums ⟨#[98]⟩) (numsP alF) = true := by decide +kernel
theorem al_gather : gatherZ (numsP alF) [] = some alL := by decide +kernel
theorem al_join : JoinR alL alF (numsP alF) [] [([110, 97, 109, 101], [97, 32, 98])] := by
  have e : numsP alF = [([110, 97, 109, 101, 42, 49], [98]), ([110, 97, 109, 101, 42, 48, 42], [117, 116, 102, 45, 56, 39, 39, 97, 37, 50, 48])] := by decide +kernel
  rw [e]
  have p1 : pieceZ [110, 97, 109, 101, 42, 49] = ([110, 97, 109, 101], 1, false, true) := by decide +kernel
  have p2 : pieceZ [110, 97, 109, 101, 42, 48, 42] = ([110, 97, 109, 101], 0, true, true) := by decide +kernel
  have h2 : JoinR alL alF [([110, 97, 109, 101, 42, 48, 42], [117, 116, 102, 45, 56, 39, 39, 97, 37, 50, 48])] [[110, 97, 109, 101]] [] :=
    .skip _ _ _ _ (by simp only [p2]) (by simp only [p2]; decide +kernel) (.nil _)
  have := JoinR.join (L := alL) (fs := alF) ([110, 97, 109, 101, 42, 49], [98]) [([110, 97, 109, 101, 42, 48, 42], [117, 116, 102, 45, 56, 39, 39, 97, 37, 50, 48])] [] [] [97, 32, 98] [97, 32, 98] (by simp only [p1]) (by simp only [p1]; decide +kernel) (by simp only [p1]; decide +kernel) (by simp only [p1]; decide +kernel) (by simp only [p1]; decide +kernel) (by intro p hp; simp at hp; rcases hp with rfl | rfl | rfl <;> decide) (by decide +kernel) (by decide) (by simp only [p1]; exact h2)
  simpa only [p1] using this
theorem nil_right : rightZ (nums ⟨#[]⟩) (nums ⟨#[]⟩) (numsP []) = false := by decide +kernel
theorem al_code : strOfNums (codeL [97, 32, 98]) = ⟨#[97, 37, 50, 48, 98]⟩ := by decide +kernel
theorem conv_const (X : World) (C : Array Value) (n c g : Nat) (hg : X.heap.size = g) :
    (convert 31 31 (.slice (some ⟨g, 0, none⟩) n c)).run Tryd.prog (X.alloc (.cells C 5)) = .ok (.slice (some ⟨g, 0, none⟩) n c) (X.alloc (.cells C 5 (C.size, C.size + 1))) := by
  subst hg; exact Lib.run_convert_bytes_const X 31 5 C n c Tryd.underlying31 Tryd.underlying5
theorem row_const (w : World) (l : List Int) (k : Nat × Nat) : Row (w.alloc (.cells (l.map (Value.int .u8)).toArray 5 k)) (some ⟨w.heap.size, 0, none⟩) l := by
  refine .inr ⟨w.heap.size, 0, rfl, fun i hi => ?_⟩
  rw [Nat.zero_add]
  have hb := (MapKept.heap_alloc w (.cells (l.map (Value.int .u8)).toArray 5 k)).1
  unfold World.cell?
  rw [hb]
  simp [List.getD_eq_getElem?_getD, List.getElem?_eq_getElem hi]
set_option maxRecDepth 100000 in
set_option maxHeartbeats 16000000 in
theorem alive_any (w : World) : Calls Tryd.prog 9 #[] w fun e w' => e = .returned (.bool true) ∧ Below w.heap.size w w' := by
  go_enter Tryd.func9, Tryd.ntmps9
  go_wp2_with fail
  have hX : ((w.alloc (.cells #[.string ⟨#[110, 97, 109, 101, 42, 49]⟩, .string ⟨#[98]⟩, .string ⟨#[110, 97, 109, 101, 42, 48, 42]⟩, .string ⟨#[117, 116, 102, 45, 56, 39, 39, 97, 37, 50, 48]⟩] 37)).alloc (.cells #[.string ⟨#[97]⟩, .string ⟨#[98]⟩, .slice (some ⟨w.heap.size, 0, none⟩) 2 2] 24)).heap[w.heap.size]? = some (.cells #[.string ⟨#[110, 97, 109, 101, 42, 49]⟩, .string ⟨#[98]⟩, .string ⟨#[110, 97, 109, 101, 42, 48, 42]⟩, .string ⟨#[117, 116, 102, 45, 56, 39, 39, 97, 37, 50, 48]⟩] 37) := by
    rw [(MapKept.heap_alloc _ _).2 _ (by simp)]
    exact (MapKept.heap_alloc w _).1
  have hF : FRow ((w.alloc (.cells #[.string ⟨#[110, 97, 109, 101, 42, 49]⟩, .string ⟨#[98]⟩, .string ⟨#[110, 97, 109, 101, 42, 48, 42]⟩, .string ⟨#[117, 116, 102, 45, 56, 39, 39, 97, 37, 50, 48]⟩] 37)).alloc (.cells #[.string ⟨#[97]⟩, .string ⟨#[98]⟩, .slice (some ⟨w.heap.size, 0, none⟩) 2 2] 24)) (some ⟨w.heap.size, 0, none⟩) alF := by
    refine .inr ⟨w.heap.size, 0, rfl, fun i f hf => ?_⟩
    match i, hf with
    | 0, hf => simp [alF] at hf; subst hf; exact ⟨cell_of hX rfl, cell_of hX rfl⟩
    | 1, hf => simp [alF] at hf; subst hf; exact ⟨cell_of hX rfl, cell_of hX rfl⟩
    | (i + 2), hf => simp [alF] at hf
  refine (join_ok ⟨#[97]⟩ ⟨#[98]⟩ (some ⟨w.heap.size, 0, none⟩) 2 2 alF alL _ _ rfl hF (by decide) (by decide) (by intro f hf; simp [alF] at hf; rcases hf with rfl | rfl <;> decide) al_right al_gather al_join).mono ?_
  rintro e w1 ⟨v, gs, rfl, hV, hgs, hb1⟩
  clear hX hF
  have HB1 : Hid (Below w.heap.size w w1) := ((keep w _).alloc (by simp) _).trans (hb1.mono (by simp; omega))
  obtain ⟨⟨g1, g2⟩, hg⟩ : ∃ g, gs = [g] := by
    match gs, hgs with
    | [g], _ => exact ⟨g, rfl⟩
    | [], h => simp [numsP] at h
    | _ :: _ :: _, h => simp [numsP] at h
  subst hg
  simp only [numsP, List.map_cons, List.map_nil, List.cons.injEq, Prod.mk.injEq, and_true] at hgs
  obtain ⟨e1, e2⟩ := hgs
  obtain rfl : g1 = ⟨#[110, 97, 109, 101]⟩ := nums_inj (by rw [e1]; rfl)
  obtain rfl : g2 = ⟨#[97, 32, 98]⟩ := nums_inj (by rw [e2]; rfl)
  obtain ⟨va, vc, rfl, hr1⟩ := ownF_view hV
  rcases hr1 with h | ⟨b, off, rfl, h⟩
  · cases h
  obtain ⟨c0, c1⟩ := h 0 _ rfl
  simp only [Nat.zero_mul, Nat.add_zero] at c0 c1
  have hbl := World.block_lt_of_cell? w1 _ c0
  clear h hV hb1 e1 e2
  go_wp2_with fail
  have k1 := keep w1 (.cells #[.string ⟨#[97]⟩, .string ⟨#[98]⟩, .slice (some ⟨b, off, none⟩) 1 vc] 24)
  refine (join_bad ⟨#[]⟩ ⟨#[]⟩ none 0 0 [] _ rfl (.inl rfl) (by decide) (by decide) (by intro f hf; cases hf) nil_right).mono ?_
  rintro e w2 ⟨rfl, hb2⟩
  unfold kindV
  have x2 := hb2.size
  have x3 : w1.heap.size < w2.heap.size := by simp at x2; omega
  have HB2 : Hid (Below w.heap.size w w2) := (HB1.out.alloc HB1.out.size _).trans (hb2.mono (by have := HB1.out.size; simp; omega))
  have d0 : w2.cell? ⟨b, off, none⟩ = some (.string ⟨#[110, 97, 109, 101]⟩) := (hb2.cell (p := ⟨b, off, none⟩) (by simp; omega)).trans ((k1.cell (p := ⟨b, off, none⟩) hbl).trans c0)
  have d1 : w2.cell? ⟨b, off + 1, none⟩ = some (.string ⟨#[97, 32, 98]⟩) := (hb2.cell (p := ⟨b, off + 1, none⟩) (by simp; omega)).trans ((k1.cell (p := ⟨b, off + 1, none⟩) hbl).trans c1)
  have e2 : w2.cell? ⟨w1.heap.size, 2, none⟩ = some (.slice (some ⟨b, off, none⟩) 1 vc) := by
    rw [hb2.cell (p := ⟨w1.heap.size, 2, none⟩) (by simp), World.cell?_alloc_mark]; rfl
  have k2 := keep w2 (.cells #[.string ⟨#[]⟩, .string ⟨#[]⟩, .slice none 0 0] 24)
  have f0 : (w2.alloc (.cells #[.string ⟨#[]⟩, .string ⟨#[]⟩, .slice none 0 0] 24)).cell? ⟨b, off, none⟩ = some (.string ⟨#[110, 97, 109, 101]⟩) := (k2.cell (p := ⟨b, off, none⟩) (by dsimp only; omega)).trans d0
  have f1 : (w2.alloc (.cells #[.string ⟨#[]⟩, .string ⟨#[]⟩, .slice none 0 0] 24)).cell? ⟨b, off + 1, none⟩ = some (.string ⟨#[97, 32, 98]⟩) := (k2.cell (p := ⟨b, off + 1, none⟩) (by dsimp only; omega)).trans d1
  have f2 : (w2.alloc (.cells #[.string ⟨#[]⟩, .string ⟨#[]⟩, .slice none 0 0] 24)).cell? ⟨w1.heap.size, 2, none⟩ = some (.slice (some ⟨b, off, none⟩) 1 vc) := (k2.cell (p := ⟨w1.heap.size, 2, none⟩) x3).trans e2
  clear hb2 k1 k2 c0 c1 d0 d1 e2
  have hcv := conv_const (w2.alloc (.cells #[.string ⟨#[]⟩, .string ⟨#[]⟩, .slice none 0 0] 24)) #[.int .u8 97, .int .u8 32, .int .u8 98] 3 3 (w2.heap.size + 1) (by simp)
  have hrc := row_const (w2.alloc (.cells #[.string ⟨#[]⟩, .string ⟨#[]⟩, .slice none 0 0] 24)) [97, 32, 98] (3, 4)
  have hcd := code_any (some ⟨w2.heap.size + 1, 0, none⟩) 3 3 [97, 32, 98] _ rfl (by intro x hx; simp at hx; omega) (by decide) (by decide) (by unfold maxLen; decide) (by have := hrc; simpa using this)
  rw [al_code] at hcd
  have hkz : Below w.heap.size w ((w2.alloc (.cells #[.string ⟨#[]⟩, .string ⟨#[]⟩, .slice none 0 0] 24)).alloc (.cells #[.int .u8 97, .int .u8 32, .int .u8 98] 5 (3, 4))) := (HB2.out.alloc HB2.out.size _).alloc (by have := HB2.out.size; simp; omega) _
  clear hrc
  go_wp2_with fail
  refine hcd.mono ?_
  rintro e w3 ⟨rfl, hb3⟩
  go_wp2
  go_ret
  exact ⟨rfl, hkz.trans (hb3.mono (by have := hkz.size; omega))⟩
end Go.Proofs.YtfhgkkdbkbbpkaaDoor
