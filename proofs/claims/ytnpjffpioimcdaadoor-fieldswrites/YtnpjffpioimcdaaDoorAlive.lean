/-
  Write of one field without a name; what must come of fixed calls.
-/
import Derived.Test.YtnpjffpioimcdaaDoorParse
namespace Go.Proofs.YtnpjffpioimcdaaDoor
open Go.RowKit
set_option linter.unusedVariables false

set_option maxRecDepth 100000 in
set_option maxHeartbeats 4000000 in
theorem write_one (b c : Nat) (w : World) (h0 : w.cell? ⟨b, 0, none⟩ = some (.string ⟨#[]⟩)) (h1 : w.cell? ⟨b, 1, none⟩ = some (.string ⟨#[]⟩)) :
    Calls Tryd.prog 14 #[.slice (some ⟨b, 0, none⟩) 1 c] w fun e w' => e = .returned (.tuple #[.slice none 0 0, .int .i64 50]) ∧ Below w.heap.size w w' := by
  have hb : b < w.heap.size := World.block_lt_of_cell? w _ h0
  have hn : nameZ (nums (⟨#[]⟩ : ByteArray)) = false := by decide
  go_enter Tryd.func14, Tryd.ntmps14
  go_wp2
  go_loopw [15] (fun v wr => v = .int .i64 0 ∧ wr = (w.alloc (.cells #[.slice none 0 0] 22)).alloc (.cells #[.int .i64 0] 25)) (fun v _ => 1 - (intOf v).toNat)
  case atStart => exact ⟨rfl, rfl⟩
  case round =>
    obtain ⟨rfl, rfl⟩ := hrel
    go_wp2_with (go_at_call 28; refine (isName_any _ _ (by decide)).mono ?_; rintro e w' ⟨rfl, rfl⟩; rw [hn])
    go_returns
    exact ⟨rfl, ((((Below.refl _ w).alloc (Nat.le_refl _) _).alloc (by simp) _).alloc (by simp; omega) _)⟩

def alB : List Int := [83, 117, 98, 106, 101, 99, 116, 58, 32, 97, 13, 10, 32, 98, 13, 10, 13, 10, 120]
def alN : ByteArray := strOfNums [83, 117, 98, 106, 101, 99, 116]
def alS : HS := ⟨[], alN, [32, 97], 0⟩
def alT : HS := ⟨[], alN, [32, 97, 32, 98], 0⟩
theorem lines_al : linesF 0 alB = [(0, 10, true), (12, 2, true), (16, 0, true), (18, 1, false)] := by
  unfold alB
  have e1 : pairI [83, 117, 98, 106, 101, 99, 116, 58, 32, 97, 13, 10, 32, 98, 13, 10, 13, 10, 120] = 10 := by decide
  rw [linesF_pair 0 _ (by rw [e1]; decide), e1]
  have e2 : pairI [32, 98, 13, 10, 13, 10, 120] = 2 := by decide
  have e3 : pairI [13, 10, 120] = 0 := by decide
  have e4 : pairI [120] = -1 := by decide
  rw [show (List.drop ((10 : Int).toNat + 2) ([83, 117, 98, 106, 101, 99, 116, 58, 32, 97, 13, 10, 32, 98, 13, 10, 13, 10, 120] : List Int)) = [32, 98, 13, 10, 13, 10, 120] from rfl]
  rw [linesF_pair _ _ (by rw [e2]; decide), e2]
  rw [show (List.drop ((2 : Int).toNat + 2) ([32, 98, 13, 10, 13, 10, 120] : List Int)) = [13, 10, 120] from rfl]
  rw [linesF_pair _ _ (by rw [e3]; decide), e3]
  rw [show (List.drop ((0 : Int).toNat + 2) ([13, 10, 120] : List Int)) = [120] from rfl]
  rw [linesF_last _ _ (by rw [e4]; decide)]
  rfl
theorem nil_list : (⟨#[]⟩ : ByteArray).toList = [] := by rw [ByteArray.toList_eq]
theorem al_list : alN.toList ≠ [] := by unfold alN; rw [toList_str]; simp
theorem al_piece1 : pieceZ alB (0, 10, true) = [83, 117, 98, 106, 101, 99, 116, 58, 32, 97] := rfl
theorem al_piece2 : pieceZ alB (12, 2, true) = [32, 98] := rfl
theorem al_shut0 : shutB hs0 = true ∧ shutZ hs0 = hs0 := by
  constructor
  · simp [shutB, hs0]
  · rw [shutZ, if_pos]; exact nil_list
theorem al_begin0 : beginB hs0 [83, 117, 98, 106, 101, 99, 116, 58, 32, 97] = true := by decide
theorem al_step1 : stepR alB hs0 (0, 10, true) = some alS := by
  rw [stepR, al_piece1, if_neg (by simp), if_neg (by simp), if_neg (by simp), if_neg (by decide), if_pos ⟨al_shut0.1, al_begin0⟩]
  rw [beginZ, if_pos al_shut0.1, if_pos al_begin0, al_shut0.2]
  rfl
theorem al_step2 : stepR alB alS (12, 2, true) = some alT := by
  rw [stepR, al_piece2, if_neg (by simp), if_neg (by simp), if_neg (by simp), if_pos (by decide), if_neg (show ¬ alS.nm.toList = [] from al_list), goOnZ, if_neg (show ¬ alS.nm.toList = [] from al_list)]
  rfl
theorem al_value : valueZ (trimZ alT.val) = true := by decide
theorem al_shut : shutB alT = true ∧ shutZ alT = { alT with fs := [(alN, strOfNums [97, 32, 98])] } := by
  constructor
  · unfold shutB; rw [al_value]; simp [alT]
  · rw [shutZ, if_neg (show ¬ alT.nm.toList = [] from al_list), if_pos ⟨al_value, by simp [alT]⟩]; rfl
theorem parse_al : parseZ alB = ({ alT with fs := [(alN, strOfNums [97, 32, 98])] }, 18, (0, 0)) := by
  have h : parseL alB hs0 (linesF 0 alB) = _ := parse_stop (pre := [(0, 10, true), (12, 2, true)]) (x := (16, 0, true)) (s := alT) (by rw [lines_al]; exact ⟨[(18, 1, false)], rfl⟩) (by simp only [runL, al_step1, al_step2, Option.bind_some]) (by simp [stepR])
  rw [parseZ, h]
  rw [stopS, if_neg (by simp), if_pos rfl, stopN, if_pos ⟨rfl, rfl⟩, stopF, if_neg (by simp), if_pos rfl, if_pos al_shut.1, al_shut.2]
  rfl
theorem al_out : outC alB = 0 ∧ outP alB = 0 ∧ outN alB = 18 ∧ outL alB = [(alN, strOfNums [97, 32, 98])] := by
  have h : outC alB = 0 := by rw [outC, parse_al]
  refine ⟨h, ?_, ?_, ?_⟩
  · rw [outP, if_pos h]
  · rw [outN, if_pos h, parse_al]
  · rw [outL, if_pos h, parse_al]
theorem al_get : getZ (nums ⟨#[83, 85, 66, 74, 69, 67, 84]⟩) [(alN, strOfNums [97, 32, 98])] ⟨#[]⟩ 0 = (⟨#[97, 32, 98]⟩, 1) := by
  unfold getZ
  rw [if_pos (by unfold alN; rw [nums_str (by intro x hx; simp at hx; omega)]; decide), getZ]
  rfl

set_option maxRecDepth 100000 in
set_option maxHeartbeats 4000000 in
theorem alive_any (w : World) (hm : Mx w) : Calls Tryd.prog 9 #[] w fun e w' => e = .returned (.bool true) ∧ Below w.heap.size w w' := by
  have kc := conv_const w #[.int .u8 83, .int .u8 117, .int .u8 98, .int .u8 106, .int .u8 101, .int .u8 99, .int .u8 116, .int .u8 58, .int .u8 32, .int .u8 97, .int .u8 13, .int .u8 10, .int .u8 32, .int .u8 98, .int .u8 13, .int .u8 10, .int .u8 13, .int .u8 10, .int .u8 120] 19 19 w.heap.size rfl
  have hP := parse_any (some ⟨w.heap.size, 0, none⟩) 19 19 alB (w.alloc (.cells #[.int .u8 83, .int .u8 117, .int .u8 98, .int .u8 106, .int .u8 101, .int .u8 99, .int .u8 116, .int .u8 58, .int .u8 32, .int .u8 97, .int .u8 13, .int .u8 10, .int .u8 32, .int .u8 98, .int .u8 13, .int .u8 10, .int .u8 13, .int .u8 10, .int .u8 120] 5 (19, 20))) rfl (by omega) (by omega) (by simp) (by omega) (by intro x hx; simp [alB] at hx; omega) (row_mark w alB (19, 20)) (hm.keep (keep w _))
  rw [al_out.1, al_out.2.1, al_out.2.2.1, al_out.2.2.2] at hP
  unfold faultV at hP
  go_enter Tryd.func9, Tryd.ntmps9
  go_wp2_with fail
  refine hP.mono ?_
  clear hP kc
  rintro e w1 ⟨vf, rfl, ho, hb1⟩
  obtain ⟨af, capf, rfl, hfr⟩ := ownF_view ho
  have HB1 : Hid (Below w.heap.size w w1) := (keep w _).trans (hb1.mono (by simp))
  have hsw : w.heap.size ≤ w1.heap.size := HB1.out.size
  have HFR : Hid (FRow w1 af [(alN, strOfNums [97, 32, 98])]) := hfr
  clear ho hb1 hfr
  go_wp2_with fail
  have hG := get_any af 1 capf ⟨#[83, 85, 66, 74, 69, 67, 84]⟩ [(alN, strOfNums [97, 32, 98])] (w1.alloc (.cells #[.int .i64 0, .int .i64 0] 27)) rfl (by omega) (HFR.out.below (keep w1 _)) (by intro f hf; simp at hf; subst hf; decide)
  rw [al_get] at hG
  refine hG.mono ?_
  clear hG
  rintro e w2 ⟨rfl, hb2⟩
  have HB2 : Hid (Below w.heap.size w w2) := (HB1.out.alloc hsw _).trans (hb2.mono (by simp; omega))
  have hs2 : w1.heap.size + 1 ≤ w2.heap.size := by have := hb2.size; simpa using this
  have d0 : w2.cell? ⟨w1.heap.size, 0, none⟩ = some (.int .i64 0) := by rw [hb2.cell (p := ⟨w1.heap.size, 0, none⟩) (by simp)]; rw [World.cell?_alloc_mark]; rfl
  have d1 : w2.cell? ⟨w1.heap.size, 1, none⟩ = some (.int .i64 0) := by rw [hb2.cell (p := ⟨w1.heap.size, 1, none⟩) (by simp)]; rw [World.cell?_alloc_mark]; rfl
  clear hb2
  go_wp2_with fail
  refine (write_one w2.heap.size 1 _ (by rw [World.cell?_alloc_mark]; rfl) (by rw [World.cell?_alloc_mark]; rfl)).mono ?_
  rintro e w3 ⟨rfl, hb3⟩
  have e0 : w3.cell? ⟨w1.heap.size, 0, none⟩ = some (.int .i64 0) := by rw [hb3.cell (p := ⟨w1.heap.size, 0, none⟩) (by simp; omega)]; exact ((keep w2 _).cell (p := ⟨w1.heap.size, 0, none⟩) (by simp; omega)).trans d0
  have e1 : w3.cell? ⟨w1.heap.size, 1, none⟩ = some (.int .i64 0) := by rw [hb3.cell (p := ⟨w1.heap.size, 1, none⟩) (by simp; omega)]; exact ((keep w2 _).cell (p := ⟨w1.heap.size, 1, none⟩) (by simp; omega)).trans d1
  have HB3 : Hid (Below w.heap.size w w3) := (HB2.out.alloc HB2.out.size _).trans (hb3.mono (by have := HB2.out.size; simp; omega))
  clear hb3 d0 d1
  go_wp2
  go_ret
  exact ⟨rfl, HB3.out⟩
end Go.Proofs.YtnpjffpioimcdaaDoor
