/-
  The path behind a name, and the words behind it: the contracts of pathOf, words and sizeOf.
-/
import Derived.Test.YtbckbonffajmeaaGreatDoorSb
import Derived.Test.YtbckbonffajmeaaGreatDoorGn
namespace Go.Proofs.YtbckbonffajmeaaGreatDoor
open Go.RowKit Go.Shelf
set_option linter.unusedVariables false
set_option linter.unusedSimpArgs false

/-- ASCII alone. -/
def Asc (s : ByteArray) : Prop := ∀ (j : Nat) (b : UInt8), s.data.toList[j]? = some b → b.toNat < 128
theorem Asc.mem {s : ByteArray} : Asc s ↔ ∀ b ∈ s.data.toList, b.toNat < 128 :=
  ⟨fun h b hb => by obtain ⟨j, hj⟩ := List.getElem?_of_mem hb; exact h j b hj, fun h j b hj => h b (List.mem_of_getElem? hj)⟩
theorem asc_extract {s : ByteArray} (h : Asc s) (a b : Nat) : Asc (s.extract a b) := by
  rw [Asc.mem] at h ⊢
  intro x hx
  rw [ByteArray.data_extract, Array.toList_extract] at hx
  exact h x (List.mem_of_mem_drop (List.mem_of_mem_take hx))
def strL (l : List UInt8) : ByteArray := ⟨l.toArray⟩
/-- What stands between < and > behind a name. -/
def pathZ (rest name : ByteArray) : ByteArray × ByteArray × Bool :=
  if rest.size < name.size ∨ Lib.equalFold (rest.extract 0 name.size).data.toList name.data.toList = false then (⟨#[]⟩, ⟨#[]⟩, false)
  else (strL (Lib.cut (Lib.trimPrefix (rest.extract name.size rest.size).data.toList [60]) [62]).1, strL (Lib.cut (Lib.trimPrefix (rest.extract name.size rest.size).data.toList [60]) [62]).2.1,
    Lib.hasPrefix (rest.extract name.size rest.size).data.toList [60] && (Lib.cut (Lib.trimPrefix (rest.extract name.size rest.size).data.toList [60]) [62]).2.2)
set_option maxHeartbeats 8000000 in
set_option maxRecDepth 100000 in
theorem path_any (rest name : ByteArray) (m : Int) (w : World) (hs : rest.size ≤ 100000) (hn : name.size ≤ 100) (ha : Asc rest) (hna : Asc name) (hm : w.cell? ⟨0, 0, none⟩ = some (.int .i64 m)) :
    Calls Tryz.prog 122 #[.string rest, .string name] w fun e w' => e = .returned (.tuple #[.string (pathZ rest name).1, .string (pathZ rest name).2.1, .bool (pathZ rest name).2.2]) ∧ ∃ q, w' = w.drewN q := by
  by_cases h1 : rest.size < name.size
  · have HZ : Hid (pathZ rest name = (⟨#[]⟩, ⟨#[]⟩, false)) := by unfold Hid pathZ; rw [if_pos (.inl h1)]
    have hd : decide ((rest.size : Int) < (name.size : Int)) = true := by simp; omega
    go_enter Tryz.func122, Tryz.ntmps122
    go_wp2
    refine bodyPost_ret (v := .tuple #[.string ⟨#[]⟩, .string ⟨#[]⟩, .bool false]) (by simp [results, Tryz.results122, go_sem]) rfl ⟨by rw [HZ.out], 0, rfl⟩
  have hd : decide ((rest.size : Int) < (name.size : Int)) = false := by simp; omega
  have k1 : (name.size : Int) ≤ (rest.size : Int) := by omega
  have k2 : (0 : Int) ≤ (name.size : Int) := by omega
  have hz1 : (rest.extract 0 name.size).size ≤ 100000 := by simp; omega
  have hef := strings_EqualFold (rest.extract 0 name.size) name w (by omega) (asc_extract ha _ _) hna
  obtain ⟨eb, heb⟩ : ∃ b, Lib.equalFold (rest.extract 0 name.size).data.toList name.data.toList = b := ⟨_, rfl⟩
  rw [heb] at hef
  cases eb with
  | false =>
    have HZ : Hid (pathZ rest name = (⟨#[]⟩, ⟨#[]⟩, false)) := by unfold Hid pathZ; rw [if_pos (.inr heb)]
    clear hz1
    go_enter Tryz.func122, Tryz.ntmps122
    go_wp2_with fail
    refine hef.mono ?_
    rintro e w1 ⟨rfl, rfl⟩
    clear hef heb
    go_wp2
    refine bodyPost_ret (v := .tuple #[.string ⟨#[]⟩, .string ⟨#[]⟩, .bool false]) (by simp [results, Tryz.results122, go_sem]) rfl ⟨by rw [HZ.out], 0, rfl⟩
  | true =>
    obtain ⟨r, hr⟩ : ∃ r, rest.extract name.size rest.size = r := ⟨_, rfl⟩
    have hrz : r.size ≤ 100000 := by rw [← hr]; simp; omega
    have HZ : Hid (pathZ rest name = (strL (Lib.cut (Lib.trimPrefix r.data.toList [60]) [62]).1, strL (Lib.cut (Lib.trimPrefix r.data.toList [60]) [62]).2.1, Lib.hasPrefix r.data.toList [60] && (Lib.cut (Lib.trimPrefix r.data.toList [60]) [62]).2.2)) := by
      unfold Hid pathZ; rw [if_neg (by rw [not_or]; exact ⟨h1, by rw [heb]; decide⟩), hr]
    have hcp := strings_CutPrefix r ⟨#[60]⟩ w
    obtain ⟨i, hi⟩ : ∃ i, (⟨(Lib.trimPrefix r.data.toList [60]).toArray⟩ : ByteArray) = i := ⟨_, rfl⟩
    have hiz : i.size ≤ 100000 := by
      rw [← hi]
      have : (Lib.trimPrefix r.data.toList [60]).length ≤ r.data.toList.length := by
        unfold Lib.trimPrefix; split
        · simp
        · exact Nat.le_refl _
      simp only [ByteArray.size] at hrz ⊢
      simp only [List.size_toArray]
      have h2 : r.data.toList.length = r.data.size := Array.length_toList
      omega
    have hil : i.data.toList = Lib.trimPrefix r.data.toList [60] := by rw [← hi]
    have hct := strings_Cut i ⟨#[62]⟩ m w (by omega) hm
    change Calls _ _ _ _ (fun e w' => e = .returned (.tuple #[.string ⟨(Lib.trimPrefix r.data.toList [60]).toArray⟩, .bool (Lib.hasPrefix r.data.toList [60])]) ∧ w' = w) at hcp
    rw [hi] at hcp
    change Calls _ _ _ _ (fun e w' => e = .returned (.tuple #[.string ⟨(Lib.cut i.data.toList [62]).1.toArray⟩, .string ⟨(Lib.cut i.data.toList [62]).2.1.toArray⟩, .bool (Lib.cut i.data.toList [62]).2.2]) ∧ ∃ n, w' = w.drewN n) at hct
    rw [hil] at hct
    obtain ⟨ob, hob⟩ : ∃ b, Lib.hasPrefix r.data.toList [60] = b := ⟨_, rfl⟩
    obtain ⟨x1, hx1⟩ : ∃ x, (⟨(Lib.cut (Lib.trimPrefix r.data.toList [60]) [62]).1.toArray⟩ : ByteArray) = x := ⟨_, rfl⟩
    obtain ⟨x2, hx2⟩ : ∃ x, (⟨(Lib.cut (Lib.trimPrefix r.data.toList [60]) [62]).2.1.toArray⟩ : ByteArray) = x := ⟨_, rfl⟩
    obtain ⟨cb, hcb⟩ : ∃ b, (Lib.cut (Lib.trimPrefix r.data.toList [60]) [62]).2.2 = b := ⟨_, rfl⟩
    have HZ2 : Hid (pathZ rest name = (x1, x2, ob && cb)) := by unfold Hid; rw [HZ.out, ← hx1, ← hx2, ← hob, ← hcb]; rfl
    rw [hob] at hcp
    rw [hx1, hx2, hcb] at hct
    clear hz1 hi hil hiz hrz hob hx1 hx2 hcb HZ
    go_enter Tryz.func122, Tryz.ntmps122
    go_wp2_with fail
    refine hef.mono ?_
    rintro e w1 ⟨rfl, rfl⟩
    clear hef heb
    go_wp2_with fail
    refine hcp.mono ?_
    rintro e w2 ⟨rfl, rfl⟩
    clear hcp hr
    go_wp2_with fail
    refine hct.mono ?_
    rintro e w3 ⟨rfl, q, rfl⟩
    clear hct
    cases ob with
    | true =>
      go_wp2
      refine bodyPost_ret (v := .tuple #[.string x1, .string x2, .bool cb]) (by simp [results, Tryz.results122, go_sem]) rfl ⟨by rw [HZ2.out]; rfl, q, rfl⟩
    | false =>
      go_wp2
      refine bodyPost_ret (v := .tuple #[.string x1, .string x2, .bool false]) (by simp [results, Tryz.results122, go_sem]) rfl ⟨by rw [HZ2.out]; rfl, q, rfl⟩
end Go.Proofs.YtbckbonffajmeaaGreatDoor
