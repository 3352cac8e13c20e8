/-
  Commands: the contract of from.
-/
import Derived.Test.YtbckbonffajmeaaGreatDoorSi
namespace Go.Proofs.YtbckbonffajmeaaGreatDoor
open Go.RowKit Go.Shelf Go.Maps
set_option linter.unusedVariables false
set_option linter.unusedSimpArgs false

def strN (l : List Int) : ByteArray := strL (l.map (fun z => UInt8.ofNat z.toNat))
theorem strN_nums (x : ByteArray) : strN (nums x) = x := by
  unfold strN strL nums
  rw [List.map_map]
  have : ((fun z : Int => UInt8.ofNat z.toNat) ∘ fun b : UInt8 => (b.toNat : Int)) = id := by
    funext b; simp
  rw [this]
  simp
/-- The person of an address. -/
def perB (s : ByteArray) : ByteArray := strN ((perZ (nums s)).getD [])
theorem per_ans {s x : ByteArray} {ok : Bool} (h : PerAns (nums s) x ok) : x = perB s ∧ ok = (perZ (nums s)).isSome := by
  obtain ⟨h1, h2⟩ := h
  exact ⟨by unfold perB; rw [← h2, strN_nums], h1⟩
theorem perB_size (s : ByteArray) : (perB s).size ≤ s.size := by
  unfold perB strN
  rw [strL_size, List.length_map]
  cases e : perZ (nums s) with
  | none => exact Nat.zero_le _
  | some x => have := per_len e; rw [nums_len] at this; exact Nat.le_of_eq this
def fromN : ByteArray := ⟨#[70, 82, 79, 77, 58]⟩
/-- MAIL. -/
def fromZ (s : SS) (rest : ByteArray) : SS × Int :=
  if s.greeted = false ∨ s.hasS = true then (s, 503)
  else if (pathZ rest fromN).2.2 = false ∨ ((perZ (nums (pathZ rest fromN).1)).isSome = false ∧ (pathZ rest fromN).1.size ≠ 0) ∨ (sizeZ (pathZ rest fromN).2.1).2 = false then (s, 501)
  else if s.size < (sizeZ (pathZ rest fromN).2.1).1 then (s, 552)
  else ({ s with hasS := true, sender := perB (pathZ rest fromN).1 }, 250)
set_option maxHeartbeats 16000000 in
set_option maxRecDepth 100000 in
theorem from_any (N : Nat) (mx : Int) (m : Sm) (s : SS) (w : World) (rest : ByteArray) (h : SG N mx w m s) (ha : Asc rest) (hr : rest.size ≤ 1000) :
    Calls Tryz.prog 97 #[.pointer (some ⟨m.g, 0, none⟩), .string rest] w fun e w' => e = .returned (.int .i64 (fromZ s rest).2) ∧ ∃ m', SvAt N w' m' (fromZ s rest).1 ∧ Mv m m' w w' := by
  obtain ⟨c0, c1, c2, c3, c4, c5, c6, c7, c8, c9, c10, c11⟩ := sv_cells h.at'
  have HS : Hid (SvAt N w m s) := h.at'
  obtain ⟨gr, hgr⟩ : ∃ b, s.greeted = b := ⟨_, rfl⟩
  obtain ⟨hs, hhs⟩ : ∃ b, s.hasS = b := ⟨_, rfl⟩
  rw [hgr] at c4
  rw [hhs] at c5
  by_cases p1 : gr = false ∨ hs = true
  · have HZ : Hid (fromZ s rest = (s, 503)) := by unfold Hid fromZ; rw [hgr, hhs, if_pos p1]
    clear h hgr hhs c0 c1 c2 c3 c6 c7 c8 c9 c10 c11
    cases gr with
    | false =>
      go_enter Tryz.func97, Tryz.ntmps97
      go_wp2
      go_ret
      exact ⟨by rw [HZ.out]; rfl, m, by rw [HZ.out]; exact HS.out, Mv.refl _ _⟩
    | true =>
      cases hs with
      | false => simp at p1
      | true =>
        go_enter Tryz.func97, Tryz.ntmps97
        go_wp2
        go_ret
        exact ⟨by rw [HZ.out]; rfl, m, by rw [HZ.out]; exact HS.out, Mv.refl _ _⟩
  obtain rfl : gr = true := by cases gr with | true => rfl | false => exact absurd (.inl rfl) p1
  obtain rfl : hs = false := by cases hs with | false => rfl | true => exact absurd (.inr rfl) p1
  have HF : Hid (fromZ s rest = if (pathZ rest fromN).2.2 = false ∨ ((perZ (nums (pathZ rest fromN).1)).isSome = false ∧ (pathZ rest fromN).1.size ≠ 0) ∨ (sizeZ (pathZ rest fromN).2.1).2 = false then (s, 501)
      else if s.size < (sizeZ (pathZ rest fromN).2.1).1 then (s, 552) else ({ s with hasS := true, sender := perB (pathZ rest fromN).1 }, 250)) := by
    unfold Hid fromZ; rw [hgr, hhs, if_neg p1]
  have HG : Hid (SG N mx w m s) := h
  have hpa := path_any rest fromN mx w (by omega) (by decide) ha (Asc.mem.2 (by decide)) h.gl.len
  obtain ⟨k1, k2, k3, k4⟩ := path_sub rest fromN ha
  obtain ⟨pp, hpp⟩ : ∃ p, pathZ rest fromN = p := ⟨_, rfl⟩
  obtain ⟨path, behind, found⟩ := pp
  rw [hpp] at hpa HF k1 k2 k3 k4
  simp only at hpa HF k1 k2 k3 k4
  have hper := fun V => person_any path V (by omega)
  have hsz := fun V hm => size_any behind mx V (by omega) k2 hm
  have hpz := perB_size path
  have hsi := h.at'.ok.size1
  obtain ⟨zz, hzz⟩ : ∃ p, sizeZ behind = p := ⟨_, rfl⟩
  obtain ⟨sz, right⟩ := zz
  rw [hzz] at HF
  simp only [hzz] at hsz HF
  clear h p1 hpp hgr hhs
  go_enter Tryz.func97, Tryz.ntmps97
  go_wp2_with fail
  refine hpa.mono ?_
  rintro e w1 ⟨rfl, q1, rfl⟩
  clear hpa
  go_wp2_with fail
  refine (hper _).mono ?_
  rintro e w2 ⟨x, ok, rfl, hb2, hans⟩
  obtain ⟨rfl, rfl⟩ := per_ans hans
  clear hper hans
  have hb3 : Below w.heap.size w w2 := (below_drewN (Below.refl w.heap.size w) q1).trans hb2
  obtain ⟨g2, v2⟩ := HG.out.below hb3
  have hsz2 := hsz w2 g2.gl.len
  have HG2 : Hid (SG N mx w2 m s ∧ Mv m m w w2) := ⟨g2, v2⟩
  clear hsz g2 v2 hb2 hb3
  obtain ⟨po, hpo⟩ : ∃ b, (perZ (nums path)).isSome = b := ⟨_, rfl⟩
  rw [hpo] at HF ⊢
  obtain ⟨px, hpx⟩ : ∃ b, perB path = b := ⟨_, rfl⟩
  rw [hpx] at HF hpz ⊢
  go_wp2_with fail
  refine hsz2.mono ?_
  rintro e w3 ⟨rfl, hb3⟩
  clear hsz2
  obtain ⟨g3, v3⟩ := HG2.out.1.below hb3
  have HG3 : Hid (SG N mx w3 m s ∧ Mv m m w w3) := ⟨g3, HG2.out.2.trans v3⟩
  obtain ⟨d0, d1, d2, d3, d4, d5, d6, d7, d8, d9, d10, d11⟩ := sv_cells g3.at'
  have f5 := g3.at'.blk.frozen 5
  have f6 := g3.at'.blk.frozen 6
  clear g3 v3 hb3 d0 d1 d3 d7 d8 d9 d10 d11 c0 c1 c2 c3 c4 c5 c6 c7 c8 c9 c10 c11
  cases found with
  | false =>
    have HE : Hid (fromZ s rest = (s, 501)) := by unfold Hid; rw [HF.out, if_pos (.inl rfl)]
    go_wp2
    go_ret
    exact ⟨by rw [HE.out]; rfl, m, by rw [HE.out]; exact HG3.out.1.at', HG3.out.2⟩
  | true =>
  have hcs : (po = false ∧ path.size ≠ 0) ∨ (po = true ∨ path.size = 0) := by
    by_cases e : path.size = 0
    · exact .inr (.inr e)
    · cases po
      · exact .inl ⟨rfl, e⟩
      · exact .inr (.inl rfl)
  rcases hcs with ⟨rfl, hp0⟩ | hcs
  · have HE : Hid (fromZ s rest = (s, 501)) := by unfold Hid; rw [HF.out, if_pos (.inr (.inl ⟨rfl, hp0⟩))]
    have he : path.toList.isEmpty = false := by rw [toList_emp]; simp [hp0]
    go_wp2
    go_ret
    exact ⟨by rw [HE.out]; rfl, m, by rw [HE.out]; exact HG3.out.1.at', HG3.out.2⟩
  cases right with
  | false =>
    have HE : Hid (fromZ s rest = (s, 501)) := by unfold Hid; rw [HF.out, if_pos (.inr (.inr rfl))]
    rcases hcs with rfl | hp0
    · go_wp2
      go_ret
      exact ⟨by rw [HE.out]; rfl, m, by rw [HE.out]; exact HG3.out.1.at', HG3.out.2⟩
    · have he : path = ⟨#[]⟩ := nums_inj (List.eq_nil_of_length_eq_zero (by rw [nums_len]; exact hp0))
      subst he
      cases po
      · go_wp2
        go_ret
        exact ⟨by rw [HE.out]; rfl, m, by rw [HE.out]; exact HG3.out.1.at', HG3.out.2⟩
      · go_wp2
        go_ret
        exact ⟨by rw [HE.out]; rfl, m, by rw [HE.out]; exact HG3.out.1.at', HG3.out.2⟩
  | true =>
  have HF2 : Hid (fromZ s rest = if s.size < sz then (s, 552) else ({ s with hasS := true, sender := px }, 250)) := by
    unfold Hid
    rw [HF.out, if_neg]
    intro q
    rcases q with q | ⟨q, q2⟩ | q
    · cases q
    · rcases hcs with e | e
      · rw [q] at e; cases e
      · exact q2 e
    · cases q
  obtain ⟨si, hsi'⟩ : ∃ x, s.size = x := ⟨_, rfl⟩
  rw [hsi'] at d2
  by_cases hgt : si < sz
  · have HE : Hid (fromZ s rest = (s, 552)) := by unfold Hid; rw [HF2.out, if_pos (by rw [hsi']; exact hgt)]
    rcases hcs with rfl | hp0
    · go_wp2
      go_ret
      exact ⟨by rw [HE.out]; rfl, m, by rw [HE.out]; exact HG3.out.1.at', HG3.out.2⟩
    · have he : path = ⟨#[]⟩ := nums_inj (List.eq_nil_of_length_eq_zero (by rw [nums_len]; exact hp0))
      subst he
      cases po
      · go_wp2
        go_ret
        exact ⟨by rw [HE.out]; rfl, m, by rw [HE.out]; exact HG3.out.1.at', HG3.out.2⟩
      · go_wp2
        go_ret
        exact ⟨by rw [HE.out]; rfl, m, by rw [HE.out]; exact HG3.out.1.at', HG3.out.2⟩
  have HE : Hid (fromZ s rest = ({ s with hasS := true, sender := px }, 250)) := by unfold Hid; rw [HF2.out, if_neg (by rw [hsi']; exact hgt)]
  have g3 := HG3.out.1.at'
  obtain ⟨a1, a2⟩ := g3.put (s' := { s with hasS := true }) 5 (.bool true) rfl rfl rfl rfl rfl ⟨g3.ok.host, g3.ok.size0, g3.ok.size1, g3.ok.takes0, g3.ok.takes1, g3.ok.sender, g3.ok.tos, g3.ok.tosz, g3.ok.line, g3.ok.len⟩
  obtain ⟨b1, b2⟩ := a1.put (s' := { s with hasS := true, sender := px }) 6 (.string px) rfl rfl rfl rfl rfl ⟨g3.ok.host, g3.ok.size0, g3.ok.size1, g3.ok.takes0, g3.ok.takes1, (by omega : px.size ≤ 2000), g3.ok.tos, g3.ok.tosz, g3.ok.line, g3.ok.len⟩
  have HX : Hid (SvAt N ((w3.setCell ⟨m.g, 5, none⟩ (.bool true)).setCell ⟨m.g, 6, none⟩ (.string px)) m { s with hasS := true, sender := px } ∧ Mv m m w ((w3.setCell ⟨m.g, 5, none⟩ (.bool true)).setCell ⟨m.g, 6, none⟩ (.string px))) := ⟨b1, HG3.out.2.trans (a2.trans b2)⟩
  clear g3 a1 a2 b1 b2
  rcases hcs with rfl | hp0
  · go_wp2
    go_ret
    exact ⟨by rw [HE.out]; rfl, m, by rw [HE.out]; exact HX.out.1, HX.out.2⟩
  · have he : path = ⟨#[]⟩ := nums_inj (List.eq_nil_of_length_eq_zero (by rw [nums_len]; exact hp0))
    subst he
    cases po
    · go_wp2
      go_ret
      exact ⟨by rw [HE.out]; rfl, m, by rw [HE.out]; exact HX.out.1, HX.out.2⟩
    · exact absurd hpo (by simp [perZ, nums])
end Go.Proofs.YtbckbonffajmeaaGreatDoor
