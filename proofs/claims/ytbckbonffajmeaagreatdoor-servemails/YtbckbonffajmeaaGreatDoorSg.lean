/-
  A session among the library's tables; replies: the contract of reply.
-/
import Derived.Test.YtbckbonffajmeaaGreatDoorSf
namespace Go.Proofs.YtbckbonffajmeaaGreatDoor
open Go.RowKit Go.Shelf Go.Maps
set_option linter.unusedVariables false
set_option linter.unusedSimpArgs false

def Tb (w : World) : Prop := Lib.TabIs Tryz.prog w "internal/strconv.uint64pow10" .u64 Lib.pow10Tab
theorem glob_pow : ∃ g, Tryz.prog.globalNamed "internal/strconv.uint64pow10" = some g ∧ g < 9 := ⟨2, by kernel_rfl, by decide⟩
/-- What lies of the library's own. -/
structure Gl (mx : Int) (w : World) : Prop where
  size : 9 ≤ w.heap.size
  len : w.cell? ⟨0, 0, none⟩ = some (.int .i64 mx)
  tab : Tb w
theorem Gl.keep {mx : Int} {w w' : World} (h : Gl mx w) (hz : w.heap.size ≤ w'.heap.size) (hk : ∀ k, k < 9 → w'.heap[k]? = w.heap[k]?) : Gl mx w' := by
  refine ⟨Nat.le_trans h.size hz, (World.cell?_of_block (hk 0 (by decide))).trans h.len, ?_⟩
  obtain ⟨g, hg, hlt⟩ := glob_pow
  have ht := h.tab
  unfold Tb Lib.TabIs World.var? at ht ⊢
  rw [hg] at ht ⊢
  simp only [Option.bind_some] at ht ⊢
  rw [hk g hlt]
  exact ht
theorem Gl.below {mx : Int} {w w' : World} (h : Gl mx w) (hb : Below w.heap.size w w') : Gl mx w' := h.keep hb.size (fun k hk => hb.block k (by have := h.size; omega))
/-- A session, and what lies of the library's own beside it. -/
structure SG (N : Nat) (mx : Int) (w : World) (m : Sm) (s : SS) : Prop where
  at' : SvAt N w m s
  gl : Gl mx w
  lo : ∀ k, sO m w k → 9 ≤ k
theorem SG.step {N : Nat} {mx : Int} {w w' : World} {m m' : Sm} {s s' : SS} (h : SG N mx w m s) (h' : SvAt N w' m' s') (hm : Mv m m' w w') : SG N mx w' m' s' :=
  ⟨h', h.gl.keep hm.tk.size (fun k hk => hm.tk.2.2.2.2 k (by have := h.gl.size; omega) (fun q => by have := h.lo k q; omega)), fun k q => by
    rcases hm.fresh k q with q | q
    · exact h.lo k q
    · exact Nat.le_trans h.gl.size q⟩
theorem SG.below {N : Nat} {mx : Int} {w w' : World} {m : Sm} {s : SS} (h : SG N mx w m s) (hb : Below w.heap.size w w') : SG N mx w' m s ∧ Mv m m w w' := by
  obtain ⟨h1, h2⟩ := h.at'.below hb
  exact ⟨h.step h1 h2, h2⟩
theorem grow_bel (w : World) (os : Array Obj) : Below w.heap.size w (Go.Sort.grow w os) := by
  refine ⟨rfl, rfl, rfl, by simp [Go.Sort.grow], fun k hk => ?_⟩
  simp only [Go.Sort.grow]
  rw [Array.getElem?_append_left hk]
theorem itoa_any (n : Int) (w : World) (h0 : 0 ≤ n) (h1 : n ≤ 100000) (hT : Tb w) : Calls Tryz.prog 66 #[.int .i64 n] w fun e w' => e = .returned (.string (strL (Lib.itoa n))) ∧ Below w.heap.size w w' := by
  refine (strconv_Itoa n (by omega) (by omega) w hT).mono ?_
  rintro e w' ⟨rfl, k, os, rfl⟩
  exact ⟨rfl, (below_drewN (Below.refl w.heap.size w) k).trans (grow_bel (w.drewN k) os)⟩
theorem itoa_len : ∀ c : Fin 600, (Lib.itoa (c.val : Int)).length ≤ 3 := by decide +kernel
theorem itoa_sz {n : Int} (h0 : 0 ≤ n) (h1 : n < 600) : (strL (Lib.itoa n)).size ≤ 3 := by
  have := itoa_len ⟨n.toNat, by omega⟩
  rw [strL_size]
  simpa [show ((n.toNat : Nat) : Int) = n by omega] using this
def saidZ (host : ByteArray) (c : Int) : ByteArray := if c = 220 ∨ c = 221 then host else if c < 400 then ⟨#[111, 107]⟩ else ⟨#[110, 111]⟩
/-- A reply. -/
def replyZ (host : ByteArray) (c : Int) : ByteArray := strL (Lib.itoa c) ++ ⟨#[32]⟩ ++ saidZ host c ++ ⟨#[13, 10]⟩
set_option maxHeartbeats 4000000 in
set_option maxRecDepth 100000 in
theorem reply_any (N : Nat) (mx : Int) (m : Sm) (s : SS) (w : World) (c : Int) (h : SG N mx w m s) (h0 : 0 ≤ c) (h1 : c < 600) : Calls Tryz.prog 39 #[.pointer (some ⟨m.g, 0, none⟩), .int .i64 c] w fun e w' => e = .returned (.string (replyZ s.host c)) ∧ Below w.heap.size w w' := by
  obtain ⟨c0, _⟩ := sv_cells h.at'
  have hit := itoa_any c w h0 (by omega) h.gl.tab
  have hiz := itoa_sz h0 h1
  have hhz := h.at'.ok.host
  obtain ⟨x, hx⟩ : ∃ x, strL (Lib.itoa c) = x := ⟨_, rfl⟩
  rw [hx] at hit hiz
  obtain ⟨host, hho⟩ : ∃ x, s.host = x := ⟨_, rfl⟩
  rw [hho] at c0 hhz ⊢
  have HZ : Hid (replyZ host c = x ++ ⟨#[32]⟩ ++ saidZ host c ++ ⟨#[13, 10]⟩) := by unfold Hid replyZ; rw [hx]
  clear hx h hho
  by_cases p1 : c = 220
  · have HS : Hid (saidZ host c = host) := by unfold Hid saidZ; rw [if_pos (.inl p1)]
    subst p1
    go_enter Tryz.func39, Tryz.ntmps39
    go_wp2_with fail
    refine hit.mono ?_
    rintro e w1 ⟨rfl, hb1⟩
    clear hit
    go_wp2
    go_ret
    exact ⟨by rw [HZ.out, HS.out]; rfl, hb1⟩
  · have p1' : (c == 220) = false := by simpa using p1
    by_cases p2 : c = 221
    · have HS : Hid (saidZ host c = host) := by unfold Hid saidZ; rw [if_pos (.inr p2)]
      subst p2
      go_enter Tryz.func39, Tryz.ntmps39
      go_wp2_with fail
      refine hit.mono ?_
      rintro e w1 ⟨rfl, hb1⟩
      clear hit
      go_wp2
      go_ret
      exact ⟨by rw [HZ.out, HS.out]; rfl, hb1⟩
    · have p2' : (c == 221) = false := by simpa using p2
      by_cases p3 : c < 400
      · have HS : Hid (saidZ host c = ⟨#[111, 107]⟩) := by unfold Hid saidZ; rw [if_neg (by rw [not_or]; exact ⟨p1, p2⟩), if_pos p3]
        go_enter Tryz.func39, Tryz.ntmps39
        go_wp2_with fail
        refine hit.mono ?_
        rintro e w1 ⟨rfl, hb1⟩
        clear hit
        go_wp2
        go_ret
        exact ⟨by rw [HZ.out, HS.out]; rfl, hb1⟩
      · have HS : Hid (saidZ host c = ⟨#[110, 111]⟩) := by unfold Hid saidZ; rw [if_neg (by rw [not_or]; exact ⟨p1, p2⟩), if_neg p3]
        go_enter Tryz.func39, Tryz.ntmps39
        go_wp2_with fail
        refine hit.mono ?_
        rintro e w1 ⟨rfl, hb1⟩
        clear hit
        go_wp2
        go_ret
        exact ⟨by rw [HZ.out, HS.out]; rfl, hb1⟩
end Go.Proofs.YtbckbonffajmeaaGreatDoor
