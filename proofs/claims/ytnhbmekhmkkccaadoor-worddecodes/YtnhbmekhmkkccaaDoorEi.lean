/-
  The iterator of Encode: the pieces that become one word each.
-/
import Derived.Test.YtnhbmekhmkkccaaDoorWm
namespace Go.Proofs.YtnhbmekhmkkccaaDoor
open Go.RowKit Go.Shelf
set_option linter.unusedVariables false
attribute [local go_sem] Oper.semAt_some

theorem row_off {W : World} {g off : Nat} {l : List Int} (h : Row W (some ⟨g, 0, none⟩) l) : Row W (some ⟨g, off, none⟩) (l.drop off) := by
  by_cases hn : l.length ≤ off
  · exact .inl (List.drop_eq_nil_of_le hn)
  · rcases h with rfl | ⟨b, o, e, h⟩
    · exact .inl (by simp)
    · simp at e
      obtain ⟨rfl, rfl⟩ := e
      refine .inr ⟨g, off, rfl, fun i hi => ?_⟩
      rw [List.length_drop] at hi
      have := h (off + i) (by omega)
      rw [Nat.zero_add] at this
      rw [this]; simp [List.getD_eq_getElem?_getD]
theorem chunk_fuel : ∀ (n m : Nat) (ps : List Int), (Ut.flat ps).length ≤ n → (Ut.flat ps).length ≤ m → Ut.AllPt ps → chunkN n (Ut.flat ps) = chunkN m (Ut.flat ps)
  | 0, m, ps, h, _, _ => by
    have : Ut.flat ps = [] := List.eq_nil_of_length_eq_zero (by omega)
    rw [this]; cases m <;> simp [chunkN]
  | n + 1, 0, ps, _, h, _ => by
    have : Ut.flat ps = [] := List.eq_nil_of_length_eq_zero (by omega)
    rw [this]; simp [chunkN]
  | n + 1, m + 1, ps, h, h', hps => by
    by_cases hne : Ut.flat ps = []
    · rw [hne]; simp [chunkN]
    · obtain ⟨qs, rs, rfl, h2, h3, h4⟩ := chunk_cut hps hne
      have e : Ut.flat (qs ++ rs) = Ut.flat qs ++ Ut.flat rs := Ut.flat_append qs rs
      have ed : (Ut.flat (qs ++ rs)).drop (Ut.flat qs).length = Ut.flat rs := by rw [e, List.drop_left]
      rw [chunkN, if_neg hne, chunkN, if_neg hne, h2, ed]
      rw [e, List.length_append] at h h'
      rw [chunk_fuel n m rs (by omega) (by omega) hps.right]
theorem chunk_step {ps : List Int} (hps : Ut.AllPt ps) (hne : Ut.flat ps ≠ []) : ∃ c rs, Ut.cutZ (Ut.flat ps) (min 45 (Ut.flat ps).length) = c ∧ chunks (Ut.flat ps) = (Ut.flat ps).take c :: chunks (Ut.flat rs) ∧ 0 < c ∧ c ≤ (Ut.flat ps).length ∧ Ut.AllPt rs ∧ (Ut.flat ps).drop c = Ut.flat rs := by
  obtain ⟨qs, rs, rfl, h2, h3, h4⟩ := chunk_cut hps hne
  have e : Ut.flat (qs ++ rs) = Ut.flat qs ++ Ut.flat rs := Ut.flat_append qs rs
  have ed : (Ut.flat (qs ++ rs)).drop (Ut.flat qs).length = Ut.flat rs := by rw [e, List.drop_left]
  refine ⟨_, rs, h2, ?_, h3, by rw [e, List.length_append]; omega, hps.right, ed⟩
  unfold chunks
  obtain ⟨k, hk⟩ : ∃ k, (Ut.flat (qs ++ rs)).length = k + 1 := ⟨(Ut.flat (qs ++ rs)).length - 1, by have := List.length_pos_iff.2 hne; omega⟩
  conv => lhs; rw [hk, chunkN, if_neg hne, h2, ed]
  rw [chunk_fuel k (Ut.flat rs).length rs (by rw [e, List.length_append] at hk; omega) (Nat.le_refl _) hps.right]
/-- The values that pieces hands on. -/
def sliceV (g : Nat) : Nat → Nat → List (List Int) → List Value
  | _, _, [] => []
  | off, cap, b :: bs => .slice (some ⟨g, off, none⟩) b.length cap :: sliceV g (off + b.length) (cap - b.length) bs
theorem sliceV_len (g : Nat) : ∀ (off cap : Nat) (bs : List (List Int)), (sliceV g off cap bs).length = bs.length
  | _, _, [] => rfl
  | off, cap, b :: bs => by rw [sliceV, List.length_cons, List.length_cons, sliceV_len]
def lenS : Value → Nat
  | .slice _ n _ => n
  | _ => 0
/-- What the iterator reads. -/
def Gp (Bs g cap : Nat) (l : List Int) (W : World) : Prop := W.heap[Bs]? = some (.cells #[.slice (some ⟨g, 0, none⟩) l.length cap] 31 (0, 0)) ∧ Row W (some ⟨g, 0, none⟩) l
set_option maxRecDepth 100000 in
theorem pieces_call (a : Option Addr) (len cap : Nat) (w : World) : Calls Tryd.prog 20 #[.slice a len cap] w fun e w' => e = .returned (.func (.func 42) #[] #[.pointer (some ⟨w.heap.size, 0, none⟩)]) ∧ w' = w.alloc (.cells #[.slice a len cap] 31) := by
  go_enter Tryd.func20, Tryd.ntmps20
  go_wp2
  go_ret
  exact ⟨rfl, rfl⟩
set_option maxRecDepth 100000 in
set_option maxHeartbeats 4000000 in
theorem pieces_iter (n : Nat) (hn : 1 ≤ n) (Bs g cap : Nat) (l : List Int) (hb : Byt l) (hv : validZ l = true) (hcap : l.length ≤ cap) (hmx : cap ≤ 9223372036854775807) : IterP n 42 Bs (sliceV g 0 cap (chunks l)) (Gp Bs g cap l) := by
  intro lp J hJG hJD hY W h0
  obtain ⟨ps0, hps0, hl0⟩ := valid_split hb hv
  have c0 : W.cell? ⟨Bs, 0, none⟩ = some (.slice (some ⟨g, 0, none⟩) l.length cap) := by rw [cell_of_row _ _ _ _ _ _ (hJG _ _ h0).1]; rfl
  refine callsIn_of_wp Tryd.func42 rfl trivial ?_ rfl
  simp only [Tryd.ntmps42, List.size_toArray, List.length_cons, List.length_nil, Nat.reduceAdd, Nat.reduceSub, Array.replicate_succ, Array.replicate_zero, List.push_toArray, List.append_toArray, List.nil_append, List.cons_append]
  gi_wp2
  clear c0
  gi_loopw [3, 4] (fun v x wr => ∃ (k off : Nat) (a : Option Addr) (ps : List Int), J k wr ∧ v = .slice a (Ut.flat ps).length (cap - off) ∧ (Ut.flat ps).length ≤ cap - off ∧ l.drop off = Ut.flat ps ∧ Ut.AllPt ps ∧ (Ut.flat ps ≠ [] → a = some ⟨g, off, none⟩) ∧ k ≤ (sliceV g 0 cap (chunks l)).length ∧ sliceV g off (cap - off) (chunks (Ut.flat ps)) = (sliceV g 0 cap (chunks l)).drop k) (fun v _ _ => lenS v)
  case atStart => exact ⟨0, 0, some ⟨g, 0, none⟩, ps0, h0, by rw [← hl0, Nat.sub_zero], by rw [← hl0]; omega, by rw [List.drop_zero]; exact hl0, hps0, fun _ => rfl, Nat.zero_le _, by rw [← hl0, Nat.sub_zero]; rfl⟩
  case round =>
    obtain ⟨k, off, a, ps, hj, rfl, hle, hdr, hps, ha, hk, hsl⟩ := hrel
    have HJ : Hid (J k wr) := hj
    have HY : Hid _ := hY
    have HG : Hid (Gp Bs g cap l wr) := hJG _ _ hj
    have HSL : Hid (sliceV g off (cap - off) (chunks (Ut.flat ps)) = (sliceV g 0 cap (chunks l)).drop k) := hsl
    have HD : Hid (l.drop off = Ut.flat ps) := hdr
    have HP : Hid (Ut.AllPt ps) := hps
    clear hj h0 hY hsl hdr hps hJG hl0 hb hv
    by_cases he : Ut.flat ps = []
    · have HK : Hid (k = (sliceV g 0 cap (chunks l)).length) := by
        have := congrArg List.length HSL.out
        rw [he, List.length_drop, sliceV_len] at this
        have e0 : chunks ([] : List Int) = [] := rfl
        rw [e0, List.length_nil] at this
        unfold Hid; omega
      have hl : (Ut.flat ps).length = 0 := by rw [he]; rfl
      clear he ha HSL
      rw [hl]
      clear hl hle
      gi_wp2
      go_end0
      exact ⟨⟨_, rfl⟩, by rw [← HK.out]; exact HJ.out⟩
    · obtain rfl := ha he
      obtain ⟨c, rs, hc, hch, hc0, hcl, hrs, hrd⟩ := chunk_step HP.out he
      have hrow : Row wr (some ⟨g, off, none⟩) (Ut.flat ps) := by rw [← HD.out]; exact row_off HG.out.2
      obtain ⟨len, hlen⟩ : ∃ len, (Ut.flat ps).length = len := ⟨_, rfl⟩
      have hcut := Ut.cut_yes (some ⟨g, off, none⟩) len (cap - off) 45 ps wr hlen HP.out (by omega) (by unfold maxLen; omega) hrow
      have hm0 : Ut.m0Z 45 len = min 45 len := by unfold Ut.m0Z; omega
      rw [hm0, ← hlen, hc, hlen] at hcut
      have hslv : (sliceV g 0 cap (chunks l)).drop k = .slice (some ⟨g, off, none⟩) c (cap - off) :: sliceV g (off + c) (cap - (off + c)) (chunks (Ut.flat rs)) := by
        rw [← HSL.out, hch, sliceV, List.length_take, Nat.min_eq_left hcl, Nat.sub_sub]
      have hx : (sliceV g 0 cap (chunks l))[k]? = some (.slice (some ⟨g, off, none⟩) c (cap - off)) := by rw [← List.head?_drop, hslv]; rfl
      have HSL2 : Hid (sliceV g (off + c) (cap - (off + c)) (chunks (Ut.flat rs)) = (sliceV g 0 cap (chunks l)).drop (k + 1)) := by unfold Hid; rw [← List.drop_drop, hslv]; rfl
      have HK : Hid (k + 1 ≤ (sliceV g 0 cap (chunks l)).length) := by
        unfold Hid
        rcases Nat.lt_or_ge k (sliceV g 0 cap (chunks l)).length with h | h
        · exact h
        · rw [List.getElem?_eq_none h] at hx; cases hx
      have HL2 : Hid ((Ut.flat rs).length = len - c) := by unfold Hid; rw [← hrd, List.length_drop, hlen]
      have HD2 : Hid (l.drop (off + c) = Ut.flat rs) := by unfold Hid; rw [← List.drop_drop, HD.out, hrd]
      have HRS : Hid (Ut.AllPt rs) := hrs
      obtain ⟨fn, tmps, assign, body, hy, hRd⟩ := HY.out k _ wr hx HJ.out
      rw [hlen] at hle hcl ⊢
      clear hc hch hrow hm0 hslv hx hrs hrd hlen he HSL HD HP HG HJ ha
      have k1 : (0 : Int) ≤ (c : Int) := by omega
      have k2 : (c : Int) ≤ ((cap - off : Nat) : Int) := by omega
      have k3 : (c : Int) ≤ (len : Int) := by omega
      have k4 : decide ((len : Int) > 0) = true := decide_eq_true (by omega)
      gi_wp2_with fail
      refine ⟨trivial, ?_⟩
      refine (callsIn_wide.2 hcut).mono ?_
      clear hcut
      rintro e w' ⟨rfl, rfl⟩
      gi_wp2
      refine hRd.mono ?_
      rintro e W3 ⟨rfl, hJ3⟩
      clear hy hRd
      gi_wp2
      go_roundw
      case rel => exact ⟨k + 1, off + c, if cap - off = c then some ⟨g, off, none⟩ else some ⟨g, off + c, none⟩, rs, hJ3, by rw [HL2.out, Nat.sub_sub], by have := HL2.out; omega, HD2.out, HRS.out, fun h => if_neg (by have := HL2.out; have := List.length_pos_iff.2 h; omega), HK.out, HSL2.out⟩
      case measure => simp [lenS]; omega
end Go.Proofs.YtnhbmekhmkkccaaDoor
