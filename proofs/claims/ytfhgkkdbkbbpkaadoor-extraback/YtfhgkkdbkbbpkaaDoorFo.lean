/-
  What Split made, Join joins as it was.
-/
import Derived.Test.YtfhgkkdbkbbpkaaDoorFn
namespace Go.Proofs.YtfhgkkdbkbbpkaaDoor
open Go.RowKit
set_option linter.unusedVariables false
set_option linter.unusedSimpArgs false

theorem left_in {L : List Pc} {done : List (List Int)} {x : List Int} (h : x ∈ done) : leftZ L done x = 0 := by unfold leftZ; rw [if_pos h]
theorem left_out {L : List Pc} {done : List (List Int)} {x : List Int} (h : x ∉ done) : leftZ L done x = cntZ L x := by unfold leftZ; rw [if_neg h]
theorem skip_pieces {L : List Pc} {F : List (ByteArray × ByteArray)} {nm : List Int} (h42 : 42 ∉ nm) {rest : List (List Int × List Int)} {done : List (List Int)} {out : List (List Int × List Int)} (hd : nm ∈ done) (hr : JoinR L F rest done out) :
    ∀ (cs : List (List Int)) (i : Nat), i + cs.length ≤ 100 → JoinR L F (piecesL nm i cs ++ rest) done out
  | [], _, _ => hr
  | c :: r, i, h => by
    simp only [List.length_cons] at h
    have hp := piece_at h42 (by omega : i < 100)
    refine .skip (pieceL nm i c) (piecesL nm (i + 1) r ++ rest) done out ?_ ?_ (skip_pieces h42 hd hr r (i + 1) (by omega))
    · simp only [pieceL]; rw [hp]
    · simp only [pieceL]; rw [hp]; exact left_in hd
theorem join_step {L : List Pc} {F : List (ByteArray × ByteArray)} {p : List Int × List Int} {r out : List (List Int × List Int)} {done : List (List Int)} {b t pts : List Int} {n : Int} {c : Bool} (hb : pieceZ p.1 = (b, n, c, true)) (h0 : leftZ L done b ≠ 0) (hg : (getZ b F).2 = false) (hl : leftZ L done b = (rowZ L b).length)
    (ha : allZ (rowZ L b) = some t) (hp : Cs.Ut.AllPt pts) (ht : t = Cs.Ut.flat pts) (hz : t.length ≤ 4000) (hr : JoinR L F r (b :: done) out) : JoinR L F (p :: r) done ((b, t) :: out) := by
  have := JoinR.join (L := L) (fs := F) p r done out t pts (by rw [hb]) (by rw [hb]; exact h0) (by rw [hb]; exact hg) (by rw [hb]; exact hl) (by rw [hb]; exact ha) hp ht hz (by rw [hb]; exact hr)
  rw [hb] at this
  exact this
def OkT (L : List Pc) (F : List (ByteArray × ByteArray)) (t : Tr) : Prop := (∀ n, lookZ L t.1 n = lookZ (entZ t.2.2) t.1 n) ∧ cntZ L t.1 = (entZ t.2.2).length ∧ (entZ t.2.2 ≠ [] → (getZ t.1 F).2 = false)
theorem join_T {L : List Pc} {F : List (ByteArray × ByteArray)} : ∀ (T : List Tr) (done : List (List Int)), (∀ t ∈ T, Sh t) → (T.map (·.1)).Nodup → (∀ t ∈ T, t.1 ∉ done) → (∀ t ∈ T, OkT L F t) →
    JoinR L F (T.flatMap fun t => t.2.2) done (T.map fun t => (t.1, Cs.Ut.flat t.2.1))
  | [], done, _, _, _, _ => .nil done
  | t :: r, done, hs, hn, hd, hk => by
    simp only [List.map_cons, List.nodup_cons] at hn
    have ht := hs t (by simp)
    obtain ⟨o1, o2, o3⟩ := hk t (by simp)
    have hdt := hd t (by simp)
    have hrs : ∀ q ∈ r, Sh q := fun q hq => hs q (by simp [hq])
    have hkr : ∀ q ∈ r, OkT L F q := fun q hq => hk q (by simp [hq])
    have hdr : ∀ q ∈ r, q.1 ∉ t.1 :: done := fun q hq e => by
      rcases List.mem_cons.1 e with e | e
      · exact hn.1 (List.mem_map.2 ⟨q, hq, e⟩)
      · exact hd q (by simp [hq]) e
    rw [List.flatMap_cons, List.map_cons]
    obtain ⟨h42, hne, hps, hlen, h | h | ⟨hpn, hl, h⟩⟩ := ht
    · rw [h]
      exact .keep (t.1, Cs.Ut.flat t.2.1) _ done _ (by rw [piece_none h42]) (join_T r done hrs hn.2 (fun q hq => hd q (by simp [hq])) hkr)
    · have he : entZ t.2.2 = [(t.1, -1, utfP ++ codeL (Cs.Ut.flat t.2.1), true)] := by rw [h, ent_one h42]
      have hrow : rowZ L t.1 = [(utfP ++ codeL (Cs.Ut.flat t.2.1), true)] := by
        rw [row_congr o1, he]
        unfold rowZ
        simp [lookZ]
      have hp := piece_one h42
      rw [h]
      refine join_step (n := -1) (c := true) hp (by rw [left_out hdt, o2, he]; simp) (o3 (by rw [he]; simp)) (by rw [left_out hdt, o2, he, hrow]; rfl) (by rw [hrow]; exact all_one hps) hps rfl (by omega) ?_
      exact join_T r (t.1 :: done) hrs hn.2 hdr hkr
    · have he : entZ t.2.2 = pcM t.1 0 (chunksZ t.2.1) := by rw [h, ent_pieces h42 _ _ (by omega)]
      have hrow : rowZ L t.1 = rowM 0 (chunksZ t.2.1) := by rw [row_congr o1, he, row_pieces _ hl]
      have hcn : chunksZ t.2.1 ≠ [] := by rw [chunks_cons hpn]; simp
      have hal := all_rows hcn (chunks_pts hps)
      rw [chunks_join] at hal
      have hlen0 : leftZ L done t.1 = (rowZ L t.1).length := by rw [left_out hdt, o2, he, hrow, pcM_len, rowM_len]
      have hne0 : leftZ L done t.1 ≠ 0 := by
        rw [left_out hdt, o2, he, pcM_len]
        intro e
        exact hcn (List.eq_nil_of_length_eq_zero e)
      have hget : (getZ t.1 F).2 = false := o3 (by rw [he]; intro e; have := congrArg List.length e; rw [pcM_len] at this; exact hcn (List.eq_nil_of_length_eq_zero this))
      rw [h]
      cases hc : chunksZ t.2.1 with
      | nil => exact absurd hc hcn
      | cons c cs =>
        rw [hc] at hl
        simp only [List.length_cons] at hl
        refine join_step (n := ((0 : Nat) : Int)) (c := true) (by simp only [pieceL]; exact piece_at h42 (by omega)) hne0 hget hlen0 (by rw [hrow]; exact hal) hps rfl (by omega) ?_
        exact skip_pieces h42 (by simp) (join_T r (t.1 :: done) hrs hn.2 hdr hkr) cs 1 (by omega)
theorem nodup_inj : ∀ {T : List Tr} {s t : Tr}, (T.map (·.1)).Nodup → s ∈ T → t ∈ T → s.1 = t.1 → s = t
  | [], s, t, _, h, _, _ => by cases h
  | x :: r, s, t, hn, hs, ht, e => by
    simp only [List.map_cons, List.nodup_cons] at hn
    rcases List.mem_cons.1 hs with hs' | hs' <;> rcases List.mem_cons.1 ht with ht' | ht'
    · rw [hs', ht']
    · exact absurd (List.mem_map.2 ⟨t, ht', by rw [← e, hs']⟩) hn.1
    · exact absurd (List.mem_map.2 ⟨s, hs', by rw [e, ht']⟩) hn.1
    · exact nodup_inj hn.2 hs' ht' e
theorem get_no {nm : List Int} : ∀ {F : List (ByteArray × ByteArray)}, (∀ f ∈ F, nums f.1 ≠ nm) → (getZ nm F).2 = false
  | [], _ => rfl
  | f :: r, h => by
    simp only [getZ]
    rw [if_neg (h f (by simp))]
    exact get_no (fun g hg => h g (by simp [hg]))
theorem pieces_42 {nm : List Int} : ∀ (cs : List (List Int)) (i : Nat), ∀ p ∈ piecesL nm i cs, 42 ∈ p.1
  | [], _, p, h => by cases h
  | c :: r, i, p, h => by
    simp only [piecesL, List.mem_cons] at h
    rcases h with rfl | h
    · simp [pieceL]
    · exact pieces_42 r (i + 1) p h
theorem rightL_nodup : ∀ {ps : List (List Int × List Int)} {seen : List (List Int)}, rightL seen ps = true → (ps.map (·.1)).Nodup ∧ ∀ p ∈ ps, p.1 ∉ seen
  | [], _, _ => ⟨List.nodup_nil, fun p h => (by cases h)⟩
  | q :: r, seen, h => by
    simp only [rightL, Bool.and_eq_true] at h
    obtain ⟨h1, h2⟩ := rightL_nodup h.2
    have hq : q.1 ∉ seen := by have := h.1.1.1; simpa using this
    refine ⟨?_, fun p hp => ?_⟩
    · simp only [List.map_cons, List.nodup_cons]
      refine ⟨fun hm => ?_, h1⟩
      obtain ⟨p, hp, e⟩ := List.mem_map.1 hm
      exact h2 p hp (by rw [e]; simp)
    · rcases List.mem_cons.1 hp with rfl | hp
      · exact hq
      · exact fun e => h2 p hp (by simp [e])
theorem split_T : ∀ {qs : List (List Int × List Int)} {l : List (List Int × List Int)}, splitZ qs = some l → ∃ T : List Tr, T.map (fun t => (t.1, t.2.1)) = qs ∧ l = T.flatMap (fun t => t.2.2) ∧ ∀ t ∈ T, partedZ t.1 t.2.1 = some t.2.2
  | [], l, h => by simp only [splitZ, Option.some.injEq] at h; subst h; exact ⟨[], rfl, rfl, fun t h => (by cases h)⟩
  | q :: r, l, h => by
    simp only [splitZ] at h
    cases hp : partedZ q.1 q.2 with
    | none => rw [hp] at h; cases h
    | some g =>
      rw [hp] at h
      simp only [Option.bind_some] at h
      cases hr : splitZ r with
      | none => rw [hr] at h; cases h
      | some y =>
        rw [hr] at h
        simp only [Option.map_some, Option.some.injEq] at h
        obtain ⟨T, h1, h2, h3⟩ := split_T hr
        refine ⟨(q.1, q.2, g) :: T, by simp [h1], by rw [← h, h2]; rfl, fun t ht => ?_⟩
        rcases List.mem_cons.1 ht with rfl | ht
        · exact hp
        · exact h3 t ht
theorem parted_shape {nm ps : List Int} {g : List (List Int × List Int)} (h : partedZ nm ps = some g) : g = [(nm, Cs.Ut.flat ps)] ∨ g = [(nm ++ [42], utfP ++ codeL (Cs.Ut.flat ps))] ∨ (ps ≠ [] ∧ (chunksZ ps).length ≤ 100 ∧ g = piecesL nm 0 (chunksZ ps)) := by
  unfold partedZ at h
  split at h
  · cases h; exact .inl rfl
  · rename_i hst
    split at h
    · cases h
    · split at h
      · cases h; exact .inr (.inl rfl)
      · split at h
        · cases h
        · cases h
          refine .inr (.inr ⟨?_, by omega, rfl⟩)
          rintro rfl
          exact hst (by decide)
theorem back_join {ty sub : ByteArray} {fs gs : List (ByteArray × ByteArray)} {qs l : List (List Int × List Int)} (hz : SplitsP ty sub fs) (hq : PtsOf fs qs) (hl : splitZ qs = some l) (hs : ∀ f ∈ fs, 42 ∉ nums f.1) (hg : numsP gs = l) :
    ∃ L, gatherZ (numsP gs) [] = some L ∧ JoinR L gs (numsP gs) [] (numsP fs) := by
  obtain ⟨T, h1, h2, h3⟩ := split_T hl
  have hr := (rightZ_parts hz.2.2).2.2.2
  have hnm : T.map (·.1) = (numsP fs).map (·.1) := by
    have e1 : T.map (·.1) = qs.map (·.1) := by rw [← h1, List.map_map]; rfl
    have e2 : (numsP fs).map (·.1) = qs.map (·.1) := by rw [hq.1, List.map_map]; rfl
    rw [e1, e2]
  have hnd : (T.map (·.1)).Nodup := by
    have := (rightL_nodup hr).1
    have e : (numsP (bareF fs)).map (·.1) = (numsP fs).map (·.1) := by simp [numsP, bareF]
    rw [hnm, ← e]; exact this
  have hout : T.map (fun t => (t.1, Cs.Ut.flat t.2.1)) = numsP fs := by
    rw [hq.1, ← h1, List.map_map]; rfl
  have hsh : ∀ t ∈ T, Sh t := fun t ht => by
    have hm : (t.1, Cs.Ut.flat t.2.1) ∈ numsP fs := by rw [← hout]; exact List.mem_map.2 ⟨t, ht, rfl⟩
    obtain ⟨f, hf, e⟩ := List.mem_map.1 hm
    simp only [Prod.mk.injEq] at e
    have hm2 : (nums f.1, nums (⟨#[]⟩ : ByteArray)) ∈ numsP (bareF fs) := List.mem_map.2 ⟨(f.1, ⟨#[]⟩), List.mem_map.2 ⟨f, hf, rfl⟩, rfl⟩
    have hn2 := (rightL_mem hr _ hm2).1
    simp only at hn2
    refine ⟨by rw [← e.1]; exact hs f hf, ?_, ?_, ?_, parted_shape (h3 t ht)⟩
    · rw [← e.1]
      intro q
      rw [q] at hn2
      revert hn2; decide
    · have : (t.1, t.2.1) ∈ qs := by rw [← h1]; exact List.mem_map.2 ⟨t, ht, rfl⟩
      exact hq.2 _ this
    · rw [← e.2, nums_len]; exact (hz.2.1 f hf).1
  have hga := gather_T T [] hsh hnd (fun t _ p hp => by cases hp)
  rw [List.nil_append, ← h2, ← hg] at hga
  refine ⟨_, hga, ?_⟩
  have hj := join_T (L := T.flatMap fun t => entZ t.2.2) (F := gs) T [] hsh hnd (fun t _ h => by cases h) (fun t ht => ?_)
  · rw [← h2, ← hg, hout] at hj
    exact hj
  · obtain ⟨o1, o2⟩ := look_T hsh hnd t ht
    refine ⟨o1, o2, fun hne => get_no fun f hf e => ?_⟩
    have hm : (nums f.1, nums f.2) ∈ T.flatMap fun t => t.2.2 := by rw [← h2, ← hg]; exact List.mem_map.2 ⟨f, hf, rfl⟩
    obtain ⟨s, hsT, hsm⟩ := List.mem_flatMap.1 hm
    have h42 := (hsh t ht).1
    obtain ⟨s42, _, _, _, h | h | ⟨_, _, h⟩⟩ := hsh s hsT
    · rw [h] at hsm
      simp only [List.mem_singleton, Prod.mk.injEq] at hsm
      have : s = t := nodup_inj hnd hsT ht (by rw [← hsm.1, e])
      subst this
      exact hne (by rw [h]; exact ent_kept s42)
    · rw [h] at hsm
      simp only [List.mem_singleton, Prod.mk.injEq] at hsm
      exact h42 (by rw [← e, hsm.1]; simp)
    · rw [h] at hsm
      exact h42 (by rw [← e]; exact pieces_42 _ _ _ hsm)
end Go.Proofs.YtfhgkkdbkbbpkaaDoor
