/-
  Kind: where its parameters lie.
-/
import Derived.Test.YtmdkmedlncfcbaaGreatDoorWa
namespace Go.Proofs.YtmdkmedlncfcbaaGreatDoor
open Go.RowKit
set_option linter.unusedVariables false
set_option linter.unusedSimpArgs false

def KPost2 (w : World) (fs : List (ByteArray × ByteArray)) (e : Ending) (w' : World) : Prop :=
  ∃ ty sub a cap ks c, e = .returned (.tuple #[Kd.kindV ty sub a ks.length cap, .int .i64 c]) ∧ KAt w' ty sub a ks ∧ Below w.heap.size w w' ∧ ((c = 0 ∧ knd fs = some (knOf ty sub ks)) ∨ (c ≠ 0 ∧ c = errK fs ∧ knd fs = none)) ∧ ∀ x, a = some x → ks ≠ [] → w.heap.size ≤ x.block
theorem kind_ret2 {w W : World} {R : Nat} {ty sub : ByteArray} {a : Option Addr} {n cap : Nat} {ks fs : List (ByteArray × ByteArray)} {c : Int} {A : Act} {x y z : Value} (hn : ks.length = n) (hR : W.heap[R]? = some (.cells #[x, y, z] 39 (0, 0))) (hb : Below w.heap.size w W) (hRw : w.heap.size ≤ R) (hk : KAt W ty sub a ks) (hne : ∀ x, a = some x → ks ≠ [] → x.block ≠ R ∧ w.heap.size ≤ x.block)
    (hans : (c = 0 ∧ knd fs = some (knOf ty sub ks)) ∨ (c ≠ 0 ∧ c = errK fs ∧ knd fs = none)) (hd : A.defers = []) (h2 : A.tmps[2]?.getD undef = .pointer (some ⟨R, 0, none⟩)) (h3 : A.tmps[3]?.getD undef = .int .i64 c) :
    bodyPost Tryz.prog Tryz.f18 (KPost2 w fs) .ret A (Kd.finW W R ty sub (.slice a n cap)) := by
  obtain ⟨c0, c1, c2⟩ := Kd.fin_cells hR ty sub (.slice a n cap)
  have hfb := Kd.fin_below hb hRw ty sub (.slice a n cap)
  have hfr := Kd.fin_row hR ty sub (.slice a n cap) hk.1 (fun x h1 h2 => (hne x h1 h2).1)
  subst hn
  refine bodyPost_ret (v := .tuple #[Kd.kindV ty sub a ks.length cap, .int .i64 c]) ?_ hd ⟨ty, sub, a, cap, ks, c, rfl, ⟨hfr, hk.2⟩, hfb, hans, fun x h1 h2 => (hne x h1 h2).2⟩
  simp [results, Tryz.results18, go_sem, c0, c1, c2, h2, h3, Kd.kindV]
set_option maxHeartbeats 4000000 in
set_option maxRecDepth 100000 in
theorem kind_any2 (a : Option Addr) (n c : Nat) (vb vp : Value) (fs : List (ByteArray × ByteArray)) (w : World) (hn : fs.length = n) (hr : FRow w a fs) (hf : FitF fs) (hvb : vb.oneCell' = true) (hvp : vp.oneCell' = true) :
    Calls Tryz.prog 18 #[partV (.slice a n c) vb vp] w (KPost2 w fs) := by
  have hk0 := keep w (.cells #[.slice a n c, vb, vp] 28)
  have hk1 := keep (w.alloc (.cells #[.slice a n c, vb, vp] 28)) (.cells #[.string ⟨#[]⟩, .string ⟨#[]⟩, .slice none 0 0] 39)
  have hk : Below w.heap.size w ((w.alloc (.cells #[.slice a n c, vb, vp] 28)).alloc (.cells #[.string ⟨#[]⟩, .string ⟨#[]⟩, .slice none 0 0] 39)) := hk0.trans (hk1.mono (by simp))
  have hR0 : ((w.alloc (.cells #[.slice a n c, vb, vp] 28)).alloc (.cells #[.string ⟨#[]⟩, .string ⟨#[]⟩, .slice none 0 0] 39)).heap[w.heap.size + 1]? = some (.cells #[.string ⟨#[]⟩, .string ⟨#[]⟩, .slice none 0 0] 39 (0, 0)) := by
    have := heap_alloc_last (w.alloc (.cells #[.slice a n c, vb, vp] 28)) (.cells #[.string ⟨#[]⟩, .string ⟨#[]⟩, .slice none 0 0] 39)
    rwa [World.size_alloc] at this
  have hP0 : ((w.alloc (.cells #[.slice a n c, vb, vp] 28)).alloc (.cells #[.string ⟨#[]⟩, .string ⟨#[]⟩, .slice none 0 0] 39)).heap[w.heap.size]? = some (.cells #[.slice a n c, vb, vp] 28 (0, 0)) := by
    rw [Below.heap_alloc _ _ _ (by simp)]; exact heap_alloc_last w _
  obtain ⟨p0, _, _⟩ := cells3 hP0
  have hg := get_any a n c ctB fs _ hn (by have := hf.1; omega) (hr.below hk) (fun f h => by have := (hf.2 f h).1; omega)
  obtain ⟨hgz1, hgz2⟩ := get_fit (nums ctB) fs ⟨#[]⟩ 0 (fun f h => (hf.2 f h).2) (by decide)
  have HK : Hid (knd fs = if (getZ (nums ctB) fs ⟨#[]⟩ 0).2 = 0 then some ([116, 101, 120, 116], [112, 108, 97, 105, 110], []) else if (getZ (nums ctB) fs ⟨#[]⟩ 0).2 = 1 then Kd.readR (nums (getZ (nums ctB) fs ⟨#[]⟩ 0).1) else none) := rfl
  have HE : Hid (errK fs = if (getZ (nums ctB) fs ⟨#[]⟩ 0).2 = 1 then 70 else 81) := rfl
  obtain ⟨v, hv⟩ : ∃ v, (getZ (nums ctB) fs ⟨#[]⟩ 0).1 = v := ⟨_, rfl⟩
  obtain ⟨g, hgg⟩ : ∃ g, (getZ (nums ctB) fs ⟨#[]⟩ 0).2 = g := ⟨_, rfl⟩
  rw [hv] at hg HK hgz1
  rw [hgg] at hg HK HE hgz2
  unfold ctB at hg
  have hf1 := hf.1
  clear hv hgg hk0 hk1 hf
  go_enter Tryz.func18, Tryz.ntmps18
  unfold partV
  go_wp2_with fail
  refine hg.mono ?_
  rintro e w1 ⟨rfl, hb1⟩
  have HR1 : Hid (w1.heap[w.heap.size + 1]? = some (.cells #[.string ⟨#[]⟩, .string ⟨#[]⟩, .slice none 0 0] 39 (0, 0))) := (hb1.block _ (by simp)).trans hR0
  have HB1 : Hid (Below w.heap.size w w1) := hk.trans (hb1.mono (by simp; omega))
  obtain ⟨r0, r1, r2⟩ := cells3 HR1.out
  have f0 := free3 HR1.out 0
  have f1 := free3 HR1.out 1
  have f2 := free3 HR1.out 2
  clear hg hb1 hk hR0 hP0 p0
  by_cases h0 : g = 0
  · subst h0
    have HN : Hid (knd fs = some (knOf ⟨#[116, 101, 120, 116]⟩ ⟨#[112, 108, 97, 105, 110]⟩ [])) := HK.out
    go_wp2
    (try simp only [Exit.inBlock, Exit.then])
    exact kind_ret2 rfl HR1.out HB1.out (by omega) (kat_nil w1 (by decide) (by decide)) (fun x hx => by cases hx) (.inl ⟨rfl, HN.out⟩) rfl rfl rfl
  · by_cases h1 : g = 1
    · subst h1
      have HN : Hid (knd fs = Kd.readR (nums v)) := HK.out
      have HEE : Hid (errK fs = 70) := HE.out
      have hrd := Kd.read_any v w1 (by omega)
      clear r0 r1 r2 f0 f1 f2
      go_wp2_with fail
      refine hrd.mono ?_
      rintro e w2 ⟨ty, sub, ka, kc, ks, c2, rfl, hkf, hkb, hks, hb2, hans⟩
      have hlt := (Array.getElem?_eq_some_iff.1 HR1.out).1
      have HR2 : Hid (w2.heap[w.heap.size + 1]? = some (.cells #[.string ⟨#[]⟩, .string ⟨#[]⟩, .slice none 0 0] 39 (0, 0))) := (hb2.block _ hlt).trans HR1.out
      have HB2 : Hid (Below w.heap.size w w2) := HB1.out.trans (hb2.mono HB1.out.size)
      have HANS : Hid ((c2 = 0 ∧ knd fs = some (knOf ty sub ks)) ∨ (c2 ≠ 0 ∧ c2 = errK fs ∧ knd fs = none)) := by
        rcases hans with ⟨h1, h2, _⟩ | ⟨h1, h2⟩
        · exact .inr ⟨by omega, by rw [h2, HEE.out], by rw [HN.out, h1]⟩
        · exact .inl ⟨h2, by rw [HN.out, h1]; rfl⟩
      have hkl : ks.length ≤ 1000 := by
        rcases hans with ⟨_, _, _, _, rfl⟩ | ⟨h1, h2⟩
        · simp
        · have := read_len h1
          simp [Kd.numsP] at this; omega
      have HKA : Hid (KAt w2 ty sub ka ks) := ⟨hkf, hks.1, hks.2.1, hks.2.2, hkl⟩
      have HKB : Hid (∀ x, ka = some x → ks ≠ [] → x.block ≠ w.heap.size + 1 ∧ w.heap.size ≤ x.block) := fun x hx _ => by have := hkb x hx; omega
      obtain ⟨r0, r1, r2⟩ := cells3 HR2.out
      have f0 := free3 HR2.out 0
      have f1 := free3 HR2.out 1
      have f2 := free3 HR2.out 2
      obtain ⟨kl, hkle⟩ : ∃ kl, ks.length = kl := ⟨_, rfl⟩
      unfold Kd.kindV
      rw [hkle]
      have HKL : Hid (ks.length = kl) := hkle
      clear hrd hkf hkb hks hb2 hans hkl hkle
      go_wp2
      (try simp only [Exit.inBlock, Exit.then])
      exact kind_ret2 HKL.out HR2.out HB2.out (by omega) HKA.out HKB.out HANS.out rfl rfl rfl
    · have HN : Hid (knd fs = none) := by unfold Hid; rw [HK.out, if_neg h0, if_neg h1]
      have HEE : Hid (errK fs = 81) := by unfold Hid; rw [HE.out, if_neg h1]
      have e0 : ((g : Int) == 0) = false := by rw [beq_eq_false_iff_ne]; omega
      have e1 : ((g : Int) == 1) = false := by rw [beq_eq_false_iff_ne]; omega
      clear h0 h1
      go_wp2
      (try simp only [Exit.inBlock, Exit.then])
      exact kind_ret2 rfl HR1.out HB1.out (by omega) (kat_nil w1 (by decide) (by decide)) (fun x hx => by cases hx) (.inr ⟨by decide, HEE.out.symm, HN.out⟩) rfl rfl rfl
end Go.Proofs.YtmdkmedlncfcbaaGreatDoor
