/-
  The plain mathematics of reading what was written.
-/
import Derived.Test.YtnhbmekhmkkccaaDoorBDecode
namespace Go.Proofs.YtnhbmekhmkkccaaDoor.Bt
open Go.RowKit
set_option linter.unusedVariables false

theorem crlf_ne {c : UInt8} (r : List UInt8) (h : c ≠ 13) : crlf (c :: r) = false := by
  unfold crlf; split
  · rename_i h'; simp at h'; exact absurd h'.1 h
  · rfl
/-- A sign. -/
theorem sgn_facts (v : Int) (h0 : 0 ≤ v) (h1 : v < 64) : valZ (sgn v.toNat) = v ∧ 0 ≤ sgn v.toNat ∧ sgn v.toNat < 256 ∧ sgn v.toNat ≠ 61 ∧ sgn v.toNat ≠ 13 := by
  have h := val_sgn_all ⟨v.toNat, by omega⟩
  have e : ((v.toNat : Nat) : Int) = v := by omega
  simp only [e] at h
  exact ⟨h.1, h.2.1, h.2.2.1, h.2.2.2.1, h.2.2.2.2.1⟩
def B (l : List Int) : List UInt8 := l.map fun n => UInt8.ofNat n.toNat
theorem byte_back {x : Int} (h0 : 0 ≤ x) (h1 : x < 256) : ((UInt8.ofNat x.toNat).toNat : Int) = x := by
  simp only [UInt8.toNat_ofNat']; omega
theorem byte_ne13 {x : Int} (h0 : 0 ≤ x) (h1 : x < 256) (h : x ≠ 13) : UInt8.ofNat x.toNat ≠ 13 := by
  intro e
  have := congrArg UInt8.toNat e
  simp only [UInt8.toNat_ofNat'] at this
  have h13 : (13 : UInt8).toNat = 13 := rfl
  rw [h13] at this
  omega
theorem scan_byte (i x : Int) (r : List Int) (s : Rs) (h0 : 0 ≤ x) (h1 : x < 256) (h : x ≠ 13) :
    scanU i (B (x :: r)) s = match takeZ s x i with | .inl f => .inl f | .inr s' => scanU (i + 1) (B r) s' := by
  show scanU i (UInt8.ofNat x.toNat :: B r) s = _
  rw [scan_no (crlf_ne _ (byte_ne13 h0 h1 h)), byte_back h0 h1]
  rfl
/-- A sign ahead, in a reader that holds c of them, not three. -/
theorem scan_sign (i v : Int) (r : List Int) (s s' : Rs) (h0 : 0 ≤ v) (h1 : v < 64) (ht : takeZ s (sgn v.toNat) i = .inr s') : scanU i (B (sgn v.toNat :: r)) s = scanU (i + 1) (B r) s' := by
  obtain ⟨a, b, c, d, e⟩ := sgn_facts v h0 h1
  rw [scan_byte i _ r s b c e, ht]
theorem scan_pad (i : Int) (r : List Int) (s s' : Rs) (ht : takeZ s 61 i = .inr s') : scanU i (B (61 :: r)) s = scanU (i + 1) (B r) s' := by
  rw [scan_byte i 61 r s (by decide) (by decide) (by decide), ht]
theorem t0 (out : List Int) (i v : Int) (h0 : 0 ≤ v) (h1 : v < 64) : takeZ (fresh out false) (sgn v.toNat) i = .inr { out := out, dg := v, p0 := i, p1 := 0, p2 := 0, p3 := 0, cnt := 1, pads := 0, cl := false } := by
  obtain ⟨a, b, c, d, e⟩ := sgn_facts v h0 h1
  unfold takeZ
  rw [if_neg (by omega), if_neg (by simp [fresh]), if_neg d, if_neg (by simp [fresh]), if_pos (by rfl), a]
  simp [fresh]
theorem t1 (s : Rs) (i v : Int) (h0 : 0 ≤ v) (h1 : v < 64) (hc : s.cnt = 1) (hp : s.pads = 0) (hcl : s.cl = false) : takeZ s (sgn v.toNat) i = .inr { out := s.out, dg := s.dg * 64 + v, p0 := s.p0, p1 := i, p2 := s.p2, p3 := s.p3, cnt := 2, pads := 0, cl := false } := by
  obtain ⟨a, b, c, d, e⟩ := sgn_facts v h0 h1
  unfold takeZ
  rw [if_neg (by omega), if_neg (by simp [hcl]), if_neg d, if_neg (by omega), if_neg (by omega), if_pos hc, a]
theorem t2 (s : Rs) (i v : Int) (h0 : 0 ≤ v) (h1 : v < 64) (hc : s.cnt = 2) (hp : s.pads = 0) (hcl : s.cl = false) : takeZ s (sgn v.toNat) i = .inr { out := s.out, dg := s.dg * 64 + v, p0 := s.p0, p1 := s.p1, p2 := i, p3 := s.p3, cnt := 3, pads := 0, cl := false } := by
  obtain ⟨a, b, c, d, e⟩ := sgn_facts v h0 h1
  unfold takeZ
  rw [if_neg (by omega), if_neg (by simp [hcl]), if_neg d, if_neg (by omega), if_neg (by omega), if_neg (by omega), if_pos hc, a]
theorem t3 (s : Rs) (i v : Int) (h0 : 0 ≤ v) (h1 : v < 64) (hc : s.cnt = 3) (hp : s.pads = 0) (hcl : s.cl = false) : takeZ s (sgn v.toNat) i = .inr (fresh (s.out ++ (bytesD (s.dg * 64 + v)).take 3) false) := by
  obtain ⟨a, b, c, d, e⟩ := sgn_facts v h0 h1
  unfold takeZ
  rw [if_neg (by omega), if_neg (by simp [hcl]), if_neg d, if_neg (by omega), if_neg (by omega), if_neg (by omega), if_neg (by omega), a]
theorem e2 (s : Rs) (i : Int) (hc : s.cnt = 2) (hcl : s.cl = false) : takeZ s 61 i = .inr { out := s.out, dg := s.dg * 64, p0 := s.p0, p1 := s.p1, p2 := i, p3 := s.p3, cnt := 3, pads := 1, cl := false } := by
  unfold takeZ
  rw [if_neg (by simp), if_neg (by simp [hcl]), if_pos rfl, if_neg (by omega), if_pos hc]
theorem e30 (s : Rs) (i : Int) (hc : s.cnt = 3) (hp : s.pads = 0) (hcl : s.cl = false) (hz : s.dg * 64 % 256 = 0) : takeZ s 61 i = .inr (fresh (s.out ++ (bytesD (s.dg * 64)).take 2) true) := by
  unfold takeZ
  rw [if_neg (by simp), if_neg (by simp [hcl]), if_pos rfl, if_neg (by omega), if_neg (by omega), if_pos hp, if_pos hz]
theorem e31 (s : Rs) (i : Int) (hc : s.cnt = 3) (hp : s.pads = 1) (hcl : s.cl = false) (hz : s.dg * 64 % 65536 = 0) : takeZ s 61 i = .inr (fresh (s.out ++ (bytesD (s.dg * 64)).take 1) true) := by
  unfold takeZ
  rw [if_neg (by simp), if_neg (by simp [hcl]), if_pos rfl, if_neg (by omega), if_neg (by omega), if_neg (by omega), if_pos hz]

theorem scan3 (i x y z : Int) (out r : List Int) (hx : 0 ≤ x ∧ x < 256) (hy : 0 ≤ y ∧ y < 256) (hz : 0 ≤ z ∧ z < 256) :
    scanU i (B (fourL x y z 3 ++ r)) (fresh out false) = scanU (i + 4) (B r) (fresh (out ++ [x, y, z]) false) := by
  have e : fourL x y z 3 ++ r = sgn (((x * 256 + y) * 256 + z) / 262144 % 64).toNat :: sgn (((x * 256 + y) * 256 + z) / 4096 % 64).toNat :: sgn (((x * 256 + y) * 256 + z) / 64 % 64).toNat :: sgn (z % 64).toNat :: r := by simp [fourL]
  rw [e, scan_sign _ _ _ _ _ (by omega) (by omega) (t0 out i _ (by omega) (by omega)), scan_sign _ _ _ _ _ (by omega) (by omega) (t1 _ _ _ (by omega) (by omega) rfl rfl rfl),
    scan_sign _ _ _ _ _ (by omega) (by omega) (t2 _ _ _ (by omega) (by omega) rfl rfl rfl), scan_sign _ _ _ _ _ (by omega) (by omega) (t3 _ _ _ (by omega) (by omega) rfl rfl rfl)]
  have d : (bytesD (((((x * 256 + y) * 256 + z) / 262144 % 64 * 64 + ((x * 256 + y) * 256 + z) / 4096 % 64) * 64 + ((x * 256 + y) * 256 + z) / 64 % 64) * 64 + z % 64)).take 3 = [x, y, z] := by
    simp only [bytesD, List.take_succ_cons, List.take_zero, List.cons.injEq, and_true]
    omega
  rw [d, show i + 1 + 1 + 1 + 1 = i + 4 from by omega]
theorem scan2 (i x y : Int) (out : List Int) (hx : 0 ≤ x ∧ x < 256) (hy : 0 ≤ y ∧ y < 256) :
    scanU i (B (fourL x y 0 2)) (fresh out false) = .inr (fresh (out ++ [x, y]) true) := by
  have e : fourL x y 0 2 = sgn (((x * 256 + y) * 256 + 0) / 262144 % 64).toNat :: sgn (((x * 256 + y) * 256 + 0) / 4096 % 64).toNat :: sgn (((x * 256 + y) * 256 + 0) / 64 % 64).toNat :: 61 :: [] := by simp [fourL]
  rw [e, scan_sign _ _ _ _ _ (by omega) (by omega) (t0 out i _ (by omega) (by omega)), scan_sign _ _ _ _ _ (by omega) (by omega) (t1 _ _ _ (by omega) (by omega) rfl rfl rfl),
    scan_sign _ _ _ _ _ (by omega) (by omega) (t2 _ _ _ (by omega) (by omega) rfl rfl rfl), scan_pad _ _ _ _ (e30 _ _ rfl rfl rfl (by simp only; omega))]
  have d : (bytesD (((((x * 256 + y) * 256 + 0) / 262144 % 64 * 64 + ((x * 256 + y) * 256 + 0) / 4096 % 64) * 64 + ((x * 256 + y) * 256 + 0) / 64 % 64) * 64)).take 2 = [x, y] := by
    simp only [bytesD, List.take_succ_cons, List.take_zero, List.cons.injEq, and_true]
    omega
  rw [d]
  rfl
theorem scan1 (i x : Int) (out : List Int) (hx : 0 ≤ x ∧ x < 256) :
    scanU i (B (fourL x 0 0 1)) (fresh out false) = .inr (fresh (out ++ [x]) true) := by
  have e : fourL x 0 0 1 = sgn (((x * 256 + 0) * 256 + 0) / 262144 % 64).toNat :: sgn (((x * 256 + 0) * 256 + 0) / 4096 % 64).toNat :: 61 :: 61 :: [] := by simp [fourL]
  rw [e, scan_sign _ _ _ _ _ (by omega) (by omega) (t0 out i _ (by omega) (by omega)), scan_sign _ _ _ _ _ (by omega) (by omega) (t1 _ _ _ (by omega) (by omega) rfl rfl rfl),
    scan_pad _ _ _ _ (e2 _ _ rfl rfl), scan_pad _ _ _ _ (e31 _ _ rfl rfl rfl (by simp only; omega))]
  have d : (bytesD ((((x * 256 + 0) * 256 + 0) / 262144 % 64 * 64 + ((x * 256 + 0) * 256 + 0) / 4096 % 64) * 64 * 64)).take 1 = [x] := by
    simp only [bytesD, List.take_succ_cons, List.take_zero, List.cons.injEq, and_true]
    omega
  rw [d]
  rfl
theorem encW_len2 (wd : Int) : ∀ (n : Nat) (ln : Int) (l : List Int), l.length ≤ n → (encW wd ln l).length ≤ 2 * l.length + 4
  | n, ln, [], h => by simp [encW]
  | n, ln, [x], h => by have := brk_len wd ln; simp [encW, fourL_len]; omega
  | n, ln, [x, y], h => by have := brk_len wd ln; simp [encW, fourL_len]; omega
  | 0, ln, x :: y :: z :: r, h => by simp at h
  | n + 1, ln, x :: y :: z :: r, h => by
    have := brk_len wd ln
    have := encW_len2 wd n (nxt wd ln) r (by simp at h; omega)
    simp [encW, fourL_len]; omega
theorem scan_brk (i wd ln : Int) (r : List Int) (s : Rs) : ∃ j, scanU i (B (brk wd ln ++ r)) s = scanU j (B r) s := by
  unfold brk
  split
  · refine ⟨i + 2, ?_⟩
    show scanU i (13 :: 10 :: B r) s = _
    rw [scan_yes]
  · exact ⟨i, rfl⟩
theorem scan_enc (wd : Int) : ∀ (n : Nat) (i ln : Int) (out l : List Int), l.length ≤ n → Byt l → ∃ st, scanU i (B (encW wd ln l)) (fresh out false) = .inr st ∧ st.cnt = 0 ∧ st.out = out ++ l
  | n, i, ln, out, [], _, _ => ⟨fresh out false, by simp [encW, B, scanU], rfl, by simp [fresh]⟩
  | n, i, ln, out, [x], _, hb => by
    obtain ⟨j, hj⟩ := scan_brk i wd ln (fourL x 0 0 1) (fresh out false)
    exact ⟨fresh (out ++ [x]) true, by rw [encW, hj, scan1 j x out hb.head], rfl, rfl⟩
  | n, i, ln, out, [x, y], _, hb => by
    obtain ⟨j, hj⟩ := scan_brk i wd ln (fourL x y 0 2) (fresh out false)
    exact ⟨fresh (out ++ [x, y]) true, by rw [encW, hj, scan2 j x y out hb.head hb.tail.head], rfl, rfl⟩
  | 0, i, ln, out, x :: y :: z :: r, h, _ => by simp at h
  | n + 1, i, ln, out, x :: y :: z :: r, h, hb => by
    obtain ⟨j, hj⟩ := scan_brk i wd ln (fourL x y z 3 ++ encW wd (nxt wd ln) r) (fresh out false)
    obtain ⟨st, h1, h2, h3⟩ := scan_enc wd n (j + 4) (nxt wd ln) (out ++ [x, y, z]) r (by simp at h; omega) hb.tail.tail.tail
    refine ⟨st, ?_, h2, by rw [h3]; simp⟩
    rw [encW, List.append_assoc, hj, scan3 j x y z out _ hb.head hb.tail.head hb.tail.tail.head, h1]
end Go.Proofs.YtnhbmekhmkkccaaDoor.Bt
