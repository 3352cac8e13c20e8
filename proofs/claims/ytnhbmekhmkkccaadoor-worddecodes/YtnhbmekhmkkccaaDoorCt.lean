/-
  Pieces; the contracts of strings.Split at one byte, of content and inSet.
-/
import Derived.Test.YtnhbmekhmkkccaaDoorMk
import Derived.Test.YtnhbmekhmkkccaaDoorUCutMath
import Derived.Test.YtnhbmekhmkkccaaDoorBBackMath
namespace Go.Proofs.YtnhbmekhmkkccaaDoor
open Go.RowKit
set_option linter.unusedVariables false

/-- The pieces between the signs c. -/
def pieces (c : Int) : List Int → List (List Int)
  | [] => [[]]
  | d :: r => if d = c then [] :: pieces c r else ((d :: (pieces c r).headD []) :: (pieces c r).tail)
theorem pieces_ne (c : Int) : ∀ l, pieces c l ≠ []
  | [] => by simp [pieces]
  | d :: r => by unfold pieces; split <;> simp
theorem pieces_none {c : Int} : ∀ {l : List Int}, c ∉ l → pieces c l = [l]
  | [], _ => rfl
  | d :: r, h => by
    simp only [List.mem_cons, not_or] at h
    rw [pieces, if_neg (fun q => h.1 q.symm), pieces_none h.2]; rfl
theorem pieces_app {c : Int} : ∀ {a : List Int} (r : List Int), c ∉ a → pieces c (a ++ c :: r) = a :: pieces c r
  | [], r, _ => by simp [pieces]
  | d :: a, r, h => by
    simp only [List.mem_cons, not_or] at h
    rw [List.cons_append, pieces, if_neg (fun q => h.1 q.symm), pieces_app r h.2]; rfl
theorem index_one (u : UInt8) : ∀ l : List UInt8, Lib.index l [u] = idxZ (u.toNat : Int) (l.map fun b => (b.toNat : Int))
  | [] => by simp [Lib.index, idxZ]
  | c :: r => by
    have ih := index_one u r
    rw [Lib.index, List.map_cons, idxZ, ← ih]
    have hp : ([u].isPrefixOf (c :: r)) = decide ((c.toNat : Int) = (u.toNat : Int)) := by
      rw [Bool.eq_iff_iff]
      simp [List.isPrefixOf]
      constructor
      · intro h; rw [h]
      · intro h; exact (UInt8.toNat_inj.1 (by omega)).symm
    rw [hp]
    by_cases h : (c.toNat : Int) = (u.toNat : Int)
    · simp [h]
    · simp [h]
theorem indexB_one (s : ByteArray) (u : UInt8) : Lib.indexB s ⟨#[u]⟩ = idxZ (u.toNat : Int) (nums s) := index_one u s.data.toList
theorem split_pieces (u : UInt8) : ∀ (k : Nat) (s : ByteArray), Lib.countB s ⟨#[u]⟩ = k → (Lib.splitB ⟨#[u]⟩ 0 k s).map nums = pieces (u.toNat : Int) (nums s)
  | 0, s, h => by
    have hm : Lib.indexB s ⟨#[u]⟩ = -1 := by
      rcases idx_ge (u.toNat : Int) (nums s) with q | q
      · rw [indexB_one, q]
      · obtain ⟨i, hi⟩ : ∃ i : Nat, idxZ (u.toNat : Int) (nums s) = i := ⟨(idxZ (u.toNat : Int) (nums s)).toNat, by omega⟩
        have := Lib.countB_hit s ⟨#[u]⟩ i (Nat.le_refl 1) (by rw [indexB_one, hi])
        omega
    rw [Lib.splitB_miss _ _ _ _ hm]
    rw [indexB_one] at hm
    simp [pieces_none (idx_none hm)]
  | k + 1, s, h => by
    rcases idx_ge (u.toNat : Int) (nums s) with q | q
    · have := Lib.countB_miss s ⟨#[u]⟩ (by rw [indexB_one, q])
      omega
    · obtain ⟨i, hi⟩ : ∃ i : Nat, idxZ (u.toNat : Int) (nums s) = i := ⟨(idxZ (u.toNat : Int) (nums s)).toNat, by omega⟩
      have hb : Lib.indexB s ⟨#[u]⟩ = i := by rw [indexB_one, hi]
      have hc := Lib.countB_hit s ⟨#[u]⟩ i (Nat.le_refl 1) hb
      have hsz : (⟨#[u]⟩ : ByteArray).size = 1 := rfl
      rw [hsz] at hc
      rw [Lib.splitB_hit _ _ _ _ i hb, List.map_cons, hsz, split_pieces u k _ (by omega)]
      obtain ⟨e1, e2, e3⟩ := idx_some hi
      rw [nums_from, Nat.add_zero, nums_to]
      conv => rhs; rw [e1]
      rw [pieces_app _ e2]
/-- What Split answers at one byte. -/
theorem split_any (s : ByteArray) (u : UInt8) (m : Int) (w : World) (hs : s.size ≤ 1000000000) (hm : w.cell? ⟨0, 0, none⟩ = some (.int .i64 m)) :
    Calls Tryd.prog 31 #[.string s, .string ⟨#[u]⟩] w fun e w' => ∃ xs : List ByteArray, xs.map nums = pieces (u.toNat : Int) (nums s) ∧
      e = .returned (.slice (some ⟨w.heap.size, 0, none⟩) xs.length xs.length) ∧ w' = w.alloc (.cells (xs.map Value.string).toArray 9) := by
  refine (strings_Split s ⟨#[u]⟩ m w (by omega) hm (Nat.le_refl 1)).mono ?_
  rintro e w' ⟨rfl, rfl⟩
  have hl := Lib.splitB_all ⟨#[u]⟩ (Nat.le_refl 1) 0 _ s rfl
  exact ⟨_, split_pieces u _ s rfl, by rw [hl], rfl⟩
/-- What bits.Decode says. -/
def decB (l : List Int) : Option (List Int) := match Bt.scanU 0 (Bt.B l) (Bt.fresh [] false) with | .inr st => if st.cnt = 0 then some st.out else none | .inl _ => none
theorem B_nums (s : ByteArray) : Bt.B (nums s) = s.data.toList := by
  unfold Bt.B nums
  rw [List.map_map]
  conv => rhs; rw [← List.map_id s.data.toList]
  apply List.map_congr_left
  intro x _
  simp
theorem bytesD_byt (d : Int) (n : Nat) : Byt ((Bt.bytesD d).take n) := by
  intro x hx
  have := List.mem_of_mem_take hx
  unfold Bt.bytesD at this
  simp at this
  omega
theorem take_byt {s s' : Bt.Rs} {c i : Int} (h : Bt.takeZ s c i = .inr s') (hb : Byt s.out) : Byt s'.out := by
  unfold Bt.takeZ at h
  repeat' split at h
  all_goals first
    | (cases h; done)
    | (simp only [Sum.inr.injEq] at h; subst h; first | exact hb | exact hb.append (bytesD_byt _ _))
theorem scan_byt : ∀ (n : Nat) (l : List UInt8) (i : Int) (s st : Bt.Rs), l.length ≤ n → Bt.scanU i l s = .inr st → Byt s.out → Byt st.out
  | n, [], i, s, st, _, h, hb => by
    rw [Bt.scanU.eq_def] at h
    simp only [Sum.inr.injEq] at h
    subst h; exact hb
  | 0, c :: r, i, s, st, hn, _, _ => by simp at hn
  | n + 1, c :: r, i, s, st, hn, h, hb => by
    cases hc : Bt.crlf (c :: r) with
    | true =>
      obtain ⟨q, hq⟩ := Bt.crlf_two hc
      simp only [List.cons.injEq] at hq
      obtain ⟨rfl, rfl⟩ := hq
      rw [Bt.scan_yes] at h
      exact scan_byt n q _ s st (by simp at hn; omega) h hb
    | false =>
      rw [Bt.scan_no hc] at h
      split at h
      · cases h
      · rename_i s' hs'
        exact scan_byt n r _ s' st (by simp at hn; omega) h (take_byt hs' hb)
theorem BAns.below {b : Bool} {v : Value} {x : Option (List Int)} {W W' : World} (h : BAns b v x W) (hb : Below W.heap.size W W') : BAns b v x W' :=
  ⟨fun e => by
    obtain ⟨l, a, cap, h1, h2, h3, h4, h5, h6⟩ := h.1 e
    exact ⟨l, a, cap, h1, h2, h3, h4, row_below h5 hb, h6⟩, h.2⟩
/-- What a content says. -/
def contR (way txt : List Int) : Option (List Int) := if way = [66] ∨ way = [98] then decB txt else if way = [81] ∨ way = [113] then markR 0 txt else none
set_option maxHeartbeats 4000000 in
set_option maxRecDepth 100000 in
theorem content_any (way s : ByteArray) (w : World) (hs : s.size ≤ 10000) :
    Calls Tryd.prog 32 #[.string way, .string s] w fun e w' => ∃ v b, e = .returned (.tuple #[v, .bool b]) ∧ BAns b v (contR (nums way) (nums s)) w' ∧ Below w.heap.size w w' := by
  have hdec := Bt.decode_any s w (by omega)
  have hmark := marked_any s w (by omega)
  have eB : nums (⟨#[66]⟩ : ByteArray) = [66] := rfl
  have eb : nums (⟨#[98]⟩ : ByteArray) = [98] := rfl
  have eQ : nums (⟨#[81]⟩ : ByteArray) = [81] := rfl
  have eq : nums (⟨#[113]⟩ : ByteArray) = [113] := rfl
  have isB : ∀ way : ByteArray, (way = ⟨#[66]⟩ ∨ way = ⟨#[98]⟩) → Calls Tryd.prog 32 #[.string way, .string s] w fun e w' => ∃ v b, e = .returned (.tuple #[v, .bool b]) ∧ BAns b v (contR (nums way) (nums s)) w' ∧ Below w.heap.size w w' := by
    intro way hw
    have HC : Hid (contR (nums way) (nums s) = decB (nums s)) := by
      unfold Hid contR; rcases hw with rfl | rfl
      · rw [eB]; rfl
      · rw [eb]; rfl
    have HD : Hid (∀ v fa fc W, Bt.DecR (Bt.scanU 0 s.data.toList (Bt.fresh [] false)) s.size v fa fc W → ∃ a n c, v = .slice a n c ∧ ((fc = 0 ∧ BAns true v (decB (nums s)) W) ∨ (fc ≠ 0 ∧ BAns false v (decB (nums s)) W))) := by
      intro v fa fc W h
      unfold decB
      rw [B_nums]
      rcases h with ⟨f, h1, h2, h3, h4⟩ | ⟨st, h1, h2, h3, h4, h5⟩ | ⟨st, a, cap, h1, h2, h3, h4, h5, h6, h7, h8⟩
      · rw [h1]
        refine ⟨none, 0, 0, h2, .inr ⟨?_, fun e => (by cases e), fun _ => ⟨rfl, none, 0, 0, h2⟩⟩⟩
        have : ∀ (n : Nat) (l : List UInt8) (i : Int) (s : Bt.Rs), l.length ≤ n → Bt.scanU i l s = .inl f → f.2 ≠ 0 := by
          intro n
          induction n with
          | zero =>
            intro l i s hl h
            have : l = [] := List.eq_nil_of_length_eq_zero (by omega)
            subst this
            rw [Bt.scanU.eq_def] at h; cases h
          | succ n ih =>
            intro l i s hl h
            cases l with
            | nil => rw [Bt.scanU.eq_def] at h; cases h
            | cons c r =>
              cases hc : Bt.crlf (c :: r) with
              | true =>
                obtain ⟨q, hq⟩ := Bt.crlf_two hc
                simp only [List.cons.injEq] at hq
                obtain ⟨rfl, rfl⟩ := hq
                rw [Bt.scan_yes] at h
                exact ih q _ s (by simp at hl; omega) h
              | false =>
                rw [Bt.scan_no hc] at h
                split at h
                · rename_i f' hf
                  simp only [Sum.inl.injEq] at h
                  subst h
                  have := Bt.fault_code hf
                  omega
                · exact ih r _ _ (by simp at hl; omega) h
        rw [h4]; exact this _ _ _ _ (Nat.le_refl _) h1
      · rw [h1]
        refine ⟨none, 0, 0, h3, .inr ⟨by omega, fun e => (by cases e), fun _ => ⟨?_, none, 0, 0, h3⟩⟩⟩
        simp only; rw [if_neg (by omega)]
      · rw [h1]
        refine ⟨a, st.out.length, cap, h3, .inl ⟨h5, BAns.yes (l := st.out) (by simp only; rw [if_pos h2]) h3 h6 (by unfold maxLen; omega) h8 (scan_byt _ _ _ _ _ (Nat.le_refl _) h1 (by intro x hx; cases hx))⟩⟩
    rcases hw with rfl | rfl
    all_goals (
      clear hmark eB eb eQ eq
      go_enter Tryd.func32, Tryd.ntmps32
      go_wp2_with fail
      refine hdec.mono ?_
      clear hdec
      rintro e w1 ⟨v, fa, fc, rfl, hb1, hd⟩
      obtain ⟨a, n, c, rfl, h⟩ := HD.out _ _ _ _ hd
      have HB1 : Hid (Below w.heap.size w w1) := hb1
      have hs1 := hb1.size
      clear hb1 hd
      rcases h with ⟨rfl, h⟩ | ⟨hne, h⟩)
    all_goals (
      have HA : Hid (BAns _ (.slice a n c) (decB (nums s)) w1) := h
      clear h)
    all_goals (
      try (have hfc : (fc == 0) = false := by (rw [beq_eq_false_iff_ne]; exact hne))
      go_wp2
      go_quiet (fail)
      go_wp2
      go_ret2)
    all_goals exact ⟨_, _, rfl, by rw [HC.out]; exact HA.out.below (below_drewN (keep w1 _) nq), below_drewN (HB1.out.alloc hs1 _) nq⟩
  by_cases h1 : nums way = [66]
  · exact isB way (.inl (nums_inj (h1.trans eB.symm)))
  by_cases h2 : nums way = [98]
  · exact isB way (.inr (nums_inj (h2.trans eb.symm)))
  have HC1 : Hid (contR (nums way) (nums s) = if nums way = [81] ∨ nums way = [113] then markR 0 (nums s) else none) := by
    unfold Hid contR; rw [if_neg (fun h => h.elim h1 h2)]
  have n1 : (way.toList == [66]) = false := by
    have := eq_nums way ⟨#[66]⟩
    rw [ByteArray.toList_eq ⟨#[66]⟩, eB, decide_eq_false h1] at this
    exact this
  have n2 : (way.toList == [98]) = false := by
    have := eq_nums way ⟨#[98]⟩
    rw [ByteArray.toList_eq ⟨#[98]⟩, eb, decide_eq_false h2] at this
    exact this
  clear isB hdec
  by_cases h3 : nums way = [81]
  · have HC : Hid (contR (nums way) (nums s) = markR 0 (nums s)) := by unfold Hid; rw [HC1.out, if_pos (.inl h3)]
    obtain rfl : way = ⟨#[81]⟩ := nums_inj (h3.trans eQ.symm)
    clear h1 h2 h3 HC1 n1 n2 eB eb eQ eq
    go_enter Tryd.func32, Tryd.ntmps32
    go_wp2_with (go_at_call 59; refine hmark.mono ?_; rintro e w' ⟨v, b, rfl, hba, hbe⟩)
    go_ret2
    exact ⟨_, _, rfl, by rw [HC.out]; exact hba, hbe⟩
  by_cases h4 : nums way = [113]
  · have HC : Hid (contR (nums way) (nums s) = markR 0 (nums s)) := by unfold Hid; rw [HC1.out, if_pos (.inr h4)]
    obtain rfl : way = ⟨#[113]⟩ := nums_inj (h4.trans eq.symm)
    clear h1 h2 h3 h4 HC1 n1 n2 eB eb eQ eq
    go_enter Tryd.func32, Tryd.ntmps32
    go_wp2_with (go_at_call 59; refine hmark.mono ?_; rintro e w' ⟨v, b, rfl, hba, hbe⟩)
    go_ret2
    exact ⟨_, _, rfl, by rw [HC.out]; exact hba, hbe⟩
  have HC : Hid (contR (nums way) (nums s) = none) := by unfold Hid; rw [HC1.out, if_neg (fun h => h.elim h3 h4)]
  have n3 : (way.toList == [81]) = false := by
    have := eq_nums way ⟨#[81]⟩
    rw [ByteArray.toList_eq ⟨#[81]⟩, eQ, decide_eq_false h3] at this
    exact this
  have n4 : (way.toList == [113]) = false := by
    have := eq_nums way ⟨#[113]⟩
    rw [ByteArray.toList_eq ⟨#[113]⟩, eq, decide_eq_false h4] at this
    exact this
  clear h1 h2 h3 h4 HC1 hmark eB eb eQ eq
  go_enter Tryd.func32, Tryd.ntmps32
  go_wp2
  go_ret2
  exact ⟨_, false, rfl, ⟨fun e => (by cases e), fun _ => ⟨HC.out, _, _, _, rfl⟩⟩, Below.refl _ _⟩
/-- Is a text valid? -/
def validN : Nat → List Int → Bool
  | _, [] => true
  | 0, _ => false
  | n + 1, l => match Ut.decZ l with | some p => validN n (l.drop (Ut.encZ p).length) | none => false
def validZ (l : List Int) : Bool := validN l.length l
theorem valid_flat : ∀ (ps r : List Int) (n : Nat), Ut.AllPt ps → Ut.decZ r = none → (Ut.flat ps ++ r).length ≤ n → validN n (Ut.flat ps ++ r) = r.isEmpty
  | [], r, n, _, hr, hn => by
    rw [Ut.flat_nil, List.nil_append]
    cases r with
    | nil => cases n <;> rfl
    | cons c r =>
      cases n with
      | zero => rfl
      | succ n =>
        rw [validN, hr]
        · rfl
        · simp
  | p :: ps, r, n, hp, hr, hn => by
    have hl := Ut.flat_len p ps r
    have hpos := Ut.enc_pos p
    cases n with
    | zero => omega
    | succ n =>
      have ih := valid_flat ps r n hp.tail hr (by omega)
      obtain ⟨c, t, hct⟩ : ∃ c t, Ut.flat (p :: ps) ++ r = c :: t := by
        cases h : Ut.flat (p :: ps) ++ r with
        | nil => exact absurd h (Ut.flat_ne p ps r)
        | cons c t => exact ⟨c, t, rfl⟩
      have hd := Ut.dec_flat (r := r) hp
      have hdr := Ut.drop_flat p ps r
      rw [hct] at hd hdr ⊢
      rw [validN, hd]
      · simp only; rw [hdr, ih]
      · simp
theorem valid_row (a : Option Addr) (len cap : Nat) (l : List Int) (w : World) (hlen : l.length = len) (hl : Byt l) (hcap : len ≤ cap) (hm : cap ≤ maxLen) (hrow : Row w a l) :
    Calls Tryd.prog 18 #[.slice a len cap] w fun e w' => e = .returned (.bool (validZ l)) ∧ w = w' := by
  obtain ⟨ps, r, hps, rfl, hr⟩ := Ut.split_ex l hl
  have hb : Ut.Byt r := fun x hx => hl x (by simp [hx])
  have := Ut.valid_any a len cap ps r w hlen hps hr hb hcap hm hrow
  have he : validZ (Ut.flat ps ++ r) = r.isEmpty := valid_flat ps r _ hps hr (Nat.le_refl _)
  rw [he]; exact this
/-- Can a set say these bytes? -/
def setR (set said : List Int) : Bool := if set.map smallZ = [117, 116, 102, 45, 56] then validZ said else if set.map smallZ = [117, 115, 45, 97, 115, 99, 105, 105] then said.all (fun c => decide (c < 128)) else false
set_option maxHeartbeats 4000000 in
set_option maxRecDepth 100000 in
theorem inSet_any (set : ByteArray) (a : Option Addr) (len cap : Nat) (l : List Int) (w : World) (hlen : l.length = len) (hl : Byt l) (hcap : len ≤ cap) (hm : cap ≤ maxLen) (hrow : Row w a l) (hs : set.size ≤ 1000000) :
    Calls Tryd.prog 33 #[.string set, .slice a len cap] w fun e w' => e = .returned (.bool (setR (nums set) l)) ∧ Below w.heap.size w w' := by
  have hsm := small_any set w (by omega)
  have e1 : nums (⟨#[117, 116, 102, 45, 56]⟩ : ByteArray) = [117, 116, 102, 45, 56] := rfl
  have e2 : nums (⟨#[117, 115, 45, 97, 115, 99, 105, 105]⟩ : ByteArray) = [117, 115, 45, 97, 115, 99, 105, 105] := rfl
  have hns : nums (strOfNums ((nums set).map smallZ)) = (nums set).map smallZ := nums_str (map_small_byt (nums_byt set))
  generalize hgs : strOfNums ((nums set).map smallZ) = ss at hsm hns
  have HZ : Hid (setR (nums set) l = if nums ss = [117, 116, 102, 45, 56] then validZ l else if nums ss = [117, 115, 45, 97, 115, 99, 105, 105] then l.all (fun c => decide (c < 128)) else false) := by unfold Hid setR; rw [hns]
  have HL : Hid (l.length = len) := hlen
  have HR : Hid (Row w a l) := hrow
  have HBl : Hid (Byt l) := hl
  have hmx : cap ≤ 9223372036854775807 := by unfold maxLen at hm; omega
  clear hgs hns hlen hrow hl
  go_enter Tryd.func33, Tryd.ntmps33
  go_wp2_with fail
  refine hsm.mono ?_
  clear hsm
  rintro e w1 ⟨rfl, hb1⟩
  have HB1 : Hid (Below w.heap.size w w1) := hb1
  have HR1 : Hid (Row w1 a l) := row_below HR.out hb1
  clear hb1 HR
  by_cases h1 : nums ss = [117, 116, 102, 45, 56]
  · have HZ1 : Hid (setR (nums set) l = validZ l) := by unfold Hid; rw [HZ.out, if_pos h1]
    obtain rfl : ss = ⟨#[117, 116, 102, 45, 56]⟩ := nums_inj (h1.trans e1.symm)
    have hval := valid_row a len cap l w1 HL.out HBl.out hcap hm HR1.out
    clear h1 HZ e1 e2 hm
    go_wp2_with (go_at_call 18; refine hval.mono ?_; rintro e w' ⟨rfl, rfl⟩)
    go_ret
    exact ⟨ret_bool HZ1.out.symm, HB1.out⟩
  by_cases h2 : nums ss = [117, 115, 45, 97, 115, 99, 105, 105]
  · have HZ1 : Hid (setR (nums set) l = l.all (fun c => decide (c < 128))) := by unfold Hid; rw [HZ.out, if_neg h1, if_pos h2]
    obtain rfl : ss = ⟨#[117, 115, 45, 97, 115, 99, 105, 105]⟩ := nums_inj (h2.trans e2.symm)
    clear h1 h2 HZ e1 e2 hm
    go_wp2
    go_loopw [17] (fun i wr => ∃ k : Nat, i = .int .i64 k ∧ k ≤ len ∧ (l.take k).all (fun c => decide (c < 128)) = true ∧ w1 = wr) (fun i _ => len - (intOf i).toNat)
    case atStart => exact ⟨0, rfl, by omega, by simp, rfl⟩
    case round =>
      obtain ⟨k, rfl, hk, hal, rfl⟩ := hrel
      have HA : Hid ((l.take k).all (fun c => decide (c < 128)) = true) := hal
      clear hal
      by_cases hlt : k < len
      · obtain ⟨c, hc⟩ : ∃ c, l[k]? = some c := ⟨_, List.getElem?_eq_getElem (by rw [HL.out]; exact hlt)⟩
        obtain ⟨b, off, rfl, hcell⟩ : ∃ b off, a = some ⟨b, off, none⟩ ∧ w1.cell? ⟨b, off + k, none⟩ = some (.int .u8 c) := by
          rcases HR1.out with h | ⟨b, off, e, h⟩
          · rw [h] at hc; simp at hc
          · have := h k (by rw [HL.out]; exact hlt)
            rw [List.getD_eq_getElem?_getD, hc] at this
            exact ⟨b, off, e, this⟩
        have HC : Hid (l[k]? = some c) := hc
        have k0 : (0 : Int) ≤ (k : Int) := by omega
        have k1 : (k : Int) < (len : Int) := by omega
        clear hc
        by_cases hc8 : c < 128
        · have HV : Hid ((l.take (k + 1)).all (fun c => decide (c < 128)) = true) := by
            unfold Hid; rw [all_take _ _ _ _ HC.out, HA.out]; simp [hc8]
          have hd : decide (c ≥ 128) = false := decide_eq_false (by omega)
          go_wp2
          go_roundw
          case rel => exact ⟨k + 1, by go_num, by omega, HV.out, by first | trivial | rfl⟩
          case measure => simp [intOf]; omega
        · have HV : Hid (setR (nums set) l = false) := by
            unfold Hid; rw [HZ1.out, all_bad _ _ _ _ HC.out (by simp; omega)]
          have hd : decide (c ≥ 128) = true := decide_eq_true (by omega)
          go_wp2
          go_ret
          exact ⟨ret_bool HV.out.symm, HB1.out⟩
      · obtain rfl : k = len := by omega
        have HV : Hid (setR (nums set) l = true) := by
          have := HA.out
          rw [List.take_of_length_le (by rw [HL.out]; exact Nat.le_refl _)] at this
          unfold Hid; rw [HZ1.out, this]
        go_wp2
        go_ret
        exact ⟨ret_bool HV.out.symm, HB1.out⟩
  · have HZ1 : Hid (setR (nums set) l = false) := by unfold Hid; rw [HZ.out, if_neg h1, if_neg h2]
    have n1 : (ss.toList == [117, 116, 102, 45, 56]) = false := by
      have := eq_nums ss ⟨#[117, 116, 102, 45, 56]⟩
      rw [ByteArray.toList_eq ⟨#[117, 116, 102, 45, 56]⟩, e1, decide_eq_false h1] at this
      exact this
    have n2 : (ss.toList == [117, 115, 45, 97, 115, 99, 105, 105]) = false := by
      have := eq_nums ss ⟨#[117, 115, 45, 97, 115, 99, 105, 105]⟩
      rw [ByteArray.toList_eq ⟨#[117, 115, 45, 97, 115, 99, 105, 105]⟩, e2, decide_eq_false h2] at this
      exact this
    clear h1 h2 HZ e1 e2 hm
    go_wp2
    go_ret
    exact ⟨ret_bool HZ1.out.symm, HB1.out⟩
end Go.Proofs.YtnhbmekhmkkccaaDoor
