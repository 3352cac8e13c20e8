/-
  The contract of strings.TrimLeft at a blank and a tab.
-/
import Derived.Test.YtfhgkkdbkbbpkaaDoorStr
import Derived.Lib.AsciiSet
import Derived.Deep.WholeRow
namespace Go.Proofs.YtfhgkkdbkbbpkaaDoor
open Go.RowKit
set_option linter.unusedVariables false

theorem Tryd.info123 : (Tryd.prog.info? 123).map (fun i => (i.zero, i.size)) = some (some (.agg (Array.replicate 256 (.bool false))), 256) := by kernel_rfl
theorem size64 : (Tryd.prog.info? 123).map (·.size) = some 256 := by kernel_rfl
def strSize : Value → Nat
  | .string s => s.size
  | _ => 0
theorem wp_load {P : Program} {w : World} {o : Oper} {a : Act} {K : Act → World → Prop} {Q : Exit → Act → World → Prop} {t : TypeId} {p : Operand} {ad v : Value} (ho : o.op = .load t p) (hp : a.eval p = ad) (hr : (Instr.loadAt t ad).run P w = .ok v w) (h : K (a.put o.dst v) w) : Oper.wp P o a w K Q := by
  unfold Oper.wp execOp
  simp only [ho, hp, Sem.run_bind, Sem.run_pure, hr, Result.andThen_ok]
  exact h
set_option maxRecDepth 100000 in
theorem contains_any (b : Nat) (c : Int) (v : Bool) (w : World) (h0 : 0 ≤ c) (h1 : c < 256) (hc : w.cell? ⟨b, c.toNat, none⟩ = some (.bool v)) :
    Calls Tryd.prog 109 #[.pointer (some ⟨b, 0, none⟩), .int .u8 c] w fun e w' => e = .returned (.bool v) ∧ w = w' := by
  go_enter Tryd.func109, Tryd.ntmps109
  go_wp2
  go_ret
  exact ⟨rfl, rfl⟩
set_option maxHeartbeats 2000000 in
set_option maxRecDepth 100000 in
/-- makeASCIISet, at signs below 128. -/
theorem set_any (s : ByteArray) (w : World) (hs : s.size ≤ 1000) (ha : ∀ (j : Nat) x, s.data.toList[j]? = some x → x.toNat < 128) :
    Calls Tryd.prog 98 #[.string s] w fun e w' => e = .returned (.tuple #[.agg (Lib.setCells s.data.toList), .bool true]) ∧ Below w.heap.size w w' := by
  have HA : Hid (∀ (j : Nat) x, s.data.toList[j]? = some x → x.toNat < 128) := ha
  have hv := (zero_of_info Tryd.info123).1
  clear ha
  go_enter Tryd.func98, Tryd.ntmps98
  go_wp2
  rw [← Lib.setCells_nil]
  go_loopw [4] (fun i wr => ∃ k : Nat, i = .int .i64 k ∧ k ≤ s.size ∧ wr = w.alloc (.cells (Lib.setCells (s.data.toList.take k)) 123)) (fun i _ => s.size - (intOf i).toNat)
  case atStart => exact ⟨0, rfl, by omega, rfl⟩
  case round =>
    obtain ⟨k, rfl, hk, rfl⟩ := hrel
    by_cases hlt : k < s.size
    · obtain ⟨x, hx⟩ : ∃ x : UInt8, s[k]'hlt = x := ⟨_, rfl⟩
      have HX : Hid (s.data.toList[k]? = some x) := by
        unfold Hid; rw [← hx, List.getElem?_eq_getElem (by simpa using hlt)]; rfl
      have h128 : ¬ ((128 : Int) ≤ (x.toNat : Int)) := by have := HA.out k x HX.out; omega
      have h256 : (x.toNat : Int) < 256 := by omega
      have hcell := Lib.setCells_at (s.data.toList.take k) x
      go_wp2
      go_roundw
      case rel => exact ⟨k + 1, by go_num, by omega, by rw [List.take_add_one, HX.out]; simp only [Option.toList]; rw [Lib.setCells_snoc]⟩
      case measure => simp [intOf]; omega
    · obtain rfl : k = s.size := by omega
      rw [show s.data.toList.take s.size = s.data.toList from List.take_of_length_le (by rw [Array.length_toList]; exact Nat.le_refl _)]
      have hsz := Lib.setCells_size s.data.toList
      have hld := run_loadVar_new (P := Tryd.prog) w 123 (Lib.setCells s.data.toList) 256 4 Tryd.underlying123 (by rw [hsz]; exact size64)
      have hlc := run_loadCellsFrom_new (P := Tryd.prog) w 123 (Lib.setCells s.data.toList) 256 hsz
      have hsc := run_storeCells_new (P := Tryd.prog) w 123 (Lib.setCells s.data.toList) (Lib.setCells s.data.toList) (by rw [hsz]; exact size64) rfl (Lib.setCells_one _)
      have hla := run_loadAt_new (P := Tryd.prog) w 123 (Lib.setCells s.data.toList) 256 4 Tryd.underlying123 (by rw [hsz]; exact size64)
      have hsa := run_storeAt_new (P := Tryd.prog) w 123 (Lib.setCells s.data.toList) (Lib.setCells s.data.toList) (by rw [hsz]; exact size64) rfl (Lib.setCells_one _)
      clear hlc
      go_wp2
      refine wp_load rfl rfl hla ?_
      go_wp2
      (try simp only [Exit.inBlock, Exit.then])
      refine bodyPost_ret (v := .tuple #[.agg (Lib.setCells s.data.toList), .bool true]) ?_ rfl ⟨rfl, keep w _⟩
      rw [results_cell_tmp rfl]
      simp [asAddr, Result.andThen, hld]
/-- What is left behind blanks and tabs. -/
def trimQ : List Int → List Int
  | [] => []
  | c :: r => if c = 32 ∨ c = 9 then trimQ r else c :: r
theorem trim_len : ∀ l : List Int, (trimQ l).length ≤ l.length
  | [] => by simp [trimQ]
  | c :: r => by
    simp only [trimQ]
    split
    · have := trim_len r; simp; omega
    · simp
theorem trim_head : ∀ (l : List Int) (c : Int) (t : List Int), trimQ l = c :: t → c ≠ 32 ∧ c ≠ 9
  | [], c, t, h => by simp [trimQ] at h
  | d :: r, c, t, h => by
    simp only [trimQ] at h
    split at h
    · exact trim_head r c t h
    · rename_i hd
      simp only [List.cons.injEq] at h
      omega
theorem trim_split : ∀ l : List Int, ∃ b, l = b ++ trimQ l ∧ ∀ x ∈ b, x = 32 ∨ x = 9
  | [] => ⟨[], rfl, by simp⟩
  | c :: r => by
    simp only [trimQ]
    split
    · rename_i hc
      obtain ⟨b, hb, hx⟩ := trim_split r
      refine ⟨c :: b, by rw [List.cons_append, ← hb], ?_⟩
      intro x h
      rcases List.mem_cons.1 h with h | h
      · rw [h]; exact hc
      · exact hx x h
    · exact ⟨[], rfl, by simp⟩
theorem str_ext {s : ByteArray} {l : List Int} (h : nums s = l) : s = strOfNums l := by rw [← h, str_nums]
set_option maxRecDepth 100000 in
set_option maxHeartbeats 2000000 in
/-- trimLeftASCII. -/
theorem trimLoop_any (s : ByteArray) (b : Nat) (w : World) (hc : ∀ c : Int, 0 ≤ c → c < 256 → w.cell? ⟨b, c.toNat, none⟩ = some (.bool (decide (c = 32 ∨ c = 9)))) :
    Calls Tryd.prog 99 #[.string s, .pointer (some ⟨b, 0, none⟩)] w fun e w' => e = .returned (.string (strOfNums (trimQ (nums s)))) ∧ w = w' := by
  have HC : Hid (∀ c : Int, 0 ≤ c → c < 256 → w.cell? ⟨b, c.toNat, none⟩ = some (.bool (decide (c = 32 ∨ c = 9)))) := hc
  clear hc
  go_enter Tryd.func99, Tryd.ntmps99
  go_wp2
  go_loopw [0] (fun v wr => ∃ t : ByteArray, v = .string t ∧ trimQ (nums t) = trimQ (nums s) ∧ w = wr) (fun v _ => strSize v)
  case atStart => exact ⟨s, rfl, rfl, rfl⟩
  case round =>
    obtain ⟨t, rfl, ht, rfl⟩ := hrel
    have HT : Hid (trimQ (nums t) = trimQ (nums s)) := ht
    clear ht
    by_cases h0 : 0 < t.size
    · have hd := nums_drop t 0 h0
      rw [List.drop_zero] at hd
      obtain ⟨c, hcc⟩ : ∃ c : Int, ((t[0]'h0).toNat : Int) = c := ⟨_, rfl⟩
      have hcb : 0 ≤ c ∧ c < 256 := by have := (t[0]'h0).toNat_lt; omega
      rw [hcc] at hd
      have HD : Hid (nums t = c :: (nums t).drop 1) := hd
      clear hd
      by_cases hbl : c = 32 ∨ c = 9
      · have HN : Hid (trimQ (nums (t.extract 1 t.size)) = trimQ (nums s)) := by
          unfold Hid; rw [nums_from, ← HT.out, HD.out]; simp only [trimQ, if_pos hbl, List.drop_succ_cons, List.drop_zero]
        have hcell := HC.out c hcb.1 hcb.2
        rw [decide_eq_true hbl] at hcell
        clear hbl
        go_wp2_with (go_at_call 109; refine (contains_any b c true _ hcb.1 hcb.2 hcell).mono ?_; rintro e w' ⟨rfl, rfl⟩)
        go_roundw
        case rel => exact ⟨_, rfl, HN.out, trivial⟩
        case measure => simp [strSize]; omega
      · have HN : Hid (t = strOfNums (trimQ (nums s))) := by
          apply str_ext; rw [← HT.out, HD.out]; simp only [trimQ, if_neg hbl]
        have hcell := HC.out c hcb.1 hcb.2
        rw [decide_eq_false hbl] at hcell
        clear hbl
        go_wp2_with (go_at_call 109; refine (contains_any b c false _ hcb.1 hcb.2 hcell).mono ?_; rintro e w' ⟨rfl, rfl⟩)
        all_goals go_ret
        all_goals exact ⟨by rw [← HN.out]; rfl, rfl⟩
    · have HN : Hid (t = strOfNums (trimQ (nums s))) := by
        apply str_ext; rw [← HT.out, List.eq_nil_of_length_eq_zero (show (nums t).length = 0 by rw [nums_len]; omega)]; rfl
      go_wp2
      all_goals go_ret
      all_goals exact ⟨by rw [← HN.out]; rfl, rfl⟩
theorem cut_ascii : ∀ (j : Nat) x, (⟨#[32, 9]⟩ : ByteArray).data.toList[j]? = some x → x.toNat < 128
  | 0, x, h => by simp at h; subst h; decide
  | 1, x, h => by simp at h; subst h; decide
  | j + 2, x, h => by simp at h
theorem cut_cell (c : Int) (h0 : 0 ≤ c) (h1 : c < 256) : (Lib.setCells [32, 9])[c.toNat]? = some (.bool (decide (c = 32 ∨ c = 9))) := by
  obtain ⟨x, hx⟩ : ∃ x : UInt8, x.toNat = c.toNat := ⟨UInt8.ofNat c.toNat, by rw [UInt8.toNat_ofNat']; omega⟩
  rw [← hx, Lib.setCells_at]
  congr 2
  rw [Bool.eq_iff_iff]
  simp only [List.contains_cons, List.contains_nil, Bool.or_false, Bool.or_eq_true, beq_iff_eq, decide_eq_true_eq]
  constructor
  · rintro (rfl | rfl)
    · left; have : (32 : UInt8).toNat = 32 := rfl; omega
    · right; have : (9 : UInt8).toNat = 9 := rfl; omega
  · rintro (h | h)
    · left; apply UInt8.toNat_inj.1; have : (32 : UInt8).toNat = 32 := rfl; omega
    · right; apply UInt8.toNat_inj.1; have : (9 : UInt8).toNat = 9 := rfl; omega
set_option maxHeartbeats 2000000 in
set_option maxRecDepth 100000 in
/-- TrimLeft at a blank and a tab. -/
theorem trimLeft_any (s : ByteArray) (w : World) (h0 : 0 < s.size) :
    Calls Tryd.prog 80 #[.string s, .string ⟨#[32, 9]⟩] w fun e w' => e = .returned (.string (strOfNums (trimQ (nums s)))) ∧ Below w.heap.size w w' := by
  have hv := (zero_of_info Tryd.info123).1
  have he : (s.toList == ([] : List UInt8)) = false := by
    rw [beq_eq_false_iff_ne]
    intro e
    have := congrArg List.length e
    rw [ByteArray.toList_eq, Array.length_toList] at this
    have h : s.size = 0 := this
    omega
  go_enter Tryd.func80, Tryd.ntmps80
  go_wp2_with fail
  refine (set_any _ _ (by decide) cut_ascii).mono ?_
  rintro e w1 ⟨rfl, hb1⟩
  rw [show (⟨#[32, 9]⟩ : ByteArray).data.toList = [32, 9] from rfl]
  have HB1 : Hid (Below w.heap.size w w1) := hb1
  clear hb1
  have hsz := Lib.setCells_size [32, 9]
  have hsc := run_storeCells_new (P := Tryd.prog) w1 123 (Array.replicate 256 (.bool false)) (Lib.setCells [32, 9]) (by rw [hsz]; exact size64) (by rw [hsz]; simp) (Lib.setCells_one _)
  generalize hA : Lib.setCells [32, 9] = A at hsc hsz ⊢
  have HC : Hid (∀ c : Int, 0 ≤ c → c < 256 → (w1.alloc (.cells A 123)).cell? ⟨w1.heap.size, c.toNat, none⟩ = some (.bool (decide (c = 32 ∨ c = 9)))) := by
    intro c h0 h1
    rw [World.cell?_alloc_mark, ← hA]
    exact cut_cell c h0 h1
  clear hA
  go_wp2_with (go_at_call 99; refine (trimLoop_any s w1.heap.size _ HC.out).mono ?_; rintro e w' ⟨rfl, rfl⟩)
  go_ret
  exact ⟨rfl, HB1.out.alloc HB1.out.size _⟩
end Go.Proofs.YtfhgkkdbkbbpkaaDoor
