/-
  NARROWER THAN 'FOR EVERY INPUT', by the rows' own cells (each row's printed sentence says how): WhenDays: laid · WhenTimes: laid · WhenSpans: laid · WhenBack: laid · WhenNext: laid · WhenOrder: laid.
  DERIVED. THE GIVEN ROWS OF THIS SEAT. 6 by the template 'for every input the law returns true; each argument reads behind the call as it read before'; 0 by the template 'total and deterministic' (their statements: YtkamnphiocoebaaDoorTotals.lean).
  GIVEN WITH THE SEED: the statements are not yours to turn. If you find one false, say at which input.
  Laid BY PROGRAM, IN A SANDBOX (cutbox-rows.mjs): the forced cells as the released guide's own fill.sh prints them over the translation f728963bca8e63a6… (all of the seat's roots in one cut). By AI agents, Wed Nov 11 2026. No macro, syntax, notation, axiom, sorry.
-/
import Derived.Test.YtkamnphiocoebaaDoorChecked
import GoSem.Claim
import GoSem.ClaimJoined
import GoSem.ClaimMapViews
import Derived.JoinedTies
import Derived.KernelRfl
namespace Go.Proofs.YtkamnphiocoebaaDoor
/- THE CELL 'sum', in the pinned program and in every row, IS THE sha256 OF THE DUMP (.gsa) THAT YtkamnphiocoebaaDoorProg.lean LOADS. Nothing in Lean hashes anything: it is a label: what it is worth is what the hold of that sum in a sandbox is worth. -/
noncomputable def Tryd.pinned : Pinned := { name := "ytkamnphiocoebaadoor", sum := "f728963bca8e63a6aaa966123230125327abe520de150ab3a331b50c3d22cc6c", checked := Tryd.checked }
namespace Rows
def none {H : Type} : Left H := { results := [], args := [] }

/- WHAT THE LISTED PACKAGE-LEVEL VARIABLES READ AS WHEN THE CALL BEGINS. Each datum BY PROGRAM (the guide's laid-datum.mjs) off the statement by which the dump's own 'gosem.cut.vars' lays the variable. In a bare row this is a premise. The card (YtkamnphiocoebaaDoorCards.lean) ties it to the program's text. -/
def laid_math_bits_deBruijn32tab {H : Type} : DataW H := .agg [.lit (.int .u8 0), .lit (.int .u8 1), .lit (.int .u8 28), .lit (.int .u8 2), .lit (.int .u8 29), .lit (.int .u8 14), .lit (.int .u8 24), .lit (.int .u8 3), .lit (.int .u8 30), .lit (.int .u8 22), .lit (.int .u8 20), .lit (.int .u8 15), .lit (.int .u8 25), .lit (.int .u8 17), .lit (.int .u8 4), .lit (.int .u8 8), .lit (.int .u8 31), .lit (.int .u8 27), .lit (.int .u8 13), .lit (.int .u8 23), .lit (.int .u8 21), .lit (.int .u8 19), .lit (.int .u8 16), .lit (.int .u8 7), .lit (.int .u8 26), .lit (.int .u8 12), .lit (.int .u8 18), .lit (.int .u8 6), .lit (.int .u8 11), .lit (.int .u8 5), .lit (.int .u8 10), .lit (.int .u8 9)]
def laid_math_bits_deBruijn64tab {H : Type} : DataW H := .agg [.lit (.int .u8 0), .lit (.int .u8 1), .lit (.int .u8 56), .lit (.int .u8 2), .lit (.int .u8 57), .lit (.int .u8 49), .lit (.int .u8 28), .lit (.int .u8 3), .lit (.int .u8 61), .lit (.int .u8 58), .lit (.int .u8 42), .lit (.int .u8 50), .lit (.int .u8 38), .lit (.int .u8 29), .lit (.int .u8 17), .lit (.int .u8 4), .lit (.int .u8 62), .lit (.int .u8 47), .lit (.int .u8 59), .lit (.int .u8 36), .lit (.int .u8 45), .lit (.int .u8 43), .lit (.int .u8 51), .lit (.int .u8 22), .lit (.int .u8 53), .lit (.int .u8 39), .lit (.int .u8 33), .lit (.int .u8 30), .lit (.int .u8 24), .lit (.int .u8 18), .lit (.int .u8 12), .lit (.int .u8 5), .lit (.int .u8 63), .lit (.int .u8 55), .lit (.int .u8 48), .lit (.int .u8 27), .lit (.int .u8 60), .lit (.int .u8 41), .lit (.int .u8 37), .lit (.int .u8 16), .lit (.int .u8 46), .lit (.int .u8 35), .lit (.int .u8 44), .lit (.int .u8 21), .lit (.int .u8 52), .lit (.int .u8 32), .lit (.int .u8 23), .lit (.int .u8 11), .lit (.int .u8 54), .lit (.int .u8 26), .lit (.int .u8 40), .lit (.int .u8 15), .lit (.int .u8 34), .lit (.int .u8 20), .lit (.int .u8 31), .lit (.int .u8 10), .lit (.int .u8 25), .lit (.int .u8 14), .lit (.int .u8 19), .lit (.int .u8 9), .lit (.int .u8 13), .lit (.int .u8 8), .lit (.int .u8 7), .lit (.int .u8 6)]
def laid_internal_strconv_uint64pow10 {H : Type} : DataW H := .agg [.lit (.int .u64 1), .lit (.int .u64 10), .lit (.int .u64 100), .lit (.int .u64 1000), .lit (.int .u64 10000), .lit (.int .u64 100000), .lit (.int .u64 1000000), .lit (.int .u64 10000000), .lit (.int .u64 100000000), .lit (.int .u64 1000000000), .lit (.int .u64 10000000000), .lit (.int .u64 100000000000), .lit (.int .u64 1000000000000), .lit (.int .u64 10000000000000), .lit (.int .u64 100000000000000), .lit (.int .u64 1000000000000000), .lit (.int .u64 10000000000000000), .lit (.int .u64 100000000000000000), .lit (.int .u64 1000000000000000000), .lit (.int .u64 10000000000000000000)]
def laid_posthorn_when_ahead {H : Type} : DataW H := .agg [.lit (.int .i64 0), .lit (.int .i64 31), .lit (.int .i64 59), .lit (.int .i64 90), .lit (.int .i64 120), .lit (.int .i64 151), .lit (.int .i64 181), .lit (.int .i64 212), .lit (.int .i64 243), .lit (.int .i64 273), .lit (.int .i64 304), .lit (.int .i64 334), .lit (.int .i64 365)]
def laid_posthorn_when_places {H : Type} : DataW H := .agg [.agg [.lit (.int .i64 0), .lit (.int .i64 4)], .agg [.lit (.int .i64 4), .lit (.int .i64 6)], .agg [.lit (.int .i64 6), .lit (.int .i64 8)], .agg [.lit (.int .i64 9), .lit (.int .i64 11)], .agg [.lit (.int .i64 11), .lit (.int .i64 13)], .agg [.lit (.int .i64 13), .lit (.int .i64 15)]]
def laid_posthorn_when_clockSizes {H : Type} : DataW H := .agg [.lit (.int .i64 3600), .lit (.int .i64 60), .lit (.int .i64 1)]

/-- 'posthornlaw12.WhenDays': WHATEVER THE INPUT: true; the input reads as it did. -/
def whenDaysSpec : ChangeSpec := { name := "whenDays", fn := fun _ => fun
  | [d1, d2, d3, d4, d5] => { results := [.lit (.bool true)], args := [d1, d2, d3, d4, d5] }
  | _ => none }
def whenDaysRow : OpenClaim := { program := "ytkamnphiocoebaadoor", sum := "f728963bca8e63a6aaa966123230125327abe520de150ab3a331b50c3d22cc6c", func := "posthorn/posthornlaw12.WhenDays", spec := "whenDays", named := ["posthorn/when.ahead", "posthorn/when.places", "internal/strconv.uint64pow10", "math/bits.deBruijn32tab", "math/bits.deBruijn64tab"], apart := false, laid := [("math/bits.deBruijn32tab", laid_math_bits_deBruijn32tab), ("math/bits.deBruijn64tab", laid_math_bits_deBruijn64tab), ("internal/strconv.uint64pow10", laid_internal_strconv_uint64pow10), ("posthorn/when.ahead", laid_posthorn_when_ahead), ("posthorn/when.places", laid_posthorn_when_places)] }
def WhenDaysSaid : Prop := whenDaysRow.holds Tryd.pinned (OpenSpec.ofChange whenDaysSpec)

/-- ITS FALSE NEIGHBOUR: 'it returns false'. Refute it at one input. -/
def whenDaysWrong : ChangeSpec := { name := "whenDays", fn := fun _ => fun
  | [d1, d2, d3, d4, d5] => { results := [.lit (.bool false)], args := [d1, d2, d3, d4, d5] }
  | _ => none }
def WhenDaysWrongFalsely : Prop := whenDaysRow.holds Tryd.pinned (OpenSpec.ofChange whenDaysWrong)

/-- 'posthornlaw12.WhenTimes': WHATEVER THE INPUT: true; the input reads as it did. -/
def whenTimesSpec : ChangeSpec := { name := "whenTimes", fn := fun _ => fun
  | [d1, d2] => { results := [.lit (.bool true)], args := [d1, d2] }
  | _ => none }
def whenTimesRow : OpenClaim := { program := "ytkamnphiocoebaadoor", sum := "f728963bca8e63a6aaa966123230125327abe520de150ab3a331b50c3d22cc6c", func := "posthorn/posthornlaw12.WhenTimes", spec := "whenTimes", named := ["posthorn/when.places", "posthorn/when.ahead", "internal/strconv.uint64pow10", "math/bits.deBruijn32tab", "math/bits.deBruijn64tab"], apart := false, laid := [("math/bits.deBruijn32tab", laid_math_bits_deBruijn32tab), ("math/bits.deBruijn64tab", laid_math_bits_deBruijn64tab), ("internal/strconv.uint64pow10", laid_internal_strconv_uint64pow10), ("posthorn/when.ahead", laid_posthorn_when_ahead), ("posthorn/when.places", laid_posthorn_when_places)] }
def WhenTimesSaid : Prop := whenTimesRow.holds Tryd.pinned (OpenSpec.ofChange whenTimesSpec)

/-- ITS FALSE NEIGHBOUR: 'it returns false'. Refute it at one input. -/
def whenTimesWrong : ChangeSpec := { name := "whenTimes", fn := fun _ => fun
  | [d1, d2] => { results := [.lit (.bool false)], args := [d1, d2] }
  | _ => none }
def WhenTimesWrongFalsely : Prop := whenTimesRow.holds Tryd.pinned (OpenSpec.ofChange whenTimesWrong)

/-- 'posthornlaw12.WhenSpans': WHATEVER THE INPUT: true; the input reads as it did. -/
def whenSpansSpec : ChangeSpec := { name := "whenSpans", fn := fun _ => fun
  | [d1, d2] => { results := [.lit (.bool true)], args := [d1, d2] }
  | _ => none }
def whenSpansRow : OpenClaim := { program := "ytkamnphiocoebaadoor", sum := "f728963bca8e63a6aaa966123230125327abe520de150ab3a331b50c3d22cc6c", func := "posthorn/posthornlaw12.WhenSpans", spec := "whenSpans", inPlace := ["internal/bytealg.IndexByteString"], recurses := true, named := ["posthorn/when.places", "posthorn/when.ahead", "internal/strconv.uint64pow10", "math/bits.deBruijn32tab", "math/bits.deBruijn64tab", "posthorn/when.clockSizes"], apart := false, laid := [("math/bits.deBruijn32tab", laid_math_bits_deBruijn32tab), ("math/bits.deBruijn64tab", laid_math_bits_deBruijn64tab), ("internal/strconv.uint64pow10", laid_internal_strconv_uint64pow10), ("posthorn/when.ahead", laid_posthorn_when_ahead), ("posthorn/when.places", laid_posthorn_when_places), ("posthorn/when.clockSizes", laid_posthorn_when_clockSizes)] }
def WhenSpansSaid : Prop := whenSpansRow.holds Tryd.pinned (OpenSpec.ofChange whenSpansSpec)

/-- ITS FALSE NEIGHBOUR: 'it returns false'. Refute it at one input. -/
def whenSpansWrong : ChangeSpec := { name := "whenSpans", fn := fun _ => fun
  | [d1, d2] => { results := [.lit (.bool false)], args := [d1, d2] }
  | _ => none }
def WhenSpansWrongFalsely : Prop := whenSpansRow.holds Tryd.pinned (OpenSpec.ofChange whenSpansWrong)

/-- 'posthornlaw12.WhenBack': WHATEVER THE INPUT: true; the input reads as it did. -/
def whenBackSpec : ChangeSpec := { name := "whenBack", fn := fun _ => fun
  | [d1, d2, d3] => { results := [.lit (.bool true)], args := [d1, d2, d3] }
  | _ => none }
def whenBackRow : OpenClaim := { program := "ytkamnphiocoebaadoor", sum := "f728963bca8e63a6aaa966123230125327abe520de150ab3a331b50c3d22cc6c", func := "posthorn/posthornlaw12.WhenBack", spec := "whenBack", inPlace := ["internal/bytealg.IndexByteString"], named := ["posthorn/when.places", "posthorn/when.ahead", "internal/strconv.uint64pow10", "math/bits.deBruijn32tab", "math/bits.deBruijn64tab", "posthorn/when.clockSizes"], apart := false, laid := [("math/bits.deBruijn32tab", laid_math_bits_deBruijn32tab), ("math/bits.deBruijn64tab", laid_math_bits_deBruijn64tab), ("internal/strconv.uint64pow10", laid_internal_strconv_uint64pow10), ("posthorn/when.ahead", laid_posthorn_when_ahead), ("posthorn/when.places", laid_posthorn_when_places), ("posthorn/when.clockSizes", laid_posthorn_when_clockSizes)] }
def WhenBackSaid : Prop := whenBackRow.holds Tryd.pinned (OpenSpec.ofChange whenBackSpec)

/-- ITS FALSE NEIGHBOUR: 'it returns false'. Refute it at one input. -/
def whenBackWrong : ChangeSpec := { name := "whenBack", fn := fun _ => fun
  | [d1, d2, d3] => { results := [.lit (.bool false)], args := [d1, d2, d3] }
  | _ => none }
def WhenBackWrongFalsely : Prop := whenBackRow.holds Tryd.pinned (OpenSpec.ofChange whenBackWrong)

/-- 'posthornlaw12.WhenNext': WHATEVER THE INPUT: true; the input reads as it did. -/
def whenNextSpec : ChangeSpec := { name := "whenNext", fn := fun _ => fun
  | [d] => { results := [.lit (.bool true)], args := [d] }
  | _ => none }
def whenNextRow : OpenClaim := { program := "ytkamnphiocoebaadoor", sum := "f728963bca8e63a6aaa966123230125327abe520de150ab3a331b50c3d22cc6c", func := "posthorn/posthornlaw12.WhenNext", spec := "whenNext", named := ["posthorn/when.places", "posthorn/when.ahead", "internal/strconv.uint64pow10", "math/bits.deBruijn32tab", "math/bits.deBruijn64tab"], apart := false, laid := [("math/bits.deBruijn32tab", laid_math_bits_deBruijn32tab), ("math/bits.deBruijn64tab", laid_math_bits_deBruijn64tab), ("internal/strconv.uint64pow10", laid_internal_strconv_uint64pow10), ("posthorn/when.ahead", laid_posthorn_when_ahead), ("posthorn/when.places", laid_posthorn_when_places)] }
def WhenNextSaid : Prop := whenNextRow.holds Tryd.pinned (OpenSpec.ofChange whenNextSpec)

/-- ITS FALSE NEIGHBOUR: 'it returns false'. Refute it at one input. -/
def whenNextWrong : ChangeSpec := { name := "whenNext", fn := fun _ => fun
  | [d] => { results := [.lit (.bool false)], args := [d] }
  | _ => none }
def WhenNextWrongFalsely : Prop := whenNextRow.holds Tryd.pinned (OpenSpec.ofChange whenNextWrong)

/-- 'posthornlaw12.WhenOrder': WHATEVER THE INPUT: true; the input reads as it did. -/
def whenOrderSpec : ChangeSpec := { name := "whenOrder", fn := fun _ => fun
  | [d1, d2] => { results := [.lit (.bool true)], args := [d1, d2] }
  | _ => none }
def whenOrderRow : OpenClaim := { program := "ytkamnphiocoebaadoor", sum := "f728963bca8e63a6aaa966123230125327abe520de150ab3a331b50c3d22cc6c", func := "posthorn/posthornlaw12.WhenOrder", spec := "whenOrder", named := ["posthorn/when.places", "posthorn/when.ahead", "internal/strconv.uint64pow10", "math/bits.deBruijn32tab", "math/bits.deBruijn64tab"], apart := false, laid := [("math/bits.deBruijn32tab", laid_math_bits_deBruijn32tab), ("math/bits.deBruijn64tab", laid_math_bits_deBruijn64tab), ("internal/strconv.uint64pow10", laid_internal_strconv_uint64pow10), ("posthorn/when.ahead", laid_posthorn_when_ahead), ("posthorn/when.places", laid_posthorn_when_places)] }
def WhenOrderSaid : Prop := whenOrderRow.holds Tryd.pinned (OpenSpec.ofChange whenOrderSpec)

/-- ITS FALSE NEIGHBOUR: 'it returns false'. Refute it at one input. -/
def whenOrderWrong : ChangeSpec := { name := "whenOrder", fn := fun _ => fun
  | [d1, d2] => { results := [.lit (.bool false)], args := [d1, d2] }
  | _ => none }
def WhenOrderWrongFalsely : Prop := whenOrderRow.holds Tryd.pinned (OpenSpec.ofChange whenOrderWrong)

/- THE SECOND FORM. 'bulk': how many values and letters a reading holds, each counted each time it is reached (what is shared counts as often as it is met; a slice's spare places count too). A statement '..UptoSaid' is the law's where the arguments, and the package variables that the reading takes, are together of bulk at most 1048576: NARROWER than '..Said'. Prove '..Said' where nothing that the law and all that it calls make is longer than what came in: it says more and counts as full. Else prove '..UptoSaid'. A law counts once. -/
mutual
def uptoBulk {H : Type} : DataW H → Nat
  | .lit (.string bytes) => bytes.length + 1
  | .lit _ => 1
  | .nil => 1
  | .ptr d => uptoBulk d + 1
  | .slice elems spare => uptoBulkAll elems + uptoBulkAll spare + 1
  | .agg parts => uptoBulkAll parts + 1
  | .iface _ d => uptoBulk d + 1
  | .map entries => uptoBulkEntries entries + 1
  | .held _ => 1
def uptoBulkAll {H : Type} : List (DataW H) → Nat
  | [] => 0
  | d :: r => uptoBulk d + uptoBulkAll r
def uptoBulkEntries {H : Type} : List (Lit × DataW H) → Nat
  | [] => 0
  | x :: r => uptoBulkEntry x + uptoBulkEntries r
def uptoBulkEntry {H : Type} : Lit × DataW H → Nat
  | (.string bytes, d) => bytes.length + uptoBulk d + 1
  | (_, d) => uptoBulk d + 1
 end
def uptoSmall : (H : Type) → List (DataW H) → Bool := fun _ ds => decide (uptoBulkAll ds ≤ 1048576)
def OpenSpec.upto (s : _root_.Go.ChangeSpec) : _root_.Go.OpenSpec := { _root_.Go.OpenSpec.ofChange s with cond := some uptoSmall }

/-- 'posthornlaw12.WhenDays', WHERE WHAT IT READS IS OF BULK AT MOST 1048576: true; the input reads as it did. -/
def whenDaysUptoRow : OpenClaim := { program := "ytkamnphiocoebaadoor", sum := "f728963bca8e63a6aaa966123230125327abe520de150ab3a331b50c3d22cc6c", func := "posthorn/posthornlaw12.WhenDays", spec := "whenDays", named := ["posthorn/when.ahead", "posthorn/when.places", "internal/strconv.uint64pow10", "math/bits.deBruijn32tab", "math/bits.deBruijn64tab"], apart := false, laid := [("math/bits.deBruijn32tab", laid_math_bits_deBruijn32tab), ("math/bits.deBruijn64tab", laid_math_bits_deBruijn64tab), ("internal/strconv.uint64pow10", laid_internal_strconv_uint64pow10), ("posthorn/when.ahead", laid_posthorn_when_ahead), ("posthorn/when.places", laid_posthorn_when_places)], narrowed := true }
def WhenDaysUptoSaid : Prop := whenDaysUptoRow.holds Tryd.pinned (OpenSpec.upto whenDaysSpec)

/-- 'posthornlaw12.WhenTimes', WHERE WHAT IT READS IS OF BULK AT MOST 1048576: true; the input reads as it did. -/
def whenTimesUptoRow : OpenClaim := { program := "ytkamnphiocoebaadoor", sum := "f728963bca8e63a6aaa966123230125327abe520de150ab3a331b50c3d22cc6c", func := "posthorn/posthornlaw12.WhenTimes", spec := "whenTimes", named := ["posthorn/when.places", "posthorn/when.ahead", "internal/strconv.uint64pow10", "math/bits.deBruijn32tab", "math/bits.deBruijn64tab"], apart := false, laid := [("math/bits.deBruijn32tab", laid_math_bits_deBruijn32tab), ("math/bits.deBruijn64tab", laid_math_bits_deBruijn64tab), ("internal/strconv.uint64pow10", laid_internal_strconv_uint64pow10), ("posthorn/when.ahead", laid_posthorn_when_ahead), ("posthorn/when.places", laid_posthorn_when_places)], narrowed := true }
def WhenTimesUptoSaid : Prop := whenTimesUptoRow.holds Tryd.pinned (OpenSpec.upto whenTimesSpec)

/-- 'posthornlaw12.WhenSpans', WHERE WHAT IT READS IS OF BULK AT MOST 1048576: true; the input reads as it did. -/
def whenSpansUptoRow : OpenClaim := { program := "ytkamnphiocoebaadoor", sum := "f728963bca8e63a6aaa966123230125327abe520de150ab3a331b50c3d22cc6c", func := "posthorn/posthornlaw12.WhenSpans", spec := "whenSpans", inPlace := ["internal/bytealg.IndexByteString"], recurses := true, named := ["posthorn/when.places", "posthorn/when.ahead", "internal/strconv.uint64pow10", "math/bits.deBruijn32tab", "math/bits.deBruijn64tab", "posthorn/when.clockSizes"], apart := false, laid := [("math/bits.deBruijn32tab", laid_math_bits_deBruijn32tab), ("math/bits.deBruijn64tab", laid_math_bits_deBruijn64tab), ("internal/strconv.uint64pow10", laid_internal_strconv_uint64pow10), ("posthorn/when.ahead", laid_posthorn_when_ahead), ("posthorn/when.places", laid_posthorn_when_places), ("posthorn/when.clockSizes", laid_posthorn_when_clockSizes)], narrowed := true }
def WhenSpansUptoSaid : Prop := whenSpansUptoRow.holds Tryd.pinned (OpenSpec.upto whenSpansSpec)

/-- 'posthornlaw12.WhenBack', WHERE WHAT IT READS IS OF BULK AT MOST 1048576: true; the input reads as it did. -/
def whenBackUptoRow : OpenClaim := { program := "ytkamnphiocoebaadoor", sum := "f728963bca8e63a6aaa966123230125327abe520de150ab3a331b50c3d22cc6c", func := "posthorn/posthornlaw12.WhenBack", spec := "whenBack", inPlace := ["internal/bytealg.IndexByteString"], named := ["posthorn/when.places", "posthorn/when.ahead", "internal/strconv.uint64pow10", "math/bits.deBruijn32tab", "math/bits.deBruijn64tab", "posthorn/when.clockSizes"], apart := false, laid := [("math/bits.deBruijn32tab", laid_math_bits_deBruijn32tab), ("math/bits.deBruijn64tab", laid_math_bits_deBruijn64tab), ("internal/strconv.uint64pow10", laid_internal_strconv_uint64pow10), ("posthorn/when.ahead", laid_posthorn_when_ahead), ("posthorn/when.places", laid_posthorn_when_places), ("posthorn/when.clockSizes", laid_posthorn_when_clockSizes)], narrowed := true }
def WhenBackUptoSaid : Prop := whenBackUptoRow.holds Tryd.pinned (OpenSpec.upto whenBackSpec)

/-- 'posthornlaw12.WhenNext', WHERE WHAT IT READS IS OF BULK AT MOST 1048576: true; the input reads as it did. -/
def whenNextUptoRow : OpenClaim := { program := "ytkamnphiocoebaadoor", sum := "f728963bca8e63a6aaa966123230125327abe520de150ab3a331b50c3d22cc6c", func := "posthorn/posthornlaw12.WhenNext", spec := "whenNext", named := ["posthorn/when.places", "posthorn/when.ahead", "internal/strconv.uint64pow10", "math/bits.deBruijn32tab", "math/bits.deBruijn64tab"], apart := false, laid := [("math/bits.deBruijn32tab", laid_math_bits_deBruijn32tab), ("math/bits.deBruijn64tab", laid_math_bits_deBruijn64tab), ("internal/strconv.uint64pow10", laid_internal_strconv_uint64pow10), ("posthorn/when.ahead", laid_posthorn_when_ahead), ("posthorn/when.places", laid_posthorn_when_places)], narrowed := true }
def WhenNextUptoSaid : Prop := whenNextUptoRow.holds Tryd.pinned (OpenSpec.upto whenNextSpec)

/-- 'posthornlaw12.WhenOrder', WHERE WHAT IT READS IS OF BULK AT MOST 1048576: true; the input reads as it did. -/
def whenOrderUptoRow : OpenClaim := { program := "ytkamnphiocoebaadoor", sum := "f728963bca8e63a6aaa966123230125327abe520de150ab3a331b50c3d22cc6c", func := "posthorn/posthornlaw12.WhenOrder", spec := "whenOrder", named := ["posthorn/when.places", "posthorn/when.ahead", "internal/strconv.uint64pow10", "math/bits.deBruijn32tab", "math/bits.deBruijn64tab"], apart := false, laid := [("math/bits.deBruijn32tab", laid_math_bits_deBruijn32tab), ("math/bits.deBruijn64tab", laid_math_bits_deBruijn64tab), ("internal/strconv.uint64pow10", laid_internal_strconv_uint64pow10), ("posthorn/when.ahead", laid_posthorn_when_ahead), ("posthorn/when.places", laid_posthorn_when_places)], narrowed := true }
def WhenOrderUptoSaid : Prop := whenOrderUptoRow.holds Tryd.pinned (OpenSpec.upto whenOrderSpec)

end Rows
end Go.Proofs.YtkamnphiocoebaaDoor
