/-
  NARROWER THAN 'FOR EVERY INPUT', by the rows' own cells (each row's printed sentence says how): ExtraSplits: laid · ExtraCodes: laid · ExtraBack: laid · ExtraCodeBack: laid · ExtraPlain: laid.
  DERIVED. THE GIVEN ROWS OF THIS SEAT. 5 by the template 'for every input the law returns true; each argument reads behind the call as it read before'; 0 by the template 'total and deterministic' (their statements: YtfhgkkdbkbbpkaaDoorTotals.lean).
  GIVEN WITH THE SEED: the statements are not yours to turn. If you find one false, say at which input.
  Laid BY PROGRAM, IN A SANDBOX (cutbox-rows.mjs): the forced cells as the released guide's own fill.sh prints them over the translation 508aa733ea0ffa0a… (all of the seat's roots in one cut). By AI agents, Wed Nov 11 2026. No macro, syntax, notation, axiom, sorry.
-/
import Derived.Test.YtfhgkkdbkbbpkaaDoorChecked
import GoSem.PinnedTables
import GoSem.Claim
import GoSem.ClaimJoined
import GoSem.ClaimMapViews
import Derived.JoinedTies
import Derived.KernelRfl
namespace Go.Proofs.YtfhgkkdbkbbpkaaDoor
/- THE CELL 'sum', in the pinned program and in every row, IS THE sha256 OF THE DUMP (.gsa) THAT YtfhgkkdbkbbpkaaDoorProg.lean LOADS. Nothing in Lean hashes anything: it is a label: what it is worth is what the hold of that sum in a sandbox is worth. -/
noncomputable def Tryd.pinned : Pinned := { name := "ytfhgkkdbkbbpkaadoor", sum := "508aa733ea0ffa0a9e7ad076fd70c52a854d2f47a93364faf1bfd8260cf45996", checked := Tryd.checked }
namespace Rows
def none {H : Type} : Left H := { results := [], args := [] }

/- WHAT THE LISTED PACKAGE-LEVEL VARIABLES READ AS WHEN THE CALL BEGINS. Each datum BY PROGRAM (the guide's laid-datum.mjs) off the statement by which the dump's own 'gosem.cut.vars' lays the variable. In a bare row this is a premise. The card (YtfhgkkdbkbbpkaaDoorCards.lean) ties it to the program's text. -/
def laid_math_bits_deBruijn32tab {H : Type} : DataW H := .agg [.lit (.int .u8 0), .lit (.int .u8 1), .lit (.int .u8 28), .lit (.int .u8 2), .lit (.int .u8 29), .lit (.int .u8 14), .lit (.int .u8 24), .lit (.int .u8 3), .lit (.int .u8 30), .lit (.int .u8 22), .lit (.int .u8 20), .lit (.int .u8 15), .lit (.int .u8 25), .lit (.int .u8 17), .lit (.int .u8 4), .lit (.int .u8 8), .lit (.int .u8 31), .lit (.int .u8 27), .lit (.int .u8 13), .lit (.int .u8 23), .lit (.int .u8 21), .lit (.int .u8 19), .lit (.int .u8 16), .lit (.int .u8 7), .lit (.int .u8 26), .lit (.int .u8 12), .lit (.int .u8 18), .lit (.int .u8 6), .lit (.int .u8 11), .lit (.int .u8 5), .lit (.int .u8 10), .lit (.int .u8 9)]
def laid_math_bits_deBruijn64tab {H : Type} : DataW H := .agg [.lit (.int .u8 0), .lit (.int .u8 1), .lit (.int .u8 56), .lit (.int .u8 2), .lit (.int .u8 57), .lit (.int .u8 49), .lit (.int .u8 28), .lit (.int .u8 3), .lit (.int .u8 61), .lit (.int .u8 58), .lit (.int .u8 42), .lit (.int .u8 50), .lit (.int .u8 38), .lit (.int .u8 29), .lit (.int .u8 17), .lit (.int .u8 4), .lit (.int .u8 62), .lit (.int .u8 47), .lit (.int .u8 59), .lit (.int .u8 36), .lit (.int .u8 45), .lit (.int .u8 43), .lit (.int .u8 51), .lit (.int .u8 22), .lit (.int .u8 53), .lit (.int .u8 39), .lit (.int .u8 33), .lit (.int .u8 30), .lit (.int .u8 24), .lit (.int .u8 18), .lit (.int .u8 12), .lit (.int .u8 5), .lit (.int .u8 63), .lit (.int .u8 55), .lit (.int .u8 48), .lit (.int .u8 27), .lit (.int .u8 60), .lit (.int .u8 41), .lit (.int .u8 37), .lit (.int .u8 16), .lit (.int .u8 46), .lit (.int .u8 35), .lit (.int .u8 44), .lit (.int .u8 21), .lit (.int .u8 52), .lit (.int .u8 32), .lit (.int .u8 23), .lit (.int .u8 11), .lit (.int .u8 54), .lit (.int .u8 26), .lit (.int .u8 40), .lit (.int .u8 15), .lit (.int .u8 34), .lit (.int .u8 20), .lit (.int .u8 31), .lit (.int .u8 10), .lit (.int .u8 25), .lit (.int .u8 14), .lit (.int .u8 19), .lit (.int .u8 9), .lit (.int .u8 13), .lit (.int .u8 8), .lit (.int .u8 7), .lit (.int .u8 6)]
def laid_internal_strconv_uint64pow10 {H : Type} : DataW H := .agg [.lit (.int .u64 1), .lit (.int .u64 10), .lit (.int .u64 100), .lit (.int .u64 1000), .lit (.int .u64 10000), .lit (.int .u64 100000), .lit (.int .u64 1000000), .lit (.int .u64 10000000), .lit (.int .u64 100000000), .lit (.int .u64 1000000000), .lit (.int .u64 10000000000), .lit (.int .u64 100000000000), .lit (.int .u64 1000000000000), .lit (.int .u64 10000000000000), .lit (.int .u64 100000000000000), .lit (.int .u64 1000000000000000), .lit (.int .u64 10000000000000000), .lit (.int .u64 100000000000000000), .lit (.int .u64 1000000000000000000), .lit (.int .u64 10000000000000000000)]
def laid_posthorn_charset_signsOf9 {H : Type} : DataW H := .agg [.lit (.int .i32 160), .lit (.int .i32 161), .lit (.int .i32 162), .lit (.int .i32 163), .lit (.int .i32 8364), .lit (.int .i32 165), .lit (.int .i32 352), .lit (.int .i32 167), .lit (.int .i32 353), .lit (.int .i32 169), .lit (.int .i32 170), .lit (.int .i32 171), .lit (.int .i32 172), .lit (.int .i32 173), .lit (.int .i32 174), .lit (.int .i32 175), .lit (.int .i32 176), .lit (.int .i32 177), .lit (.int .i32 178), .lit (.int .i32 179), .lit (.int .i32 381), .lit (.int .i32 181), .lit (.int .i32 182), .lit (.int .i32 183), .lit (.int .i32 382), .lit (.int .i32 185), .lit (.int .i32 186), .lit (.int .i32 187), .lit (.int .i32 338), .lit (.int .i32 339), .lit (.int .i32 376), .lit (.int .i32 191)]
def laid_posthorn_charset_signsOfWindows {H : Type} : DataW H := .agg [.lit (.int .i32 8364), .lit (.int .i32 (-1)), .lit (.int .i32 8218), .lit (.int .i32 402), .lit (.int .i32 8222), .lit (.int .i32 8230), .lit (.int .i32 8224), .lit (.int .i32 8225), .lit (.int .i32 710), .lit (.int .i32 8240), .lit (.int .i32 352), .lit (.int .i32 8249), .lit (.int .i32 338), .lit (.int .i32 (-1)), .lit (.int .i32 381), .lit (.int .i32 (-1)), .lit (.int .i32 (-1)), .lit (.int .i32 8216), .lit (.int .i32 8217), .lit (.int .i32 8220), .lit (.int .i32 8221), .lit (.int .i32 8226), .lit (.int .i32 8211), .lit (.int .i32 8212), .lit (.int .i32 732), .lit (.int .i32 8482), .lit (.int .i32 353), .lit (.int .i32 8250), .lit (.int .i32 339), .lit (.int .i32 (-1)), .lit (.int .i32 382), .lit (.int .i32 376)]
def laid_unicode_utf8_acceptRanges {H : Type} : DataW H := .agg [.agg [.lit (.int .u8 128), .lit (.int .u8 191)], .agg [.lit (.int .u8 160), .lit (.int .u8 191)], .agg [.lit (.int .u8 128), .lit (.int .u8 159)], .agg [.lit (.int .u8 144), .lit (.int .u8 191)], .agg [.lit (.int .u8 128), .lit (.int .u8 143)], .agg [.lit (.int .u8 0), .lit (.int .u8 0)], .agg [.lit (.int .u8 0), .lit (.int .u8 0)], .agg [.lit (.int .u8 0), .lit (.int .u8 0)], .agg [.lit (.int .u8 0), .lit (.int .u8 0)], .agg [.lit (.int .u8 0), .lit (.int .u8 0)], .agg [.lit (.int .u8 0), .lit (.int .u8 0)], .agg [.lit (.int .u8 0), .lit (.int .u8 0)], .agg [.lit (.int .u8 0), .lit (.int .u8 0)], .agg [.lit (.int .u8 0), .lit (.int .u8 0)], .agg [.lit (.int .u8 0), .lit (.int .u8 0)], .agg [.lit (.int .u8 0), .lit (.int .u8 0)]]
/-- One of Go's own tables, pinned by name: the form's constant. -/
def laid_unicode_utf8_first : DataW Unit := Go.Pinned.utf8First

/-- 'posthornlaw19.ExtraSplits': WHATEVER THE INPUT: true; the input reads as it did. -/
def extraSplitsSpec : ChangeSpec := { name := "extraSplits", fn := fun _ => fun
  | [d] => { results := [.lit (.bool true)], args := [d] }
  | _ => none }
def extraSplitsRow : OpenClaim := { program := "ytfhgkkdbkbbpkaadoor", sum := "508aa733ea0ffa0a9e7ad076fd70c52a854d2f47a93364faf1bfd8260cf45996", func := "posthorn/posthornlaw19.ExtraSplits", spec := "extraSplits", inPlace := ["internal/bytealg.IndexByteString", "internal/bytealg.IndexString"], named := ["internal/bytealg.MaxLen", "posthorn/charset.signsOf9", "posthorn/charset.signsOfWindows", "internal/strconv.uint64pow10", "math/bits.deBruijn32tab", "math/bits.deBruijn64tab"], plainKeys := false, apart := false, laid := [("math/bits.deBruijn32tab", laid_math_bits_deBruijn32tab), ("math/bits.deBruijn64tab", laid_math_bits_deBruijn64tab), ("internal/strconv.uint64pow10", laid_internal_strconv_uint64pow10), ("posthorn/charset.signsOf9", laid_posthorn_charset_signsOf9), ("posthorn/charset.signsOfWindows", laid_posthorn_charset_signsOfWindows)] }
def ExtraSplitsSaid : Prop := extraSplitsRow.holds Tryd.pinned (OpenSpec.ofChange extraSplitsSpec)

/-- ITS FALSE NEIGHBOUR: 'it returns false'. Refute it at one input. -/
def extraSplitsWrong : ChangeSpec := { name := "extraSplits", fn := fun _ => fun
  | [d] => { results := [.lit (.bool false)], args := [d] }
  | _ => none }
def ExtraSplitsWrongFalsely : Prop := extraSplitsRow.holds Tryd.pinned (OpenSpec.ofChange extraSplitsWrong)

/-- 'posthornlaw19.ExtraCodes': WHATEVER THE INPUT: true; the input reads as it did. -/
def extraCodesSpec : ChangeSpec := { name := "extraCodes", fn := fun _ => fun
  | [d1, d2] => { results := [.lit (.bool true)], args := [d1, d2] }
  | _ => none }
def extraCodesRow : OpenClaim := { program := "ytfhgkkdbkbbpkaadoor", sum := "508aa733ea0ffa0a9e7ad076fd70c52a854d2f47a93364faf1bfd8260cf45996", func := "posthorn/posthornlaw19.ExtraCodes", spec := "extraCodes", inPlace := ["internal/bytealg.IndexByteString", "internal/bytealg.IndexString"], named := ["internal/bytealg.MaxLen", "posthorn/charset.signsOf9", "posthorn/charset.signsOfWindows"], plainKeys := false, apart := false, laid := [("posthorn/charset.signsOf9", laid_posthorn_charset_signsOf9), ("posthorn/charset.signsOfWindows", laid_posthorn_charset_signsOfWindows)] }
def ExtraCodesSaid : Prop := extraCodesRow.holds Tryd.pinned (OpenSpec.ofChange extraCodesSpec)

/-- ITS FALSE NEIGHBOUR: 'it returns false'. Refute it at one input. -/
def extraCodesWrong : ChangeSpec := { name := "extraCodes", fn := fun _ => fun
  | [d1, d2] => { results := [.lit (.bool false)], args := [d1, d2] }
  | _ => none }
def ExtraCodesWrongFalsely : Prop := extraCodesRow.holds Tryd.pinned (OpenSpec.ofChange extraCodesWrong)

/-- 'posthornlaw19.ExtraBack': WHATEVER THE INPUT: true; the input reads as it did. -/
def extraBackSpec : ChangeSpec := { name := "extraBack", fn := fun _ => fun
  | [d] => { results := [.lit (.bool true)], args := [d] }
  | _ => none }
def extraBackRow : OpenClaim := { program := "ytfhgkkdbkbbpkaadoor", sum := "508aa733ea0ffa0a9e7ad076fd70c52a854d2f47a93364faf1bfd8260cf45996", func := "posthorn/posthornlaw19.ExtraBack", spec := "extraBack", inPlace := ["internal/bytealg.IndexByteString", "internal/bytealg.IndexString"], named := ["internal/bytealg.MaxLen", "posthorn/charset.signsOf9", "posthorn/charset.signsOfWindows", "internal/strconv.uint64pow10", "math/bits.deBruijn32tab", "math/bits.deBruijn64tab", "unicode/utf8.first", "unicode/utf8.acceptRanges"], plainKeys := false, apart := false, laid := [("math/bits.deBruijn32tab", laid_math_bits_deBruijn32tab), ("math/bits.deBruijn64tab", laid_math_bits_deBruijn64tab), ("internal/strconv.uint64pow10", laid_internal_strconv_uint64pow10), ("unicode/utf8.acceptRanges", laid_unicode_utf8_acceptRanges), ("posthorn/charset.signsOf9", laid_posthorn_charset_signsOf9), ("posthorn/charset.signsOfWindows", laid_posthorn_charset_signsOfWindows), ("unicode/utf8.first", laid_unicode_utf8_first)] }
def ExtraBackSaid : Prop := extraBackRow.holds Tryd.pinned (OpenSpec.ofChange extraBackSpec)

/-- ITS FALSE NEIGHBOUR: 'it returns false'. Refute it at one input. -/
def extraBackWrong : ChangeSpec := { name := "extraBack", fn := fun _ => fun
  | [d] => { results := [.lit (.bool false)], args := [d] }
  | _ => none }
def ExtraBackWrongFalsely : Prop := extraBackRow.holds Tryd.pinned (OpenSpec.ofChange extraBackWrong)

/-- 'posthornlaw19.ExtraCodeBack': WHATEVER THE INPUT: true; the input reads as it did. -/
def extraCodeBackSpec : ChangeSpec := { name := "extraCodeBack", fn := fun _ => fun
  | [d] => { results := [.lit (.bool true)], args := [d] }
  | _ => none }
def extraCodeBackRow : OpenClaim := { program := "ytfhgkkdbkbbpkaadoor", sum := "508aa733ea0ffa0a9e7ad076fd70c52a854d2f47a93364faf1bfd8260cf45996", func := "posthorn/posthornlaw19.ExtraCodeBack", spec := "extraCodeBack", inPlace := ["internal/bytealg.IndexByteString", "internal/bytealg.IndexString"], named := ["internal/bytealg.MaxLen", "posthorn/charset.signsOf9", "posthorn/charset.signsOfWindows"], plainKeys := false, apart := false, laid := [("posthorn/charset.signsOf9", laid_posthorn_charset_signsOf9), ("posthorn/charset.signsOfWindows", laid_posthorn_charset_signsOfWindows)] }
def ExtraCodeBackSaid : Prop := extraCodeBackRow.holds Tryd.pinned (OpenSpec.ofChange extraCodeBackSpec)

/-- ITS FALSE NEIGHBOUR: 'it returns false'. Refute it at one input. -/
def extraCodeBackWrong : ChangeSpec := { name := "extraCodeBack", fn := fun _ => fun
  | [d] => { results := [.lit (.bool false)], args := [d] }
  | _ => none }
def ExtraCodeBackWrongFalsely : Prop := extraCodeBackRow.holds Tryd.pinned (OpenSpec.ofChange extraCodeBackWrong)

/-- 'posthornlaw19.ExtraPlain': WHATEVER THE INPUT: true; the input reads as it did. -/
def extraPlainSpec : ChangeSpec := { name := "extraPlain", fn := fun _ => fun
  | [d] => { results := [.lit (.bool true)], args := [d] }
  | _ => none }
def extraPlainRow : OpenClaim := { program := "ytfhgkkdbkbbpkaadoor", sum := "508aa733ea0ffa0a9e7ad076fd70c52a854d2f47a93364faf1bfd8260cf45996", func := "posthorn/posthornlaw19.ExtraPlain", spec := "extraPlain", inPlace := ["internal/bytealg.IndexByteString", "internal/bytealg.IndexString"], named := ["internal/bytealg.MaxLen", "posthorn/charset.signsOf9", "posthorn/charset.signsOfWindows", "internal/strconv.uint64pow10", "math/bits.deBruijn32tab", "math/bits.deBruijn64tab"], plainKeys := false, apart := false, laid := [("math/bits.deBruijn32tab", laid_math_bits_deBruijn32tab), ("math/bits.deBruijn64tab", laid_math_bits_deBruijn64tab), ("internal/strconv.uint64pow10", laid_internal_strconv_uint64pow10), ("posthorn/charset.signsOf9", laid_posthorn_charset_signsOf9), ("posthorn/charset.signsOfWindows", laid_posthorn_charset_signsOfWindows)] }
def ExtraPlainSaid : Prop := extraPlainRow.holds Tryd.pinned (OpenSpec.ofChange extraPlainSpec)

/-- ITS FALSE NEIGHBOUR: 'it returns false'. Refute it at one input. -/
def extraPlainWrong : ChangeSpec := { name := "extraPlain", fn := fun _ => fun
  | [d] => { results := [.lit (.bool false)], args := [d] }
  | _ => none }
def ExtraPlainWrongFalsely : Prop := extraPlainRow.holds Tryd.pinned (OpenSpec.ofChange extraPlainWrong)

/- THE SECOND FORM. 'bulk': how many values and letters a reading holds, each counted each time it is reached (what is shared counts as often as it is met; a slice's spare places count too). A statement '..UptoSaid' is the law's where the arguments, and the package variables that the reading takes, are together of bulk at most 1048576: NARROWER than '..Said'. Prove '..Said' where nothing that the law and all that it calls make is longer than what came in: it says more and counts as full. Else prove '..UptoSaid'. A law counts once. -/
mutual
def uptoBulk {H : Type} : DataW H → Nat
  | .lit (.string bytes) => bytes.length + 1
  | .lit _ => 1
  | .nil => 1
  | .ptr d => uptoBulk d + 1
  | .slice elems spare => uptoBulkAll elems + uptoBulkAll spare + 1
  | .agg parts => uptoBulkAll parts + 1
  | .iface _ d => uptoBulk d + 1
  | .map entries => uptoBulkEntries entries + 1
  | .held _ => 1
def uptoBulkAll {H : Type} : List (DataW H) → Nat
  | [] => 0
  | d :: r => uptoBulk d + uptoBulkAll r
def uptoBulkEntries {H : Type} : List (Lit × DataW H) → Nat
  | [] => 0
  | x :: r => uptoBulkEntry x + uptoBulkEntries r
def uptoBulkEntry {H : Type} : Lit × DataW H → Nat
  | (.string bytes, d) => bytes.length + uptoBulk d + 1
  | (_, d) => uptoBulk d + 1
 end
def uptoSmall : (H : Type) → List (DataW H) → Bool := fun _ ds => decide (uptoBulkAll ds ≤ 1048576)
def OpenSpec.upto (s : _root_.Go.ChangeSpec) : _root_.Go.OpenSpec := { _root_.Go.OpenSpec.ofChange s with cond := some uptoSmall }

/-- 'posthornlaw19.ExtraSplits', WHERE WHAT IT READS IS OF BULK AT MOST 1048576: true; the input reads as it did. -/
def extraSplitsUptoRow : OpenClaim := { program := "ytfhgkkdbkbbpkaadoor", sum := "508aa733ea0ffa0a9e7ad076fd70c52a854d2f47a93364faf1bfd8260cf45996", func := "posthorn/posthornlaw19.ExtraSplits", spec := "extraSplits", inPlace := ["internal/bytealg.IndexByteString", "internal/bytealg.IndexString"], named := ["internal/bytealg.MaxLen", "posthorn/charset.signsOf9", "posthorn/charset.signsOfWindows", "internal/strconv.uint64pow10", "math/bits.deBruijn32tab", "math/bits.deBruijn64tab"], plainKeys := false, apart := false, laid := [("math/bits.deBruijn32tab", laid_math_bits_deBruijn32tab), ("math/bits.deBruijn64tab", laid_math_bits_deBruijn64tab), ("internal/strconv.uint64pow10", laid_internal_strconv_uint64pow10), ("posthorn/charset.signsOf9", laid_posthorn_charset_signsOf9), ("posthorn/charset.signsOfWindows", laid_posthorn_charset_signsOfWindows)], narrowed := true }
def ExtraSplitsUptoSaid : Prop := extraSplitsUptoRow.holds Tryd.pinned (OpenSpec.upto extraSplitsSpec)

/-- 'posthornlaw19.ExtraCodes', WHERE WHAT IT READS IS OF BULK AT MOST 1048576: true; the input reads as it did. -/
def extraCodesUptoRow : OpenClaim := { program := "ytfhgkkdbkbbpkaadoor", sum := "508aa733ea0ffa0a9e7ad076fd70c52a854d2f47a93364faf1bfd8260cf45996", func := "posthorn/posthornlaw19.ExtraCodes", spec := "extraCodes", inPlace := ["internal/bytealg.IndexByteString", "internal/bytealg.IndexString"], named := ["internal/bytealg.MaxLen", "posthorn/charset.signsOf9", "posthorn/charset.signsOfWindows"], plainKeys := false, apart := false, laid := [("posthorn/charset.signsOf9", laid_posthorn_charset_signsOf9), ("posthorn/charset.signsOfWindows", laid_posthorn_charset_signsOfWindows)], narrowed := true }
def ExtraCodesUptoSaid : Prop := extraCodesUptoRow.holds Tryd.pinned (OpenSpec.upto extraCodesSpec)

/-- 'posthornlaw19.ExtraBack', WHERE WHAT IT READS IS OF BULK AT MOST 1048576: true; the input reads as it did. -/
def extraBackUptoRow : OpenClaim := { program := "ytfhgkkdbkbbpkaadoor", sum := "508aa733ea0ffa0a9e7ad076fd70c52a854d2f47a93364faf1bfd8260cf45996", func := "posthorn/posthornlaw19.ExtraBack", spec := "extraBack", inPlace := ["internal/bytealg.IndexByteString", "internal/bytealg.IndexString"], named := ["internal/bytealg.MaxLen", "posthorn/charset.signsOf9", "posthorn/charset.signsOfWindows", "internal/strconv.uint64pow10", "math/bits.deBruijn32tab", "math/bits.deBruijn64tab", "unicode/utf8.first", "unicode/utf8.acceptRanges"], plainKeys := false, apart := false, laid := [("math/bits.deBruijn32tab", laid_math_bits_deBruijn32tab), ("math/bits.deBruijn64tab", laid_math_bits_deBruijn64tab), ("internal/strconv.uint64pow10", laid_internal_strconv_uint64pow10), ("unicode/utf8.acceptRanges", laid_unicode_utf8_acceptRanges), ("posthorn/charset.signsOf9", laid_posthorn_charset_signsOf9), ("posthorn/charset.signsOfWindows", laid_posthorn_charset_signsOfWindows), ("unicode/utf8.first", laid_unicode_utf8_first)], narrowed := true }
def ExtraBackUptoSaid : Prop := extraBackUptoRow.holds Tryd.pinned (OpenSpec.upto extraBackSpec)

/-- 'posthornlaw19.ExtraCodeBack', WHERE WHAT IT READS IS OF BULK AT MOST 1048576: true; the input reads as it did. -/
def extraCodeBackUptoRow : OpenClaim := { program := "ytfhgkkdbkbbpkaadoor", sum := "508aa733ea0ffa0a9e7ad076fd70c52a854d2f47a93364faf1bfd8260cf45996", func := "posthorn/posthornlaw19.ExtraCodeBack", spec := "extraCodeBack", inPlace := ["internal/bytealg.IndexByteString", "internal/bytealg.IndexString"], named := ["internal/bytealg.MaxLen", "posthorn/charset.signsOf9", "posthorn/charset.signsOfWindows"], plainKeys := false, apart := false, laid := [("posthorn/charset.signsOf9", laid_posthorn_charset_signsOf9), ("posthorn/charset.signsOfWindows", laid_posthorn_charset_signsOfWindows)], narrowed := true }
def ExtraCodeBackUptoSaid : Prop := extraCodeBackUptoRow.holds Tryd.pinned (OpenSpec.upto extraCodeBackSpec)

/-- 'posthornlaw19.ExtraPlain', WHERE WHAT IT READS IS OF BULK AT MOST 1048576: true; the input reads as it did. -/
def extraPlainUptoRow : OpenClaim := { program := "ytfhgkkdbkbbpkaadoor", sum := "508aa733ea0ffa0a9e7ad076fd70c52a854d2f47a93364faf1bfd8260cf45996", func := "posthorn/posthornlaw19.ExtraPlain", spec := "extraPlain", inPlace := ["internal/bytealg.IndexByteString", "internal/bytealg.IndexString"], named := ["internal/bytealg.MaxLen", "posthorn/charset.signsOf9", "posthorn/charset.signsOfWindows", "internal/strconv.uint64pow10", "math/bits.deBruijn32tab", "math/bits.deBruijn64tab"], plainKeys := false, apart := false, laid := [("math/bits.deBruijn32tab", laid_math_bits_deBruijn32tab), ("math/bits.deBruijn64tab", laid_math_bits_deBruijn64tab), ("internal/strconv.uint64pow10", laid_internal_strconv_uint64pow10), ("posthorn/charset.signsOf9", laid_posthorn_charset_signsOf9), ("posthorn/charset.signsOfWindows", laid_posthorn_charset_signsOfWindows)], narrowed := true }
def ExtraPlainUptoSaid : Prop := extraPlainUptoRow.holds Tryd.pinned (OpenSpec.upto extraPlainSpec)

end Rows
end Go.Proofs.YtfhgkkdbkbbpkaaDoor
