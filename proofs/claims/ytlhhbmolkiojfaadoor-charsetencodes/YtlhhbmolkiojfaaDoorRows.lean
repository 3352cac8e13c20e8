/-
  NARROWER THAN 'FOR EVERY INPUT', by the rows' own cells (each row's printed sentence says how): CharsetDecodes: laid · CharsetEncodes: laid · CharsetBack: laid · CharsetBytes: laid · CharsetAscii: laid · CharsetWide: laid.
  DERIVED. THE GIVEN ROWS OF THIS SEAT. 6 by the template 'for every input the law returns true; each argument reads behind the call as it read before'; 0 by the template 'total and deterministic' (their statements: YtlhhbmolkiojfaaDoorTotals.lean).
  GIVEN WITH THE SEED: the statements are not yours to turn. If you find one false, say at which input.
  Laid BY PROGRAM, IN A SANDBOX (cutbox-rows.mjs): the forced cells as the released guide's own fill.sh prints them over the translation d82af0a3bc2463cb… (all of the seat's roots in one cut). By AI agents, Wed Nov 11 2026. No macro, syntax, notation, axiom, sorry.
-/
import Derived.Test.YtlhhbmolkiojfaaDoorChecked
import GoSem.Claim
import GoSem.ClaimJoined
import GoSem.ClaimMapViews
import Derived.JoinedTies
import Derived.KernelRfl
namespace Go.Proofs.YtlhhbmolkiojfaaDoor
/- THE CELL 'sum', in the pinned program and in every row, IS THE sha256 OF THE DUMP (.gsa) THAT YtlhhbmolkiojfaaDoorProg.lean LOADS. Nothing in Lean hashes anything: it is a label: what it is worth is what the hold of that sum in a sandbox is worth. -/
noncomputable def Tryd.pinned : Pinned := { name := "ytlhhbmolkiojfaadoor", sum := "d82af0a3bc2463cb145a21e05d569fac977121a03b9efa0e89919baf5d167085", checked := Tryd.checked }
namespace Rows
def none {H : Type} : Left H := { results := [], args := [] }

/- WHAT THE LISTED PACKAGE-LEVEL VARIABLES READ AS WHEN THE CALL BEGINS. Each datum BY PROGRAM (the guide's laid-datum.mjs) off the statement by which the dump's own 'gosem.cut.vars' lays the variable. In a bare row this is a premise. The card (YtlhhbmolkiojfaaDoorCards.lean) ties it to the program's text. -/
def laid_posthorn_charset_signsOf9 {H : Type} : DataW H := .agg [.lit (.int .i32 160), .lit (.int .i32 161), .lit (.int .i32 162), .lit (.int .i32 163), .lit (.int .i32 8364), .lit (.int .i32 165), .lit (.int .i32 352), .lit (.int .i32 167), .lit (.int .i32 353), .lit (.int .i32 169), .lit (.int .i32 170), .lit (.int .i32 171), .lit (.int .i32 172), .lit (.int .i32 173), .lit (.int .i32 174), .lit (.int .i32 175), .lit (.int .i32 176), .lit (.int .i32 177), .lit (.int .i32 178), .lit (.int .i32 179), .lit (.int .i32 381), .lit (.int .i32 181), .lit (.int .i32 182), .lit (.int .i32 183), .lit (.int .i32 382), .lit (.int .i32 185), .lit (.int .i32 186), .lit (.int .i32 187), .lit (.int .i32 338), .lit (.int .i32 339), .lit (.int .i32 376), .lit (.int .i32 191)]
def laid_posthorn_charset_signsOfWindows {H : Type} : DataW H := .agg [.lit (.int .i32 8364), .lit (.int .i32 (-1)), .lit (.int .i32 8218), .lit (.int .i32 402), .lit (.int .i32 8222), .lit (.int .i32 8230), .lit (.int .i32 8224), .lit (.int .i32 8225), .lit (.int .i32 710), .lit (.int .i32 8240), .lit (.int .i32 352), .lit (.int .i32 8249), .lit (.int .i32 338), .lit (.int .i32 (-1)), .lit (.int .i32 381), .lit (.int .i32 (-1)), .lit (.int .i32 (-1)), .lit (.int .i32 8216), .lit (.int .i32 8217), .lit (.int .i32 8220), .lit (.int .i32 8221), .lit (.int .i32 8226), .lit (.int .i32 8211), .lit (.int .i32 8212), .lit (.int .i32 732), .lit (.int .i32 8482), .lit (.int .i32 353), .lit (.int .i32 8250), .lit (.int .i32 339), .lit (.int .i32 (-1)), .lit (.int .i32 382), .lit (.int .i32 376)]

/-- 'posthornlaw18.CharsetDecodes': WHATEVER THE INPUT: true; the input reads as it did. -/
def charsetDecodesSpec : ChangeSpec := { name := "charsetDecodes", fn := fun _ => fun
  | [d1, d2] => { results := [.lit (.bool true)], args := [d1, d2] }
  | _ => none }
def charsetDecodesRow : OpenClaim := { program := "ytlhhbmolkiojfaadoor", sum := "d82af0a3bc2463cb145a21e05d569fac977121a03b9efa0e89919baf5d167085", func := "posthorn/posthornlaw18.CharsetDecodes", spec := "charsetDecodes", named := ["posthorn/charset.signsOf9", "posthorn/charset.signsOfWindows"], apart := false, laid := [("posthorn/charset.signsOf9", laid_posthorn_charset_signsOf9), ("posthorn/charset.signsOfWindows", laid_posthorn_charset_signsOfWindows)] }
def CharsetDecodesSaid : Prop := charsetDecodesRow.holds Tryd.pinned (OpenSpec.ofChange charsetDecodesSpec)

/-- ITS FALSE NEIGHBOUR: 'it returns false'. Refute it at one input. -/
def charsetDecodesWrong : ChangeSpec := { name := "charsetDecodes", fn := fun _ => fun
  | [d1, d2] => { results := [.lit (.bool false)], args := [d1, d2] }
  | _ => none }
def CharsetDecodesWrongFalsely : Prop := charsetDecodesRow.holds Tryd.pinned (OpenSpec.ofChange charsetDecodesWrong)

/-- 'posthornlaw18.CharsetEncodes': WHATEVER THE INPUT: true; the input reads as it did. -/
def charsetEncodesSpec : ChangeSpec := { name := "charsetEncodes", fn := fun _ => fun
  | [d1, d2] => { results := [.lit (.bool true)], args := [d1, d2] }
  | _ => none }
def charsetEncodesRow : OpenClaim := { program := "ytlhhbmolkiojfaadoor", sum := "d82af0a3bc2463cb145a21e05d569fac977121a03b9efa0e89919baf5d167085", func := "posthorn/posthornlaw18.CharsetEncodes", spec := "charsetEncodes", named := ["posthorn/charset.signsOf9", "posthorn/charset.signsOfWindows"], apart := false, laid := [("posthorn/charset.signsOf9", laid_posthorn_charset_signsOf9), ("posthorn/charset.signsOfWindows", laid_posthorn_charset_signsOfWindows)] }
def CharsetEncodesSaid : Prop := charsetEncodesRow.holds Tryd.pinned (OpenSpec.ofChange charsetEncodesSpec)

/-- ITS FALSE NEIGHBOUR: 'it returns false'. Refute it at one input. -/
def charsetEncodesWrong : ChangeSpec := { name := "charsetEncodes", fn := fun _ => fun
  | [d1, d2] => { results := [.lit (.bool false)], args := [d1, d2] }
  | _ => none }
def CharsetEncodesWrongFalsely : Prop := charsetEncodesRow.holds Tryd.pinned (OpenSpec.ofChange charsetEncodesWrong)

/-- 'posthornlaw18.CharsetBack': WHATEVER THE INPUT: true; the input reads as it did. -/
def charsetBackSpec : ChangeSpec := { name := "charsetBack", fn := fun _ => fun
  | [d1, d2] => { results := [.lit (.bool true)], args := [d1, d2] }
  | _ => none }
def charsetBackRow : OpenClaim := { program := "ytlhhbmolkiojfaadoor", sum := "d82af0a3bc2463cb145a21e05d569fac977121a03b9efa0e89919baf5d167085", func := "posthorn/posthornlaw18.CharsetBack", spec := "charsetBack", named := ["posthorn/charset.signsOf9", "posthorn/charset.signsOfWindows"], apart := false, laid := [("posthorn/charset.signsOf9", laid_posthorn_charset_signsOf9), ("posthorn/charset.signsOfWindows", laid_posthorn_charset_signsOfWindows)] }
def CharsetBackSaid : Prop := charsetBackRow.holds Tryd.pinned (OpenSpec.ofChange charsetBackSpec)

/-- ITS FALSE NEIGHBOUR: 'it returns false'. Refute it at one input. -/
def charsetBackWrong : ChangeSpec := { name := "charsetBack", fn := fun _ => fun
  | [d1, d2] => { results := [.lit (.bool false)], args := [d1, d2] }
  | _ => none }
def CharsetBackWrongFalsely : Prop := charsetBackRow.holds Tryd.pinned (OpenSpec.ofChange charsetBackWrong)

/-- 'posthornlaw18.CharsetBytes': WHATEVER THE INPUT: true; the input reads as it did. -/
def charsetBytesSpec : ChangeSpec := { name := "charsetBytes", fn := fun _ => fun
  | [d1, d2] => { results := [.lit (.bool true)], args := [d1, d2] }
  | _ => none }
def charsetBytesRow : OpenClaim := { program := "ytlhhbmolkiojfaadoor", sum := "d82af0a3bc2463cb145a21e05d569fac977121a03b9efa0e89919baf5d167085", func := "posthorn/posthornlaw18.CharsetBytes", spec := "charsetBytes", named := ["posthorn/charset.signsOf9", "posthorn/charset.signsOfWindows"], apart := false, laid := [("posthorn/charset.signsOf9", laid_posthorn_charset_signsOf9), ("posthorn/charset.signsOfWindows", laid_posthorn_charset_signsOfWindows)] }
def CharsetBytesSaid : Prop := charsetBytesRow.holds Tryd.pinned (OpenSpec.ofChange charsetBytesSpec)

/-- ITS FALSE NEIGHBOUR: 'it returns false'. Refute it at one input. -/
def charsetBytesWrong : ChangeSpec := { name := "charsetBytes", fn := fun _ => fun
  | [d1, d2] => { results := [.lit (.bool false)], args := [d1, d2] }
  | _ => none }
def CharsetBytesWrongFalsely : Prop := charsetBytesRow.holds Tryd.pinned (OpenSpec.ofChange charsetBytesWrong)

/-- 'posthornlaw18.CharsetAscii': WHATEVER THE INPUT: true; the input reads as it did. -/
def charsetAsciiSpec : ChangeSpec := { name := "charsetAscii", fn := fun _ => fun
  | [d1, d2] => { results := [.lit (.bool true)], args := [d1, d2] }
  | _ => none }
def charsetAsciiRow : OpenClaim := { program := "ytlhhbmolkiojfaadoor", sum := "d82af0a3bc2463cb145a21e05d569fac977121a03b9efa0e89919baf5d167085", func := "posthorn/posthornlaw18.CharsetAscii", spec := "charsetAscii", named := ["posthorn/charset.signsOf9", "posthorn/charset.signsOfWindows"], apart := false, laid := [("posthorn/charset.signsOf9", laid_posthorn_charset_signsOf9), ("posthorn/charset.signsOfWindows", laid_posthorn_charset_signsOfWindows)] }
def CharsetAsciiSaid : Prop := charsetAsciiRow.holds Tryd.pinned (OpenSpec.ofChange charsetAsciiSpec)

/-- ITS FALSE NEIGHBOUR: 'it returns false'. Refute it at one input. -/
def charsetAsciiWrong : ChangeSpec := { name := "charsetAscii", fn := fun _ => fun
  | [d1, d2] => { results := [.lit (.bool false)], args := [d1, d2] }
  | _ => none }
def CharsetAsciiWrongFalsely : Prop := charsetAsciiRow.holds Tryd.pinned (OpenSpec.ofChange charsetAsciiWrong)

/-- 'posthornlaw18.CharsetWide': WHATEVER THE INPUT: true; the input reads as it did. -/
def charsetWideSpec : ChangeSpec := { name := "charsetWide", fn := fun _ => fun
  | [d] => { results := [.lit (.bool true)], args := [d] }
  | _ => none }
def charsetWideRow : OpenClaim := { program := "ytlhhbmolkiojfaadoor", sum := "d82af0a3bc2463cb145a21e05d569fac977121a03b9efa0e89919baf5d167085", func := "posthorn/posthornlaw18.CharsetWide", spec := "charsetWide", named := ["posthorn/charset.signsOf9", "posthorn/charset.signsOfWindows"], apart := false, laid := [("posthorn/charset.signsOf9", laid_posthorn_charset_signsOf9), ("posthorn/charset.signsOfWindows", laid_posthorn_charset_signsOfWindows)] }
def CharsetWideSaid : Prop := charsetWideRow.holds Tryd.pinned (OpenSpec.ofChange charsetWideSpec)

/-- ITS FALSE NEIGHBOUR: 'it returns false'. Refute it at one input. -/
def charsetWideWrong : ChangeSpec := { name := "charsetWide", fn := fun _ => fun
  | [d] => { results := [.lit (.bool false)], args := [d] }
  | _ => none }
def CharsetWideWrongFalsely : Prop := charsetWideRow.holds Tryd.pinned (OpenSpec.ofChange charsetWideWrong)

/- THE SECOND FORM. 'bulk': how many values and letters a reading holds, each counted each time it is reached (what is shared counts as often as it is met; a slice's spare places count too). A statement '..UptoSaid' is the law's where the arguments, and the package variables that the reading takes, are together of bulk at most 1048576: NARROWER than '..Said'. Prove '..Said' where nothing that the law and all that it calls make is longer than what came in: it says more and counts as full. Else prove '..UptoSaid'. A law counts once. -/
mutual
def uptoBulk {H : Type} : DataW H → Nat
  | .lit (.string bytes) => bytes.length + 1
  | .lit _ => 1
  | .nil => 1
  | .ptr d => uptoBulk d + 1
  | .slice elems spare => uptoBulkAll elems + uptoBulkAll spare + 1
  | .agg parts => uptoBulkAll parts + 1
  | .iface _ d => uptoBulk d + 1
  | .map entries => uptoBulkEntries entries + 1
  | .held _ => 1
def uptoBulkAll {H : Type} : List (DataW H) → Nat
  | [] => 0
  | d :: r => uptoBulk d + uptoBulkAll r
def uptoBulkEntries {H : Type} : List (Lit × DataW H) → Nat
  | [] => 0
  | x :: r => uptoBulkEntry x + uptoBulkEntries r
def uptoBulkEntry {H : Type} : Lit × DataW H → Nat
  | (.string bytes, d) => bytes.length + uptoBulk d + 1
  | (_, d) => uptoBulk d + 1
 end
def uptoSmall : (H : Type) → List (DataW H) → Bool := fun _ ds => decide (uptoBulkAll ds ≤ 1048576)
def OpenSpec.upto (s : _root_.Go.ChangeSpec) : _root_.Go.OpenSpec := { _root_.Go.OpenSpec.ofChange s with cond := some uptoSmall }

/-- 'posthornlaw18.CharsetDecodes', WHERE WHAT IT READS IS OF BULK AT MOST 1048576: true; the input reads as it did. -/
def charsetDecodesUptoRow : OpenClaim := { program := "ytlhhbmolkiojfaadoor", sum := "d82af0a3bc2463cb145a21e05d569fac977121a03b9efa0e89919baf5d167085", func := "posthorn/posthornlaw18.CharsetDecodes", spec := "charsetDecodes", named := ["posthorn/charset.signsOf9", "posthorn/charset.signsOfWindows"], apart := false, laid := [("posthorn/charset.signsOf9", laid_posthorn_charset_signsOf9), ("posthorn/charset.signsOfWindows", laid_posthorn_charset_signsOfWindows)], narrowed := true }
def CharsetDecodesUptoSaid : Prop := charsetDecodesUptoRow.holds Tryd.pinned (OpenSpec.upto charsetDecodesSpec)

/-- 'posthornlaw18.CharsetEncodes', WHERE WHAT IT READS IS OF BULK AT MOST 1048576: true; the input reads as it did. -/
def charsetEncodesUptoRow : OpenClaim := { program := "ytlhhbmolkiojfaadoor", sum := "d82af0a3bc2463cb145a21e05d569fac977121a03b9efa0e89919baf5d167085", func := "posthorn/posthornlaw18.CharsetEncodes", spec := "charsetEncodes", named := ["posthorn/charset.signsOf9", "posthorn/charset.signsOfWindows"], apart := false, laid := [("posthorn/charset.signsOf9", laid_posthorn_charset_signsOf9), ("posthorn/charset.signsOfWindows", laid_posthorn_charset_signsOfWindows)], narrowed := true }
def CharsetEncodesUptoSaid : Prop := charsetEncodesUptoRow.holds Tryd.pinned (OpenSpec.upto charsetEncodesSpec)

/-- 'posthornlaw18.CharsetBack', WHERE WHAT IT READS IS OF BULK AT MOST 1048576: true; the input reads as it did. -/
def charsetBackUptoRow : OpenClaim := { program := "ytlhhbmolkiojfaadoor", sum := "d82af0a3bc2463cb145a21e05d569fac977121a03b9efa0e89919baf5d167085", func := "posthorn/posthornlaw18.CharsetBack", spec := "charsetBack", named := ["posthorn/charset.signsOf9", "posthorn/charset.signsOfWindows"], apart := false, laid := [("posthorn/charset.signsOf9", laid_posthorn_charset_signsOf9), ("posthorn/charset.signsOfWindows", laid_posthorn_charset_signsOfWindows)], narrowed := true }
def CharsetBackUptoSaid : Prop := charsetBackUptoRow.holds Tryd.pinned (OpenSpec.upto charsetBackSpec)

/-- 'posthornlaw18.CharsetBytes', WHERE WHAT IT READS IS OF BULK AT MOST 1048576: true; the input reads as it did. -/
def charsetBytesUptoRow : OpenClaim := { program := "ytlhhbmolkiojfaadoor", sum := "d82af0a3bc2463cb145a21e05d569fac977121a03b9efa0e89919baf5d167085", func := "posthorn/posthornlaw18.CharsetBytes", spec := "charsetBytes", named := ["posthorn/charset.signsOf9", "posthorn/charset.signsOfWindows"], apart := false, laid := [("posthorn/charset.signsOf9", laid_posthorn_charset_signsOf9), ("posthorn/charset.signsOfWindows", laid_posthorn_charset_signsOfWindows)], narrowed := true }
def CharsetBytesUptoSaid : Prop := charsetBytesUptoRow.holds Tryd.pinned (OpenSpec.upto charsetBytesSpec)

/-- 'posthornlaw18.CharsetAscii', WHERE WHAT IT READS IS OF BULK AT MOST 1048576: true; the input reads as it did. -/
def charsetAsciiUptoRow : OpenClaim := { program := "ytlhhbmolkiojfaadoor", sum := "d82af0a3bc2463cb145a21e05d569fac977121a03b9efa0e89919baf5d167085", func := "posthorn/posthornlaw18.CharsetAscii", spec := "charsetAscii", named := ["posthorn/charset.signsOf9", "posthorn/charset.signsOfWindows"], apart := false, laid := [("posthorn/charset.signsOf9", laid_posthorn_charset_signsOf9), ("posthorn/charset.signsOfWindows", laid_posthorn_charset_signsOfWindows)], narrowed := true }
def CharsetAsciiUptoSaid : Prop := charsetAsciiUptoRow.holds Tryd.pinned (OpenSpec.upto charsetAsciiSpec)

/-- 'posthornlaw18.CharsetWide', WHERE WHAT IT READS IS OF BULK AT MOST 1048576: true; the input reads as it did. -/
def charsetWideUptoRow : OpenClaim := { program := "ytlhhbmolkiojfaadoor", sum := "d82af0a3bc2463cb145a21e05d569fac977121a03b9efa0e89919baf5d167085", func := "posthorn/posthornlaw18.CharsetWide", spec := "charsetWide", named := ["posthorn/charset.signsOf9", "posthorn/charset.signsOfWindows"], apart := false, laid := [("posthorn/charset.signsOf9", laid_posthorn_charset_signsOf9), ("posthorn/charset.signsOfWindows", laid_posthorn_charset_signsOfWindows)], narrowed := true }
def CharsetWideUptoSaid : Prop := charsetWideUptoRow.holds Tryd.pinned (OpenSpec.upto charsetWideSpec)

end Rows
end Go.Proofs.YtlhhbmolkiojfaaDoor
