/-
  DERIVED. GIVEN WITH THE SEED: THE CARDS: each row of YtedbgjpjipblcabDoorRows.lean that lists a variable, with what it lists TIED to the program's text (the seventh form; the later family's looks); each row that meets fmt, with fmt's text TOLD by the authors' own Lean function (tested against real Go, not proved from fmt's source: count such statements apart). THE CARD IS WHAT COUNTS. Prove the row's statement (the work); the ties are given (YtedbgjpjipblcabDoorTie.lean); close each card by the builder's one call (the guide's Derived/Test/ToyasCard.lean, 'card_holds'). Laid BY PROGRAM, IN A SANDBOX (cutbox-door.mjs). By AI agents, Wed Nov 11 2026. No macro, syntax, notation, axiom, sorry.
-/
import Derived.Test.YtedbgjpjipblcabDoorRows
import GoSem.ClaimSeven
namespace Go.Proofs.YtedbgjpjipblcabDoor
namespace Rows

/-- THE TIED CARD OF 'posthornlaw07.AddrRight'. -/
def addrRightCard : Claim7 := { stood := { row := addrRightRow, standIns := [], harness := (true, "e621e7d5d117c9e8080fe1df90f837d970380c47d31a3e1fcb575e6ba8b49a61"), looks := false }, kinds := [], alts := [], laidByText := true, laidKinds := [.data, .pinned], laidTests := true, laidLooks := .later }
def AddrRightCardSaid : Prop := Claim7.holds Tryd.pinned (.plain (OpenSpec.ofChange addrRightSpec)) addrRightCard

/-- THE SECOND FORM's CARD OF 'posthornlaw07.AddrRight'. -/
def addrRightUptoCard : Claim7 := { stood := { row := addrRightUptoRow, standIns := [], harness := (true, "e621e7d5d117c9e8080fe1df90f837d970380c47d31a3e1fcb575e6ba8b49a61"), looks := false }, kinds := [], alts := [], laidByText := true, laidKinds := [.data, .pinned], laidTests := true, laidLooks := .later }
def AddrRightUptoCardSaid : Prop := Claim7.holds Tryd.pinned (.plain (OpenSpec.upto addrRightSpec)) addrRightUptoCard
end Rows
end Go.Proofs.YtedbgjpjipblcabDoor
