/-
  The fixed talk of alive: what the machine says of it.
-/
import Derived.Test.YtbckbonffajmeaaGreatDoorSx
namespace Go.Proofs.YtbckbonffajmeaaGreatDoor
open Go.RowKit Go.Shelf Go.Maps
set_option linter.unusedVariables false
set_option linter.unusedSimpArgs false

def scriptL : List Int := [69, 72, 76, 79, 32, 120, 13, 10, 77, 65, 73, 76, 32, 70, 82, 79, 77, 58, 60, 97, 64, 98, 62, 13, 10, 82, 67, 80, 84, 32, 84, 79, 58, 60, 79, 64, 120, 62, 13, 10, 68, 65, 84, 65, 13, 10]
def tailL : List Int := [46, 13, 10, 81, 85, 73, 84, 13, 10]
def al0 : SS := newS ⟨#[120]⟩ [[111, 64, 120]] 100
theorem al_new : newOk ⟨#[120]⟩ [⟨#[111, 64, 120]⟩] 100 = true := by kernel_rfl
set_option maxRecDepth 100000 in
theorem al_n : (runS al0 scriptL).2.2 = 46 := by kernel_rfl
set_option maxRecDepth 100000 in
theorem al_out : ((runS al0 scriptL).2.1.drop ((runS al0 scriptL).2.1.length - 8), decide (7 < (runS al0 scriptL).2.1.length)) = ([51, 53, 52, 32, 111, 107, 13, 10], true) := by kernel_rfl
def al2 : SS × List Int × Nat := runS (runS al0 scriptL).1 tailL
set_option maxRecDepth 100000 in
theorem al_tail : (al2.2.1, al2.2.2, al2.1.takes, nums al2.1.sender, al2.1.tos.map nums, nums al2.1.host) = ([], 3, 2, [97, 64, 98], [[111, 64, 120]], [120]) := by kernel_rfl
end Go.Proofs.YtbckbonffajmeaaGreatDoor
