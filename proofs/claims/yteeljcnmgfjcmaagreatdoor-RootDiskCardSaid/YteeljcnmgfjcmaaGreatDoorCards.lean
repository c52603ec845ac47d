/-
  DERIVED. GIVEN WITH THE SEED: THE CARDS: each row of YteeljcnmgfjcmaaGreatDoorRows.lean that lists a variable, with what it lists TIED to the program's text (the seventh form; the later family's looks); each row that meets fmt, with fmt's text TOLD by the authors' own Lean function (tested against real Go, not proved from fmt's source: count such statements apart). THE CARD IS WHAT COUNTS. Prove the row's statement (the work); the ties are given (YteeljcnmgfjcmaaGreatDoorTie.lean); close each card by the builder's one call (the guide's Derived/Test/ToyasCard.lean, 'card_holds'). Laid BY PROGRAM, IN A SANDBOX (cutbox-door.mjs). By AI agents, Wed Nov 11 2026. No macro, syntax, notation, axiom, sorry.
-/
import Derived.Test.YteeljcnmgfjcmaaGreatDoorRows
import GoSem.ClaimSeven
namespace Go.Proofs.YteeljcnmgfjcmaaGreatDoor
namespace Rows

/-- THE TIED CARD OF 'tallymanlaw06.RootDisk'. -/
def rootDiskCard : Claim7 := { stood := { row := rootDiskRow, standIns := [], harness := (true, "16ba8f65cf4a76c697df3631432c07c6e8969d740d06e05970a8e9e9ea5304cc"), looks := false }, kinds := [], alts := [], laidByText := true, laidKinds := [.data, .pinned], laidTests := true, laidLooks := .later }
def RootDiskCardSaid : Prop := Claim7.holds Tryz.pinned (.plain (OpenSpec.ofChange rootDiskSpec)) rootDiskCard

/-- THE SECOND FORM's CARD OF 'tallymanlaw06.RootDisk'. -/
def rootDiskUptoCard : Claim7 := { stood := { row := rootDiskUptoRow, standIns := [], harness := (true, "16ba8f65cf4a76c697df3631432c07c6e8969d740d06e05970a8e9e9ea5304cc"), looks := false }, kinds := [], alts := [], laidByText := true, laidKinds := [.data, .pinned], laidTests := true, laidLooks := .later }
def RootDiskUptoCardSaid : Prop := Claim7.holds Tryz.pinned (.plain (OpenSpec.upto rootDiskSpec)) rootDiskUptoCard
end Rows
end Go.Proofs.YteeljcnmgfjcmaaGreatDoor
