/-
  DERIVED. GIVEN WITH THE SEED: THE CARDS: each row of YteeljcnmgfjcmaaDoorRows.lean that lists a variable, with what it lists TIED to the program's text (the seventh form; the later family's looks); each row that meets fmt, with fmt's text TOLD by the authors' own Lean function (tested against real Go, not proved from fmt's source: count such statements apart). THE CARD IS WHAT COUNTS. Prove the row's statement (the work); the ties are given (YteeljcnmgfjcmaaDoorTie.lean); close each card by the builder's one call (the guide's Derived/Test/ToyasCard.lean, 'card_holds'). Laid BY PROGRAM, IN A SANDBOX (cutbox-door.mjs). By AI agents, Wed Nov 11 2026. No macro, syntax, notation, axiom, sorry.
-/
import Derived.Test.YteeljcnmgfjcmaaDoorRows
import GoSem.ClaimSeven
namespace Go.Proofs.YteeljcnmgfjcmaaDoor
namespace Rows

/-- THE TIED CARD OF 'tallymanlaw06.RootNames'. -/
def rootNamesCard : Claim7 := { stood := { row := rootNamesRow, standIns := [], harness := (true, "1a33a9fbfdc3e2c487636b1745d243ce3976752df52f30b104371d40171c4f46"), looks := false }, kinds := [], alts := [], laidByText := true, laidKinds := [.data, .pinned], laidTests := true, laidLooks := .later }
def RootNamesCardSaid : Prop := Claim7.holds Tryd.pinned (.plain (OpenSpec.ofChange rootNamesSpec)) rootNamesCard

/-- THE TIED CARD OF 'tallymanlaw06.RootCalls'. -/
def rootCallsCard : Claim7 := { stood := { row := rootCallsRow, standIns := [], harness := (true, "1a33a9fbfdc3e2c487636b1745d243ce3976752df52f30b104371d40171c4f46"), looks := false }, kinds := [], alts := [], laidByText := true, laidKinds := [.data, .pinned], laidTests := true, laidLooks := .later }
def RootCallsCardSaid : Prop := Claim7.holds Tryd.pinned (.plain (OpenSpec.ofChange rootCallsSpec)) rootCallsCard

/-- THE TIED CARD OF 'tallymanlaw06.RootBack'. -/
def rootBackCard : Claim7 := { stood := { row := rootBackRow, standIns := [], harness := (true, "1a33a9fbfdc3e2c487636b1745d243ce3976752df52f30b104371d40171c4f46"), looks := false }, kinds := [], alts := [], laidByText := true, laidKinds := [.data, .pinned], laidTests := true, laidLooks := .later }
def RootBackCardSaid : Prop := Claim7.holds Tryd.pinned (.plain (OpenSpec.ofChange rootBackSpec)) rootBackCard

/-- THE TIED CARD OF 'tallymanlaw06.RootSafe'. -/
def rootSafeCard : Claim7 := { stood := { row := rootSafeRow, standIns := [], harness := (true, "1a33a9fbfdc3e2c487636b1745d243ce3976752df52f30b104371d40171c4f46"), looks := false }, kinds := [], alts := [], laidByText := true, laidKinds := [.data, .pinned], laidTests := true, laidLooks := .later }
def RootSafeCardSaid : Prop := Claim7.holds Tryd.pinned (.plain (OpenSpec.ofChange rootSafeSpec)) rootSafeCard

/-- THE TIED CARD OF 'tallymanlaw06.RootChoose'. -/
def rootChooseCard : Claim7 := { stood := { row := rootChooseRow, standIns := [], harness := (true, "1a33a9fbfdc3e2c487636b1745d243ce3976752df52f30b104371d40171c4f46"), looks := false }, kinds := [], alts := [], laidByText := true, laidKinds := [.data, .pinned], laidTests := true, laidLooks := .later }
def RootChooseCardSaid : Prop := Claim7.holds Tryd.pinned (.plain (OpenSpec.ofChange rootChooseSpec)) rootChooseCard

/-- THE SECOND FORM's CARD OF 'tallymanlaw06.RootNames'. -/
def rootNamesUptoCard : Claim7 := { stood := { row := rootNamesUptoRow, standIns := [], harness := (true, "1a33a9fbfdc3e2c487636b1745d243ce3976752df52f30b104371d40171c4f46"), looks := false }, kinds := [], alts := [], laidByText := true, laidKinds := [.data, .pinned], laidTests := true, laidLooks := .later }
def RootNamesUptoCardSaid : Prop := Claim7.holds Tryd.pinned (.plain (OpenSpec.upto rootNamesSpec)) rootNamesUptoCard

/-- THE SECOND FORM's CARD OF 'tallymanlaw06.RootCalls'. -/
def rootCallsUptoCard : Claim7 := { stood := { row := rootCallsUptoRow, standIns := [], harness := (true, "1a33a9fbfdc3e2c487636b1745d243ce3976752df52f30b104371d40171c4f46"), looks := false }, kinds := [], alts := [], laidByText := true, laidKinds := [.data, .pinned], laidTests := true, laidLooks := .later }
def RootCallsUptoCardSaid : Prop := Claim7.holds Tryd.pinned (.plain (OpenSpec.upto rootCallsSpec)) rootCallsUptoCard

/-- THE SECOND FORM's CARD OF 'tallymanlaw06.RootBack'. -/
def rootBackUptoCard : Claim7 := { stood := { row := rootBackUptoRow, standIns := [], harness := (true, "1a33a9fbfdc3e2c487636b1745d243ce3976752df52f30b104371d40171c4f46"), looks := false }, kinds := [], alts := [], laidByText := true, laidKinds := [.data, .pinned], laidTests := true, laidLooks := .later }
def RootBackUptoCardSaid : Prop := Claim7.holds Tryd.pinned (.plain (OpenSpec.upto rootBackSpec)) rootBackUptoCard

/-- THE SECOND FORM's CARD OF 'tallymanlaw06.RootSafe'. -/
def rootSafeUptoCard : Claim7 := { stood := { row := rootSafeUptoRow, standIns := [], harness := (true, "1a33a9fbfdc3e2c487636b1745d243ce3976752df52f30b104371d40171c4f46"), looks := false }, kinds := [], alts := [], laidByText := true, laidKinds := [.data, .pinned], laidTests := true, laidLooks := .later }
def RootSafeUptoCardSaid : Prop := Claim7.holds Tryd.pinned (.plain (OpenSpec.upto rootSafeSpec)) rootSafeUptoCard

/-- THE SECOND FORM's CARD OF 'tallymanlaw06.RootChoose'. -/
def rootChooseUptoCard : Claim7 := { stood := { row := rootChooseUptoRow, standIns := [], harness := (true, "1a33a9fbfdc3e2c487636b1745d243ce3976752df52f30b104371d40171c4f46"), looks := false }, kinds := [], alts := [], laidByText := true, laidKinds := [.data, .pinned], laidTests := true, laidLooks := .later }
def RootChooseUptoCardSaid : Prop := Claim7.holds Tryd.pinned (.plain (OpenSpec.upto rootChooseSpec)) rootChooseUptoCard
end Rows
end Go.Proofs.YteeljcnmgfjcmaaDoor
