/-
  DERIVED. GIVEN WITH THE SEED: THE CARDS: each row of YtdggooanpamoeaaDoorRows.lean that lists a variable, with what it lists TIED to the program's text (the seventh form; the later family's looks); each row that meets fmt, with fmt's text TOLD by the authors' own Lean function (tested against real Go, not proved from fmt's source: count such statements apart). THE CARD IS WHAT COUNTS. Prove the row's statement (the work); the ties are given (YtdggooanpamoeaaDoorTie.lean); close each card by the builder's one call (the guide's Derived/Test/ToyasCard.lean, 'card_holds'). Laid BY PROGRAM, IN A SANDBOX (cutbox-door.mjs). By AI agents, Wed Nov 11 2026. No macro, syntax, notation, axiom, sorry.
-/
import Derived.Test.YtdggooanpamoeaaDoorRows
import GoSem.ClaimSeven
namespace Go.Proofs.YtdggooanpamoeaaDoor
namespace Rows

/-- THE TIED CARD OF 'coppicelaw07.VerifyPaths'. -/
def verifyPathsCard : Claim7 := { stood := { row := verifyPathsRow, standIns := [], harness := (true, "bb04e8d8fb2ec1d15ab3eb10cbac89507c39183299403d4d25e2111642503f68"), looks := false }, kinds := [], alts := [], laidByText := true, laidKinds := [.data], laidTests := true, laidLooks := .later }
def VerifyPathsCardSaid : Prop := Claim7.holds Tryd.pinned (.plain (OpenSpec.ofChange verifyPathsSpec)) verifyPathsCard

/-- THE TIED CARD OF 'coppicelaw07.VerifySteps'. -/
def verifyStepsCard : Claim7 := { stood := { row := verifyStepsRow, standIns := [], harness := (true, "bb04e8d8fb2ec1d15ab3eb10cbac89507c39183299403d4d25e2111642503f68"), looks := false }, kinds := [], alts := [], laidByText := true, laidKinds := [.data], laidTests := true, laidLooks := .later }
def VerifyStepsCardSaid : Prop := Claim7.holds Tryd.pinned (.plain (OpenSpec.ofChange verifyStepsSpec)) verifyStepsCard

/-- THE TIED CARD OF 'coppicelaw07.VerifyBack'. -/
def verifyBackCard : Claim7 := { stood := { row := verifyBackRow, standIns := [], harness := (true, "bb04e8d8fb2ec1d15ab3eb10cbac89507c39183299403d4d25e2111642503f68"), looks := false }, kinds := [], alts := [], laidByText := true, laidKinds := [.data], laidTests := true, laidLooks := .later }
def VerifyBackCardSaid : Prop := Claim7.holds Tryd.pinned (.plain (OpenSpec.ofChange verifyBackSpec)) verifyBackCard

/-- THE TIED CARD OF 'coppicelaw07.VerifyTurned'. -/
def verifyTurnedCard : Claim7 := { stood := { row := verifyTurnedRow, standIns := [], harness := (true, "bb04e8d8fb2ec1d15ab3eb10cbac89507c39183299403d4d25e2111642503f68"), looks := false }, kinds := [], alts := [], laidByText := true, laidKinds := [.data], laidTests := true, laidLooks := .later }
def VerifyTurnedCardSaid : Prop := Claim7.holds Tryd.pinned (.plain (OpenSpec.ofChange verifyTurnedSpec)) verifyTurnedCard

/-- THE SECOND FORM's CARD OF 'coppicelaw07.VerifyPaths'. -/
def verifyPathsUptoCard : Claim7 := { stood := { row := verifyPathsUptoRow, standIns := [], harness := (true, "bb04e8d8fb2ec1d15ab3eb10cbac89507c39183299403d4d25e2111642503f68"), looks := false }, kinds := [], alts := [], laidByText := true, laidKinds := [.data], laidTests := true, laidLooks := .later }
def VerifyPathsUptoCardSaid : Prop := Claim7.holds Tryd.pinned (.plain (OpenSpec.upto verifyPathsSpec)) verifyPathsUptoCard

/-- THE SECOND FORM's CARD OF 'coppicelaw07.VerifySteps'. -/
def verifyStepsUptoCard : Claim7 := { stood := { row := verifyStepsUptoRow, standIns := [], harness := (true, "bb04e8d8fb2ec1d15ab3eb10cbac89507c39183299403d4d25e2111642503f68"), looks := false }, kinds := [], alts := [], laidByText := true, laidKinds := [.data], laidTests := true, laidLooks := .later }
def VerifyStepsUptoCardSaid : Prop := Claim7.holds Tryd.pinned (.plain (OpenSpec.upto verifyStepsSpec)) verifyStepsUptoCard

/-- THE SECOND FORM's CARD OF 'coppicelaw07.VerifyBack'. -/
def verifyBackUptoCard : Claim7 := { stood := { row := verifyBackUptoRow, standIns := [], harness := (true, "bb04e8d8fb2ec1d15ab3eb10cbac89507c39183299403d4d25e2111642503f68"), looks := false }, kinds := [], alts := [], laidByText := true, laidKinds := [.data], laidTests := true, laidLooks := .later }
def VerifyBackUptoCardSaid : Prop := Claim7.holds Tryd.pinned (.plain (OpenSpec.upto verifyBackSpec)) verifyBackUptoCard

/-- THE SECOND FORM's CARD OF 'coppicelaw07.VerifyTurned'. -/
def verifyTurnedUptoCard : Claim7 := { stood := { row := verifyTurnedUptoRow, standIns := [], harness := (true, "bb04e8d8fb2ec1d15ab3eb10cbac89507c39183299403d4d25e2111642503f68"), looks := false }, kinds := [], alts := [], laidByText := true, laidKinds := [.data], laidTests := true, laidLooks := .later }
def VerifyTurnedUptoCardSaid : Prop := Claim7.holds Tryd.pinned (.plain (OpenSpec.upto verifyTurnedSpec)) verifyTurnedUptoCard
end Rows
end Go.Proofs.YtdggooanpamoeaaDoor
