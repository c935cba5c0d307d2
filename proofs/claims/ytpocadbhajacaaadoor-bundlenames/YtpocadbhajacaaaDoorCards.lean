/-
  DERIVED. GIVEN WITH THE SEED: THE CARDS: each row of YtpocadbhajacaaaDoorRows.lean that lists a variable, with what it lists TIED to the program's text (the seventh form; the later family's looks); each row that meets fmt, with fmt's text TOLD by the authors' own Lean function (tested against real Go, not proved from fmt's source: count such statements apart). THE CARD IS WHAT COUNTS. Prove the row's statement (the work); the ties are given (YtpocadbhajacaaaDoorTie.lean); close each card by the builder's one call (the guide's Derived/Test/ToyasCard.lean, 'card_holds'). Laid BY PROGRAM, IN A SANDBOX (cutbox-door.mjs). By AI agents, Wed Nov 11 2026. No macro, syntax, notation, axiom, sorry.
-/
import Derived.Test.YtpocadbhajacaaaDoorRows
import GoSem.ClaimSeven
namespace Go.Proofs.YtpocadbhajacaaaDoor
namespace Rows

/-- THE TIED CARD OF 'coppicelaw15.BundleNames'. -/
def bundleNamesCard : Claim7 := { stood := { row := bundleNamesRow, standIns := [], harness := (true, "8a95be98bb0caf62d76c79d2e9b8469f2dd9d72f5dc5fa330a16385cab58e15a"), looks := false }, kinds := [], alts := [], laidByText := true, laidKinds := [.data, .data, .data], laidTests := true, laidLooks := .later }
def BundleNamesCardSaid : Prop := Claim7.holds Tryd.pinned (.plain (OpenSpec.ofChange bundleNamesSpec)) bundleNamesCard

/-- THE SECOND FORM's CARD OF 'coppicelaw15.BundleNames'. -/
def bundleNamesUptoCard : Claim7 := { stood := { row := bundleNamesUptoRow, standIns := [], harness := (true, "8a95be98bb0caf62d76c79d2e9b8469f2dd9d72f5dc5fa330a16385cab58e15a"), looks := false }, kinds := [], alts := [], laidByText := true, laidKinds := [.data, .data, .data], laidTests := true, laidLooks := .later }
def BundleNamesUptoCardSaid : Prop := Claim7.holds Tryd.pinned (.plain (OpenSpec.upto bundleNamesSpec)) bundleNamesUptoCard
end Rows
end Go.Proofs.YtpocadbhajacaaaDoor
