/-
  DERIVED. GIVEN WITH THE SEED: THE CARDS: each row of YtlgcjdgcgnlcaaaDoorRows.lean that lists a variable, with what it lists TIED to the program's text (the seventh form; the later family's looks); each row that meets fmt, with fmt's text TOLD by the authors' own Lean function (tested against real Go, not proved from fmt's source: count such statements apart). THE CARD IS WHAT COUNTS. Prove the row's statement (the work); the ties are given (YtlgcjdgcgnlcaaaDoorTie.lean); close each card by the builder's one call (the guide's Derived/Test/ToyasCard.lean, 'card_holds'). Laid BY PROGRAM, IN A SANDBOX (cutbox-door.mjs). By AI agents, Wed Nov 11 2026. No macro, syntax, notation, axiom, sorry.
-/
import Derived.Test.YtlgcjdgcgnlcaaaDoorRows
import GoSem.ClaimSeven
namespace Go.Proofs.YtlgcjdgcgnlcaaaDoor
namespace Rows

/-- THE TIED CARD OF 'coppicelaw14.ShelfNames'. -/
def shelfNamesCard : Claim7 := { stood := { row := shelfNamesRow, standIns := [], harness := (true, "bcab89daebab6ec7299abebf4e3455215e9cf1cdf6082c64136e2ab0ed3ecf77"), looks := false }, kinds := [], alts := [], laidByText := true, laidKinds := [.data, .data, .data], laidTests := true, laidLooks := .later }
def ShelfNamesCardSaid : Prop := Claim7.holds Tryd.pinned (.plain (OpenSpec.ofChange shelfNamesSpec)) shelfNamesCard

/-- THE TIED CARD OF 'coppicelaw14.ShelfBack'. -/
def shelfBackCard : Claim7 := { stood := { row := shelfBackRow, standIns := [], harness := (true, "bcab89daebab6ec7299abebf4e3455215e9cf1cdf6082c64136e2ab0ed3ecf77"), looks := false }, kinds := [], alts := [], laidByText := true, laidKinds := [.data, .data, .data], laidTests := true, laidLooks := .later }
def ShelfBackCardSaid : Prop := Claim7.holds Tryd.pinned (.plain (OpenSpec.ofChange shelfBackSpec)) shelfBackCard

/-- THE TIED CARD OF 'coppicelaw14.ShelfStays'. -/
def shelfStaysCard : Claim7 := { stood := { row := shelfStaysRow, standIns := [], harness := (true, "bcab89daebab6ec7299abebf4e3455215e9cf1cdf6082c64136e2ab0ed3ecf77"), looks := false }, kinds := [], alts := [], laidByText := true, laidKinds := [.data, .data, .data], laidTests := true, laidLooks := .later }
def ShelfStaysCardSaid : Prop := Claim7.holds Tryd.pinned (.plain (OpenSpec.ofChange shelfStaysSpec)) shelfStaysCard

/-- THE SECOND FORM's CARD OF 'coppicelaw14.ShelfNames'. -/
def shelfNamesUptoCard : Claim7 := { stood := { row := shelfNamesUptoRow, standIns := [], harness := (true, "bcab89daebab6ec7299abebf4e3455215e9cf1cdf6082c64136e2ab0ed3ecf77"), looks := false }, kinds := [], alts := [], laidByText := true, laidKinds := [.data, .data, .data], laidTests := true, laidLooks := .later }
def ShelfNamesUptoCardSaid : Prop := Claim7.holds Tryd.pinned (.plain (OpenSpec.upto shelfNamesSpec)) shelfNamesUptoCard

/-- THE SECOND FORM's CARD OF 'coppicelaw14.ShelfBack'. -/
def shelfBackUptoCard : Claim7 := { stood := { row := shelfBackUptoRow, standIns := [], harness := (true, "bcab89daebab6ec7299abebf4e3455215e9cf1cdf6082c64136e2ab0ed3ecf77"), looks := false }, kinds := [], alts := [], laidByText := true, laidKinds := [.data, .data, .data], laidTests := true, laidLooks := .later }
def ShelfBackUptoCardSaid : Prop := Claim7.holds Tryd.pinned (.plain (OpenSpec.upto shelfBackSpec)) shelfBackUptoCard

/-- THE SECOND FORM's CARD OF 'coppicelaw14.ShelfStays'. -/
def shelfStaysUptoCard : Claim7 := { stood := { row := shelfStaysUptoRow, standIns := [], harness := (true, "bcab89daebab6ec7299abebf4e3455215e9cf1cdf6082c64136e2ab0ed3ecf77"), looks := false }, kinds := [], alts := [], laidByText := true, laidKinds := [.data, .data, .data], laidTests := true, laidLooks := .later }
def ShelfStaysUptoCardSaid : Prop := Claim7.holds Tryd.pinned (.plain (OpenSpec.upto shelfStaysSpec)) shelfStaysUptoCard
end Rows
end Go.Proofs.YtlgcjdgcgnlcaaaDoor
