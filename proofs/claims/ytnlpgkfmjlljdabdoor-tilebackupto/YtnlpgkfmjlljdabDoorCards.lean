/-
  DERIVED. GIVEN WITH THE SEED: THE CARDS: each row of YtnlpgkfmjlljdabDoorRows.lean that lists a variable, with what it lists TIED to the program's text (the seventh form; the later family's looks); each row that meets fmt, with fmt's text TOLD by the authors' own Lean function (tested against real Go, not proved from fmt's source: count such statements apart). THE CARD IS WHAT COUNTS. Prove the row's statement (the work); the ties are given (YtnlpgkfmjlljdabDoorTie.lean); close each card by the builder's one call (the guide's Derived/Test/ToyasCard.lean, 'card_holds'). Laid BY PROGRAM, IN A SANDBOX (cutbox-door.mjs). By AI agents, Wed Nov 11 2026. No macro, syntax, notation, axiom, sorry.
-/
import Derived.Test.YtnlpgkfmjlljdabDoorRows
import GoSem.ClaimSeven
namespace Go.Proofs.YtnlpgkfmjlljdabDoor
namespace Rows

/-- THE TIED CARD OF 'coppicelaw10.TileBack'. -/
def tileBackCard : Claim7 := { stood := { row := tileBackRow, standIns := [], harness := (true, "945dd888733e2b11735cd15d47e6fec91a6c64b4b34f8225e302fe469b346290"), looks := true }, kinds := [], alts := [], laidByText := true, laidKinds := [.data, .data, .data, .data, .sentinel, .sentinel, .pinned], laidTests := true, laidLooks := .later }
def TileBackCardSaid : Prop := Claim7.holds Tryd.pinned (.plain (OpenSpec.ofChange tileBackSpec)) tileBackCard

/-- THE TIED CARD OF 'coppicelaw10.TileSubs'. -/
def tileSubsCard : Claim7 := { stood := { row := tileSubsRow, standIns := [], harness := (true, "945dd888733e2b11735cd15d47e6fec91a6c64b4b34f8225e302fe469b346290"), looks := true }, kinds := [], alts := [], laidByText := true, laidKinds := [.data], laidTests := true, laidLooks := .later }
def TileSubsCardSaid : Prop := Claim7.holds Tryd.pinned (.plain (OpenSpec.ofChange tileSubsSpec)) tileSubsCard

/-- THE TIED CARD OF 'coppicelaw10.TileLevels'. -/
def tileLevelsCard : Claim7 := { stood := { row := tileLevelsRow, standIns := [], harness := (true, "945dd888733e2b11735cd15d47e6fec91a6c64b4b34f8225e302fe469b346290"), looks := true }, kinds := [], alts := [], laidByText := true, laidKinds := [.data], laidTests := true, laidLooks := .later }
def TileLevelsCardSaid : Prop := Claim7.holds Tryd.pinned (.plain (OpenSpec.ofChange tileLevelsSpec)) tileLevelsCard

/-- THE SECOND FORM's CARD OF 'coppicelaw10.TileBack'. -/
def tileBackUptoCard : Claim7 := { stood := { row := tileBackUptoRow, standIns := [], harness := (true, "945dd888733e2b11735cd15d47e6fec91a6c64b4b34f8225e302fe469b346290"), looks := true }, kinds := [], alts := [], laidByText := true, laidKinds := [.data, .data, .data, .data, .sentinel, .sentinel, .pinned], laidTests := true, laidLooks := .later }
def TileBackUptoCardSaid : Prop := Claim7.holds Tryd.pinned (.plain (OpenSpec.upto tileBackSpec)) tileBackUptoCard

/-- THE SECOND FORM's CARD OF 'coppicelaw10.TileSubs'. -/
def tileSubsUptoCard : Claim7 := { stood := { row := tileSubsUptoRow, standIns := [], harness := (true, "945dd888733e2b11735cd15d47e6fec91a6c64b4b34f8225e302fe469b346290"), looks := true }, kinds := [], alts := [], laidByText := true, laidKinds := [.data], laidTests := true, laidLooks := .later }
def TileSubsUptoCardSaid : Prop := Claim7.holds Tryd.pinned (.plain (OpenSpec.upto tileSubsSpec)) tileSubsUptoCard

/-- THE SECOND FORM's CARD OF 'coppicelaw10.TileLevels'. -/
def tileLevelsUptoCard : Claim7 := { stood := { row := tileLevelsUptoRow, standIns := [], harness := (true, "945dd888733e2b11735cd15d47e6fec91a6c64b4b34f8225e302fe469b346290"), looks := true }, kinds := [], alts := [], laidByText := true, laidKinds := [.data], laidTests := true, laidLooks := .later }
def TileLevelsUptoCardSaid : Prop := Claim7.holds Tryd.pinned (.plain (OpenSpec.upto tileLevelsSpec)) tileLevelsUptoCard
end Rows
end Go.Proofs.YtnlpgkfmjlljdabDoor
