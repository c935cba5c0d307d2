/-
  DERIVED. GIVEN WITH THE SEED: THE CARDS: each row of YtlgcjdgcgnlcaaaGreatDoorRows.lean that lists a variable, with what it lists TIED to the program's text (the seventh form; the later family's looks); each row that meets fmt, with fmt's text TOLD by the authors' own Lean function (tested against real Go, not proved from fmt's source: count such statements apart). THE CARD IS WHAT COUNTS. Prove the row's statement (the work); the ties are given (YtlgcjdgcgnlcaaaGreatDoorTie.lean); close each card by the builder's one call (the guide's Derived/Test/ToyasCard.lean, 'card_holds'). Laid BY PROGRAM, IN A SANDBOX (cutbox-door.mjs). By AI agents, Wed Nov 11 2026. No macro, syntax, notation, axiom, sorry.
-/
import Derived.Test.YtlgcjdgcgnlcaaaGreatDoorRows
import GoSem.ClaimSeven
namespace Go.Proofs.YtlgcjdgcgnlcaaaGreatDoor
namespace Rows

/-- THE TIED CARD OF 'coppicelaw14.ShelfPlays'. -/
def shelfPlaysCard : Claim7 := { stood := { row := shelfPlaysRow, standIns := [], harness := (true, "87565370eb32b896e66b95bc0d04f4143ed196db3d03e04dbf76d74125efba2c"), looks := true }, kinds := [], alts := [], laidByText := true, laidKinds := [.data, .data, .data, .data, .sentinel, .sentinel, .pinned], laidTests := true, laidLooks := .later }
def ShelfPlaysCardSaid : Prop := Claim7.holds Tryz.pinned (.plain (OpenSpec.ofChange shelfPlaysSpec)) shelfPlaysCard

/-- THE TIED CARD OF 'coppicelaw14.ShelfNobody'. -/
def shelfNobodyCard : Claim7 := { stood := { row := shelfNobodyRow, standIns := [], harness := (true, "87565370eb32b896e66b95bc0d04f4143ed196db3d03e04dbf76d74125efba2c"), looks := true }, kinds := [], alts := [], laidByText := true, laidKinds := [.data, .data, .data, .data, .sentinel, .sentinel, .pinned], laidTests := true, laidLooks := .later }
def ShelfNobodyCardSaid : Prop := Claim7.holds Tryz.pinned (.plain (OpenSpec.ofChange shelfNobodySpec)) shelfNobodyCard

/-- THE TIED CARD OF 'coppicelaw14.ShelfPower'. -/
def shelfPowerCard : Claim7 := { stood := { row := shelfPowerRow, standIns := [], harness := (true, "87565370eb32b896e66b95bc0d04f4143ed196db3d03e04dbf76d74125efba2c"), looks := true }, kinds := [], alts := [], laidByText := true, laidKinds := [.data, .data, .data, .data, .sentinel, .sentinel, .pinned], laidTests := true, laidLooks := .later }
def ShelfPowerCardSaid : Prop := Claim7.holds Tryz.pinned (.plain (OpenSpec.ofChange shelfPowerSpec)) shelfPowerCard

/-- THE SECOND FORM's CARD OF 'coppicelaw14.ShelfPlays'. -/
def shelfPlaysUptoCard : Claim7 := { stood := { row := shelfPlaysUptoRow, standIns := [], harness := (true, "87565370eb32b896e66b95bc0d04f4143ed196db3d03e04dbf76d74125efba2c"), looks := true }, kinds := [], alts := [], laidByText := true, laidKinds := [.data, .data, .data, .data, .sentinel, .sentinel, .pinned], laidTests := true, laidLooks := .later }
def ShelfPlaysUptoCardSaid : Prop := Claim7.holds Tryz.pinned (.plain (OpenSpec.upto shelfPlaysSpec)) shelfPlaysUptoCard

/-- THE SECOND FORM's CARD OF 'coppicelaw14.ShelfNobody'. -/
def shelfNobodyUptoCard : Claim7 := { stood := { row := shelfNobodyUptoRow, standIns := [], harness := (true, "87565370eb32b896e66b95bc0d04f4143ed196db3d03e04dbf76d74125efba2c"), looks := true }, kinds := [], alts := [], laidByText := true, laidKinds := [.data, .data, .data, .data, .sentinel, .sentinel, .pinned], laidTests := true, laidLooks := .later }
def ShelfNobodyUptoCardSaid : Prop := Claim7.holds Tryz.pinned (.plain (OpenSpec.upto shelfNobodySpec)) shelfNobodyUptoCard

/-- THE SECOND FORM's CARD OF 'coppicelaw14.ShelfPower'. -/
def shelfPowerUptoCard : Claim7 := { stood := { row := shelfPowerUptoRow, standIns := [], harness := (true, "87565370eb32b896e66b95bc0d04f4143ed196db3d03e04dbf76d74125efba2c"), looks := true }, kinds := [], alts := [], laidByText := true, laidKinds := [.data, .data, .data, .data, .sentinel, .sentinel, .pinned], laidTests := true, laidLooks := .later }
def ShelfPowerUptoCardSaid : Prop := Claim7.holds Tryz.pinned (.plain (OpenSpec.upto shelfPowerSpec)) shelfPowerUptoCard
end Rows
end Go.Proofs.YtlgcjdgcgnlcaaaGreatDoor
