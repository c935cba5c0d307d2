/-
  DERIVED. GIVEN WITH THE SEED: THE CARDS: each row of YtfgibmpllnkfeabDoorRows.lean that lists a variable, with what it lists TIED to the program's text (the seventh form; the later family's looks); each row that meets fmt, with fmt's text TOLD by the authors' own Lean function (tested against real Go, not proved from fmt's source: count such statements apart). THE CARD IS WHAT COUNTS. Prove the row's statement (the work); the ties are given (YtfgibmpllnkfeabDoorTie.lean); close each card by the builder's one call (the guide's Derived/Test/ToyasCard.lean, 'card_holds'). Laid BY PROGRAM, IN A SANDBOX (cutbox-door.mjs). By AI agents, Wed Nov 11 2026. No macro, syntax, notation, axiom, sorry.
-/
import Derived.Test.YtfgibmpllnkfeabDoorRows
import GoSem.ClaimSeven
namespace Go.Proofs.YtfgibmpllnkfeabDoor
namespace Rows

/-- THE TIED CARD OF 'coppicelaw02.HashPieces'. -/
def hashPiecesCard : Claim7 := { stood := { row := hashPiecesRow, standIns := [], harness := (true, "f0c12417b26533ece3fd729b27b2ecd71de5e3576c6fadc6155332f6b94ab04f"), looks := false }, kinds := [], alts := [], laidByText := true, laidKinds := [.data], laidTests := true, laidLooks := .later }
def HashPiecesCardSaid : Prop := Claim7.holds Tryd.pinned (.plain (OpenSpec.ofChange hashPiecesSpec)) hashPiecesCard

/-- THE TIED CARD OF 'coppicelaw02.HashLengthens'. -/
def hashLengthensCard : Claim7 := { stood := { row := hashLengthensRow, standIns := [], harness := (true, "f0c12417b26533ece3fd729b27b2ecd71de5e3576c6fadc6155332f6b94ab04f"), looks := false }, kinds := [], alts := [], laidByText := true, laidKinds := [.data], laidTests := true, laidLooks := .later }
def HashLengthensCardSaid : Prop := Claim7.holds Tryd.pinned (.plain (OpenSpec.ofChange hashLengthensSpec)) hashLengthensCard

/-- THE SECOND FORM's CARD OF 'coppicelaw02.HashPieces'. -/
def hashPiecesUptoCard : Claim7 := { stood := { row := hashPiecesUptoRow, standIns := [], harness := (true, "f0c12417b26533ece3fd729b27b2ecd71de5e3576c6fadc6155332f6b94ab04f"), looks := false }, kinds := [], alts := [], laidByText := true, laidKinds := [.data], laidTests := true, laidLooks := .later }
def HashPiecesUptoCardSaid : Prop := Claim7.holds Tryd.pinned (.plain (OpenSpec.upto hashPiecesSpec)) hashPiecesUptoCard

/-- THE SECOND FORM's CARD OF 'coppicelaw02.HashLengthens'. -/
def hashLengthensUptoCard : Claim7 := { stood := { row := hashLengthensUptoRow, standIns := [], harness := (true, "f0c12417b26533ece3fd729b27b2ecd71de5e3576c6fadc6155332f6b94ab04f"), looks := false }, kinds := [], alts := [], laidByText := true, laidKinds := [.data], laidTests := true, laidLooks := .later }
def HashLengthensUptoCardSaid : Prop := Claim7.holds Tryd.pinned (.plain (OpenSpec.upto hashLengthensSpec)) hashLengthensUptoCard
end Rows
end Go.Proofs.YtfgibmpllnkfeabDoor
