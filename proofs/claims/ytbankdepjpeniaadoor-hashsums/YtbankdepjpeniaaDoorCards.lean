/-
  DERIVED. GIVEN WITH THE SEED: THE CARDS: each row of YtbankdepjpeniaaDoorRows.lean that lists a variable, with what it lists TIED to the program's text (the seventh form; the later family's looks); each row that meets fmt, with fmt's text TOLD by the authors' own Lean function (tested against real Go, not proved from fmt's source: count such statements apart). THE CARD IS WHAT COUNTS. Prove the row's statement (the work); the ties are given (YtbankdepjpeniaaDoorTie.lean); close each card by the builder's one call (the guide's Derived/Test/ToyasCard.lean, 'card_holds'). Laid BY PROGRAM, IN A SANDBOX (cutbox-door.mjs). By AI agents, Wed Nov 11 2026. No macro, syntax, notation, axiom, sorry.
-/
import Derived.Test.YtbankdepjpeniaaDoorRows
import GoSem.ClaimSeven
namespace Go.Proofs.YtbankdepjpeniaaDoor
namespace Rows

/-- THE TIED CARD OF 'coppicelaw02.HashSums'. -/
def hashSumsCard : Claim7 := { stood := { row := hashSumsRow, standIns := [], harness := (true, "8a9680f79b6cb5d7f2a4a782adf8f2c18b5ed665808fc0ddc7bbf88189c447a3"), looks := false }, kinds := [], alts := [], laidByText := true, laidKinds := [.data], laidTests := true, laidLooks := .later }
def HashSumsCardSaid : Prop := Claim7.holds Tryd.pinned (.plain (OpenSpec.ofChange hashSumsSpec)) hashSumsCard

/-- THE TIED CARD OF 'coppicelaw02.HashBlocks'. -/
def hashBlocksCard : Claim7 := { stood := { row := hashBlocksRow, standIns := [], harness := (true, "8a9680f79b6cb5d7f2a4a782adf8f2c18b5ed665808fc0ddc7bbf88189c447a3"), looks := false }, kinds := [], alts := [], laidByText := true, laidKinds := [.data], laidTests := true, laidLooks := .later }
def HashBlocksCardSaid : Prop := Claim7.holds Tryd.pinned (.plain (OpenSpec.ofChange hashBlocksSpec)) hashBlocksCard

/-- THE TIED CARD OF 'coppicelaw02.HashNobody'. -/
def hashNobodyCard : Claim7 := { stood := { row := hashNobodyRow, standIns := [], harness := (true, "8a9680f79b6cb5d7f2a4a782adf8f2c18b5ed665808fc0ddc7bbf88189c447a3"), looks := false }, kinds := [], alts := [], laidByText := true, laidKinds := [.data], laidTests := true, laidLooks := .later }
def HashNobodyCardSaid : Prop := Claim7.holds Tryd.pinned (.plain (OpenSpec.ofChange hashNobodySpec)) hashNobodyCard

/-- THE TIED CARD OF 'coppicelaw02.HashPieces'. -/
def hashPiecesCard : Claim7 := { stood := { row := hashPiecesRow, standIns := [], harness := (true, "8a9680f79b6cb5d7f2a4a782adf8f2c18b5ed665808fc0ddc7bbf88189c447a3"), looks := false }, kinds := [], alts := [], laidByText := true, laidKinds := [.data], laidTests := true, laidLooks := .later }
def HashPiecesCardSaid : Prop := Claim7.holds Tryd.pinned (.plain (OpenSpec.ofChange hashPiecesSpec)) hashPiecesCard

/-- THE TIED CARD OF 'coppicelaw02.HashLengthens'. -/
def hashLengthensCard : Claim7 := { stood := { row := hashLengthensRow, standIns := [], harness := (true, "8a9680f79b6cb5d7f2a4a782adf8f2c18b5ed665808fc0ddc7bbf88189c447a3"), looks := false }, kinds := [], alts := [], laidByText := true, laidKinds := [.data], laidTests := true, laidLooks := .later }
def HashLengthensCardSaid : Prop := Claim7.holds Tryd.pinned (.plain (OpenSpec.ofChange hashLengthensSpec)) hashLengthensCard

/-- THE SECOND FORM's CARD OF 'coppicelaw02.HashSums'. -/
def hashSumsUptoCard : Claim7 := { stood := { row := hashSumsUptoRow, standIns := [], harness := (true, "8a9680f79b6cb5d7f2a4a782adf8f2c18b5ed665808fc0ddc7bbf88189c447a3"), looks := false }, kinds := [], alts := [], laidByText := true, laidKinds := [.data], laidTests := true, laidLooks := .later }
def HashSumsUptoCardSaid : Prop := Claim7.holds Tryd.pinned (.plain (OpenSpec.upto hashSumsSpec)) hashSumsUptoCard

/-- THE SECOND FORM's CARD OF 'coppicelaw02.HashBlocks'. -/
def hashBlocksUptoCard : Claim7 := { stood := { row := hashBlocksUptoRow, standIns := [], harness := (true, "8a9680f79b6cb5d7f2a4a782adf8f2c18b5ed665808fc0ddc7bbf88189c447a3"), looks := false }, kinds := [], alts := [], laidByText := true, laidKinds := [.data], laidTests := true, laidLooks := .later }
def HashBlocksUptoCardSaid : Prop := Claim7.holds Tryd.pinned (.plain (OpenSpec.upto hashBlocksSpec)) hashBlocksUptoCard

/-- THE SECOND FORM's CARD OF 'coppicelaw02.HashNobody'. -/
def hashNobodyUptoCard : Claim7 := { stood := { row := hashNobodyUptoRow, standIns := [], harness := (true, "8a9680f79b6cb5d7f2a4a782adf8f2c18b5ed665808fc0ddc7bbf88189c447a3"), looks := false }, kinds := [], alts := [], laidByText := true, laidKinds := [.data], laidTests := true, laidLooks := .later }
def HashNobodyUptoCardSaid : Prop := Claim7.holds Tryd.pinned (.plain (OpenSpec.upto hashNobodySpec)) hashNobodyUptoCard

/-- THE SECOND FORM's CARD OF 'coppicelaw02.HashPieces'. -/
def hashPiecesUptoCard : Claim7 := { stood := { row := hashPiecesUptoRow, standIns := [], harness := (true, "8a9680f79b6cb5d7f2a4a782adf8f2c18b5ed665808fc0ddc7bbf88189c447a3"), looks := false }, kinds := [], alts := [], laidByText := true, laidKinds := [.data], laidTests := true, laidLooks := .later }
def HashPiecesUptoCardSaid : Prop := Claim7.holds Tryd.pinned (.plain (OpenSpec.upto hashPiecesSpec)) hashPiecesUptoCard

/-- THE SECOND FORM's CARD OF 'coppicelaw02.HashLengthens'. -/
def hashLengthensUptoCard : Claim7 := { stood := { row := hashLengthensUptoRow, standIns := [], harness := (true, "8a9680f79b6cb5d7f2a4a782adf8f2c18b5ed665808fc0ddc7bbf88189c447a3"), looks := false }, kinds := [], alts := [], laidByText := true, laidKinds := [.data], laidTests := true, laidLooks := .later }
def HashLengthensUptoCardSaid : Prop := Claim7.holds Tryd.pinned (.plain (OpenSpec.upto hashLengthensSpec)) hashLengthensUptoCard
end Rows
end Go.Proofs.YtbankdepjpeniaaDoor
