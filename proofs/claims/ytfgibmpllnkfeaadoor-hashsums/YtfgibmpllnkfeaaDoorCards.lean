/-
  DERIVED. GIVEN WITH THE SEED: THE CARDS: each row of YtfgibmpllnkfeaaDoorRows.lean that lists a variable, with what it lists TIED to the program's text (the seventh form; the later family's looks); each row that meets fmt, with fmt's text TOLD by the authors' own Lean function (tested against real Go, not proved from fmt's source: count such statements apart). THE CARD IS WHAT COUNTS. Prove the row's statement (the work); the ties are given (YtfgibmpllnkfeaaDoorTie.lean); close each card by the builder's one call (the guide's Derived/Test/ToyasCard.lean, 'card_holds'). Laid BY PROGRAM, IN A SANDBOX (cutbox-door.mjs). By AI agents, Wed Nov 11 2026. No macro, syntax, notation, axiom, sorry.
-/
import Derived.Test.YtfgibmpllnkfeaaDoorRows
import GoSem.ClaimSeven
namespace Go.Proofs.YtfgibmpllnkfeaaDoor
namespace Rows

/-- THE TIED CARD OF 'coppicelaw02.HashSums'. -/
def hashSumsCard : Claim7 := { stood := { row := hashSumsRow, standIns := [], harness := (true, "fd6145d860b2ceeb1eb1a3d82d1c9bee383607f8874c1e416bb8cc85dfa6b084"), looks := false }, kinds := [], alts := [], laidByText := true, laidKinds := [.data], laidTests := true, laidLooks := .later }
def HashSumsCardSaid : Prop := Claim7.holds Tryd.pinned (.plain (OpenSpec.ofChange hashSumsSpec)) hashSumsCard

/-- THE TIED CARD OF 'coppicelaw02.HashBlocks'. -/
def hashBlocksCard : Claim7 := { stood := { row := hashBlocksRow, standIns := [], harness := (true, "fd6145d860b2ceeb1eb1a3d82d1c9bee383607f8874c1e416bb8cc85dfa6b084"), looks := false }, kinds := [], alts := [], laidByText := true, laidKinds := [.data], laidTests := true, laidLooks := .later }
def HashBlocksCardSaid : Prop := Claim7.holds Tryd.pinned (.plain (OpenSpec.ofChange hashBlocksSpec)) hashBlocksCard

/-- THE TIED CARD OF 'coppicelaw02.HashGrows'. -/
def hashGrowsCard : Claim7 := { stood := { row := hashGrowsRow, standIns := [], harness := (true, "fd6145d860b2ceeb1eb1a3d82d1c9bee383607f8874c1e416bb8cc85dfa6b084"), looks := false }, kinds := [], alts := [], laidByText := true, laidKinds := [.data], laidTests := true, laidLooks := .later }
def HashGrowsCardSaid : Prop := Claim7.holds Tryd.pinned (.plain (OpenSpec.ofChange hashGrowsSpec)) hashGrowsCard

/-- THE TIED CARD OF 'coppicelaw02.HashLoads'. -/
def hashLoadsCard : Claim7 := { stood := { row := hashLoadsRow, standIns := [], harness := (true, "fd6145d860b2ceeb1eb1a3d82d1c9bee383607f8874c1e416bb8cc85dfa6b084"), looks := false }, kinds := [], alts := [], laidByText := true, laidKinds := [.data], laidTests := true, laidLooks := .later }
def HashLoadsCardSaid : Prop := Claim7.holds Tryd.pinned (.plain (OpenSpec.ofChange hashLoadsSpec)) hashLoadsCard

/-- THE TIED CARD OF 'coppicelaw02.HashNobody'. -/
def hashNobodyCard : Claim7 := { stood := { row := hashNobodyRow, standIns := [], harness := (true, "fd6145d860b2ceeb1eb1a3d82d1c9bee383607f8874c1e416bb8cc85dfa6b084"), looks := false }, kinds := [], alts := [], laidByText := true, laidKinds := [.data], laidTests := true, laidLooks := .later }
def HashNobodyCardSaid : Prop := Claim7.holds Tryd.pinned (.plain (OpenSpec.ofChange hashNobodySpec)) hashNobodyCard

/-- THE SECOND FORM's CARD OF 'coppicelaw02.HashSums'. -/
def hashSumsUptoCard : Claim7 := { stood := { row := hashSumsUptoRow, standIns := [], harness := (true, "fd6145d860b2ceeb1eb1a3d82d1c9bee383607f8874c1e416bb8cc85dfa6b084"), looks := false }, kinds := [], alts := [], laidByText := true, laidKinds := [.data], laidTests := true, laidLooks := .later }
def HashSumsUptoCardSaid : Prop := Claim7.holds Tryd.pinned (.plain (OpenSpec.upto hashSumsSpec)) hashSumsUptoCard

/-- THE SECOND FORM's CARD OF 'coppicelaw02.HashBlocks'. -/
def hashBlocksUptoCard : Claim7 := { stood := { row := hashBlocksUptoRow, standIns := [], harness := (true, "fd6145d860b2ceeb1eb1a3d82d1c9bee383607f8874c1e416bb8cc85dfa6b084"), looks := false }, kinds := [], alts := [], laidByText := true, laidKinds := [.data], laidTests := true, laidLooks := .later }
def HashBlocksUptoCardSaid : Prop := Claim7.holds Tryd.pinned (.plain (OpenSpec.upto hashBlocksSpec)) hashBlocksUptoCard

/-- THE SECOND FORM's CARD OF 'coppicelaw02.HashGrows'. -/
def hashGrowsUptoCard : Claim7 := { stood := { row := hashGrowsUptoRow, standIns := [], harness := (true, "fd6145d860b2ceeb1eb1a3d82d1c9bee383607f8874c1e416bb8cc85dfa6b084"), looks := false }, kinds := [], alts := [], laidByText := true, laidKinds := [.data], laidTests := true, laidLooks := .later }
def HashGrowsUptoCardSaid : Prop := Claim7.holds Tryd.pinned (.plain (OpenSpec.upto hashGrowsSpec)) hashGrowsUptoCard

/-- THE SECOND FORM's CARD OF 'coppicelaw02.HashLoads'. -/
def hashLoadsUptoCard : Claim7 := { stood := { row := hashLoadsUptoRow, standIns := [], harness := (true, "fd6145d860b2ceeb1eb1a3d82d1c9bee383607f8874c1e416bb8cc85dfa6b084"), looks := false }, kinds := [], alts := [], laidByText := true, laidKinds := [.data], laidTests := true, laidLooks := .later }
def HashLoadsUptoCardSaid : Prop := Claim7.holds Tryd.pinned (.plain (OpenSpec.upto hashLoadsSpec)) hashLoadsUptoCard

/-- THE SECOND FORM's CARD OF 'coppicelaw02.HashNobody'. -/
def hashNobodyUptoCard : Claim7 := { stood := { row := hashNobodyUptoRow, standIns := [], harness := (true, "fd6145d860b2ceeb1eb1a3d82d1c9bee383607f8874c1e416bb8cc85dfa6b084"), looks := false }, kinds := [], alts := [], laidByText := true, laidKinds := [.data], laidTests := true, laidLooks := .later }
def HashNobodyUptoCardSaid : Prop := Claim7.holds Tryd.pinned (.plain (OpenSpec.upto hashNobodySpec)) hashNobodyUptoCard
end Rows
end Go.Proofs.YtfgibmpllnkfeaaDoor
