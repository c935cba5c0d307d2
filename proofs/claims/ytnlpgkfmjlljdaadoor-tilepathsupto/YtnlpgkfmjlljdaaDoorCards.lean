/-
  DERIVED. GIVEN WITH THE SEED: THE CARDS: each row of YtnlpgkfmjlljdaaDoorRows.lean that lists a variable, with what it lists TIED to the program's text (the seventh form; the later family's looks); each row that meets fmt, with fmt's text TOLD by the authors' own Lean function (tested against real Go, not proved from fmt's source: count such statements apart). THE CARD IS WHAT COUNTS. Prove the row's statement (the work); the ties are given (YtnlpgkfmjlljdaaDoorTie.lean); close each card by the builder's one call (the guide's Derived/Test/ToyasCard.lean, 'card_holds'). Laid BY PROGRAM, IN A SANDBOX (cutbox-door.mjs). By AI agents, Wed Nov 11 2026. No macro, syntax, notation, axiom, sorry.
-/
import Derived.Test.YtnlpgkfmjlljdaaDoorRows
import GoSem.ClaimSeven
namespace Go.Proofs.YtnlpgkfmjlljdaaDoor
namespace Rows

/-- THE TIED CARD OF 'coppicelaw10.TilePaths'. -/
def tilePathsCard : Claim7 := { stood := { row := tilePathsRow, standIns := [], harness := (true, "2db9cc39435ac4058c00f49489179b9037cf916495460e1a87f6da99e1a6242b"), looks := true }, kinds := [], alts := [], laidByText := true, laidKinds := [.data, .data, .data, .data, .sentinel, .sentinel, .pinned], laidTests := true, laidLooks := .later }
def TilePathsCardSaid : Prop := Claim7.holds Tryd.pinned (.plain (OpenSpec.ofChange tilePathsSpec)) tilePathsCard

/-- THE TIED CARD OF 'coppicelaw10.TileDigests'. -/
def tileDigestsCard : Claim7 := { stood := { row := tileDigestsRow, standIns := [], harness := (true, "2db9cc39435ac4058c00f49489179b9037cf916495460e1a87f6da99e1a6242b"), looks := true }, kinds := [], alts := [], laidByText := true, laidKinds := [.data], laidTests := true, laidLooks := .later }
def TileDigestsCardSaid : Prop := Claim7.holds Tryd.pinned (.plain (OpenSpec.ofChange tileDigestsSpec)) tileDigestsCard

/-- THE SECOND FORM's CARD OF 'coppicelaw10.TilePaths'. -/
def tilePathsUptoCard : Claim7 := { stood := { row := tilePathsUptoRow, standIns := [], harness := (true, "2db9cc39435ac4058c00f49489179b9037cf916495460e1a87f6da99e1a6242b"), looks := true }, kinds := [], alts := [], laidByText := true, laidKinds := [.data, .data, .data, .data, .sentinel, .sentinel, .pinned], laidTests := true, laidLooks := .later }
def TilePathsUptoCardSaid : Prop := Claim7.holds Tryd.pinned (.plain (OpenSpec.upto tilePathsSpec)) tilePathsUptoCard

/-- THE SECOND FORM's CARD OF 'coppicelaw10.TileDigests'. -/
def tileDigestsUptoCard : Claim7 := { stood := { row := tileDigestsUptoRow, standIns := [], harness := (true, "2db9cc39435ac4058c00f49489179b9037cf916495460e1a87f6da99e1a6242b"), looks := true }, kinds := [], alts := [], laidByText := true, laidKinds := [.data], laidTests := true, laidLooks := .later }
def TileDigestsUptoCardSaid : Prop := Claim7.holds Tryd.pinned (.plain (OpenSpec.upto tileDigestsSpec)) tileDigestsUptoCard
end Rows
end Go.Proofs.YtnlpgkfmjlljdaaDoor
