/-
  DERIVED. GIVEN WITH THE SEED: THE CARDS: each row of YtnjkjickclkmhaaDoorRows.lean that lists a variable, with what it lists TIED to the program's text (the seventh form; the later family's looks); each row that meets fmt, with fmt's text TOLD by the authors' own Lean function (tested against real Go, not proved from fmt's source: count such statements apart). THE CARD IS WHAT COUNTS. Prove the row's statement (the work); the ties are given (YtnjkjickclkmhaaDoorTie.lean); close each card by the builder's one call (the guide's Derived/Test/ToyasCard.lean, 'card_holds'). Laid BY PROGRAM, IN A SANDBOX (cutbox-door.mjs). By AI agents, Wed Nov 11 2026. No macro, syntax, notation, axiom, sorry.
-/
import Derived.Test.YtnjkjickclkmhaaDoorRows
import GoSem.ClaimSeven
namespace Go.Proofs.YtnjkjickclkmhaaDoor
namespace Rows

/-- THE TIED CARD OF 'coppicelaw05.CompactPlays'. -/
def compactPlaysCard : Claim7 := { stood := { row := compactPlaysRow, standIns := [], harness := (true, "d625e3dac8f1586ec22b69ff4e4d3fdfeb7658d8f823cc14e963420783915585"), looks := false }, kinds := [], alts := [], laidByText := true, laidKinds := [.data], laidTests := true, laidLooks := .later }
def CompactPlaysCardSaid : Prop := Claim7.holds Tryd.pinned (.plain (OpenSpec.ofChange compactPlaysSpec)) compactPlaysCard

/-- THE TIED CARD OF 'coppicelaw05.CompactLoads'. -/
def compactLoadsCard : Claim7 := { stood := { row := compactLoadsRow, standIns := [], harness := (true, "d625e3dac8f1586ec22b69ff4e4d3fdfeb7658d8f823cc14e963420783915585"), looks := false }, kinds := [], alts := [], laidByText := true, laidKinds := [.data, .data, .data], laidTests := true, laidLooks := .later }
def CompactLoadsCardSaid : Prop := Claim7.holds Tryd.pinned (.plain (OpenSpec.ofChange compactLoadsSpec)) compactLoadsCard

/-- THE SECOND FORM's CARD OF 'coppicelaw05.CompactPlays'. -/
def compactPlaysUptoCard : Claim7 := { stood := { row := compactPlaysUptoRow, standIns := [], harness := (true, "d625e3dac8f1586ec22b69ff4e4d3fdfeb7658d8f823cc14e963420783915585"), looks := false }, kinds := [], alts := [], laidByText := true, laidKinds := [.data], laidTests := true, laidLooks := .later }
def CompactPlaysUptoCardSaid : Prop := Claim7.holds Tryd.pinned (.plain (OpenSpec.upto compactPlaysSpec)) compactPlaysUptoCard

/-- THE SECOND FORM's CARD OF 'coppicelaw05.CompactLoads'. -/
def compactLoadsUptoCard : Claim7 := { stood := { row := compactLoadsUptoRow, standIns := [], harness := (true, "d625e3dac8f1586ec22b69ff4e4d3fdfeb7658d8f823cc14e963420783915585"), looks := false }, kinds := [], alts := [], laidByText := true, laidKinds := [.data, .data, .data], laidTests := true, laidLooks := .later }
def CompactLoadsUptoCardSaid : Prop := Claim7.holds Tryd.pinned (.plain (OpenSpec.upto compactLoadsSpec)) compactLoadsUptoCard
end Rows
end Go.Proofs.YtnjkjickclkmhaaDoor
