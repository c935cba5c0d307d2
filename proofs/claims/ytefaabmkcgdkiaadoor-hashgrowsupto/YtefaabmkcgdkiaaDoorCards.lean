/-
  DERIVED. GIVEN WITH THE SEED: THE CARDS: each row of YtefaabmkcgdkiaaDoorRows.lean that lists a variable, with what it lists TIED to the program's text (the seventh form; the later family's looks); each row that meets fmt, with fmt's text TOLD by the authors' own Lean function (tested against real Go, not proved from fmt's source: count such statements apart). THE CARD IS WHAT COUNTS. Prove the row's statement (the work); the ties are given (YtefaabmkcgdkiaaDoorTie.lean); close each card by the builder's one call (the guide's Derived/Test/ToyasCard.lean, 'card_holds'). Laid BY PROGRAM, IN A SANDBOX (cutbox-door.mjs). By AI agents, Wed Nov 11 2026. No macro, syntax, notation, axiom, sorry.
-/
import Derived.Test.YtefaabmkcgdkiaaDoorRows
import GoSem.ClaimSeven
namespace Go.Proofs.YtefaabmkcgdkiaaDoor
namespace Rows

/-- THE TIED CARD OF 'coppicelaw02.HashGrows'. -/
def hashGrowsCard : Claim7 := { stood := { row := hashGrowsRow, standIns := [], harness := (true, "51c41e437f9534906d7a09e6eb400e14c90dc281eea81dbe455f63e01f572d66"), looks := false }, kinds := [], alts := [], laidByText := true, laidKinds := [.data], laidTests := true, laidLooks := .later }
def HashGrowsCardSaid : Prop := Claim7.holds Tryd.pinned (.plain (OpenSpec.ofChange hashGrowsSpec)) hashGrowsCard

/-- THE TIED CARD OF 'coppicelaw02.HashLoads'. -/
def hashLoadsCard : Claim7 := { stood := { row := hashLoadsRow, standIns := [], harness := (true, "51c41e437f9534906d7a09e6eb400e14c90dc281eea81dbe455f63e01f572d66"), looks := false }, kinds := [], alts := [], laidByText := true, laidKinds := [.data], laidTests := true, laidLooks := .later }
def HashLoadsCardSaid : Prop := Claim7.holds Tryd.pinned (.plain (OpenSpec.ofChange hashLoadsSpec)) hashLoadsCard

/-- THE TIED CARD OF 'coppicelaw03.MacTells'. -/
def macTellsCard : Claim7 := { stood := { row := macTellsRow, standIns := [], harness := (true, "51c41e437f9534906d7a09e6eb400e14c90dc281eea81dbe455f63e01f572d66"), looks := false }, kinds := [], alts := [], laidByText := true, laidKinds := [.data], laidTests := true, laidLooks := .later }
def MacTellsCardSaid : Prop := Claim7.holds Tryd.pinned (.plain (OpenSpec.ofChange macTellsSpec)) macTellsCard

/-- THE TIED CARD OF 'coppicelaw03.MacGrows'. -/
def macGrowsCard : Claim7 := { stood := { row := macGrowsRow, standIns := [], harness := (true, "51c41e437f9534906d7a09e6eb400e14c90dc281eea81dbe455f63e01f572d66"), looks := false }, kinds := [], alts := [], laidByText := true, laidKinds := [.data], laidTests := true, laidLooks := .later }
def MacGrowsCardSaid : Prop := Claim7.holds Tryd.pinned (.plain (OpenSpec.ofChange macGrowsSpec)) macGrowsCard

/-- THE TIED CARD OF 'coppicelaw03.MacExpands'. -/
def macExpandsCard : Claim7 := { stood := { row := macExpandsRow, standIns := [], harness := (true, "51c41e437f9534906d7a09e6eb400e14c90dc281eea81dbe455f63e01f572d66"), looks := false }, kinds := [], alts := [], laidByText := true, laidKinds := [.data], laidTests := true, laidLooks := .later }
def MacExpandsCardSaid : Prop := Claim7.holds Tryd.pinned (.plain (OpenSpec.ofChange macExpandsSpec)) macExpandsCard

/-- THE TIED CARD OF 'coppicelaw03.MacChildren'. -/
def macChildrenCard : Claim7 := { stood := { row := macChildrenRow, standIns := [], harness := (true, "51c41e437f9534906d7a09e6eb400e14c90dc281eea81dbe455f63e01f572d66"), looks := false }, kinds := [], alts := [], laidByText := true, laidKinds := [.data], laidTests := true, laidLooks := .later }
def MacChildrenCardSaid : Prop := Claim7.holds Tryd.pinned (.plain (OpenSpec.ofChange macChildrenSpec)) macChildrenCard

/-- THE SECOND FORM's CARD OF 'coppicelaw02.HashGrows'. -/
def hashGrowsUptoCard : Claim7 := { stood := { row := hashGrowsUptoRow, standIns := [], harness := (true, "51c41e437f9534906d7a09e6eb400e14c90dc281eea81dbe455f63e01f572d66"), looks := false }, kinds := [], alts := [], laidByText := true, laidKinds := [.data], laidTests := true, laidLooks := .later }
def HashGrowsUptoCardSaid : Prop := Claim7.holds Tryd.pinned (.plain (OpenSpec.upto hashGrowsSpec)) hashGrowsUptoCard

/-- THE SECOND FORM's CARD OF 'coppicelaw02.HashLoads'. -/
def hashLoadsUptoCard : Claim7 := { stood := { row := hashLoadsUptoRow, standIns := [], harness := (true, "51c41e437f9534906d7a09e6eb400e14c90dc281eea81dbe455f63e01f572d66"), looks := false }, kinds := [], alts := [], laidByText := true, laidKinds := [.data], laidTests := true, laidLooks := .later }
def HashLoadsUptoCardSaid : Prop := Claim7.holds Tryd.pinned (.plain (OpenSpec.upto hashLoadsSpec)) hashLoadsUptoCard

/-- THE SECOND FORM's CARD OF 'coppicelaw03.MacTells'. -/
def macTellsUptoCard : Claim7 := { stood := { row := macTellsUptoRow, standIns := [], harness := (true, "51c41e437f9534906d7a09e6eb400e14c90dc281eea81dbe455f63e01f572d66"), looks := false }, kinds := [], alts := [], laidByText := true, laidKinds := [.data], laidTests := true, laidLooks := .later }
def MacTellsUptoCardSaid : Prop := Claim7.holds Tryd.pinned (.plain (OpenSpec.upto macTellsSpec)) macTellsUptoCard

/-- THE SECOND FORM's CARD OF 'coppicelaw03.MacGrows'. -/
def macGrowsUptoCard : Claim7 := { stood := { row := macGrowsUptoRow, standIns := [], harness := (true, "51c41e437f9534906d7a09e6eb400e14c90dc281eea81dbe455f63e01f572d66"), looks := false }, kinds := [], alts := [], laidByText := true, laidKinds := [.data], laidTests := true, laidLooks := .later }
def MacGrowsUptoCardSaid : Prop := Claim7.holds Tryd.pinned (.plain (OpenSpec.upto macGrowsSpec)) macGrowsUptoCard

/-- THE SECOND FORM's CARD OF 'coppicelaw03.MacExpands'. -/
def macExpandsUptoCard : Claim7 := { stood := { row := macExpandsUptoRow, standIns := [], harness := (true, "51c41e437f9534906d7a09e6eb400e14c90dc281eea81dbe455f63e01f572d66"), looks := false }, kinds := [], alts := [], laidByText := true, laidKinds := [.data], laidTests := true, laidLooks := .later }
def MacExpandsUptoCardSaid : Prop := Claim7.holds Tryd.pinned (.plain (OpenSpec.upto macExpandsSpec)) macExpandsUptoCard

/-- THE SECOND FORM's CARD OF 'coppicelaw03.MacChildren'. -/
def macChildrenUptoCard : Claim7 := { stood := { row := macChildrenUptoRow, standIns := [], harness := (true, "51c41e437f9534906d7a09e6eb400e14c90dc281eea81dbe455f63e01f572d66"), looks := false }, kinds := [], alts := [], laidByText := true, laidKinds := [.data], laidTests := true, laidLooks := .later }
def MacChildrenUptoCardSaid : Prop := Claim7.holds Tryd.pinned (.plain (OpenSpec.upto macChildrenSpec)) macChildrenUptoCard
end Rows
end Go.Proofs.YtefaabmkcgdkiaaDoor
