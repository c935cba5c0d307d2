/-
  DERIVED. GIVEN WITH THE SEED: THE CARDS: each row of YtpocadbhajacaaaGreatDoorRows.lean that lists a variable, with what it lists TIED to the program's text (the seventh form; the later family's looks); each row that meets fmt, with fmt's text TOLD by the authors' own Lean function (tested against real Go, not proved from fmt's source: count such statements apart). THE CARD IS WHAT COUNTS. Prove the row's statement (the work); the ties are given (YtpocadbhajacaaaGreatDoorTie.lean); close each card by the builder's one call (the guide's Derived/Test/ToyasCard.lean, 'card_holds'). Laid BY PROGRAM, IN A SANDBOX (cutbox-door.mjs). By AI agents, Wed Nov 11 2026. No macro, syntax, notation, axiom, sorry.
-/
import Derived.Test.YtpocadbhajacaaaGreatDoorRows
import GoSem.ClaimSeven
namespace Go.Proofs.YtpocadbhajacaaaGreatDoor
namespace Rows

/-- THE TIED CARD OF 'coppicelaw15.BundlePlays'. -/
def bundlePlaysCard : Claim7 := { stood := { row := bundlePlaysRow, standIns := [], harness := (true, "99873eb8963f30049788a2770b6ca232c6843565faca3ac0f0bb2d92055e7556"), looks := true }, kinds := [], alts := [], laidByText := true, laidKinds := [.data, .data, .data, .sentinel, .sentinel], laidTests := true, laidLooks := .later }
def BundlePlaysCardSaid : Prop := Claim7.holds Tryz.pinned (.plain (OpenSpec.ofChange bundlePlaysSpec)) bundlePlaysCard

/-- THE TIED CARD OF 'coppicelaw15.BundleNobody'. -/
def bundleNobodyCard : Claim7 := { stood := { row := bundleNobodyRow, standIns := [], harness := (true, "99873eb8963f30049788a2770b6ca232c6843565faca3ac0f0bb2d92055e7556"), looks := true }, kinds := [], alts := [], laidByText := true, laidKinds := [.data, .data, .data, .sentinel, .sentinel], laidTests := true, laidLooks := .later }
def BundleNobodyCardSaid : Prop := Claim7.holds Tryz.pinned (.plain (OpenSpec.ofChange bundleNobodySpec)) bundleNobodyCard

/-- THE TIED CARD OF 'coppicelaw15.BundlePower'. -/
def bundlePowerCard : Claim7 := { stood := { row := bundlePowerRow, standIns := [], harness := (true, "99873eb8963f30049788a2770b6ca232c6843565faca3ac0f0bb2d92055e7556"), looks := true }, kinds := [], alts := [], laidByText := true, laidKinds := [.data, .data, .data, .sentinel, .sentinel], laidTests := true, laidLooks := .later }
def BundlePowerCardSaid : Prop := Claim7.holds Tryz.pinned (.plain (OpenSpec.ofChange bundlePowerSpec)) bundlePowerCard

/-- THE TIED CARD OF 'coppicelaw15.BundleTrims'. -/
def bundleTrimsCard : Claim7 := { stood := { row := bundleTrimsRow, standIns := [], harness := (true, "99873eb8963f30049788a2770b6ca232c6843565faca3ac0f0bb2d92055e7556"), looks := true }, kinds := [], alts := [], laidByText := true, laidKinds := [.data, .data, .data, .sentinel, .sentinel], laidTests := true, laidLooks := .later }
def BundleTrimsCardSaid : Prop := Claim7.holds Tryz.pinned (.plain (OpenSpec.ofChange bundleTrimsSpec)) bundleTrimsCard

/-- THE SECOND FORM's CARD OF 'coppicelaw15.BundlePlays'. -/
def bundlePlaysUptoCard : Claim7 := { stood := { row := bundlePlaysUptoRow, standIns := [], harness := (true, "99873eb8963f30049788a2770b6ca232c6843565faca3ac0f0bb2d92055e7556"), looks := true }, kinds := [], alts := [], laidByText := true, laidKinds := [.data, .data, .data, .sentinel, .sentinel], laidTests := true, laidLooks := .later }
def BundlePlaysUptoCardSaid : Prop := Claim7.holds Tryz.pinned (.plain (OpenSpec.upto bundlePlaysSpec)) bundlePlaysUptoCard

/-- THE SECOND FORM's CARD OF 'coppicelaw15.BundleNobody'. -/
def bundleNobodyUptoCard : Claim7 := { stood := { row := bundleNobodyUptoRow, standIns := [], harness := (true, "99873eb8963f30049788a2770b6ca232c6843565faca3ac0f0bb2d92055e7556"), looks := true }, kinds := [], alts := [], laidByText := true, laidKinds := [.data, .data, .data, .sentinel, .sentinel], laidTests := true, laidLooks := .later }
def BundleNobodyUptoCardSaid : Prop := Claim7.holds Tryz.pinned (.plain (OpenSpec.upto bundleNobodySpec)) bundleNobodyUptoCard

/-- THE SECOND FORM's CARD OF 'coppicelaw15.BundlePower'. -/
def bundlePowerUptoCard : Claim7 := { stood := { row := bundlePowerUptoRow, standIns := [], harness := (true, "99873eb8963f30049788a2770b6ca232c6843565faca3ac0f0bb2d92055e7556"), looks := true }, kinds := [], alts := [], laidByText := true, laidKinds := [.data, .data, .data, .sentinel, .sentinel], laidTests := true, laidLooks := .later }
def BundlePowerUptoCardSaid : Prop := Claim7.holds Tryz.pinned (.plain (OpenSpec.upto bundlePowerSpec)) bundlePowerUptoCard

/-- THE SECOND FORM's CARD OF 'coppicelaw15.BundleTrims'. -/
def bundleTrimsUptoCard : Claim7 := { stood := { row := bundleTrimsUptoRow, standIns := [], harness := (true, "99873eb8963f30049788a2770b6ca232c6843565faca3ac0f0bb2d92055e7556"), looks := true }, kinds := [], alts := [], laidByText := true, laidKinds := [.data, .data, .data, .sentinel, .sentinel], laidTests := true, laidLooks := .later }
def BundleTrimsUptoCardSaid : Prop := Claim7.holds Tryz.pinned (.plain (OpenSpec.upto bundleTrimsSpec)) bundleTrimsUptoCard
end Rows
end Go.Proofs.YtpocadbhajacaaaGreatDoor
