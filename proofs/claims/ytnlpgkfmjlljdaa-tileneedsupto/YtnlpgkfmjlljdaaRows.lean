/-
  No cell of these rows narrows 'for every input' (looked for: loops, veiled, ifaces, maps, wideKeys, modest, calm, conditions, laid).
  DERIVED. THE GIVEN ROWS OF THIS SEAT. 4 by the template 'for every input the law returns true; each argument reads behind the call as it read before'; 0 by the template 'total and deterministic' (their statements: YtnlpgkfmjlljdaaTotals.lean).
  GIVEN WITH THE SEED: the statements are not yours to turn. If you find one false, say at which input.
  Laid BY PROGRAM, IN A SANDBOX (cutbox-rows.mjs): the forced cells as the released guide's own fill.sh prints them over the translation 1d5346225d2352b3… (all of the seat's roots in one cut). By AI agents, Wed Nov 11 2026. No macro, syntax, notation, axiom, sorry.
-/
import Derived.Test.YtnlpgkfmjlljdaaChecked
import GoSem.Claim
import GoSem.ClaimJoined
import GoSem.ClaimMapViews
import Derived.JoinedTies
import Derived.KernelRfl
namespace Go.Proofs.Ytnlpgkfmjlljdaa
/- THE CELL 'sum', in the pinned program and in every row, IS THE sha256 OF THE DUMP (.gsa) THAT YtnlpgkfmjlljdaaProg.lean LOADS. Nothing in Lean hashes anything: it is a label: what it is worth is what the hold of that sum in a sandbox is worth. -/
noncomputable def Try.pinned : Pinned := { name := "ytnlpgkfmjlljdaa", sum := "1d5346225d2352b3b4d9d0c6a212482a505951e60344623f5df66fa6b65682a0", checked := Try.checked }
namespace Rows
def none {H : Type} : Left H := { results := [], args := [] }

/-- 'coppicelaw10.TileOf': WHATEVER THE INPUT: true; the input reads as it did. -/
def tileOfSpec : ChangeSpec := { name := "tileOf", fn := fun _ => fun
  | [d1, d2] => { results := [.lit (.bool true)], args := [d1, d2] }
  | _ => none }
def tileOfRow : OpenClaim := { program := "ytnlpgkfmjlljdaa", sum := "1d5346225d2352b3b4d9d0c6a212482a505951e60344623f5df66fa6b65682a0", func := "coppice/coppicelaw10.TileOf", spec := "tileOf", plainKeys := false, apart := false }
def TileOfSaid : Prop := tileOfRow.holds Try.pinned (OpenSpec.ofChange tileOfSpec)

/-- ITS FALSE NEIGHBOUR: 'it returns false'. Refute it at one input. -/
def tileOfWrong : ChangeSpec := { name := "tileOf", fn := fun _ => fun
  | [d1, d2] => { results := [.lit (.bool false)], args := [d1, d2] }
  | _ => none }
def TileOfWrongFalsely : Prop := tileOfRow.holds Try.pinned (OpenSpec.ofChange tileOfWrong)

/-- 'coppicelaw10.TileWidths': WHATEVER THE INPUT: true; the input reads as it did. -/
def tileWidthsSpec : ChangeSpec := { name := "tileWidths", fn := fun _ => fun
  | [d1, d2] => { results := [.lit (.bool true)], args := [d1, d2] }
  | _ => none }
def tileWidthsRow : OpenClaim := { program := "ytnlpgkfmjlljdaa", sum := "1d5346225d2352b3b4d9d0c6a212482a505951e60344623f5df66fa6b65682a0", func := "coppice/coppicelaw10.TileWidths", spec := "tileWidths", plainKeys := false, apart := false }
def TileWidthsSaid : Prop := tileWidthsRow.holds Try.pinned (OpenSpec.ofChange tileWidthsSpec)

/-- ITS FALSE NEIGHBOUR: 'it returns false'. Refute it at one input. -/
def tileWidthsWrong : ChangeSpec := { name := "tileWidths", fn := fun _ => fun
  | [d1, d2] => { results := [.lit (.bool false)], args := [d1, d2] }
  | _ => none }
def TileWidthsWrongFalsely : Prop := tileWidthsRow.holds Try.pinned (OpenSpec.ofChange tileWidthsWrong)

/-- 'coppicelaw10.TileAlls': WHATEVER THE INPUT: true; the input reads as it did. -/
def tileAllsSpec : ChangeSpec := { name := "tileAlls", fn := fun _ => fun
  | [d1, d2, d3] => { results := [.lit (.bool true)], args := [d1, d2, d3] }
  | _ => none }
def tileAllsRow : OpenClaim := { program := "ytnlpgkfmjlljdaa", sum := "1d5346225d2352b3b4d9d0c6a212482a505951e60344623f5df66fa6b65682a0", func := "coppice/coppicelaw10.TileAlls", spec := "tileAlls", unfollowed := true, recurses := true, plainKeys := false, apart := false }
def TileAllsSaid : Prop := tileAllsRow.holds Try.pinned (OpenSpec.ofChange tileAllsSpec)

/-- ITS FALSE NEIGHBOUR: 'it returns false'. Refute it at one input. -/
def tileAllsWrong : ChangeSpec := { name := "tileAlls", fn := fun _ => fun
  | [d1, d2, d3] => { results := [.lit (.bool false)], args := [d1, d2, d3] }
  | _ => none }
def TileAllsWrongFalsely : Prop := tileAllsRow.holds Try.pinned (OpenSpec.ofChange tileAllsWrong)

/-- 'coppicelaw10.TileNeeds': WHATEVER THE INPUT: true; the input reads as it did. -/
def tileNeedsSpec : ChangeSpec := { name := "tileNeeds", fn := fun _ => fun
  | [d1, d2] => { results := [.lit (.bool true)], args := [d1, d2] }
  | _ => none }
def tileNeedsRow : OpenClaim := { program := "ytnlpgkfmjlljdaa", sum := "1d5346225d2352b3b4d9d0c6a212482a505951e60344623f5df66fa6b65682a0", func := "coppice/coppicelaw10.TileNeeds", spec := "tileNeeds", plainKeys := false, apart := false }
def TileNeedsSaid : Prop := tileNeedsRow.holds Try.pinned (OpenSpec.ofChange tileNeedsSpec)

/-- ITS FALSE NEIGHBOUR: 'it returns false'. Refute it at one input. -/
def tileNeedsWrong : ChangeSpec := { name := "tileNeeds", fn := fun _ => fun
  | [d1, d2] => { results := [.lit (.bool false)], args := [d1, d2] }
  | _ => none }
def TileNeedsWrongFalsely : Prop := tileNeedsRow.holds Try.pinned (OpenSpec.ofChange tileNeedsWrong)

/- THE SECOND FORM. 'bulk': how many values and letters a reading holds, each counted each time it is reached (what is shared counts as often as it is met; a slice's spare places count too). A statement '..UptoSaid' is the law's where the arguments, and the package variables that the reading takes, are together of bulk at most 1048576: NARROWER than '..Said'. Prove '..Said' where nothing that the law and all that it calls make is longer than what came in: it says more and counts as full. Else prove '..UptoSaid'. A law counts once. -/
mutual
def uptoBulk {H : Type} : DataW H → Nat
  | .lit (.string bytes) => bytes.length + 1
  | .lit _ => 1
  | .nil => 1
  | .ptr d => uptoBulk d + 1
  | .slice elems spare => uptoBulkAll elems + uptoBulkAll spare + 1
  | .agg parts => uptoBulkAll parts + 1
  | .iface _ d => uptoBulk d + 1
  | .map entries => uptoBulkEntries entries + 1
  | .held _ => 1
def uptoBulkAll {H : Type} : List (DataW H) → Nat
  | [] => 0
  | d :: r => uptoBulk d + uptoBulkAll r
def uptoBulkEntries {H : Type} : List (Lit × DataW H) → Nat
  | [] => 0
  | x :: r => uptoBulkEntry x + uptoBulkEntries r
def uptoBulkEntry {H : Type} : Lit × DataW H → Nat
  | (.string bytes, d) => bytes.length + uptoBulk d + 1
  | (_, d) => uptoBulk d + 1
 end
def uptoSmall : (H : Type) → List (DataW H) → Bool := fun _ ds => decide (uptoBulkAll ds ≤ 1048576)
def OpenSpec.upto (s : _root_.Go.ChangeSpec) : _root_.Go.OpenSpec := { _root_.Go.OpenSpec.ofChange s with cond := some uptoSmall }

/-- 'coppicelaw10.TileOf', WHERE WHAT IT READS IS OF BULK AT MOST 1048576: true; the input reads as it did. -/
def tileOfUptoRow : OpenClaim := { program := "ytnlpgkfmjlljdaa", sum := "1d5346225d2352b3b4d9d0c6a212482a505951e60344623f5df66fa6b65682a0", func := "coppice/coppicelaw10.TileOf", spec := "tileOf", plainKeys := false, apart := false, narrowed := true }
def TileOfUptoSaid : Prop := tileOfUptoRow.holds Try.pinned (OpenSpec.upto tileOfSpec)

/-- 'coppicelaw10.TileWidths', WHERE WHAT IT READS IS OF BULK AT MOST 1048576: true; the input reads as it did. -/
def tileWidthsUptoRow : OpenClaim := { program := "ytnlpgkfmjlljdaa", sum := "1d5346225d2352b3b4d9d0c6a212482a505951e60344623f5df66fa6b65682a0", func := "coppice/coppicelaw10.TileWidths", spec := "tileWidths", plainKeys := false, apart := false, narrowed := true }
def TileWidthsUptoSaid : Prop := tileWidthsUptoRow.holds Try.pinned (OpenSpec.upto tileWidthsSpec)

/-- 'coppicelaw10.TileAlls', WHERE WHAT IT READS IS OF BULK AT MOST 1048576: true; the input reads as it did. -/
def tileAllsUptoRow : OpenClaim := { program := "ytnlpgkfmjlljdaa", sum := "1d5346225d2352b3b4d9d0c6a212482a505951e60344623f5df66fa6b65682a0", func := "coppice/coppicelaw10.TileAlls", spec := "tileAlls", unfollowed := true, recurses := true, plainKeys := false, apart := false, narrowed := true }
def TileAllsUptoSaid : Prop := tileAllsUptoRow.holds Try.pinned (OpenSpec.upto tileAllsSpec)

/-- 'coppicelaw10.TileNeeds', WHERE WHAT IT READS IS OF BULK AT MOST 1048576: true; the input reads as it did. -/
def tileNeedsUptoRow : OpenClaim := { program := "ytnlpgkfmjlljdaa", sum := "1d5346225d2352b3b4d9d0c6a212482a505951e60344623f5df66fa6b65682a0", func := "coppice/coppicelaw10.TileNeeds", spec := "tileNeeds", plainKeys := false, apart := false, narrowed := true }
def TileNeedsUptoSaid : Prop := tileNeedsUptoRow.holds Try.pinned (OpenSpec.upto tileNeedsSpec)

end Rows
end Go.Proofs.Ytnlpgkfmjlljdaa
