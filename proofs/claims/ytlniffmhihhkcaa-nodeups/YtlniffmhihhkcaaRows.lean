/-
  No cell of these rows narrows 'for every input' (looked for: loops, veiled, ifaces, maps, wideKeys, modest, calm, conditions, laid).
  DERIVED. THE GIVEN ROWS OF THIS SEAT. 4 by the template 'for every input the law returns true; each argument reads behind the call as it read before'; 0 by the template 'total and deterministic' (their statements: YtlniffmhihhkcaaTotals.lean).
  GIVEN WITH THE SEED: the statements are not yours to turn. If you find one false, say at which input.
  Laid BY PROGRAM, IN A SANDBOX (cutbox-rows.mjs): the forced cells as the released guide's own fill.sh prints them over the translation 24cdb6d4da7d3bb5… (all of the seat's roots in one cut). By AI agents, Wed Nov 11 2026. No macro, syntax, notation, axiom, sorry.
-/
import Derived.Test.YtlniffmhihhkcaaChecked
import GoSem.Claim
import GoSem.ClaimJoined
import GoSem.ClaimMapViews
import Derived.JoinedTies
import Derived.KernelRfl
namespace Go.Proofs.Ytlniffmhihhkcaa
/- THE CELL 'sum', in the pinned program and in every row, IS THE sha256 OF THE DUMP (.gsa) THAT YtlniffmhihhkcaaProg.lean LOADS. Nothing in Lean hashes anything: it is a label: what it is worth is what the hold of that sum in a sandbox is worth. -/
noncomputable def Try.pinned : Pinned := { name := "ytlniffmhihhkcaa", sum := "24cdb6d4da7d3bb588e8da07d9e5ef0a1c5cca84945b02314613f4947701e7f4", checked := Try.checked }
namespace Rows
def none {H : Type} : Left H := { results := [], args := [] }

/-- 'coppicelaw06.NodeTells': WHATEVER THE INPUT: true; the input reads as it did. -/
def nodeTellsSpec : ChangeSpec := { name := "nodeTells", fn := fun _ => fun
  | [d1, d2] => { results := [.lit (.bool true)], args := [d1, d2] }
  | _ => none }
def nodeTellsRow : OpenClaim := { program := "ytlniffmhihhkcaa", sum := "24cdb6d4da7d3bb588e8da07d9e5ef0a1c5cca84945b02314613f4947701e7f4", func := "coppice/coppicelaw06.NodeTells", spec := "nodeTells", apart := false }
def NodeTellsSaid : Prop := nodeTellsRow.holds Try.pinned (OpenSpec.ofChange nodeTellsSpec)

/-- ITS FALSE NEIGHBOUR: 'it returns false'. Refute it at one input. -/
def nodeTellsWrong : ChangeSpec := { name := "nodeTells", fn := fun _ => fun
  | [d1, d2] => { results := [.lit (.bool false)], args := [d1, d2] }
  | _ => none }
def NodeTellsWrongFalsely : Prop := nodeTellsRow.holds Try.pinned (OpenSpec.ofChange nodeTellsWrong)

/-- 'coppicelaw06.NodeSpans': WHATEVER THE INPUT: true; the input reads as it did. -/
def nodeSpansSpec : ChangeSpec := { name := "nodeSpans", fn := fun _ => fun
  | [d1, d2] => { results := [.lit (.bool true)], args := [d1, d2] }
  | _ => none }
def nodeSpansRow : OpenClaim := { program := "ytlniffmhihhkcaa", sum := "24cdb6d4da7d3bb588e8da07d9e5ef0a1c5cca84945b02314613f4947701e7f4", func := "coppice/coppicelaw06.NodeSpans", spec := "nodeSpans", unfollowed := true, recurses := true, apart := false }
def NodeSpansSaid : Prop := nodeSpansRow.holds Try.pinned (OpenSpec.ofChange nodeSpansSpec)

/-- ITS FALSE NEIGHBOUR: 'it returns false'. Refute it at one input. -/
def nodeSpansWrong : ChangeSpec := { name := "nodeSpans", fn := fun _ => fun
  | [d1, d2] => { results := [.lit (.bool false)], args := [d1, d2] }
  | _ => none }
def NodeSpansWrongFalsely : Prop := nodeSpansRow.holds Try.pinned (OpenSpec.ofChange nodeSpansWrong)

/-- 'coppicelaw06.NodeUps': WHATEVER THE INPUT: true; the input reads as it did. -/
def nodeUpsSpec : ChangeSpec := { name := "nodeUps", fn := fun _ => fun
  | [d1, d2, d3] => { results := [.lit (.bool true)], args := [d1, d2, d3] }
  | _ => none }
def nodeUpsRow : OpenClaim := { program := "ytlniffmhihhkcaa", sum := "24cdb6d4da7d3bb588e8da07d9e5ef0a1c5cca84945b02314613f4947701e7f4", func := "coppice/coppicelaw06.NodeUps", spec := "nodeUps", unfollowed := true, recurses := true, apart := false }
def NodeUpsSaid : Prop := nodeUpsRow.holds Try.pinned (OpenSpec.ofChange nodeUpsSpec)

/-- ITS FALSE NEIGHBOUR: 'it returns false'. Refute it at one input. -/
def nodeUpsWrong : ChangeSpec := { name := "nodeUps", fn := fun _ => fun
  | [d1, d2, d3] => { results := [.lit (.bool false)], args := [d1, d2, d3] }
  | _ => none }
def NodeUpsWrongFalsely : Prop := nodeUpsRow.holds Try.pinned (OpenSpec.ofChange nodeUpsWrong)

/-- 'coppicelaw06.NodeCovers': WHATEVER THE INPUT: true; the input reads as it did. -/
def nodeCoversSpec : ChangeSpec := { name := "nodeCovers", fn := fun _ => fun
  | [d1, d2] => { results := [.lit (.bool true)], args := [d1, d2] }
  | _ => none }
def nodeCoversRow : OpenClaim := { program := "ytlniffmhihhkcaa", sum := "24cdb6d4da7d3bb588e8da07d9e5ef0a1c5cca84945b02314613f4947701e7f4", func := "coppice/coppicelaw06.NodeCovers", spec := "nodeCovers", unfollowed := true, recurses := true, apart := false }
def NodeCoversSaid : Prop := nodeCoversRow.holds Try.pinned (OpenSpec.ofChange nodeCoversSpec)

/-- ITS FALSE NEIGHBOUR: 'it returns false'. Refute it at one input. -/
def nodeCoversWrong : ChangeSpec := { name := "nodeCovers", fn := fun _ => fun
  | [d1, d2] => { results := [.lit (.bool false)], args := [d1, d2] }
  | _ => none }
def NodeCoversWrongFalsely : Prop := nodeCoversRow.holds Try.pinned (OpenSpec.ofChange nodeCoversWrong)

/- THE SECOND FORM. 'bulk': how many values and letters a reading holds, each counted each time it is reached (what is shared counts as often as it is met; a slice's spare places count too). A statement '..UptoSaid' is the law's where the arguments, and the package variables that the reading takes, are together of bulk at most 1048576: NARROWER than '..Said'. Prove '..Said' where nothing that the law and all that it calls make is longer than what came in: it says more and counts as full. Else prove '..UptoSaid'. A law counts once. -/
mutual
def uptoBulk {H : Type} : DataW H → Nat
  | .lit (.string bytes) => bytes.length + 1
  | .lit _ => 1
  | .nil => 1
  | .ptr d => uptoBulk d + 1
  | .slice elems spare => uptoBulkAll elems + uptoBulkAll spare + 1
  | .agg parts => uptoBulkAll parts + 1
  | .iface _ d => uptoBulk d + 1
  | .map entries => uptoBulkEntries entries + 1
  | .held _ => 1
def uptoBulkAll {H : Type} : List (DataW H) → Nat
  | [] => 0
  | d :: r => uptoBulk d + uptoBulkAll r
def uptoBulkEntries {H : Type} : List (Lit × DataW H) → Nat
  | [] => 0
  | x :: r => uptoBulkEntry x + uptoBulkEntries r
def uptoBulkEntry {H : Type} : Lit × DataW H → Nat
  | (.string bytes, d) => bytes.length + uptoBulk d + 1
  | (_, d) => uptoBulk d + 1
 end
def uptoSmall : (H : Type) → List (DataW H) → Bool := fun _ ds => decide (uptoBulkAll ds ≤ 1048576)
def OpenSpec.upto (s : _root_.Go.ChangeSpec) : _root_.Go.OpenSpec := { _root_.Go.OpenSpec.ofChange s with cond := some uptoSmall }

/-- 'coppicelaw06.NodeTells', WHERE WHAT IT READS IS OF BULK AT MOST 1048576: true; the input reads as it did. -/
def nodeTellsUptoRow : OpenClaim := { program := "ytlniffmhihhkcaa", sum := "24cdb6d4da7d3bb588e8da07d9e5ef0a1c5cca84945b02314613f4947701e7f4", func := "coppice/coppicelaw06.NodeTells", spec := "nodeTells", apart := false, narrowed := true }
def NodeTellsUptoSaid : Prop := nodeTellsUptoRow.holds Try.pinned (OpenSpec.upto nodeTellsSpec)

/-- 'coppicelaw06.NodeSpans', WHERE WHAT IT READS IS OF BULK AT MOST 1048576: true; the input reads as it did. -/
def nodeSpansUptoRow : OpenClaim := { program := "ytlniffmhihhkcaa", sum := "24cdb6d4da7d3bb588e8da07d9e5ef0a1c5cca84945b02314613f4947701e7f4", func := "coppice/coppicelaw06.NodeSpans", spec := "nodeSpans", unfollowed := true, recurses := true, apart := false, narrowed := true }
def NodeSpansUptoSaid : Prop := nodeSpansUptoRow.holds Try.pinned (OpenSpec.upto nodeSpansSpec)

/-- 'coppicelaw06.NodeUps', WHERE WHAT IT READS IS OF BULK AT MOST 1048576: true; the input reads as it did. -/
def nodeUpsUptoRow : OpenClaim := { program := "ytlniffmhihhkcaa", sum := "24cdb6d4da7d3bb588e8da07d9e5ef0a1c5cca84945b02314613f4947701e7f4", func := "coppice/coppicelaw06.NodeUps", spec := "nodeUps", unfollowed := true, recurses := true, apart := false, narrowed := true }
def NodeUpsUptoSaid : Prop := nodeUpsUptoRow.holds Try.pinned (OpenSpec.upto nodeUpsSpec)

/-- 'coppicelaw06.NodeCovers', WHERE WHAT IT READS IS OF BULK AT MOST 1048576: true; the input reads as it did. -/
def nodeCoversUptoRow : OpenClaim := { program := "ytlniffmhihhkcaa", sum := "24cdb6d4da7d3bb588e8da07d9e5ef0a1c5cca84945b02314613f4947701e7f4", func := "coppice/coppicelaw06.NodeCovers", spec := "nodeCovers", unfollowed := true, recurses := true, apart := false, narrowed := true }
def NodeCoversUptoSaid : Prop := nodeCoversUptoRow.holds Try.pinned (OpenSpec.upto nodeCoversSpec)

end Rows
end Go.Proofs.Ytlniffmhihhkcaa
