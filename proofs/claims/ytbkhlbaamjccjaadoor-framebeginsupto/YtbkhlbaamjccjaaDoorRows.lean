/-
  NARROWER THAN 'FOR EVERY INPUT', by the rows' own cells (each row's printed sentence says how): FrameSums: laid · FramePuts: laid · FrameReads: laid · FrameAlls: laid · FrameBegins: laid · FrameTurned: laid.
  DERIVED. THE GIVEN ROWS OF THIS SEAT. 6 by the template 'for every input the law returns true; each argument reads behind the call as it read before'; 0 by the template 'total and deterministic' (their statements: YtbkhlbaamjccjaaDoorTotals.lean).
  GIVEN WITH THE SEED: the statements are not yours to turn. If you find one false, say at which input.
  Laid BY PROGRAM, IN A SANDBOX (cutbox-rows.mjs): the forced cells as the released guide's own fill.sh prints them over the translation 4bce0f38f065a3b7… (all of the seat's roots in one cut). By AI agents, Wed Nov 11 2026. No macro, syntax, notation, axiom, sorry.
-/
import Derived.Test.YtbkhlbaamjccjaaDoorChecked
import GoSem.Claim
import GoSem.ClaimJoined
import GoSem.ClaimMapViews
import Derived.JoinedTies
import Derived.KernelRfl
namespace Go.Proofs.YtbkhlbaamjccjaaDoor
/- THE CELL 'sum', in the pinned program and in every row, IS THE sha256 OF THE DUMP (.gsa) THAT YtbkhlbaamjccjaaDoorProg.lean LOADS. Nothing in Lean hashes anything: it is a label: what it is worth is what the hold of that sum in a sandbox is worth. -/
noncomputable def Tryd.pinned : Pinned := { name := "ytbkhlbaamjccjaadoor", sum := "4bce0f38f065a3b76ad170b907073ed45159bc94114d7f2bf2aac9b13f9d9434", checked := Tryd.checked }
namespace Rows
def none {H : Type} : Left H := { results := [], args := [] }

/- WHAT THE LISTED PACKAGE-LEVEL VARIABLES READ AS WHEN THE CALL BEGINS. Each datum BY PROGRAM (the guide's laid-datum.mjs) off the statement by which the dump's own 'gosem.cut.vars' lays the variable. In a bare row this is a premise. The card (YtbkhlbaamjccjaaDoorCards.lean) ties it to the program's text. -/
def laid_coppice_frame_folded {H : Type} : DataW H := .agg [.lit (.int .u32 0), .lit (.int .u32 498536548), .lit (.int .u32 997073096), .lit (.int .u32 651767980), .lit (.int .u32 1994146192), .lit (.int .u32 1802195444), .lit (.int .u32 1303535960), .lit (.int .u32 1342533948), .lit (.int .u32 3988292384), .lit (.int .u32 4027552580), .lit (.int .u32 3604390888), .lit (.int .u32 3412177804), .lit (.int .u32 2607071920), .lit (.int .u32 2262029012), .lit (.int .u32 2685067896), .lit (.int .u32 3183342108)]

/-- 'coppicelaw11.FrameSums': WHATEVER THE INPUT: true; the input reads as it did. -/
def frameSumsSpec : ChangeSpec := { name := "frameSums", fn := fun _ => fun
  | [d1, d2] => { results := [.lit (.bool true)], args := [d1, d2] }
  | _ => none }
def frameSumsRow : OpenClaim := { program := "ytbkhlbaamjccjaadoor", sum := "4bce0f38f065a3b76ad170b907073ed45159bc94114d7f2bf2aac9b13f9d9434", func := "coppice/coppicelaw11.FrameSums", spec := "frameSums", named := ["coppice/frame.folded"], apart := false, laid := [("coppice/frame.folded", laid_coppice_frame_folded)] }
def FrameSumsSaid : Prop := frameSumsRow.holds Tryd.pinned (OpenSpec.ofChange frameSumsSpec)

/-- ITS FALSE NEIGHBOUR: 'it returns false'. Refute it at one input. -/
def frameSumsWrong : ChangeSpec := { name := "frameSums", fn := fun _ => fun
  | [d1, d2] => { results := [.lit (.bool false)], args := [d1, d2] }
  | _ => none }
def FrameSumsWrongFalsely : Prop := frameSumsRow.holds Tryd.pinned (OpenSpec.ofChange frameSumsWrong)

/-- 'coppicelaw11.FramePuts': WHATEVER THE INPUT: true; the input reads as it did. -/
def framePutsSpec : ChangeSpec := { name := "framePuts", fn := fun _ => fun
  | [d1, d2, d3] => { results := [.lit (.bool true)], args := [d1, d2, d3] }
  | _ => none }
def framePutsRow : OpenClaim := { program := "ytbkhlbaamjccjaadoor", sum := "4bce0f38f065a3b76ad170b907073ed45159bc94114d7f2bf2aac9b13f9d9434", func := "coppice/coppicelaw11.FramePuts", spec := "framePuts", named := ["coppice/frame.folded"], apart := false, laid := [("coppice/frame.folded", laid_coppice_frame_folded)] }
def FramePutsSaid : Prop := framePutsRow.holds Tryd.pinned (OpenSpec.ofChange framePutsSpec)

/-- ITS FALSE NEIGHBOUR: 'it returns false'. Refute it at one input. -/
def framePutsWrong : ChangeSpec := { name := "framePuts", fn := fun _ => fun
  | [d1, d2, d3] => { results := [.lit (.bool false)], args := [d1, d2, d3] }
  | _ => none }
def FramePutsWrongFalsely : Prop := framePutsRow.holds Tryd.pinned (OpenSpec.ofChange framePutsWrong)

/-- 'coppicelaw11.FrameReads': WHATEVER THE INPUT: true; the input reads as it did. -/
def frameReadsSpec : ChangeSpec := { name := "frameReads", fn := fun _ => fun
  | [d1, d2] => { results := [.lit (.bool true)], args := [d1, d2] }
  | _ => none }
def frameReadsRow : OpenClaim := { program := "ytbkhlbaamjccjaadoor", sum := "4bce0f38f065a3b76ad170b907073ed45159bc94114d7f2bf2aac9b13f9d9434", func := "coppice/coppicelaw11.FrameReads", spec := "frameReads", named := ["coppice/frame.folded"], apart := false, laid := [("coppice/frame.folded", laid_coppice_frame_folded)] }
def FrameReadsSaid : Prop := frameReadsRow.holds Tryd.pinned (OpenSpec.ofChange frameReadsSpec)

/-- ITS FALSE NEIGHBOUR: 'it returns false'. Refute it at one input. -/
def frameReadsWrong : ChangeSpec := { name := "frameReads", fn := fun _ => fun
  | [d1, d2] => { results := [.lit (.bool false)], args := [d1, d2] }
  | _ => none }
def FrameReadsWrongFalsely : Prop := frameReadsRow.holds Tryd.pinned (OpenSpec.ofChange frameReadsWrong)

/-- 'coppicelaw11.FrameAlls': WHATEVER THE INPUT: true; the input reads as it did. -/
def frameAllsSpec : ChangeSpec := { name := "frameAlls", fn := fun _ => fun
  | [d1, d2] => { results := [.lit (.bool true)], args := [d1, d2] }
  | _ => none }
def frameAllsRow : OpenClaim := { program := "ytbkhlbaamjccjaadoor", sum := "4bce0f38f065a3b76ad170b907073ed45159bc94114d7f2bf2aac9b13f9d9434", func := "coppice/coppicelaw11.FrameAlls", spec := "frameAlls", unfollowed := true, recurses := true, named := ["coppice/frame.folded"], apart := false, laid := [("coppice/frame.folded", laid_coppice_frame_folded)] }
def FrameAllsSaid : Prop := frameAllsRow.holds Tryd.pinned (OpenSpec.ofChange frameAllsSpec)

/-- ITS FALSE NEIGHBOUR: 'it returns false'. Refute it at one input. -/
def frameAllsWrong : ChangeSpec := { name := "frameAlls", fn := fun _ => fun
  | [d1, d2] => { results := [.lit (.bool false)], args := [d1, d2] }
  | _ => none }
def FrameAllsWrongFalsely : Prop := frameAllsRow.holds Tryd.pinned (OpenSpec.ofChange frameAllsWrong)

/-- 'coppicelaw11.FrameBegins': WHATEVER THE INPUT: true; the input reads as it did. -/
def frameBeginsSpec : ChangeSpec := { name := "frameBegins", fn := fun _ => fun
  | [d1, d2] => { results := [.lit (.bool true)], args := [d1, d2] }
  | _ => none }
def frameBeginsRow : OpenClaim := { program := "ytbkhlbaamjccjaadoor", sum := "4bce0f38f065a3b76ad170b907073ed45159bc94114d7f2bf2aac9b13f9d9434", func := "coppice/coppicelaw11.FrameBegins", spec := "frameBegins", unfollowed := true, recurses := true, named := ["coppice/frame.folded"], apart := false, laid := [("coppice/frame.folded", laid_coppice_frame_folded)] }
def FrameBeginsSaid : Prop := frameBeginsRow.holds Tryd.pinned (OpenSpec.ofChange frameBeginsSpec)

/-- ITS FALSE NEIGHBOUR: 'it returns false'. Refute it at one input. -/
def frameBeginsWrong : ChangeSpec := { name := "frameBegins", fn := fun _ => fun
  | [d1, d2] => { results := [.lit (.bool false)], args := [d1, d2] }
  | _ => none }
def FrameBeginsWrongFalsely : Prop := frameBeginsRow.holds Tryd.pinned (OpenSpec.ofChange frameBeginsWrong)

/-- 'coppicelaw11.FrameTurned': WHATEVER THE INPUT: true; the input reads as it did. -/
def frameTurnedSpec : ChangeSpec := { name := "frameTurned", fn := fun _ => fun
  | [d1, d2, d3] => { results := [.lit (.bool true)], args := [d1, d2, d3] }
  | _ => none }
def frameTurnedRow : OpenClaim := { program := "ytbkhlbaamjccjaadoor", sum := "4bce0f38f065a3b76ad170b907073ed45159bc94114d7f2bf2aac9b13f9d9434", func := "coppice/coppicelaw11.FrameTurned", spec := "frameTurned", named := ["coppice/frame.folded"], apart := false, laid := [("coppice/frame.folded", laid_coppice_frame_folded)] }
def FrameTurnedSaid : Prop := frameTurnedRow.holds Tryd.pinned (OpenSpec.ofChange frameTurnedSpec)

/-- ITS FALSE NEIGHBOUR: 'it returns false'. Refute it at one input. -/
def frameTurnedWrong : ChangeSpec := { name := "frameTurned", fn := fun _ => fun
  | [d1, d2, d3] => { results := [.lit (.bool false)], args := [d1, d2, d3] }
  | _ => none }
def FrameTurnedWrongFalsely : Prop := frameTurnedRow.holds Tryd.pinned (OpenSpec.ofChange frameTurnedWrong)

/- THE SECOND FORM. 'bulk': how many values and letters a reading holds, each counted each time it is reached (what is shared counts as often as it is met; a slice's spare places count too). A statement '..UptoSaid' is the law's where the arguments, and the package variables that the reading takes, are together of bulk at most 1048576: NARROWER than '..Said'. Prove '..Said' where nothing that the law and all that it calls make is longer than what came in: it says more and counts as full. Else prove '..UptoSaid'. A law counts once. -/
mutual
def uptoBulk {H : Type} : DataW H → Nat
  | .lit (.string bytes) => bytes.length + 1
  | .lit _ => 1
  | .nil => 1
  | .ptr d => uptoBulk d + 1
  | .slice elems spare => uptoBulkAll elems + uptoBulkAll spare + 1
  | .agg parts => uptoBulkAll parts + 1
  | .iface _ d => uptoBulk d + 1
  | .map entries => uptoBulkEntries entries + 1
  | .held _ => 1
def uptoBulkAll {H : Type} : List (DataW H) → Nat
  | [] => 0
  | d :: r => uptoBulk d + uptoBulkAll r
def uptoBulkEntries {H : Type} : List (Lit × DataW H) → Nat
  | [] => 0
  | x :: r => uptoBulkEntry x + uptoBulkEntries r
def uptoBulkEntry {H : Type} : Lit × DataW H → Nat
  | (.string bytes, d) => bytes.length + uptoBulk d + 1
  | (_, d) => uptoBulk d + 1
 end
def uptoSmall : (H : Type) → List (DataW H) → Bool := fun _ ds => decide (uptoBulkAll ds ≤ 1048576)
def OpenSpec.upto (s : _root_.Go.ChangeSpec) : _root_.Go.OpenSpec := { _root_.Go.OpenSpec.ofChange s with cond := some uptoSmall }

/-- 'coppicelaw11.FrameSums', WHERE WHAT IT READS IS OF BULK AT MOST 1048576: true; the input reads as it did. -/
def frameSumsUptoRow : OpenClaim := { program := "ytbkhlbaamjccjaadoor", sum := "4bce0f38f065a3b76ad170b907073ed45159bc94114d7f2bf2aac9b13f9d9434", func := "coppice/coppicelaw11.FrameSums", spec := "frameSums", named := ["coppice/frame.folded"], apart := false, laid := [("coppice/frame.folded", laid_coppice_frame_folded)], narrowed := true }
def FrameSumsUptoSaid : Prop := frameSumsUptoRow.holds Tryd.pinned (OpenSpec.upto frameSumsSpec)

/-- 'coppicelaw11.FramePuts', WHERE WHAT IT READS IS OF BULK AT MOST 1048576: true; the input reads as it did. -/
def framePutsUptoRow : OpenClaim := { program := "ytbkhlbaamjccjaadoor", sum := "4bce0f38f065a3b76ad170b907073ed45159bc94114d7f2bf2aac9b13f9d9434", func := "coppice/coppicelaw11.FramePuts", spec := "framePuts", named := ["coppice/frame.folded"], apart := false, laid := [("coppice/frame.folded", laid_coppice_frame_folded)], narrowed := true }
def FramePutsUptoSaid : Prop := framePutsUptoRow.holds Tryd.pinned (OpenSpec.upto framePutsSpec)

/-- 'coppicelaw11.FrameReads', WHERE WHAT IT READS IS OF BULK AT MOST 1048576: true; the input reads as it did. -/
def frameReadsUptoRow : OpenClaim := { program := "ytbkhlbaamjccjaadoor", sum := "4bce0f38f065a3b76ad170b907073ed45159bc94114d7f2bf2aac9b13f9d9434", func := "coppice/coppicelaw11.FrameReads", spec := "frameReads", named := ["coppice/frame.folded"], apart := false, laid := [("coppice/frame.folded", laid_coppice_frame_folded)], narrowed := true }
def FrameReadsUptoSaid : Prop := frameReadsUptoRow.holds Tryd.pinned (OpenSpec.upto frameReadsSpec)

/-- 'coppicelaw11.FrameAlls', WHERE WHAT IT READS IS OF BULK AT MOST 1048576: true; the input reads as it did. -/
def frameAllsUptoRow : OpenClaim := { program := "ytbkhlbaamjccjaadoor", sum := "4bce0f38f065a3b76ad170b907073ed45159bc94114d7f2bf2aac9b13f9d9434", func := "coppice/coppicelaw11.FrameAlls", spec := "frameAlls", unfollowed := true, recurses := true, named := ["coppice/frame.folded"], apart := false, laid := [("coppice/frame.folded", laid_coppice_frame_folded)], narrowed := true }
def FrameAllsUptoSaid : Prop := frameAllsUptoRow.holds Tryd.pinned (OpenSpec.upto frameAllsSpec)

/-- 'coppicelaw11.FrameBegins', WHERE WHAT IT READS IS OF BULK AT MOST 1048576: true; the input reads as it did. -/
def frameBeginsUptoRow : OpenClaim := { program := "ytbkhlbaamjccjaadoor", sum := "4bce0f38f065a3b76ad170b907073ed45159bc94114d7f2bf2aac9b13f9d9434", func := "coppice/coppicelaw11.FrameBegins", spec := "frameBegins", unfollowed := true, recurses := true, named := ["coppice/frame.folded"], apart := false, laid := [("coppice/frame.folded", laid_coppice_frame_folded)], narrowed := true }
def FrameBeginsUptoSaid : Prop := frameBeginsUptoRow.holds Tryd.pinned (OpenSpec.upto frameBeginsSpec)

/-- 'coppicelaw11.FrameTurned', WHERE WHAT IT READS IS OF BULK AT MOST 1048576: true; the input reads as it did. -/
def frameTurnedUptoRow : OpenClaim := { program := "ytbkhlbaamjccjaadoor", sum := "4bce0f38f065a3b76ad170b907073ed45159bc94114d7f2bf2aac9b13f9d9434", func := "coppice/coppicelaw11.FrameTurned", spec := "frameTurned", named := ["coppice/frame.folded"], apart := false, laid := [("coppice/frame.folded", laid_coppice_frame_folded)], narrowed := true }
def FrameTurnedUptoSaid : Prop := frameTurnedUptoRow.holds Tryd.pinned (OpenSpec.upto frameTurnedSpec)

end Rows
end Go.Proofs.YtbkhlbaamjccjaaDoor
