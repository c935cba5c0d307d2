/-
  NARROWER THAN 'FOR EVERY INPUT', by the rows' own cells (each row's printed sentence says how): ExtractAccepts: laid · ExtractTells: laid · ExtractParts: laid · ExtractHonest: laid · TopTree: laid.
  DERIVED. THE GIVEN ROWS OF THIS SEAT. 5 by the template 'for every input the law returns true; each argument reads behind the call as it read before'; 0 by the template 'total and deterministic' (their statements: YtconeobaohmbnaaDoorTotals.lean).
  GIVEN WITH THE SEED: the statements are not yours to turn. If you find one false, say at which input.
  Laid BY PROGRAM, IN A SANDBOX (cutbox-rows.mjs): the forced cells as the released guide's own fill.sh prints them over the translation b0efcbc504376dc1… (all of the seat's roots in one cut). By AI agents, Wed Nov 11 2026. No macro, syntax, notation, axiom, sorry.
-/
import Derived.Test.YtconeobaohmbnaaDoorChecked
import GoSem.Claim
import GoSem.ClaimJoined
import GoSem.ClaimMapViews
import Derived.JoinedTies
import Derived.KernelRfl
namespace Go.Proofs.YtconeobaohmbnaaDoor
/- THE CELL 'sum', in the pinned program and in every row, IS THE sha256 OF THE DUMP (.gsa) THAT YtconeobaohmbnaaDoorProg.lean LOADS. Nothing in Lean hashes anything: it is a label: what it is worth is what the hold of that sum in a sandbox is worth. -/
noncomputable def Tryd.pinned : Pinned := { name := "ytconeobaohmbnaadoor", sum := "b0efcbc504376dc1e369bb69c0ba0a4875fc9ba8073e575e824b8a013b828948", checked := Tryd.checked }
namespace Rows
def none {H : Type} : Left H := { results := [], args := [] }

/- WHAT THE LISTED PACKAGE-LEVEL VARIABLES READ AS WHEN THE CALL BEGINS. Each datum BY PROGRAM (the guide's laid-datum.mjs) off the statement by which the dump's own 'gosem.cut.vars' lays the variable. In a bare row this is a premise. The card (YtconeobaohmbnaaDoorCards.lean) ties it to the program's text. -/
def laid_coppice_hash_constants {H : Type} : DataW H := .agg [.lit (.int .u32 1116352408), .lit (.int .u32 1899447441), .lit (.int .u32 3049323471), .lit (.int .u32 3921009573), .lit (.int .u32 961987163), .lit (.int .u32 1508970993), .lit (.int .u32 2453635748), .lit (.int .u32 2870763221), .lit (.int .u32 3624381080), .lit (.int .u32 310598401), .lit (.int .u32 607225278), .lit (.int .u32 1426881987), .lit (.int .u32 1925078388), .lit (.int .u32 2162078206), .lit (.int .u32 2614888103), .lit (.int .u32 3248222580), .lit (.int .u32 3835390401), .lit (.int .u32 4022224774), .lit (.int .u32 264347078), .lit (.int .u32 604807628), .lit (.int .u32 770255983), .lit (.int .u32 1249150122), .lit (.int .u32 1555081692), .lit (.int .u32 1996064986), .lit (.int .u32 2554220882), .lit (.int .u32 2821834349), .lit (.int .u32 2952996808), .lit (.int .u32 3210313671), .lit (.int .u32 3336571891), .lit (.int .u32 3584528711), .lit (.int .u32 113926993), .lit (.int .u32 338241895), .lit (.int .u32 666307205), .lit (.int .u32 773529912), .lit (.int .u32 1294757372), .lit (.int .u32 1396182291), .lit (.int .u32 1695183700), .lit (.int .u32 1986661051), .lit (.int .u32 2177026350), .lit (.int .u32 2456956037), .lit (.int .u32 2730485921), .lit (.int .u32 2820302411), .lit (.int .u32 3259730800), .lit (.int .u32 3345764771), .lit (.int .u32 3516065817), .lit (.int .u32 3600352804), .lit (.int .u32 4094571909), .lit (.int .u32 275423344), .lit (.int .u32 430227734), .lit (.int .u32 506948616), .lit (.int .u32 659060556), .lit (.int .u32 883997877), .lit (.int .u32 958139571), .lit (.int .u32 1322822218), .lit (.int .u32 1537002063), .lit (.int .u32 1747873779), .lit (.int .u32 1955562222), .lit (.int .u32 2024104815), .lit (.int .u32 2227730452), .lit (.int .u32 2361852424), .lit (.int .u32 2428436474), .lit (.int .u32 2756734187), .lit (.int .u32 3204031479), .lit (.int .u32 3329325298)]

/-- 'coppicelaw09.ExtractAccepts': WHATEVER THE INPUT: true; the input reads as it did. -/
def extractAcceptsSpec : ChangeSpec := { name := "extractAccepts", fn := fun _ => fun
  | [d] => { results := [.lit (.bool true)], args := [d] }
  | _ => none }
def extractAcceptsRow : OpenClaim := { program := "ytconeobaohmbnaadoor", sum := "b0efcbc504376dc1e369bb69c0ba0a4875fc9ba8073e575e824b8a013b828948", func := "coppice/coppicelaw09.ExtractAccepts", spec := "extractAccepts", unfollowed := true, recurses := true, named := ["coppice/hash.constants"], plainKeys := false, apart := false, laid := [("coppice/hash.constants", laid_coppice_hash_constants)] }
def ExtractAcceptsSaid : Prop := extractAcceptsRow.holds Tryd.pinned (OpenSpec.ofChange extractAcceptsSpec)

/-- ITS FALSE NEIGHBOUR: 'it returns false'. Refute it at one input. -/
def extractAcceptsWrong : ChangeSpec := { name := "extractAccepts", fn := fun _ => fun
  | [d] => { results := [.lit (.bool false)], args := [d] }
  | _ => none }
def ExtractAcceptsWrongFalsely : Prop := extractAcceptsRow.holds Tryd.pinned (OpenSpec.ofChange extractAcceptsWrong)

/-- 'coppicelaw09.ExtractTells': WHATEVER THE INPUT: true; the input reads as it did. -/
def extractTellsSpec : ChangeSpec := { name := "extractTells", fn := fun _ => fun
  | [d] => { results := [.lit (.bool true)], args := [d] }
  | _ => none }
def extractTellsRow : OpenClaim := { program := "ytconeobaohmbnaadoor", sum := "b0efcbc504376dc1e369bb69c0ba0a4875fc9ba8073e575e824b8a013b828948", func := "coppice/coppicelaw09.ExtractTells", spec := "extractTells", unfollowed := true, recurses := true, named := ["coppice/hash.constants"], plainKeys := false, apart := false, laid := [("coppice/hash.constants", laid_coppice_hash_constants)] }
def ExtractTellsSaid : Prop := extractTellsRow.holds Tryd.pinned (OpenSpec.ofChange extractTellsSpec)

/-- ITS FALSE NEIGHBOUR: 'it returns false'. Refute it at one input. -/
def extractTellsWrong : ChangeSpec := { name := "extractTells", fn := fun _ => fun
  | [d] => { results := [.lit (.bool false)], args := [d] }
  | _ => none }
def ExtractTellsWrongFalsely : Prop := extractTellsRow.holds Tryd.pinned (OpenSpec.ofChange extractTellsWrong)

/-- 'coppicelaw09.ExtractParts': WHATEVER THE INPUT: true; the input reads as it did. -/
def extractPartsSpec : ChangeSpec := { name := "extractParts", fn := fun _ => fun
  | [d] => { results := [.lit (.bool true)], args := [d] }
  | _ => none }
def extractPartsRow : OpenClaim := { program := "ytconeobaohmbnaadoor", sum := "b0efcbc504376dc1e369bb69c0ba0a4875fc9ba8073e575e824b8a013b828948", func := "coppice/coppicelaw09.ExtractParts", spec := "extractParts", unfollowed := true, recurses := true, named := ["coppice/hash.constants"], plainKeys := false, apart := false, laid := [("coppice/hash.constants", laid_coppice_hash_constants)] }
def ExtractPartsSaid : Prop := extractPartsRow.holds Tryd.pinned (OpenSpec.ofChange extractPartsSpec)

/-- ITS FALSE NEIGHBOUR: 'it returns false'. Refute it at one input. -/
def extractPartsWrong : ChangeSpec := { name := "extractParts", fn := fun _ => fun
  | [d] => { results := [.lit (.bool false)], args := [d] }
  | _ => none }
def ExtractPartsWrongFalsely : Prop := extractPartsRow.holds Tryd.pinned (OpenSpec.ofChange extractPartsWrong)

/-- 'coppicelaw09.ExtractHonest': WHATEVER THE INPUT: true; the input reads as it did. -/
def extractHonestSpec : ChangeSpec := { name := "extractHonest", fn := fun _ => fun
  | [d1, d2, d3] => { results := [.lit (.bool true)], args := [d1, d2, d3] }
  | _ => none }
def extractHonestRow : OpenClaim := { program := "ytconeobaohmbnaadoor", sum := "b0efcbc504376dc1e369bb69c0ba0a4875fc9ba8073e575e824b8a013b828948", func := "coppice/coppicelaw09.ExtractHonest", spec := "extractHonest", unfollowed := true, recurses := true, named := ["coppice/hash.constants"], plainKeys := false, apart := false, laid := [("coppice/hash.constants", laid_coppice_hash_constants)] }
def ExtractHonestSaid : Prop := extractHonestRow.holds Tryd.pinned (OpenSpec.ofChange extractHonestSpec)

/-- ITS FALSE NEIGHBOUR: 'it returns false'. Refute it at one input. -/
def extractHonestWrong : ChangeSpec := { name := "extractHonest", fn := fun _ => fun
  | [d1, d2, d3] => { results := [.lit (.bool false)], args := [d1, d2, d3] }
  | _ => none }
def ExtractHonestWrongFalsely : Prop := extractHonestRow.holds Tryd.pinned (OpenSpec.ofChange extractHonestWrong)

/-- 'coppicetop.TopTree': WHATEVER THE INPUT: true; the input reads as it did. -/
def topTreeSpec : ChangeSpec := { name := "topTree", fn := fun _ => fun
  | [d1, d2, d3] => { results := [.lit (.bool true)], args := [d1, d2, d3] }
  | _ => none }
def topTreeRow : OpenClaim := { program := "ytconeobaohmbnaadoor", sum := "b0efcbc504376dc1e369bb69c0ba0a4875fc9ba8073e575e824b8a013b828948", func := "coppice/coppicetop.TopTree", spec := "topTree", unfollowed := true, recurses := true, named := ["coppice/hash.constants"], plainKeys := false, apart := false, laid := [("coppice/hash.constants", laid_coppice_hash_constants)] }
def TopTreeSaid : Prop := topTreeRow.holds Tryd.pinned (OpenSpec.ofChange topTreeSpec)

/-- ITS FALSE NEIGHBOUR: 'it returns false'. Refute it at one input. -/
def topTreeWrong : ChangeSpec := { name := "topTree", fn := fun _ => fun
  | [d1, d2, d3] => { results := [.lit (.bool false)], args := [d1, d2, d3] }
  | _ => none }
def TopTreeWrongFalsely : Prop := topTreeRow.holds Tryd.pinned (OpenSpec.ofChange topTreeWrong)

/- THE SECOND FORM. 'bulk': how many values and letters a reading holds, each counted each time it is reached (what is shared counts as often as it is met; a slice's spare places count too). A statement '..UptoSaid' is the law's where the arguments, and the package variables that the reading takes, are together of bulk at most 1048576: NARROWER than '..Said'. Prove '..Said' where nothing that the law and all that it calls make is longer than what came in: it says more and counts as full. Else prove '..UptoSaid'. A law counts once. -/
mutual
def uptoBulk {H : Type} : DataW H → Nat
  | .lit (.string bytes) => bytes.length + 1
  | .lit _ => 1
  | .nil => 1
  | .ptr d => uptoBulk d + 1
  | .slice elems spare => uptoBulkAll elems + uptoBulkAll spare + 1
  | .agg parts => uptoBulkAll parts + 1
  | .iface _ d => uptoBulk d + 1
  | .map entries => uptoBulkEntries entries + 1
  | .held _ => 1
def uptoBulkAll {H : Type} : List (DataW H) → Nat
  | [] => 0
  | d :: r => uptoBulk d + uptoBulkAll r
def uptoBulkEntries {H : Type} : List (Lit × DataW H) → Nat
  | [] => 0
  | x :: r => uptoBulkEntry x + uptoBulkEntries r
def uptoBulkEntry {H : Type} : Lit × DataW H → Nat
  | (.string bytes, d) => bytes.length + uptoBulk d + 1
  | (_, d) => uptoBulk d + 1
 end
def uptoSmall : (H : Type) → List (DataW H) → Bool := fun _ ds => decide (uptoBulkAll ds ≤ 1048576)
def OpenSpec.upto (s : _root_.Go.ChangeSpec) : _root_.Go.OpenSpec := { _root_.Go.OpenSpec.ofChange s with cond := some uptoSmall }

/-- 'coppicelaw09.ExtractAccepts', WHERE WHAT IT READS IS OF BULK AT MOST 1048576: true; the input reads as it did. -/
def extractAcceptsUptoRow : OpenClaim := { program := "ytconeobaohmbnaadoor", sum := "b0efcbc504376dc1e369bb69c0ba0a4875fc9ba8073e575e824b8a013b828948", func := "coppice/coppicelaw09.ExtractAccepts", spec := "extractAccepts", unfollowed := true, recurses := true, named := ["coppice/hash.constants"], plainKeys := false, apart := false, laid := [("coppice/hash.constants", laid_coppice_hash_constants)], narrowed := true }
def ExtractAcceptsUptoSaid : Prop := extractAcceptsUptoRow.holds Tryd.pinned (OpenSpec.upto extractAcceptsSpec)

/-- 'coppicelaw09.ExtractTells', WHERE WHAT IT READS IS OF BULK AT MOST 1048576: true; the input reads as it did. -/
def extractTellsUptoRow : OpenClaim := { program := "ytconeobaohmbnaadoor", sum := "b0efcbc504376dc1e369bb69c0ba0a4875fc9ba8073e575e824b8a013b828948", func := "coppice/coppicelaw09.ExtractTells", spec := "extractTells", unfollowed := true, recurses := true, named := ["coppice/hash.constants"], plainKeys := false, apart := false, laid := [("coppice/hash.constants", laid_coppice_hash_constants)], narrowed := true }
def ExtractTellsUptoSaid : Prop := extractTellsUptoRow.holds Tryd.pinned (OpenSpec.upto extractTellsSpec)

/-- 'coppicelaw09.ExtractParts', WHERE WHAT IT READS IS OF BULK AT MOST 1048576: true; the input reads as it did. -/
def extractPartsUptoRow : OpenClaim := { program := "ytconeobaohmbnaadoor", sum := "b0efcbc504376dc1e369bb69c0ba0a4875fc9ba8073e575e824b8a013b828948", func := "coppice/coppicelaw09.ExtractParts", spec := "extractParts", unfollowed := true, recurses := true, named := ["coppice/hash.constants"], plainKeys := false, apart := false, laid := [("coppice/hash.constants", laid_coppice_hash_constants)], narrowed := true }
def ExtractPartsUptoSaid : Prop := extractPartsUptoRow.holds Tryd.pinned (OpenSpec.upto extractPartsSpec)

/-- 'coppicelaw09.ExtractHonest', WHERE WHAT IT READS IS OF BULK AT MOST 1048576: true; the input reads as it did. -/
def extractHonestUptoRow : OpenClaim := { program := "ytconeobaohmbnaadoor", sum := "b0efcbc504376dc1e369bb69c0ba0a4875fc9ba8073e575e824b8a013b828948", func := "coppice/coppicelaw09.ExtractHonest", spec := "extractHonest", unfollowed := true, recurses := true, named := ["coppice/hash.constants"], plainKeys := false, apart := false, laid := [("coppice/hash.constants", laid_coppice_hash_constants)], narrowed := true }
def ExtractHonestUptoSaid : Prop := extractHonestUptoRow.holds Tryd.pinned (OpenSpec.upto extractHonestSpec)

/-- 'coppicetop.TopTree', WHERE WHAT IT READS IS OF BULK AT MOST 1048576: true; the input reads as it did. -/
def topTreeUptoRow : OpenClaim := { program := "ytconeobaohmbnaadoor", sum := "b0efcbc504376dc1e369bb69c0ba0a4875fc9ba8073e575e824b8a013b828948", func := "coppice/coppicetop.TopTree", spec := "topTree", unfollowed := true, recurses := true, named := ["coppice/hash.constants"], plainKeys := false, apart := false, laid := [("coppice/hash.constants", laid_coppice_hash_constants)], narrowed := true }
def TopTreeUptoSaid : Prop := topTreeUptoRow.holds Tryd.pinned (OpenSpec.upto topTreeSpec)

end Rows
end Go.Proofs.YtconeobaohmbnaaDoor
