/-
  NARROWER THAN 'FOR EVERY INPUT', by the rows' own cells (each row's printed sentence says how): DeduceProofs: loops, laid · DeduceChecks: loops, laid · DeduceMore: loops, laid · DeduceKeys: loops, laid · DeduceClosed: loops, laid · DeduceNil: laid.
  DERIVED. THE GIVEN ROWS OF THIS SEAT. 6 by the template 'for every input the law returns true; each argument reads behind the call as it read before'; 0 by the template 'total and deterministic' (their statements: YtljbmgehgbcdfaaDoorTotals.lean).
  GIVEN WITH THE SEED: the statements are not yours to turn. If you find one false, say at which input.
  Laid BY PROGRAM, IN A SANDBOX (cutbox-rows.mjs): the forced cells as the released guide's own fill.sh prints them over the translation f5e4c1b360f3525f… (all of the seat's roots in one cut). By AI agents, Wed Nov 11 2026. No macro, syntax, notation, axiom, sorry.
-/
import Derived.Test.YtljbmgehgbcdfaaDoorChecked
import GoSem.Claim
import GoSem.ClaimJoined
import GoSem.ClaimMapViews
import Derived.JoinedTies
import Derived.KernelRfl
namespace Go.Proofs.YtljbmgehgbcdfaaDoor
/- THE CELL 'sum', in the pinned program and in every row, IS THE sha256 OF THE DUMP (.gsa) THAT YtljbmgehgbcdfaaDoorProg.lean LOADS. Nothing in Lean hashes anything: it is a label: what it is worth is what the hold of that sum in a sandbox is worth. -/
noncomputable def Tryd.pinned : Pinned := { name := "ytljbmgehgbcdfaadoor", sum := "f5e4c1b360f3525f9ccc8f647ac4b06a8bf68f1fe32f5dd38c64942d56c800c4", checked := Tryd.checked }
namespace Rows
def none {H : Type} : Left H := { results := [], args := [] }

/- WHAT THE LISTED PACKAGE-LEVEL VARIABLES READ AS WHEN THE CALL BEGINS. Each datum BY PROGRAM (the guide's laid-datum.mjs) off the statement by which the dump's own 'gosem.cut.vars' lays the variable. In a bare row this is a premise. The card (YtljbmgehgbcdfaaDoorCards.lean) ties it to the program's text. -/
def laid_escrow_term_shapes {H : Type} : DataW H := .agg [.agg [.lit (.bool false), .lit (.bool false), .lit (.bool false), .lit (.bool false), .lit (.int .i64 0)], .agg [.lit (.bool true), .lit (.bool false), .lit (.bool false), .lit (.bool false), .lit (.int .i64 0)], .agg [.lit (.bool false), .lit (.bool false), .lit (.bool true), .lit (.bool false), .lit (.int .i64 0)], .agg [.lit (.bool false), .lit (.bool false), .lit (.bool false), .lit (.bool true), .lit (.int .i64 0)], .agg [.lit (.bool false), .lit (.bool false), .lit (.bool false), .lit (.bool false), .lit (.int .i64 2)], .agg [.lit (.bool false), .lit (.bool false), .lit (.bool false), .lit (.bool false), .lit (.int .i64 1)], .agg [.lit (.bool true), .lit (.bool false), .lit (.bool false), .lit (.bool false), .lit (.int .i64 0)], .agg [.lit (.bool true), .lit (.bool false), .lit (.bool false), .lit (.bool false), .lit (.int .i64 1)], .agg [.lit (.bool true), .lit (.bool true), .lit (.bool false), .lit (.bool false), .lit (.int .i64 1)], .agg [.lit (.bool true), .lit (.bool true), .lit (.bool false), .lit (.bool false), .lit (.int .i64 1)]]

/-- 'escrowlaw08.DeduceProofs': WHATEVER THE INPUT: true; the input reads as it did. -/
def deduceProofsSpec : ChangeSpec := { name := "deduceProofs", fn := fun _ => fun
  | [d1, d2] => { results := [.lit (.bool true)], args := [d1, d2] }
  | _ => none }
def deduceProofsRow : OpenClaim := { program := "ytljbmgehgbcdfaadoor", sum := "f5e4c1b360f3525f9ccc8f647ac4b06a8bf68f1fe32f5dd38c64942d56c800c4", func := "escrow/escrowlaw08.DeduceProofs", spec := "deduceProofs", unfollowed := true, recurses := true, named := ["escrow/term.shapes"], loops := true, plainKeys := false, apart := false, laid := [("escrow/term.shapes", laid_escrow_term_shapes)] }
def DeduceProofsSaid : Prop := deduceProofsRow.holds Tryd.pinned (OpenSpec.ofChange deduceProofsSpec)

/-- ITS FALSE NEIGHBOUR: 'it returns false'. Refute it at one input. -/
def deduceProofsWrong : ChangeSpec := { name := "deduceProofs", fn := fun _ => fun
  | [d1, d2] => { results := [.lit (.bool false)], args := [d1, d2] }
  | _ => none }
def DeduceProofsWrongFalsely : Prop := deduceProofsRow.holds Tryd.pinned (OpenSpec.ofChange deduceProofsWrong)

/-- 'escrowlaw08.DeduceChecks': WHATEVER THE INPUT: true; the input reads as it did. -/
def deduceChecksSpec : ChangeSpec := { name := "deduceChecks", fn := fun _ => fun
  | [d] => { results := [.lit (.bool true)], args := [d] }
  | _ => none }
def deduceChecksRow : OpenClaim := { program := "ytljbmgehgbcdfaadoor", sum := "f5e4c1b360f3525f9ccc8f647ac4b06a8bf68f1fe32f5dd38c64942d56c800c4", func := "escrow/escrowlaw08.DeduceChecks", spec := "deduceChecks", unfollowed := true, recurses := true, named := ["escrow/term.shapes"], loops := true, plainKeys := false, apart := false, laid := [("escrow/term.shapes", laid_escrow_term_shapes)] }
def DeduceChecksSaid : Prop := deduceChecksRow.holds Tryd.pinned (OpenSpec.ofChange deduceChecksSpec)

/-- ITS FALSE NEIGHBOUR: 'it returns false'. Refute it at one input. -/
def deduceChecksWrong : ChangeSpec := { name := "deduceChecks", fn := fun _ => fun
  | [d] => { results := [.lit (.bool false)], args := [d] }
  | _ => none }
def DeduceChecksWrongFalsely : Prop := deduceChecksRow.holds Tryd.pinned (OpenSpec.ofChange deduceChecksWrong)

/-- 'escrowlaw08.DeduceMore': WHATEVER THE INPUT: true; the input reads as it did. -/
def deduceMoreSpec : ChangeSpec := { name := "deduceMore", fn := fun _ => fun
  | [d1, d2, d3] => { results := [.lit (.bool true)], args := [d1, d2, d3] }
  | _ => none }
def deduceMoreRow : OpenClaim := { program := "ytljbmgehgbcdfaadoor", sum := "f5e4c1b360f3525f9ccc8f647ac4b06a8bf68f1fe32f5dd38c64942d56c800c4", func := "escrow/escrowlaw08.DeduceMore", spec := "deduceMore", unfollowed := true, recurses := true, named := ["escrow/term.shapes"], loops := true, plainKeys := false, apart := false, laid := [("escrow/term.shapes", laid_escrow_term_shapes)] }
def DeduceMoreSaid : Prop := deduceMoreRow.holds Tryd.pinned (OpenSpec.ofChange deduceMoreSpec)

/-- ITS FALSE NEIGHBOUR: 'it returns false'. Refute it at one input. -/
def deduceMoreWrong : ChangeSpec := { name := "deduceMore", fn := fun _ => fun
  | [d1, d2, d3] => { results := [.lit (.bool false)], args := [d1, d2, d3] }
  | _ => none }
def DeduceMoreWrongFalsely : Prop := deduceMoreRow.holds Tryd.pinned (OpenSpec.ofChange deduceMoreWrong)

/-- 'escrowlaw08.DeduceKeys': WHATEVER THE INPUT: true; the input reads as it did. -/
def deduceKeysSpec : ChangeSpec := { name := "deduceKeys", fn := fun _ => fun
  | [d1, d2] => { results := [.lit (.bool true)], args := [d1, d2] }
  | _ => none }
def deduceKeysRow : OpenClaim := { program := "ytljbmgehgbcdfaadoor", sum := "f5e4c1b360f3525f9ccc8f647ac4b06a8bf68f1fe32f5dd38c64942d56c800c4", func := "escrow/escrowlaw08.DeduceKeys", spec := "deduceKeys", unfollowed := true, recurses := true, named := ["escrow/term.shapes"], loops := true, plainKeys := false, apart := false, laid := [("escrow/term.shapes", laid_escrow_term_shapes)] }
def DeduceKeysSaid : Prop := deduceKeysRow.holds Tryd.pinned (OpenSpec.ofChange deduceKeysSpec)

/-- ITS FALSE NEIGHBOUR: 'it returns false'. Refute it at one input. -/
def deduceKeysWrong : ChangeSpec := { name := "deduceKeys", fn := fun _ => fun
  | [d1, d2] => { results := [.lit (.bool false)], args := [d1, d2] }
  | _ => none }
def DeduceKeysWrongFalsely : Prop := deduceKeysRow.holds Tryd.pinned (OpenSpec.ofChange deduceKeysWrong)

/-- 'escrowlaw08.DeduceClosed': WHATEVER THE INPUT: true; the input reads as it did. -/
def deduceClosedSpec : ChangeSpec := { name := "deduceClosed", fn := fun _ => fun
  | [d1, d2] => { results := [.lit (.bool true)], args := [d1, d2] }
  | _ => none }
def deduceClosedRow : OpenClaim := { program := "ytljbmgehgbcdfaadoor", sum := "f5e4c1b360f3525f9ccc8f647ac4b06a8bf68f1fe32f5dd38c64942d56c800c4", func := "escrow/escrowlaw08.DeduceClosed", spec := "deduceClosed", unfollowed := true, recurses := true, named := ["escrow/term.shapes"], loops := true, plainKeys := false, apart := false, laid := [("escrow/term.shapes", laid_escrow_term_shapes)] }
def DeduceClosedSaid : Prop := deduceClosedRow.holds Tryd.pinned (OpenSpec.ofChange deduceClosedSpec)

/-- ITS FALSE NEIGHBOUR: 'it returns false'. Refute it at one input. -/
def deduceClosedWrong : ChangeSpec := { name := "deduceClosed", fn := fun _ => fun
  | [d1, d2] => { results := [.lit (.bool false)], args := [d1, d2] }
  | _ => none }
def DeduceClosedWrongFalsely : Prop := deduceClosedRow.holds Tryd.pinned (OpenSpec.ofChange deduceClosedWrong)

/-- 'escrowlaw08.DeduceNil': WHATEVER THE INPUT: true; the input reads as it did. -/
def deduceNilSpec : ChangeSpec := { name := "deduceNil", fn := fun _ => fun
  | [] => { results := [.lit (.bool true)], args := [] }
  | _ => none }
def deduceNilRow : OpenClaim := { program := "ytljbmgehgbcdfaadoor", sum := "f5e4c1b360f3525f9ccc8f647ac4b06a8bf68f1fe32f5dd38c64942d56c800c4", func := "escrow/escrowlaw08.DeduceNil", spec := "deduceNil", inPlace := ["maps.clone"], unfollowed := true, recurses := true, named := ["escrow/term.shapes"], plainKeys := false, apart := false, laid := [("escrow/term.shapes", laid_escrow_term_shapes)] }
def DeduceNilSaid : Prop := deduceNilRow.holds Tryd.pinned (OpenSpec.ofChange deduceNilSpec)

/-- ITS FALSE NEIGHBOUR: 'it returns false'. Refute it at one input. -/
def deduceNilWrong : ChangeSpec := { name := "deduceNil", fn := fun _ => fun
  | [] => { results := [.lit (.bool false)], args := [] }
  | _ => none }
def DeduceNilWrongFalsely : Prop := deduceNilRow.holds Tryd.pinned (OpenSpec.ofChange deduceNilWrong)

/- THE SECOND FORM. 'bulk': how many values and letters a reading holds, each counted each time it is reached (what is shared counts as often as it is met; a slice's spare places count too). A statement '..UptoSaid' is the law's where the arguments, and the package variables that the reading takes, are together of bulk at most 1048576: NARROWER than '..Said'. Prove '..Said' where nothing that the law and all that it calls make is longer than what came in: it says more and counts as full. Else prove '..UptoSaid'. A law counts once. -/
mutual
def uptoBulk {H : Type} : DataW H → Nat
  | .lit (.string bytes) => bytes.length + 1
  | .lit _ => 1
  | .nil => 1
  | .ptr d => uptoBulk d + 1
  | .slice elems spare => uptoBulkAll elems + uptoBulkAll spare + 1
  | .agg parts => uptoBulkAll parts + 1
  | .iface _ d => uptoBulk d + 1
  | .map entries => uptoBulkEntries entries + 1
  | .held _ => 1
def uptoBulkAll {H : Type} : List (DataW H) → Nat
  | [] => 0
  | d :: r => uptoBulk d + uptoBulkAll r
def uptoBulkEntries {H : Type} : List (Lit × DataW H) → Nat
  | [] => 0
  | x :: r => uptoBulkEntry x + uptoBulkEntries r
def uptoBulkEntry {H : Type} : Lit × DataW H → Nat
  | (.string bytes, d) => bytes.length + uptoBulk d + 1
  | (_, d) => uptoBulk d + 1
 end
def uptoSmall : (H : Type) → List (DataW H) → Bool := fun _ ds => decide (uptoBulkAll ds ≤ 1048576)
def OpenSpec.upto (s : _root_.Go.ChangeSpec) : _root_.Go.OpenSpec := { _root_.Go.OpenSpec.ofChange s with cond := some uptoSmall }

/-- 'escrowlaw08.DeduceProofs', WHERE WHAT IT READS IS OF BULK AT MOST 1048576: true; the input reads as it did. -/
def deduceProofsUptoRow : OpenClaim := { program := "ytljbmgehgbcdfaadoor", sum := "f5e4c1b360f3525f9ccc8f647ac4b06a8bf68f1fe32f5dd38c64942d56c800c4", func := "escrow/escrowlaw08.DeduceProofs", spec := "deduceProofs", unfollowed := true, recurses := true, named := ["escrow/term.shapes"], loops := true, plainKeys := false, apart := false, laid := [("escrow/term.shapes", laid_escrow_term_shapes)], narrowed := true }
def DeduceProofsUptoSaid : Prop := deduceProofsUptoRow.holds Tryd.pinned (OpenSpec.upto deduceProofsSpec)

/-- 'escrowlaw08.DeduceChecks', WHERE WHAT IT READS IS OF BULK AT MOST 1048576: true; the input reads as it did. -/
def deduceChecksUptoRow : OpenClaim := { program := "ytljbmgehgbcdfaadoor", sum := "f5e4c1b360f3525f9ccc8f647ac4b06a8bf68f1fe32f5dd38c64942d56c800c4", func := "escrow/escrowlaw08.DeduceChecks", spec := "deduceChecks", unfollowed := true, recurses := true, named := ["escrow/term.shapes"], loops := true, plainKeys := false, apart := false, laid := [("escrow/term.shapes", laid_escrow_term_shapes)], narrowed := true }
def DeduceChecksUptoSaid : Prop := deduceChecksUptoRow.holds Tryd.pinned (OpenSpec.upto deduceChecksSpec)

/-- 'escrowlaw08.DeduceMore', WHERE WHAT IT READS IS OF BULK AT MOST 1048576: true; the input reads as it did. -/
def deduceMoreUptoRow : OpenClaim := { program := "ytljbmgehgbcdfaadoor", sum := "f5e4c1b360f3525f9ccc8f647ac4b06a8bf68f1fe32f5dd38c64942d56c800c4", func := "escrow/escrowlaw08.DeduceMore", spec := "deduceMore", unfollowed := true, recurses := true, named := ["escrow/term.shapes"], loops := true, plainKeys := false, apart := false, laid := [("escrow/term.shapes", laid_escrow_term_shapes)], narrowed := true }
def DeduceMoreUptoSaid : Prop := deduceMoreUptoRow.holds Tryd.pinned (OpenSpec.upto deduceMoreSpec)

/-- 'escrowlaw08.DeduceKeys', WHERE WHAT IT READS IS OF BULK AT MOST 1048576: true; the input reads as it did. -/
def deduceKeysUptoRow : OpenClaim := { program := "ytljbmgehgbcdfaadoor", sum := "f5e4c1b360f3525f9ccc8f647ac4b06a8bf68f1fe32f5dd38c64942d56c800c4", func := "escrow/escrowlaw08.DeduceKeys", spec := "deduceKeys", unfollowed := true, recurses := true, named := ["escrow/term.shapes"], loops := true, plainKeys := false, apart := false, laid := [("escrow/term.shapes", laid_escrow_term_shapes)], narrowed := true }
def DeduceKeysUptoSaid : Prop := deduceKeysUptoRow.holds Tryd.pinned (OpenSpec.upto deduceKeysSpec)

/-- 'escrowlaw08.DeduceClosed', WHERE WHAT IT READS IS OF BULK AT MOST 1048576: true; the input reads as it did. -/
def deduceClosedUptoRow : OpenClaim := { program := "ytljbmgehgbcdfaadoor", sum := "f5e4c1b360f3525f9ccc8f647ac4b06a8bf68f1fe32f5dd38c64942d56c800c4", func := "escrow/escrowlaw08.DeduceClosed", spec := "deduceClosed", unfollowed := true, recurses := true, named := ["escrow/term.shapes"], loops := true, plainKeys := false, apart := false, laid := [("escrow/term.shapes", laid_escrow_term_shapes)], narrowed := true }
def DeduceClosedUptoSaid : Prop := deduceClosedUptoRow.holds Tryd.pinned (OpenSpec.upto deduceClosedSpec)

/-- 'escrowlaw08.DeduceNil', WHERE WHAT IT READS IS OF BULK AT MOST 1048576: true; the input reads as it did. -/
def deduceNilUptoRow : OpenClaim := { program := "ytljbmgehgbcdfaadoor", sum := "f5e4c1b360f3525f9ccc8f647ac4b06a8bf68f1fe32f5dd38c64942d56c800c4", func := "escrow/escrowlaw08.DeduceNil", spec := "deduceNil", inPlace := ["maps.clone"], unfollowed := true, recurses := true, named := ["escrow/term.shapes"], plainKeys := false, apart := false, laid := [("escrow/term.shapes", laid_escrow_term_shapes)], narrowed := true }
def DeduceNilUptoSaid : Prop := deduceNilUptoRow.holds Tryd.pinned (OpenSpec.upto deduceNilSpec)

end Rows
end Go.Proofs.YtljbmgehgbcdfaaDoor
