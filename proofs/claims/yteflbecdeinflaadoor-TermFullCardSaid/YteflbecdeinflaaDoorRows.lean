/-
  NARROWER THAN 'FOR EVERY INPUT', by the rows' own cells (each row's printed sentence says how): TermMakes: laid · TermTrees: loops, laid · TermOnce: loops, laid · TermSubs: loops, laid · TermCopies: loops, laid · TermCompares: loops, laid · TermFull: loops, laid · TermNil: laid.
  DERIVED. THE GIVEN ROWS OF THIS SEAT. 8 by the template 'for every input the law returns true; each argument reads behind the call as it read before'; 0 by the template 'total and deterministic' (their statements: YteflbecdeinflaaDoorTotals.lean).
  GIVEN WITH THE SEED: the statements are not yours to turn. If you find one false, say at which input.
  Laid BY PROGRAM, IN A SANDBOX (cutbox-rows.mjs): the forced cells as the released guide's own fill.sh prints them over the translation d432b7bcb47459a6… (all of the seat's roots in one cut). By AI agents, Wed Nov 11 2026. No macro, syntax, notation, axiom, sorry.
-/
import Derived.Test.YteflbecdeinflaaDoorChecked
import GoSem.Claim
import GoSem.ClaimJoined
import GoSem.ClaimMapViews
import Derived.JoinedTies
import Derived.KernelRfl
namespace Go.Proofs.YteflbecdeinflaaDoor
/- THE CELL 'sum', in the pinned program and in every row, IS THE sha256 OF THE DUMP (.gsa) THAT YteflbecdeinflaaDoorProg.lean LOADS. Nothing in Lean hashes anything: it is a label: what it is worth is what the hold of that sum in a sandbox is worth. -/
noncomputable def Tryd.pinned : Pinned := { name := "yteflbecdeinflaadoor", sum := "d432b7bcb47459a652972c5dfc038ab1f1c8fbb7038264537073563c7db0af64", checked := Tryd.checked }
namespace Rows
def none {H : Type} : Left H := { results := [], args := [] }

/- WHAT THE LISTED PACKAGE-LEVEL VARIABLES READ AS WHEN THE CALL BEGINS. Each datum BY PROGRAM (the guide's laid-datum.mjs) off the statement by which the dump's own 'gosem.cut.vars' lays the variable. In a bare row this is a premise. The card (YteflbecdeinflaaDoorCards.lean) ties it to the program's text. -/
def laid_escrow_term_shapes {H : Type} : DataW H := .agg [.agg [.lit (.bool false), .lit (.bool false), .lit (.bool false), .lit (.bool false), .lit (.int .i64 0)], .agg [.lit (.bool true), .lit (.bool false), .lit (.bool false), .lit (.bool false), .lit (.int .i64 0)], .agg [.lit (.bool false), .lit (.bool false), .lit (.bool true), .lit (.bool false), .lit (.int .i64 0)], .agg [.lit (.bool false), .lit (.bool false), .lit (.bool false), .lit (.bool true), .lit (.int .i64 0)], .agg [.lit (.bool false), .lit (.bool false), .lit (.bool false), .lit (.bool false), .lit (.int .i64 2)], .agg [.lit (.bool false), .lit (.bool false), .lit (.bool false), .lit (.bool false), .lit (.int .i64 1)], .agg [.lit (.bool true), .lit (.bool false), .lit (.bool false), .lit (.bool false), .lit (.int .i64 0)], .agg [.lit (.bool true), .lit (.bool false), .lit (.bool false), .lit (.bool false), .lit (.int .i64 1)], .agg [.lit (.bool true), .lit (.bool true), .lit (.bool false), .lit (.bool false), .lit (.int .i64 1)], .agg [.lit (.bool true), .lit (.bool true), .lit (.bool false), .lit (.bool false), .lit (.int .i64 1)]]

/-- 'escrowlaw05.TermMakes': WHATEVER THE INPUT: true; the input reads as it did. -/
def termMakesSpec : ChangeSpec := { name := "termMakes", fn := fun _ => fun
  | [d1, d2] => { results := [.lit (.bool true)], args := [d1, d2] }
  | _ => none }
def termMakesRow : OpenClaim := { program := "yteflbecdeinflaadoor", sum := "d432b7bcb47459a652972c5dfc038ab1f1c8fbb7038264537073563c7db0af64", func := "escrow/escrowlaw05.TermMakes", spec := "termMakes", named := ["escrow/term.shapes"], plainKeys := false, apart := false, laid := [("escrow/term.shapes", laid_escrow_term_shapes)] }
def TermMakesSaid : Prop := termMakesRow.holds Tryd.pinned (OpenSpec.ofChange termMakesSpec)

/-- ITS FALSE NEIGHBOUR: 'it returns false'. Refute it at one input. -/
def termMakesWrong : ChangeSpec := { name := "termMakes", fn := fun _ => fun
  | [d1, d2] => { results := [.lit (.bool false)], args := [d1, d2] }
  | _ => none }
def TermMakesWrongFalsely : Prop := termMakesRow.holds Tryd.pinned (OpenSpec.ofChange termMakesWrong)

/-- 'escrowlaw05.TermTrees': WHATEVER THE INPUT: true; the input reads as it did. -/
def termTreesSpec : ChangeSpec := { name := "termTrees", fn := fun _ => fun
  | [d] => { results := [.lit (.bool true)], args := [d] }
  | _ => none }
def termTreesRow : OpenClaim := { program := "yteflbecdeinflaadoor", sum := "d432b7bcb47459a652972c5dfc038ab1f1c8fbb7038264537073563c7db0af64", func := "escrow/escrowlaw05.TermTrees", spec := "termTrees", recurses := true, named := ["escrow/term.shapes"], loops := true, plainKeys := false, apart := false, laid := [("escrow/term.shapes", laid_escrow_term_shapes)] }
def TermTreesSaid : Prop := termTreesRow.holds Tryd.pinned (OpenSpec.ofChange termTreesSpec)

/-- ITS FALSE NEIGHBOUR: 'it returns false'. Refute it at one input. -/
def termTreesWrong : ChangeSpec := { name := "termTrees", fn := fun _ => fun
  | [d] => { results := [.lit (.bool false)], args := [d] }
  | _ => none }
def TermTreesWrongFalsely : Prop := termTreesRow.holds Tryd.pinned (OpenSpec.ofChange termTreesWrong)

/-- 'escrowlaw05.TermOnce': WHATEVER THE INPUT: true; the input reads as it did. -/
def termOnceSpec : ChangeSpec := { name := "termOnce", fn := fun _ => fun
  | [d1, d2] => { results := [.lit (.bool true)], args := [d1, d2] }
  | _ => none }
def termOnceRow : OpenClaim := { program := "yteflbecdeinflaadoor", sum := "d432b7bcb47459a652972c5dfc038ab1f1c8fbb7038264537073563c7db0af64", func := "escrow/escrowlaw05.TermOnce", spec := "termOnce", recurses := true, named := ["escrow/term.shapes"], loops := true, plainKeys := false, apart := false, laid := [("escrow/term.shapes", laid_escrow_term_shapes)] }
def TermOnceSaid : Prop := termOnceRow.holds Tryd.pinned (OpenSpec.ofChange termOnceSpec)

/-- ITS FALSE NEIGHBOUR: 'it returns false'. Refute it at one input. -/
def termOnceWrong : ChangeSpec := { name := "termOnce", fn := fun _ => fun
  | [d1, d2] => { results := [.lit (.bool false)], args := [d1, d2] }
  | _ => none }
def TermOnceWrongFalsely : Prop := termOnceRow.holds Tryd.pinned (OpenSpec.ofChange termOnceWrong)

/-- 'escrowlaw05.TermSubs': WHATEVER THE INPUT: true; the input reads as it did. -/
def termSubsSpec : ChangeSpec := { name := "termSubs", fn := fun _ => fun
  | [d1, d2] => { results := [.lit (.bool true)], args := [d1, d2] }
  | _ => none }
def termSubsRow : OpenClaim := { program := "yteflbecdeinflaadoor", sum := "d432b7bcb47459a652972c5dfc038ab1f1c8fbb7038264537073563c7db0af64", func := "escrow/escrowlaw05.TermSubs", spec := "termSubs", unfollowed := true, recurses := true, named := ["escrow/term.shapes"], loops := true, plainKeys := false, apart := false, laid := [("escrow/term.shapes", laid_escrow_term_shapes)] }
def TermSubsSaid : Prop := termSubsRow.holds Tryd.pinned (OpenSpec.ofChange termSubsSpec)

/-- ITS FALSE NEIGHBOUR: 'it returns false'. Refute it at one input. -/
def termSubsWrong : ChangeSpec := { name := "termSubs", fn := fun _ => fun
  | [d1, d2] => { results := [.lit (.bool false)], args := [d1, d2] }
  | _ => none }
def TermSubsWrongFalsely : Prop := termSubsRow.holds Tryd.pinned (OpenSpec.ofChange termSubsWrong)

/-- 'escrowlaw05.TermCopies': WHATEVER THE INPUT: true; the input reads as it did. -/
def termCopiesSpec : ChangeSpec := { name := "termCopies", fn := fun _ => fun
  | [d1, d2, d3] => { results := [.lit (.bool true)], args := [d1, d2, d3] }
  | _ => none }
def termCopiesRow : OpenClaim := { program := "yteflbecdeinflaadoor", sum := "d432b7bcb47459a652972c5dfc038ab1f1c8fbb7038264537073563c7db0af64", func := "escrow/escrowlaw05.TermCopies", spec := "termCopies", unfollowed := true, recurses := true, named := ["escrow/term.shapes"], loops := true, plainKeys := false, apart := false, laid := [("escrow/term.shapes", laid_escrow_term_shapes)] }
def TermCopiesSaid : Prop := termCopiesRow.holds Tryd.pinned (OpenSpec.ofChange termCopiesSpec)

/-- ITS FALSE NEIGHBOUR: 'it returns false'. Refute it at one input. -/
def termCopiesWrong : ChangeSpec := { name := "termCopies", fn := fun _ => fun
  | [d1, d2, d3] => { results := [.lit (.bool false)], args := [d1, d2, d3] }
  | _ => none }
def TermCopiesWrongFalsely : Prop := termCopiesRow.holds Tryd.pinned (OpenSpec.ofChange termCopiesWrong)

/-- 'escrowlaw05.TermCompares': WHATEVER THE INPUT: true; the input reads as it did. -/
def termComparesSpec : ChangeSpec := { name := "termCompares", fn := fun _ => fun
  | [d1, d2, d3, d4] => { results := [.lit (.bool true)], args := [d1, d2, d3, d4] }
  | _ => none }
def termComparesRow : OpenClaim := { program := "yteflbecdeinflaadoor", sum := "d432b7bcb47459a652972c5dfc038ab1f1c8fbb7038264537073563c7db0af64", func := "escrow/escrowlaw05.TermCompares", spec := "termCompares", recurses := true, named := ["escrow/term.shapes"], loops := true, plainKeys := false, apart := false, laid := [("escrow/term.shapes", laid_escrow_term_shapes)] }
def TermComparesSaid : Prop := termComparesRow.holds Tryd.pinned (OpenSpec.ofChange termComparesSpec)

/-- ITS FALSE NEIGHBOUR: 'it returns false'. Refute it at one input. -/
def termComparesWrong : ChangeSpec := { name := "termCompares", fn := fun _ => fun
  | [d1, d2, d3, d4] => { results := [.lit (.bool false)], args := [d1, d2, d3, d4] }
  | _ => none }
def TermComparesWrongFalsely : Prop := termComparesRow.holds Tryd.pinned (OpenSpec.ofChange termComparesWrong)

/-- 'escrowlaw05.TermFull': WHATEVER THE INPUT: true; the input reads as it did. -/
def termFullSpec : ChangeSpec := { name := "termFull", fn := fun _ => fun
  | [d1, d2] => { results := [.lit (.bool true)], args := [d1, d2] }
  | _ => none }
def termFullRow : OpenClaim := { program := "yteflbecdeinflaadoor", sum := "d432b7bcb47459a652972c5dfc038ab1f1c8fbb7038264537073563c7db0af64", func := "escrow/escrowlaw05.TermFull", spec := "termFull", recurses := true, named := ["escrow/term.shapes"], loops := true, plainKeys := false, apart := false, laid := [("escrow/term.shapes", laid_escrow_term_shapes)] }
def TermFullSaid : Prop := termFullRow.holds Tryd.pinned (OpenSpec.ofChange termFullSpec)

/-- ITS FALSE NEIGHBOUR: 'it returns false'. Refute it at one input. -/
def termFullWrong : ChangeSpec := { name := "termFull", fn := fun _ => fun
  | [d1, d2] => { results := [.lit (.bool false)], args := [d1, d2] }
  | _ => none }
def TermFullWrongFalsely : Prop := termFullRow.holds Tryd.pinned (OpenSpec.ofChange termFullWrong)

/-- 'escrowlaw05.TermNil': WHATEVER THE INPUT: true; the input reads as it did. -/
def termNilSpec : ChangeSpec := { name := "termNil", fn := fun _ => fun
  | [d1, d2] => { results := [.lit (.bool true)], args := [d1, d2] }
  | _ => none }
def termNilRow : OpenClaim := { program := "yteflbecdeinflaadoor", sum := "d432b7bcb47459a652972c5dfc038ab1f1c8fbb7038264537073563c7db0af64", func := "escrow/escrowlaw05.TermNil", spec := "termNil", recurses := true, named := ["escrow/term.shapes"], plainKeys := false, apart := false, laid := [("escrow/term.shapes", laid_escrow_term_shapes)] }
def TermNilSaid : Prop := termNilRow.holds Tryd.pinned (OpenSpec.ofChange termNilSpec)

/-- ITS FALSE NEIGHBOUR: 'it returns false'. Refute it at one input. -/
def termNilWrong : ChangeSpec := { name := "termNil", fn := fun _ => fun
  | [d1, d2] => { results := [.lit (.bool false)], args := [d1, d2] }
  | _ => none }
def TermNilWrongFalsely : Prop := termNilRow.holds Tryd.pinned (OpenSpec.ofChange termNilWrong)

/- THE SECOND FORM. 'bulk': how many values and letters a reading holds, each counted each time it is reached (what is shared counts as often as it is met; a slice's spare places count too). A statement '..UptoSaid' is the law's where the arguments, and the package variables that the reading takes, are together of bulk at most 1048576: NARROWER than '..Said'. Prove '..Said' where nothing that the law and all that it calls make is longer than what came in: it says more and counts as full. Else prove '..UptoSaid'. A law counts once. -/
mutual
def uptoBulk {H : Type} : DataW H → Nat
  | .lit (.string bytes) => bytes.length + 1
  | .lit _ => 1
  | .nil => 1
  | .ptr d => uptoBulk d + 1
  | .slice elems spare => uptoBulkAll elems + uptoBulkAll spare + 1
  | .agg parts => uptoBulkAll parts + 1
  | .iface _ d => uptoBulk d + 1
  | .map entries => uptoBulkEntries entries + 1
  | .held _ => 1
def uptoBulkAll {H : Type} : List (DataW H) → Nat
  | [] => 0
  | d :: r => uptoBulk d + uptoBulkAll r
def uptoBulkEntries {H : Type} : List (Lit × DataW H) → Nat
  | [] => 0
  | x :: r => uptoBulkEntry x + uptoBulkEntries r
def uptoBulkEntry {H : Type} : Lit × DataW H → Nat
  | (.string bytes, d) => bytes.length + uptoBulk d + 1
  | (_, d) => uptoBulk d + 1
 end
def uptoSmall : (H : Type) → List (DataW H) → Bool := fun _ ds => decide (uptoBulkAll ds ≤ 1048576)
def OpenSpec.upto (s : _root_.Go.ChangeSpec) : _root_.Go.OpenSpec := { _root_.Go.OpenSpec.ofChange s with cond := some uptoSmall }

/-- 'escrowlaw05.TermMakes', WHERE WHAT IT READS IS OF BULK AT MOST 1048576: true; the input reads as it did. -/
def termMakesUptoRow : OpenClaim := { program := "yteflbecdeinflaadoor", sum := "d432b7bcb47459a652972c5dfc038ab1f1c8fbb7038264537073563c7db0af64", func := "escrow/escrowlaw05.TermMakes", spec := "termMakes", named := ["escrow/term.shapes"], plainKeys := false, apart := false, laid := [("escrow/term.shapes", laid_escrow_term_shapes)], narrowed := true }
def TermMakesUptoSaid : Prop := termMakesUptoRow.holds Tryd.pinned (OpenSpec.upto termMakesSpec)

/-- 'escrowlaw05.TermTrees', WHERE WHAT IT READS IS OF BULK AT MOST 1048576: true; the input reads as it did. -/
def termTreesUptoRow : OpenClaim := { program := "yteflbecdeinflaadoor", sum := "d432b7bcb47459a652972c5dfc038ab1f1c8fbb7038264537073563c7db0af64", func := "escrow/escrowlaw05.TermTrees", spec := "termTrees", recurses := true, named := ["escrow/term.shapes"], loops := true, plainKeys := false, apart := false, laid := [("escrow/term.shapes", laid_escrow_term_shapes)], narrowed := true }
def TermTreesUptoSaid : Prop := termTreesUptoRow.holds Tryd.pinned (OpenSpec.upto termTreesSpec)

/-- 'escrowlaw05.TermOnce', WHERE WHAT IT READS IS OF BULK AT MOST 1048576: true; the input reads as it did. -/
def termOnceUptoRow : OpenClaim := { program := "yteflbecdeinflaadoor", sum := "d432b7bcb47459a652972c5dfc038ab1f1c8fbb7038264537073563c7db0af64", func := "escrow/escrowlaw05.TermOnce", spec := "termOnce", recurses := true, named := ["escrow/term.shapes"], loops := true, plainKeys := false, apart := false, laid := [("escrow/term.shapes", laid_escrow_term_shapes)], narrowed := true }
def TermOnceUptoSaid : Prop := termOnceUptoRow.holds Tryd.pinned (OpenSpec.upto termOnceSpec)

/-- 'escrowlaw05.TermSubs', WHERE WHAT IT READS IS OF BULK AT MOST 1048576: true; the input reads as it did. -/
def termSubsUptoRow : OpenClaim := { program := "yteflbecdeinflaadoor", sum := "d432b7bcb47459a652972c5dfc038ab1f1c8fbb7038264537073563c7db0af64", func := "escrow/escrowlaw05.TermSubs", spec := "termSubs", unfollowed := true, recurses := true, named := ["escrow/term.shapes"], loops := true, plainKeys := false, apart := false, laid := [("escrow/term.shapes", laid_escrow_term_shapes)], narrowed := true }
def TermSubsUptoSaid : Prop := termSubsUptoRow.holds Tryd.pinned (OpenSpec.upto termSubsSpec)

/-- 'escrowlaw05.TermCopies', WHERE WHAT IT READS IS OF BULK AT MOST 1048576: true; the input reads as it did. -/
def termCopiesUptoRow : OpenClaim := { program := "yteflbecdeinflaadoor", sum := "d432b7bcb47459a652972c5dfc038ab1f1c8fbb7038264537073563c7db0af64", func := "escrow/escrowlaw05.TermCopies", spec := "termCopies", unfollowed := true, recurses := true, named := ["escrow/term.shapes"], loops := true, plainKeys := false, apart := false, laid := [("escrow/term.shapes", laid_escrow_term_shapes)], narrowed := true }
def TermCopiesUptoSaid : Prop := termCopiesUptoRow.holds Tryd.pinned (OpenSpec.upto termCopiesSpec)

/-- 'escrowlaw05.TermCompares', WHERE WHAT IT READS IS OF BULK AT MOST 1048576: true; the input reads as it did. -/
def termComparesUptoRow : OpenClaim := { program := "yteflbecdeinflaadoor", sum := "d432b7bcb47459a652972c5dfc038ab1f1c8fbb7038264537073563c7db0af64", func := "escrow/escrowlaw05.TermCompares", spec := "termCompares", recurses := true, named := ["escrow/term.shapes"], loops := true, plainKeys := false, apart := false, laid := [("escrow/term.shapes", laid_escrow_term_shapes)], narrowed := true }
def TermComparesUptoSaid : Prop := termComparesUptoRow.holds Tryd.pinned (OpenSpec.upto termComparesSpec)

/-- 'escrowlaw05.TermFull', WHERE WHAT IT READS IS OF BULK AT MOST 1048576: true; the input reads as it did. -/
def termFullUptoRow : OpenClaim := { program := "yteflbecdeinflaadoor", sum := "d432b7bcb47459a652972c5dfc038ab1f1c8fbb7038264537073563c7db0af64", func := "escrow/escrowlaw05.TermFull", spec := "termFull", recurses := true, named := ["escrow/term.shapes"], loops := true, plainKeys := false, apart := false, laid := [("escrow/term.shapes", laid_escrow_term_shapes)], narrowed := true }
def TermFullUptoSaid : Prop := termFullUptoRow.holds Tryd.pinned (OpenSpec.upto termFullSpec)

/-- 'escrowlaw05.TermNil', WHERE WHAT IT READS IS OF BULK AT MOST 1048576: true; the input reads as it did. -/
def termNilUptoRow : OpenClaim := { program := "yteflbecdeinflaadoor", sum := "d432b7bcb47459a652972c5dfc038ab1f1c8fbb7038264537073563c7db0af64", func := "escrow/escrowlaw05.TermNil", spec := "termNil", recurses := true, named := ["escrow/term.shapes"], plainKeys := false, apart := false, laid := [("escrow/term.shapes", laid_escrow_term_shapes)], narrowed := true }
def TermNilUptoSaid : Prop := termNilUptoRow.holds Tryd.pinned (OpenSpec.upto termNilSpec)

end Rows
end Go.Proofs.YteflbecdeinflaaDoor
