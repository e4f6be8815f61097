/-
  NARROWER THAN 'FOR EVERY INPUT', by the rows' own cells (each row's printed sentence says how): ViewAlike: loops, laid · ViewEquals: loops, laid · ViewOnce: loops, laid · ViewFree: loops, laid · ViewNil: laid.
  DERIVED. THE GIVEN ROWS OF THIS SEAT. 5 by the template 'for every input the law returns true; each argument reads behind the call as it read before'; 0 by the template 'total and deterministic' (their statements: YtgaklaajbepfaaaDoorTotals.lean).
  GIVEN WITH THE SEED: the statements are not yours to turn. If you find one false, say at which input.
  Laid BY PROGRAM, IN A SANDBOX (cutbox-rows.mjs): the forced cells as the released guide's own fill.sh prints them over the translation 1d0e4716f7b54b1c… (all of the seat's roots in one cut). By AI agents, Wed Nov 11 2026. No macro, syntax, notation, axiom, sorry.
-/
import Derived.Test.YtgaklaajbepfaaaDoorChecked
import GoSem.Claim
import GoSem.ClaimJoined
import GoSem.ClaimMapViews
import Derived.JoinedTies
import Derived.KernelRfl
namespace Go.Proofs.YtgaklaajbepfaaaDoor
/- THE CELL 'sum', in the pinned program and in every row, IS THE sha256 OF THE DUMP (.gsa) THAT YtgaklaajbepfaaaDoorProg.lean LOADS. Nothing in Lean hashes anything: it is a label: what it is worth is what the hold of that sum in a sandbox is worth. -/
noncomputable def Tryd.pinned : Pinned := { name := "ytgaklaajbepfaaadoor", sum := "1d0e4716f7b54b1cdf2623f2a053a0be4dec61f14883ca6fb60caa1167c22f02", checked := Tryd.checked }
namespace Rows
def none {H : Type} : Left H := { results := [], args := [] }

/- WHAT THE LISTED PACKAGE-LEVEL VARIABLES READ AS WHEN THE CALL BEGINS. Each datum BY PROGRAM (the guide's laid-datum.mjs) off the statement by which the dump's own 'gosem.cut.vars' lays the variable. In a bare row this is a premise. The card (YtgaklaajbepfaaaDoorCards.lean) ties it to the program's text. -/
def laid_escrow_term_shapes {H : Type} : DataW H := .agg [.agg [.lit (.bool false), .lit (.bool false), .lit (.bool false), .lit (.bool false), .lit (.int .i64 0)], .agg [.lit (.bool true), .lit (.bool false), .lit (.bool false), .lit (.bool false), .lit (.int .i64 0)], .agg [.lit (.bool false), .lit (.bool false), .lit (.bool true), .lit (.bool false), .lit (.int .i64 0)], .agg [.lit (.bool false), .lit (.bool false), .lit (.bool false), .lit (.bool true), .lit (.int .i64 0)], .agg [.lit (.bool false), .lit (.bool false), .lit (.bool false), .lit (.bool false), .lit (.int .i64 2)], .agg [.lit (.bool false), .lit (.bool false), .lit (.bool false), .lit (.bool false), .lit (.int .i64 1)], .agg [.lit (.bool true), .lit (.bool false), .lit (.bool false), .lit (.bool false), .lit (.int .i64 0)], .agg [.lit (.bool true), .lit (.bool false), .lit (.bool false), .lit (.bool false), .lit (.int .i64 1)], .agg [.lit (.bool true), .lit (.bool true), .lit (.bool false), .lit (.bool false), .lit (.int .i64 1)], .agg [.lit (.bool true), .lit (.bool true), .lit (.bool false), .lit (.bool false), .lit (.int .i64 1)]]

/-- 'escrowlaw10.ViewAlike': WHATEVER THE INPUT: true; the input reads as it did. -/
def viewAlikeSpec : ChangeSpec := { name := "viewAlike", fn := fun _ => fun
  | [d] => { results := [.lit (.bool true)], args := [d] }
  | _ => none }
def viewAlikeRow : OpenClaim := { program := "ytgaklaajbepfaaadoor", sum := "1d0e4716f7b54b1cdf2623f2a053a0be4dec61f14883ca6fb60caa1167c22f02", func := "escrow/escrowlaw10.ViewAlike", spec := "viewAlike", unfollowed := true, recurses := true, named := ["escrow/term.shapes"], loops := true, plainKeys := false, apart := false, laid := [("escrow/term.shapes", laid_escrow_term_shapes)] }
def ViewAlikeSaid : Prop := viewAlikeRow.holds Tryd.pinned (OpenSpec.ofChange viewAlikeSpec)

/-- ITS FALSE NEIGHBOUR: 'it returns false'. Refute it at one input. -/
def viewAlikeWrong : ChangeSpec := { name := "viewAlike", fn := fun _ => fun
  | [d] => { results := [.lit (.bool false)], args := [d] }
  | _ => none }
def ViewAlikeWrongFalsely : Prop := viewAlikeRow.holds Tryd.pinned (OpenSpec.ofChange viewAlikeWrong)

/-- 'escrowlaw10.ViewEquals': WHATEVER THE INPUT: true; the input reads as it did. -/
def viewEqualsSpec : ChangeSpec := { name := "viewEquals", fn := fun _ => fun
  | [d] => { results := [.lit (.bool true)], args := [d] }
  | _ => none }
def viewEqualsRow : OpenClaim := { program := "ytgaklaajbepfaaadoor", sum := "1d0e4716f7b54b1cdf2623f2a053a0be4dec61f14883ca6fb60caa1167c22f02", func := "escrow/escrowlaw10.ViewEquals", spec := "viewEquals", unfollowed := true, recurses := true, named := ["escrow/term.shapes"], loops := true, plainKeys := false, apart := false, laid := [("escrow/term.shapes", laid_escrow_term_shapes)] }
def ViewEqualsSaid : Prop := viewEqualsRow.holds Tryd.pinned (OpenSpec.ofChange viewEqualsSpec)

/-- ITS FALSE NEIGHBOUR: 'it returns false'. Refute it at one input. -/
def viewEqualsWrong : ChangeSpec := { name := "viewEquals", fn := fun _ => fun
  | [d] => { results := [.lit (.bool false)], args := [d] }
  | _ => none }
def ViewEqualsWrongFalsely : Prop := viewEqualsRow.holds Tryd.pinned (OpenSpec.ofChange viewEqualsWrong)

/-- 'escrowlaw10.ViewOnce': WHATEVER THE INPUT: true; the input reads as it did. -/
def viewOnceSpec : ChangeSpec := { name := "viewOnce", fn := fun _ => fun
  | [d1, d2, d3] => { results := [.lit (.bool true)], args := [d1, d2, d3] }
  | _ => none }
def viewOnceRow : OpenClaim := { program := "ytgaklaajbepfaaadoor", sum := "1d0e4716f7b54b1cdf2623f2a053a0be4dec61f14883ca6fb60caa1167c22f02", func := "escrow/escrowlaw10.ViewOnce", spec := "viewOnce", unfollowed := true, recurses := true, named := ["escrow/term.shapes"], loops := true, plainKeys := false, apart := false, laid := [("escrow/term.shapes", laid_escrow_term_shapes)] }
def ViewOnceSaid : Prop := viewOnceRow.holds Tryd.pinned (OpenSpec.ofChange viewOnceSpec)

/-- ITS FALSE NEIGHBOUR: 'it returns false'. Refute it at one input. -/
def viewOnceWrong : ChangeSpec := { name := "viewOnce", fn := fun _ => fun
  | [d1, d2, d3] => { results := [.lit (.bool false)], args := [d1, d2, d3] }
  | _ => none }
def ViewOnceWrongFalsely : Prop := viewOnceRow.holds Tryd.pinned (OpenSpec.ofChange viewOnceWrong)

/-- 'escrowlaw10.ViewFree': WHATEVER THE INPUT: true; the input reads as it did. -/
def viewFreeSpec : ChangeSpec := { name := "viewFree", fn := fun _ => fun
  | [d] => { results := [.lit (.bool true)], args := [d] }
  | _ => none }
def viewFreeRow : OpenClaim := { program := "ytgaklaajbepfaaadoor", sum := "1d0e4716f7b54b1cdf2623f2a053a0be4dec61f14883ca6fb60caa1167c22f02", func := "escrow/escrowlaw10.ViewFree", spec := "viewFree", unfollowed := true, recurses := true, named := ["escrow/term.shapes"], loops := true, plainKeys := false, apart := false, laid := [("escrow/term.shapes", laid_escrow_term_shapes)] }
def ViewFreeSaid : Prop := viewFreeRow.holds Tryd.pinned (OpenSpec.ofChange viewFreeSpec)

/-- ITS FALSE NEIGHBOUR: 'it returns false'. Refute it at one input. -/
def viewFreeWrong : ChangeSpec := { name := "viewFree", fn := fun _ => fun
  | [d] => { results := [.lit (.bool false)], args := [d] }
  | _ => none }
def ViewFreeWrongFalsely : Prop := viewFreeRow.holds Tryd.pinned (OpenSpec.ofChange viewFreeWrong)

/-- 'escrowlaw10.ViewNil': WHATEVER THE INPUT: true; the input reads as it did. -/
def viewNilSpec : ChangeSpec := { name := "viewNil", fn := fun _ => fun
  | [] => { results := [.lit (.bool true)], args := [] }
  | _ => none }
def viewNilRow : OpenClaim := { program := "ytgaklaajbepfaaadoor", sum := "1d0e4716f7b54b1cdf2623f2a053a0be4dec61f14883ca6fb60caa1167c22f02", func := "escrow/escrowlaw10.ViewNil", spec := "viewNil", unfollowed := true, recurses := true, named := ["escrow/term.shapes"], plainKeys := false, apart := false, laid := [("escrow/term.shapes", laid_escrow_term_shapes)] }
def ViewNilSaid : Prop := viewNilRow.holds Tryd.pinned (OpenSpec.ofChange viewNilSpec)

/-- ITS FALSE NEIGHBOUR: 'it returns false'. Refute it at one input. -/
def viewNilWrong : ChangeSpec := { name := "viewNil", fn := fun _ => fun
  | [] => { results := [.lit (.bool false)], args := [] }
  | _ => none }
def ViewNilWrongFalsely : Prop := viewNilRow.holds Tryd.pinned (OpenSpec.ofChange viewNilWrong)

/- THE SECOND FORM. 'bulk': how many values and letters a reading holds, each counted each time it is reached (what is shared counts as often as it is met; a slice's spare places count too). A statement '..UptoSaid' is the law's where the arguments, and the package variables that the reading takes, are together of bulk at most 1048576: NARROWER than '..Said'. Prove '..Said' where nothing that the law and all that it calls make is longer than what came in: it says more and counts as full. Else prove '..UptoSaid'. A law counts once. -/
mutual
def uptoBulk {H : Type} : DataW H → Nat
  | .lit (.string bytes) => bytes.length + 1
  | .lit _ => 1
  | .nil => 1
  | .ptr d => uptoBulk d + 1
  | .slice elems spare => uptoBulkAll elems + uptoBulkAll spare + 1
  | .agg parts => uptoBulkAll parts + 1
  | .iface _ d => uptoBulk d + 1
  | .map entries => uptoBulkEntries entries + 1
  | .held _ => 1
def uptoBulkAll {H : Type} : List (DataW H) → Nat
  | [] => 0
  | d :: r => uptoBulk d + uptoBulkAll r
def uptoBulkEntries {H : Type} : List (Lit × DataW H) → Nat
  | [] => 0
  | x :: r => uptoBulkEntry x + uptoBulkEntries r
def uptoBulkEntry {H : Type} : Lit × DataW H → Nat
  | (.string bytes, d) => bytes.length + uptoBulk d + 1
  | (_, d) => uptoBulk d + 1
 end
def uptoSmall : (H : Type) → List (DataW H) → Bool := fun _ ds => decide (uptoBulkAll ds ≤ 1048576)
def OpenSpec.upto (s : _root_.Go.ChangeSpec) : _root_.Go.OpenSpec := { _root_.Go.OpenSpec.ofChange s with cond := some uptoSmall }

/-- 'escrowlaw10.ViewAlike', WHERE WHAT IT READS IS OF BULK AT MOST 1048576: true; the input reads as it did. -/
def viewAlikeUptoRow : OpenClaim := { program := "ytgaklaajbepfaaadoor", sum := "1d0e4716f7b54b1cdf2623f2a053a0be4dec61f14883ca6fb60caa1167c22f02", func := "escrow/escrowlaw10.ViewAlike", spec := "viewAlike", unfollowed := true, recurses := true, named := ["escrow/term.shapes"], loops := true, plainKeys := false, apart := false, laid := [("escrow/term.shapes", laid_escrow_term_shapes)], narrowed := true }
def ViewAlikeUptoSaid : Prop := viewAlikeUptoRow.holds Tryd.pinned (OpenSpec.upto viewAlikeSpec)

/-- 'escrowlaw10.ViewEquals', WHERE WHAT IT READS IS OF BULK AT MOST 1048576: true; the input reads as it did. -/
def viewEqualsUptoRow : OpenClaim := { program := "ytgaklaajbepfaaadoor", sum := "1d0e4716f7b54b1cdf2623f2a053a0be4dec61f14883ca6fb60caa1167c22f02", func := "escrow/escrowlaw10.ViewEquals", spec := "viewEquals", unfollowed := true, recurses := true, named := ["escrow/term.shapes"], loops := true, plainKeys := false, apart := false, laid := [("escrow/term.shapes", laid_escrow_term_shapes)], narrowed := true }
def ViewEqualsUptoSaid : Prop := viewEqualsUptoRow.holds Tryd.pinned (OpenSpec.upto viewEqualsSpec)

/-- 'escrowlaw10.ViewOnce', WHERE WHAT IT READS IS OF BULK AT MOST 1048576: true; the input reads as it did. -/
def viewOnceUptoRow : OpenClaim := { program := "ytgaklaajbepfaaadoor", sum := "1d0e4716f7b54b1cdf2623f2a053a0be4dec61f14883ca6fb60caa1167c22f02", func := "escrow/escrowlaw10.ViewOnce", spec := "viewOnce", unfollowed := true, recurses := true, named := ["escrow/term.shapes"], loops := true, plainKeys := false, apart := false, laid := [("escrow/term.shapes", laid_escrow_term_shapes)], narrowed := true }
def ViewOnceUptoSaid : Prop := viewOnceUptoRow.holds Tryd.pinned (OpenSpec.upto viewOnceSpec)

/-- 'escrowlaw10.ViewFree', WHERE WHAT IT READS IS OF BULK AT MOST 1048576: true; the input reads as it did. -/
def viewFreeUptoRow : OpenClaim := { program := "ytgaklaajbepfaaadoor", sum := "1d0e4716f7b54b1cdf2623f2a053a0be4dec61f14883ca6fb60caa1167c22f02", func := "escrow/escrowlaw10.ViewFree", spec := "viewFree", unfollowed := true, recurses := true, named := ["escrow/term.shapes"], loops := true, plainKeys := false, apart := false, laid := [("escrow/term.shapes", laid_escrow_term_shapes)], narrowed := true }
def ViewFreeUptoSaid : Prop := viewFreeUptoRow.holds Tryd.pinned (OpenSpec.upto viewFreeSpec)

/-- 'escrowlaw10.ViewNil', WHERE WHAT IT READS IS OF BULK AT MOST 1048576: true; the input reads as it did. -/
def viewNilUptoRow : OpenClaim := { program := "ytgaklaajbepfaaadoor", sum := "1d0e4716f7b54b1cdf2623f2a053a0be4dec61f14883ca6fb60caa1167c22f02", func := "escrow/escrowlaw10.ViewNil", spec := "viewNil", unfollowed := true, recurses := true, named := ["escrow/term.shapes"], plainKeys := false, apart := false, laid := [("escrow/term.shapes", laid_escrow_term_shapes)], narrowed := true }
def ViewNilUptoSaid : Prop := viewNilUptoRow.holds Tryd.pinned (OpenSpec.upto viewNilSpec)

end Rows
end Go.Proofs.YtgaklaajbepfaaaDoor
