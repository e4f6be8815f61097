/-
  NARROWER THAN 'FOR EVERY INPUT', by the rows' own cells (each row's printed sentence says how): TermCopies: loops, laid · RecipeFinds: loops, laid.
  DERIVED. THE GIVEN ROWS OF THIS SEAT. 2 by the template 'for every input the law returns true; each argument reads behind the call as it read before'; 0 by the template 'total and deterministic' (their statements: YtjpkeoenajlmeaaDoorTotals.lean).
  GIVEN WITH THE SEED: the statements are not yours to turn. If you find one false, say at which input.
  Laid BY PROGRAM, IN A SANDBOX (cutbox-rows.mjs): the forced cells as the released guide's own fill.sh prints them over the translation 5c5c976cc988b40b… (all of the seat's roots in one cut). By AI agents, Wed Nov 11 2026. No macro, syntax, notation, axiom, sorry.
-/
import Derived.Test.YtjpkeoenajlmeaaDoorChecked
import GoSem.Claim
import GoSem.ClaimJoined
import GoSem.ClaimMapViews
import Derived.JoinedTies
import Derived.KernelRfl
namespace Go.Proofs.YtjpkeoenajlmeaaDoor
/- THE CELL 'sum', in the pinned program and in every row, IS THE sha256 OF THE DUMP (.gsa) THAT YtjpkeoenajlmeaaDoorProg.lean LOADS. Nothing in Lean hashes anything: it is a label: what it is worth is what the hold of that sum in a sandbox is worth. -/
noncomputable def Tryd.pinned : Pinned := { name := "ytjpkeoenajlmeaadoor", sum := "5c5c976cc988b40bc6027066802c9a04a2860e9fb4846266143531deb32818ef", checked := Tryd.checked }
namespace Rows
def none {H : Type} : Left H := { results := [], args := [] }

/- WHAT THE LISTED PACKAGE-LEVEL VARIABLES READ AS WHEN THE CALL BEGINS. Each datum BY PROGRAM (the guide's laid-datum.mjs) off the statement by which the dump's own 'gosem.cut.vars' lays the variable. In a bare row this is a premise. The card (YtjpkeoenajlmeaaDoorCards.lean) ties it to the program's text. -/
def laid_escrow_term_shapes {H : Type} : DataW H := .agg [.agg [.lit (.bool false), .lit (.bool false), .lit (.bool false), .lit (.bool false), .lit (.int .i64 0)], .agg [.lit (.bool true), .lit (.bool false), .lit (.bool false), .lit (.bool false), .lit (.int .i64 0)], .agg [.lit (.bool false), .lit (.bool false), .lit (.bool true), .lit (.bool false), .lit (.int .i64 0)], .agg [.lit (.bool false), .lit (.bool false), .lit (.bool false), .lit (.bool true), .lit (.int .i64 0)], .agg [.lit (.bool false), .lit (.bool false), .lit (.bool false), .lit (.bool false), .lit (.int .i64 2)], .agg [.lit (.bool false), .lit (.bool false), .lit (.bool false), .lit (.bool false), .lit (.int .i64 1)], .agg [.lit (.bool true), .lit (.bool false), .lit (.bool false), .lit (.bool false), .lit (.int .i64 0)], .agg [.lit (.bool true), .lit (.bool false), .lit (.bool false), .lit (.bool false), .lit (.int .i64 1)], .agg [.lit (.bool true), .lit (.bool true), .lit (.bool false), .lit (.bool false), .lit (.int .i64 1)], .agg [.lit (.bool true), .lit (.bool true), .lit (.bool false), .lit (.bool false), .lit (.int .i64 1)]]

/-- 'escrowlaw05.TermCopies': WHATEVER THE INPUT: true; the input reads as it did. -/
def termCopiesSpec : ChangeSpec := { name := "termCopies", fn := fun _ => fun
  | [d1, d2, d3] => { results := [.lit (.bool true)], args := [d1, d2, d3] }
  | _ => none }
def termCopiesRow : OpenClaim := { program := "ytjpkeoenajlmeaadoor", sum := "5c5c976cc988b40bc6027066802c9a04a2860e9fb4846266143531deb32818ef", func := "escrow/escrowlaw05.TermCopies", spec := "termCopies", unfollowed := true, recurses := true, named := ["escrow/term.shapes"], loops := true, plainKeys := false, apart := false, laid := [("escrow/term.shapes", laid_escrow_term_shapes)] }
def TermCopiesSaid : Prop := termCopiesRow.holds Tryd.pinned (OpenSpec.ofChange termCopiesSpec)

/-- ITS FALSE NEIGHBOUR: 'it returns false'. Refute it at one input. -/
def termCopiesWrong : ChangeSpec := { name := "termCopies", fn := fun _ => fun
  | [d1, d2, d3] => { results := [.lit (.bool false)], args := [d1, d2, d3] }
  | _ => none }
def TermCopiesWrongFalsely : Prop := termCopiesRow.holds Tryd.pinned (OpenSpec.ofChange termCopiesWrong)

/-- 'escrowlaw09.RecipeFinds': WHATEVER THE INPUT: true; the input reads as it did. -/
def recipeFindsSpec : ChangeSpec := { name := "recipeFinds", fn := fun _ => fun
  | [d1, d2] => { results := [.lit (.bool true)], args := [d1, d2] }
  | _ => none }
def recipeFindsRow : OpenClaim := { program := "ytjpkeoenajlmeaadoor", sum := "5c5c976cc988b40bc6027066802c9a04a2860e9fb4846266143531deb32818ef", func := "escrow/escrowlaw09.RecipeFinds", spec := "recipeFinds", unfollowed := true, recurses := true, named := ["escrow/term.shapes"], loops := true, plainKeys := false, apart := false, laid := [("escrow/term.shapes", laid_escrow_term_shapes)] }
def RecipeFindsSaid : Prop := recipeFindsRow.holds Tryd.pinned (OpenSpec.ofChange recipeFindsSpec)

/-- ITS FALSE NEIGHBOUR: 'it returns false'. Refute it at one input. -/
def recipeFindsWrong : ChangeSpec := { name := "recipeFinds", fn := fun _ => fun
  | [d1, d2] => { results := [.lit (.bool false)], args := [d1, d2] }
  | _ => none }
def RecipeFindsWrongFalsely : Prop := recipeFindsRow.holds Tryd.pinned (OpenSpec.ofChange recipeFindsWrong)

/- THE SECOND FORM. 'bulk': how many values and letters a reading holds, each counted each time it is reached (what is shared counts as often as it is met; a slice's spare places count too). A statement '..UptoSaid' is the law's where the arguments, and the package variables that the reading takes, are together of bulk at most 1048576: NARROWER than '..Said'. Prove '..Said' where nothing that the law and all that it calls make is longer than what came in: it says more and counts as full. Else prove '..UptoSaid'. A law counts once. -/
mutual
def uptoBulk {H : Type} : DataW H → Nat
  | .lit (.string bytes) => bytes.length + 1
  | .lit _ => 1
  | .nil => 1
  | .ptr d => uptoBulk d + 1
  | .slice elems spare => uptoBulkAll elems + uptoBulkAll spare + 1
  | .agg parts => uptoBulkAll parts + 1
  | .iface _ d => uptoBulk d + 1
  | .map entries => uptoBulkEntries entries + 1
  | .held _ => 1
def uptoBulkAll {H : Type} : List (DataW H) → Nat
  | [] => 0
  | d :: r => uptoBulk d + uptoBulkAll r
def uptoBulkEntries {H : Type} : List (Lit × DataW H) → Nat
  | [] => 0
  | x :: r => uptoBulkEntry x + uptoBulkEntries r
def uptoBulkEntry {H : Type} : Lit × DataW H → Nat
  | (.string bytes, d) => bytes.length + uptoBulk d + 1
  | (_, d) => uptoBulk d + 1
 end
def uptoSmall : (H : Type) → List (DataW H) → Bool := fun _ ds => decide (uptoBulkAll ds ≤ 1048576)
def OpenSpec.upto (s : _root_.Go.ChangeSpec) : _root_.Go.OpenSpec := { _root_.Go.OpenSpec.ofChange s with cond := some uptoSmall }

/-- 'escrowlaw05.TermCopies', WHERE WHAT IT READS IS OF BULK AT MOST 1048576: true; the input reads as it did. -/
def termCopiesUptoRow : OpenClaim := { program := "ytjpkeoenajlmeaadoor", sum := "5c5c976cc988b40bc6027066802c9a04a2860e9fb4846266143531deb32818ef", func := "escrow/escrowlaw05.TermCopies", spec := "termCopies", unfollowed := true, recurses := true, named := ["escrow/term.shapes"], loops := true, plainKeys := false, apart := false, laid := [("escrow/term.shapes", laid_escrow_term_shapes)], narrowed := true }
def TermCopiesUptoSaid : Prop := termCopiesUptoRow.holds Tryd.pinned (OpenSpec.upto termCopiesSpec)

/-- 'escrowlaw09.RecipeFinds', WHERE WHAT IT READS IS OF BULK AT MOST 1048576: true; the input reads as it did. -/
def recipeFindsUptoRow : OpenClaim := { program := "ytjpkeoenajlmeaadoor", sum := "5c5c976cc988b40bc6027066802c9a04a2860e9fb4846266143531deb32818ef", func := "escrow/escrowlaw09.RecipeFinds", spec := "recipeFinds", unfollowed := true, recurses := true, named := ["escrow/term.shapes"], loops := true, plainKeys := false, apart := false, laid := [("escrow/term.shapes", laid_escrow_term_shapes)], narrowed := true }
def RecipeFindsUptoSaid : Prop := recipeFindsUptoRow.holds Tryd.pinned (OpenSpec.upto recipeFindsSpec)

end Rows
end Go.Proofs.YtjpkeoenajlmeaaDoor
