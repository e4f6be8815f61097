/-
  NARROWER THAN 'FOR EVERY INPUT', by the rows' own cells (each row's printed sentence says how): EvidenceOf: loops, laid · EvidenceAll: loops, laid · EvidenceOrder: laid · EvidenceMakes: loops, laid · EvidenceBinds: loops, laid · EvidenceMore: loops, laid · EvidenceNil: laid · ArbiterJudges: loops, laid · ArbiterLists: loops, laid · ArbiterMore: loops, laid.
  DERIVED. THE GIVEN ROWS OF THIS SEAT. 10 by the template 'for every input the law returns true; each argument reads behind the call as it read before'; 0 by the template 'total and deterministic' (their statements: YtjmcaceegfdkkaaGreatDoorTotals.lean).
  GIVEN WITH THE SEED: the statements are not yours to turn. If you find one false, say at which input.
  Laid BY PROGRAM, IN A SANDBOX (cutbox-rows.mjs): the forced cells as the released guide's own fill.sh prints them over the translation 4e00828bc01064c3… (all of the seat's roots in one cut). By AI agents, Wed Nov 11 2026. No macro, syntax, notation, axiom, sorry.
-/
import Derived.Test.YtjmcaceegfdkkaaGreatDoorChecked
import GoSem.Claim
import GoSem.ClaimJoined
import GoSem.ClaimMapViews
import Derived.JoinedTies
import Derived.KernelRfl
namespace Go.Proofs.YtjmcaceegfdkkaaGreatDoor
/- THE CELL 'sum', in the pinned program and in every row, IS THE sha256 OF THE DUMP (.gsa) THAT YtjmcaceegfdkkaaGreatDoorProg.lean LOADS. Nothing in Lean hashes anything: it is a label: what it is worth is what the hold of that sum in a sandbox is worth. -/
noncomputable def Tryz.pinned : Pinned := { name := "ytjmcaceegfdkkaagreatdoor", sum := "4e00828bc01064c37e857f3d668a9cc4612bc97d70bd4c76680f201b2f5132fb", checked := Tryz.checked }
namespace Rows
def none {H : Type} : Left H := { results := [], args := [] }

/- WHAT THE LISTED PACKAGE-LEVEL VARIABLES READ AS WHEN THE CALL BEGINS. Each datum BY PROGRAM (the guide's laid-datum.mjs) off the statement by which the dump's own 'gosem.cut.vars' lays the variable. In a bare row this is a premise. The card (YtjmcaceegfdkkaaGreatDoorCards.lean) ties it to the program's text. -/
def laid_escrow_term_shapes {H : Type} : DataW H := .agg [.agg [.lit (.bool false), .lit (.bool false), .lit (.bool false), .lit (.bool false), .lit (.int .i64 0)], .agg [.lit (.bool true), .lit (.bool false), .lit (.bool false), .lit (.bool false), .lit (.int .i64 0)], .agg [.lit (.bool false), .lit (.bool false), .lit (.bool true), .lit (.bool false), .lit (.int .i64 0)], .agg [.lit (.bool false), .lit (.bool false), .lit (.bool false), .lit (.bool true), .lit (.int .i64 0)], .agg [.lit (.bool false), .lit (.bool false), .lit (.bool false), .lit (.bool false), .lit (.int .i64 2)], .agg [.lit (.bool false), .lit (.bool false), .lit (.bool false), .lit (.bool false), .lit (.int .i64 1)], .agg [.lit (.bool true), .lit (.bool false), .lit (.bool false), .lit (.bool false), .lit (.int .i64 0)], .agg [.lit (.bool true), .lit (.bool false), .lit (.bool false), .lit (.bool false), .lit (.int .i64 1)], .agg [.lit (.bool true), .lit (.bool true), .lit (.bool false), .lit (.bool false), .lit (.int .i64 1)], .agg [.lit (.bool true), .lit (.bool true), .lit (.bool false), .lit (.bool false), .lit (.int .i64 1)]]
def laid_escrow_letter_kinds {H : Type} : DataW H := .agg [.agg [.lit (.string []), .lit (.string []), .lit (.int .i64 0), .lit (.int .i64 0), .lit (.bool false), .lit (.bool false), .lit (.bool false)], .agg [.lit (.string [112, 114, 111, 109, 105, 115, 101]), .lit (.string []), .lit (.int .i64 (-4)), .lit (.int .i64 (-2)), .lit (.bool true), .lit (.bool true), .lit (.bool true)], .agg [.lit (.string [115, 105, 103, 110]), .lit (.string [100, 101, 97, 108]), .lit (.int .i64 (-3)), .lit (.int .i64 (-2)), .lit (.bool true), .lit (.bool true), .lit (.bool false)], .agg [.lit (.string [97, 98, 111, 114, 116]), .lit (.string [97, 98, 111, 114, 116]), .lit (.int .i64 0), .lit (.int .i64 2), .lit (.bool false), .lit (.bool false), .lit (.bool false)], .agg [.lit (.string [114, 101, 115, 111, 108, 118, 101]), .lit (.string [114, 101, 115, 111, 108, 118, 101]), .lit (.int .i64 (-3)), .lit (.int .i64 2), .lit (.bool true), .lit (.bool true), .lit (.bool true)], .agg [.lit (.string [116, 111, 107, 101, 110]), .lit (.string [97, 98, 111, 114, 116, 101, 100]), .lit (.int .i64 2), .lit (.int .i64 (-1)), .lit (.bool false), .lit (.bool false), .lit (.bool false)], .agg [.lit (.string [105, 110, 115, 116, 101, 97, 100]), .lit (.string [105, 110, 115, 116, 101, 97, 100]), .lit (.int .i64 2), .lit (.int .i64 (-1)), .lit (.bool false), .lit (.bool true), .lit (.bool false)], .agg [.lit (.string [102, 117, 108, 108]), .lit (.string [102, 117, 108, 108]), .lit (.int .i64 (-4)), .lit (.int .i64 (-1)), .lit (.bool false), .lit (.bool false), .lit (.bool false)]]

/-- 'escrowlaw12.EvidenceOf': WHATEVER THE INPUT: true; the input reads as it did. -/
def evidenceOfSpec : ChangeSpec := { name := "evidenceOf", fn := fun _ => fun
  | [d] => { results := [.lit (.bool true)], args := [d] }
  | _ => none }
def evidenceOfRow : OpenClaim := { program := "ytjmcaceegfdkkaagreatdoor", sum := "4e00828bc01064c37e857f3d668a9cc4612bc97d70bd4c76680f201b2f5132fb", func := "escrow/escrowlaw12.EvidenceOf", spec := "evidenceOf", unfollowed := true, recurses := true, named := ["escrow/letter.kinds", "escrow/term.shapes"], loops := true, plainKeys := false, apart := false, laid := [("escrow/term.shapes", laid_escrow_term_shapes), ("escrow/letter.kinds", laid_escrow_letter_kinds)] }
def EvidenceOfSaid : Prop := evidenceOfRow.holds Tryz.pinned (OpenSpec.ofChange evidenceOfSpec)

/-- ITS FALSE NEIGHBOUR: 'it returns false'. Refute it at one input. -/
def evidenceOfWrong : ChangeSpec := { name := "evidenceOf", fn := fun _ => fun
  | [d] => { results := [.lit (.bool false)], args := [d] }
  | _ => none }
def EvidenceOfWrongFalsely : Prop := evidenceOfRow.holds Tryz.pinned (OpenSpec.ofChange evidenceOfWrong)

/-- 'escrowlaw12.EvidenceAll': WHATEVER THE INPUT: true; the input reads as it did. -/
def evidenceAllSpec : ChangeSpec := { name := "evidenceAll", fn := fun _ => fun
  | [d1, d2] => { results := [.lit (.bool true)], args := [d1, d2] }
  | _ => none }
def evidenceAllRow : OpenClaim := { program := "ytjmcaceegfdkkaagreatdoor", sum := "4e00828bc01064c37e857f3d668a9cc4612bc97d70bd4c76680f201b2f5132fb", func := "escrow/escrowlaw12.EvidenceAll", spec := "evidenceAll", unfollowed := true, recurses := true, named := ["escrow/letter.kinds", "escrow/term.shapes"], loops := true, plainKeys := false, apart := false, laid := [("escrow/term.shapes", laid_escrow_term_shapes), ("escrow/letter.kinds", laid_escrow_letter_kinds)] }
def EvidenceAllSaid : Prop := evidenceAllRow.holds Tryz.pinned (OpenSpec.ofChange evidenceAllSpec)

/-- ITS FALSE NEIGHBOUR: 'it returns false'. Refute it at one input. -/
def evidenceAllWrong : ChangeSpec := { name := "evidenceAll", fn := fun _ => fun
  | [d1, d2] => { results := [.lit (.bool false)], args := [d1, d2] }
  | _ => none }
def EvidenceAllWrongFalsely : Prop := evidenceAllRow.holds Tryz.pinned (OpenSpec.ofChange evidenceAllWrong)

/-- 'escrowlaw12.EvidenceOrder': WHATEVER THE INPUT: true; the input reads as it did. -/
def evidenceOrderSpec : ChangeSpec := { name := "evidenceOrder", fn := fun _ => fun
  | [d] => { results := [.lit (.bool true)], args := [d] }
  | _ => none }
def evidenceOrderRow : OpenClaim := { program := "ytjmcaceegfdkkaagreatdoor", sum := "4e00828bc01064c37e857f3d668a9cc4612bc97d70bd4c76680f201b2f5132fb", func := "escrow/escrowlaw12.EvidenceOrder", spec := "evidenceOrder", unfollowed := true, recurses := true, named := ["escrow/letter.kinds", "escrow/term.shapes"], plainKeys := false, apart := false, laid := [("escrow/term.shapes", laid_escrow_term_shapes), ("escrow/letter.kinds", laid_escrow_letter_kinds)] }
def EvidenceOrderSaid : Prop := evidenceOrderRow.holds Tryz.pinned (OpenSpec.ofChange evidenceOrderSpec)

/-- ITS FALSE NEIGHBOUR: 'it returns false'. Refute it at one input. -/
def evidenceOrderWrong : ChangeSpec := { name := "evidenceOrder", fn := fun _ => fun
  | [d] => { results := [.lit (.bool false)], args := [d] }
  | _ => none }
def EvidenceOrderWrongFalsely : Prop := evidenceOrderRow.holds Tryz.pinned (OpenSpec.ofChange evidenceOrderWrong)

/-- 'escrowlaw12.EvidenceMakes': WHATEVER THE INPUT: true; the input reads as it did. -/
def evidenceMakesSpec : ChangeSpec := { name := "evidenceMakes", fn := fun _ => fun
  | [d] => { results := [.lit (.bool true)], args := [d] }
  | _ => none }
def evidenceMakesRow : OpenClaim := { program := "ytjmcaceegfdkkaagreatdoor", sum := "4e00828bc01064c37e857f3d668a9cc4612bc97d70bd4c76680f201b2f5132fb", func := "escrow/escrowlaw12.EvidenceMakes", spec := "evidenceMakes", unfollowed := true, recurses := true, named := ["escrow/letter.kinds", "escrow/term.shapes"], loops := true, plainKeys := false, apart := false, laid := [("escrow/term.shapes", laid_escrow_term_shapes), ("escrow/letter.kinds", laid_escrow_letter_kinds)] }
def EvidenceMakesSaid : Prop := evidenceMakesRow.holds Tryz.pinned (OpenSpec.ofChange evidenceMakesSpec)

/-- ITS FALSE NEIGHBOUR: 'it returns false'. Refute it at one input. -/
def evidenceMakesWrong : ChangeSpec := { name := "evidenceMakes", fn := fun _ => fun
  | [d] => { results := [.lit (.bool false)], args := [d] }
  | _ => none }
def EvidenceMakesWrongFalsely : Prop := evidenceMakesRow.holds Tryz.pinned (OpenSpec.ofChange evidenceMakesWrong)

/-- 'escrowlaw12.EvidenceBinds': WHATEVER THE INPUT: true; the input reads as it did. -/
def evidenceBindsSpec : ChangeSpec := { name := "evidenceBinds", fn := fun _ => fun
  | [d1, d2] => { results := [.lit (.bool true)], args := [d1, d2] }
  | _ => none }
def evidenceBindsRow : OpenClaim := { program := "ytjmcaceegfdkkaagreatdoor", sum := "4e00828bc01064c37e857f3d668a9cc4612bc97d70bd4c76680f201b2f5132fb", func := "escrow/escrowlaw12.EvidenceBinds", spec := "evidenceBinds", unfollowed := true, recurses := true, named := ["escrow/letter.kinds", "escrow/term.shapes"], loops := true, plainKeys := false, apart := false, laid := [("escrow/term.shapes", laid_escrow_term_shapes), ("escrow/letter.kinds", laid_escrow_letter_kinds)] }
def EvidenceBindsSaid : Prop := evidenceBindsRow.holds Tryz.pinned (OpenSpec.ofChange evidenceBindsSpec)

/-- ITS FALSE NEIGHBOUR: 'it returns false'. Refute it at one input. -/
def evidenceBindsWrong : ChangeSpec := { name := "evidenceBinds", fn := fun _ => fun
  | [d1, d2] => { results := [.lit (.bool false)], args := [d1, d2] }
  | _ => none }
def EvidenceBindsWrongFalsely : Prop := evidenceBindsRow.holds Tryz.pinned (OpenSpec.ofChange evidenceBindsWrong)

/-- 'escrowlaw12.EvidenceMore': WHATEVER THE INPUT: true; the input reads as it did. -/
def evidenceMoreSpec : ChangeSpec := { name := "evidenceMore", fn := fun _ => fun
  | [d1, d2, d3] => { results := [.lit (.bool true)], args := [d1, d2, d3] }
  | _ => none }
def evidenceMoreRow : OpenClaim := { program := "ytjmcaceegfdkkaagreatdoor", sum := "4e00828bc01064c37e857f3d668a9cc4612bc97d70bd4c76680f201b2f5132fb", func := "escrow/escrowlaw12.EvidenceMore", spec := "evidenceMore", unfollowed := true, recurses := true, named := ["escrow/letter.kinds", "escrow/term.shapes"], loops := true, plainKeys := false, apart := false, laid := [("escrow/term.shapes", laid_escrow_term_shapes), ("escrow/letter.kinds", laid_escrow_letter_kinds)] }
def EvidenceMoreSaid : Prop := evidenceMoreRow.holds Tryz.pinned (OpenSpec.ofChange evidenceMoreSpec)

/-- ITS FALSE NEIGHBOUR: 'it returns false'. Refute it at one input. -/
def evidenceMoreWrong : ChangeSpec := { name := "evidenceMore", fn := fun _ => fun
  | [d1, d2, d3] => { results := [.lit (.bool false)], args := [d1, d2, d3] }
  | _ => none }
def EvidenceMoreWrongFalsely : Prop := evidenceMoreRow.holds Tryz.pinned (OpenSpec.ofChange evidenceMoreWrong)

/-- 'escrowlaw12.EvidenceNil': WHATEVER THE INPUT: true; the input reads as it did. -/
def evidenceNilSpec : ChangeSpec := { name := "evidenceNil", fn := fun _ => fun
  | [] => { results := [.lit (.bool true)], args := [] }
  | _ => none }
def evidenceNilRow : OpenClaim := { program := "ytjmcaceegfdkkaagreatdoor", sum := "4e00828bc01064c37e857f3d668a9cc4612bc97d70bd4c76680f201b2f5132fb", func := "escrow/escrowlaw12.EvidenceNil", spec := "evidenceNil", unfollowed := true, recurses := true, named := ["escrow/letter.kinds", "escrow/term.shapes"], plainKeys := false, apart := false, laid := [("escrow/term.shapes", laid_escrow_term_shapes), ("escrow/letter.kinds", laid_escrow_letter_kinds)] }
def EvidenceNilSaid : Prop := evidenceNilRow.holds Tryz.pinned (OpenSpec.ofChange evidenceNilSpec)

/-- ITS FALSE NEIGHBOUR: 'it returns false'. Refute it at one input. -/
def evidenceNilWrong : ChangeSpec := { name := "evidenceNil", fn := fun _ => fun
  | [] => { results := [.lit (.bool false)], args := [] }
  | _ => none }
def EvidenceNilWrongFalsely : Prop := evidenceNilRow.holds Tryz.pinned (OpenSpec.ofChange evidenceNilWrong)

/-- 'escrowlaw13.ArbiterJudges': WHATEVER THE INPUT: true; the input reads as it did. -/
def arbiterJudgesSpec : ChangeSpec := { name := "arbiterJudges", fn := fun _ => fun
  | [d1, d2] => { results := [.lit (.bool true)], args := [d1, d2] }
  | _ => none }
def arbiterJudgesRow : OpenClaim := { program := "ytjmcaceegfdkkaagreatdoor", sum := "4e00828bc01064c37e857f3d668a9cc4612bc97d70bd4c76680f201b2f5132fb", func := "escrow/escrowlaw13.ArbiterJudges", spec := "arbiterJudges", unfollowed := true, recurses := true, named := ["escrow/term.shapes", "escrow/letter.kinds"], loops := true, plainKeys := false, apart := false, laid := [("escrow/term.shapes", laid_escrow_term_shapes), ("escrow/letter.kinds", laid_escrow_letter_kinds)] }
def ArbiterJudgesSaid : Prop := arbiterJudgesRow.holds Tryz.pinned (OpenSpec.ofChange arbiterJudgesSpec)

/-- ITS FALSE NEIGHBOUR: 'it returns false'. Refute it at one input. -/
def arbiterJudgesWrong : ChangeSpec := { name := "arbiterJudges", fn := fun _ => fun
  | [d1, d2] => { results := [.lit (.bool false)], args := [d1, d2] }
  | _ => none }
def ArbiterJudgesWrongFalsely : Prop := arbiterJudgesRow.holds Tryz.pinned (OpenSpec.ofChange arbiterJudgesWrong)

/-- 'escrowlaw13.ArbiterLists': WHATEVER THE INPUT: true; the input reads as it did. -/
def arbiterListsSpec : ChangeSpec := { name := "arbiterLists", fn := fun _ => fun
  | [d] => { results := [.lit (.bool true)], args := [d] }
  | _ => none }
def arbiterListsRow : OpenClaim := { program := "ytjmcaceegfdkkaagreatdoor", sum := "4e00828bc01064c37e857f3d668a9cc4612bc97d70bd4c76680f201b2f5132fb", func := "escrow/escrowlaw13.ArbiterLists", spec := "arbiterLists", unfollowed := true, recurses := true, named := ["escrow/term.shapes", "escrow/letter.kinds"], loops := true, plainKeys := false, apart := false, laid := [("escrow/term.shapes", laid_escrow_term_shapes), ("escrow/letter.kinds", laid_escrow_letter_kinds)] }
def ArbiterListsSaid : Prop := arbiterListsRow.holds Tryz.pinned (OpenSpec.ofChange arbiterListsSpec)

/-- ITS FALSE NEIGHBOUR: 'it returns false'. Refute it at one input. -/
def arbiterListsWrong : ChangeSpec := { name := "arbiterLists", fn := fun _ => fun
  | [d] => { results := [.lit (.bool false)], args := [d] }
  | _ => none }
def ArbiterListsWrongFalsely : Prop := arbiterListsRow.holds Tryz.pinned (OpenSpec.ofChange arbiterListsWrong)

/-- 'escrowlaw13.ArbiterMore': WHATEVER THE INPUT: true; the input reads as it did. -/
def arbiterMoreSpec : ChangeSpec := { name := "arbiterMore", fn := fun _ => fun
  | [d1, d2, d3] => { results := [.lit (.bool true)], args := [d1, d2, d3] }
  | _ => none }
def arbiterMoreRow : OpenClaim := { program := "ytjmcaceegfdkkaagreatdoor", sum := "4e00828bc01064c37e857f3d668a9cc4612bc97d70bd4c76680f201b2f5132fb", func := "escrow/escrowlaw13.ArbiterMore", spec := "arbiterMore", unfollowed := true, recurses := true, named := ["escrow/term.shapes", "escrow/letter.kinds"], loops := true, plainKeys := false, apart := false, laid := [("escrow/term.shapes", laid_escrow_term_shapes), ("escrow/letter.kinds", laid_escrow_letter_kinds)] }
def ArbiterMoreSaid : Prop := arbiterMoreRow.holds Tryz.pinned (OpenSpec.ofChange arbiterMoreSpec)

/-- ITS FALSE NEIGHBOUR: 'it returns false'. Refute it at one input. -/
def arbiterMoreWrong : ChangeSpec := { name := "arbiterMore", fn := fun _ => fun
  | [d1, d2, d3] => { results := [.lit (.bool false)], args := [d1, d2, d3] }
  | _ => none }
def ArbiterMoreWrongFalsely : Prop := arbiterMoreRow.holds Tryz.pinned (OpenSpec.ofChange arbiterMoreWrong)

/- THE SECOND FORM. 'bulk': how many values and letters a reading holds, each counted each time it is reached (what is shared counts as often as it is met; a slice's spare places count too). A statement '..UptoSaid' is the law's where the arguments, and the package variables that the reading takes, are together of bulk at most 1048576: NARROWER than '..Said'. Prove '..Said' where nothing that the law and all that it calls make is longer than what came in: it says more and counts as full. Else prove '..UptoSaid'. A law counts once. -/
mutual
def uptoBulk {H : Type} : DataW H → Nat
  | .lit (.string bytes) => bytes.length + 1
  | .lit _ => 1
  | .nil => 1
  | .ptr d => uptoBulk d + 1
  | .slice elems spare => uptoBulkAll elems + uptoBulkAll spare + 1
  | .agg parts => uptoBulkAll parts + 1
  | .iface _ d => uptoBulk d + 1
  | .map entries => uptoBulkEntries entries + 1
  | .held _ => 1
def uptoBulkAll {H : Type} : List (DataW H) → Nat
  | [] => 0
  | d :: r => uptoBulk d + uptoBulkAll r
def uptoBulkEntries {H : Type} : List (Lit × DataW H) → Nat
  | [] => 0
  | x :: r => uptoBulkEntry x + uptoBulkEntries r
def uptoBulkEntry {H : Type} : Lit × DataW H → Nat
  | (.string bytes, d) => bytes.length + uptoBulk d + 1
  | (_, d) => uptoBulk d + 1
 end
def uptoSmall : (H : Type) → List (DataW H) → Bool := fun _ ds => decide (uptoBulkAll ds ≤ 1048576)
def OpenSpec.upto (s : _root_.Go.ChangeSpec) : _root_.Go.OpenSpec := { _root_.Go.OpenSpec.ofChange s with cond := some uptoSmall }

/-- 'escrowlaw12.EvidenceOf', WHERE WHAT IT READS IS OF BULK AT MOST 1048576: true; the input reads as it did. -/
def evidenceOfUptoRow : OpenClaim := { program := "ytjmcaceegfdkkaagreatdoor", sum := "4e00828bc01064c37e857f3d668a9cc4612bc97d70bd4c76680f201b2f5132fb", func := "escrow/escrowlaw12.EvidenceOf", spec := "evidenceOf", unfollowed := true, recurses := true, named := ["escrow/letter.kinds", "escrow/term.shapes"], loops := true, plainKeys := false, apart := false, laid := [("escrow/term.shapes", laid_escrow_term_shapes), ("escrow/letter.kinds", laid_escrow_letter_kinds)], narrowed := true }
def EvidenceOfUptoSaid : Prop := evidenceOfUptoRow.holds Tryz.pinned (OpenSpec.upto evidenceOfSpec)

/-- 'escrowlaw12.EvidenceAll', WHERE WHAT IT READS IS OF BULK AT MOST 1048576: true; the input reads as it did. -/
def evidenceAllUptoRow : OpenClaim := { program := "ytjmcaceegfdkkaagreatdoor", sum := "4e00828bc01064c37e857f3d668a9cc4612bc97d70bd4c76680f201b2f5132fb", func := "escrow/escrowlaw12.EvidenceAll", spec := "evidenceAll", unfollowed := true, recurses := true, named := ["escrow/letter.kinds", "escrow/term.shapes"], loops := true, plainKeys := false, apart := false, laid := [("escrow/term.shapes", laid_escrow_term_shapes), ("escrow/letter.kinds", laid_escrow_letter_kinds)], narrowed := true }
def EvidenceAllUptoSaid : Prop := evidenceAllUptoRow.holds Tryz.pinned (OpenSpec.upto evidenceAllSpec)

/-- 'escrowlaw12.EvidenceOrder', WHERE WHAT IT READS IS OF BULK AT MOST 1048576: true; the input reads as it did. -/
def evidenceOrderUptoRow : OpenClaim := { program := "ytjmcaceegfdkkaagreatdoor", sum := "4e00828bc01064c37e857f3d668a9cc4612bc97d70bd4c76680f201b2f5132fb", func := "escrow/escrowlaw12.EvidenceOrder", spec := "evidenceOrder", unfollowed := true, recurses := true, named := ["escrow/letter.kinds", "escrow/term.shapes"], plainKeys := false, apart := false, laid := [("escrow/term.shapes", laid_escrow_term_shapes), ("escrow/letter.kinds", laid_escrow_letter_kinds)], narrowed := true }
def EvidenceOrderUptoSaid : Prop := evidenceOrderUptoRow.holds Tryz.pinned (OpenSpec.upto evidenceOrderSpec)

/-- 'escrowlaw12.EvidenceMakes', WHERE WHAT IT READS IS OF BULK AT MOST 1048576: true; the input reads as it did. -/
def evidenceMakesUptoRow : OpenClaim := { program := "ytjmcaceegfdkkaagreatdoor", sum := "4e00828bc01064c37e857f3d668a9cc4612bc97d70bd4c76680f201b2f5132fb", func := "escrow/escrowlaw12.EvidenceMakes", spec := "evidenceMakes", unfollowed := true, recurses := true, named := ["escrow/letter.kinds", "escrow/term.shapes"], loops := true, plainKeys := false, apart := false, laid := [("escrow/term.shapes", laid_escrow_term_shapes), ("escrow/letter.kinds", laid_escrow_letter_kinds)], narrowed := true }
def EvidenceMakesUptoSaid : Prop := evidenceMakesUptoRow.holds Tryz.pinned (OpenSpec.upto evidenceMakesSpec)

/-- 'escrowlaw12.EvidenceBinds', WHERE WHAT IT READS IS OF BULK AT MOST 1048576: true; the input reads as it did. -/
def evidenceBindsUptoRow : OpenClaim := { program := "ytjmcaceegfdkkaagreatdoor", sum := "4e00828bc01064c37e857f3d668a9cc4612bc97d70bd4c76680f201b2f5132fb", func := "escrow/escrowlaw12.EvidenceBinds", spec := "evidenceBinds", unfollowed := true, recurses := true, named := ["escrow/letter.kinds", "escrow/term.shapes"], loops := true, plainKeys := false, apart := false, laid := [("escrow/term.shapes", laid_escrow_term_shapes), ("escrow/letter.kinds", laid_escrow_letter_kinds)], narrowed := true }
def EvidenceBindsUptoSaid : Prop := evidenceBindsUptoRow.holds Tryz.pinned (OpenSpec.upto evidenceBindsSpec)

/-- 'escrowlaw12.EvidenceMore', WHERE WHAT IT READS IS OF BULK AT MOST 1048576: true; the input reads as it did. -/
def evidenceMoreUptoRow : OpenClaim := { program := "ytjmcaceegfdkkaagreatdoor", sum := "4e00828bc01064c37e857f3d668a9cc4612bc97d70bd4c76680f201b2f5132fb", func := "escrow/escrowlaw12.EvidenceMore", spec := "evidenceMore", unfollowed := true, recurses := true, named := ["escrow/letter.kinds", "escrow/term.shapes"], loops := true, plainKeys := false, apart := false, laid := [("escrow/term.shapes", laid_escrow_term_shapes), ("escrow/letter.kinds", laid_escrow_letter_kinds)], narrowed := true }
def EvidenceMoreUptoSaid : Prop := evidenceMoreUptoRow.holds Tryz.pinned (OpenSpec.upto evidenceMoreSpec)

/-- 'escrowlaw12.EvidenceNil', WHERE WHAT IT READS IS OF BULK AT MOST 1048576: true; the input reads as it did. -/
def evidenceNilUptoRow : OpenClaim := { program := "ytjmcaceegfdkkaagreatdoor", sum := "4e00828bc01064c37e857f3d668a9cc4612bc97d70bd4c76680f201b2f5132fb", func := "escrow/escrowlaw12.EvidenceNil", spec := "evidenceNil", unfollowed := true, recurses := true, named := ["escrow/letter.kinds", "escrow/term.shapes"], plainKeys := false, apart := false, laid := [("escrow/term.shapes", laid_escrow_term_shapes), ("escrow/letter.kinds", laid_escrow_letter_kinds)], narrowed := true }
def EvidenceNilUptoSaid : Prop := evidenceNilUptoRow.holds Tryz.pinned (OpenSpec.upto evidenceNilSpec)

/-- 'escrowlaw13.ArbiterJudges', WHERE WHAT IT READS IS OF BULK AT MOST 1048576: true; the input reads as it did. -/
def arbiterJudgesUptoRow : OpenClaim := { program := "ytjmcaceegfdkkaagreatdoor", sum := "4e00828bc01064c37e857f3d668a9cc4612bc97d70bd4c76680f201b2f5132fb", func := "escrow/escrowlaw13.ArbiterJudges", spec := "arbiterJudges", unfollowed := true, recurses := true, named := ["escrow/term.shapes", "escrow/letter.kinds"], loops := true, plainKeys := false, apart := false, laid := [("escrow/term.shapes", laid_escrow_term_shapes), ("escrow/letter.kinds", laid_escrow_letter_kinds)], narrowed := true }
def ArbiterJudgesUptoSaid : Prop := arbiterJudgesUptoRow.holds Tryz.pinned (OpenSpec.upto arbiterJudgesSpec)

/-- 'escrowlaw13.ArbiterLists', WHERE WHAT IT READS IS OF BULK AT MOST 1048576: true; the input reads as it did. -/
def arbiterListsUptoRow : OpenClaim := { program := "ytjmcaceegfdkkaagreatdoor", sum := "4e00828bc01064c37e857f3d668a9cc4612bc97d70bd4c76680f201b2f5132fb", func := "escrow/escrowlaw13.ArbiterLists", spec := "arbiterLists", unfollowed := true, recurses := true, named := ["escrow/term.shapes", "escrow/letter.kinds"], loops := true, plainKeys := false, apart := false, laid := [("escrow/term.shapes", laid_escrow_term_shapes), ("escrow/letter.kinds", laid_escrow_letter_kinds)], narrowed := true }
def ArbiterListsUptoSaid : Prop := arbiterListsUptoRow.holds Tryz.pinned (OpenSpec.upto arbiterListsSpec)

/-- 'escrowlaw13.ArbiterMore', WHERE WHAT IT READS IS OF BULK AT MOST 1048576: true; the input reads as it did. -/
def arbiterMoreUptoRow : OpenClaim := { program := "ytjmcaceegfdkkaagreatdoor", sum := "4e00828bc01064c37e857f3d668a9cc4612bc97d70bd4c76680f201b2f5132fb", func := "escrow/escrowlaw13.ArbiterMore", spec := "arbiterMore", unfollowed := true, recurses := true, named := ["escrow/term.shapes", "escrow/letter.kinds"], loops := true, plainKeys := false, apart := false, laid := [("escrow/term.shapes", laid_escrow_term_shapes), ("escrow/letter.kinds", laid_escrow_letter_kinds)], narrowed := true }
def ArbiterMoreUptoSaid : Prop := arbiterMoreUptoRow.holds Tryz.pinned (OpenSpec.upto arbiterMoreSpec)

end Rows
end Go.Proofs.YtjmcaceegfdkkaaGreatDoor
