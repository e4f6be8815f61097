/-
  No cell of these rows narrows 'for every input' (looked for: loops, veiled, ifaces, maps, wideKeys, modest, calm, conditions, laid).
  DERIVED. THE GIVEN ROWS OF THIS SEAT. 11 by the template 'for every input the law returns true; each argument reads behind the call as it read before'; 0 by the template 'total and deterministic' (their statements: YtmbaedldikobcaaTotals.lean).
  GIVEN WITH THE SEED: the statements are not yours to turn. If you find one false, say at which input.
  Laid BY PROGRAM, IN A SANDBOX (cutbox-rows.mjs): the forced cells as the released guide's own fill.sh prints them over the translation d134ad947b163a28… (all of the seat's roots in one cut). By AI agents, Wed Nov 11 2026. No macro, syntax, notation, axiom, sorry.
-/
import Derived.Test.YtmbaedldikobcaaChecked
import GoSem.Claim
import GoSem.ClaimJoined
import GoSem.ClaimMapViews
import Derived.JoinedTies
import Derived.KernelRfl
namespace Go.Proofs.Ytmbaedldikobcaa
/- THE CELL 'sum', in the pinned program and in every row, IS THE sha256 OF THE DUMP (.gsa) THAT YtmbaedldikobcaaProg.lean LOADS. Nothing in Lean hashes anything: it is a label: what it is worth is what the hold of that sum in a sandbox is worth. -/
noncomputable def Try.pinned : Pinned := { name := "ytmbaedldikobcaa", sum := "d134ad947b163a286cf3d34d69a558ae2287361d8cafcc675c6717cdec9f9a6d", checked := Try.checked }
namespace Rows
def none {H : Type} : Left H := { results := [], args := [] }

/-- 'escrowlaw04.KeepMaps': WHATEVER THE INPUT: true; the input reads as it did. -/
def keepMapsSpec : ChangeSpec := { name := "keepMaps", fn := fun _ => fun
  | [d] => { results := [.lit (.bool true)], args := [d] }
  | _ => none }
def keepMapsRow : OpenClaim := { program := "ytmbaedldikobcaa", sum := "d134ad947b163a286cf3d34d69a558ae2287361d8cafcc675c6717cdec9f9a6d", func := "escrow/escrowlaw04.KeepMaps", spec := "keepMaps", unfollowed := true, recurses := true, apart := false }
def KeepMapsSaid : Prop := keepMapsRow.holds Try.pinned (OpenSpec.ofChange keepMapsSpec)

/-- ITS FALSE NEIGHBOUR: 'it returns false'. Refute it at one input. -/
def keepMapsWrong : ChangeSpec := { name := "keepMaps", fn := fun _ => fun
  | [d] => { results := [.lit (.bool false)], args := [d] }
  | _ => none }
def KeepMapsWrongFalsely : Prop := keepMapsRow.holds Try.pinned (OpenSpec.ofChange keepMapsWrong)

/-- 'escrowlaw04.KeepGoes': WHATEVER THE INPUT: true; the input reads as it did. -/
def keepGoesSpec : ChangeSpec := { name := "keepGoes", fn := fun _ => fun
  | [d1, d2] => { results := [.lit (.bool true)], args := [d1, d2] }
  | _ => none }
def keepGoesRow : OpenClaim := { program := "ytmbaedldikobcaa", sum := "d134ad947b163a286cf3d34d69a558ae2287361d8cafcc675c6717cdec9f9a6d", func := "escrow/escrowlaw04.KeepGoes", spec := "keepGoes", unfollowed := true, recurses := true, apart := false }
def KeepGoesSaid : Prop := keepGoesRow.holds Try.pinned (OpenSpec.ofChange keepGoesSpec)

/-- ITS FALSE NEIGHBOUR: 'it returns false'. Refute it at one input. -/
def keepGoesWrong : ChangeSpec := { name := "keepGoes", fn := fun _ => fun
  | [d1, d2] => { results := [.lit (.bool false)], args := [d1, d2] }
  | _ => none }
def KeepGoesWrongFalsely : Prop := keepGoesRow.holds Try.pinned (OpenSpec.ofChange keepGoesWrong)

/-- 'escrowlaw04.KeepMerges': WHATEVER THE INPUT: true; the input reads as it did. -/
def keepMergesSpec : ChangeSpec := { name := "keepMerges", fn := fun _ => fun
  | [d1, d2] => { results := [.lit (.bool true)], args := [d1, d2] }
  | _ => none }
def keepMergesRow : OpenClaim := { program := "ytmbaedldikobcaa", sum := "d134ad947b163a286cf3d34d69a558ae2287361d8cafcc675c6717cdec9f9a6d", func := "escrow/escrowlaw04.KeepMerges", spec := "keepMerges", unfollowed := true, recurses := true, apart := false }
def KeepMergesSaid : Prop := keepMergesRow.holds Try.pinned (OpenSpec.ofChange keepMergesSpec)

/-- ITS FALSE NEIGHBOUR: 'it returns false'. Refute it at one input. -/
def keepMergesWrong : ChangeSpec := { name := "keepMerges", fn := fun _ => fun
  | [d1, d2] => { results := [.lit (.bool false)], args := [d1, d2] }
  | _ => none }
def KeepMergesWrongFalsely : Prop := keepMergesRow.holds Try.pinned (OpenSpec.ofChange keepMergesWrong)

/-- 'escrowlaw04.KeepSets': WHATEVER THE INPUT: true; the input reads as it did. -/
def keepSetsSpec : ChangeSpec := { name := "keepSets", fn := fun _ => fun
  | [d1, d2, d3] => { results := [.lit (.bool true)], args := [d1, d2, d3] }
  | _ => none }
def keepSetsRow : OpenClaim := { program := "ytmbaedldikobcaa", sum := "d134ad947b163a286cf3d34d69a558ae2287361d8cafcc675c6717cdec9f9a6d", func := "escrow/escrowlaw04.KeepSets", spec := "keepSets", unfollowed := true, recurses := true, apart := false }
def KeepSetsSaid : Prop := keepSetsRow.holds Try.pinned (OpenSpec.ofChange keepSetsSpec)

/-- ITS FALSE NEIGHBOUR: 'it returns false'. Refute it at one input. -/
def keepSetsWrong : ChangeSpec := { name := "keepSets", fn := fun _ => fun
  | [d1, d2, d3] => { results := [.lit (.bool false)], args := [d1, d2, d3] }
  | _ => none }
def KeepSetsWrongFalsely : Prop := keepSetsRow.holds Try.pinned (OpenSpec.ofChange keepSetsWrong)

/-- 'escrowlaw04.KeepAlgebra': WHATEVER THE INPUT: true; the input reads as it did. -/
def keepAlgebraSpec : ChangeSpec := { name := "keepAlgebra", fn := fun _ => fun
  | [d1, d2, d3] => { results := [.lit (.bool true)], args := [d1, d2, d3] }
  | _ => none }
def keepAlgebraRow : OpenClaim := { program := "ytmbaedldikobcaa", sum := "d134ad947b163a286cf3d34d69a558ae2287361d8cafcc675c6717cdec9f9a6d", func := "escrow/escrowlaw04.KeepAlgebra", spec := "keepAlgebra", unfollowed := true, recurses := true, apart := false }
def KeepAlgebraSaid : Prop := keepAlgebraRow.holds Try.pinned (OpenSpec.ofChange keepAlgebraSpec)

/-- ITS FALSE NEIGHBOUR: 'it returns false'. Refute it at one input. -/
def keepAlgebraWrong : ChangeSpec := { name := "keepAlgebra", fn := fun _ => fun
  | [d1, d2, d3] => { results := [.lit (.bool false)], args := [d1, d2, d3] }
  | _ => none }
def KeepAlgebraWrongFalsely : Prop := keepAlgebraRow.holds Try.pinned (OpenSpec.ofChange keepAlgebraWrong)

/-- 'escrowlaw04.KeepQueues': WHATEVER THE INPUT: true; the input reads as it did. -/
def keepQueuesSpec : ChangeSpec := { name := "keepQueues", fn := fun _ => fun
  | [d] => { results := [.lit (.bool true)], args := [d] }
  | _ => none }
def keepQueuesRow : OpenClaim := { program := "ytmbaedldikobcaa", sum := "d134ad947b163a286cf3d34d69a558ae2287361d8cafcc675c6717cdec9f9a6d", func := "escrow/escrowlaw04.KeepQueues", spec := "keepQueues", unfollowed := true, recurses := true, apart := false }
def KeepQueuesSaid : Prop := keepQueuesRow.holds Try.pinned (OpenSpec.ofChange keepQueuesSpec)

/-- ITS FALSE NEIGHBOUR: 'it returns false'. Refute it at one input. -/
def keepQueuesWrong : ChangeSpec := { name := "keepQueues", fn := fun _ => fun
  | [d] => { results := [.lit (.bool false)], args := [d] }
  | _ => none }
def KeepQueuesWrongFalsely : Prop := keepQueuesRow.holds Try.pinned (OpenSpec.ofChange keepQueuesWrong)

/-- 'escrowlaw04.KeepHeaps': WHATEVER THE INPUT: true; the input reads as it did. -/
def keepHeapsSpec : ChangeSpec := { name := "keepHeaps", fn := fun _ => fun
  | [d] => { results := [.lit (.bool true)], args := [d] }
  | _ => none }
def keepHeapsRow : OpenClaim := { program := "ytmbaedldikobcaa", sum := "d134ad947b163a286cf3d34d69a558ae2287361d8cafcc675c6717cdec9f9a6d", func := "escrow/escrowlaw04.KeepHeaps", spec := "keepHeaps", unfollowed := true, recurses := true, apart := false }
def KeepHeapsSaid : Prop := keepHeapsRow.holds Try.pinned (OpenSpec.ofChange keepHeapsSpec)

/-- ITS FALSE NEIGHBOUR: 'it returns false'. Refute it at one input. -/
def keepHeapsWrong : ChangeSpec := { name := "keepHeaps", fn := fun _ => fun
  | [d] => { results := [.lit (.bool false)], args := [d] }
  | _ => none }
def KeepHeapsWrongFalsely : Prop := keepHeapsRow.holds Try.pinned (OpenSpec.ofChange keepHeapsWrong)

/-- 'escrowlaw04.KeepSorts': WHATEVER THE INPUT: true; the input reads as it did. -/
def keepSortsSpec : ChangeSpec := { name := "keepSorts", fn := fun _ => fun
  | [d] => { results := [.lit (.bool true)], args := [d] }
  | _ => none }
def keepSortsRow : OpenClaim := { program := "ytmbaedldikobcaa", sum := "d134ad947b163a286cf3d34d69a558ae2287361d8cafcc675c6717cdec9f9a6d", func := "escrow/escrowlaw04.KeepSorts", spec := "keepSorts", unfollowed := true, recurses := true, apart := false }
def KeepSortsSaid : Prop := keepSortsRow.holds Try.pinned (OpenSpec.ofChange keepSortsSpec)

/-- ITS FALSE NEIGHBOUR: 'it returns false'. Refute it at one input. -/
def keepSortsWrong : ChangeSpec := { name := "keepSorts", fn := fun _ => fun
  | [d] => { results := [.lit (.bool false)], args := [d] }
  | _ => none }
def KeepSortsWrongFalsely : Prop := keepSortsRow.holds Try.pinned (OpenSpec.ofChange keepSortsWrong)

/-- 'escrowlaw04.KeepNumbers': WHATEVER THE INPUT: true; the input reads as it did. -/
def keepNumbersSpec : ChangeSpec := { name := "keepNumbers", fn := fun _ => fun
  | [d1, d2, d3] => { results := [.lit (.bool true)], args := [d1, d2, d3] }
  | _ => none }
def keepNumbersRow : OpenClaim := { program := "ytmbaedldikobcaa", sum := "d134ad947b163a286cf3d34d69a558ae2287361d8cafcc675c6717cdec9f9a6d", func := "escrow/escrowlaw04.KeepNumbers", spec := "keepNumbers", unfollowed := true, recurses := true, apart := false }
def KeepNumbersSaid : Prop := keepNumbersRow.holds Try.pinned (OpenSpec.ofChange keepNumbersSpec)

/-- ITS FALSE NEIGHBOUR: 'it returns false'. Refute it at one input. -/
def keepNumbersWrong : ChangeSpec := { name := "keepNumbers", fn := fun _ => fun
  | [d1, d2, d3] => { results := [.lit (.bool false)], args := [d1, d2, d3] }
  | _ => none }
def KeepNumbersWrongFalsely : Prop := keepNumbersRow.holds Try.pinned (OpenSpec.ofChange keepNumbersWrong)

/-- 'escrowlaw04.KeepRanks': WHATEVER THE INPUT: true; the input reads as it did. -/
def keepRanksSpec : ChangeSpec := { name := "keepRanks", fn := fun _ => fun
  | [d1, d2] => { results := [.lit (.bool true)], args := [d1, d2] }
  | _ => none }
def keepRanksRow : OpenClaim := { program := "ytmbaedldikobcaa", sum := "d134ad947b163a286cf3d34d69a558ae2287361d8cafcc675c6717cdec9f9a6d", func := "escrow/escrowlaw04.KeepRanks", spec := "keepRanks", unfollowed := true, recurses := true, apart := false }
def KeepRanksSaid : Prop := keepRanksRow.holds Try.pinned (OpenSpec.ofChange keepRanksSpec)

/-- ITS FALSE NEIGHBOUR: 'it returns false'. Refute it at one input. -/
def keepRanksWrong : ChangeSpec := { name := "keepRanks", fn := fun _ => fun
  | [d1, d2] => { results := [.lit (.bool false)], args := [d1, d2] }
  | _ => none }
def KeepRanksWrongFalsely : Prop := keepRanksRow.holds Try.pinned (OpenSpec.ofChange keepRanksWrong)

/-- 'escrowlaw04.KeepNil': WHATEVER THE INPUT: true; the input reads as it did. -/
def keepNilSpec : ChangeSpec := { name := "keepNil", fn := fun _ => fun
  | [] => { results := [.lit (.bool true)], args := [] }
  | _ => none }
def keepNilRow : OpenClaim := { program := "ytmbaedldikobcaa", sum := "d134ad947b163a286cf3d34d69a558ae2287361d8cafcc675c6717cdec9f9a6d", func := "escrow/escrowlaw04.KeepNil", spec := "keepNil", unfollowed := true, recurses := true, apart := false }
def KeepNilSaid : Prop := keepNilRow.holds Try.pinned (OpenSpec.ofChange keepNilSpec)

/-- ITS FALSE NEIGHBOUR: 'it returns false'. Refute it at one input. -/
def keepNilWrong : ChangeSpec := { name := "keepNil", fn := fun _ => fun
  | [] => { results := [.lit (.bool false)], args := [] }
  | _ => none }
def KeepNilWrongFalsely : Prop := keepNilRow.holds Try.pinned (OpenSpec.ofChange keepNilWrong)

/- THE SECOND FORM. 'bulk': how many values and letters a reading holds, each counted each time it is reached (what is shared counts as often as it is met; a slice's spare places count too). A statement '..UptoSaid' is the law's where the arguments, and the package variables that the reading takes, are together of bulk at most 1048576: NARROWER than '..Said'. Prove '..Said' where nothing that the law and all that it calls make is longer than what came in: it says more and counts as full. Else prove '..UptoSaid'. A law counts once. -/
mutual
def uptoBulk {H : Type} : DataW H → Nat
  | .lit (.string bytes) => bytes.length + 1
  | .lit _ => 1
  | .nil => 1
  | .ptr d => uptoBulk d + 1
  | .slice elems spare => uptoBulkAll elems + uptoBulkAll spare + 1
  | .agg parts => uptoBulkAll parts + 1
  | .iface _ d => uptoBulk d + 1
  | .map entries => uptoBulkEntries entries + 1
  | .held _ => 1
def uptoBulkAll {H : Type} : List (DataW H) → Nat
  | [] => 0
  | d :: r => uptoBulk d + uptoBulkAll r
def uptoBulkEntries {H : Type} : List (Lit × DataW H) → Nat
  | [] => 0
  | x :: r => uptoBulkEntry x + uptoBulkEntries r
def uptoBulkEntry {H : Type} : Lit × DataW H → Nat
  | (.string bytes, d) => bytes.length + uptoBulk d + 1
  | (_, d) => uptoBulk d + 1
 end
def uptoSmall : (H : Type) → List (DataW H) → Bool := fun _ ds => decide (uptoBulkAll ds ≤ 1048576)
def OpenSpec.upto (s : _root_.Go.ChangeSpec) : _root_.Go.OpenSpec := { _root_.Go.OpenSpec.ofChange s with cond := some uptoSmall }

/-- 'escrowlaw04.KeepMaps', WHERE WHAT IT READS IS OF BULK AT MOST 1048576: true; the input reads as it did. -/
def keepMapsUptoRow : OpenClaim := { program := "ytmbaedldikobcaa", sum := "d134ad947b163a286cf3d34d69a558ae2287361d8cafcc675c6717cdec9f9a6d", func := "escrow/escrowlaw04.KeepMaps", spec := "keepMaps", unfollowed := true, recurses := true, apart := false, narrowed := true }
def KeepMapsUptoSaid : Prop := keepMapsUptoRow.holds Try.pinned (OpenSpec.upto keepMapsSpec)

/-- 'escrowlaw04.KeepGoes', WHERE WHAT IT READS IS OF BULK AT MOST 1048576: true; the input reads as it did. -/
def keepGoesUptoRow : OpenClaim := { program := "ytmbaedldikobcaa", sum := "d134ad947b163a286cf3d34d69a558ae2287361d8cafcc675c6717cdec9f9a6d", func := "escrow/escrowlaw04.KeepGoes", spec := "keepGoes", unfollowed := true, recurses := true, apart := false, narrowed := true }
def KeepGoesUptoSaid : Prop := keepGoesUptoRow.holds Try.pinned (OpenSpec.upto keepGoesSpec)

/-- 'escrowlaw04.KeepMerges', WHERE WHAT IT READS IS OF BULK AT MOST 1048576: true; the input reads as it did. -/
def keepMergesUptoRow : OpenClaim := { program := "ytmbaedldikobcaa", sum := "d134ad947b163a286cf3d34d69a558ae2287361d8cafcc675c6717cdec9f9a6d", func := "escrow/escrowlaw04.KeepMerges", spec := "keepMerges", unfollowed := true, recurses := true, apart := false, narrowed := true }
def KeepMergesUptoSaid : Prop := keepMergesUptoRow.holds Try.pinned (OpenSpec.upto keepMergesSpec)

/-- 'escrowlaw04.KeepSets', WHERE WHAT IT READS IS OF BULK AT MOST 1048576: true; the input reads as it did. -/
def keepSetsUptoRow : OpenClaim := { program := "ytmbaedldikobcaa", sum := "d134ad947b163a286cf3d34d69a558ae2287361d8cafcc675c6717cdec9f9a6d", func := "escrow/escrowlaw04.KeepSets", spec := "keepSets", unfollowed := true, recurses := true, apart := false, narrowed := true }
def KeepSetsUptoSaid : Prop := keepSetsUptoRow.holds Try.pinned (OpenSpec.upto keepSetsSpec)

/-- 'escrowlaw04.KeepAlgebra', WHERE WHAT IT READS IS OF BULK AT MOST 1048576: true; the input reads as it did. -/
def keepAlgebraUptoRow : OpenClaim := { program := "ytmbaedldikobcaa", sum := "d134ad947b163a286cf3d34d69a558ae2287361d8cafcc675c6717cdec9f9a6d", func := "escrow/escrowlaw04.KeepAlgebra", spec := "keepAlgebra", unfollowed := true, recurses := true, apart := false, narrowed := true }
def KeepAlgebraUptoSaid : Prop := keepAlgebraUptoRow.holds Try.pinned (OpenSpec.upto keepAlgebraSpec)

/-- 'escrowlaw04.KeepQueues', WHERE WHAT IT READS IS OF BULK AT MOST 1048576: true; the input reads as it did. -/
def keepQueuesUptoRow : OpenClaim := { program := "ytmbaedldikobcaa", sum := "d134ad947b163a286cf3d34d69a558ae2287361d8cafcc675c6717cdec9f9a6d", func := "escrow/escrowlaw04.KeepQueues", spec := "keepQueues", unfollowed := true, recurses := true, apart := false, narrowed := true }
def KeepQueuesUptoSaid : Prop := keepQueuesUptoRow.holds Try.pinned (OpenSpec.upto keepQueuesSpec)

/-- 'escrowlaw04.KeepHeaps', WHERE WHAT IT READS IS OF BULK AT MOST 1048576: true; the input reads as it did. -/
def keepHeapsUptoRow : OpenClaim := { program := "ytmbaedldikobcaa", sum := "d134ad947b163a286cf3d34d69a558ae2287361d8cafcc675c6717cdec9f9a6d", func := "escrow/escrowlaw04.KeepHeaps", spec := "keepHeaps", unfollowed := true, recurses := true, apart := false, narrowed := true }
def KeepHeapsUptoSaid : Prop := keepHeapsUptoRow.holds Try.pinned (OpenSpec.upto keepHeapsSpec)

/-- 'escrowlaw04.KeepSorts', WHERE WHAT IT READS IS OF BULK AT MOST 1048576: true; the input reads as it did. -/
def keepSortsUptoRow : OpenClaim := { program := "ytmbaedldikobcaa", sum := "d134ad947b163a286cf3d34d69a558ae2287361d8cafcc675c6717cdec9f9a6d", func := "escrow/escrowlaw04.KeepSorts", spec := "keepSorts", unfollowed := true, recurses := true, apart := false, narrowed := true }
def KeepSortsUptoSaid : Prop := keepSortsUptoRow.holds Try.pinned (OpenSpec.upto keepSortsSpec)

/-- 'escrowlaw04.KeepNumbers', WHERE WHAT IT READS IS OF BULK AT MOST 1048576: true; the input reads as it did. -/
def keepNumbersUptoRow : OpenClaim := { program := "ytmbaedldikobcaa", sum := "d134ad947b163a286cf3d34d69a558ae2287361d8cafcc675c6717cdec9f9a6d", func := "escrow/escrowlaw04.KeepNumbers", spec := "keepNumbers", unfollowed := true, recurses := true, apart := false, narrowed := true }
def KeepNumbersUptoSaid : Prop := keepNumbersUptoRow.holds Try.pinned (OpenSpec.upto keepNumbersSpec)

/-- 'escrowlaw04.KeepRanks', WHERE WHAT IT READS IS OF BULK AT MOST 1048576: true; the input reads as it did. -/
def keepRanksUptoRow : OpenClaim := { program := "ytmbaedldikobcaa", sum := "d134ad947b163a286cf3d34d69a558ae2287361d8cafcc675c6717cdec9f9a6d", func := "escrow/escrowlaw04.KeepRanks", spec := "keepRanks", unfollowed := true, recurses := true, apart := false, narrowed := true }
def KeepRanksUptoSaid : Prop := keepRanksUptoRow.holds Try.pinned (OpenSpec.upto keepRanksSpec)

/-- 'escrowlaw04.KeepNil', WHERE WHAT IT READS IS OF BULK AT MOST 1048576: true; the input reads as it did. -/
def keepNilUptoRow : OpenClaim := { program := "ytmbaedldikobcaa", sum := "d134ad947b163a286cf3d34d69a558ae2287361d8cafcc675c6717cdec9f9a6d", func := "escrow/escrowlaw04.KeepNil", spec := "keepNil", unfollowed := true, recurses := true, apart := false, narrowed := true }
def KeepNilUptoSaid : Prop := keepNilUptoRow.holds Try.pinned (OpenSpec.upto keepNilSpec)

end Rows
end Go.Proofs.Ytmbaedldikobcaa
