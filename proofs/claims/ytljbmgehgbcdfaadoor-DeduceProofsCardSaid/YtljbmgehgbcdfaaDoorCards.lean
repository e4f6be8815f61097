/-
  DERIVED. GIVEN WITH THE SEED: THE CARDS: each row of YtljbmgehgbcdfaaDoorRows.lean that lists a variable, with what it lists TIED to the program's text (the seventh form; the later family's looks); each row that meets fmt, with fmt's text TOLD by the authors' own Lean function (tested against real Go, not proved from fmt's source: count such statements apart). THE CARD IS WHAT COUNTS. Prove the row's statement (the work); the ties are given (YtljbmgehgbcdfaaDoorTie.lean); close each card by the builder's one call (the guide's Derived/Test/ToyasCard.lean, 'card_holds'). Laid BY PROGRAM, IN A SANDBOX (cutbox-door.mjs). By AI agents, Wed Nov 11 2026. No macro, syntax, notation, axiom, sorry.
-/
import Derived.Test.YtljbmgehgbcdfaaDoorRows
import GoSem.ClaimSeven
namespace Go.Proofs.YtljbmgehgbcdfaaDoor
namespace Rows

/-- THE TIED CARD OF 'escrowlaw08.DeduceProofs'. -/
def deduceProofsCard : Claim7 := { stood := { row := deduceProofsRow, standIns := [], harness := (true, "b6571b72883c8abf7f592a69726eec244e16bdab72cd933d8eef6634d1fc6762"), looks := true }, kinds := [], alts := [], laidByText := true, laidKinds := [.data], laidTests := true, laidLooks := .later }
def DeduceProofsCardSaid : Prop := Claim7.holds Tryd.pinned (.plain (OpenSpec.ofChange deduceProofsSpec)) deduceProofsCard

/-- THE TIED CARD OF 'escrowlaw08.DeduceChecks'. -/
def deduceChecksCard : Claim7 := { stood := { row := deduceChecksRow, standIns := [], harness := (true, "b6571b72883c8abf7f592a69726eec244e16bdab72cd933d8eef6634d1fc6762"), looks := true }, kinds := [], alts := [], laidByText := true, laidKinds := [.data], laidTests := true, laidLooks := .later }
def DeduceChecksCardSaid : Prop := Claim7.holds Tryd.pinned (.plain (OpenSpec.ofChange deduceChecksSpec)) deduceChecksCard

/-- THE TIED CARD OF 'escrowlaw08.DeduceMore'. -/
def deduceMoreCard : Claim7 := { stood := { row := deduceMoreRow, standIns := [], harness := (true, "b6571b72883c8abf7f592a69726eec244e16bdab72cd933d8eef6634d1fc6762"), looks := true }, kinds := [], alts := [], laidByText := true, laidKinds := [.data], laidTests := true, laidLooks := .later }
def DeduceMoreCardSaid : Prop := Claim7.holds Tryd.pinned (.plain (OpenSpec.ofChange deduceMoreSpec)) deduceMoreCard

/-- THE TIED CARD OF 'escrowlaw08.DeduceKeys'. -/
def deduceKeysCard : Claim7 := { stood := { row := deduceKeysRow, standIns := [], harness := (true, "b6571b72883c8abf7f592a69726eec244e16bdab72cd933d8eef6634d1fc6762"), looks := true }, kinds := [], alts := [], laidByText := true, laidKinds := [.data], laidTests := true, laidLooks := .later }
def DeduceKeysCardSaid : Prop := Claim7.holds Tryd.pinned (.plain (OpenSpec.ofChange deduceKeysSpec)) deduceKeysCard

/-- THE TIED CARD OF 'escrowlaw08.DeduceClosed'. -/
def deduceClosedCard : Claim7 := { stood := { row := deduceClosedRow, standIns := [], harness := (true, "b6571b72883c8abf7f592a69726eec244e16bdab72cd933d8eef6634d1fc6762"), looks := true }, kinds := [], alts := [], laidByText := true, laidKinds := [.data], laidTests := true, laidLooks := .later }
def DeduceClosedCardSaid : Prop := Claim7.holds Tryd.pinned (.plain (OpenSpec.ofChange deduceClosedSpec)) deduceClosedCard

/-- THE TIED CARD OF 'escrowlaw08.DeduceNil'. -/
def deduceNilCard : Claim7 := { stood := { row := deduceNilRow, standIns := [], harness := (true, "b6571b72883c8abf7f592a69726eec244e16bdab72cd933d8eef6634d1fc6762"), looks := true }, kinds := [], alts := [], laidByText := true, laidKinds := [.data], laidTests := true, laidLooks := .later }
def DeduceNilCardSaid : Prop := Claim7.holds Tryd.pinned (.plain (OpenSpec.ofChange deduceNilSpec)) deduceNilCard

/-- THE SECOND FORM's CARD OF 'escrowlaw08.DeduceProofs'. -/
def deduceProofsUptoCard : Claim7 := { stood := { row := deduceProofsUptoRow, standIns := [], harness := (true, "b6571b72883c8abf7f592a69726eec244e16bdab72cd933d8eef6634d1fc6762"), looks := true }, kinds := [], alts := [], laidByText := true, laidKinds := [.data], laidTests := true, laidLooks := .later }
def DeduceProofsUptoCardSaid : Prop := Claim7.holds Tryd.pinned (.plain (OpenSpec.upto deduceProofsSpec)) deduceProofsUptoCard

/-- THE SECOND FORM's CARD OF 'escrowlaw08.DeduceChecks'. -/
def deduceChecksUptoCard : Claim7 := { stood := { row := deduceChecksUptoRow, standIns := [], harness := (true, "b6571b72883c8abf7f592a69726eec244e16bdab72cd933d8eef6634d1fc6762"), looks := true }, kinds := [], alts := [], laidByText := true, laidKinds := [.data], laidTests := true, laidLooks := .later }
def DeduceChecksUptoCardSaid : Prop := Claim7.holds Tryd.pinned (.plain (OpenSpec.upto deduceChecksSpec)) deduceChecksUptoCard

/-- THE SECOND FORM's CARD OF 'escrowlaw08.DeduceMore'. -/
def deduceMoreUptoCard : Claim7 := { stood := { row := deduceMoreUptoRow, standIns := [], harness := (true, "b6571b72883c8abf7f592a69726eec244e16bdab72cd933d8eef6634d1fc6762"), looks := true }, kinds := [], alts := [], laidByText := true, laidKinds := [.data], laidTests := true, laidLooks := .later }
def DeduceMoreUptoCardSaid : Prop := Claim7.holds Tryd.pinned (.plain (OpenSpec.upto deduceMoreSpec)) deduceMoreUptoCard

/-- THE SECOND FORM's CARD OF 'escrowlaw08.DeduceKeys'. -/
def deduceKeysUptoCard : Claim7 := { stood := { row := deduceKeysUptoRow, standIns := [], harness := (true, "b6571b72883c8abf7f592a69726eec244e16bdab72cd933d8eef6634d1fc6762"), looks := true }, kinds := [], alts := [], laidByText := true, laidKinds := [.data], laidTests := true, laidLooks := .later }
def DeduceKeysUptoCardSaid : Prop := Claim7.holds Tryd.pinned (.plain (OpenSpec.upto deduceKeysSpec)) deduceKeysUptoCard

/-- THE SECOND FORM's CARD OF 'escrowlaw08.DeduceClosed'. -/
def deduceClosedUptoCard : Claim7 := { stood := { row := deduceClosedUptoRow, standIns := [], harness := (true, "b6571b72883c8abf7f592a69726eec244e16bdab72cd933d8eef6634d1fc6762"), looks := true }, kinds := [], alts := [], laidByText := true, laidKinds := [.data], laidTests := true, laidLooks := .later }
def DeduceClosedUptoCardSaid : Prop := Claim7.holds Tryd.pinned (.plain (OpenSpec.upto deduceClosedSpec)) deduceClosedUptoCard

/-- THE SECOND FORM's CARD OF 'escrowlaw08.DeduceNil'. -/
def deduceNilUptoCard : Claim7 := { stood := { row := deduceNilUptoRow, standIns := [], harness := (true, "b6571b72883c8abf7f592a69726eec244e16bdab72cd933d8eef6634d1fc6762"), looks := true }, kinds := [], alts := [], laidByText := true, laidKinds := [.data], laidTests := true, laidLooks := .later }
def DeduceNilUptoCardSaid : Prop := Claim7.holds Tryd.pinned (.plain (OpenSpec.upto deduceNilSpec)) deduceNilUptoCard
end Rows
end Go.Proofs.YtljbmgehgbcdfaaDoor
