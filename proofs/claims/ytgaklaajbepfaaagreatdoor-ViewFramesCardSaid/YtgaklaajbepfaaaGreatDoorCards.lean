/-
  DERIVED. GIVEN WITH THE SEED: THE CARDS: each row of YtgaklaajbepfaaaGreatDoorRows.lean that lists a variable, with what it lists TIED to the program's text (the seventh form; the later family's looks); each row that meets fmt, with fmt's text TOLD by the authors' own Lean function (tested against real Go, not proved from fmt's source: count such statements apart). THE CARD IS WHAT COUNTS. Prove the row's statement (the work); the ties are given (YtgaklaajbepfaaaGreatDoorTie.lean); close each card by the builder's one call (the guide's Derived/Test/ToyasCard.lean, 'card_holds'). Laid BY PROGRAM, IN A SANDBOX (cutbox-door.mjs). By AI agents, Wed Nov 11 2026. No macro, syntax, notation, axiom, sorry.
-/
import Derived.Test.YtgaklaajbepfaaaGreatDoorRows
import GoSem.ClaimSeven
namespace Go.Proofs.YtgaklaajbepfaaaGreatDoor
namespace Rows

/-- THE TIED CARD OF 'escrowlaw08.DeducePlays'. -/
def deducePlaysCard : Claim7 := { stood := { row := deducePlaysRow, standIns := [], harness := (true, "fe47b8fdd426e7d6525f8d9dd42655189343fce1a6cb6ef6d4d50bae110b3967"), looks := true }, kinds := [], alts := [], laidByText := true, laidKinds := [.data], laidTests := true, laidLooks := .later }
def DeducePlaysCardSaid : Prop := Claim7.holds Tryz.pinned (.plain (OpenSpec.ofChange deducePlaysSpec)) deducePlaysCard

/-- THE TIED CARD OF 'escrowlaw10.ViewSees'. -/
def viewSeesCard : Claim7 := { stood := { row := viewSeesRow, standIns := [], harness := (true, "fe47b8fdd426e7d6525f8d9dd42655189343fce1a6cb6ef6d4d50bae110b3967"), looks := true }, kinds := [], alts := [], laidByText := true, laidKinds := [.data], laidTests := true, laidLooks := .later }
def ViewSeesCardSaid : Prop := Claim7.holds Tryz.pinned (.plain (OpenSpec.ofChange viewSeesSpec)) viewSeesCard

/-- THE TIED CARD OF 'escrowlaw10.ViewFrames'. -/
def viewFramesCard : Claim7 := { stood := { row := viewFramesRow, standIns := [], harness := (true, "fe47b8fdd426e7d6525f8d9dd42655189343fce1a6cb6ef6d4d50bae110b3967"), looks := true }, kinds := [], alts := [], laidByText := true, laidKinds := [.data], laidTests := true, laidLooks := .later }
def ViewFramesCardSaid : Prop := Claim7.holds Tryz.pinned (.plain (OpenSpec.ofChange viewFramesSpec)) viewFramesCard

/-- THE SECOND FORM's CARD OF 'escrowlaw08.DeducePlays'. -/
def deducePlaysUptoCard : Claim7 := { stood := { row := deducePlaysUptoRow, standIns := [], harness := (true, "fe47b8fdd426e7d6525f8d9dd42655189343fce1a6cb6ef6d4d50bae110b3967"), looks := true }, kinds := [], alts := [], laidByText := true, laidKinds := [.data], laidTests := true, laidLooks := .later }
def DeducePlaysUptoCardSaid : Prop := Claim7.holds Tryz.pinned (.plain (OpenSpec.upto deducePlaysSpec)) deducePlaysUptoCard

/-- THE SECOND FORM's CARD OF 'escrowlaw10.ViewSees'. -/
def viewSeesUptoCard : Claim7 := { stood := { row := viewSeesUptoRow, standIns := [], harness := (true, "fe47b8fdd426e7d6525f8d9dd42655189343fce1a6cb6ef6d4d50bae110b3967"), looks := true }, kinds := [], alts := [], laidByText := true, laidKinds := [.data], laidTests := true, laidLooks := .later }
def ViewSeesUptoCardSaid : Prop := Claim7.holds Tryz.pinned (.plain (OpenSpec.upto viewSeesSpec)) viewSeesUptoCard

/-- THE SECOND FORM's CARD OF 'escrowlaw10.ViewFrames'. -/
def viewFramesUptoCard : Claim7 := { stood := { row := viewFramesUptoRow, standIns := [], harness := (true, "fe47b8fdd426e7d6525f8d9dd42655189343fce1a6cb6ef6d4d50bae110b3967"), looks := true }, kinds := [], alts := [], laidByText := true, laidKinds := [.data], laidTests := true, laidLooks := .later }
def ViewFramesUptoCardSaid : Prop := Claim7.holds Tryz.pinned (.plain (OpenSpec.upto viewFramesSpec)) viewFramesUptoCard
end Rows
end Go.Proofs.YtgaklaajbepfaaaGreatDoor
