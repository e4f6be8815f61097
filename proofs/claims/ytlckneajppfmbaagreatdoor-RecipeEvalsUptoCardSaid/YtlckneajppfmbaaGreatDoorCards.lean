/-
  DERIVED. GIVEN WITH THE SEED: THE CARDS: each row of YtlckneajppfmbaaGreatDoorRows.lean that lists a variable, with what it lists TIED to the program's text (the seventh form; the later family's looks); each row that meets fmt, with fmt's text TOLD by the authors' own Lean function (tested against real Go, not proved from fmt's source: count such statements apart). THE CARD IS WHAT COUNTS. Prove the row's statement (the work); the ties are given (YtlckneajppfmbaaGreatDoorTie.lean); close each card by the builder's one call (the guide's Derived/Test/ToyasCard.lean, 'card_holds'). Laid BY PROGRAM, IN A SANDBOX (cutbox-door.mjs). By AI agents, Wed Nov 11 2026. No macro, syntax, notation, axiom, sorry.
-/
import Derived.Test.YtlckneajppfmbaaGreatDoorRows
import GoSem.ClaimSeven
namespace Go.Proofs.YtlckneajppfmbaaGreatDoor
namespace Rows

/-- THE TIED CARD OF 'escrowlaw09.RecipeEvals'. -/
def recipeEvalsCard : Claim7 := { stood := { row := recipeEvalsRow, standIns := [], harness := (true, "76231903f6f413fdb79aec7ecb068d3509ba59565b36961fedfd57bd658eb431"), looks := false }, kinds := [], alts := [], laidByText := true, laidKinds := [.data], laidTests := true, laidLooks := .later }
def RecipeEvalsCardSaid : Prop := Claim7.holds Tryz.pinned (.plain (OpenSpec.ofChange recipeEvalsSpec)) recipeEvalsCard

/-- THE SECOND FORM's CARD OF 'escrowlaw09.RecipeEvals'. -/
def recipeEvalsUptoCard : Claim7 := { stood := { row := recipeEvalsUptoRow, standIns := [], harness := (true, "76231903f6f413fdb79aec7ecb068d3509ba59565b36961fedfd57bd658eb431"), looks := false }, kinds := [], alts := [], laidByText := true, laidKinds := [.data], laidTests := true, laidLooks := .later }
def RecipeEvalsUptoCardSaid : Prop := Claim7.holds Tryz.pinned (.plain (OpenSpec.upto recipeEvalsSpec)) recipeEvalsUptoCard
end Rows
end Go.Proofs.YtlckneajppfmbaaGreatDoor
