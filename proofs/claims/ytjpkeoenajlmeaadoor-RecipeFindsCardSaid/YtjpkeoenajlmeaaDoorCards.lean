/-
  DERIVED. GIVEN WITH THE SEED: THE CARDS: each row of YtjpkeoenajlmeaaDoorRows.lean that lists a variable, with what it lists TIED to the program's text (the seventh form; the later family's looks); each row that meets fmt, with fmt's text TOLD by the authors' own Lean function (tested against real Go, not proved from fmt's source: count such statements apart). THE CARD IS WHAT COUNTS. Prove the row's statement (the work); the ties are given (YtjpkeoenajlmeaaDoorTie.lean); close each card by the builder's one call (the guide's Derived/Test/ToyasCard.lean, 'card_holds'). Laid BY PROGRAM, IN A SANDBOX (cutbox-door.mjs). By AI agents, Wed Nov 11 2026. No macro, syntax, notation, axiom, sorry.
-/
import Derived.Test.YtjpkeoenajlmeaaDoorRows
import GoSem.ClaimSeven
namespace Go.Proofs.YtjpkeoenajlmeaaDoor
namespace Rows

/-- THE TIED CARD OF 'escrowlaw05.TermCopies'. -/
def termCopiesCard : Claim7 := { stood := { row := termCopiesRow, standIns := [], harness := (true, "de184ded2170ed7613edc9cd2712be14200d2ae10daffd9395b9fc96f9563ba9"), looks := false }, kinds := [], alts := [], laidByText := true, laidKinds := [.data], laidTests := true, laidLooks := .later }
def TermCopiesCardSaid : Prop := Claim7.holds Tryd.pinned (.plain (OpenSpec.ofChange termCopiesSpec)) termCopiesCard

/-- THE TIED CARD OF 'escrowlaw09.RecipeFinds'. -/
def recipeFindsCard : Claim7 := { stood := { row := recipeFindsRow, standIns := [], harness := (true, "de184ded2170ed7613edc9cd2712be14200d2ae10daffd9395b9fc96f9563ba9"), looks := false }, kinds := [], alts := [], laidByText := true, laidKinds := [.data], laidTests := true, laidLooks := .later }
def RecipeFindsCardSaid : Prop := Claim7.holds Tryd.pinned (.plain (OpenSpec.ofChange recipeFindsSpec)) recipeFindsCard

/-- THE SECOND FORM's CARD OF 'escrowlaw05.TermCopies'. -/
def termCopiesUptoCard : Claim7 := { stood := { row := termCopiesUptoRow, standIns := [], harness := (true, "de184ded2170ed7613edc9cd2712be14200d2ae10daffd9395b9fc96f9563ba9"), looks := false }, kinds := [], alts := [], laidByText := true, laidKinds := [.data], laidTests := true, laidLooks := .later }
def TermCopiesUptoCardSaid : Prop := Claim7.holds Tryd.pinned (.plain (OpenSpec.upto termCopiesSpec)) termCopiesUptoCard

/-- THE SECOND FORM's CARD OF 'escrowlaw09.RecipeFinds'. -/
def recipeFindsUptoCard : Claim7 := { stood := { row := recipeFindsUptoRow, standIns := [], harness := (true, "de184ded2170ed7613edc9cd2712be14200d2ae10daffd9395b9fc96f9563ba9"), looks := false }, kinds := [], alts := [], laidByText := true, laidKinds := [.data], laidTests := true, laidLooks := .later }
def RecipeFindsUptoCardSaid : Prop := Claim7.holds Tryd.pinned (.plain (OpenSpec.upto recipeFindsSpec)) recipeFindsUptoCard
end Rows
end Go.Proofs.YtjpkeoenajlmeaaDoor
