/-
  DERIVED. GIVEN WITH THE SEED: THE CARDS: each row of YtlckneajppfmbaaDoorRows.lean that lists a variable, with what it lists TIED to the program's text (the seventh form; the later family's looks); each row that meets fmt, with fmt's text TOLD by the authors' own Lean function (tested against real Go, not proved from fmt's source: count such statements apart). THE CARD IS WHAT COUNTS. Prove the row's statement (the work); the ties are given (YtlckneajppfmbaaDoorTie.lean); close each card by the builder's one call (the guide's Derived/Test/ToyasCard.lean, 'card_holds'). Laid BY PROGRAM, IN A SANDBOX (cutbox-door.mjs). By AI agents, Wed Nov 11 2026. No macro, syntax, notation, axiom, sorry.
-/
import Derived.Test.YtlckneajppfmbaaDoorRows
import GoSem.ClaimSeven
namespace Go.Proofs.YtlckneajppfmbaaDoor
namespace Rows

/-- THE TIED CARD OF 'escrowlaw05.TermCopies'. -/
def termCopiesCard : Claim7 := { stood := { row := termCopiesRow, standIns := [], harness := (true, "782050499f8d3d349d64d23d676e1e3c83b1ec181c6b3604f0e9120e921eda6f"), looks := false }, kinds := [], alts := [], laidByText := true, laidKinds := [.data], laidTests := true, laidLooks := .later }
def TermCopiesCardSaid : Prop := Claim7.holds Tryd.pinned (.plain (OpenSpec.ofChange termCopiesSpec)) termCopiesCard

/-- THE TIED CARD OF 'escrowlaw09.RecipeSound'. -/
def recipeSoundCard : Claim7 := { stood := { row := recipeSoundRow, standIns := [], harness := (true, "782050499f8d3d349d64d23d676e1e3c83b1ec181c6b3604f0e9120e921eda6f"), looks := false }, kinds := [], alts := [], laidByText := true, laidKinds := [.data], laidTests := true, laidLooks := .later }
def RecipeSoundCardSaid : Prop := Claim7.holds Tryd.pinned (.plain (OpenSpec.ofChange recipeSoundSpec)) recipeSoundCard

/-- THE TIED CARD OF 'escrowlaw09.RecipeFinds'. -/
def recipeFindsCard : Claim7 := { stood := { row := recipeFindsRow, standIns := [], harness := (true, "782050499f8d3d349d64d23d676e1e3c83b1ec181c6b3604f0e9120e921eda6f"), looks := false }, kinds := [], alts := [], laidByText := true, laidKinds := [.data], laidTests := true, laidLooks := .later }
def RecipeFindsCardSaid : Prop := Claim7.holds Tryd.pinned (.plain (OpenSpec.ofChange recipeFindsSpec)) recipeFindsCard

/-- THE TIED CARD OF 'escrowlaw09.RecipeTrims'. -/
def recipeTrimsCard : Claim7 := { stood := { row := recipeTrimsRow, standIns := [], harness := (true, "782050499f8d3d349d64d23d676e1e3c83b1ec181c6b3604f0e9120e921eda6f"), looks := false }, kinds := [], alts := [], laidByText := true, laidKinds := [.data], laidTests := true, laidLooks := .later }
def RecipeTrimsCardSaid : Prop := Claim7.holds Tryd.pinned (.plain (OpenSpec.ofChange recipeTrimsSpec)) recipeTrimsCard

/-- THE TIED CARD OF 'escrowlaw09.RecipeNil'. -/
def recipeNilCard : Claim7 := { stood := { row := recipeNilRow, standIns := [], harness := (true, "782050499f8d3d349d64d23d676e1e3c83b1ec181c6b3604f0e9120e921eda6f"), looks := false }, kinds := [], alts := [], laidByText := true, laidKinds := [.data], laidTests := true, laidLooks := .later }
def RecipeNilCardSaid : Prop := Claim7.holds Tryd.pinned (.plain (OpenSpec.ofChange recipeNilSpec)) recipeNilCard

/-- THE SECOND FORM's CARD OF 'escrowlaw05.TermCopies'. -/
def termCopiesUptoCard : Claim7 := { stood := { row := termCopiesUptoRow, standIns := [], harness := (true, "782050499f8d3d349d64d23d676e1e3c83b1ec181c6b3604f0e9120e921eda6f"), looks := false }, kinds := [], alts := [], laidByText := true, laidKinds := [.data], laidTests := true, laidLooks := .later }
def TermCopiesUptoCardSaid : Prop := Claim7.holds Tryd.pinned (.plain (OpenSpec.upto termCopiesSpec)) termCopiesUptoCard

/-- THE SECOND FORM's CARD OF 'escrowlaw09.RecipeSound'. -/
def recipeSoundUptoCard : Claim7 := { stood := { row := recipeSoundUptoRow, standIns := [], harness := (true, "782050499f8d3d349d64d23d676e1e3c83b1ec181c6b3604f0e9120e921eda6f"), looks := false }, kinds := [], alts := [], laidByText := true, laidKinds := [.data], laidTests := true, laidLooks := .later }
def RecipeSoundUptoCardSaid : Prop := Claim7.holds Tryd.pinned (.plain (OpenSpec.upto recipeSoundSpec)) recipeSoundUptoCard

/-- THE SECOND FORM's CARD OF 'escrowlaw09.RecipeFinds'. -/
def recipeFindsUptoCard : Claim7 := { stood := { row := recipeFindsUptoRow, standIns := [], harness := (true, "782050499f8d3d349d64d23d676e1e3c83b1ec181c6b3604f0e9120e921eda6f"), looks := false }, kinds := [], alts := [], laidByText := true, laidKinds := [.data], laidTests := true, laidLooks := .later }
def RecipeFindsUptoCardSaid : Prop := Claim7.holds Tryd.pinned (.plain (OpenSpec.upto recipeFindsSpec)) recipeFindsUptoCard

/-- THE SECOND FORM's CARD OF 'escrowlaw09.RecipeTrims'. -/
def recipeTrimsUptoCard : Claim7 := { stood := { row := recipeTrimsUptoRow, standIns := [], harness := (true, "782050499f8d3d349d64d23d676e1e3c83b1ec181c6b3604f0e9120e921eda6f"), looks := false }, kinds := [], alts := [], laidByText := true, laidKinds := [.data], laidTests := true, laidLooks := .later }
def RecipeTrimsUptoCardSaid : Prop := Claim7.holds Tryd.pinned (.plain (OpenSpec.upto recipeTrimsSpec)) recipeTrimsUptoCard

/-- THE SECOND FORM's CARD OF 'escrowlaw09.RecipeNil'. -/
def recipeNilUptoCard : Claim7 := { stood := { row := recipeNilUptoRow, standIns := [], harness := (true, "782050499f8d3d349d64d23d676e1e3c83b1ec181c6b3604f0e9120e921eda6f"), looks := false }, kinds := [], alts := [], laidByText := true, laidKinds := [.data], laidTests := true, laidLooks := .later }
def RecipeNilUptoCardSaid : Prop := Claim7.holds Tryd.pinned (.plain (OpenSpec.upto recipeNilSpec)) recipeNilUptoCard
end Rows
end Go.Proofs.YtlckneajppfmbaaDoor
