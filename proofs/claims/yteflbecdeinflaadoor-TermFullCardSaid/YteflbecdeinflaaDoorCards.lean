/-
  DERIVED. GIVEN WITH THE SEED: THE CARDS: each row of YteflbecdeinflaaDoorRows.lean that lists a variable, with what it lists TIED to the program's text (the seventh form; the later family's looks); each row that meets fmt, with fmt's text TOLD by the authors' own Lean function (tested against real Go, not proved from fmt's source: count such statements apart). THE CARD IS WHAT COUNTS. Prove the row's statement (the work); the ties are given (YteflbecdeinflaaDoorTie.lean); close each card by the builder's one call (the guide's Derived/Test/ToyasCard.lean, 'card_holds'). Laid BY PROGRAM, IN A SANDBOX (cutbox-door.mjs). By AI agents, Wed Nov 11 2026. No macro, syntax, notation, axiom, sorry.
-/
import Derived.Test.YteflbecdeinflaaDoorRows
import GoSem.ClaimSeven
namespace Go.Proofs.YteflbecdeinflaaDoor
namespace Rows

/-- THE TIED CARD OF 'escrowlaw05.TermMakes'. -/
def termMakesCard : Claim7 := { stood := { row := termMakesRow, standIns := [], harness := (true, "d15352bc0f1a5240663e2595793a5a8df59c2e92911d344b3288b47104c30bbc"), looks := false }, kinds := [], alts := [], laidByText := true, laidKinds := [.data], laidTests := true, laidLooks := .later }
def TermMakesCardSaid : Prop := Claim7.holds Tryd.pinned (.plain (OpenSpec.ofChange termMakesSpec)) termMakesCard

/-- THE TIED CARD OF 'escrowlaw05.TermTrees'. -/
def termTreesCard : Claim7 := { stood := { row := termTreesRow, standIns := [], harness := (true, "d15352bc0f1a5240663e2595793a5a8df59c2e92911d344b3288b47104c30bbc"), looks := false }, kinds := [], alts := [], laidByText := true, laidKinds := [.data], laidTests := true, laidLooks := .later }
def TermTreesCardSaid : Prop := Claim7.holds Tryd.pinned (.plain (OpenSpec.ofChange termTreesSpec)) termTreesCard

/-- THE TIED CARD OF 'escrowlaw05.TermOnce'. -/
def termOnceCard : Claim7 := { stood := { row := termOnceRow, standIns := [], harness := (true, "d15352bc0f1a5240663e2595793a5a8df59c2e92911d344b3288b47104c30bbc"), looks := false }, kinds := [], alts := [], laidByText := true, laidKinds := [.data], laidTests := true, laidLooks := .later }
def TermOnceCardSaid : Prop := Claim7.holds Tryd.pinned (.plain (OpenSpec.ofChange termOnceSpec)) termOnceCard

/-- THE TIED CARD OF 'escrowlaw05.TermSubs'. -/
def termSubsCard : Claim7 := { stood := { row := termSubsRow, standIns := [], harness := (true, "d15352bc0f1a5240663e2595793a5a8df59c2e92911d344b3288b47104c30bbc"), looks := false }, kinds := [], alts := [], laidByText := true, laidKinds := [.data], laidTests := true, laidLooks := .later }
def TermSubsCardSaid : Prop := Claim7.holds Tryd.pinned (.plain (OpenSpec.ofChange termSubsSpec)) termSubsCard

/-- THE TIED CARD OF 'escrowlaw05.TermCopies'. -/
def termCopiesCard : Claim7 := { stood := { row := termCopiesRow, standIns := [], harness := (true, "d15352bc0f1a5240663e2595793a5a8df59c2e92911d344b3288b47104c30bbc"), looks := false }, kinds := [], alts := [], laidByText := true, laidKinds := [.data], laidTests := true, laidLooks := .later }
def TermCopiesCardSaid : Prop := Claim7.holds Tryd.pinned (.plain (OpenSpec.ofChange termCopiesSpec)) termCopiesCard

/-- THE TIED CARD OF 'escrowlaw05.TermCompares'. -/
def termComparesCard : Claim7 := { stood := { row := termComparesRow, standIns := [], harness := (true, "d15352bc0f1a5240663e2595793a5a8df59c2e92911d344b3288b47104c30bbc"), looks := false }, kinds := [], alts := [], laidByText := true, laidKinds := [.data], laidTests := true, laidLooks := .later }
def TermComparesCardSaid : Prop := Claim7.holds Tryd.pinned (.plain (OpenSpec.ofChange termComparesSpec)) termComparesCard

/-- THE TIED CARD OF 'escrowlaw05.TermFull'. -/
def termFullCard : Claim7 := { stood := { row := termFullRow, standIns := [], harness := (true, "d15352bc0f1a5240663e2595793a5a8df59c2e92911d344b3288b47104c30bbc"), looks := false }, kinds := [], alts := [], laidByText := true, laidKinds := [.data], laidTests := true, laidLooks := .later }
def TermFullCardSaid : Prop := Claim7.holds Tryd.pinned (.plain (OpenSpec.ofChange termFullSpec)) termFullCard

/-- THE TIED CARD OF 'escrowlaw05.TermNil'. -/
def termNilCard : Claim7 := { stood := { row := termNilRow, standIns := [], harness := (true, "d15352bc0f1a5240663e2595793a5a8df59c2e92911d344b3288b47104c30bbc"), looks := false }, kinds := [], alts := [], laidByText := true, laidKinds := [.data], laidTests := true, laidLooks := .later }
def TermNilCardSaid : Prop := Claim7.holds Tryd.pinned (.plain (OpenSpec.ofChange termNilSpec)) termNilCard

/-- THE SECOND FORM's CARD OF 'escrowlaw05.TermMakes'. -/
def termMakesUptoCard : Claim7 := { stood := { row := termMakesUptoRow, standIns := [], harness := (true, "d15352bc0f1a5240663e2595793a5a8df59c2e92911d344b3288b47104c30bbc"), looks := false }, kinds := [], alts := [], laidByText := true, laidKinds := [.data], laidTests := true, laidLooks := .later }
def TermMakesUptoCardSaid : Prop := Claim7.holds Tryd.pinned (.plain (OpenSpec.upto termMakesSpec)) termMakesUptoCard

/-- THE SECOND FORM's CARD OF 'escrowlaw05.TermTrees'. -/
def termTreesUptoCard : Claim7 := { stood := { row := termTreesUptoRow, standIns := [], harness := (true, "d15352bc0f1a5240663e2595793a5a8df59c2e92911d344b3288b47104c30bbc"), looks := false }, kinds := [], alts := [], laidByText := true, laidKinds := [.data], laidTests := true, laidLooks := .later }
def TermTreesUptoCardSaid : Prop := Claim7.holds Tryd.pinned (.plain (OpenSpec.upto termTreesSpec)) termTreesUptoCard

/-- THE SECOND FORM's CARD OF 'escrowlaw05.TermOnce'. -/
def termOnceUptoCard : Claim7 := { stood := { row := termOnceUptoRow, standIns := [], harness := (true, "d15352bc0f1a5240663e2595793a5a8df59c2e92911d344b3288b47104c30bbc"), looks := false }, kinds := [], alts := [], laidByText := true, laidKinds := [.data], laidTests := true, laidLooks := .later }
def TermOnceUptoCardSaid : Prop := Claim7.holds Tryd.pinned (.plain (OpenSpec.upto termOnceSpec)) termOnceUptoCard

/-- THE SECOND FORM's CARD OF 'escrowlaw05.TermSubs'. -/
def termSubsUptoCard : Claim7 := { stood := { row := termSubsUptoRow, standIns := [], harness := (true, "d15352bc0f1a5240663e2595793a5a8df59c2e92911d344b3288b47104c30bbc"), looks := false }, kinds := [], alts := [], laidByText := true, laidKinds := [.data], laidTests := true, laidLooks := .later }
def TermSubsUptoCardSaid : Prop := Claim7.holds Tryd.pinned (.plain (OpenSpec.upto termSubsSpec)) termSubsUptoCard

/-- THE SECOND FORM's CARD OF 'escrowlaw05.TermCopies'. -/
def termCopiesUptoCard : Claim7 := { stood := { row := termCopiesUptoRow, standIns := [], harness := (true, "d15352bc0f1a5240663e2595793a5a8df59c2e92911d344b3288b47104c30bbc"), looks := false }, kinds := [], alts := [], laidByText := true, laidKinds := [.data], laidTests := true, laidLooks := .later }
def TermCopiesUptoCardSaid : Prop := Claim7.holds Tryd.pinned (.plain (OpenSpec.upto termCopiesSpec)) termCopiesUptoCard

/-- THE SECOND FORM's CARD OF 'escrowlaw05.TermCompares'. -/
def termComparesUptoCard : Claim7 := { stood := { row := termComparesUptoRow, standIns := [], harness := (true, "d15352bc0f1a5240663e2595793a5a8df59c2e92911d344b3288b47104c30bbc"), looks := false }, kinds := [], alts := [], laidByText := true, laidKinds := [.data], laidTests := true, laidLooks := .later }
def TermComparesUptoCardSaid : Prop := Claim7.holds Tryd.pinned (.plain (OpenSpec.upto termComparesSpec)) termComparesUptoCard

/-- THE SECOND FORM's CARD OF 'escrowlaw05.TermFull'. -/
def termFullUptoCard : Claim7 := { stood := { row := termFullUptoRow, standIns := [], harness := (true, "d15352bc0f1a5240663e2595793a5a8df59c2e92911d344b3288b47104c30bbc"), looks := false }, kinds := [], alts := [], laidByText := true, laidKinds := [.data], laidTests := true, laidLooks := .later }
def TermFullUptoCardSaid : Prop := Claim7.holds Tryd.pinned (.plain (OpenSpec.upto termFullSpec)) termFullUptoCard

/-- THE SECOND FORM's CARD OF 'escrowlaw05.TermNil'. -/
def termNilUptoCard : Claim7 := { stood := { row := termNilUptoRow, standIns := [], harness := (true, "d15352bc0f1a5240663e2595793a5a8df59c2e92911d344b3288b47104c30bbc"), looks := false }, kinds := [], alts := [], laidByText := true, laidKinds := [.data], laidTests := true, laidLooks := .later }
def TermNilUptoCardSaid : Prop := Claim7.holds Tryd.pinned (.plain (OpenSpec.upto termNilSpec)) termNilUptoCard
end Rows
end Go.Proofs.YteflbecdeinflaaDoor
