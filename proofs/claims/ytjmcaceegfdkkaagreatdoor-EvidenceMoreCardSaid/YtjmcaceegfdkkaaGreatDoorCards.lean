/-
  DERIVED. GIVEN WITH THE SEED: THE CARDS: each row of YtjmcaceegfdkkaaGreatDoorRows.lean that lists a variable, with what it lists TIED to the program's text (the seventh form; the later family's looks); each row that meets fmt, with fmt's text TOLD by the authors' own Lean function (tested against real Go, not proved from fmt's source: count such statements apart). THE CARD IS WHAT COUNTS. Prove the row's statement (the work); the ties are given (YtjmcaceegfdkkaaGreatDoorTie.lean); close each card by the builder's one call (the guide's Derived/Test/ToyasCard.lean, 'card_holds'). Laid BY PROGRAM, IN A SANDBOX (cutbox-door.mjs). By AI agents, Wed Nov 11 2026. No macro, syntax, notation, axiom, sorry.
-/
import Derived.Test.YtjmcaceegfdkkaaGreatDoorRows
import GoSem.ClaimSeven
namespace Go.Proofs.YtjmcaceegfdkkaaGreatDoor
namespace Rows

/-- THE TIED CARD OF 'escrowlaw12.EvidenceOf'. -/
def evidenceOfCard : Claim7 := { stood := { row := evidenceOfRow, standIns := [], harness := (true, "4ff8586bd20f2b250b5ed7e322a70652bccc8e0a2090667447f9146f8fac66df"), looks := false }, kinds := [], alts := [], laidByText := true, laidKinds := [.data, .data], laidTests := true, laidLooks := .later }
def EvidenceOfCardSaid : Prop := Claim7.holds Tryz.pinned (.plain (OpenSpec.ofChange evidenceOfSpec)) evidenceOfCard

/-- THE TIED CARD OF 'escrowlaw12.EvidenceAll'. -/
def evidenceAllCard : Claim7 := { stood := { row := evidenceAllRow, standIns := [], harness := (true, "4ff8586bd20f2b250b5ed7e322a70652bccc8e0a2090667447f9146f8fac66df"), looks := false }, kinds := [], alts := [], laidByText := true, laidKinds := [.data, .data], laidTests := true, laidLooks := .later }
def EvidenceAllCardSaid : Prop := Claim7.holds Tryz.pinned (.plain (OpenSpec.ofChange evidenceAllSpec)) evidenceAllCard

/-- THE TIED CARD OF 'escrowlaw12.EvidenceOrder'. -/
def evidenceOrderCard : Claim7 := { stood := { row := evidenceOrderRow, standIns := [], harness := (true, "4ff8586bd20f2b250b5ed7e322a70652bccc8e0a2090667447f9146f8fac66df"), looks := false }, kinds := [], alts := [], laidByText := true, laidKinds := [.data, .data], laidTests := true, laidLooks := .later }
def EvidenceOrderCardSaid : Prop := Claim7.holds Tryz.pinned (.plain (OpenSpec.ofChange evidenceOrderSpec)) evidenceOrderCard

/-- THE TIED CARD OF 'escrowlaw12.EvidenceMakes'. -/
def evidenceMakesCard : Claim7 := { stood := { row := evidenceMakesRow, standIns := [], harness := (true, "4ff8586bd20f2b250b5ed7e322a70652bccc8e0a2090667447f9146f8fac66df"), looks := false }, kinds := [], alts := [], laidByText := true, laidKinds := [.data, .data], laidTests := true, laidLooks := .later }
def EvidenceMakesCardSaid : Prop := Claim7.holds Tryz.pinned (.plain (OpenSpec.ofChange evidenceMakesSpec)) evidenceMakesCard

/-- THE TIED CARD OF 'escrowlaw12.EvidenceBinds'. -/
def evidenceBindsCard : Claim7 := { stood := { row := evidenceBindsRow, standIns := [], harness := (true, "4ff8586bd20f2b250b5ed7e322a70652bccc8e0a2090667447f9146f8fac66df"), looks := false }, kinds := [], alts := [], laidByText := true, laidKinds := [.data, .data], laidTests := true, laidLooks := .later }
def EvidenceBindsCardSaid : Prop := Claim7.holds Tryz.pinned (.plain (OpenSpec.ofChange evidenceBindsSpec)) evidenceBindsCard

/-- THE TIED CARD OF 'escrowlaw12.EvidenceMore'. -/
def evidenceMoreCard : Claim7 := { stood := { row := evidenceMoreRow, standIns := [], harness := (true, "4ff8586bd20f2b250b5ed7e322a70652bccc8e0a2090667447f9146f8fac66df"), looks := false }, kinds := [], alts := [], laidByText := true, laidKinds := [.data, .data], laidTests := true, laidLooks := .later }
def EvidenceMoreCardSaid : Prop := Claim7.holds Tryz.pinned (.plain (OpenSpec.ofChange evidenceMoreSpec)) evidenceMoreCard

/-- THE TIED CARD OF 'escrowlaw12.EvidenceNil'. -/
def evidenceNilCard : Claim7 := { stood := { row := evidenceNilRow, standIns := [], harness := (true, "4ff8586bd20f2b250b5ed7e322a70652bccc8e0a2090667447f9146f8fac66df"), looks := false }, kinds := [], alts := [], laidByText := true, laidKinds := [.data, .data], laidTests := true, laidLooks := .later }
def EvidenceNilCardSaid : Prop := Claim7.holds Tryz.pinned (.plain (OpenSpec.ofChange evidenceNilSpec)) evidenceNilCard

/-- THE TIED CARD OF 'escrowlaw13.ArbiterJudges'. -/
def arbiterJudgesCard : Claim7 := { stood := { row := arbiterJudgesRow, standIns := [], harness := (true, "4ff8586bd20f2b250b5ed7e322a70652bccc8e0a2090667447f9146f8fac66df"), looks := false }, kinds := [], alts := [], laidByText := true, laidKinds := [.data, .data], laidTests := true, laidLooks := .later }
def ArbiterJudgesCardSaid : Prop := Claim7.holds Tryz.pinned (.plain (OpenSpec.ofChange arbiterJudgesSpec)) arbiterJudgesCard

/-- THE TIED CARD OF 'escrowlaw13.ArbiterLists'. -/
def arbiterListsCard : Claim7 := { stood := { row := arbiterListsRow, standIns := [], harness := (true, "4ff8586bd20f2b250b5ed7e322a70652bccc8e0a2090667447f9146f8fac66df"), looks := false }, kinds := [], alts := [], laidByText := true, laidKinds := [.data, .data], laidTests := true, laidLooks := .later }
def ArbiterListsCardSaid : Prop := Claim7.holds Tryz.pinned (.plain (OpenSpec.ofChange arbiterListsSpec)) arbiterListsCard

/-- THE TIED CARD OF 'escrowlaw13.ArbiterMore'. -/
def arbiterMoreCard : Claim7 := { stood := { row := arbiterMoreRow, standIns := [], harness := (true, "4ff8586bd20f2b250b5ed7e322a70652bccc8e0a2090667447f9146f8fac66df"), looks := false }, kinds := [], alts := [], laidByText := true, laidKinds := [.data, .data], laidTests := true, laidLooks := .later }
def ArbiterMoreCardSaid : Prop := Claim7.holds Tryz.pinned (.plain (OpenSpec.ofChange arbiterMoreSpec)) arbiterMoreCard

/-- THE SECOND FORM's CARD OF 'escrowlaw12.EvidenceOf'. -/
def evidenceOfUptoCard : Claim7 := { stood := { row := evidenceOfUptoRow, standIns := [], harness := (true, "4ff8586bd20f2b250b5ed7e322a70652bccc8e0a2090667447f9146f8fac66df"), looks := false }, kinds := [], alts := [], laidByText := true, laidKinds := [.data, .data], laidTests := true, laidLooks := .later }
def EvidenceOfUptoCardSaid : Prop := Claim7.holds Tryz.pinned (.plain (OpenSpec.upto evidenceOfSpec)) evidenceOfUptoCard

/-- THE SECOND FORM's CARD OF 'escrowlaw12.EvidenceAll'. -/
def evidenceAllUptoCard : Claim7 := { stood := { row := evidenceAllUptoRow, standIns := [], harness := (true, "4ff8586bd20f2b250b5ed7e322a70652bccc8e0a2090667447f9146f8fac66df"), looks := false }, kinds := [], alts := [], laidByText := true, laidKinds := [.data, .data], laidTests := true, laidLooks := .later }
def EvidenceAllUptoCardSaid : Prop := Claim7.holds Tryz.pinned (.plain (OpenSpec.upto evidenceAllSpec)) evidenceAllUptoCard

/-- THE SECOND FORM's CARD OF 'escrowlaw12.EvidenceOrder'. -/
def evidenceOrderUptoCard : Claim7 := { stood := { row := evidenceOrderUptoRow, standIns := [], harness := (true, "4ff8586bd20f2b250b5ed7e322a70652bccc8e0a2090667447f9146f8fac66df"), looks := false }, kinds := [], alts := [], laidByText := true, laidKinds := [.data, .data], laidTests := true, laidLooks := .later }
def EvidenceOrderUptoCardSaid : Prop := Claim7.holds Tryz.pinned (.plain (OpenSpec.upto evidenceOrderSpec)) evidenceOrderUptoCard

/-- THE SECOND FORM's CARD OF 'escrowlaw12.EvidenceMakes'. -/
def evidenceMakesUptoCard : Claim7 := { stood := { row := evidenceMakesUptoRow, standIns := [], harness := (true, "4ff8586bd20f2b250b5ed7e322a70652bccc8e0a2090667447f9146f8fac66df"), looks := false }, kinds := [], alts := [], laidByText := true, laidKinds := [.data, .data], laidTests := true, laidLooks := .later }
def EvidenceMakesUptoCardSaid : Prop := Claim7.holds Tryz.pinned (.plain (OpenSpec.upto evidenceMakesSpec)) evidenceMakesUptoCard

/-- THE SECOND FORM's CARD OF 'escrowlaw12.EvidenceBinds'. -/
def evidenceBindsUptoCard : Claim7 := { stood := { row := evidenceBindsUptoRow, standIns := [], harness := (true, "4ff8586bd20f2b250b5ed7e322a70652bccc8e0a2090667447f9146f8fac66df"), looks := false }, kinds := [], alts := [], laidByText := true, laidKinds := [.data, .data], laidTests := true, laidLooks := .later }
def EvidenceBindsUptoCardSaid : Prop := Claim7.holds Tryz.pinned (.plain (OpenSpec.upto evidenceBindsSpec)) evidenceBindsUptoCard

/-- THE SECOND FORM's CARD OF 'escrowlaw12.EvidenceMore'. -/
def evidenceMoreUptoCard : Claim7 := { stood := { row := evidenceMoreUptoRow, standIns := [], harness := (true, "4ff8586bd20f2b250b5ed7e322a70652bccc8e0a2090667447f9146f8fac66df"), looks := false }, kinds := [], alts := [], laidByText := true, laidKinds := [.data, .data], laidTests := true, laidLooks := .later }
def EvidenceMoreUptoCardSaid : Prop := Claim7.holds Tryz.pinned (.plain (OpenSpec.upto evidenceMoreSpec)) evidenceMoreUptoCard

/-- THE SECOND FORM's CARD OF 'escrowlaw12.EvidenceNil'. -/
def evidenceNilUptoCard : Claim7 := { stood := { row := evidenceNilUptoRow, standIns := [], harness := (true, "4ff8586bd20f2b250b5ed7e322a70652bccc8e0a2090667447f9146f8fac66df"), looks := false }, kinds := [], alts := [], laidByText := true, laidKinds := [.data, .data], laidTests := true, laidLooks := .later }
def EvidenceNilUptoCardSaid : Prop := Claim7.holds Tryz.pinned (.plain (OpenSpec.upto evidenceNilSpec)) evidenceNilUptoCard

/-- THE SECOND FORM's CARD OF 'escrowlaw13.ArbiterJudges'. -/
def arbiterJudgesUptoCard : Claim7 := { stood := { row := arbiterJudgesUptoRow, standIns := [], harness := (true, "4ff8586bd20f2b250b5ed7e322a70652bccc8e0a2090667447f9146f8fac66df"), looks := false }, kinds := [], alts := [], laidByText := true, laidKinds := [.data, .data], laidTests := true, laidLooks := .later }
def ArbiterJudgesUptoCardSaid : Prop := Claim7.holds Tryz.pinned (.plain (OpenSpec.upto arbiterJudgesSpec)) arbiterJudgesUptoCard

/-- THE SECOND FORM's CARD OF 'escrowlaw13.ArbiterLists'. -/
def arbiterListsUptoCard : Claim7 := { stood := { row := arbiterListsUptoRow, standIns := [], harness := (true, "4ff8586bd20f2b250b5ed7e322a70652bccc8e0a2090667447f9146f8fac66df"), looks := false }, kinds := [], alts := [], laidByText := true, laidKinds := [.data, .data], laidTests := true, laidLooks := .later }
def ArbiterListsUptoCardSaid : Prop := Claim7.holds Tryz.pinned (.plain (OpenSpec.upto arbiterListsSpec)) arbiterListsUptoCard

/-- THE SECOND FORM's CARD OF 'escrowlaw13.ArbiterMore'. -/
def arbiterMoreUptoCard : Claim7 := { stood := { row := arbiterMoreUptoRow, standIns := [], harness := (true, "4ff8586bd20f2b250b5ed7e322a70652bccc8e0a2090667447f9146f8fac66df"), looks := false }, kinds := [], alts := [], laidByText := true, laidKinds := [.data, .data], laidTests := true, laidLooks := .later }
def ArbiterMoreUptoCardSaid : Prop := Claim7.holds Tryz.pinned (.plain (OpenSpec.upto arbiterMoreSpec)) arbiterMoreUptoCard
end Rows
end Go.Proofs.YtjmcaceegfdkkaaGreatDoor
