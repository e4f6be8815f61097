/-
  DERIVED. GIVEN WITH THE SEED: THE CARDS: each row of YtgaklaajbepfaaaDoorRows.lean that lists a variable, with what it lists TIED to the program's text (the seventh form; the later family's looks); each row that meets fmt, with fmt's text TOLD by the authors' own Lean function (tested against real Go, not proved from fmt's source: count such statements apart). THE CARD IS WHAT COUNTS. Prove the row's statement (the work); the ties are given (YtgaklaajbepfaaaDoorTie.lean); close each card by the builder's one call (the guide's Derived/Test/ToyasCard.lean, 'card_holds'). Laid BY PROGRAM, IN A SANDBOX (cutbox-door.mjs). By AI agents, Wed Nov 11 2026. No macro, syntax, notation, axiom, sorry.
-/
import Derived.Test.YtgaklaajbepfaaaDoorRows
import GoSem.ClaimSeven
namespace Go.Proofs.YtgaklaajbepfaaaDoor
namespace Rows

/-- THE TIED CARD OF 'escrowlaw10.ViewAlike'. -/
def viewAlikeCard : Claim7 := { stood := { row := viewAlikeRow, standIns := [], harness := (true, "ce37bd70762503e331a017c8ad7f47775943841690eb85915116044e0240f7b7"), looks := false }, kinds := [], alts := [], laidByText := true, laidKinds := [.data], laidTests := true, laidLooks := .later }
def ViewAlikeCardSaid : Prop := Claim7.holds Tryd.pinned (.plain (OpenSpec.ofChange viewAlikeSpec)) viewAlikeCard

/-- THE TIED CARD OF 'escrowlaw10.ViewEquals'. -/
def viewEqualsCard : Claim7 := { stood := { row := viewEqualsRow, standIns := [], harness := (true, "ce37bd70762503e331a017c8ad7f47775943841690eb85915116044e0240f7b7"), looks := false }, kinds := [], alts := [], laidByText := true, laidKinds := [.data], laidTests := true, laidLooks := .later }
def ViewEqualsCardSaid : Prop := Claim7.holds Tryd.pinned (.plain (OpenSpec.ofChange viewEqualsSpec)) viewEqualsCard

/-- THE TIED CARD OF 'escrowlaw10.ViewOnce'. -/
def viewOnceCard : Claim7 := { stood := { row := viewOnceRow, standIns := [], harness := (true, "ce37bd70762503e331a017c8ad7f47775943841690eb85915116044e0240f7b7"), looks := false }, kinds := [], alts := [], laidByText := true, laidKinds := [.data], laidTests := true, laidLooks := .later }
def ViewOnceCardSaid : Prop := Claim7.holds Tryd.pinned (.plain (OpenSpec.ofChange viewOnceSpec)) viewOnceCard

/-- THE TIED CARD OF 'escrowlaw10.ViewFree'. -/
def viewFreeCard : Claim7 := { stood := { row := viewFreeRow, standIns := [], harness := (true, "ce37bd70762503e331a017c8ad7f47775943841690eb85915116044e0240f7b7"), looks := false }, kinds := [], alts := [], laidByText := true, laidKinds := [.data], laidTests := true, laidLooks := .later }
def ViewFreeCardSaid : Prop := Claim7.holds Tryd.pinned (.plain (OpenSpec.ofChange viewFreeSpec)) viewFreeCard

/-- THE TIED CARD OF 'escrowlaw10.ViewNil'. -/
def viewNilCard : Claim7 := { stood := { row := viewNilRow, standIns := [], harness := (true, "ce37bd70762503e331a017c8ad7f47775943841690eb85915116044e0240f7b7"), looks := false }, kinds := [], alts := [], laidByText := true, laidKinds := [.data], laidTests := true, laidLooks := .later }
def ViewNilCardSaid : Prop := Claim7.holds Tryd.pinned (.plain (OpenSpec.ofChange viewNilSpec)) viewNilCard

/-- THE SECOND FORM's CARD OF 'escrowlaw10.ViewAlike'. -/
def viewAlikeUptoCard : Claim7 := { stood := { row := viewAlikeUptoRow, standIns := [], harness := (true, "ce37bd70762503e331a017c8ad7f47775943841690eb85915116044e0240f7b7"), looks := false }, kinds := [], alts := [], laidByText := true, laidKinds := [.data], laidTests := true, laidLooks := .later }
def ViewAlikeUptoCardSaid : Prop := Claim7.holds Tryd.pinned (.plain (OpenSpec.upto viewAlikeSpec)) viewAlikeUptoCard

/-- THE SECOND FORM's CARD OF 'escrowlaw10.ViewEquals'. -/
def viewEqualsUptoCard : Claim7 := { stood := { row := viewEqualsUptoRow, standIns := [], harness := (true, "ce37bd70762503e331a017c8ad7f47775943841690eb85915116044e0240f7b7"), looks := false }, kinds := [], alts := [], laidByText := true, laidKinds := [.data], laidTests := true, laidLooks := .later }
def ViewEqualsUptoCardSaid : Prop := Claim7.holds Tryd.pinned (.plain (OpenSpec.upto viewEqualsSpec)) viewEqualsUptoCard

/-- THE SECOND FORM's CARD OF 'escrowlaw10.ViewOnce'. -/
def viewOnceUptoCard : Claim7 := { stood := { row := viewOnceUptoRow, standIns := [], harness := (true, "ce37bd70762503e331a017c8ad7f47775943841690eb85915116044e0240f7b7"), looks := false }, kinds := [], alts := [], laidByText := true, laidKinds := [.data], laidTests := true, laidLooks := .later }
def ViewOnceUptoCardSaid : Prop := Claim7.holds Tryd.pinned (.plain (OpenSpec.upto viewOnceSpec)) viewOnceUptoCard

/-- THE SECOND FORM's CARD OF 'escrowlaw10.ViewFree'. -/
def viewFreeUptoCard : Claim7 := { stood := { row := viewFreeUptoRow, standIns := [], harness := (true, "ce37bd70762503e331a017c8ad7f47775943841690eb85915116044e0240f7b7"), looks := false }, kinds := [], alts := [], laidByText := true, laidKinds := [.data], laidTests := true, laidLooks := .later }
def ViewFreeUptoCardSaid : Prop := Claim7.holds Tryd.pinned (.plain (OpenSpec.upto viewFreeSpec)) viewFreeUptoCard

/-- THE SECOND FORM's CARD OF 'escrowlaw10.ViewNil'. -/
def viewNilUptoCard : Claim7 := { stood := { row := viewNilUptoRow, standIns := [], harness := (true, "ce37bd70762503e331a017c8ad7f47775943841690eb85915116044e0240f7b7"), looks := false }, kinds := [], alts := [], laidByText := true, laidKinds := [.data], laidTests := true, laidLooks := .later }
def ViewNilUptoCardSaid : Prop := Claim7.holds Tryd.pinned (.plain (OpenSpec.upto viewNilSpec)) viewNilUptoCard
end Rows
end Go.Proofs.YtgaklaajbepfaaaDoor
