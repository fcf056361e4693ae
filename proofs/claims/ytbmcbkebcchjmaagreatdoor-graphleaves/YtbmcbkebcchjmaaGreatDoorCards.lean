/-
  DERIVED. GIVEN WITH THE SEED: THE CARDS: each row of YtbmcbkebcchjmaaGreatDoorRows.lean that lists a variable, with what it lists TIED to the program's text (the seventh form; the later family's looks); each row that meets fmt, with fmt's text TOLD by the authors' own Lean function (tested against real Go, not proved from fmt's source: count such statements apart). THE CARD IS WHAT COUNTS. Prove the row's statement (the work); the ties are given (YtbmcbkebcchjmaaGreatDoorTie.lean); close each card by the builder's one call (the guide's Derived/Test/ToyasCard.lean, 'card_holds'). Laid BY PROGRAM, IN A SANDBOX (cutbox-door.mjs). By AI agents, Wed Nov 11 2026. No macro, syntax, notation, axiom, sorry.
-/
import Derived.Test.YtbmcbkebcchjmaaGreatDoorRows
import GoSem.ClaimSeven
namespace Go.Proofs.YtbmcbkebcchjmaaGreatDoor
namespace Rows

/-- THE TIED CARD OF 'spolaw20.GraphArrays'. -/
def graphArraysCard : Claim7 := { stood := { row := graphArraysRow, standIns := [], harness := (true, "0b09083e9f2a6b357911c1b5454c113946442c91b0ae15a2059e5ad62a281ad5"), looks := false }, kinds := [], alts := [], laidByText := true, laidKinds := [.data], laidTests := true, laidLooks := .later }
def GraphArraysCardSaid : Prop := Claim7.holds Tryz.pinned (.plain (OpenSpec.ofChange graphArraysSpec)) graphArraysCard

/-- THE TIED CARD OF 'spolaw20.GraphLeaves'. -/
def graphLeavesCard : Claim7 := { stood := { row := graphLeavesRow, standIns := [], harness := (true, "0b09083e9f2a6b357911c1b5454c113946442c91b0ae15a2059e5ad62a281ad5"), looks := false }, kinds := [], alts := [], laidByText := true, laidKinds := [.data], laidTests := true, laidLooks := .later }
def GraphLeavesCardSaid : Prop := Claim7.holds Tryz.pinned (.plain (OpenSpec.ofChange graphLeavesSpec)) graphLeavesCard

/-- THE SECOND FORM's CARD OF 'spolaw20.GraphArrays'. -/
def graphArraysUptoCard : Claim7 := { stood := { row := graphArraysUptoRow, standIns := [], harness := (true, "0b09083e9f2a6b357911c1b5454c113946442c91b0ae15a2059e5ad62a281ad5"), looks := false }, kinds := [], alts := [], laidByText := true, laidKinds := [.data], laidTests := true, laidLooks := .later }
def GraphArraysUptoCardSaid : Prop := Claim7.holds Tryz.pinned (.plain (OpenSpec.upto graphArraysSpec)) graphArraysUptoCard

/-- THE SECOND FORM's CARD OF 'spolaw20.GraphLeaves'. -/
def graphLeavesUptoCard : Claim7 := { stood := { row := graphLeavesUptoRow, standIns := [], harness := (true, "0b09083e9f2a6b357911c1b5454c113946442c91b0ae15a2059e5ad62a281ad5"), looks := false }, kinds := [], alts := [], laidByText := true, laidKinds := [.data], laidTests := true, laidLooks := .later }
def GraphLeavesUptoCardSaid : Prop := Claim7.holds Tryz.pinned (.plain (OpenSpec.upto graphLeavesSpec)) graphLeavesUptoCard
end Rows
end Go.Proofs.YtbmcbkebcchjmaaGreatDoor
