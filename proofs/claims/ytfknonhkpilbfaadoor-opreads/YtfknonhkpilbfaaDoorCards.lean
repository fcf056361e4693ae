/-
  DERIVED. GIVEN WITH THE SEED: THE CARDS: each row of YtfknonhkpilbfaaDoorRows.lean that lists a variable, with what it lists TIED to the program's text (the seventh form; the later family's looks); each row that meets fmt, with fmt's text TOLD by the authors' own Lean function (tested against real Go, not proved from fmt's source: count such statements apart). THE CARD IS WHAT COUNTS. Prove the row's statement (the work); the ties are given (YtfknonhkpilbfaaDoorTie.lean); close each card by the builder's one call (the guide's Derived/Test/ToyasCard.lean, 'card_holds'). Laid BY PROGRAM, IN A SANDBOX (cutbox-door.mjs). By AI agents, Wed Nov 11 2026. No macro, syntax, notation, axiom, sorry.
-/
import Derived.Test.YtfknonhkpilbfaaDoorRows
import GoSem.ClaimSeven
namespace Go.Proofs.YtfknonhkpilbfaaDoor
namespace Rows

/-- THE TIED CARD OF 'spolaw19.OpReads'. -/
def opReadsCard : Claim7 := { stood := { row := opReadsRow, standIns := [], harness := (true, "9a5dfa8928e1c4c1a3a6a495a7b9e34c865bfc88cbafdd93b0cd5d7da9f1a375"), looks := true }, kinds := [], alts := [], laidByText := true, laidKinds := [.data, .data, .data, .sentinel, .sentinel, .data], laidTests := true, laidLooks := .later }
def OpReadsCardSaid : Prop := Claim7.holds Tryd.pinned (.plain (OpenSpec.ofChange opReadsSpec)) opReadsCard

/-- THE SECOND FORM's CARD OF 'spolaw19.OpReads'. -/
def opReadsUptoCard : Claim7 := { stood := { row := opReadsUptoRow, standIns := [], harness := (true, "9a5dfa8928e1c4c1a3a6a495a7b9e34c865bfc88cbafdd93b0cd5d7da9f1a375"), looks := true }, kinds := [], alts := [], laidByText := true, laidKinds := [.data, .data, .data, .sentinel, .sentinel, .data], laidTests := true, laidLooks := .later }
def OpReadsUptoCardSaid : Prop := Claim7.holds Tryd.pinned (.plain (OpenSpec.upto opReadsSpec)) opReadsUptoCard
end Rows
end Go.Proofs.YtfknonhkpilbfaaDoor
