/-
  No cell of these rows narrows 'for every input' (looked for: loops, veiled, ifaces, maps, wideKeys, modest, calm, conditions, laid).
  DERIVED. THE GIVEN ROWS OF THIS SEAT. 5 by the template 'for every input the law returns true; each argument reads behind the call as it read before'; 0 by the template 'total and deterministic' (their statements: YtpeplgiofiikhaaTotals.lean).
  GIVEN WITH THE SEED: the statements are not yours to turn. If you find one false, say at which input.
  Laid BY PROGRAM, IN A SANDBOX (cutbox-rows.mjs): the forced cells as the released guide's own fill.sh prints them over the translation 8e304170b13d2c1e… (all of the seat's roots in one cut). By AI agents, Wed Nov 11 2026. No macro, syntax, notation, axiom, sorry.
-/
import Derived.Test.YtpeplgiofiikhaaChecked
import GoSem.Claim
import GoSem.ClaimJoined
import GoSem.ClaimMapViews
import Derived.JoinedTies
import Derived.KernelRfl
namespace Go.Proofs.Ytpeplgiofiikhaa
/- THE CELL 'sum', in the pinned program and in every row, IS THE sha256 OF THE DUMP (.gsa) THAT YtpeplgiofiikhaaProg.lean LOADS. Nothing in Lean hashes anything: it is a label: what it is worth is what the hold of that sum in a sandbox is worth. -/
noncomputable def Try.pinned : Pinned := { name := "ytpeplgiofiikhaa", sum := "8e304170b13d2c1eeba7b7827e538ec3aab10b8aeaf435ac7885755f97ba4794", checked := Try.checked }
namespace Rows
def none {H : Type} : Left H := { results := [], args := [] }

/-- 'spolaw4.ConfTells': WHATEVER THE INPUT: true; the input reads as it did. -/
def confTellsSpec : ChangeSpec := { name := "confTells", fn := fun _ => fun
  | [d1, d2] => { results := [.lit (.bool true)], args := [d1, d2] }
  | _ => none }
def confTellsRow : OpenClaim := { program := "ytpeplgiofiikhaa", sum := "8e304170b13d2c1eeba7b7827e538ec3aab10b8aeaf435ac7885755f97ba4794", func := "spolia/spolaw4.ConfTells", spec := "confTells", apart := false }
def ConfTellsSaid : Prop := confTellsRow.holds Try.pinned (OpenSpec.ofChange confTellsSpec)

/-- ITS FALSE NEIGHBOUR: 'it returns false'. Refute it at one input. -/
def confTellsWrong : ChangeSpec := { name := "confTells", fn := fun _ => fun
  | [d1, d2] => { results := [.lit (.bool false)], args := [d1, d2] }
  | _ => none }
def ConfTellsWrongFalsely : Prop := confTellsRow.holds Try.pinned (OpenSpec.ofChange confTellsWrong)

/-- 'spolaw4.ConfEdges': WHATEVER THE INPUT: true; the input reads as it did. -/
def confEdgesSpec : ChangeSpec := { name := "confEdges", fn := fun _ => fun
  | [d1, d2] => { results := [.lit (.bool true)], args := [d1, d2] }
  | _ => none }
def confEdgesRow : OpenClaim := { program := "ytpeplgiofiikhaa", sum := "8e304170b13d2c1eeba7b7827e538ec3aab10b8aeaf435ac7885755f97ba4794", func := "spolia/spolaw4.ConfEdges", spec := "confEdges", apart := false }
def ConfEdgesSaid : Prop := confEdgesRow.holds Try.pinned (OpenSpec.ofChange confEdgesSpec)

/-- ITS FALSE NEIGHBOUR: 'it returns false'. Refute it at one input. -/
def confEdgesWrong : ChangeSpec := { name := "confEdges", fn := fun _ => fun
  | [d1, d2] => { results := [.lit (.bool false)], args := [d1, d2] }
  | _ => none }
def ConfEdgesWrongFalsely : Prop := confEdgesRow.holds Try.pinned (OpenSpec.ofChange confEdgesWrong)

/-- 'spolaw4.ConfShapes': WHATEVER THE INPUT: true; the input reads as it did. -/
def confShapesSpec : ChangeSpec := { name := "confShapes", fn := fun _ => fun
  | [d] => { results := [.lit (.bool true)], args := [d] }
  | _ => none }
def confShapesRow : OpenClaim := { program := "ytpeplgiofiikhaa", sum := "8e304170b13d2c1eeba7b7827e538ec3aab10b8aeaf435ac7885755f97ba4794", func := "spolia/spolaw4.ConfShapes", spec := "confShapes", apart := false }
def ConfShapesSaid : Prop := confShapesRow.holds Try.pinned (OpenSpec.ofChange confShapesSpec)

/-- ITS FALSE NEIGHBOUR: 'it returns false'. Refute it at one input. -/
def confShapesWrong : ChangeSpec := { name := "confShapes", fn := fun _ => fun
  | [d] => { results := [.lit (.bool false)], args := [d] }
  | _ => none }
def ConfShapesWrongFalsely : Prop := confShapesRow.holds Try.pinned (OpenSpec.ofChange confShapesWrong)

/-- 'spolaw4.ConfStocks': WHATEVER THE INPUT: true; the input reads as it did. -/
def confStocksSpec : ChangeSpec := { name := "confStocks", fn := fun _ => fun
  | [d1, d2, d3] => { results := [.lit (.bool true)], args := [d1, d2, d3] }
  | _ => none }
def confStocksRow : OpenClaim := { program := "ytpeplgiofiikhaa", sum := "8e304170b13d2c1eeba7b7827e538ec3aab10b8aeaf435ac7885755f97ba4794", func := "spolia/spolaw4.ConfStocks", spec := "confStocks", apart := false }
def ConfStocksSaid : Prop := confStocksRow.holds Try.pinned (OpenSpec.ofChange confStocksSpec)

/-- ITS FALSE NEIGHBOUR: 'it returns false'. Refute it at one input. -/
def confStocksWrong : ChangeSpec := { name := "confStocks", fn := fun _ => fun
  | [d1, d2, d3] => { results := [.lit (.bool false)], args := [d1, d2, d3] }
  | _ => none }
def ConfStocksWrongFalsely : Prop := confStocksRow.holds Try.pinned (OpenSpec.ofChange confStocksWrong)

/-- 'spolaw4.ConfSmall': WHATEVER THE INPUT: true; the input reads as it did. -/
def confSmallSpec : ChangeSpec := { name := "confSmall", fn := fun _ => fun
  | [d1, d2] => { results := [.lit (.bool true)], args := [d1, d2] }
  | _ => none }
def confSmallRow : OpenClaim := { program := "ytpeplgiofiikhaa", sum := "8e304170b13d2c1eeba7b7827e538ec3aab10b8aeaf435ac7885755f97ba4794", func := "spolia/spolaw4.ConfSmall", spec := "confSmall", apart := false }
def ConfSmallSaid : Prop := confSmallRow.holds Try.pinned (OpenSpec.ofChange confSmallSpec)

/-- ITS FALSE NEIGHBOUR: 'it returns false'. Refute it at one input. -/
def confSmallWrong : ChangeSpec := { name := "confSmall", fn := fun _ => fun
  | [d1, d2] => { results := [.lit (.bool false)], args := [d1, d2] }
  | _ => none }
def ConfSmallWrongFalsely : Prop := confSmallRow.holds Try.pinned (OpenSpec.ofChange confSmallWrong)

/- THE SECOND FORM. 'bulk': how many values and letters a reading holds, each counted each time it is reached (what is shared counts as often as it is met; a slice's spare places count too). A statement '..UptoSaid' is the law's where the arguments, and the package variables that the reading takes, are together of bulk at most 1048576: NARROWER than '..Said'. Prove '..Said' where nothing that the law and all that it calls make is longer than what came in: it says more and counts as full. Else prove '..UptoSaid'. A law counts once. -/
mutual
def uptoBulk {H : Type} : DataW H → Nat
  | .lit (.string bytes) => bytes.length + 1
  | .lit _ => 1
  | .nil => 1
  | .ptr d => uptoBulk d + 1
  | .slice elems spare => uptoBulkAll elems + uptoBulkAll spare + 1
  | .agg parts => uptoBulkAll parts + 1
  | .iface _ d => uptoBulk d + 1
  | .map entries => uptoBulkEntries entries + 1
  | .held _ => 1
def uptoBulkAll {H : Type} : List (DataW H) → Nat
  | [] => 0
  | d :: r => uptoBulk d + uptoBulkAll r
def uptoBulkEntries {H : Type} : List (Lit × DataW H) → Nat
  | [] => 0
  | x :: r => uptoBulkEntry x + uptoBulkEntries r
def uptoBulkEntry {H : Type} : Lit × DataW H → Nat
  | (.string bytes, d) => bytes.length + uptoBulk d + 1
  | (_, d) => uptoBulk d + 1
 end
def uptoSmall : (H : Type) → List (DataW H) → Bool := fun _ ds => decide (uptoBulkAll ds ≤ 1048576)
def OpenSpec.upto (s : _root_.Go.ChangeSpec) : _root_.Go.OpenSpec := { _root_.Go.OpenSpec.ofChange s with cond := some uptoSmall }

/-- 'spolaw4.ConfTells', WHERE WHAT IT READS IS OF BULK AT MOST 1048576: true; the input reads as it did. -/
def confTellsUptoRow : OpenClaim := { program := "ytpeplgiofiikhaa", sum := "8e304170b13d2c1eeba7b7827e538ec3aab10b8aeaf435ac7885755f97ba4794", func := "spolia/spolaw4.ConfTells", spec := "confTells", apart := false, narrowed := true }
def ConfTellsUptoSaid : Prop := confTellsUptoRow.holds Try.pinned (OpenSpec.upto confTellsSpec)

/-- 'spolaw4.ConfEdges', WHERE WHAT IT READS IS OF BULK AT MOST 1048576: true; the input reads as it did. -/
def confEdgesUptoRow : OpenClaim := { program := "ytpeplgiofiikhaa", sum := "8e304170b13d2c1eeba7b7827e538ec3aab10b8aeaf435ac7885755f97ba4794", func := "spolia/spolaw4.ConfEdges", spec := "confEdges", apart := false, narrowed := true }
def ConfEdgesUptoSaid : Prop := confEdgesUptoRow.holds Try.pinned (OpenSpec.upto confEdgesSpec)

/-- 'spolaw4.ConfShapes', WHERE WHAT IT READS IS OF BULK AT MOST 1048576: true; the input reads as it did. -/
def confShapesUptoRow : OpenClaim := { program := "ytpeplgiofiikhaa", sum := "8e304170b13d2c1eeba7b7827e538ec3aab10b8aeaf435ac7885755f97ba4794", func := "spolia/spolaw4.ConfShapes", spec := "confShapes", apart := false, narrowed := true }
def ConfShapesUptoSaid : Prop := confShapesUptoRow.holds Try.pinned (OpenSpec.upto confShapesSpec)

/-- 'spolaw4.ConfStocks', WHERE WHAT IT READS IS OF BULK AT MOST 1048576: true; the input reads as it did. -/
def confStocksUptoRow : OpenClaim := { program := "ytpeplgiofiikhaa", sum := "8e304170b13d2c1eeba7b7827e538ec3aab10b8aeaf435ac7885755f97ba4794", func := "spolia/spolaw4.ConfStocks", spec := "confStocks", apart := false, narrowed := true }
def ConfStocksUptoSaid : Prop := confStocksUptoRow.holds Try.pinned (OpenSpec.upto confStocksSpec)

/-- 'spolaw4.ConfSmall', WHERE WHAT IT READS IS OF BULK AT MOST 1048576: true; the input reads as it did. -/
def confSmallUptoRow : OpenClaim := { program := "ytpeplgiofiikhaa", sum := "8e304170b13d2c1eeba7b7827e538ec3aab10b8aeaf435ac7885755f97ba4794", func := "spolia/spolaw4.ConfSmall", spec := "confSmall", apart := false, narrowed := true }
def ConfSmallUptoSaid : Prop := confSmallUptoRow.holds Try.pinned (OpenSpec.upto confSmallSpec)

end Rows
end Go.Proofs.Ytpeplgiofiikhaa
