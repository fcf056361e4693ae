/-
  No cell of these rows narrows 'for every input' (looked for: loops, veiled, ifaces, maps, wideKeys, modest, calm, conditions, laid).
  DERIVED. THE GIVEN ROWS OF THIS SEAT. 6 by the template 'for every input the law returns true; each argument reads behind the call as it read before'; 0 by the template 'total and deterministic' (their statements: YtahpnnjemjjfhaaTotals.lean).
  GIVEN WITH THE SEED: the statements are not yours to turn. If you find one false, say at which input.
  Laid BY PROGRAM, IN A SANDBOX (cutbox-rows.mjs): the forced cells as the released guide's own fill.sh prints them over the translation a1ba2e6014b2f94b… (all of the seat's roots in one cut). By AI agents, Wed Nov 11 2026. No macro, syntax, notation, axiom, sorry.
-/
import Derived.Test.YtahpnnjemjjfhaaChecked
import GoSem.Claim
import GoSem.ClaimJoined
import GoSem.ClaimMapViews
import Derived.JoinedTies
import Derived.KernelRfl
namespace Go.Proofs.Ytahpnnjemjjfhaa
/- THE CELL 'sum', in the pinned program and in every row, IS THE sha256 OF THE DUMP (.gsa) THAT YtahpnnjemjjfhaaProg.lean LOADS. Nothing in Lean hashes anything: it is a label: what it is worth is what the hold of that sum in a sandbox is worth. -/
noncomputable def Try.pinned : Pinned := { name := "ytahpnnjemjjfhaa", sum := "a1ba2e6014b2f94b066da755292545abf55c260df28231bc54448f4963098b00", checked := Try.checked }
namespace Rows
def none {H : Type} : Left H := { results := [], args := [] }

/-- 'spolaw21.SpaceWhole': WHATEVER THE INPUT: true; the input reads as it did. -/
def spaceWholeSpec : ChangeSpec := { name := "spaceWhole", fn := fun _ => fun
  | [d1, d2] => { results := [.lit (.bool true)], args := [d1, d2] }
  | _ => none }
def spaceWholeRow : OpenClaim := { program := "ytahpnnjemjjfhaa", sum := "a1ba2e6014b2f94b066da755292545abf55c260df28231bc54448f4963098b00", func := "spolia/spolaw21.SpaceWhole", spec := "spaceWhole", unfollowed := true, recurses := true, apart := false }
def SpaceWholeSaid : Prop := spaceWholeRow.holds Try.pinned (OpenSpec.ofChange spaceWholeSpec)

/-- ITS FALSE NEIGHBOUR: 'it returns false'. Refute it at one input. -/
def spaceWholeWrong : ChangeSpec := { name := "spaceWhole", fn := fun _ => fun
  | [d1, d2] => { results := [.lit (.bool false)], args := [d1, d2] }
  | _ => none }
def SpaceWholeWrongFalsely : Prop := spaceWholeRow.holds Try.pinned (OpenSpec.ofChange spaceWholeWrong)

/-- 'spolaw21.SpaceServes': WHATEVER THE INPUT: true; the input reads as it did. -/
def spaceServesSpec : ChangeSpec := { name := "spaceServes", fn := fun _ => fun
  | [d1, d2] => { results := [.lit (.bool true)], args := [d1, d2] }
  | _ => none }
def spaceServesRow : OpenClaim := { program := "ytahpnnjemjjfhaa", sum := "a1ba2e6014b2f94b066da755292545abf55c260df28231bc54448f4963098b00", func := "spolia/spolaw21.SpaceServes", spec := "spaceServes", unfollowed := true, recurses := true, apart := false }
def SpaceServesSaid : Prop := spaceServesRow.holds Try.pinned (OpenSpec.ofChange spaceServesSpec)

/-- ITS FALSE NEIGHBOUR: 'it returns false'. Refute it at one input. -/
def spaceServesWrong : ChangeSpec := { name := "spaceServes", fn := fun _ => fun
  | [d1, d2] => { results := [.lit (.bool false)], args := [d1, d2] }
  | _ => none }
def SpaceServesWrongFalsely : Prop := spaceServesRow.holds Try.pinned (OpenSpec.ofChange spaceServesWrong)

/-- 'spolaw21.SpaceStocks': WHATEVER THE INPUT: true; the input reads as it did. -/
def spaceStocksSpec : ChangeSpec := { name := "spaceStocks", fn := fun _ => fun
  | [d1, d2] => { results := [.lit (.bool true)], args := [d1, d2] }
  | _ => none }
def spaceStocksRow : OpenClaim := { program := "ytahpnnjemjjfhaa", sum := "a1ba2e6014b2f94b066da755292545abf55c260df28231bc54448f4963098b00", func := "spolia/spolaw21.SpaceStocks", spec := "spaceStocks", unfollowed := true, recurses := true, apart := false }
def SpaceStocksSaid : Prop := spaceStocksRow.holds Try.pinned (OpenSpec.ofChange spaceStocksSpec)

/-- ITS FALSE NEIGHBOUR: 'it returns false'. Refute it at one input. -/
def spaceStocksWrong : ChangeSpec := { name := "spaceStocks", fn := fun _ => fun
  | [d1, d2] => { results := [.lit (.bool false)], args := [d1, d2] }
  | _ => none }
def SpaceStocksWrongFalsely : Prop := spaceStocksRow.holds Try.pinned (OpenSpec.ofChange spaceStocksWrong)

/-- 'spolaw21.SpaceRuns': WHATEVER THE INPUT: true; the input reads as it did. -/
def spaceRunsSpec : ChangeSpec := { name := "spaceRuns", fn := fun _ => fun
  | [d1, d2] => { results := [.lit (.bool true)], args := [d1, d2] }
  | _ => none }
def spaceRunsRow : OpenClaim := { program := "ytahpnnjemjjfhaa", sum := "a1ba2e6014b2f94b066da755292545abf55c260df28231bc54448f4963098b00", func := "spolia/spolaw21.SpaceRuns", spec := "spaceRuns", unfollowed := true, recurses := true, apart := false }
def SpaceRunsSaid : Prop := spaceRunsRow.holds Try.pinned (OpenSpec.ofChange spaceRunsSpec)

/-- ITS FALSE NEIGHBOUR: 'it returns false'. Refute it at one input. -/
def spaceRunsWrong : ChangeSpec := { name := "spaceRuns", fn := fun _ => fun
  | [d1, d2] => { results := [.lit (.bool false)], args := [d1, d2] }
  | _ => none }
def SpaceRunsWrongFalsely : Prop := spaceRunsRow.holds Try.pinned (OpenSpec.ofChange spaceRunsWrong)

/-- 'spolaw21.SpaceFails': WHATEVER THE INPUT: true; the input reads as it did. -/
def spaceFailsSpec : ChangeSpec := { name := "spaceFails", fn := fun _ => fun
  | [d] => { results := [.lit (.bool true)], args := [d] }
  | _ => none }
def spaceFailsRow : OpenClaim := { program := "ytahpnnjemjjfhaa", sum := "a1ba2e6014b2f94b066da755292545abf55c260df28231bc54448f4963098b00", func := "spolia/spolaw21.SpaceFails", spec := "spaceFails", unfollowed := true, recurses := true, apart := false }
def SpaceFailsSaid : Prop := spaceFailsRow.holds Try.pinned (OpenSpec.ofChange spaceFailsSpec)

/-- ITS FALSE NEIGHBOUR: 'it returns false'. Refute it at one input. -/
def spaceFailsWrong : ChangeSpec := { name := "spaceFails", fn := fun _ => fun
  | [d] => { results := [.lit (.bool false)], args := [d] }
  | _ => none }
def SpaceFailsWrongFalsely : Prop := spaceFailsRow.holds Try.pinned (OpenSpec.ofChange spaceFailsWrong)

/-- 'spolaw21.SpaceLine': WHATEVER THE INPUT: true; the input reads as it did. -/
def spaceLineSpec : ChangeSpec := { name := "spaceLine", fn := fun _ => fun
  | [d1, d2] => { results := [.lit (.bool true)], args := [d1, d2] }
  | _ => none }
def spaceLineRow : OpenClaim := { program := "ytahpnnjemjjfhaa", sum := "a1ba2e6014b2f94b066da755292545abf55c260df28231bc54448f4963098b00", func := "spolia/spolaw21.SpaceLine", spec := "spaceLine", unfollowed := true, recurses := true, apart := false }
def SpaceLineSaid : Prop := spaceLineRow.holds Try.pinned (OpenSpec.ofChange spaceLineSpec)

/-- ITS FALSE NEIGHBOUR: 'it returns false'. Refute it at one input. -/
def spaceLineWrong : ChangeSpec := { name := "spaceLine", fn := fun _ => fun
  | [d1, d2] => { results := [.lit (.bool false)], args := [d1, d2] }
  | _ => none }
def SpaceLineWrongFalsely : Prop := spaceLineRow.holds Try.pinned (OpenSpec.ofChange spaceLineWrong)

/- THE SECOND FORM. 'bulk': how many values and letters a reading holds, each counted each time it is reached (what is shared counts as often as it is met; a slice's spare places count too). A statement '..UptoSaid' is the law's where the arguments, and the package variables that the reading takes, are together of bulk at most 1048576: NARROWER than '..Said'. Prove '..Said' where nothing that the law and all that it calls make is longer than what came in: it says more and counts as full. Else prove '..UptoSaid'. A law counts once. -/
mutual
def uptoBulk {H : Type} : DataW H → Nat
  | .lit (.string bytes) => bytes.length + 1
  | .lit _ => 1
  | .nil => 1
  | .ptr d => uptoBulk d + 1
  | .slice elems spare => uptoBulkAll elems + uptoBulkAll spare + 1
  | .agg parts => uptoBulkAll parts + 1
  | .iface _ d => uptoBulk d + 1
  | .map entries => uptoBulkEntries entries + 1
  | .held _ => 1
def uptoBulkAll {H : Type} : List (DataW H) → Nat
  | [] => 0
  | d :: r => uptoBulk d + uptoBulkAll r
def uptoBulkEntries {H : Type} : List (Lit × DataW H) → Nat
  | [] => 0
  | x :: r => uptoBulkEntry x + uptoBulkEntries r
def uptoBulkEntry {H : Type} : Lit × DataW H → Nat
  | (.string bytes, d) => bytes.length + uptoBulk d + 1
  | (_, d) => uptoBulk d + 1
 end
def uptoSmall : (H : Type) → List (DataW H) → Bool := fun _ ds => decide (uptoBulkAll ds ≤ 1048576)
def OpenSpec.upto (s : _root_.Go.ChangeSpec) : _root_.Go.OpenSpec := { _root_.Go.OpenSpec.ofChange s with cond := some uptoSmall }

/-- 'spolaw21.SpaceWhole', WHERE WHAT IT READS IS OF BULK AT MOST 1048576: true; the input reads as it did. -/
def spaceWholeUptoRow : OpenClaim := { program := "ytahpnnjemjjfhaa", sum := "a1ba2e6014b2f94b066da755292545abf55c260df28231bc54448f4963098b00", func := "spolia/spolaw21.SpaceWhole", spec := "spaceWhole", unfollowed := true, recurses := true, apart := false, narrowed := true }
def SpaceWholeUptoSaid : Prop := spaceWholeUptoRow.holds Try.pinned (OpenSpec.upto spaceWholeSpec)

/-- 'spolaw21.SpaceServes', WHERE WHAT IT READS IS OF BULK AT MOST 1048576: true; the input reads as it did. -/
def spaceServesUptoRow : OpenClaim := { program := "ytahpnnjemjjfhaa", sum := "a1ba2e6014b2f94b066da755292545abf55c260df28231bc54448f4963098b00", func := "spolia/spolaw21.SpaceServes", spec := "spaceServes", unfollowed := true, recurses := true, apart := false, narrowed := true }
def SpaceServesUptoSaid : Prop := spaceServesUptoRow.holds Try.pinned (OpenSpec.upto spaceServesSpec)

/-- 'spolaw21.SpaceStocks', WHERE WHAT IT READS IS OF BULK AT MOST 1048576: true; the input reads as it did. -/
def spaceStocksUptoRow : OpenClaim := { program := "ytahpnnjemjjfhaa", sum := "a1ba2e6014b2f94b066da755292545abf55c260df28231bc54448f4963098b00", func := "spolia/spolaw21.SpaceStocks", spec := "spaceStocks", unfollowed := true, recurses := true, apart := false, narrowed := true }
def SpaceStocksUptoSaid : Prop := spaceStocksUptoRow.holds Try.pinned (OpenSpec.upto spaceStocksSpec)

/-- 'spolaw21.SpaceRuns', WHERE WHAT IT READS IS OF BULK AT MOST 1048576: true; the input reads as it did. -/
def spaceRunsUptoRow : OpenClaim := { program := "ytahpnnjemjjfhaa", sum := "a1ba2e6014b2f94b066da755292545abf55c260df28231bc54448f4963098b00", func := "spolia/spolaw21.SpaceRuns", spec := "spaceRuns", unfollowed := true, recurses := true, apart := false, narrowed := true }
def SpaceRunsUptoSaid : Prop := spaceRunsUptoRow.holds Try.pinned (OpenSpec.upto spaceRunsSpec)

/-- 'spolaw21.SpaceFails', WHERE WHAT IT READS IS OF BULK AT MOST 1048576: true; the input reads as it did. -/
def spaceFailsUptoRow : OpenClaim := { program := "ytahpnnjemjjfhaa", sum := "a1ba2e6014b2f94b066da755292545abf55c260df28231bc54448f4963098b00", func := "spolia/spolaw21.SpaceFails", spec := "spaceFails", unfollowed := true, recurses := true, apart := false, narrowed := true }
def SpaceFailsUptoSaid : Prop := spaceFailsUptoRow.holds Try.pinned (OpenSpec.upto spaceFailsSpec)

/-- 'spolaw21.SpaceLine', WHERE WHAT IT READS IS OF BULK AT MOST 1048576: true; the input reads as it did. -/
def spaceLineUptoRow : OpenClaim := { program := "ytahpnnjemjjfhaa", sum := "a1ba2e6014b2f94b066da755292545abf55c260df28231bc54448f4963098b00", func := "spolia/spolaw21.SpaceLine", spec := "spaceLine", unfollowed := true, recurses := true, apart := false, narrowed := true }
def SpaceLineUptoSaid : Prop := spaceLineUptoRow.holds Try.pinned (OpenSpec.upto spaceLineSpec)

end Rows
end Go.Proofs.Ytahpnnjemjjfhaa
