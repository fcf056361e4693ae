/-
  NARROWER THAN 'FOR EVERY INPUT', by the rows' own cells (each row's printed sentence says how): GraphArrays: laid · GraphLeaves: laid.
  DERIVED. THE GIVEN ROWS OF THIS SEAT. 2 by the template 'for every input the law returns true; each argument reads behind the call as it read before'; 0 by the template 'total and deterministic' (their statements: YtbmcbkebcchjmaaGreatDoorTotals.lean).
  GIVEN WITH THE SEED: the statements are not yours to turn. If you find one false, say at which input.
  Laid BY PROGRAM, IN A SANDBOX (cutbox-rows.mjs): the forced cells as the released guide's own fill.sh prints them over the translation 28e218555057c3ef… (all of the seat's roots in one cut). By AI agents, Wed Nov 11 2026. No macro, syntax, notation, axiom, sorry.
-/
import Derived.Test.YtbmcbkebcchjmaaGreatDoorChecked
import GoSem.Claim
import GoSem.ClaimJoined
import GoSem.ClaimMapViews
import Derived.JoinedTies
import Derived.KernelRfl
namespace Go.Proofs.YtbmcbkebcchjmaaGreatDoor
/- THE CELL 'sum', in the pinned program and in every row, IS THE sha256 OF THE DUMP (.gsa) THAT YtbmcbkebcchjmaaGreatDoorProg.lean LOADS. Nothing in Lean hashes anything: it is a label: what it is worth is what the hold of that sum in a sandbox is worth. -/
noncomputable def Tryz.pinned : Pinned := { name := "ytbmcbkebcchjmaagreatdoor", sum := "28e218555057c3ef31714a34353061231cd56dcbe12c485695e09efc7920fb57", checked := Tryz.checked }
namespace Rows
def none {H : Type} : Left H := { results := [], args := [] }

/- WHAT THE LISTED PACKAGE-LEVEL VARIABLES READ AS WHEN THE CALL BEGINS. Each datum BY PROGRAM (the guide's laid-datum.mjs) off the statement by which the dump's own 'gosem.cut.vars' lays the variable. In a bare row this is a premise. The card (YtbmcbkebcchjmaaGreatDoorCards.lean) ties it to the program's text. -/
def laid_spolia_op_wordings {H : Type} : DataW H := .agg [.agg [.lit (.string []), .lit (.string [])], .agg [.lit (.string [110, 101, 119]), .lit (.string [65, 75])], .agg [.lit (.string [97, 114, 114, 97, 121]), .lit (.string [65, 75, 78])], .agg [.lit (.string [108, 111, 97, 100]), .lit (.string [65, 66, 78])], .agg [.lit (.string [115, 116, 111, 114, 101]), .lit (.string [65, 78, 66])], .agg [.lit (.string [103, 101, 116]), .lit (.string [65, 66, 78])], .agg [.lit (.string [112, 117, 116]), .lit (.string [65, 78, 66])], .agg [.lit (.string [108, 111, 111, 107]), .lit (.string [65, 71])], .agg [.lit (.string [115, 101, 116]), .lit (.string [71, 66])], .agg [.lit (.string [115, 97, 109, 101]), .lit (.string [65, 66, 67])], .agg [.lit (.string [108, 101, 110, 103, 116, 104]), .lit (.string [65, 66])], .agg [.lit (.string [107, 105, 110, 100]), .lit (.string [65, 66])], .agg [.lit (.string [110, 117, 109, 98, 101, 114]), .lit (.string [65, 88, 89])], .agg [.lit (.string [99, 108, 101, 97, 114]), .lit (.string [65])], .agg [.lit (.string [99, 111, 112, 121]), .lit (.string [65, 66])], .agg [.lit (.string [97, 100, 100]), .lit (.string [65, 66, 67])], .agg [.lit (.string [109, 117, 108]), .lit (.string [65, 66, 67])], .agg [.lit (.string [99, 111, 108, 108, 101, 99, 116]), .lit (.string [])], .agg [.lit (.string [108, 101, 97, 118, 101]), .lit (.string [])]]

/-- 'spolaw20.GraphArrays': WHATEVER THE INPUT: true; the input reads as it did. -/
def graphArraysSpec : ChangeSpec := { name := "graphArrays", fn := fun _ => fun
  | [d1, d2] => { results := [.lit (.bool true)], args := [d1, d2] }
  | _ => none }
def graphArraysRow : OpenClaim := { program := "ytbmcbkebcchjmaagreatdoor", sum := "28e218555057c3ef31714a34353061231cd56dcbe12c485695e09efc7920fb57", func := "spolia/spolaw20.GraphArrays", spec := "graphArrays", inPlace := ["math.Float64bits"], unfollowed := true, recurses := true, named := ["spolia/op.wordings"], apart := false, laid := [("spolia/op.wordings", laid_spolia_op_wordings)] }
def GraphArraysSaid : Prop := graphArraysRow.holds Tryz.pinned (OpenSpec.ofChange graphArraysSpec)

/-- ITS FALSE NEIGHBOUR: 'it returns false'. Refute it at one input. -/
def graphArraysWrong : ChangeSpec := { name := "graphArrays", fn := fun _ => fun
  | [d1, d2] => { results := [.lit (.bool false)], args := [d1, d2] }
  | _ => none }
def GraphArraysWrongFalsely : Prop := graphArraysRow.holds Tryz.pinned (OpenSpec.ofChange graphArraysWrong)

/-- 'spolaw20.GraphLeaves': WHATEVER THE INPUT: true; the input reads as it did. -/
def graphLeavesSpec : ChangeSpec := { name := "graphLeaves", fn := fun _ => fun
  | [d1, d2] => { results := [.lit (.bool true)], args := [d1, d2] }
  | _ => none }
def graphLeavesRow : OpenClaim := { program := "ytbmcbkebcchjmaagreatdoor", sum := "28e218555057c3ef31714a34353061231cd56dcbe12c485695e09efc7920fb57", func := "spolia/spolaw20.GraphLeaves", spec := "graphLeaves", inPlace := ["math.Float64bits"], unfollowed := true, recurses := true, named := ["spolia/op.wordings"], apart := false, laid := [("spolia/op.wordings", laid_spolia_op_wordings)] }
def GraphLeavesSaid : Prop := graphLeavesRow.holds Tryz.pinned (OpenSpec.ofChange graphLeavesSpec)

/-- ITS FALSE NEIGHBOUR: 'it returns false'. Refute it at one input. -/
def graphLeavesWrong : ChangeSpec := { name := "graphLeaves", fn := fun _ => fun
  | [d1, d2] => { results := [.lit (.bool false)], args := [d1, d2] }
  | _ => none }
def GraphLeavesWrongFalsely : Prop := graphLeavesRow.holds Tryz.pinned (OpenSpec.ofChange graphLeavesWrong)

/- THE SECOND FORM. 'bulk': how many values and letters a reading holds, each counted each time it is reached (what is shared counts as often as it is met; a slice's spare places count too). A statement '..UptoSaid' is the law's where the arguments, and the package variables that the reading takes, are together of bulk at most 1048576: NARROWER than '..Said'. Prove '..Said' where nothing that the law and all that it calls make is longer than what came in: it says more and counts as full. Else prove '..UptoSaid'. A law counts once. -/
mutual
def uptoBulk {H : Type} : DataW H → Nat
  | .lit (.string bytes) => bytes.length + 1
  | .lit _ => 1
  | .nil => 1
  | .ptr d => uptoBulk d + 1
  | .slice elems spare => uptoBulkAll elems + uptoBulkAll spare + 1
  | .agg parts => uptoBulkAll parts + 1
  | .iface _ d => uptoBulk d + 1
  | .map entries => uptoBulkEntries entries + 1
  | .held _ => 1
def uptoBulkAll {H : Type} : List (DataW H) → Nat
  | [] => 0
  | d :: r => uptoBulk d + uptoBulkAll r
def uptoBulkEntries {H : Type} : List (Lit × DataW H) → Nat
  | [] => 0
  | x :: r => uptoBulkEntry x + uptoBulkEntries r
def uptoBulkEntry {H : Type} : Lit × DataW H → Nat
  | (.string bytes, d) => bytes.length + uptoBulk d + 1
  | (_, d) => uptoBulk d + 1
 end
def uptoSmall : (H : Type) → List (DataW H) → Bool := fun _ ds => decide (uptoBulkAll ds ≤ 1048576)
def OpenSpec.upto (s : _root_.Go.ChangeSpec) : _root_.Go.OpenSpec := { _root_.Go.OpenSpec.ofChange s with cond := some uptoSmall }

/-- 'spolaw20.GraphArrays', WHERE WHAT IT READS IS OF BULK AT MOST 1048576: true; the input reads as it did. -/
def graphArraysUptoRow : OpenClaim := { program := "ytbmcbkebcchjmaagreatdoor", sum := "28e218555057c3ef31714a34353061231cd56dcbe12c485695e09efc7920fb57", func := "spolia/spolaw20.GraphArrays", spec := "graphArrays", inPlace := ["math.Float64bits"], unfollowed := true, recurses := true, named := ["spolia/op.wordings"], apart := false, laid := [("spolia/op.wordings", laid_spolia_op_wordings)], narrowed := true }
def GraphArraysUptoSaid : Prop := graphArraysUptoRow.holds Tryz.pinned (OpenSpec.upto graphArraysSpec)

/-- 'spolaw20.GraphLeaves', WHERE WHAT IT READS IS OF BULK AT MOST 1048576: true; the input reads as it did. -/
def graphLeavesUptoRow : OpenClaim := { program := "ytbmcbkebcchjmaagreatdoor", sum := "28e218555057c3ef31714a34353061231cd56dcbe12c485695e09efc7920fb57", func := "spolia/spolaw20.GraphLeaves", spec := "graphLeaves", inPlace := ["math.Float64bits"], unfollowed := true, recurses := true, named := ["spolia/op.wordings"], apart := false, laid := [("spolia/op.wordings", laid_spolia_op_wordings)], narrowed := true }
def GraphLeavesUptoSaid : Prop := graphLeavesUptoRow.holds Tryz.pinned (OpenSpec.upto graphLeavesSpec)

end Rows
end Go.Proofs.YtbmcbkebcchjmaaGreatDoor
