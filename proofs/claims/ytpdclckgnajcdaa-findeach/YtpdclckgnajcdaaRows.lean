/-
  No cell of these rows narrows 'for every input' (looked for: loops, veiled, ifaces, maps, wideKeys, modest, calm, conditions, laid).
  DERIVED. THE GIVEN ROWS OF THIS SEAT. 7 by the template 'for every input the law returns true; each argument reads behind the call as it read before'; 0 by the template 'total and deterministic' (their statements: YtpdclckgnajcdaaTotals.lean).
  GIVEN WITH THE SEED: the statements are not yours to turn. If you find one false, say at which input.
  Laid BY PROGRAM, IN A SANDBOX (cutbox-rows.mjs): the forced cells as the released guide's own fill.sh prints them over the translation 5f1713f3be422308… (all of the seat's roots in one cut). By AI agents, Wed Nov 11 2026. No macro, syntax, notation, axiom, sorry.
-/
import Derived.Test.YtpdclckgnajcdaaChecked
import GoSem.Claim
import GoSem.ClaimJoined
import GoSem.ClaimMapViews
import Derived.JoinedTies
import Derived.KernelRfl
namespace Go.Proofs.Ytpdclckgnajcdaa
/- THE CELL 'sum', in the pinned program and in every row, IS THE sha256 OF THE DUMP (.gsa) THAT YtpdclckgnajcdaaProg.lean LOADS. Nothing in Lean hashes anything: it is a label: what it is worth is what the hold of that sum in a sandbox is worth. -/
noncomputable def Try.pinned : Pinned := { name := "ytpdclckgnajcdaa", sum := "5f1713f3be4223087995c4192e360a7aa9625d1c0dafa904d9bf48d286a7c852", checked := Try.checked }
namespace Rows
def none {H : Type} : Left H := { results := [], args := [] }

/-- 'spolaw12.PlanTells': WHATEVER THE INPUT: true; the input reads as it did. -/
def planTellsSpec : ChangeSpec := { name := "planTells", fn := fun _ => fun
  | [d1, d2, d3, d4, d5] => { results := [.lit (.bool true)], args := [d1, d2, d3, d4, d5] }
  | _ => none }
def planTellsRow : OpenClaim := { program := "ytpdclckgnajcdaa", sum := "5f1713f3be4223087995c4192e360a7aa9625d1c0dafa904d9bf48d286a7c852", func := "spolia/spolaw12.PlanTells", spec := "planTells", inPlace := ["math.Float64bits"], apart := false }
def PlanTellsSaid : Prop := planTellsRow.holds Try.pinned (OpenSpec.ofChange planTellsSpec)

/-- ITS FALSE NEIGHBOUR: 'it returns false'. Refute it at one input. -/
def planTellsWrong : ChangeSpec := { name := "planTells", fn := fun _ => fun
  | [d1, d2, d3, d4, d5] => { results := [.lit (.bool false)], args := [d1, d2, d3, d4, d5] }
  | _ => none }
def PlanTellsWrongFalsely : Prop := planTellsRow.holds Try.pinned (OpenSpec.ofChange planTellsWrong)

/-- 'spolaw12.PlanOnce': WHATEVER THE INPUT: true; the input reads as it did. -/
def planOnceSpec : ChangeSpec := { name := "planOnce", fn := fun _ => fun
  | [d1, d2, d3, d4, d5] => { results := [.lit (.bool true)], args := [d1, d2, d3, d4, d5] }
  | _ => none }
def planOnceRow : OpenClaim := { program := "ytpdclckgnajcdaa", sum := "5f1713f3be4223087995c4192e360a7aa9625d1c0dafa904d9bf48d286a7c852", func := "spolia/spolaw12.PlanOnce", spec := "planOnce", apart := false }
def PlanOnceSaid : Prop := planOnceRow.holds Try.pinned (OpenSpec.ofChange planOnceSpec)

/-- ITS FALSE NEIGHBOUR: 'it returns false'. Refute it at one input. -/
def planOnceWrong : ChangeSpec := { name := "planOnce", fn := fun _ => fun
  | [d1, d2, d3, d4, d5] => { results := [.lit (.bool false)], args := [d1, d2, d3, d4, d5] }
  | _ => none }
def PlanOnceWrongFalsely : Prop := planOnceRow.holds Try.pinned (OpenSpec.ofChange planOnceWrong)

/-- 'spolaw12.PlanModes': WHATEVER THE INPUT: true; the input reads as it did. -/
def planModesSpec : ChangeSpec := { name := "planModes", fn := fun _ => fun
  | [d1, d2, d3, d4, d5] => { results := [.lit (.bool true)], args := [d1, d2, d3, d4, d5] }
  | _ => none }
def planModesRow : OpenClaim := { program := "ytpdclckgnajcdaa", sum := "5f1713f3be4223087995c4192e360a7aa9625d1c0dafa904d9bf48d286a7c852", func := "spolia/spolaw12.PlanModes", spec := "planModes", inPlace := ["math.Float64bits"], apart := false }
def PlanModesSaid : Prop := planModesRow.holds Try.pinned (OpenSpec.ofChange planModesSpec)

/-- ITS FALSE NEIGHBOUR: 'it returns false'. Refute it at one input. -/
def planModesWrong : ChangeSpec := { name := "planModes", fn := fun _ => fun
  | [d1, d2, d3, d4, d5] => { results := [.lit (.bool false)], args := [d1, d2, d3, d4, d5] }
  | _ => none }
def PlanModesWrongFalsely : Prop := planModesRow.holds Try.pinned (OpenSpec.ofChange planModesWrong)

/-- 'spolaw12.PlanLinks': WHATEVER THE INPUT: true; the input reads as it did. -/
def planLinksSpec : ChangeSpec := { name := "planLinks", fn := fun _ => fun
  | [d1, d2, d3] => { results := [.lit (.bool true)], args := [d1, d2, d3] }
  | _ => none }
def planLinksRow : OpenClaim := { program := "ytpdclckgnajcdaa", sum := "5f1713f3be4223087995c4192e360a7aa9625d1c0dafa904d9bf48d286a7c852", func := "spolia/spolaw12.PlanLinks", spec := "planLinks", inPlace := ["math.Float64bits"], apart := false }
def PlanLinksSaid : Prop := planLinksRow.holds Try.pinned (OpenSpec.ofChange planLinksSpec)

/-- ITS FALSE NEIGHBOUR: 'it returns false'. Refute it at one input. -/
def planLinksWrong : ChangeSpec := { name := "planLinks", fn := fun _ => fun
  | [d1, d2, d3] => { results := [.lit (.bool false)], args := [d1, d2, d3] }
  | _ => none }
def PlanLinksWrongFalsely : Prop := planLinksRow.holds Try.pinned (OpenSpec.ofChange planLinksWrong)

/-- 'spolaw13.FindEach': WHATEVER THE INPUT: true; the input reads as it did. -/
def findEachSpec : ChangeSpec := { name := "findEach", fn := fun _ => fun
  | [d1, d2, d3, d4, d5] => { results := [.lit (.bool true)], args := [d1, d2, d3, d4, d5] }
  | _ => none }
def findEachRow : OpenClaim := { program := "ytpdclckgnajcdaa", sum := "5f1713f3be4223087995c4192e360a7aa9625d1c0dafa904d9bf48d286a7c852", func := "spolia/spolaw13.FindEach", spec := "findEach", inPlace := ["math.Float64bits"], apart := false }
def FindEachSaid : Prop := findEachRow.holds Try.pinned (OpenSpec.ofChange findEachSpec)

/-- ITS FALSE NEIGHBOUR: 'it returns false'. Refute it at one input. -/
def findEachWrong : ChangeSpec := { name := "findEach", fn := fun _ => fun
  | [d1, d2, d3, d4, d5] => { results := [.lit (.bool false)], args := [d1, d2, d3, d4, d5] }
  | _ => none }
def FindEachWrongFalsely : Prop := findEachRow.holds Try.pinned (OpenSpec.ofChange findEachWrong)

/-- 'spolaw13.FindFar': WHATEVER THE INPUT: true; the input reads as it did. -/
def findFarSpec : ChangeSpec := { name := "findFar", fn := fun _ => fun
  | [d1, d2, d3] => { results := [.lit (.bool true)], args := [d1, d2, d3] }
  | _ => none }
def findFarRow : OpenClaim := { program := "ytpdclckgnajcdaa", sum := "5f1713f3be4223087995c4192e360a7aa9625d1c0dafa904d9bf48d286a7c852", func := "spolia/spolaw13.FindFar", spec := "findFar", inPlace := ["math.Float64bits"], apart := false }
def FindFarSaid : Prop := findFarRow.holds Try.pinned (OpenSpec.ofChange findFarSpec)

/-- ITS FALSE NEIGHBOUR: 'it returns false'. Refute it at one input. -/
def findFarWrong : ChangeSpec := { name := "findFar", fn := fun _ => fun
  | [d1, d2, d3] => { results := [.lit (.bool false)], args := [d1, d2, d3] }
  | _ => none }
def FindFarWrongFalsely : Prop := findFarRow.holds Try.pinned (OpenSpec.ofChange findFarWrong)

/-- 'spolaw13.FindKinds': WHATEVER THE INPUT: true; the input reads as it did. -/
def findKindsSpec : ChangeSpec := { name := "findKinds", fn := fun _ => fun
  | [d1, d2, d3, d4, d5, d6] => { results := [.lit (.bool true)], args := [d1, d2, d3, d4, d5, d6] }
  | _ => none }
def findKindsRow : OpenClaim := { program := "ytpdclckgnajcdaa", sum := "5f1713f3be4223087995c4192e360a7aa9625d1c0dafa904d9bf48d286a7c852", func := "spolia/spolaw13.FindKinds", spec := "findKinds", inPlace := ["math.Float64bits"], apart := false }
def FindKindsSaid : Prop := findKindsRow.holds Try.pinned (OpenSpec.ofChange findKindsSpec)

/-- ITS FALSE NEIGHBOUR: 'it returns false'. Refute it at one input. -/
def findKindsWrong : ChangeSpec := { name := "findKinds", fn := fun _ => fun
  | [d1, d2, d3, d4, d5, d6] => { results := [.lit (.bool false)], args := [d1, d2, d3, d4, d5, d6] }
  | _ => none }
def FindKindsWrongFalsely : Prop := findKindsRow.holds Try.pinned (OpenSpec.ofChange findKindsWrong)

/- THE SECOND FORM. 'bulk': how many values and letters a reading holds, each counted each time it is reached (what is shared counts as often as it is met; a slice's spare places count too). A statement '..UptoSaid' is the law's where the arguments, and the package variables that the reading takes, are together of bulk at most 1048576: NARROWER than '..Said'. Prove '..Said' where nothing that the law and all that it calls make is longer than what came in: it says more and counts as full. Else prove '..UptoSaid'. A law counts once. -/
mutual
def uptoBulk {H : Type} : DataW H → Nat
  | .lit (.string bytes) => bytes.length + 1
  | .lit _ => 1
  | .nil => 1
  | .ptr d => uptoBulk d + 1
  | .slice elems spare => uptoBulkAll elems + uptoBulkAll spare + 1
  | .agg parts => uptoBulkAll parts + 1
  | .iface _ d => uptoBulk d + 1
  | .map entries => uptoBulkEntries entries + 1
  | .held _ => 1
def uptoBulkAll {H : Type} : List (DataW H) → Nat
  | [] => 0
  | d :: r => uptoBulk d + uptoBulkAll r
def uptoBulkEntries {H : Type} : List (Lit × DataW H) → Nat
  | [] => 0
  | x :: r => uptoBulkEntry x + uptoBulkEntries r
def uptoBulkEntry {H : Type} : Lit × DataW H → Nat
  | (.string bytes, d) => bytes.length + uptoBulk d + 1
  | (_, d) => uptoBulk d + 1
 end
def uptoSmall : (H : Type) → List (DataW H) → Bool := fun _ ds => decide (uptoBulkAll ds ≤ 1048576)
def OpenSpec.upto (s : _root_.Go.ChangeSpec) : _root_.Go.OpenSpec := { _root_.Go.OpenSpec.ofChange s with cond := some uptoSmall }

/-- 'spolaw12.PlanTells', WHERE WHAT IT READS IS OF BULK AT MOST 1048576: true; the input reads as it did. -/
def planTellsUptoRow : OpenClaim := { program := "ytpdclckgnajcdaa", sum := "5f1713f3be4223087995c4192e360a7aa9625d1c0dafa904d9bf48d286a7c852", func := "spolia/spolaw12.PlanTells", spec := "planTells", inPlace := ["math.Float64bits"], apart := false, narrowed := true }
def PlanTellsUptoSaid : Prop := planTellsUptoRow.holds Try.pinned (OpenSpec.upto planTellsSpec)

/-- 'spolaw12.PlanOnce', WHERE WHAT IT READS IS OF BULK AT MOST 1048576: true; the input reads as it did. -/
def planOnceUptoRow : OpenClaim := { program := "ytpdclckgnajcdaa", sum := "5f1713f3be4223087995c4192e360a7aa9625d1c0dafa904d9bf48d286a7c852", func := "spolia/spolaw12.PlanOnce", spec := "planOnce", apart := false, narrowed := true }
def PlanOnceUptoSaid : Prop := planOnceUptoRow.holds Try.pinned (OpenSpec.upto planOnceSpec)

/-- 'spolaw12.PlanModes', WHERE WHAT IT READS IS OF BULK AT MOST 1048576: true; the input reads as it did. -/
def planModesUptoRow : OpenClaim := { program := "ytpdclckgnajcdaa", sum := "5f1713f3be4223087995c4192e360a7aa9625d1c0dafa904d9bf48d286a7c852", func := "spolia/spolaw12.PlanModes", spec := "planModes", inPlace := ["math.Float64bits"], apart := false, narrowed := true }
def PlanModesUptoSaid : Prop := planModesUptoRow.holds Try.pinned (OpenSpec.upto planModesSpec)

/-- 'spolaw12.PlanLinks', WHERE WHAT IT READS IS OF BULK AT MOST 1048576: true; the input reads as it did. -/
def planLinksUptoRow : OpenClaim := { program := "ytpdclckgnajcdaa", sum := "5f1713f3be4223087995c4192e360a7aa9625d1c0dafa904d9bf48d286a7c852", func := "spolia/spolaw12.PlanLinks", spec := "planLinks", inPlace := ["math.Float64bits"], apart := false, narrowed := true }
def PlanLinksUptoSaid : Prop := planLinksUptoRow.holds Try.pinned (OpenSpec.upto planLinksSpec)

/-- 'spolaw13.FindEach', WHERE WHAT IT READS IS OF BULK AT MOST 1048576: true; the input reads as it did. -/
def findEachUptoRow : OpenClaim := { program := "ytpdclckgnajcdaa", sum := "5f1713f3be4223087995c4192e360a7aa9625d1c0dafa904d9bf48d286a7c852", func := "spolia/spolaw13.FindEach", spec := "findEach", inPlace := ["math.Float64bits"], apart := false, narrowed := true }
def FindEachUptoSaid : Prop := findEachUptoRow.holds Try.pinned (OpenSpec.upto findEachSpec)

/-- 'spolaw13.FindFar', WHERE WHAT IT READS IS OF BULK AT MOST 1048576: true; the input reads as it did. -/
def findFarUptoRow : OpenClaim := { program := "ytpdclckgnajcdaa", sum := "5f1713f3be4223087995c4192e360a7aa9625d1c0dafa904d9bf48d286a7c852", func := "spolia/spolaw13.FindFar", spec := "findFar", inPlace := ["math.Float64bits"], apart := false, narrowed := true }
def FindFarUptoSaid : Prop := findFarUptoRow.holds Try.pinned (OpenSpec.upto findFarSpec)

/-- 'spolaw13.FindKinds', WHERE WHAT IT READS IS OF BULK AT MOST 1048576: true; the input reads as it did. -/
def findKindsUptoRow : OpenClaim := { program := "ytpdclckgnajcdaa", sum := "5f1713f3be4223087995c4192e360a7aa9625d1c0dafa904d9bf48d286a7c852", func := "spolia/spolaw13.FindKinds", spec := "findKinds", inPlace := ["math.Float64bits"], apart := false, narrowed := true }
def FindKindsUptoSaid : Prop := findKindsUptoRow.holds Try.pinned (OpenSpec.upto findKindsSpec)

end Rows
end Go.Proofs.Ytpdclckgnajcdaa
