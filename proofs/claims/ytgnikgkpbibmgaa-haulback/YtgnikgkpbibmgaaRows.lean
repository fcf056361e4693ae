/-
  No cell of these rows narrows 'for every input' (looked for: loops, veiled, ifaces, maps, wideKeys, modest, calm, conditions, laid).
  DERIVED. THE GIVEN ROWS OF THIS SEAT. 3 by the template 'for every input the law returns true; each argument reads behind the call as it read before'; 0 by the template 'total and deterministic' (their statements: YtgnikgkpbibmgaaTotals.lean).
  GIVEN WITH THE SEED: the statements are not yours to turn. If you find one false, say at which input.
  Laid BY PROGRAM, IN A SANDBOX (cutbox-rows.mjs): the forced cells as the released guide's own fill.sh prints them over the translation 42d424096b44da37… (all of the seat's roots in one cut). By AI agents, Wed Nov 11 2026. No macro, syntax, notation, axiom, sorry.
-/
import Derived.Test.YtgnikgkpbibmgaaChecked
import GoSem.Claim
import GoSem.ClaimJoined
import GoSem.ClaimMapViews
import Derived.JoinedTies
import Derived.KernelRfl
namespace Go.Proofs.Ytgnikgkpbibmgaa
/- THE CELL 'sum', in the pinned program and in every row, IS THE sha256 OF THE DUMP (.gsa) THAT YtgnikgkpbibmgaaProg.lean LOADS. Nothing in Lean hashes anything: it is a label: what it is worth is what the hold of that sum in a sandbox is worth. -/
noncomputable def Try.pinned : Pinned := { name := "ytgnikgkpbibmgaa", sum := "42d424096b44da379746dbe9455b0ce6a37387b41799f3d6707540ac600f0f1c", checked := Try.checked }
namespace Rows
def none {H : Type} : Left H := { results := [], args := [] }

/-- 'spolaw17.HaulSame': WHATEVER THE INPUT: true; the input reads as it did. -/
def haulSameSpec : ChangeSpec := { name := "haulSame", fn := fun _ => fun
  | [d1, d2, d3] => { results := [.lit (.bool true)], args := [d1, d2, d3] }
  | _ => none }
def haulSameRow : OpenClaim := { program := "ytgnikgkpbibmgaa", sum := "42d424096b44da379746dbe9455b0ce6a37387b41799f3d6707540ac600f0f1c", func := "spolia/spolaw17.HaulSame", spec := "haulSame", inPlace := ["math.Float64bits"], apart := false }
def HaulSameSaid : Prop := haulSameRow.holds Try.pinned (OpenSpec.ofChange haulSameSpec)

/-- ITS FALSE NEIGHBOUR: 'it returns false'. Refute it at one input. -/
def haulSameWrong : ChangeSpec := { name := "haulSame", fn := fun _ => fun
  | [d1, d2, d3] => { results := [.lit (.bool false)], args := [d1, d2, d3] }
  | _ => none }
def HaulSameWrongFalsely : Prop := haulSameRow.holds Try.pinned (OpenSpec.ofChange haulSameWrong)

/-- 'spolaw17.HaulSteps': WHATEVER THE INPUT: true; the input reads as it did. -/
def haulStepsSpec : ChangeSpec := { name := "haulSteps", fn := fun _ => fun
  | [d1, d2, d3] => { results := [.lit (.bool true)], args := [d1, d2, d3] }
  | _ => none }
def haulStepsRow : OpenClaim := { program := "ytgnikgkpbibmgaa", sum := "42d424096b44da379746dbe9455b0ce6a37387b41799f3d6707540ac600f0f1c", func := "spolia/spolaw17.HaulSteps", spec := "haulSteps", inPlace := ["math.Float64bits"], apart := false }
def HaulStepsSaid : Prop := haulStepsRow.holds Try.pinned (OpenSpec.ofChange haulStepsSpec)

/-- ITS FALSE NEIGHBOUR: 'it returns false'. Refute it at one input. -/
def haulStepsWrong : ChangeSpec := { name := "haulSteps", fn := fun _ => fun
  | [d1, d2, d3] => { results := [.lit (.bool false)], args := [d1, d2, d3] }
  | _ => none }
def HaulStepsWrongFalsely : Prop := haulStepsRow.holds Try.pinned (OpenSpec.ofChange haulStepsWrong)

/-- 'spolaw17.HaulBack': WHATEVER THE INPUT: true; the input reads as it did. -/
def haulBackSpec : ChangeSpec := { name := "haulBack", fn := fun _ => fun
  | [d] => { results := [.lit (.bool true)], args := [d] }
  | _ => none }
def haulBackRow : OpenClaim := { program := "ytgnikgkpbibmgaa", sum := "42d424096b44da379746dbe9455b0ce6a37387b41799f3d6707540ac600f0f1c", func := "spolia/spolaw17.HaulBack", spec := "haulBack", inPlace := ["math.Float64bits"], apart := false }
def HaulBackSaid : Prop := haulBackRow.holds Try.pinned (OpenSpec.ofChange haulBackSpec)

/-- ITS FALSE NEIGHBOUR: 'it returns false'. Refute it at one input. -/
def haulBackWrong : ChangeSpec := { name := "haulBack", fn := fun _ => fun
  | [d] => { results := [.lit (.bool false)], args := [d] }
  | _ => none }
def HaulBackWrongFalsely : Prop := haulBackRow.holds Try.pinned (OpenSpec.ofChange haulBackWrong)

/- THE SECOND FORM. 'bulk': how many values and letters a reading holds, each counted each time it is reached (what is shared counts as often as it is met; a slice's spare places count too). A statement '..UptoSaid' is the law's where the arguments, and the package variables that the reading takes, are together of bulk at most 1048576: NARROWER than '..Said'. Prove '..Said' where nothing that the law and all that it calls make is longer than what came in: it says more and counts as full. Else prove '..UptoSaid'. A law counts once. -/
mutual
def uptoBulk {H : Type} : DataW H → Nat
  | .lit (.string bytes) => bytes.length + 1
  | .lit _ => 1
  | .nil => 1
  | .ptr d => uptoBulk d + 1
  | .slice elems spare => uptoBulkAll elems + uptoBulkAll spare + 1
  | .agg parts => uptoBulkAll parts + 1
  | .iface _ d => uptoBulk d + 1
  | .map entries => uptoBulkEntries entries + 1
  | .held _ => 1
def uptoBulkAll {H : Type} : List (DataW H) → Nat
  | [] => 0
  | d :: r => uptoBulk d + uptoBulkAll r
def uptoBulkEntries {H : Type} : List (Lit × DataW H) → Nat
  | [] => 0
  | x :: r => uptoBulkEntry x + uptoBulkEntries r
def uptoBulkEntry {H : Type} : Lit × DataW H → Nat
  | (.string bytes, d) => bytes.length + uptoBulk d + 1
  | (_, d) => uptoBulk d + 1
 end
def uptoSmall : (H : Type) → List (DataW H) → Bool := fun _ ds => decide (uptoBulkAll ds ≤ 1048576)
def OpenSpec.upto (s : _root_.Go.ChangeSpec) : _root_.Go.OpenSpec := { _root_.Go.OpenSpec.ofChange s with cond := some uptoSmall }

/-- 'spolaw17.HaulSame', WHERE WHAT IT READS IS OF BULK AT MOST 1048576: true; the input reads as it did. -/
def haulSameUptoRow : OpenClaim := { program := "ytgnikgkpbibmgaa", sum := "42d424096b44da379746dbe9455b0ce6a37387b41799f3d6707540ac600f0f1c", func := "spolia/spolaw17.HaulSame", spec := "haulSame", inPlace := ["math.Float64bits"], apart := false, narrowed := true }
def HaulSameUptoSaid : Prop := haulSameUptoRow.holds Try.pinned (OpenSpec.upto haulSameSpec)

/-- 'spolaw17.HaulSteps', WHERE WHAT IT READS IS OF BULK AT MOST 1048576: true; the input reads as it did. -/
def haulStepsUptoRow : OpenClaim := { program := "ytgnikgkpbibmgaa", sum := "42d424096b44da379746dbe9455b0ce6a37387b41799f3d6707540ac600f0f1c", func := "spolia/spolaw17.HaulSteps", spec := "haulSteps", inPlace := ["math.Float64bits"], apart := false, narrowed := true }
def HaulStepsUptoSaid : Prop := haulStepsUptoRow.holds Try.pinned (OpenSpec.upto haulStepsSpec)

/-- 'spolaw17.HaulBack', WHERE WHAT IT READS IS OF BULK AT MOST 1048576: true; the input reads as it did. -/
def haulBackUptoRow : OpenClaim := { program := "ytgnikgkpbibmgaa", sum := "42d424096b44da379746dbe9455b0ce6a37387b41799f3d6707540ac600f0f1c", func := "spolia/spolaw17.HaulBack", spec := "haulBack", inPlace := ["math.Float64bits"], apart := false, narrowed := true }
def HaulBackUptoSaid : Prop := haulBackUptoRow.holds Try.pinned (OpenSpec.upto haulBackSpec)

end Rows
end Go.Proofs.Ytgnikgkpbibmgaa
