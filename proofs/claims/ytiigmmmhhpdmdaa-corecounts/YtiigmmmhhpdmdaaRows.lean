/-
  No cell of these rows narrows 'for every input' (looked for: loops, veiled, ifaces, maps, wideKeys, modest, calm, conditions, laid).
  DERIVED. THE GIVEN ROWS OF THIS SEAT. 3 by the template 'for every input the law returns true; each argument reads behind the call as it read before'; 0 by the template 'total and deterministic' (their statements: YtiigmmmhhpdmdaaTotals.lean).
  GIVEN WITH THE SEED: the statements are not yours to turn. If you find one false, say at which input.
  Laid BY PROGRAM, IN A SANDBOX (cutbox-rows.mjs): the forced cells as the released guide's own fill.sh prints them over the translation b7d47c8dbb0c99d5… (all of the seat's roots in one cut). By AI agents, Wed Nov 11 2026. No macro, syntax, notation, axiom, sorry.
-/
import Derived.Test.YtiigmmmhhpdmdaaChecked
import GoSem.Claim
import GoSem.ClaimJoined
import GoSem.ClaimMapViews
import Derived.JoinedTies
import Derived.KernelRfl
namespace Go.Proofs.Ytiigmmmhhpdmdaa
/- THE CELL 'sum', in the pinned program and in every row, IS THE sha256 OF THE DUMP (.gsa) THAT YtiigmmmhhpdmdaaProg.lean LOADS. Nothing in Lean hashes anything: it is a label: what it is worth is what the hold of that sum in a sandbox is worth. -/
noncomputable def Try.pinned : Pinned := { name := "ytiigmmmhhpdmdaa", sum := "b7d47c8dbb0c99d5e388304d9157e829baef33f535adc8376148ca8048eedc51", checked := Try.checked }
namespace Rows
def none {H : Type} : Left H := { results := [], args := [] }

/-- 'spolaw22.CoreMade': WHATEVER THE INPUT: true; the input reads as it did. -/
def coreMadeSpec : ChangeSpec := { name := "coreMade", fn := fun _ => fun
  | [d] => { results := [.lit (.bool true)], args := [d] }
  | _ => none }
def coreMadeRow : OpenClaim := { program := "ytiigmmmhhpdmdaa", sum := "b7d47c8dbb0c99d5e388304d9157e829baef33f535adc8376148ca8048eedc51", func := "spolia/spolaw22.CoreMade", spec := "coreMade", inPlace := ["math.Float64bits"], apart := false }
def CoreMadeSaid : Prop := coreMadeRow.holds Try.pinned (OpenSpec.ofChange coreMadeSpec)

/-- ITS FALSE NEIGHBOUR: 'it returns false'. Refute it at one input. -/
def coreMadeWrong : ChangeSpec := { name := "coreMade", fn := fun _ => fun
  | [d] => { results := [.lit (.bool false)], args := [d] }
  | _ => none }
def CoreMadeWrongFalsely : Prop := coreMadeRow.holds Try.pinned (OpenSpec.ofChange coreMadeWrong)

/-- 'spolaw22.CoreCounts': WHATEVER THE INPUT: true; the input reads as it did. -/
def coreCountsSpec : ChangeSpec := { name := "coreCounts", fn := fun _ => fun
  | [d1, d2] => { results := [.lit (.bool true)], args := [d1, d2] }
  | _ => none }
def coreCountsRow : OpenClaim := { program := "ytiigmmmhhpdmdaa", sum := "b7d47c8dbb0c99d5e388304d9157e829baef33f535adc8376148ca8048eedc51", func := "spolia/spolaw22.CoreCounts", spec := "coreCounts", unfollowed := true, recurses := true, apart := false }
def CoreCountsSaid : Prop := coreCountsRow.holds Try.pinned (OpenSpec.ofChange coreCountsSpec)

/-- ITS FALSE NEIGHBOUR: 'it returns false'. Refute it at one input. -/
def coreCountsWrong : ChangeSpec := { name := "coreCounts", fn := fun _ => fun
  | [d1, d2] => { results := [.lit (.bool false)], args := [d1, d2] }
  | _ => none }
def CoreCountsWrongFalsely : Prop := coreCountsRow.holds Try.pinned (OpenSpec.ofChange coreCountsWrong)

/-- 'spolaw22.CoreGlobals': WHATEVER THE INPUT: true; the input reads as it did. -/
def coreGlobalsSpec : ChangeSpec := { name := "coreGlobals", fn := fun _ => fun
  | [d] => { results := [.lit (.bool true)], args := [d] }
  | _ => none }
def coreGlobalsRow : OpenClaim := { program := "ytiigmmmhhpdmdaa", sum := "b7d47c8dbb0c99d5e388304d9157e829baef33f535adc8376148ca8048eedc51", func := "spolia/spolaw22.CoreGlobals", spec := "coreGlobals", inPlace := ["math.Float64bits"], apart := false }
def CoreGlobalsSaid : Prop := coreGlobalsRow.holds Try.pinned (OpenSpec.ofChange coreGlobalsSpec)

/-- ITS FALSE NEIGHBOUR: 'it returns false'. Refute it at one input. -/
def coreGlobalsWrong : ChangeSpec := { name := "coreGlobals", fn := fun _ => fun
  | [d] => { results := [.lit (.bool false)], args := [d] }
  | _ => none }
def CoreGlobalsWrongFalsely : Prop := coreGlobalsRow.holds Try.pinned (OpenSpec.ofChange coreGlobalsWrong)

/- THE SECOND FORM. 'bulk': how many values and letters a reading holds, each counted each time it is reached (what is shared counts as often as it is met; a slice's spare places count too). A statement '..UptoSaid' is the law's where the arguments, and the package variables that the reading takes, are together of bulk at most 1048576: NARROWER than '..Said'. Prove '..Said' where nothing that the law and all that it calls make is longer than what came in: it says more and counts as full. Else prove '..UptoSaid'. A law counts once. -/
mutual
def uptoBulk {H : Type} : DataW H → Nat
  | .lit (.string bytes) => bytes.length + 1
  | .lit _ => 1
  | .nil => 1
  | .ptr d => uptoBulk d + 1
  | .slice elems spare => uptoBulkAll elems + uptoBulkAll spare + 1
  | .agg parts => uptoBulkAll parts + 1
  | .iface _ d => uptoBulk d + 1
  | .map entries => uptoBulkEntries entries + 1
  | .held _ => 1
def uptoBulkAll {H : Type} : List (DataW H) → Nat
  | [] => 0
  | d :: r => uptoBulk d + uptoBulkAll r
def uptoBulkEntries {H : Type} : List (Lit × DataW H) → Nat
  | [] => 0
  | x :: r => uptoBulkEntry x + uptoBulkEntries r
def uptoBulkEntry {H : Type} : Lit × DataW H → Nat
  | (.string bytes, d) => bytes.length + uptoBulk d + 1
  | (_, d) => uptoBulk d + 1
 end
def uptoSmall : (H : Type) → List (DataW H) → Bool := fun _ ds => decide (uptoBulkAll ds ≤ 1048576)
def OpenSpec.upto (s : _root_.Go.ChangeSpec) : _root_.Go.OpenSpec := { _root_.Go.OpenSpec.ofChange s with cond := some uptoSmall }

/-- 'spolaw22.CoreMade', WHERE WHAT IT READS IS OF BULK AT MOST 1048576: true; the input reads as it did. -/
def coreMadeUptoRow : OpenClaim := { program := "ytiigmmmhhpdmdaa", sum := "b7d47c8dbb0c99d5e388304d9157e829baef33f535adc8376148ca8048eedc51", func := "spolia/spolaw22.CoreMade", spec := "coreMade", inPlace := ["math.Float64bits"], apart := false, narrowed := true }
def CoreMadeUptoSaid : Prop := coreMadeUptoRow.holds Try.pinned (OpenSpec.upto coreMadeSpec)

/-- 'spolaw22.CoreCounts', WHERE WHAT IT READS IS OF BULK AT MOST 1048576: true; the input reads as it did. -/
def coreCountsUptoRow : OpenClaim := { program := "ytiigmmmhhpdmdaa", sum := "b7d47c8dbb0c99d5e388304d9157e829baef33f535adc8376148ca8048eedc51", func := "spolia/spolaw22.CoreCounts", spec := "coreCounts", unfollowed := true, recurses := true, apart := false, narrowed := true }
def CoreCountsUptoSaid : Prop := coreCountsUptoRow.holds Try.pinned (OpenSpec.upto coreCountsSpec)

/-- 'spolaw22.CoreGlobals', WHERE WHAT IT READS IS OF BULK AT MOST 1048576: true; the input reads as it did. -/
def coreGlobalsUptoRow : OpenClaim := { program := "ytiigmmmhhpdmdaa", sum := "b7d47c8dbb0c99d5e388304d9157e829baef33f535adc8376148ca8048eedc51", func := "spolia/spolaw22.CoreGlobals", spec := "coreGlobals", inPlace := ["math.Float64bits"], apart := false, narrowed := true }
def CoreGlobalsUptoSaid : Prop := coreGlobalsUptoRow.holds Try.pinned (OpenSpec.upto coreGlobalsSpec)

end Rows
end Go.Proofs.Ytiigmmmhhpdmdaa
