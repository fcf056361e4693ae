/-
  No cell of these rows narrows 'for every input' (looked for: loops, veiled, ifaces, maps, wideKeys, modest, calm, conditions, laid).
  DERIVED. THE GIVEN ROWS OF THIS SEAT. 5 by the template 'for every input the law returns true; each argument reads behind the call as it read before'; 0 by the template 'total and deterministic' (their statements: YtbipkhcgnimgkaaTotals.lean).
  GIVEN WITH THE SEED: the statements are not yours to turn. If you find one false, say at which input.
  Laid BY PROGRAM, IN A SANDBOX (cutbox-rows.mjs): the forced cells as the released guide's own fill.sh prints them over the translation 4dee8474847b066c… (all of the seat's roots in one cut). By AI agents, Wed Nov 11 2026. No macro, syntax, notation, axiom, sorry.
-/
import Derived.Test.YtbipkhcgnimgkaaChecked
import GoSem.Claim
import GoSem.ClaimJoined
import GoSem.ClaimMapViews
import Derived.JoinedTies
import Derived.KernelRfl
namespace Go.Proofs.Ytbipkhcgnimgkaa
/- THE CELL 'sum', in the pinned program and in every row, IS THE sha256 OF THE DUMP (.gsa) THAT YtbipkhcgnimgkaaProg.lean LOADS. Nothing in Lean hashes anything: it is a label: what it is worth is what the hold of that sum in a sandbox is worth. -/
noncomputable def Try.pinned : Pinned := { name := "ytbipkhcgnimgkaa", sum := "4dee8474847b066c9a1cf83b14a4a08ee53d30adcca4490d6b0508797e5e685a", checked := Try.checked }
namespace Rows
def none {H : Type} : Left H := { results := [], args := [] }

/-- 'spolaw7.TintPlays': WHATEVER THE INPUT: true; the input reads as it did. -/
def tintPlaysSpec : ChangeSpec := { name := "tintPlays", fn := fun _ => fun
  | [d1, d2] => { results := [.lit (.bool true)], args := [d1, d2] }
  | _ => none }
def tintPlaysRow : OpenClaim := { program := "ytbipkhcgnimgkaa", sum := "4dee8474847b066c9a1cf83b14a4a08ee53d30adcca4490d6b0508797e5e685a", func := "spolia/spolaw7.TintPlays", spec := "tintPlays", apart := false }
def TintPlaysSaid : Prop := tintPlaysRow.holds Try.pinned (OpenSpec.ofChange tintPlaysSpec)

/-- ITS FALSE NEIGHBOUR: 'it returns false'. Refute it at one input. -/
def tintPlaysWrong : ChangeSpec := { name := "tintPlays", fn := fun _ => fun
  | [d1, d2] => { results := [.lit (.bool false)], args := [d1, d2] }
  | _ => none }
def TintPlaysWrongFalsely : Prop := tintPlaysRow.holds Try.pinned (OpenSpec.ofChange tintPlaysWrong)

/-- 'spolaw7.TintSums': WHATEVER THE INPUT: true; the input reads as it did. -/
def tintSumsSpec : ChangeSpec := { name := "tintSums", fn := fun _ => fun
  | [d1, d2] => { results := [.lit (.bool true)], args := [d1, d2] }
  | _ => none }
def tintSumsRow : OpenClaim := { program := "ytbipkhcgnimgkaa", sum := "4dee8474847b066c9a1cf83b14a4a08ee53d30adcca4490d6b0508797e5e685a", func := "spolia/spolaw7.TintSums", spec := "tintSums", apart := false }
def TintSumsSaid : Prop := tintSumsRow.holds Try.pinned (OpenSpec.ofChange tintSumsSpec)

/-- ITS FALSE NEIGHBOUR: 'it returns false'. Refute it at one input. -/
def tintSumsWrong : ChangeSpec := { name := "tintSums", fn := fun _ => fun
  | [d1, d2] => { results := [.lit (.bool false)], args := [d1, d2] }
  | _ => none }
def TintSumsWrongFalsely : Prop := tintSumsRow.holds Try.pinned (OpenSpec.ofChange tintSumsWrong)

/-- 'spolaw7.TintFlips': WHATEVER THE INPUT: true; the input reads as it did. -/
def tintFlipsSpec : ChangeSpec := { name := "tintFlips", fn := fun _ => fun
  | [d1, d2] => { results := [.lit (.bool true)], args := [d1, d2] }
  | _ => none }
def tintFlipsRow : OpenClaim := { program := "ytbipkhcgnimgkaa", sum := "4dee8474847b066c9a1cf83b14a4a08ee53d30adcca4490d6b0508797e5e685a", func := "spolia/spolaw7.TintFlips", spec := "tintFlips", apart := false }
def TintFlipsSaid : Prop := tintFlipsRow.holds Try.pinned (OpenSpec.ofChange tintFlipsSpec)

/-- ITS FALSE NEIGHBOUR: 'it returns false'. Refute it at one input. -/
def tintFlipsWrong : ChangeSpec := { name := "tintFlips", fn := fun _ => fun
  | [d1, d2] => { results := [.lit (.bool false)], args := [d1, d2] }
  | _ => none }
def TintFlipsWrongFalsely : Prop := tintFlipsRow.holds Try.pinned (OpenSpec.ofChange tintFlipsWrong)

/-- 'spolaw7.TintBorn': WHATEVER THE INPUT: true; the input reads as it did. -/
def tintBornSpec : ChangeSpec := { name := "tintBorn", fn := fun _ => fun
  | [d1, d2, d3, d4] => { results := [.lit (.bool true)], args := [d1, d2, d3, d4] }
  | _ => none }
def tintBornRow : OpenClaim := { program := "ytbipkhcgnimgkaa", sum := "4dee8474847b066c9a1cf83b14a4a08ee53d30adcca4490d6b0508797e5e685a", func := "spolia/spolaw7.TintBorn", spec := "tintBorn", apart := false }
def TintBornSaid : Prop := tintBornRow.holds Try.pinned (OpenSpec.ofChange tintBornSpec)

/-- ITS FALSE NEIGHBOUR: 'it returns false'. Refute it at one input. -/
def tintBornWrong : ChangeSpec := { name := "tintBorn", fn := fun _ => fun
  | [d1, d2, d3, d4] => { results := [.lit (.bool false)], args := [d1, d2, d3, d4] }
  | _ => none }
def TintBornWrongFalsely : Prop := tintBornRow.holds Try.pinned (OpenSpec.ofChange tintBornWrong)

/-- 'spolaw7.TintSets': WHATEVER THE INPUT: true; the input reads as it did. -/
def tintSetsSpec : ChangeSpec := { name := "tintSets", fn := fun _ => fun
  | [d1, d2, d3, d4, d5] => { results := [.lit (.bool true)], args := [d1, d2, d3, d4, d5] }
  | _ => none }
def tintSetsRow : OpenClaim := { program := "ytbipkhcgnimgkaa", sum := "4dee8474847b066c9a1cf83b14a4a08ee53d30adcca4490d6b0508797e5e685a", func := "spolia/spolaw7.TintSets", spec := "tintSets", apart := false }
def TintSetsSaid : Prop := tintSetsRow.holds Try.pinned (OpenSpec.ofChange tintSetsSpec)

/-- ITS FALSE NEIGHBOUR: 'it returns false'. Refute it at one input. -/
def tintSetsWrong : ChangeSpec := { name := "tintSets", fn := fun _ => fun
  | [d1, d2, d3, d4, d5] => { results := [.lit (.bool false)], args := [d1, d2, d3, d4, d5] }
  | _ => none }
def TintSetsWrongFalsely : Prop := tintSetsRow.holds Try.pinned (OpenSpec.ofChange tintSetsWrong)

/- THE SECOND FORM. 'bulk': how many values and letters a reading holds, each counted each time it is reached (what is shared counts as often as it is met; a slice's spare places count too). A statement '..UptoSaid' is the law's where the arguments, and the package variables that the reading takes, are together of bulk at most 1048576: NARROWER than '..Said'. Prove '..Said' where nothing that the law and all that it calls make is longer than what came in: it says more and counts as full. Else prove '..UptoSaid'. A law counts once. -/
mutual
def uptoBulk {H : Type} : DataW H → Nat
  | .lit (.string bytes) => bytes.length + 1
  | .lit _ => 1
  | .nil => 1
  | .ptr d => uptoBulk d + 1
  | .slice elems spare => uptoBulkAll elems + uptoBulkAll spare + 1
  | .agg parts => uptoBulkAll parts + 1
  | .iface _ d => uptoBulk d + 1
  | .map entries => uptoBulkEntries entries + 1
  | .held _ => 1
def uptoBulkAll {H : Type} : List (DataW H) → Nat
  | [] => 0
  | d :: r => uptoBulk d + uptoBulkAll r
def uptoBulkEntries {H : Type} : List (Lit × DataW H) → Nat
  | [] => 0
  | x :: r => uptoBulkEntry x + uptoBulkEntries r
def uptoBulkEntry {H : Type} : Lit × DataW H → Nat
  | (.string bytes, d) => bytes.length + uptoBulk d + 1
  | (_, d) => uptoBulk d + 1
 end
def uptoSmall : (H : Type) → List (DataW H) → Bool := fun _ ds => decide (uptoBulkAll ds ≤ 1048576)
def OpenSpec.upto (s : _root_.Go.ChangeSpec) : _root_.Go.OpenSpec := { _root_.Go.OpenSpec.ofChange s with cond := some uptoSmall }

/-- 'spolaw7.TintPlays', WHERE WHAT IT READS IS OF BULK AT MOST 1048576: true; the input reads as it did. -/
def tintPlaysUptoRow : OpenClaim := { program := "ytbipkhcgnimgkaa", sum := "4dee8474847b066c9a1cf83b14a4a08ee53d30adcca4490d6b0508797e5e685a", func := "spolia/spolaw7.TintPlays", spec := "tintPlays", apart := false, narrowed := true }
def TintPlaysUptoSaid : Prop := tintPlaysUptoRow.holds Try.pinned (OpenSpec.upto tintPlaysSpec)

/-- 'spolaw7.TintSums', WHERE WHAT IT READS IS OF BULK AT MOST 1048576: true; the input reads as it did. -/
def tintSumsUptoRow : OpenClaim := { program := "ytbipkhcgnimgkaa", sum := "4dee8474847b066c9a1cf83b14a4a08ee53d30adcca4490d6b0508797e5e685a", func := "spolia/spolaw7.TintSums", spec := "tintSums", apart := false, narrowed := true }
def TintSumsUptoSaid : Prop := tintSumsUptoRow.holds Try.pinned (OpenSpec.upto tintSumsSpec)

/-- 'spolaw7.TintFlips', WHERE WHAT IT READS IS OF BULK AT MOST 1048576: true; the input reads as it did. -/
def tintFlipsUptoRow : OpenClaim := { program := "ytbipkhcgnimgkaa", sum := "4dee8474847b066c9a1cf83b14a4a08ee53d30adcca4490d6b0508797e5e685a", func := "spolia/spolaw7.TintFlips", spec := "tintFlips", apart := false, narrowed := true }
def TintFlipsUptoSaid : Prop := tintFlipsUptoRow.holds Try.pinned (OpenSpec.upto tintFlipsSpec)

/-- 'spolaw7.TintBorn', WHERE WHAT IT READS IS OF BULK AT MOST 1048576: true; the input reads as it did. -/
def tintBornUptoRow : OpenClaim := { program := "ytbipkhcgnimgkaa", sum := "4dee8474847b066c9a1cf83b14a4a08ee53d30adcca4490d6b0508797e5e685a", func := "spolia/spolaw7.TintBorn", spec := "tintBorn", apart := false, narrowed := true }
def TintBornUptoSaid : Prop := tintBornUptoRow.holds Try.pinned (OpenSpec.upto tintBornSpec)

/-- 'spolaw7.TintSets', WHERE WHAT IT READS IS OF BULK AT MOST 1048576: true; the input reads as it did. -/
def tintSetsUptoRow : OpenClaim := { program := "ytbipkhcgnimgkaa", sum := "4dee8474847b066c9a1cf83b14a4a08ee53d30adcca4490d6b0508797e5e685a", func := "spolia/spolaw7.TintSets", spec := "tintSets", apart := false, narrowed := true }
def TintSetsUptoSaid : Prop := tintSetsUptoRow.holds Try.pinned (OpenSpec.upto tintSetsSpec)

end Rows
end Go.Proofs.Ytbipkhcgnimgkaa
