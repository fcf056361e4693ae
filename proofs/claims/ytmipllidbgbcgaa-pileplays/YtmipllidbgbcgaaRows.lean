/-
  No cell of these rows narrows 'for every input' (looked for: loops, veiled, ifaces, maps, wideKeys, modest, calm, conditions, laid).
  DERIVED. THE GIVEN ROWS OF THIS SEAT. 4 by the template 'for every input the law returns true; each argument reads behind the call as it read before'; 0 by the template 'total and deterministic' (their statements: YtmipllidbgbcgaaTotals.lean).
  GIVEN WITH THE SEED: the statements are not yours to turn. If you find one false, say at which input.
  Laid BY PROGRAM, IN A SANDBOX (cutbox-rows.mjs): the forced cells as the released guide's own fill.sh prints them over the translation 3e2607405c1627dc… (all of the seat's roots in one cut). By AI agents, Wed Nov 11 2026. No macro, syntax, notation, axiom, sorry.
-/
import Derived.Test.YtmipllidbgbcgaaChecked
import GoSem.Claim
import GoSem.ClaimJoined
import GoSem.ClaimMapViews
import Derived.JoinedTies
import Derived.KernelRfl
namespace Go.Proofs.Ytmipllidbgbcgaa
/- THE CELL 'sum', in the pinned program and in every row, IS THE sha256 OF THE DUMP (.gsa) THAT YtmipllidbgbcgaaProg.lean LOADS. Nothing in Lean hashes anything: it is a label: what it is worth is what the hold of that sum in a sandbox is worth. -/
noncomputable def Try.pinned : Pinned := { name := "ytmipllidbgbcgaa", sum := "3e2607405c1627dc60796369bc848256ec5e078a22800f45e55017ffb7087b92", checked := Try.checked }
namespace Rows
def none {H : Type} : Left H := { results := [], args := [] }

/-- 'spolaw14.PilePlays': WHATEVER THE INPUT: true; the input reads as it did. -/
def pilePlaysSpec : ChangeSpec := { name := "pilePlays", fn := fun _ => fun
  | [d1, d2] => { results := [.lit (.bool true)], args := [d1, d2] }
  | _ => none }
def pilePlaysRow : OpenClaim := { program := "ytmipllidbgbcgaa", sum := "3e2607405c1627dc60796369bc848256ec5e078a22800f45e55017ffb7087b92", func := "spolia/spolaw14.PilePlays", spec := "pilePlays", apart := false }
def PilePlaysSaid : Prop := pilePlaysRow.holds Try.pinned (OpenSpec.ofChange pilePlaysSpec)

/-- ITS FALSE NEIGHBOUR: 'it returns false'. Refute it at one input. -/
def pilePlaysWrong : ChangeSpec := { name := "pilePlays", fn := fun _ => fun
  | [d1, d2] => { results := [.lit (.bool false)], args := [d1, d2] }
  | _ => none }
def PilePlaysWrongFalsely : Prop := pilePlaysRow.holds Try.pinned (OpenSpec.ofChange pilePlaysWrong)

/-- 'spolaw14.PileLast': WHATEVER THE INPUT: true; the input reads as it did. -/
def pileLastSpec : ChangeSpec := { name := "pileLast", fn := fun _ => fun
  | [d1, d2] => { results := [.lit (.bool true)], args := [d1, d2] }
  | _ => none }
def pileLastRow : OpenClaim := { program := "ytmipllidbgbcgaa", sum := "3e2607405c1627dc60796369bc848256ec5e078a22800f45e55017ffb7087b92", func := "spolia/spolaw14.PileLast", spec := "pileLast", apart := false }
def PileLastSaid : Prop := pileLastRow.holds Try.pinned (OpenSpec.ofChange pileLastSpec)

/-- ITS FALSE NEIGHBOUR: 'it returns false'. Refute it at one input. -/
def pileLastWrong : ChangeSpec := { name := "pileLast", fn := fun _ => fun
  | [d1, d2] => { results := [.lit (.bool false)], args := [d1, d2] }
  | _ => none }
def PileLastWrongFalsely : Prop := pileLastRow.holds Try.pinned (OpenSpec.ofChange pileLastWrong)

/-- 'spolaw14.PileDeep': WHATEVER THE INPUT: true; the input reads as it did. -/
def pileDeepSpec : ChangeSpec := { name := "pileDeep", fn := fun _ => fun
  | [d1, d2] => { results := [.lit (.bool true)], args := [d1, d2] }
  | _ => none }
def pileDeepRow : OpenClaim := { program := "ytmipllidbgbcgaa", sum := "3e2607405c1627dc60796369bc848256ec5e078a22800f45e55017ffb7087b92", func := "spolia/spolaw14.PileDeep", spec := "pileDeep", apart := false }
def PileDeepSaid : Prop := pileDeepRow.holds Try.pinned (OpenSpec.ofChange pileDeepSpec)

/-- ITS FALSE NEIGHBOUR: 'it returns false'. Refute it at one input. -/
def pileDeepWrong : ChangeSpec := { name := "pileDeep", fn := fun _ => fun
  | [d1, d2] => { results := [.lit (.bool false)], args := [d1, d2] }
  | _ => none }
def PileDeepWrongFalsely : Prop := pileDeepRow.holds Try.pinned (OpenSpec.ofChange pileDeepWrong)

/-- 'spolaw14.PileOdd': WHATEVER THE INPUT: true; the input reads as it did. -/
def pileOddSpec : ChangeSpec := { name := "pileOdd", fn := fun _ => fun
  | [d] => { results := [.lit (.bool true)], args := [d] }
  | _ => none }
def pileOddRow : OpenClaim := { program := "ytmipllidbgbcgaa", sum := "3e2607405c1627dc60796369bc848256ec5e078a22800f45e55017ffb7087b92", func := "spolia/spolaw14.PileOdd", spec := "pileOdd", apart := false }
def PileOddSaid : Prop := pileOddRow.holds Try.pinned (OpenSpec.ofChange pileOddSpec)

/-- ITS FALSE NEIGHBOUR: 'it returns false'. Refute it at one input. -/
def pileOddWrong : ChangeSpec := { name := "pileOdd", fn := fun _ => fun
  | [d] => { results := [.lit (.bool false)], args := [d] }
  | _ => none }
def PileOddWrongFalsely : Prop := pileOddRow.holds Try.pinned (OpenSpec.ofChange pileOddWrong)

/- THE SECOND FORM. 'bulk': how many values and letters a reading holds, each counted each time it is reached (what is shared counts as often as it is met; a slice's spare places count too). A statement '..UptoSaid' is the law's where the arguments, and the package variables that the reading takes, are together of bulk at most 1048576: NARROWER than '..Said'. Prove '..Said' where nothing that the law and all that it calls make is longer than what came in: it says more and counts as full. Else prove '..UptoSaid'. A law counts once. -/
mutual
def uptoBulk {H : Type} : DataW H → Nat
  | .lit (.string bytes) => bytes.length + 1
  | .lit _ => 1
  | .nil => 1
  | .ptr d => uptoBulk d + 1
  | .slice elems spare => uptoBulkAll elems + uptoBulkAll spare + 1
  | .agg parts => uptoBulkAll parts + 1
  | .iface _ d => uptoBulk d + 1
  | .map entries => uptoBulkEntries entries + 1
  | .held _ => 1
def uptoBulkAll {H : Type} : List (DataW H) → Nat
  | [] => 0
  | d :: r => uptoBulk d + uptoBulkAll r
def uptoBulkEntries {H : Type} : List (Lit × DataW H) → Nat
  | [] => 0
  | x :: r => uptoBulkEntry x + uptoBulkEntries r
def uptoBulkEntry {H : Type} : Lit × DataW H → Nat
  | (.string bytes, d) => bytes.length + uptoBulk d + 1
  | (_, d) => uptoBulk d + 1
 end
def uptoSmall : (H : Type) → List (DataW H) → Bool := fun _ ds => decide (uptoBulkAll ds ≤ 1048576)
def OpenSpec.upto (s : _root_.Go.ChangeSpec) : _root_.Go.OpenSpec := { _root_.Go.OpenSpec.ofChange s with cond := some uptoSmall }

/-- 'spolaw14.PilePlays', WHERE WHAT IT READS IS OF BULK AT MOST 1048576: true; the input reads as it did. -/
def pilePlaysUptoRow : OpenClaim := { program := "ytmipllidbgbcgaa", sum := "3e2607405c1627dc60796369bc848256ec5e078a22800f45e55017ffb7087b92", func := "spolia/spolaw14.PilePlays", spec := "pilePlays", apart := false, narrowed := true }
def PilePlaysUptoSaid : Prop := pilePlaysUptoRow.holds Try.pinned (OpenSpec.upto pilePlaysSpec)

/-- 'spolaw14.PileLast', WHERE WHAT IT READS IS OF BULK AT MOST 1048576: true; the input reads as it did. -/
def pileLastUptoRow : OpenClaim := { program := "ytmipllidbgbcgaa", sum := "3e2607405c1627dc60796369bc848256ec5e078a22800f45e55017ffb7087b92", func := "spolia/spolaw14.PileLast", spec := "pileLast", apart := false, narrowed := true }
def PileLastUptoSaid : Prop := pileLastUptoRow.holds Try.pinned (OpenSpec.upto pileLastSpec)

/-- 'spolaw14.PileDeep', WHERE WHAT IT READS IS OF BULK AT MOST 1048576: true; the input reads as it did. -/
def pileDeepUptoRow : OpenClaim := { program := "ytmipllidbgbcgaa", sum := "3e2607405c1627dc60796369bc848256ec5e078a22800f45e55017ffb7087b92", func := "spolia/spolaw14.PileDeep", spec := "pileDeep", apart := false, narrowed := true }
def PileDeepUptoSaid : Prop := pileDeepUptoRow.holds Try.pinned (OpenSpec.upto pileDeepSpec)

/-- 'spolaw14.PileOdd', WHERE WHAT IT READS IS OF BULK AT MOST 1048576: true; the input reads as it did. -/
def pileOddUptoRow : OpenClaim := { program := "ytmipllidbgbcgaa", sum := "3e2607405c1627dc60796369bc848256ec5e078a22800f45e55017ffb7087b92", func := "spolia/spolaw14.PileOdd", spec := "pileOdd", apart := false, narrowed := true }
def PileOddUptoSaid : Prop := pileOddUptoRow.holds Try.pinned (OpenSpec.upto pileOddSpec)

end Rows
end Go.Proofs.Ytmipllidbgbcgaa
