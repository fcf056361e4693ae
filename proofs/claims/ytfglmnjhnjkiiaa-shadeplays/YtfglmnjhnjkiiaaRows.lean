/-
  No cell of these rows narrows 'for every input' (looked for: loops, veiled, ifaces, maps, wideKeys, modest, calm, conditions, laid).
  DERIVED. THE GIVEN ROWS OF THIS SEAT. 4 by the template 'for every input the law returns true; each argument reads behind the call as it read before'; 0 by the template 'total and deterministic' (their statements: YtfglmnjhnjkiiaaTotals.lean).
  GIVEN WITH THE SEED: the statements are not yours to turn. If you find one false, say at which input.
  Laid BY PROGRAM, IN A SANDBOX (cutbox-rows.mjs): the forced cells as the released guide's own fill.sh prints them over the translation 84c13f2ee2b3298b… (all of the seat's roots in one cut). By AI agents, Wed Nov 11 2026. No macro, syntax, notation, axiom, sorry.
-/
import Derived.Test.YtfglmnjhnjkiiaaChecked
import GoSem.Claim
import GoSem.ClaimJoined
import GoSem.ClaimMapViews
import Derived.JoinedTies
import Derived.KernelRfl
namespace Go.Proofs.Ytfglmnjhnjkiiaa
/- THE CELL 'sum', in the pinned program and in every row, IS THE sha256 OF THE DUMP (.gsa) THAT YtfglmnjhnjkiiaaProg.lean LOADS. Nothing in Lean hashes anything: it is a label: what it is worth is what the hold of that sum in a sandbox is worth. -/
noncomputable def Try.pinned : Pinned := { name := "ytfglmnjhnjkiiaa", sum := "84c13f2ee2b3298b1bcde3cd0bec4b041ed1a2d7734ae334df2ac00b03c2a955", checked := Try.checked }
namespace Rows
def none {H : Type} : Left H := { results := [], args := [] }

/-- 'spolaw15.ShadePlays': WHATEVER THE INPUT: true; the input reads as it did. -/
def shadePlaysSpec : ChangeSpec := { name := "shadePlays", fn := fun _ => fun
  | [d1, d2, d3] => { results := [.lit (.bool true)], args := [d1, d2, d3] }
  | _ => none }
def shadePlaysRow : OpenClaim := { program := "ytfglmnjhnjkiiaa", sum := "84c13f2ee2b3298b1bcde3cd0bec4b041ed1a2d7734ae334df2ac00b03c2a955", func := "spolia/spolaw15.ShadePlays", spec := "shadePlays", apart := false }
def ShadePlaysSaid : Prop := shadePlaysRow.holds Try.pinned (OpenSpec.ofChange shadePlaysSpec)

/-- ITS FALSE NEIGHBOUR: 'it returns false'. Refute it at one input. -/
def shadePlaysWrong : ChangeSpec := { name := "shadePlays", fn := fun _ => fun
  | [d1, d2, d3] => { results := [.lit (.bool false)], args := [d1, d2, d3] }
  | _ => none }
def ShadePlaysWrongFalsely : Prop := shadePlaysRow.holds Try.pinned (OpenSpec.ofChange shadePlaysWrong)

/-- 'spolaw15.ShadeOnce': WHATEVER THE INPUT: true; the input reads as it did. -/
def shadeOnceSpec : ChangeSpec := { name := "shadeOnce", fn := fun _ => fun
  | [d1, d2, d3, d4] => { results := [.lit (.bool true)], args := [d1, d2, d3, d4] }
  | _ => none }
def shadeOnceRow : OpenClaim := { program := "ytfglmnjhnjkiiaa", sum := "84c13f2ee2b3298b1bcde3cd0bec4b041ed1a2d7734ae334df2ac00b03c2a955", func := "spolia/spolaw15.ShadeOnce", spec := "shadeOnce", apart := false }
def ShadeOnceSaid : Prop := shadeOnceRow.holds Try.pinned (OpenSpec.ofChange shadeOnceSpec)

/-- ITS FALSE NEIGHBOUR: 'it returns false'. Refute it at one input. -/
def shadeOnceWrong : ChangeSpec := { name := "shadeOnce", fn := fun _ => fun
  | [d1, d2, d3, d4] => { results := [.lit (.bool false)], args := [d1, d2, d3, d4] }
  | _ => none }
def ShadeOnceWrongFalsely : Prop := shadeOnceRow.holds Try.pinned (OpenSpec.ofChange shadeOnceWrong)

/-- 'spolaw15.ShadeKinds': WHATEVER THE INPUT: true; the input reads as it did. -/
def shadeKindsSpec : ChangeSpec := { name := "shadeKinds", fn := fun _ => fun
  | [d1, d2] => { results := [.lit (.bool true)], args := [d1, d2] }
  | _ => none }
def shadeKindsRow : OpenClaim := { program := "ytfglmnjhnjkiiaa", sum := "84c13f2ee2b3298b1bcde3cd0bec4b041ed1a2d7734ae334df2ac00b03c2a955", func := "spolia/spolaw15.ShadeKinds", spec := "shadeKinds", apart := false }
def ShadeKindsSaid : Prop := shadeKindsRow.holds Try.pinned (OpenSpec.ofChange shadeKindsSpec)

/-- ITS FALSE NEIGHBOUR: 'it returns false'. Refute it at one input. -/
def shadeKindsWrong : ChangeSpec := { name := "shadeKinds", fn := fun _ => fun
  | [d1, d2] => { results := [.lit (.bool false)], args := [d1, d2] }
  | _ => none }
def ShadeKindsWrongFalsely : Prop := shadeKindsRow.holds Try.pinned (OpenSpec.ofChange shadeKindsWrong)

/-- 'spolaw15.ShadeSenses': WHATEVER THE INPUT: true; the input reads as it did. -/
def shadeSensesSpec : ChangeSpec := { name := "shadeSenses", fn := fun _ => fun
  | [d1, d2] => { results := [.lit (.bool true)], args := [d1, d2] }
  | _ => none }
def shadeSensesRow : OpenClaim := { program := "ytfglmnjhnjkiiaa", sum := "84c13f2ee2b3298b1bcde3cd0bec4b041ed1a2d7734ae334df2ac00b03c2a955", func := "spolia/spolaw15.ShadeSenses", spec := "shadeSenses", apart := false }
def ShadeSensesSaid : Prop := shadeSensesRow.holds Try.pinned (OpenSpec.ofChange shadeSensesSpec)

/-- ITS FALSE NEIGHBOUR: 'it returns false'. Refute it at one input. -/
def shadeSensesWrong : ChangeSpec := { name := "shadeSenses", fn := fun _ => fun
  | [d1, d2] => { results := [.lit (.bool false)], args := [d1, d2] }
  | _ => none }
def ShadeSensesWrongFalsely : Prop := shadeSensesRow.holds Try.pinned (OpenSpec.ofChange shadeSensesWrong)

/- THE SECOND FORM. 'bulk': how many values and letters a reading holds, each counted each time it is reached (what is shared counts as often as it is met; a slice's spare places count too). A statement '..UptoSaid' is the law's where the arguments, and the package variables that the reading takes, are together of bulk at most 1048576: NARROWER than '..Said'. Prove '..Said' where nothing that the law and all that it calls make is longer than what came in: it says more and counts as full. Else prove '..UptoSaid'. A law counts once. -/
mutual
def uptoBulk {H : Type} : DataW H → Nat
  | .lit (.string bytes) => bytes.length + 1
  | .lit _ => 1
  | .nil => 1
  | .ptr d => uptoBulk d + 1
  | .slice elems spare => uptoBulkAll elems + uptoBulkAll spare + 1
  | .agg parts => uptoBulkAll parts + 1
  | .iface _ d => uptoBulk d + 1
  | .map entries => uptoBulkEntries entries + 1
  | .held _ => 1
def uptoBulkAll {H : Type} : List (DataW H) → Nat
  | [] => 0
  | d :: r => uptoBulk d + uptoBulkAll r
def uptoBulkEntries {H : Type} : List (Lit × DataW H) → Nat
  | [] => 0
  | x :: r => uptoBulkEntry x + uptoBulkEntries r
def uptoBulkEntry {H : Type} : Lit × DataW H → Nat
  | (.string bytes, d) => bytes.length + uptoBulk d + 1
  | (_, d) => uptoBulk d + 1
 end
def uptoSmall : (H : Type) → List (DataW H) → Bool := fun _ ds => decide (uptoBulkAll ds ≤ 1048576)
def OpenSpec.upto (s : _root_.Go.ChangeSpec) : _root_.Go.OpenSpec := { _root_.Go.OpenSpec.ofChange s with cond := some uptoSmall }

/-- 'spolaw15.ShadePlays', WHERE WHAT IT READS IS OF BULK AT MOST 1048576: true; the input reads as it did. -/
def shadePlaysUptoRow : OpenClaim := { program := "ytfglmnjhnjkiiaa", sum := "84c13f2ee2b3298b1bcde3cd0bec4b041ed1a2d7734ae334df2ac00b03c2a955", func := "spolia/spolaw15.ShadePlays", spec := "shadePlays", apart := false, narrowed := true }
def ShadePlaysUptoSaid : Prop := shadePlaysUptoRow.holds Try.pinned (OpenSpec.upto shadePlaysSpec)

/-- 'spolaw15.ShadeOnce', WHERE WHAT IT READS IS OF BULK AT MOST 1048576: true; the input reads as it did. -/
def shadeOnceUptoRow : OpenClaim := { program := "ytfglmnjhnjkiiaa", sum := "84c13f2ee2b3298b1bcde3cd0bec4b041ed1a2d7734ae334df2ac00b03c2a955", func := "spolia/spolaw15.ShadeOnce", spec := "shadeOnce", apart := false, narrowed := true }
def ShadeOnceUptoSaid : Prop := shadeOnceUptoRow.holds Try.pinned (OpenSpec.upto shadeOnceSpec)

/-- 'spolaw15.ShadeKinds', WHERE WHAT IT READS IS OF BULK AT MOST 1048576: true; the input reads as it did. -/
def shadeKindsUptoRow : OpenClaim := { program := "ytfglmnjhnjkiiaa", sum := "84c13f2ee2b3298b1bcde3cd0bec4b041ed1a2d7734ae334df2ac00b03c2a955", func := "spolia/spolaw15.ShadeKinds", spec := "shadeKinds", apart := false, narrowed := true }
def ShadeKindsUptoSaid : Prop := shadeKindsUptoRow.holds Try.pinned (OpenSpec.upto shadeKindsSpec)

/-- 'spolaw15.ShadeSenses', WHERE WHAT IT READS IS OF BULK AT MOST 1048576: true; the input reads as it did. -/
def shadeSensesUptoRow : OpenClaim := { program := "ytfglmnjhnjkiiaa", sum := "84c13f2ee2b3298b1bcde3cd0bec4b041ed1a2d7734ae334df2ac00b03c2a955", func := "spolia/spolaw15.ShadeSenses", spec := "shadeSenses", apart := false, narrowed := true }
def ShadeSensesUptoSaid : Prop := shadeSensesUptoRow.holds Try.pinned (OpenSpec.upto shadeSensesSpec)

end Rows
end Go.Proofs.Ytfglmnjhnjkiiaa
