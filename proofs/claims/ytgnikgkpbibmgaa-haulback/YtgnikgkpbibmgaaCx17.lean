/-
  Words, as the bits of their parts.
-/
import Derived.Test.YtgnikgkpbibmgaaCopy13
import Derived.Test.YtgnikgkpbibmgaaArea12
import Derived.Test.YtgnikgkpbibmgaaShape12
import Derived.Test.YtgnikgkpbibmgaaFew12
import Derived.Test.YtgnikgkpbibmgaaWord12
namespace Go.Proofs.Ytgnikgkpbibmgaa
open Go.RowKit

theorem run_store_complex {P : Program} {w : World} {a : Addr} {m : Mode} (k : FloatKind) (x y : Nat) : (store a (.complex k x y) m).run P w = stored P w a (.complex k x y) m := run_store P w a _ m rfl

/-- A word, by the bits of its parts. -/
structure Cx where
  re : Nat
  im : Nat
def cz : Cx := ⟨0, 0⟩
def cn : Cx := ⟨0, 4607182418800017408⟩
def cr (i : Int) : Cx := ⟨floatOfInt .f64 (i + 1), 4607182418800017408⟩
def cw (n : Int) : Cx := ⟨floatOfInt .f64 n, 0⟩
def ch (k m : Int) : Cx := ⟨floatOfInt .f64 k, floatOfInt .f64 m⟩
end Go.Proofs.Ytgnikgkpbibmgaa
