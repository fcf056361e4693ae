/-
  Contracts of the document's hands (package sporef13).
-/
import Derived.Test.YtiigmmmhhpdmdaaB13
namespace Go.Proofs.Ytiigmmmhhpdmdaa
open Go.RowKit

abbrev RH := HTab 173

end Go.Proofs.Ytiigmmmhhpdmdaa
