/-
  The laws' own 'first' of package spolaw12 returns true; what was there is kept.
-/
import Derived.Test.YtpdclckgnajcdaaGreatPlan5
import Derived.Test.YtpdclckgnajcdaaGreatFew12
namespace Go.Proofs.YtpdclckgnajcdaaGreat
open Go.RowKit

def F0 : Nat → Sh := fun _ => ⟨false, none, 0, 0⟩
def G0 : Nat → Int := fun _ => 2
theorem asks_first : Asks (AG 4 0 0 1 1 0 1 0 1 F0 G0 1) (AK 1 F0 0 false) (AI F0 0 0 false) (AF F0 0 0 false G0 1) 0 := by
  refine ⟨fun h => absurd ?_ h, fun _ h => absurd ?_ h, fun _ _ h => absurd ?_ h, fun _ _ _ h => absurd ?_ h, fun _ _ _ _ => rfl⟩
  · exact ⟨⟨by unfold Fits; decide, mays_one _ (by decide)⟩, fun j _ => by unfold G0; decide⟩
  · exact ⟨by decide, by decide, rfl⟩
  · unfold AI; decide
  · exact ⟨by decide, fun ⟨i, j, h1, h2, _⟩ => by omega⟩

end Go.Proofs.YtpdclckgnajcdaaGreat
