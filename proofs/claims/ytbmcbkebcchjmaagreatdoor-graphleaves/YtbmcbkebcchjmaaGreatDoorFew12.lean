/-
  Small configurations, and the contract of the laws' own 'Few' (package spolaw4).
-/
import Derived.Test.YtbmcbkebcchjmaaGreatDoorConf12
namespace Go.Proofs.YtbmcbkebcchjmaaGreatDoor
open Go.RowKit

/-- One shape that lies in a block of its own. -/
theorem shps_one {w : World} {b : Nat} (s : Sh) (hb : b < w.heap.size) (h0 : w.cell? ⟨b, 0, none⟩ = some (.bool s.arr)) (h1 : w.cell? ⟨b, 1, none⟩ = some (.slice s.x s.l s.c)) : Shps w (some ⟨b, 0, none⟩) 1 (fun _ => s) := fun _ =>
  ⟨b, 0, rfl, hb, fun i hi => by
    obtain rfl : i = 0 := by omega
    exact ⟨h0, h1⟩⟩

theorem mays_one (s : Sh) (h : s.may = true) : Mays 1 (fun _ => s) := ⟨by omega, by omega, fun _ _ => h⟩

/-- Small: at most 100 shapes of at most 1000 fields. -/
def Small (l : Nat) (S : Nat → Sh) : Prop := l ≤ 100 ∧ ∀ i, i < l → (S i).l ≤ 1000

end Go.Proofs.YtbmcbkebcchjmaaGreatDoor
