/-
  The document's coil: each method answers and leaves what the same plain functions say.
-/
import Derived.Test.YtiigmmmhhpdmdaaB06
namespace Go.Proofs.Ytiigmmmhhpdmdaa
open Go.RowKit

set_option maxHeartbeats 800000 in
theorem krnew_bad (n : Int) (w : World) (hn : ¬ (0 ≤ n ∧ n ≤ 2048)) :
    Calls Try.prog 83 #[.int .i64 n] w fun e w' => e = .returned (.tuple #[.pointer none, .int .i64 1]) ∧ w' = w := by
  by_cases h0 : n < 0
  · clear hn
    go_enter Try.func83, Try.ntmps83
    go_wp2
    go_ret2
    exact ⟨rfl, rfl⟩
  · have h1 : 2048 < n := by omega
    clear hn
    go_enter Try.func83, Try.ntmps83
    go_wp2
    go_ret2
    exact ⟨rfl, rfl⟩

set_option maxHeartbeats 800000 in
theorem krnew_any (s : Nat) (w : World) (hs : s ≤ 2048) :
    Calls Try.prog 83 #[.int .i64 s] w fun e w' => ∃ p, e = .returned (.tuple #[.pointer (some ⟨p, 0, none⟩), .int .i64 0]) ∧ CTab 201 w' p ⟨s, 0, 0, 0, 0⟩ ∧ Kept w w' ∧ w.heap.size ≤ p := by
  have HO : Hid (∀ w' : World, CTab 201 (w'.alloc (.cells #[.int .i64 (s : Int), .int .i64 0, .int .i64 0, .int .i64 0, .int .i64 0] 201)) w'.heap.size ⟨s, 0, 0, 0, 0⟩) := fun w' => CTab.new w' _ hs
  go_enter Try.func83, Try.ntmps83
  go_wp2
  go_ret2
  exact ⟨_, rfl, HO.out w, (Kept.refl _).alloc _ _, by omega⟩

section
variable {p : Nat} {S : CS}

end
end Go.Proofs.Ytiigmmmhhpdmdaa
