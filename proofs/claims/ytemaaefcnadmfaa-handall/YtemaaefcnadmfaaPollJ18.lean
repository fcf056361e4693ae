/-
  'h.Poll(k)' beside a row of truth values, in any order.
-/
import Derived.Test.YtemaaefcnadmfaaMo18
import Derived.Test.YtemaaefcnadmfaaPhase
namespace Go.Proofs.Ytemaaefcnadmfaa
open Go.RowKit

/-- In the midst of 'h.Poll(k) != row[k]': operation 2 is the call. -/
def PollJ (w u : World) (b m : Nat) (F : Nat → Bool) (S : Hs) (d : Nat → Bool) : Prop := Mo w u b m F (if d 2 then S.tick else S)
section
variable {w u u' : World} {b m : Nat} {F : Nat → Bool} {S : Hs} {d : Nat → Bool}
theorem PollJ.plain (h : PollJ w u b m F S d) (i : Nat) (h9 : i ≠ 2) : PollJ w u b m F S (done d i) := by
  have e : done d i 2 = d 2 := by simp [done, Ne.symm h9]
  unfold PollJ
  rw [e]
  exact h
theorem PollJ.call (h : Mo w u' b m F S.tick) : PollJ w u' b m F S (done d 2) := by
  have e : done d 2 2 = true := by simp [done]
  unfold PollJ
  rw [e]
  exact h
theorem PollJ.cell (h : PollJ w u b m F S d) {k : Nat} (hk : k < 16) : u.cell? ⟨m, k, none⟩ = some (.bool (F k)) := by
  unfold PollJ at h
  split at h <;> exact h.at hk
end
end Go.Proofs.Ytemaaefcnadmfaa
