/-
  The laws' own first: what the chapter's examples fix.
-/
import Derived.Test.YtfddcfmgigaabaaCoilB
namespace Go.Proofs.Ytfddcfmgigaabaa
open Go.RowKit

set_option maxHeartbeats 1000000 in
theorem first_any (w : World) : Calls Try.prog 7 #[] w fun e w' => e = .returned (.bool true) ∧ Kept w w' := by
  have HN : Hid (∀ w, _) := fun w => new_any 5 w (by omega)
  go_enter Try.func7, Try.ntmps7
  go_wp2_with fail
  refine (HN.out _).mono ?_
  rintro e w1 ⟨p, rfl, t1, k1, l1⟩
  have H1 : Hid (CTab 47 w1 p ⟨5, 0, 0, 0, 0⟩ ∧ Kept w w1 ∧ w.heap.size ≤ p) := ⟨t1, k1, l1⟩
  clear t1 k1 l1
  go_wp2_with fail
  refine (take_any 3 _ H1.out.1).mono ?_
  rintro e w2 ⟨rfl, t2, m2⟩
  have e1 : takeA ⟨5, 0, 0, 0, 0⟩ 3 = 0 := by decide
  have e2 : takes ⟨5, 0, 0, 0, 0⟩ 3 = true := by decide
  have H2 : Hid (CTab 47 w2 p ⟨5, 0, 0, 3, 0⟩ ∧ Kept w w2) := ⟨t2, H1.out.2.1.muts m2 (by simpa using H1.out.2.2)⟩
  have HL : Hid (w.heap.size ≤ p) := H1.out.2.2
  rw [e1, e2]
  clear t2 m2 H1 e1 e2
  go_wp2_with fail
  refine (turn_any _ H2.out.1).mono ?_
  rintro e w3 ⟨rfl, t3, m3⟩
  have e1 : turns ⟨5, 0, 0, 3, 0⟩ = true := by decide
  have H3 : Hid (CTab 47 w3 p ⟨5, 1, 3, 3, 0⟩ ∧ Kept w w3) := ⟨t3, H2.out.2.muts m3 (by simpa using HL.out)⟩
  rw [e1]
  clear t3 m3 H2 e1
  go_wp2_with fail
  refine (left_any _ H3.out.1).mono ?_
  rintro e w4 ⟨rfl, rfl⟩
  have e1 : (((3 : Nat) : Int) == 3) = true := by decide
  go_wp2_with fail
  refine (room_any _ H3.out.1).mono ?_
  rintro e w5 ⟨rfl, k5⟩
  have e2 : roomF ⟨5, 1, 3, 3, 0⟩ = 2 := by decide
  rw [e2]
  have H5 : Hid (CTab 47 w5 p ⟨5, 1, 3, 3, 0⟩ ∧ Kept w w5) := ⟨H3.out.1.kept k5, H3.out.2.trans k5⟩
  clear k5 H3 e1 e2
  go_wp2_with fail
  refine (current_any _ H5.out.1).mono ?_
  rintro e w6 ⟨rfl, rfl⟩
  have e1 : (((1 : Nat) : Int) == 1) = true := by decide
  go_wp2_with fail
  refine (used_any 0 _ H5.out.1).mono ?_
  rintro e w7 ⟨rfl, rfl⟩
  have e2 : usedF ⟨5, 1, 3, 3, 0⟩ 0 = 3 := by decide
  rw [e2]
  go_wp2
  go_ret
  exact ⟨rfl, H5.out.2⟩
end Go.Proofs.Ytfddcfmgigaabaa
