/-
  The laws' own 'first' of package spolaw3 returns true; what was there is kept.
-/
import Derived.Test.YtnojiabhfkikgaaShape
namespace Go.Proofs.Ytnojiabhfkikgaa
open Go.RowKit

set_option maxHeartbeats 1000000 in
theorem first_any (w : World) : Calls Try.prog 7 #[] w fun e w' => e = .returned (.bool true) ∧ Kept w w' := by
  have hmk : ∀ w, (Instr.makeSlice 22 (.int .i64 7) (.int .i64 7)).run Try.prog w = .ok (.slice (some ⟨w.heap.size, 0, none⟩) 7 7) (w.alloc (.cells #[.bool false, .bool false, .bool false, .bool false, .bool false, .bool false, .bool false] 4)) := fun _ => by kernel_rfl
  go_enter Try.func7, Try.ntmps7
  go_wp2_with fail
  refine (place_in _ 7 7 6 1 1 _ (by decide) (by decide) (by decide) (by decide) (by decide)).mono ?_
  rintro e w' ⟨rfl, hk⟩
  have c0 := hk.own 0
  have c1 := hk.own 1
  simp at c0 c1
  have k0 : Kept w w' := hk.ofAlloc.ofAlloc
  clear hk
  go_wp2_with fail
  refine (size_obj _ 7 7 2 _ (by decide) (by decide)).mono ?_
  rintro e w2 ⟨rfl, hk⟩
  have k1 : Kept w w2 := k0.trans hk
  clear hk k0 c0 c1
  go_wp2_with fail
  refine (spine_arr _ _ 40 _).mono ?_
  rintro e w3 ⟨rfl, hk⟩
  have k2 : Kept w w3 := k1.trans hk.ofAlloc
  clear hk k1
  rw [show spineOf 40 = 7 by decide]
  go_wp2
  go_ret
  exact ⟨rfl, k2⟩
end Go.Proofs.Ytnojiabhfkikgaa
