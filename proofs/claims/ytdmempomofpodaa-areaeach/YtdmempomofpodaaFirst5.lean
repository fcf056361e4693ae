/-
  The laws' own 'first' of package spolaw5 returns true; what was there is kept.
-/
import Derived.Test.YtdmempomofpodaaArea
namespace Go.Proofs.Ytdmempomofpodaa
open Go.RowKit

set_option maxHeartbeats 1000000 in
theorem first_any (w : World) : Calls Try.prog 7 #[] w fun e w' => e = .returned (.bool true) ∧ Kept w w' := by
  have g : Good 4 3 1 1 1 0 1 0 1 (fun _ => ⟨false, none, 0, 0⟩) := ⟨by unfold Fits; decide, mays_one _ (by decide)⟩
  have C0 : Hid (∀ w x, Shps w x 1 (fun _ => ⟨false, none, 0, 0⟩) → _) := fun w x h => frag_any 4 3 1 1 1 0 1 0 x 1 1 _ 2 3 19 0 w h (At.is _ ⟨g, by omega, by omega⟩)
  have C1 : Hid (∀ w x, Shps w x 1 (fun _ => ⟨false, none, 0, 0⟩) → _) := fun w x h => of_any 4 3 1 1 1 0 1 0 x 1 1 _ 19 1 2 3 w h ⟨fun n => absurd ⟨g, by omega, by omega⟩ n, fun _ _ _ => ⟨rfl, by decide, by decide⟩, fun _ _ _ => by omega, fun _ _ _ => by omega, fun _ _ _ => by omega⟩
  have C2 : Hid (∀ w x, Shps w x 1 (fun _ => ⟨false, none, 0, 0⟩) → _) := fun w x h => words_any 4 3 1 1 1 0 1 0 x 1 1 _ 39 w h (Is.is _ g)
  clear g
  go_enter Try.func7, Try.ntmps7
  go_wp2_with fail
  generalize hW0 : w.alloc (Obj.cells #[Value.bool false, Value.slice none 0 0] _) = W0
  have S0 : Hid (Shps W0 (some ⟨w.heap.size, 0, none⟩) 1 (fun _ => ⟨false, none, 0, 0⟩)) := by
    rw [← hW0]
    exact shps_one ⟨false, none, 0, 0⟩ (by simp) (by simp) (by simp)
  have k0 : Hid (Kept w W0) := by rw [← hW0]; exact (Kept.refl w).alloc _ _
  have hz : w.heap.size + 1 = W0.heap.size := by rw [← hW0]; simp
  rw [hz]
  clear hW0 hz
  generalize hW1 : W0.alloc _ = W1
  have B1 : Hid (Blk W1 W0.heap.size (cl 4 3 1 1 1 0 1 0 (.slice (some ⟨w.heap.size, 0, none⟩) 1 1))) := by rw [← hW1]; exact Blk.new W0 _ _
  have K1 : Hid (Kept W0 W1) := by rw [← hW1]; exact (Kept.refl W0).alloc _ _
  clear hW1
  refine (C0.out _ _ (S0.out.kept K1.out)).mono ?_
  rintro e w2 ⟨rfl, K⟩
  have B2 : Hid (Blk w2 W0.heap.size _) := B1.out.kept K
  have K2 : Hid (Kept W0 w2) := K1.out.trans K
  clear K K1 B1
  have c0 := B2.out.at 0 rfl
  have c1 := B2.out.at 1 rfl
  have c2 := B2.out.at 2 rfl
  have c3 := B2.out.at 3 rfl
  have c4 := B2.out.at 4 rfl
  have c5 := B2.out.at 5 rfl
  have c6 := B2.out.at 6 rfl
  have c7 := B2.out.at 7 rfl
  have c8 := B2.out.at 8 rfl
  go_wp2_with fail
  refine (C1.out _ _ (S0.out.kept K2.out)).mono ?_
  rintro e w3 ⟨rfl, K⟩
  have B3 : Hid (Blk w3 W0.heap.size _) := B2.out.kept K
  have K3 : Hid (Kept W0 w3) := K2.out.trans K
  clear K K2 B2 c0 c1 c2 c3 c4 c5 c6 c7 c8
  have c0 := B3.out.at 0 rfl
  have c1 := B3.out.at 1 rfl
  have c2 := B3.out.at 2 rfl
  have c3 := B3.out.at 3 rfl
  have c4 := B3.out.at 4 rfl
  have c5 := B3.out.at 5 rfl
  have c6 := B3.out.at 6 rfl
  have c7 := B3.out.at 7 rfl
  have c8 := B3.out.at 8 rfl
  go_wp2_with fail
  refine (C2.out _ _ (S0.out.kept K3.out)).mono ?_
  rintro e w4 ⟨rfl, K⟩
  have K4 : Hid (Kept w w4) := k0.out.trans (K3.out.trans K)
  clear K K3 B3 c0 c1 c2 c3 c4 c5 c6 c7 c8
  go_wp2
  go_ret
  exact ⟨rfl, K4.out⟩
end Go.Proofs.Ytdmempomofpodaa
