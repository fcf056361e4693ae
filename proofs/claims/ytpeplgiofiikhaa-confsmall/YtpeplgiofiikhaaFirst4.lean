/-
  The laws' own 'first' of package spolaw4 returns true; what was there is kept.
-/
import Derived.Test.YtpeplgiofiikhaaConf
import Derived.Laws.BitsLemmas
namespace Go.Proofs.Ytpeplgiofiikhaa
open Go.RowKit

theorem i64_and7 (n : Int) : bits .and .i64 n 7 = n % 8 := by
  have h7 : (BitVec.ofInt 64 7).toNat = 2 ^ 3 - 1 := by decide
  have key : (BitVec.ofInt 64 n &&& BitVec.ofInt 64 7).toNat = (n % ((2 ^ 64 : Nat) : Int)).toNat % 2 ^ 3 := by
    rw [BitVec.toNat_and, BitVec.toNat_ofInt, h7, Nat.and_two_pow_sub_one_eq_mod]
  show IntKind.i64.wrap ((BitVec.ofInt 64 n &&& BitVec.ofInt 64 7).toNat : Nat) = n % 8
  rw [key, IntKind.wrap_i64]
  omega

theorem and7_none {n : Int} (g0 : (bits .and .i64 n 7 == 0) = false) (g1 : (bits .and .i64 n 7 == 1) = false) (g2 : (bits .and .i64 n 7 == 2) = false) (g3 : (bits .and .i64 n 7 == 3) = false)
    (g4 : (bits .and .i64 n 7 == 4) = false) (g5 : (bits .and .i64 n 7 == 5) = false) (g6 : (bits .and .i64 n 7 == 6) = false) (g7 : (bits .and .i64 n 7 == 7) = false) : False := by
  rw [i64_and7] at g0 g1 g2 g3 g4 g5 g6 g7
  simp only [beq_eq_false_iff_ne, ne_eq] at g0 g1 g2 g3 g4 g5 g6 g7
  omega

/-- One shape that lies in a block of its own. -/
theorem shps_one {w : World} {b : Nat} (s : Sh) (hb : b < w.heap.size) (h0 : w.cell? ⟨b, 0, none⟩ = some (.bool s.arr)) (h1 : w.cell? ⟨b, 1, none⟩ = some (.slice s.x s.l s.c)) : Shps w (some ⟨b, 0, none⟩) 1 (fun _ => s) := fun _ =>
  ⟨b, 0, rfl, hb, fun i hi => by
    obtain rfl : i = 0 := by omega
    exact ⟨h0, h1⟩⟩

theorem mays_one (s : Sh) (h : s.may = true) : Mays 1 (fun _ => s) := ⟨by omega, by omega, fun _ _ => h⟩

set_option maxHeartbeats 1000000 in
theorem first_any (w : World) : Calls Try.prog 8 #[] w fun e w' => e = .returned (.bool true) ∧ Kept w w' := by
  have C0 : Hid (∀ w x, Shps w x 1 (fun _ => ⟨false, none, 0, 0⟩) → _) := fun w x h => check_any 4 0 0 1 1 0 1 0 x 1 1 _ 0 w h ⟨fun n => absurd (by unfold Fits; decide) n, fun _ n => absurd (mays_one _ (by decide)) n, fun _ _ => rfl⟩
  have C1 : Hid (∀ w x, Shps w x 1 (fun _ => ⟨false, none, 0, 0⟩) → _) := fun w x h => check_any 3 0 0 1 1 0 1 0 x 1 1 _ 1 w h ⟨fun _ => rfl, fun n => absurd n (by unfold Fits; decide), fun n => absurd n (by unfold Fits; decide)⟩
  go_enter Try.func8, Try.ntmps8
  go_wp2_with fail
  generalize hW0 : w.alloc (Obj.cells #[Value.bool false, Value.slice none 0 0] 29) = W0
  have S0 : Hid (Shps W0 (some ⟨w.heap.size, 0, none⟩) 1 (fun _ => ⟨false, none, 0, 0⟩)) := by
    rw [← hW0]
    exact shps_one ⟨false, none, 0, 0⟩ (by simp) (by simp) (by simp)
  have k0 : Hid (Kept w W0) := by rw [← hW0]; exact (Kept.refl w).alloc _ _
  have hz : w.heap.size + 1 = W0.heap.size := by rw [← hW0]; simp
  rw [hz]
  clear hW0 hz
  generalize hW1 : W0.alloc _ = W1
  have B1 : Hid (Blk W1 W0.heap.size (cl 4 0 0 1 1 0 1 0 (.slice (some ⟨w.heap.size, 0, none⟩) 1 1))) := by rw [← hW1]; exact Blk.new W0 _ _
  have K1 : Hid (Kept W0 W1) := by rw [← hW1]; exact (Kept.refl W0).alloc _ _
  clear hW1
  refine (C0.out _ _ (S0.out.kept K1.out)).mono ?_
  rintro e w2 ⟨rfl, K⟩
  have B2 : Hid (Blk w2 W0.heap.size _) := B1.out.kept K
  have K2 : Hid (Kept W0 w2) := K1.out.trans K
  clear K K1 B1
  have c0 := B2.out.at 0 rfl
  have c1 := B2.out.at 1 rfl
  have c2 := B2.out.at 2 rfl
  have c3 := B2.out.at 3 rfl
  have c4 := B2.out.at 4 rfl
  have c5 := B2.out.at 5 rfl
  have c6 := B2.out.at 6 rfl
  have c7 := B2.out.at 7 rfl
  have c8 := B2.out.at 8 rfl
  have f0 := B2.out.fz 0
  go_wp2_with fail
  generalize hW3 : w2.setCell _ _ = W3
  have K3 : Hid (Kept W0 W3) := by rw [← hW3]; exact K2.out.setCell (Nat.le_refl _) _
  clear hW3
  refine (C1.out _ _ (S0.out.kept K3.out)).mono ?_
  rintro e w4 ⟨rfl, K⟩
  have K4 : Hid (Kept w w4) := k0.out.trans (K3.out.trans K)
  clear K K2 B2 c0 c1 c2 c3 c4 c5 c6 c7 c8 f0
  go_wp2
  go_ret
  exact ⟨rfl, K4.out⟩

end Go.Proofs.Ytpeplgiofiikhaa
