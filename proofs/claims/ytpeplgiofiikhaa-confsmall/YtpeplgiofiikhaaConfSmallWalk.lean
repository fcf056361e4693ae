/-
  ConfSmall's walk.
-/
import Derived.Test.YtpeplgiofiikhaaFirst4
namespace Go.Proofs.Ytpeplgiofiikhaa
open Go.RowKit

set_option maxHeartbeats 1000000 in
theorem confSmall_any (n0 : Int) (x1 : Option Addr) (l1 c1 : Nat) (w : World) (_lo0 : IntKind.min .i64 ≤ n0) (_hi0 : n0 ≤ IntKind.max .i64) (_h1c : l1 ≤ c1) :
    Calls Try.prog 7 #[.int .i64 n0, .slice x1 l1 c1] w fun e w' => e = .returned (.bool true) ∧ Kept w w' := by
  by_cases h40 : (l1 : Int) > 40
  · go_enter Try.func7, Try.ntmps7
    go_wp2_with fail
    refine (first_any _).mono ?_
    rintro e w1 ⟨rfl, k1⟩
    go_wp2_with fail
    refine (first_any _).mono ?_
    rintro e w2 ⟨rfl, k2⟩
    go_wp2
    go_ret
    exact ⟨rfl, k1.trans k2⟩
  have hm : (⟨false, x1, l1, c1⟩ : Sh).may = true := by simp [Sh.may]; omega
  have C0 : Hid (∀ w x, Shps w x 1 (fun _ => ⟨false, x1, l1, c1⟩) → _) := fun w x h => check_any 4 0 0 1 1 0 1 0 x 1 1 _ 0 w h ⟨fun n => absurd (by unfold Fits; decide) n, fun _ n => absurd (mays_one _ hm) n, fun _ _ => rfl⟩
  have C1 : Hid (∀ m0 m1 m2 m3 m4 m5 m6 m7, ¬ Fits m0 m1 m2 m3 m4 m5 m6 m7 → ∀ w x, Shps w x 1 (fun _ => ⟨false, x1, l1, c1⟩) → _) := fun m0 m1 m2 m3 m4 m5 m6 m7 nf w x h => check_any m0 m1 m2 m3 m4 m5 m6 m7 x 1 1 _ 1 w h ⟨fun _ => rfl, fun n => absurd n nf, fun n => absurd n nf⟩
  clear hm
  go_enter Try.func7, Try.ntmps7
  go_wp2_with fail
  refine (first_any _).mono ?_
  rintro e w1 ⟨rfl, k1⟩
  have KK : Hid (Kept w w1) := k1
  clear k1
  go_wp2_with fail
  generalize hW0 : w1.alloc (Obj.cells #[Value.bool false, Value.slice x1 l1 c1] 29) = W0
  have S0 : Hid (Shps W0 (some ⟨w1.heap.size, 0, none⟩) 1 (fun _ => ⟨false, x1, l1, c1⟩)) := by
    rw [← hW0]
    exact shps_one ⟨false, x1, l1, c1⟩ (by simp) (by simp) (by simp)
  have k0 : Hid (Kept w W0) := by rw [← hW0]; exact KK.out.alloc _ _
  have hz : w1.heap.size + 1 = W0.heap.size := by rw [← hW0]; simp
  rw [hz]
  clear hW0 hz
  generalize hW1 : W0.alloc _ = W1
  have B1 : Hid (Blk W1 W0.heap.size (cl 4 0 0 1 1 0 1 0 (.slice (some ⟨w1.heap.size, 0, none⟩) 1 1))) := by rw [← hW1]; exact Blk.new W0 _ _
  have K1 : Hid (Kept W0 W1) := by rw [← hW1]; exact (Kept.refl W0).alloc _ _
  clear hW1
  refine (C0.out _ _ (S0.out.kept K1.out)).mono ?_
  rintro e w2 ⟨rfl, K⟩
  have B2 : Hid (Blk w2 W0.heap.size _) := B1.out.kept K
  have K2 : Hid (Kept W0 w2) := K1.out.trans K
  clear K K1 B1
  have c0 := B2.out.at 0 rfl
  have c1 := B2.out.at 1 rfl
  have c2 := B2.out.at 2 rfl
  have c3 := B2.out.at 3 rfl
  have c4 := B2.out.at 4 rfl
  have c5 := B2.out.at 5 rfl
  have c6 := B2.out.at 6 rfl
  have c7 := B2.out.at 7 rfl
  have c8 := B2.out.at 8 rfl
  have f0 := B2.out.fz
  go_wp2_with fail
  rotate_right
  · exact (and7_none (n := n0) (by assumption) (by assumption) (by assumption) (by assumption) (by assumption) (by assumption) (by assumption) (by assumption)).elim
  all_goals clear c0 c1 c2 c3 c4 c5 c6 c7 c8 f0
  · have B3 : Hid (Blk _ W0.heap.size (cl (3) (0) (0) (1) (1) (0) (1) (0) (.slice (some ⟨w1.heap.size, 0, none⟩) 1 1))) := B2.out.set (i := 0) rfl (.int .i64 (3))
    have K3 : Hid (Kept W0 _) := K2.out.setCell (a := ⟨W0.heap.size, 0, none⟩) (Nat.le_refl _) (.int .i64 (3))
    refine (first_any _).mono ?_
    rintro e w4 ⟨rfl, K⟩
    have B4 : Hid (Blk w4 W0.heap.size _) := B3.out.kept K
    have K4 : Hid (Kept W0 w4) := K3.out.trans K
    clear K K3 B3
    have c0 := B4.out.at 0 rfl
    have c1 := B4.out.at 1 rfl
    have c2 := B4.out.at 2 rfl
    have c3 := B4.out.at 3 rfl
    have c4 := B4.out.at 4 rfl
    have c5 := B4.out.at 5 rfl
    have c6 := B4.out.at 6 rfl
    have c7 := B4.out.at 7 rfl
    have c8 := B4.out.at 8 rfl
    go_wp2_with fail
    refine (C1.out _ _ _ _ _ _ _ _ (by unfold Fits; decide) _ _ (S0.out.kept K4.out)).mono ?_
    rintro e w5 ⟨rfl, K⟩
    have K5 : Hid (Kept w w5) := k0.out.trans (K4.out.trans K)
    clear K c0 c1 c2 c3 c4 c5 c6 c7 c8
    go_wp2
    go_ret
    exact ⟨rfl, K5.out⟩
  · have B3 : Hid (Blk _ W0.heap.size (cl (4) (-1) (0) (1) (1) (0) (1) (0) (.slice (some ⟨w1.heap.size, 0, none⟩) 1 1))) := B2.out.set (i := 1) rfl (.int .i64 (-1))
    have K3 : Hid (Kept W0 _) := K2.out.setCell (a := ⟨W0.heap.size, 1, none⟩) (Nat.le_refl _) (.int .i64 (-1))
    refine (first_any _).mono ?_
    rintro e w4 ⟨rfl, K⟩
    have B4 : Hid (Blk w4 W0.heap.size _) := B3.out.kept K
    have K4 : Hid (Kept W0 w4) := K3.out.trans K
    clear K K3 B3
    have c0 := B4.out.at 0 rfl
    have c1 := B4.out.at 1 rfl
    have c2 := B4.out.at 2 rfl
    have c3 := B4.out.at 3 rfl
    have c4 := B4.out.at 4 rfl
    have c5 := B4.out.at 5 rfl
    have c6 := B4.out.at 6 rfl
    have c7 := B4.out.at 7 rfl
    have c8 := B4.out.at 8 rfl
    go_wp2_with fail
    refine (C1.out _ _ _ _ _ _ _ _ (by unfold Fits; decide) _ _ (S0.out.kept K4.out)).mono ?_
    rintro e w5 ⟨rfl, K⟩
    have K5 : Hid (Kept w w5) := k0.out.trans (K4.out.trans K)
    clear K c0 c1 c2 c3 c4 c5 c6 c7 c8
    go_wp2
    go_ret
    exact ⟨rfl, K5.out⟩
  · have B3 : Hid (Blk _ W0.heap.size (cl (4) (0) (-1) (1) (1) (0) (1) (0) (.slice (some ⟨w1.heap.size, 0, none⟩) 1 1))) := B2.out.set (i := 2) rfl (.int .i64 (-1))
    have K3 : Hid (Kept W0 _) := K2.out.setCell (a := ⟨W0.heap.size, 2, none⟩) (Nat.le_refl _) (.int .i64 (-1))
    refine (first_any _).mono ?_
    rintro e w4 ⟨rfl, K⟩
    have B4 : Hid (Blk w4 W0.heap.size _) := B3.out.kept K
    have K4 : Hid (Kept W0 w4) := K3.out.trans K
    clear K K3 B3
    have c0 := B4.out.at 0 rfl
    have c1 := B4.out.at 1 rfl
    have c2 := B4.out.at 2 rfl
    have c3 := B4.out.at 3 rfl
    have c4 := B4.out.at 4 rfl
    have c5 := B4.out.at 5 rfl
    have c6 := B4.out.at 6 rfl
    have c7 := B4.out.at 7 rfl
    have c8 := B4.out.at 8 rfl
    go_wp2_with fail
    refine (C1.out _ _ _ _ _ _ _ _ (by unfold Fits; decide) _ _ (S0.out.kept K4.out)).mono ?_
    rintro e w5 ⟨rfl, K⟩
    have K5 : Hid (Kept w w5) := k0.out.trans (K4.out.trans K)
    clear K c0 c1 c2 c3 c4 c5 c6 c7 c8
    go_wp2
    go_ret
    exact ⟨rfl, K5.out⟩
  · have B3 : Hid (Blk _ W0.heap.size (cl (4) (0) (0) (0) (1) (0) (1) (0) (.slice (some ⟨w1.heap.size, 0, none⟩) 1 1))) := B2.out.set (i := 3) rfl (.int .i64 (0))
    have K3 : Hid (Kept W0 _) := K2.out.setCell (a := ⟨W0.heap.size, 3, none⟩) (Nat.le_refl _) (.int .i64 (0))
    refine (first_any _).mono ?_
    rintro e w4 ⟨rfl, K⟩
    have B4 : Hid (Blk w4 W0.heap.size _) := B3.out.kept K
    have K4 : Hid (Kept W0 w4) := K3.out.trans K
    clear K K3 B3
    have c0 := B4.out.at 0 rfl
    have c1 := B4.out.at 1 rfl
    have c2 := B4.out.at 2 rfl
    have c3 := B4.out.at 3 rfl
    have c4 := B4.out.at 4 rfl
    have c5 := B4.out.at 5 rfl
    have c6 := B4.out.at 6 rfl
    have c7 := B4.out.at 7 rfl
    have c8 := B4.out.at 8 rfl
    go_wp2_with fail
    refine (C1.out _ _ _ _ _ _ _ _ (by unfold Fits; decide) _ _ (S0.out.kept K4.out)).mono ?_
    rintro e w5 ⟨rfl, K⟩
    have K5 : Hid (Kept w w5) := k0.out.trans (K4.out.trans K)
    clear K c0 c1 c2 c3 c4 c5 c6 c7 c8
    go_wp2
    go_ret
    exact ⟨rfl, K5.out⟩
  · have B3 : Hid (Blk _ W0.heap.size (cl (4) (0) (0) (1) (0) (0) (1) (0) (.slice (some ⟨w1.heap.size, 0, none⟩) 1 1))) := B2.out.set (i := 4) rfl (.int .i64 (0))
    have K3 : Hid (Kept W0 _) := K2.out.setCell (a := ⟨W0.heap.size, 4, none⟩) (Nat.le_refl _) (.int .i64 (0))
    refine (first_any _).mono ?_
    rintro e w4 ⟨rfl, K⟩
    have B4 : Hid (Blk w4 W0.heap.size _) := B3.out.kept K
    have K4 : Hid (Kept W0 w4) := K3.out.trans K
    clear K K3 B3
    have c0 := B4.out.at 0 rfl
    have c1 := B4.out.at 1 rfl
    have c2 := B4.out.at 2 rfl
    have c3 := B4.out.at 3 rfl
    have c4 := B4.out.at 4 rfl
    have c5 := B4.out.at 5 rfl
    have c6 := B4.out.at 6 rfl
    have c7 := B4.out.at 7 rfl
    have c8 := B4.out.at 8 rfl
    go_wp2_with fail
    refine (C1.out _ _ _ _ _ _ _ _ (by unfold Fits; decide) _ _ (S0.out.kept K4.out)).mono ?_
    rintro e w5 ⟨rfl, K⟩
    have K5 : Hid (Kept w w5) := k0.out.trans (K4.out.trans K)
    clear K c0 c1 c2 c3 c4 c5 c6 c7 c8
    go_wp2
    go_ret
    exact ⟨rfl, K5.out⟩
  · have B3 : Hid (Blk _ W0.heap.size (cl (4) (0) (0) (1) (1) (-1) (1) (0) (.slice (some ⟨w1.heap.size, 0, none⟩) 1 1))) := B2.out.set (i := 5) rfl (.int .i64 (-1))
    have K3 : Hid (Kept W0 _) := K2.out.setCell (a := ⟨W0.heap.size, 5, none⟩) (Nat.le_refl _) (.int .i64 (-1))
    refine (first_any _).mono ?_
    rintro e w4 ⟨rfl, K⟩
    have B4 : Hid (Blk w4 W0.heap.size _) := B3.out.kept K
    have K4 : Hid (Kept W0 w4) := K3.out.trans K
    clear K K3 B3
    have c0 := B4.out.at 0 rfl
    have c1 := B4.out.at 1 rfl
    have c2 := B4.out.at 2 rfl
    have c3 := B4.out.at 3 rfl
    have c4 := B4.out.at 4 rfl
    have c5 := B4.out.at 5 rfl
    have c6 := B4.out.at 6 rfl
    have c7 := B4.out.at 7 rfl
    have c8 := B4.out.at 8 rfl
    go_wp2_with fail
    refine (C1.out _ _ _ _ _ _ _ _ (by unfold Fits; decide) _ _ (S0.out.kept K4.out)).mono ?_
    rintro e w5 ⟨rfl, K⟩
    have K5 : Hid (Kept w w5) := k0.out.trans (K4.out.trans K)
    clear K c0 c1 c2 c3 c4 c5 c6 c7 c8
    go_wp2
    go_ret
    exact ⟨rfl, K5.out⟩
  · have B3 : Hid (Blk _ W0.heap.size (cl (4) (0) (0) (1) (1) (0) (0) (0) (.slice (some ⟨w1.heap.size, 0, none⟩) 1 1))) := B2.out.set (i := 6) rfl (.int .i64 (0))
    have K3 : Hid (Kept W0 _) := K2.out.setCell (a := ⟨W0.heap.size, 6, none⟩) (Nat.le_refl _) (.int .i64 (0))
    refine (first_any _).mono ?_
    rintro e w4 ⟨rfl, K⟩
    have B4 : Hid (Blk w4 W0.heap.size _) := B3.out.kept K
    have K4 : Hid (Kept W0 w4) := K3.out.trans K
    clear K K3 B3
    have c0 := B4.out.at 0 rfl
    have c1 := B4.out.at 1 rfl
    have c2 := B4.out.at 2 rfl
    have c3 := B4.out.at 3 rfl
    have c4 := B4.out.at 4 rfl
    have c5 := B4.out.at 5 rfl
    have c6 := B4.out.at 6 rfl
    have c7 := B4.out.at 7 rfl
    have c8 := B4.out.at 8 rfl
    go_wp2_with fail
    refine (C1.out _ _ _ _ _ _ _ _ (by unfold Fits; decide) _ _ (S0.out.kept K4.out)).mono ?_
    rintro e w5 ⟨rfl, K⟩
    have K5 : Hid (Kept w w5) := k0.out.trans (K4.out.trans K)
    clear K c0 c1 c2 c3 c4 c5 c6 c7 c8
    go_wp2
    go_ret
    exact ⟨rfl, K5.out⟩
  · have B3 : Hid (Blk _ W0.heap.size (cl (4) (0) (0) (1) (1) (0) (1) (-1) (.slice (some ⟨w1.heap.size, 0, none⟩) 1 1))) := B2.out.set (i := 7) rfl (.int .i64 (-1))
    have K3 : Hid (Kept W0 _) := K2.out.setCell (a := ⟨W0.heap.size, 7, none⟩) (Nat.le_refl _) (.int .i64 (-1))
    refine (first_any _).mono ?_
    rintro e w4 ⟨rfl, K⟩
    have B4 : Hid (Blk w4 W0.heap.size _) := B3.out.kept K
    have K4 : Hid (Kept W0 w4) := K3.out.trans K
    clear K K3 B3
    have c0 := B4.out.at 0 rfl
    have c1 := B4.out.at 1 rfl
    have c2 := B4.out.at 2 rfl
    have c3 := B4.out.at 3 rfl
    have c4 := B4.out.at 4 rfl
    have c5 := B4.out.at 5 rfl
    have c6 := B4.out.at 6 rfl
    have c7 := B4.out.at 7 rfl
    have c8 := B4.out.at 8 rfl
    go_wp2_with fail
    refine (C1.out _ _ _ _ _ _ _ _ (by unfold Fits; decide) _ _ (S0.out.kept K4.out)).mono ?_
    rintro e w5 ⟨rfl, K⟩
    have K5 : Hid (Kept w w5) := k0.out.trans (K4.out.trans K)
    clear K c0 c1 c2 c3 c4 c5 c6 c7 c8
    go_wp2
    go_ret
    exact ⟨rfl, K5.out⟩
end Go.Proofs.Ytpeplgiofiikhaa
