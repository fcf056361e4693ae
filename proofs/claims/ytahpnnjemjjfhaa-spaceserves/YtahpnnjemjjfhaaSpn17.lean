/-
  area.Spine.
-/
import Derived.Test.YtahpnnjemjjfhaaArea12
namespace Go.Proofs.Ytahpnnjemjjfhaa
open Go.RowKit

set_option maxHeartbeats 1000000 in
theorem spine_any (n0 n1 n2 n3 n4 n5 n6 n7 : Int) (x : Option Addr) (l c : Nat) (S : Nat → Sh) (s k v r : Int) (w : World) (hS : Shps w x l S) (h : At (Good n0 n1 n2 n3 n4 n5 n6 n7 l S ∧ (0 ≤ s ∧ s < 2) ∧ (0 ≤ k ∧ k < n1)) (8 * n0 + s * n1 + k) v r) :
    Calls Try.prog 94 #[.agg #[.int .i64 n0, .int .i64 n1, .int .i64 n2, .int .i64 n3, .int .i64 n4, .int .i64 n5, .int .i64 n6, .int .i64 n7, .slice x l c], .int .i64 s, .int .i64 k] w fun e w' => e = .returned (.tuple #[.int .i64 v, .int .i64 r]) ∧ Kept w w' := by
  obtain ⟨p, hp⟩ := bool_iff (Good n0 n1 n2 n3 n4 n5 n6 n7 l S)
  obtain ⟨q0, h0⟩ := bool_iff (0 ≤ s ∧ s < 2)
  obtain ⟨q1, h1⟩ := bool_iff (0 ≤ k ∧ k < n1)
  have C : Hid (∀ w, Shps w x l S → _) := fun w h => area_may n0 n1 n2 n3 n4 n5 n6 n7 x l c S p w h hp
  have C0 : Hid (∀ w, Calls Try.prog 101 #[.int .i64 s, .int .i64 2] w _) := fun w => among_any s 2 q0 w h0
  have C1 : Hid (∀ w, Calls Try.prog 101 #[.int .i64 k, .int .i64 n1] w _) := fun w => among_any k n1 q1 w h1
  have HS : Hid (Shps w x l S) := hS
  have HP : Hid (p = true ↔ Good n0 n1 n2 n3 n4 n5 n6 n7 l S) := hp
  have H : Hid (At (Good n0 n1 n2 n3 n4 n5 n6 n7 l S ∧ (0 ≤ s ∧ s < 2) ∧ (0 ≤ k ∧ k < n1)) (8 * n0 + s * n1 + k) v r) := h
  have H0 : Hid (q0 = true ↔ 0 ≤ s ∧ s < 2) := h0
  have H1 : Hid (q1 = true ↔ 0 ≤ k ∧ k < n1) := h1
  clear hS hp h h0 h1
  go_enter Try.func94, Try.ntmps94
  go_wp2_with fail
  generalize hW1 : w.alloc _ = W1
  have B1 : Hid (Blk W1 w.heap.size (cl n0 n1 n2 n3 n4 n5 n6 n7 (.slice x l c))) := by rw [← hW1]; exact Blk.new w _ _
  have K1 : Hid (Kept w W1) := by rw [← hW1]; exact (Kept.refl w).alloc _ _
  clear hW1
  refine (C.out _ (HS.out.kept K1.out)).mono ?_
  rintro e w2 ⟨rfl, K⟩
  have B2 : Hid (Blk w2 w.heap.size _) := B1.out.kept K
  have K2 : Hid (Kept w w2) := K1.out.trans K
  clear K B1 K1 C HS
  cases p
  · obtain ⟨rfl, rfl⟩ := H.out.no (fun g => absurd (HP.out.2 g.1) (by simp))
    go_wp2
    go_ret2
    exact ⟨rfl, K2.out⟩
  have c0 := B2.out.at 0 rfl
  have c1 := B2.out.at 1 rfl
  have c2 := B2.out.at 2 rfl
  have c3 := B2.out.at 3 rfl
  have c4 := B2.out.at 4 rfl
  have c5 := B2.out.at 5 rfl
  have c6 := B2.out.at 6 rfl
  have c7 := B2.out.at 7 rfl
  have c8 := B2.out.at 8 rfl
  go_wp2_with fail
  refine (C0.out _).mono ?_
  rintro e w' ⟨rfl, rfl⟩
  cases q0
  · obtain ⟨rfl, rfl⟩ := H.out.no (fun g => absurd (H0.out.2 g.2.1) (by simp))
    go_wp2
    go_ret2
    exact ⟨rfl, K2.out⟩
  go_wp2_with fail
  refine (C1.out _).mono ?_
  rintro e w' ⟨rfl, rfl⟩
  cases q1
  · obtain ⟨rfl, rfl⟩ := H.out.no (fun g => absurd (H1.out.2 g.2.2) (by simp))
    go_wp2
    go_ret2
    exact ⟨rfl, K2.out⟩
  have g : Good n0 n1 n2 n3 n4 n5 n6 n7 l S := by have := HP.out; simpa using this
  have g0 : 0 ≤ s ∧ s < 2 := by have := H0.out; simpa using this
  have g1 : 0 ≤ k ∧ k < n1 := by have := H1.out; simpa using this
  obtain ⟨rfl, rfl⟩ := H.out.yes ⟨g, g0, g1⟩
  obtain ⟨⟨⟨a0, a1⟩, ⟨a2, a3⟩, ⟨a4, a5⟩, _⟩, _⟩ := g
  have D : Hid (∀ w, _) := fun w => spine_from n0 n1 n2 n3 n4 n5 n6 n7 x l c s (8 * n0 + s * n1) w ⟨a0, a1⟩ ⟨a2, a3⟩ (by omega) (by omega)
  obtain ⟨m0, m1⟩ := mul_few (s := s) (n := n1) (by omega) (by omega)
  obtain ⟨b0, e0⟩ := g0
  obtain ⟨b1, e1⟩ := g1
  clear H HP H0 C0 H1 C1
  go_wp2_with fail
  refine (D.out _).mono ?_
  rintro e w3 ⟨rfl, K⟩
  have K3 : Hid (Kept w w3) := K2.out.trans K
  clear K K2 B2 c0 c1 c2 c3 c4 c5 c6 c7 c8
  go_wp2
  go_ret2
  exact ⟨by (first | rfl | (congr 4; omega) | (simp; omega)), K3.out⟩

end Go.Proofs.Ytahpnnjemjjfhaa
