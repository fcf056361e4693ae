/-
  AreaEdges: the walk.
-/
import Derived.Test.YtdmempomofpodaaFirst5
import Derived.Test.YtdmempomofpodaaOpen
namespace Go.Proofs.Ytdmempomofpodaa
open Go.RowKit

set_option maxHeartbeats 2000000 in
theorem edges_many (n0 n1 n2 n3 n4 n5 n6 n7 : Int) (x : Option Addr) (l c : Nat) (S : Nat → Sh) (w : World) (hS : Shps w x l S) (hf : ¬ Small l S) :
    Calls Try.prog 5 #[.agg #[.int .i64 n0, .int .i64 n1, .int .i64 n2, .int .i64 n3, .int .i64 n4, .int .i64 n5, .int .i64 n6, .int .i64 n7, .slice x l c]] w fun e w' => e = .returned (.bool true) ∧ Kept w w' := by
  have HS : Hid (Shps w x l S) := hS
  have F : Hid (∀ w, Shps w x l S → _) := fun w h => few_any n0 n1 n2 n3 n4 n5 n6 n7 x l c S false w h (by simp [hf])
  clear hS
  go_enter Try.func5, Try.ntmps5
  go_wp2_with fail
  generalize hW1 : w.alloc _ = W1
  have B1 : Hid (Blk W1 w.heap.size (cl n0 n1 n2 n3 n4 n5 n6 n7 (.slice x l c))) := by rw [← hW1]; exact Blk.new w _ _
  have K1 : Hid (Kept w W1) := by rw [← hW1]; exact (Kept.refl w).alloc _ _
  clear hW1
  refine (first_any _).mono ?_
  rintro e w2 ⟨rfl, K⟩
  have B2 : Hid (Blk w2 w.heap.size _) := B1.out.kept K
  have K2 : Hid (Kept w w2) := K1.out.trans K
  clear K K1 B1
  have c0 := B2.out.at 0 rfl
  have c1 := B2.out.at 1 rfl
  have c2 := B2.out.at 2 rfl
  have c3 := B2.out.at 3 rfl
  have c4 := B2.out.at 4 rfl
  have c5 := B2.out.at 5 rfl
  have c6 := B2.out.at 6 rfl
  have c7 := B2.out.at 7 rfl
  have c8 := B2.out.at 8 rfl
  go_wp2_with fail
  refine (F.out _ (HS.out.kept K2.out)).mono ?_
  rintro e w3 ⟨rfl, K⟩
  have B3 : Hid (Blk w3 w.heap.size _) := B2.out.kept K
  have K3 : Hid (Kept w w3) := K2.out.trans K
  clear K B2 K2 c0 c1 c2 c3 c4 c5 c6 c7 c8
  go_wp2_with fail
  refine (first_any _).mono ?_
  rintro e w9 ⟨rfl, K⟩
  have K9 : Hid (Kept w w9) := K3.out.trans K
  clear K
  go_wp2
  go_ret
  exact ⟨rfl, K9.out⟩

set_option maxHeartbeats 2000000 in
theorem edges_bad (n0 n1 n2 n3 n4 n5 n6 n7 : Int) (x : Option Addr) (l c : Nat) (S : Nat → Sh) (w : World) (hS : Shps w x l S) (hf : Small l S) (hb : ¬ Good n0 n1 n2 n3 n4 n5 n6 n7 l S) :
    Calls Try.prog 5 #[.agg #[.int .i64 n0, .int .i64 n1, .int .i64 n2, .int .i64 n3, .int .i64 n4, .int .i64 n5, .int .i64 n6, .int .i64 n7, .slice x l c]] w fun e w' => e = .returned (.bool true) ∧ Kept w w' := by
  have HS : Hid (Shps w x l S) := hS
  have F : Hid (∀ w, Shps w x l S → _) := fun w h => few_any n0 n1 n2 n3 n4 n5 n6 n7 x l c S true w h (by simp [hf])
  obtain ⟨r, hr, hr3⟩ := Checks.some n0 n1 n2 n3 n4 n5 n6 n7 l S
  have C : Hid (∀ w, Shps w x l S → _) := fun w h => check_any n0 n1 n2 n3 n4 n5 n6 n7 x l c S r w h hr
  have h1 : (r != 0) = true := by
    simp only [bne_iff_ne, ne_eq]
    intro e
    subst e
    exact hb hr.zero
  clear hS hr hb hr3
  go_enter Try.func5, Try.ntmps5
  go_wp2_with fail
  generalize hW1 : w.alloc _ = W1
  have B1 : Hid (Blk W1 w.heap.size (cl n0 n1 n2 n3 n4 n5 n6 n7 (.slice x l c))) := by rw [← hW1]; exact Blk.new w _ _
  have K1 : Hid (Kept w W1) := by rw [← hW1]; exact (Kept.refl w).alloc _ _
  clear hW1
  refine (first_any _).mono ?_
  rintro e w2 ⟨rfl, K⟩
  have B2 : Hid (Blk w2 w.heap.size _) := B1.out.kept K
  have K2 : Hid (Kept w w2) := K1.out.trans K
  clear K K1 B1
  have c0 := B2.out.at 0 rfl
  have c1 := B2.out.at 1 rfl
  have c2 := B2.out.at 2 rfl
  have c3 := B2.out.at 3 rfl
  have c4 := B2.out.at 4 rfl
  have c5 := B2.out.at 5 rfl
  have c6 := B2.out.at 6 rfl
  have c7 := B2.out.at 7 rfl
  have c8 := B2.out.at 8 rfl
  go_wp2_with fail
  refine (F.out _ (HS.out.kept K2.out)).mono ?_
  rintro e w3 ⟨rfl, K⟩
  have B3 : Hid (Blk w3 w.heap.size _) := B2.out.kept K
  have K3 : Hid (Kept w w3) := K2.out.trans K
  clear K B2 K2 c0 c1 c2 c3 c4 c5 c6 c7 c8
  have c0 := B3.out.at 0 rfl
  have c1 := B3.out.at 1 rfl
  have c2 := B3.out.at 2 rfl
  have c3 := B3.out.at 3 rfl
  have c4 := B3.out.at 4 rfl
  have c5 := B3.out.at 5 rfl
  have c6 := B3.out.at 6 rfl
  have c7 := B3.out.at 7 rfl
  have c8 := B3.out.at 8 rfl
  go_wp2_with fail
  refine (C.out _ (HS.out.kept K3.out)).mono ?_
  rintro e w4 ⟨rfl, K⟩
  have B4 : Hid (Blk w4 w.heap.size _) := B3.out.kept K
  have K4 : Hid (Kept w w4) := K3.out.trans K
  clear K B3 K3 c0 c1 c2 c3 c4 c5 c6 c7 c8
  go_wp2_with fail
  refine (first_any _).mono ?_
  rintro e w9 ⟨rfl, K⟩
  have K9 : Hid (Kept w w9) := K4.out.trans K
  clear K
  go_wp2
  go_ret
  exact ⟨rfl, K9.out⟩

set_option maxRecDepth 20000 in
set_option maxHeartbeats 8000000 in
theorem edges_good (n0 n1 n2 n3 n4 n5 n6 n7 : Int) (x : Option Addr) (l c : Nat) (S : Nat → Sh) (w : World) (hS : Shps w x l S) (hf : Small l S) (hg : Good n0 n1 n2 n3 n4 n5 n6 n7 l S) :
    Calls Try.prog 5 #[.agg #[.int .i64 n0, .int .i64 n1, .int .i64 n2, .int .i64 n3, .int .i64 n4, .int .i64 n5, .int .i64 n6, .int .i64 n7, .slice x l c]] w fun e w' => e = .returned (.bool true) ∧ Kept w w' := by
  have HS : Hid (Shps w x l S) := hS
  have F : Hid (∀ w, Shps w x l S → _) := fun w h => few_any n0 n1 n2 n3 n4 n5 n6 n7 x l c S true w h (by simp [hf])
  have C : Hid (∀ w, Shps w x l S → Calls Try.prog 19 #[.agg #[.int .i64 n0, .int .i64 n1, .int .i64 n2, .int .i64 n3, .int .i64 n4, .int .i64 n5, .int .i64 n6, .int .i64 n7, .slice x l c]] w fun e w' => e = .returned (.int .i64 0) ∧ Kept w w') := fun w h => check_any n0 n1 n2 n3 n4 n5 n6 n7 x l c S 0 w h (Checks.of_ok hg.1 hg.2)
  obtain ⟨⟨⟨a0, a1⟩, ⟨a2, a3⟩, ⟨a4, a5⟩, _⟩, _⟩ := id hg
  have A1 : Hid (∀ w, Shps w x l S → _) := fun w h => frag_any n0 n1 n2 n3 n4 n5 n6 n7 x l c S (n0 - 1) 7 (8 * n0 - 1) 0 w h ⟨fun _ => ⟨by omega, rfl⟩, fun n => absurd ⟨hg, by omega, by omega⟩ n⟩
  have A2 : Hid (∀ w, Shps w x l S → _) := fun w h => frag_any n0 n1 n2 n3 n4 n5 n6 n7 x l c S n0 0 0 1 w h (At.not _ fun y => by omega)
  have A3 : Hid (∀ w, Shps w x l S → _) := fun w h => frag_any n0 n1 n2 n3 n4 n5 n6 n7 x l c S 0 8 0 1 w h (At.not _ fun y => by omega)
  have SP : Hid (∀ s : Int, 0 ≤ s ∧ s < 2 → ∃ v r, (n1 > 0 → v = 8 * n0 + s * n1 ∧ r = 0) ∧ (n1 ≤ 0 → v = 0 ∧ r = 1) ∧ ∀ w, Shps w x l S → Calls Try.prog 11 #[.agg #[.int .i64 n0, .int .i64 n1, .int .i64 n2, .int .i64 n3, .int .i64 n4, .int .i64 n5, .int .i64 n6, .int .i64 n7, .slice x l c], .int .i64 s, .int .i64 0] w fun e w' => e = .returned (.tuple #[.int .i64 v, .int .i64 r]) ∧ Kept w w') := fun s hs => by
    obtain ⟨v, r, h⟩ := At.some (Good n0 n1 n2 n3 n4 n5 n6 n7 l S ∧ (0 ≤ s ∧ s < 2) ∧ (0 ≤ (0 : Int) ∧ 0 < n1)) (8 * n0 + s * n1 + 0)
    refine ⟨v, r, fun g => ?_, fun g => ?_, fun w hS => spine_any n0 n1 n2 n3 n4 n5 n6 n7 x l c S s 0 v r w hS h⟩
    · have := h.yes ⟨hg, hs, by omega⟩
      rwa [Int.add_zero] at this
    · exact h.no fun y => by omega
  have SN : Hid (∀ s : Int, ∀ w, Shps w x l S → _) := fun s w h => spine_any n0 n1 n2 n3 n4 n5 n6 n7 x l c S s n1 0 1 w h (At.not _ fun y => by omega)
  have GN : Hid (∀ w, Shps w x l S → _) := fun w h => global_any n0 n1 n2 n3 n4 n5 n6 n7 x l c S n2 0 1 w h (At.not _ fun y => by omega)
  have S2 : Hid (∀ w, Shps w x l S → _) := fun w h => spine_any n0 n1 n2 n3 n4 n5 n6 n7 x l c S 2 0 0 1 w h (At.not _ fun y => by omega)
  obtain ⟨v0, r0, hv0⟩ := At.some (Good n0 n1 n2 n3 n4 n5 n6 n7 l S ∧ (0 ≤ (0 : Int) ∧ 0 < n2)) (8 * n0 + 2 * n1 + 0)
  have G0 : Hid (∀ w, Shps w x l S → _) := fun w h => global_any n0 n1 n2 n3 n4 n5 n6 n7 x l c S 0 v0 r0 w h hv0
  have V1 : Hid (n2 > 0 → v0 = 8 * n0 + 2 * n1 ∧ r0 = 0) := fun g => by
    have := hv0.yes ⟨hg, by omega, by omega⟩
    rwa [Int.add_zero] at this
  have V2 : Hid (n2 ≤ 0 → v0 = 0 ∧ r0 = 1) := fun g => hv0.no fun y => by omega
  clear hS hg hf hv0
  go_enter Try.func5, Try.ntmps5
  go_wp2_with fail
  generalize hW1 : w.alloc _ = W1
  have B1 : Hid (Blk W1 w.heap.size (cl n0 n1 n2 n3 n4 n5 n6 n7 (.slice x l c))) := by rw [← hW1]; exact Blk.new w _ _
  have K1 : Hid (Kept w W1) := by rw [← hW1]; exact (Kept.refl w).alloc _ _
  clear hW1
  refine (first_any _).mono ?_
  rintro e w2 ⟨rfl, K⟩
  have B2 : Hid (Blk w2 w.heap.size _) := B1.out.kept K
  have K2 : Hid (Kept w w2) := K1.out.trans K
  clear K K1 B1
  have c0 := B2.out.at 0 rfl
  have c1 := B2.out.at 1 rfl
  have c2 := B2.out.at 2 rfl
  have c3 := B2.out.at 3 rfl
  have c4 := B2.out.at 4 rfl
  have c5 := B2.out.at 5 rfl
  have c6 := B2.out.at 6 rfl
  have c7 := B2.out.at 7 rfl
  have c8 := B2.out.at 8 rfl
  go_wp2_with fail
  refine (F.out _ (HS.out.kept K2.out)).mono ?_
  rintro e w3 ⟨rfl, K⟩
  have B3 : Hid (Blk w3 w.heap.size _) := B2.out.kept K
  have K3 : Hid (Kept w w3) := K2.out.trans K
  clear K B2 K2 c0 c1 c2 c3 c4 c5 c6 c7 c8
  have c0 := B3.out.at 0 rfl
  have c1 := B3.out.at 1 rfl
  have c2 := B3.out.at 2 rfl
  have c3 := B3.out.at 3 rfl
  have c4 := B3.out.at 4 rfl
  have c5 := B3.out.at 5 rfl
  have c6 := B3.out.at 6 rfl
  have c7 := B3.out.at 7 rfl
  have c8 := B3.out.at 8 rfl
  go_wp2_with fail
  refine (C.out _ (HS.out.kept K3.out)).mono ?_
  rintro e w4 ⟨rfl, K⟩
  have B4 : Hid (Blk w4 w.heap.size _) := B3.out.kept K
  have K4 : Hid (Kept w w4) := K3.out.trans K
  clear K B3 K3 c0 c1 c2 c3 c4 c5 c6 c7 c8
  have c0 := B4.out.at 0 rfl
  have c1 := B4.out.at 1 rfl
  have c2 := B4.out.at 2 rfl
  have c3 := B4.out.at 3 rfl
  have c4 := B4.out.at 4 rfl
  have c5 := B4.out.at 5 rfl
  have c6 := B4.out.at 6 rfl
  have c7 := B4.out.at 7 rfl
  have c8 := B4.out.at 8 rfl
  go_wp2_with fail
  refine (A1.out  _ (HS.out.kept K4.out)).mono ?_
  rintro e w5 ⟨rfl, K⟩
  have B5 : Hid (Blk w5 w.heap.size _) := B4.out.kept K
  have K5 : Hid (Kept w w5) := K4.out.trans K
  clear K B4 K4 c0 c1 c2 c3 c4 c5 c6 c7 c8
  have c0 := B5.out.at 0 rfl
  have c1 := B5.out.at 1 rfl
  have c2 := B5.out.at 2 rfl
  have c3 := B5.out.at 3 rfl
  have c4 := B5.out.at 4 rfl
  have c5 := B5.out.at 5 rfl
  have c6 := B5.out.at 6 rfl
  have c7 := B5.out.at 7 rfl
  have c8 := B5.out.at 8 rfl
  go_wp2_with fail
  refine (A2.out  _ (HS.out.kept K5.out)).mono ?_
  rintro e w6 ⟨rfl, K⟩
  have B6 : Hid (Blk w6 w.heap.size _) := B5.out.kept K
  have K6 : Hid (Kept w w6) := K5.out.trans K
  clear K B5 K5 c0 c1 c2 c3 c4 c5 c6 c7 c8
  have c0 := B6.out.at 0 rfl
  have c1 := B6.out.at 1 rfl
  have c2 := B6.out.at 2 rfl
  have c3 := B6.out.at 3 rfl
  have c4 := B6.out.at 4 rfl
  have c5 := B6.out.at 5 rfl
  have c6 := B6.out.at 6 rfl
  have c7 := B6.out.at 7 rfl
  have c8 := B6.out.at 8 rfl
  go_wp2_with fail
  refine (A3.out  _ (HS.out.kept K6.out)).mono ?_
  rintro e w7 ⟨rfl, K⟩
  have B7 : Hid (Blk w7 w.heap.size _) := B6.out.kept K
  have K7 : Hid (Kept w w7) := K6.out.trans K
  clear K B6 K6 c0 c1 c2 c3 c4 c5 c6 c7 c8
  have c0 := B7.out.at 0 rfl
  have c1 := B7.out.at 1 rfl
  have c2 := B7.out.at 2 rfl
  have c3 := B7.out.at 3 rfl
  have c4 := B7.out.at 4 rfl
  have c5 := B7.out.at 5 rfl
  have c6 := B7.out.at 6 rfl
  have c7 := B7.out.at 7 rfl
  have c8 := B7.out.at 8 rfl
  go_wp2_with fail
  clear c0 c1 c2 c3 c4 c5 c6 c7 c8
  go_loopg [9, 10] 2 (fun m u t wr => ∃ j : Nat, t = .int .i64 j ∧ u = .int .i64 (8 * n0 + j * n1) ∧ j ≤ 2 ∧ m = 2 - j ∧ Hid (Kept w7 wr))
  case atStart => exact ⟨0, rfl, by simp, by omega, by omega, Kept.refl _⟩
  case round =>
    obtain ⟨j, rfl, rfl, hj, hm, KK⟩ := hrel
    have HM : Hid _ := hm
    clear hm
    have B8 : Hid (Blk wr w.heap.size _) := B7.out.kept KK.out
    have K8 : Hid (Kept w wr) := K7.out.trans KK.out
    by_cases hlt : j < 2
    · obtain ⟨v, r, hv1, hv2, SC⟩ := SP.out j (by omega)
      have SC : Hid _ := SC
      have HV1 : Hid (n1 > 0 → _) := hv1
      have HV2 : Hid (n1 ≤ 0 → _) := hv2
      clear hv1 hv2
      obtain ⟨m0, m1⟩ := mul_few (s := j) (n := n1) (by omega) (by omega)
      have hnext : (((j + 1 : Nat) : Int) * n1) = j * n1 + n1 := by rw [Int.natCast_add, Int.add_mul]; simp
      have HN : Hid _ := hnext
      clear hnext
      have c0 := B8.out.at 0 rfl
      have c1 := B8.out.at 1 rfl
      have c2 := B8.out.at 2 rfl
      have c3 := B8.out.at 3 rfl
      have c4 := B8.out.at 4 rfl
      have c5 := B8.out.at 5 rfl
      have c6 := B8.out.at 6 rfl
      have c7 := B8.out.at 7 rfl
      have c8 := B8.out.at 8 rfl
      go_wp2_with fail
      refine (SC.out _ (HS.out.kept K8.out)).mono ?_
      rintro e w9 ⟨rfl, K⟩
      have B9 : Hid (Blk w9 w.heap.size _) := B8.out.kept K
      have K9 : Hid (Kept w7 w9) := KK.out.trans K
      clear K B8 KK K8 c0 c1 c2 c3 c4 c5 c6 c7 c8
      have c0 := B9.out.at 0 rfl
      have c1 := B9.out.at 1 rfl
      have c2 := B9.out.at 2 rfl
      have c3 := B9.out.at 3 rfl
      have c4 := B9.out.at 4 rfl
      have c5 := B9.out.at 5 rfl
      have c6 := B9.out.at 6 rfl
      have c7 := B9.out.at 7 rfl
      have c8 := B9.out.at 8 rfl
      go_wp2_with fail
      refine (SN.out j _ (HS.out.kept (K7.out.trans K9.out))).mono ?_
      rintro e w10 ⟨rfl, K⟩
      have B10 : Hid (Blk w10 w.heap.size _) := B9.out.kept K
      have K10 : Hid (Kept w7 w10) := K9.out.trans K
      clear K B9 K9 c0 c1 c2 c3 c4 c5 c6 c7 c8
      have c0 := B10.out.at 0 rfl
      have c1 := B10.out.at 1 rfl
      have c2 := B10.out.at 2 rfl
      have c3 := B10.out.at 3 rfl
      have c4 := B10.out.at 4 rfl
      have c5 := B10.out.at 5 rfl
      have c6 := B10.out.at 6 rfl
      have c7 := B10.out.at 7 rfl
      have c8 := B10.out.at 8 rfl
      by_cases hn : n1 > 0
      · obtain ⟨rfl, rfl⟩ := HV1.out hn
        clear HV1 HV2
        go_wp2
        go_roundg (gk - 1)
        case measure => have := HM.out; omega
        case rel => have := HM.out; have := HN.out; exact ⟨j + 1, by go_num, by go_num, by omega, by omega, K10⟩
      · obtain ⟨rfl, rfl⟩ := HV2.out (by omega)
        clear HV1 HV2
        go_wp2
        go_roundg (gk - 1)
        case measure => have := HM.out; omega
        case rel => have := HM.out; have := HN.out; exact ⟨j + 1, by go_num, by go_num, by omega, by omega, K10⟩
    · obtain rfl : j = 2 := by omega
      have e2 : 8 * n0 + ((2 : Nat) : Int) * n1 = 8 * n0 + 2 * n1 := by simp
      rw [e2]
      clear e2
      have K8 : Hid (Kept w wr) := K8
      clear KK
      have c0 := B8.out.at 0 rfl
      have c1 := B8.out.at 1 rfl
      have c2 := B8.out.at 2 rfl
      have c3 := B8.out.at 3 rfl
      have c4 := B8.out.at 4 rfl
      have c5 := B8.out.at 5 rfl
      have c6 := B8.out.at 6 rfl
      have c7 := B8.out.at 7 rfl
      have c8 := B8.out.at 8 rfl
      go_wp2_with fail
      refine (G0.out  _ (HS.out.kept K8.out)).mono ?_
      rintro e w9 ⟨rfl, K⟩
      have B9 : Hid (Blk w9 w.heap.size _) := B8.out.kept K
      have K9 : Hid (Kept w w9) := K8.out.trans K
      clear K B8 K8 c0 c1 c2 c3 c4 c5 c6 c7 c8
      have c0 := B9.out.at 0 rfl
      have c1 := B9.out.at 1 rfl
      have c2 := B9.out.at 2 rfl
      have c3 := B9.out.at 3 rfl
      have c4 := B9.out.at 4 rfl
      have c5 := B9.out.at 5 rfl
      have c6 := B9.out.at 6 rfl
      have c7 := B9.out.at 7 rfl
      have c8 := B9.out.at 8 rfl
      go_wp2_with fail
      refine (GN.out  _ (HS.out.kept K9.out)).mono ?_
      rintro e w10 ⟨rfl, K⟩
      have B10 : Hid (Blk w10 w.heap.size _) := B9.out.kept K
      have K10 : Hid (Kept w w10) := K9.out.trans K
      clear K B9 K9 c0 c1 c2 c3 c4 c5 c6 c7 c8
      have c0 := B10.out.at 0 rfl
      have c1 := B10.out.at 1 rfl
      have c2 := B10.out.at 2 rfl
      have c3 := B10.out.at 3 rfl
      have c4 := B10.out.at 4 rfl
      have c5 := B10.out.at 5 rfl
      have c6 := B10.out.at 6 rfl
      have c7 := B10.out.at 7 rfl
      have c8 := B10.out.at 8 rfl
      go_wp2_with fail
      refine (S2.out  _ (HS.out.kept K10.out)).mono ?_
      rintro e w11 ⟨rfl, K⟩
      have B11 : Hid (Blk w11 w.heap.size _) := B10.out.kept K
      have K11 : Hid (Kept w w11) := K10.out.trans K
      clear K B10 K10 c0 c1 c2 c3 c4 c5 c6 c7 c8
      have c0 := B11.out.at 0 rfl
      have c1 := B11.out.at 1 rfl
      have c2 := B11.out.at 2 rfl
      have c3 := B11.out.at 3 rfl
      have c4 := B11.out.at 4 rfl
      have c5 := B11.out.at 5 rfl
      have c6 := B11.out.at 6 rfl
      have c7 := B11.out.at 7 rfl
      have c8 := B11.out.at 8 rfl
      go_wp2_with fail
      refine (first_any _).mono ?_
      rintro e w12 ⟨rfl, K⟩
      have B12 : Hid (Blk w12 w.heap.size _) := B11.out.kept K
      have K12 : Hid (Kept w w12) := K11.out.trans K
      clear K B11 K11 c0 c1 c2 c3 c4 c5 c6 c7 c8
      have c0 := B12.out.at 0 rfl
      have c1 := B12.out.at 1 rfl
      have c2 := B12.out.at 2 rfl
      have c3 := B12.out.at 3 rfl
      have c4 := B12.out.at 4 rfl
      have c5 := B12.out.at 5 rfl
      have c6 := B12.out.at 6 rfl
      have c7 := B12.out.at 7 rfl
      have c8 := B12.out.at 8 rfl
      by_cases hn : n2 > 0
      · obtain ⟨rfl, rfl⟩ := V1.out hn
        clear V1 V2
        go_wp2
        go_ret
        exact ⟨rfl, K12.out⟩
      · obtain ⟨rfl, rfl⟩ := V2.out (by omega)
        clear V1 V2
        go_wp2
        go_ret
        exact ⟨by (first | rfl | (have hd : decide (0 < n2) = false := decide_eq_false (by omega); rw [hd]; rfl)), K12.out⟩

theorem areaEdges_any (n0 n1 n2 n3 n4 n5 n6 n7 : Int) (x8 : Option Addr) (l8 c8 : Nat) (S8 : Nat → Sh) (R8 : Nat → Nat → Bool) (w : World) (_lo0 : IntKind.min .i64 ≤ n0) (_hi0 : n0 ≤ IntKind.max .i64) (_lo1 : IntKind.min .i64 ≤ n1) (_hi1 : n1 ≤ IntKind.max .i64) (_lo2 : IntKind.min .i64 ≤ n2) (_hi2 : n2 ≤ IntKind.max .i64) (_lo3 : IntKind.min .i64 ≤ n3) (_hi3 : n3 ≤ IntKind.max .i64) (_lo4 : IntKind.min .i64 ≤ n4) (_hi4 : n4 ≤ IntKind.max .i64) (_lo5 : IntKind.min .i64 ≤ n5) (_hi5 : n5 ≤ IntKind.max .i64) (_lo6 : IntKind.min .i64 ≤ n6) (_hi6 : n6 ≤ IntKind.max .i64) (_lo7 : IntKind.min .i64 ≤ n7) (_hi7 : n7 ≤ IntKind.max .i64) (_h8c : l8 ≤ c8) (hS8 : Shps w x8 l8 S8) (_hR8 : ∀ i, i < l8 → Refs w (S8 i).x (S8 i).l (R8 i)) :
    Calls Try.prog 5 #[.agg #[.int .i64 n0, .int .i64 n1, .int .i64 n2, .int .i64 n3, .int .i64 n4, .int .i64 n5, .int .i64 n6, .int .i64 n7, .slice x8 l8 c8]] w fun e w' => e = .returned (.bool true) ∧ Kept w w' := by
  by_cases hf : Small l8 S8
  · by_cases hg : Good n0 n1 n2 n3 n4 n5 n6 n7 l8 S8
    · exact edges_good n0 n1 n2 n3 n4 n5 n6 n7 x8 l8 c8 S8 w hS8 hf hg
    · exact edges_bad n0 n1 n2 n3 n4 n5 n6 n7 x8 l8 c8 S8 w hS8 hf hg
  · exact edges_many n0 n1 n2 n3 n4 n5 n6 n7 x8 l8 c8 S8 w hS8 hf
end Go.Proofs.Ytdmempomofpodaa
