/-
  AreaFrags: the walk.
-/
import Derived.Test.YtdmempomofpodaaFirst5
import Derived.Test.YtdmempomofpodaaOpen
namespace Go.Proofs.Ytdmempomofpodaa
open Go.RowKit

set_option maxHeartbeats 2000000 in
theorem frags_many (n0 n1 n2 n3 n4 n5 n6 n7 : Int) (x : Option Addr) (l c : Nat) (S : Nat → Sh) (i : Int) (w : World) (hS : Shps w x l S) (hf : ¬ Small l S) :
    Calls Try.prog 6 #[.agg #[.int .i64 n0, .int .i64 n1, .int .i64 n2, .int .i64 n3, .int .i64 n4, .int .i64 n5, .int .i64 n6, .int .i64 n7, .slice x l c], .int .i64 i] w fun e w' => e = .returned (.bool true) ∧ Kept w w' := by
  have HS : Hid (Shps w x l S) := hS
  have F : Hid (∀ w, Shps w x l S → _) := fun w h => few_any n0 n1 n2 n3 n4 n5 n6 n7 x l c S false w h (by simp [hf])
  clear hS
  go_enter Try.func6, Try.ntmps6
  go_wp2_with fail
  generalize hW1 : w.alloc _ = W1
  have B1 : Hid (Blk W1 w.heap.size (cl n0 n1 n2 n3 n4 n5 n6 n7 (.slice x l c))) := by rw [← hW1]; exact Blk.new w _ _
  have K1 : Hid (Kept w W1) := by rw [← hW1]; exact (Kept.refl w).alloc _ _
  clear hW1
  refine (first_any _).mono ?_
  rintro e w2 ⟨rfl, K⟩
  have B2 : Hid (Blk w2 w.heap.size _) := B1.out.kept K
  have K2 : Hid (Kept w w2) := K1.out.trans K
  clear K K1 B1
  have c0 := B2.out.at 0 rfl
  have c1 := B2.out.at 1 rfl
  have c2 := B2.out.at 2 rfl
  have c3 := B2.out.at 3 rfl
  have c4 := B2.out.at 4 rfl
  have c5 := B2.out.at 5 rfl
  have c6 := B2.out.at 6 rfl
  have c7 := B2.out.at 7 rfl
  have c8 := B2.out.at 8 rfl
  go_wp2_with fail
  refine (F.out _ (HS.out.kept K2.out)).mono ?_
  rintro e w3 ⟨rfl, K⟩
  have B3 : Hid (Blk w3 w.heap.size _) := B2.out.kept K
  have K3 : Hid (Kept w w3) := K2.out.trans K
  clear K B2 K2 c0 c1 c2 c3 c4 c5 c6 c7 c8
  go_wp2_with fail
  refine (first_any _).mono ?_
  rintro e w9 ⟨rfl, K⟩
  have K9 : Hid (Kept w w9) := K3.out.trans K
  clear K
  go_wp2
  go_ret
  exact ⟨rfl, K9.out⟩

set_option maxHeartbeats 2000000 in
theorem frags_bad (n0 n1 n2 n3 n4 n5 n6 n7 : Int) (x : Option Addr) (l c : Nat) (S : Nat → Sh) (i : Int) (w : World) (hS : Shps w x l S) (hf : Small l S) (hb : ¬ Good n0 n1 n2 n3 n4 n5 n6 n7 l S) :
    Calls Try.prog 6 #[.agg #[.int .i64 n0, .int .i64 n1, .int .i64 n2, .int .i64 n3, .int .i64 n4, .int .i64 n5, .int .i64 n6, .int .i64 n7, .slice x l c], .int .i64 i] w fun e w' => e = .returned (.bool true) ∧ Kept w w' := by
  have HS : Hid (Shps w x l S) := hS
  have F : Hid (∀ w, Shps w x l S → _) := fun w h => few_any n0 n1 n2 n3 n4 n5 n6 n7 x l c S true w h (by simp [hf])
  obtain ⟨r, hr, hr3⟩ := Checks.some n0 n1 n2 n3 n4 n5 n6 n7 l S
  have C : Hid (∀ w, Shps w x l S → _) := fun w h => check_any n0 n1 n2 n3 n4 n5 n6 n7 x l c S r w h hr
  have h1 : (r != 0) = true := by
    simp only [bne_iff_ne, ne_eq]
    intro e
    subst e
    exact hb hr.zero
  clear hS hr hb hr3
  go_enter Try.func6, Try.ntmps6
  go_wp2_with fail
  generalize hW1 : w.alloc _ = W1
  have B1 : Hid (Blk W1 w.heap.size (cl n0 n1 n2 n3 n4 n5 n6 n7 (.slice x l c))) := by rw [← hW1]; exact Blk.new w _ _
  have K1 : Hid (Kept w W1) := by rw [← hW1]; exact (Kept.refl w).alloc _ _
  clear hW1
  refine (first_any _).mono ?_
  rintro e w2 ⟨rfl, K⟩
  have B2 : Hid (Blk w2 w.heap.size _) := B1.out.kept K
  have K2 : Hid (Kept w w2) := K1.out.trans K
  clear K K1 B1
  have c0 := B2.out.at 0 rfl
  have c1 := B2.out.at 1 rfl
  have c2 := B2.out.at 2 rfl
  have c3 := B2.out.at 3 rfl
  have c4 := B2.out.at 4 rfl
  have c5 := B2.out.at 5 rfl
  have c6 := B2.out.at 6 rfl
  have c7 := B2.out.at 7 rfl
  have c8 := B2.out.at 8 rfl
  go_wp2_with fail
  refine (F.out _ (HS.out.kept K2.out)).mono ?_
  rintro e w3 ⟨rfl, K⟩
  have B3 : Hid (Blk w3 w.heap.size _) := B2.out.kept K
  have K3 : Hid (Kept w w3) := K2.out.trans K
  clear K B2 K2 c0 c1 c2 c3 c4 c5 c6 c7 c8
  have c0 := B3.out.at 0 rfl
  have c1 := B3.out.at 1 rfl
  have c2 := B3.out.at 2 rfl
  have c3 := B3.out.at 3 rfl
  have c4 := B3.out.at 4 rfl
  have c5 := B3.out.at 5 rfl
  have c6 := B3.out.at 6 rfl
  have c7 := B3.out.at 7 rfl
  have c8 := B3.out.at 8 rfl
  go_wp2_with fail
  refine (C.out _ (HS.out.kept K3.out)).mono ?_
  rintro e w4 ⟨rfl, K⟩
  have B4 : Hid (Blk w4 w.heap.size _) := B3.out.kept K
  have K4 : Hid (Kept w w4) := K3.out.trans K
  clear K B3 K3 c0 c1 c2 c3 c4 c5 c6 c7 c8
  go_wp2_with fail
  refine (first_any _).mono ?_
  rintro e w9 ⟨rfl, K⟩
  have K9 : Hid (Kept w w9) := K4.out.trans K
  clear K
  go_wp2
  go_ret
  exact ⟨rfl, K9.out⟩

set_option maxHeartbeats 2000000 in
theorem frags_out (n0 n1 n2 n3 n4 n5 n6 n7 : Int) (x : Option Addr) (l c : Nat) (S : Nat → Sh) (i : Int) (w : World) (hS : Shps w x l S) (hf : Small l S) (hg : Good n0 n1 n2 n3 n4 n5 n6 n7 l S) (hi : i < 0 ∨ n0 ≤ i) :
    Calls Try.prog 6 #[.agg #[.int .i64 n0, .int .i64 n1, .int .i64 n2, .int .i64 n3, .int .i64 n4, .int .i64 n5, .int .i64 n6, .int .i64 n7, .slice x l c], .int .i64 i] w fun e w' => e = .returned (.bool true) ∧ Kept w w' := by
  have HS : Hid (Shps w x l S) := hS
  have F : Hid (∀ w, Shps w x l S → _) := fun w h => few_any n0 n1 n2 n3 n4 n5 n6 n7 x l c S true w h (by simp [hf])
  have C : Hid (∀ w, Shps w x l S → Calls Try.prog 19 #[.agg #[.int .i64 n0, .int .i64 n1, .int .i64 n2, .int .i64 n3, .int .i64 n4, .int .i64 n5, .int .i64 n6, .int .i64 n7, .slice x l c]] w fun e w' => e = .returned (.int .i64 0) ∧ Kept w w') := fun w h => check_any n0 n1 n2 n3 n4 n5 n6 n7 x l c S 0 w h (Checks.of_ok hg.1 hg.2)
  clear hS hg
  go_enter Try.func6, Try.ntmps6
  go_wp2_with fail
  generalize hW1 : w.alloc _ = W1
  have B1 : Hid (Blk W1 w.heap.size (cl n0 n1 n2 n3 n4 n5 n6 n7 (.slice x l c))) := by rw [← hW1]; exact Blk.new w _ _
  have K1 : Hid (Kept w W1) := by rw [← hW1]; exact (Kept.refl w).alloc _ _
  clear hW1
  refine (first_any _).mono ?_
  rintro e w2 ⟨rfl, K⟩
  have B2 : Hid (Blk w2 w.heap.size _) := B1.out.kept K
  have K2 : Hid (Kept w w2) := K1.out.trans K
  clear K K1 B1
  have c0 := B2.out.at 0 rfl
  have c1 := B2.out.at 1 rfl
  have c2 := B2.out.at 2 rfl
  have c3 := B2.out.at 3 rfl
  have c4 := B2.out.at 4 rfl
  have c5 := B2.out.at 5 rfl
  have c6 := B2.out.at 6 rfl
  have c7 := B2.out.at 7 rfl
  have c8 := B2.out.at 8 rfl
  go_wp2_with fail
  refine (F.out _ (HS.out.kept K2.out)).mono ?_
  rintro e w3 ⟨rfl, K⟩
  have B3 : Hid (Blk w3 w.heap.size _) := B2.out.kept K
  have K3 : Hid (Kept w w3) := K2.out.trans K
  clear K B2 K2 c0 c1 c2 c3 c4 c5 c6 c7 c8
  have c0 := B3.out.at 0 rfl
  have c1 := B3.out.at 1 rfl
  have c2 := B3.out.at 2 rfl
  have c3 := B3.out.at 3 rfl
  have c4 := B3.out.at 4 rfl
  have c5 := B3.out.at 5 rfl
  have c6 := B3.out.at 6 rfl
  have c7 := B3.out.at 7 rfl
  have c8 := B3.out.at 8 rfl
  go_wp2_with fail
  refine (C.out _ (HS.out.kept K3.out)).mono ?_
  rintro e w4 ⟨rfl, K⟩
  have B4 : Hid (Blk w4 w.heap.size _) := B3.out.kept K
  have K4 : Hid (Kept w w4) := K3.out.trans K
  clear K B3 K3 c0 c1 c2 c3 c4 c5 c6 c7 c8
  have c0 := B4.out.at 0 rfl
  have c1 := B4.out.at 1 rfl
  have c2 := B4.out.at 2 rfl
  have c3 := B4.out.at 3 rfl
  have c4 := B4.out.at 4 rfl
  have c5 := B4.out.at 5 rfl
  have c6 := B4.out.at 6 rfl
  have c7 := B4.out.at 7 rfl
  have c8 := B4.out.at 8 rfl
  by_cases h0 : i < 0
  · go_wp2_with fail
    refine (first_any _).mono ?_
    rintro e w9 ⟨rfl, K⟩
    have K9 : Hid (Kept w w9) := K4.out.trans K
    clear K
    go_wp2
    go_ret
    exact ⟨rfl, K9.out⟩
  · have h1 : i ≥ n0 := by omega
    go_wp2_with fail
    refine (first_any _).mono ?_
    rintro e w9 ⟨rfl, K⟩
    have K9 : Hid (Kept w w9) := K4.out.trans K
    clear K
    go_wp2
    go_ret
    exact ⟨rfl, K9.out⟩

theorem ofis_frag {P : Prop} {n0 n1 n2 : Int} (i k : Int) (hi : 0 ≤ i ∧ i < n0) (hk : 0 ≤ k ∧ k < 8) (h1 : 0 ≤ n1) (h2 : 0 ≤ n2) (hp : P) : OfIs P n0 n1 n2 (8 * i + k) 1 i k :=
  ⟨fun n => absurd ⟨hp, by omega, by omega⟩ n, fun _ _ _ => ⟨rfl, by omega, by omega⟩, fun _ _ _ => by omega, fun _ _ _ => by omega, fun _ _ _ => by omega⟩

set_option maxHeartbeats 4000000 in
theorem frags_good (n0 n1 n2 n3 n4 n5 n6 n7 : Int) (x : Option Addr) (l c : Nat) (S : Nat → Sh) (i : Int) (w : World) (hS : Shps w x l S) (hf : Small l S) (hg : Good n0 n1 n2 n3 n4 n5 n6 n7 l S) (hi : 0 ≤ i ∧ i < n0) :
    Calls Try.prog 6 #[.agg #[.int .i64 n0, .int .i64 n1, .int .i64 n2, .int .i64 n3, .int .i64 n4, .int .i64 n5, .int .i64 n6, .int .i64 n7, .slice x l c], .int .i64 i] w fun e w' => e = .returned (.bool true) ∧ Kept w w' := by
  have HS : Hid (Shps w x l S) := hS
  have F : Hid (∀ w, Shps w x l S → _) := fun w h => few_any n0 n1 n2 n3 n4 n5 n6 n7 x l c S true w h (by simp [hf])
  have C : Hid (∀ w, Shps w x l S → Calls Try.prog 19 #[.agg #[.int .i64 n0, .int .i64 n1, .int .i64 n2, .int .i64 n3, .int .i64 n4, .int .i64 n5, .int .i64 n6, .int .i64 n7, .slice x l c]] w fun e w' => e = .returned (.int .i64 0) ∧ Kept w w') := fun w h => check_any n0 n1 n2 n3 n4 n5 n6 n7 x l c S 0 w h (Checks.of_ok hg.1 hg.2)
  obtain ⟨⟨⟨a0, a1⟩, ⟨a2, a3⟩, ⟨a4, a5⟩, fr⟩, hm⟩ := id hg
  have FR : Hid (∀ k : Int, 0 ≤ k ∧ k < 8 → ∀ w, Shps w x l S → _) := fun k hk w h => frag_any n0 n1 n2 n3 n4 n5 n6 n7 x l c S i k (8 * i + k) 0 w h ⟨fun _ => ⟨by omega, rfl⟩, fun n => absurd ⟨hg, hi, hk⟩ n⟩
  have OF : Hid (∀ k : Int, 0 ≤ k ∧ k < 8 → ∀ w, Shps w x l S → _) := fun k hk w h => of_any n0 n1 n2 n3 n4 n5 n6 n7 x l c S (8 * i + k) 1 i k w h (ofis_frag i k hi hk (by omega) (by omega) hg)
  have FN : Hid (∀ w, Shps w x l S → _) := fun w h => frag_any n0 n1 n2 n3 n4 n5 n6 n7 x l c S i (-1) 0 1 w h (At.not _ fun y => by omega)
  have WC : Hid (∀ w, Shps w x l S → Calls Try.prog 17 #[.agg #[.int .i64 n0, .int .i64 n1, .int .i64 n2, .int .i64 n3, .int .i64 n4, .int .i64 n5, .int .i64 n6, .int .i64 n7, .slice x l c]] w fun e w' => e = .returned (.int .i64 (8 * n0 + 2 * n1 + n2)) ∧ Kept w w') := fun w h => words_any n0 n1 n2 n3 n4 n5 n6 n7 x l c S _ w h (Is.is _ hg)
  have WD : Hid (∀ w, Shps w x l S → Calls Try.prog 17 #[.agg #[.int .i64 n0, .int .i64 n1, .int .i64 0, .int .i64 n3, .int .i64 n4, .int .i64 n5, .int .i64 n6, .int .i64 n7, .slice x l c]] w fun e w' => e = .returned (.int .i64 (8 * n0 + 2 * n1)) ∧ Kept w w') := fun w h => words_any n0 n1 0 n3 n4 n5 n6 n7 x l c S _ w h ⟨fun _ => by omega, fun n => absurd ⟨⟨⟨a0, a1⟩, ⟨a2, a3⟩, by omega, fr⟩, hm⟩ n⟩
  have i0 : ¬ i < 0 := by omega
  have i1 : ¬ i ≥ n0 := by omega
  clear hS hg hf fr hm hi
  go_enter Try.func6, Try.ntmps6
  go_wp2_with fail
  generalize hW1 : w.alloc _ = W1
  have B1 : Hid (Blk W1 w.heap.size (cl n0 n1 n2 n3 n4 n5 n6 n7 (.slice x l c))) := by rw [← hW1]; exact Blk.new w _ _
  have K1 : Hid (Kept w W1) := by rw [← hW1]; exact (Kept.refl w).alloc _ _
  clear hW1
  refine (first_any _).mono ?_
  rintro e w2 ⟨rfl, K⟩
  have B2 : Hid (Blk w2 w.heap.size _) := B1.out.kept K
  have K2 : Hid (Kept w w2) := K1.out.trans K
  clear K K1 B1
  have c0 := B2.out.at 0 rfl
  have c1 := B2.out.at 1 rfl
  have c2 := B2.out.at 2 rfl
  have c3 := B2.out.at 3 rfl
  have c4 := B2.out.at 4 rfl
  have c5 := B2.out.at 5 rfl
  have c6 := B2.out.at 6 rfl
  have c7 := B2.out.at 7 rfl
  have c8 := B2.out.at 8 rfl
  go_wp2_with fail
  refine (F.out _ (HS.out.kept K2.out)).mono ?_
  rintro e w3 ⟨rfl, K⟩
  have B3 : Hid (Blk w3 w.heap.size _) := B2.out.kept K
  have K3 : Hid (Kept w w3) := K2.out.trans K
  clear K B2 K2 c0 c1 c2 c3 c4 c5 c6 c7 c8
  have c0 := B3.out.at 0 rfl
  have c1 := B3.out.at 1 rfl
  have c2 := B3.out.at 2 rfl
  have c3 := B3.out.at 3 rfl
  have c4 := B3.out.at 4 rfl
  have c5 := B3.out.at 5 rfl
  have c6 := B3.out.at 6 rfl
  have c7 := B3.out.at 7 rfl
  have c8 := B3.out.at 8 rfl
  go_wp2_with fail
  refine (C.out _ (HS.out.kept K3.out)).mono ?_
  rintro e w4 ⟨rfl, K⟩
  have B4 : Hid (Blk w4 w.heap.size _) := B3.out.kept K
  have K4 : Hid (Kept w w4) := K3.out.trans K
  clear K B3 K3 c0 c1 c2 c3 c4 c5 c6 c7 c8
  have c0 := B4.out.at 0 rfl
  have c1 := B4.out.at 1 rfl
  have c2 := B4.out.at 2 rfl
  have c3 := B4.out.at 3 rfl
  have c4 := B4.out.at 4 rfl
  have c5 := B4.out.at 5 rfl
  have c6 := B4.out.at 6 rfl
  have c7 := B4.out.at 7 rfl
  have c8 := B4.out.at 8 rfl
  go_wp2_with fail
  clear c0 c1 c2 c3 c4 c5 c6 c7 c8
  go_loopg [5] 8 (fun m k wr => ∃ j : Nat, k = .int .i64 j ∧ j ≤ 8 ∧ m = 8 - j ∧ Hid (Kept w4 wr))
  case atStart => exact ⟨0, rfl, by omega, by omega, Kept.refl _⟩
  case round =>
    obtain ⟨j, rfl, hj, hm, KK⟩ := hrel
    have HM : Hid _ := hm
    clear hm
    have B5 : Hid (Blk wr w.heap.size _) := B4.out.kept KK.out
    have K5 : Hid (Kept w wr) := K4.out.trans KK.out
    by_cases hlt : j < 8
    · have KR : Hid (Kept w4 wr) := KK
      have c0 := B5.out.at 0 rfl
      have c1 := B5.out.at 1 rfl
      have c2 := B5.out.at 2 rfl
      have c3 := B5.out.at 3 rfl
      have c4 := B5.out.at 4 rfl
      have c5 := B5.out.at 5 rfl
      have c6 := B5.out.at 6 rfl
      have c7 := B5.out.at 7 rfl
      have c8 := B5.out.at 8 rfl
      go_wp2_with fail
      refine (FR.out j (by omega) _ (HS.out.kept K5.out)).mono ?_
      rintro e w6 ⟨rfl, K⟩
      have B6 : Hid (Blk w6 w.heap.size _) := B5.out.kept K
      have K6 : Hid (Kept w4 w6) := KR.out.trans K
      clear K B5 KR c0 c1 c2 c3 c4 c5 c6 c7 c8
      have c0 := B6.out.at 0 rfl
      have c1 := B6.out.at 1 rfl
      have c2 := B6.out.at 2 rfl
      have c3 := B6.out.at 3 rfl
      have c4 := B6.out.at 4 rfl
      have c5 := B6.out.at 5 rfl
      have c6 := B6.out.at 6 rfl
      have c7 := B6.out.at 7 rfl
      have c8 := B6.out.at 8 rfl
      go_wp2_with fail
      refine (OF.out j (by omega) _ (HS.out.kept (K4.out.trans K6.out))).mono ?_
      rintro e w7 ⟨rfl, K⟩
      have K7 : Hid (Kept w4 w7) := K6.out.trans K
      clear K B6 K6 c0 c1 c2 c3 c4 c5 c6 c7 c8
      go_wp2
      go_roundg (gk - 1)
      case measure => have := HM.out; omega
      case rel => have := HM.out; exact ⟨j + 1, by go_num, by omega, by omega, K7⟩
    · obtain rfl : j = 8 := by omega
      have c0 := B5.out.at 0 rfl
      have c1 := B5.out.at 1 rfl
      have c2 := B5.out.at 2 rfl
      have c3 := B5.out.at 3 rfl
      have c4 := B5.out.at 4 rfl
      have c5 := B5.out.at 5 rfl
      have c6 := B5.out.at 6 rfl
      have c7 := B5.out.at 7 rfl
      have c8 := B5.out.at 8 rfl
      have q0 := fun A t => (((Kept.refl wr).alloc A t).cell B5.out.lt).trans c0
      have q1 := fun A t => (((Kept.refl wr).alloc A t).cell B5.out.lt).trans c1
      have q2 := fun A t => (((Kept.refl wr).alloc A t).cell B5.out.lt).trans c2
      have q3 := fun A t => (((Kept.refl wr).alloc A t).cell B5.out.lt).trans c3
      have q4 := fun A t => (((Kept.refl wr).alloc A t).cell B5.out.lt).trans c4
      have q5 := fun A t => (((Kept.refl wr).alloc A t).cell B5.out.lt).trans c5
      have q6 := fun A t => (((Kept.refl wr).alloc A t).cell B5.out.lt).trans c6
      have q7 := fun A t => (((Kept.refl wr).alloc A t).cell B5.out.lt).trans c7
      have q8 := fun A t => (((Kept.refl wr).alloc A t).cell B5.out.lt).trans c8
      go_wp2_with fail
      generalize hW6 : wr.alloc _ = W6
      have k6 : Kept wr W6 := by rw [← hW6]; exact (Kept.refl wr).alloc _ _
      have d6 : Blk W6 wr.heap.size (cl n0 n1 0 n3 n4 n5 n6 n7 (.slice x l c)) := by rw [← hW6]; exact Blk.new wr _ _
      have e6 := B5.out.kept k6
      have K6 : Hid (Kept w W6) := K5.out.trans k6
      clear hW6 c0 c1 c2 c3 c4 c5 c6 c7 c8 q0 q1 q2 q3 q4 q5 q6 q7 q8
      refine (FN.out _ (HS.out.kept K6.out)).mono ?_
      rintro e w7 ⟨rfl, K⟩
      have D7 : Hid (Blk w7 wr.heap.size _) := d6.kept K
      have E7 : Hid (Blk w7 w.heap.size _) := e6.kept K
      have K7 : Hid (Kept w w7) := K6.out.trans K
      have S7 : Hid (∀ z : KW w7, Shps z.it x l S) := fun z => (HS.out.kept K7.out).kept z.ok
      clear K k6 d6 e6 K6 K5 B5 KK
      go_wp2_with fail
      have d0 := fun z : KW w7 => z.cell D7.out.lt (D7.out.at 0 rfl)
      have d1 := fun z : KW w7 => z.cell D7.out.lt (D7.out.at 1 rfl)
      have d2 := fun z : KW w7 => z.cell D7.out.lt (D7.out.at 2 rfl)
      have d3 := fun z : KW w7 => z.cell D7.out.lt (D7.out.at 3 rfl)
      have d4 := fun z : KW w7 => z.cell D7.out.lt (D7.out.at 4 rfl)
      have d5 := fun z : KW w7 => z.cell D7.out.lt (D7.out.at 5 rfl)
      have d6 := fun z : KW w7 => z.cell D7.out.lt (D7.out.at 6 rfl)
      have d7 := fun z : KW w7 => z.cell D7.out.lt (D7.out.at 7 rfl)
      have d8 := fun z : KW w7 => z.cell D7.out.lt (D7.out.at 8 rfl)
      have e0 := fun z : KW w7 => z.cell E7.out.lt (E7.out.at 0 rfl)
      have e1 := fun z : KW w7 => z.cell E7.out.lt (E7.out.at 1 rfl)
      have e2 := fun z : KW w7 => z.cell E7.out.lt (E7.out.at 2 rfl)
      have e3 := fun z : KW w7 => z.cell E7.out.lt (E7.out.at 3 rfl)
      have e4 := fun z : KW w7 => z.cell E7.out.lt (E7.out.at 4 rfl)
      have e5 := fun z : KW w7 => z.cell E7.out.lt (E7.out.at 5 rfl)
      have e6 := fun z : KW w7 => z.cell E7.out.lt (E7.out.at 6 rfl)
      have e7 := fun z : KW w7 => z.cell E7.out.lt (E7.out.at 7 rfl)
      have e8 := fun z : KW w7 => z.cell E7.out.lt (E7.out.at 8 rfl)
      refine wp_region_kept (by kernel_rfl) (by kernel_rfl) fun _ => ?_
      repeat (go_big_quiet_step (first | (go_at_call 7; exact kept_of (first_any _)) | (go_at_call_of 17 (#[Value.agg #[Value.int .i64 n0, Value.int .i64 n1, Value.int .i64 0, Value.int .i64 n3, Value.int .i64 n4, Value.int .i64 n5, Value.int .i64 n6, Value.int .i64 n7, Value.slice x l c]]); exact kept_of (WD.out _ (S7.out _))) | (go_at_call_of 17 (#[Value.agg #[Value.int .i64 n0, Value.int .i64 n1, Value.int .i64 n2, Value.int .i64 n3, Value.int .i64 n4, Value.int .i64 n5, Value.int .i64 n6, Value.int .i64 n7, Value.slice x l c]]); exact kept_of (WC.out _ (S7.out _)))))
      refine wpQuiet_nil ?_
      rintro _ ⟨z, rfl⟩
      clear d0 d1 d2 d3 d4 d5 d6 d7 d8 e0 e1 e2 e3 e4 e5 e6 e7 e8
      go_wp2
      go_ret
      exact ⟨rfl, K7.out.trans z.ok⟩

theorem areaFrags_any (n0 n1 n2 n3 n4 n5 n6 n7 : Int) (x8 : Option Addr) (l8 c8 : Nat) (S8 : Nat → Sh) (R8 : Nat → Nat → Bool) (n9 : Int) (w : World) (_lo0 : IntKind.min .i64 ≤ n0) (_hi0 : n0 ≤ IntKind.max .i64) (_lo1 : IntKind.min .i64 ≤ n1) (_hi1 : n1 ≤ IntKind.max .i64) (_lo2 : IntKind.min .i64 ≤ n2) (_hi2 : n2 ≤ IntKind.max .i64) (_lo3 : IntKind.min .i64 ≤ n3) (_hi3 : n3 ≤ IntKind.max .i64) (_lo4 : IntKind.min .i64 ≤ n4) (_hi4 : n4 ≤ IntKind.max .i64) (_lo5 : IntKind.min .i64 ≤ n5) (_hi5 : n5 ≤ IntKind.max .i64) (_lo6 : IntKind.min .i64 ≤ n6) (_hi6 : n6 ≤ IntKind.max .i64) (_lo7 : IntKind.min .i64 ≤ n7) (_hi7 : n7 ≤ IntKind.max .i64) (_h8c : l8 ≤ c8) (hS8 : Shps w x8 l8 S8) (_hR8 : ∀ i, i < l8 → Refs w (S8 i).x (S8 i).l (R8 i)) (_lo9 : IntKind.min .i64 ≤ n9) (_hi9 : n9 ≤ IntKind.max .i64) :
    Calls Try.prog 6 #[.agg #[.int .i64 n0, .int .i64 n1, .int .i64 n2, .int .i64 n3, .int .i64 n4, .int .i64 n5, .int .i64 n6, .int .i64 n7, .slice x8 l8 c8], .int .i64 n9] w fun e w' => e = .returned (.bool true) ∧ Kept w w' := by
  by_cases hf : Small l8 S8
  · by_cases hg : Good n0 n1 n2 n3 n4 n5 n6 n7 l8 S8
    · by_cases hi : 0 ≤ n9 ∧ n9 < n0
      · exact frags_good n0 n1 n2 n3 n4 n5 n6 n7 x8 l8 c8 S8 n9 w hS8 hf hg hi
      · exact frags_out n0 n1 n2 n3 n4 n5 n6 n7 x8 l8 c8 S8 n9 w hS8 hf hg (by omega)
    · exact frags_bad n0 n1 n2 n3 n4 n5 n6 n7 x8 l8 c8 S8 n9 w hS8 hf hg
  · exact frags_many n0 n1 n2 n3 n4 n5 n6 n7 x8 l8 c8 S8 n9 w hS8 hf
end Go.Proofs.Ytdmempomofpodaa
