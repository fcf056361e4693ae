/-
  AreaEach: the walk.
-/
import Derived.Test.YtdmempomofpodaaFirst5
import Derived.Test.YtdmempomofpodaaRefCheck
import Derived.Test.YtdmempomofpodaaOpen
namespace Go.Proofs.Ytdmempomofpodaa
open Go.RowKit

set_option maxRecDepth 20000 in
set_option maxHeartbeats 2000000 in
theorem each_many (n0 n1 n2 n3 n4 n5 n6 n7 : Int) (x : Option Addr) (l c : Nat) (S : Nat → Sh) (w : World) (hS : Shps w x l S) (hf : ¬ Small l S) :
    Calls Try.prog 4 #[.agg #[.int .i64 n0, .int .i64 n1, .int .i64 n2, .int .i64 n3, .int .i64 n4, .int .i64 n5, .int .i64 n6, .int .i64 n7, .slice x l c]] w fun e w' => e = .returned (.bool true) ∧ Kept w w' := by
  have HS : Hid (Shps w x l S) := hS
  have F : Hid (∀ w, Shps w x l S → _) := fun w h => few_any n0 n1 n2 n3 n4 n5 n6 n7 x l c S false w h (by simp [hf])
  clear hS
  go_enter Try.func4, Try.ntmps4
  go_wp2_with fail
  generalize hW1 : w.alloc _ = W1
  have B1 : Hid (Blk W1 w.heap.size (cl n0 n1 n2 n3 n4 n5 n6 n7 (.slice x l c))) := by rw [← hW1]; exact Blk.new w _ _
  have K1 : Hid (Kept w W1) := by rw [← hW1]; exact (Kept.refl w).alloc _ _
  clear hW1
  refine (first_any _).mono ?_
  rintro e w2 ⟨rfl, K⟩
  have B2 : Hid (Blk w2 w.heap.size _) := B1.out.kept K
  have K2 : Hid (Kept w w2) := K1.out.trans K
  clear K K1 B1
  have c0 := B2.out.at 0 rfl
  have c1 := B2.out.at 1 rfl
  have c2 := B2.out.at 2 rfl
  have c3 := B2.out.at 3 rfl
  have c4 := B2.out.at 4 rfl
  have c5 := B2.out.at 5 rfl
  have c6 := B2.out.at 6 rfl
  have c7 := B2.out.at 7 rfl
  have c8 := B2.out.at 8 rfl
  go_wp2_with fail
  refine (F.out _ (HS.out.kept K2.out)).mono ?_
  rintro e w3 ⟨rfl, K⟩
  have B3 : Hid (Blk w3 w.heap.size _) := B2.out.kept K
  have K3 : Hid (Kept w w3) := K2.out.trans K
  clear K B2 K2 c0 c1 c2 c3 c4 c5 c6 c7 c8
  go_wp2_with fail
  refine (first_any _).mono ?_
  rintro e w9 ⟨rfl, K⟩
  have K9 : Hid (Kept w w9) := K3.out.trans K
  clear K
  go_wp2
  go_ret
  exact ⟨rfl, K9.out⟩

set_option maxRecDepth 20000 in
set_option maxHeartbeats 2000000 in
theorem each_bad (n0 n1 n2 n3 n4 n5 n6 n7 : Int) (x : Option Addr) (l c : Nat) (S : Nat → Sh) (w : World) (hS : Shps w x l S) (hf : Small l S) (hb : ¬ Good n0 n1 n2 n3 n4 n5 n6 n7 l S) :
    Calls Try.prog 4 #[.agg #[.int .i64 n0, .int .i64 n1, .int .i64 n2, .int .i64 n3, .int .i64 n4, .int .i64 n5, .int .i64 n6, .int .i64 n7, .slice x l c]] w fun e w' => e = .returned (.bool true) ∧ Kept w w' := by
  have HS : Hid (Shps w x l S) := hS
  have F : Hid (∀ w, Shps w x l S → _) := fun w h => few_any n0 n1 n2 n3 n4 n5 n6 n7 x l c S true w h (by simp [hf])
  obtain ⟨r, hr, hr3⟩ := Checks.some n0 n1 n2 n3 n4 n5 n6 n7 l S
  have C : Hid (∀ w, Shps w x l S → _) := fun w h => check_any n0 n1 n2 n3 n4 n5 n6 n7 x l c S r w h hr
  have h1 : (r != 0) = true := by
    simp only [bne_iff_ne, ne_eq]
    intro e
    subst e
    exact hb hr.zero
  clear hS hr hb hr3
  go_enter Try.func4, Try.ntmps4
  go_wp2_with fail
  generalize hW1 : w.alloc _ = W1
  have B1 : Hid (Blk W1 w.heap.size (cl n0 n1 n2 n3 n4 n5 n6 n7 (.slice x l c))) := by rw [← hW1]; exact Blk.new w _ _
  have K1 : Hid (Kept w W1) := by rw [← hW1]; exact (Kept.refl w).alloc _ _
  clear hW1
  refine (first_any _).mono ?_
  rintro e w2 ⟨rfl, K⟩
  have B2 : Hid (Blk w2 w.heap.size _) := B1.out.kept K
  have K2 : Hid (Kept w w2) := K1.out.trans K
  clear K K1 B1
  have c0 := B2.out.at 0 rfl
  have c1 := B2.out.at 1 rfl
  have c2 := B2.out.at 2 rfl
  have c3 := B2.out.at 3 rfl
  have c4 := B2.out.at 4 rfl
  have c5 := B2.out.at 5 rfl
  have c6 := B2.out.at 6 rfl
  have c7 := B2.out.at 7 rfl
  have c8 := B2.out.at 8 rfl
  go_wp2_with fail
  refine (F.out _ (HS.out.kept K2.out)).mono ?_
  rintro e w3 ⟨rfl, K⟩
  have B3 : Hid (Blk w3 w.heap.size _) := B2.out.kept K
  have K3 : Hid (Kept w w3) := K2.out.trans K
  clear K B2 K2 c0 c1 c2 c3 c4 c5 c6 c7 c8
  have c0 := B3.out.at 0 rfl
  have c1 := B3.out.at 1 rfl
  have c2 := B3.out.at 2 rfl
  have c3 := B3.out.at 3 rfl
  have c4 := B3.out.at 4 rfl
  have c5 := B3.out.at 5 rfl
  have c6 := B3.out.at 6 rfl
  have c7 := B3.out.at 7 rfl
  have c8 := B3.out.at 8 rfl
  go_wp2_with fail
  refine (C.out _ (HS.out.kept K3.out)).mono ?_
  rintro e w4 ⟨rfl, K⟩
  have B4 : Hid (Blk w4 w.heap.size _) := B3.out.kept K
  have K4 : Hid (Kept w w4) := K3.out.trans K
  clear K B3 K3 c0 c1 c2 c3 c4 c5 c6 c7 c8
  go_wp2_with fail
  refine (first_any _).mono ?_
  rintro e w9 ⟨rfl, K⟩
  have K9 : Hid (Kept w w9) := K4.out.trans K
  clear K
  go_wp2
  go_ret
  exact ⟨rfl, K9.out⟩

/-- How many of the first j words are of each region. -/
structure Cnt (n0 n1 n2 j c1 c2 c3 c4 : Int) : Prop where
  a1 : c1 = min j (8 * n0)
  a2 : c2 = min (max (j - 8 * n0) 0) n1
  a3 : c3 = min (max (j - 8 * n0 - n1) 0) n1
  a4 : c4 = min (max (j - 8 * n0 - 2 * n1) 0) n2
theorem Cnt.start {n0 n1 n2 : Int} (h0 : 0 ≤ n0) (h1 : 0 ≤ n1) (h2 : 0 ≤ n2) : Cnt n0 n1 n2 0 0 0 0 0 := ⟨by omega, by omega, by omega, by omega⟩
theorem Cnt.few {n0 n1 n2 j c1 c2 c3 c4 : Int} (h : Cnt n0 n1 n2 j c1 c2 c3 c4) (hj : 0 ≤ j) (h0 : 0 ≤ n0 ∧ n0 ≤ 1024) (h1 : 0 ≤ n1 ∧ n1 ≤ 2048) (h2 : 0 ≤ n2 ∧ n2 ≤ 8) : (0 ≤ c1 ∧ c1 ≤ 8192) ∧ (0 ≤ c2 ∧ c2 ≤ 2048) ∧ (0 ≤ c3 ∧ c3 ≤ 2048) ∧ (0 ≤ c4 ∧ c4 ≤ 8) := by
  obtain ⟨a1, a2, a3, a4⟩ := h
  omega
theorem Cnt.s1 {n0 n1 n2 j c1 c2 c3 c4 : Int} (h : Cnt n0 n1 n2 j c1 c2 c3 c4) (h1 : 0 ≤ n1) (h2 : 0 ≤ n2) (hj : j < 8 * n0) : Cnt n0 n1 n2 (j + 1) (c1 + 1) c2 c3 c4 := by
  obtain ⟨a1, a2, a3, a4⟩ := h
  exact ⟨by omega, by omega, by omega, by omega⟩
theorem Cnt.s2 {n0 n1 n2 j c1 c2 c3 c4 : Int} (h : Cnt n0 n1 n2 j c1 c2 c3 c4) (h2 : 0 ≤ n2) (h0 : 8 * n0 ≤ j) (hj : j < 8 * n0 + n1) : Cnt n0 n1 n2 (j + 1) c1 (c2 + 1) c3 c4 := by
  obtain ⟨a1, a2, a3, a4⟩ := h
  exact ⟨by omega, by omega, by omega, by omega⟩
theorem Cnt.s3 {n0 n1 n2 j c1 c2 c3 c4 : Int} (h : Cnt n0 n1 n2 j c1 c2 c3 c4) (h1 : 0 ≤ n1) (h2 : 0 ≤ n2) (h0 : 8 * n0 + n1 ≤ j) (hj : j < 8 * n0 + 2 * n1) : Cnt n0 n1 n2 (j + 1) c1 c2 (c3 + 1) c4 := by
  obtain ⟨a1, a2, a3, a4⟩ := h
  exact ⟨by omega, by omega, by omega, by omega⟩
theorem Cnt.s4 {n0 n1 n2 j c1 c2 c3 c4 : Int} (h : Cnt n0 n1 n2 j c1 c2 c3 c4) (h1 : 0 ≤ n1) (h0 : 8 * n0 + 2 * n1 ≤ j) (hj : j < 8 * n0 + 2 * n1 + n2) : Cnt n0 n1 n2 (j + 1) c1 c2 c3 (c4 + 1) := by
  obtain ⟨a1, a2, a3, a4⟩ := h
  exact ⟨by omega, by omega, by omega, by omega⟩
theorem Cnt.all {n0 n1 n2 j c1 c2 c3 c4 : Int} (h : Cnt n0 n1 n2 j c1 c2 c3 c4) (_h0 : 0 ≤ n0) (h1 : 0 ≤ n1) (h2 : 0 ≤ n2) (hj : j = 8 * n0 + 2 * n1 + n2) : c1 = 8 * n0 ∧ c2 = n1 ∧ c3 = n1 ∧ c4 = n2 := by
  obtain ⟨a1, a2, a3, a4⟩ := h
  omega
def ct (c1 c2 c3 c4 : Int) : List Value := [.int .i64 0, .int .i64 c1, .int .i64 c2, .int .i64 c3, .int .i64 c4]

set_option maxRecDepth 20000 in
set_option maxHeartbeats 8000000 in
theorem each_good (n0 n1 n2 n3 n4 n5 n6 n7 : Int) (x : Option Addr) (l c : Nat) (S : Nat → Sh) (w : World) (hS : Shps w x l S) (hf : Small l S) (hg : Good n0 n1 n2 n3 n4 n5 n6 n7 l S) :
    Calls Try.prog 4 #[.agg #[.int .i64 n0, .int .i64 n1, .int .i64 n2, .int .i64 n3, .int .i64 n4, .int .i64 n5, .int .i64 n6, .int .i64 n7, .slice x l c]] w fun e w' => e = .returned (.bool true) ∧ Kept w w' := by
  have HS : Hid (Shps w x l S) := hS
  have F : Hid (∀ w, Shps w x l S → _) := fun w h => few_any n0 n1 n2 n3 n4 n5 n6 n7 x l c S true w h (by simp [hf])
  have C : Hid (∀ w, Shps w x l S → Calls Try.prog 19 #[.agg #[.int .i64 n0, .int .i64 n1, .int .i64 n2, .int .i64 n3, .int .i64 n4, .int .i64 n5, .int .i64 n6, .int .i64 n7, .slice x l c]] w fun e w' => e = .returned (.int .i64 0) ∧ Kept w w') := fun w h => check_any n0 n1 n2 n3 n4 n5 n6 n7 x l c S 0 w h (Checks.of_ok hg.1 hg.2)
  have HG : Hid (Good n0 n1 n2 n3 n4 n5 n6 n7 l S) := hg
  obtain ⟨⟨⟨a0, a1⟩, ⟨a2, a3⟩, ⟨a4, a5⟩, _⟩, _⟩ := id hg
  have RC : Hid (∀ w, Shps w x l S → Calls Try.prog 20 #[.agg #[.int .i64 n0, .int .i64 n1, .int .i64 n2, .int .i64 n3, .int .i64 n4, .int .i64 n5, .int .i64 n6, .int .i64 n7, .slice x l c]] w fun e w' => e = .returned (.int .i64 0) ∧ Kept w w') := fun w h => ref_check n0 n1 n2 n3 n4 n5 n6 n7 x l c S 0 w h (Checks.of_ok hg.1 hg.2)
  have WC : Hid (∀ w, Shps w x l S → Calls Try.prog 17 #[.agg #[.int .i64 n0, .int .i64 n1, .int .i64 n2, .int .i64 n3, .int .i64 n4, .int .i64 n5, .int .i64 n6, .int .i64 n7, .slice x l c]] w fun e w' => e = .returned (.int .i64 (8 * n0 + 2 * n1 + n2)) ∧ Kept w w') := fun w h => words_any n0 n1 n2 n3 n4 n5 n6 n7 x l c S _ w h (Is.is _ hg)
  have ON : Hid (∀ w, Shps w x l S → _) := fun w h => of_any n0 n1 n2 n3 n4 n5 n6 n7 x l c S (8 * n0 + 2 * n1 + n2) 0 0 0 w h ⟨fun _ => ⟨rfl, rfl, rfl⟩, fun _ _ _ => by omega, fun _ _ _ => by omega, fun _ _ _ => by omega, fun _ _ _ => by omega⟩
  have OM : Hid (∀ w, Shps w x l S → _) := fun w h => of_any n0 n1 n2 n3 n4 n5 n6 n7 x l c S (-1) 0 0 0 w h ⟨fun _ => ⟨rfl, rfl, rfl⟩, fun _ _ _ => by omega, fun _ _ _ => by omega, fun _ _ _ => by omega, fun _ _ _ => by omega⟩
  clear hS hg hf
  go_enter Try.func4, Try.ntmps4
  go_wp2_with fail
  generalize hW1 : w.alloc _ = W1
  have B1 : Hid (Blk W1 w.heap.size (cl n0 n1 n2 n3 n4 n5 n6 n7 (.slice x l c))) := by rw [← hW1]; exact Blk.new w _ _
  have K1 : Hid (Kept w W1) := by rw [← hW1]; exact (Kept.refl w).alloc _ _
  clear hW1
  refine (first_any _).mono ?_
  rintro e w2 ⟨rfl, K⟩
  have B2 : Hid (Blk w2 w.heap.size _) := B1.out.kept K
  have K2 : Hid (Kept w w2) := K1.out.trans K
  clear K K1 B1
  have c0 := B2.out.at 0 rfl
  have c1 := B2.out.at 1 rfl
  have c2 := B2.out.at 2 rfl
  have c3 := B2.out.at 3 rfl
  have c4 := B2.out.at 4 rfl
  have c5 := B2.out.at 5 rfl
  have c6 := B2.out.at 6 rfl
  have c7 := B2.out.at 7 rfl
  have c8 := B2.out.at 8 rfl
  go_wp2_with fail
  refine (F.out _ (HS.out.kept K2.out)).mono ?_
  rintro e w3 ⟨rfl, K⟩
  have B3 : Hid (Blk w3 w.heap.size _) := B2.out.kept K
  have K3 : Hid (Kept w w3) := K2.out.trans K
  clear K B2 K2 c0 c1 c2 c3 c4 c5 c6 c7 c8
  have c0 := B3.out.at 0 rfl
  have c1 := B3.out.at 1 rfl
  have c2 := B3.out.at 2 rfl
  have c3 := B3.out.at 3 rfl
  have c4 := B3.out.at 4 rfl
  have c5 := B3.out.at 5 rfl
  have c6 := B3.out.at 6 rfl
  have c7 := B3.out.at 7 rfl
  have c8 := B3.out.at 8 rfl
  go_wp2_with fail
  refine (C.out _ (HS.out.kept K3.out)).mono ?_
  rintro e w4 ⟨rfl, K⟩
  have B4 : Hid (Blk w4 w.heap.size _) := B3.out.kept K
  have K4 : Hid (Kept w w4) := K3.out.trans K
  clear K B3 K3 c0 c1 c2 c3 c4 c5 c6 c7 c8
  have c0 := B4.out.at 0 rfl
  have c1 := B4.out.at 1 rfl
  have c2 := B4.out.at 2 rfl
  have c3 := B4.out.at 3 rfl
  have c4 := B4.out.at 4 rfl
  have c5 := B4.out.at 5 rfl
  have c6 := B4.out.at 6 rfl
  have c7 := B4.out.at 7 rfl
  have c8 := B4.out.at 8 rfl
  go_wp2_with fail
  refine (RC.out _ (HS.out.kept K4.out)).mono ?_
  rintro e w5 ⟨rfl, K⟩
  have B5 : Hid (Blk w5 w.heap.size _) := B4.out.kept K
  have K5 : Hid (Kept w w5) := K4.out.trans K
  clear K B4 K4 c0 c1 c2 c3 c4 c5 c6 c7 c8
  have c0 := B5.out.at 0 rfl
  have c1 := B5.out.at 1 rfl
  have c2 := B5.out.at 2 rfl
  have c3 := B5.out.at 3 rfl
  have c4 := B5.out.at 4 rfl
  have c5 := B5.out.at 5 rfl
  have c6 := B5.out.at 6 rfl
  have c7 := B5.out.at 7 rfl
  have c8 := B5.out.at 8 rfl
  go_wp2_with fail
  refine (WC.out _ (HS.out.kept K5.out)).mono ?_
  rintro e w6 ⟨rfl, K⟩
  have B6 : Hid (Blk w6 w.heap.size _) := B5.out.kept K
  have K6 : Hid (Kept w w6) := K5.out.trans K
  clear K B5 K5 c0 c1 c2 c3 c4 c5 c6 c7 c8
  have c0 := B6.out.at 0 rfl
  have c1 := B6.out.at 1 rfl
  have c2 := B6.out.at 2 rfl
  have c3 := B6.out.at 3 rfl
  have c4 := B6.out.at 4 rfl
  have c5 := B6.out.at 5 rfl
  have c6 := B6.out.at 6 rfl
  have c7 := B6.out.at 7 rfl
  have c8 := B6.out.at 8 rfl
  go_wp2_with fail
  clear c0 c1 c2 c3 c4 c5 c6 c7 c8
  generalize hW7 : w6.alloc _ = W7
  have M7 : Hid (Blk W7 w6.heap.size (ct 0 0 0 0)) := by rw [← hW7]; exact Blk.new w6 _ _
  have K7 : Hid (Kept w6 W7) := by rw [← hW7]; exact (Kept.refl w6).alloc _ _
  clear hW7
  go_loopg [5] (8 * n0 + 2 * n1 + n2).toNat (fun m u wr => ∃ (j : Nat) (c1 c2 c3 c4 : Int), u = .int .i64 j ∧ (j : Int) ≤ 8 * n0 + 2 * n1 + n2 ∧ m = (8 * n0 + 2 * n1 + n2).toNat - j ∧ Cnt n0 n1 n2 j c1 c2 c3 c4 ∧ Hid (Kept w6 wr) ∧ Hid (Blk wr w6.heap.size (ct c1 c2 c3 c4)))
  case atStart => exact ⟨0, 0, 0, 0, 0, rfl, by omega, by omega, Cnt.start (by omega) (by omega) (by omega), K7, M7⟩
  case round =>
    obtain ⟨j, t1, t2, t3, t4, rfl, hj, hm, hc, KK, MM⟩ := hrel
    have HM : Hid (gk = (8 * n0 + 2 * n1 + n2).toNat - j) := hm
    clear hm
    have HC : Hid (Cnt n0 n1 n2 j t1 t2 t3 t4) := hc
    obtain ⟨⟨p1, p2⟩, ⟨p3, p4⟩, ⟨p5, p6⟩, p7, p8⟩ := hc.few (by omega) (by omega) (by omega) (by omega)
    clear hc
    have B8 : Hid (Blk wr w.heap.size _) := B6.out.kept KK.out
    by_cases hlt : (j : Int) < 8 * n0 + 2 * n1 + n2
    · by_cases g0 : (j : Int) < 8 * n0
      · have OF := fun w h => of_any n0 n1 n2 n3 n4 n5 n6 n7 x l c S j 1 ((j : Int) / 8) ((j : Int) % 8) w h ⟨fun n => absurd ⟨HG.out, by omega, by omega⟩ n, fun _ _ _ => ⟨rfl, rfl, rfl⟩, fun _ _ _ => by omega, fun _ _ _ => by omega, fun _ _ _ => by omega⟩
        have FC := fun w h => frag_any n0 n1 n2 n3 n4 n5 n6 n7 x l c S ((j : Int) / 8) ((j : Int) % 8) j 0 w h ⟨fun _ => ⟨by omega, rfl⟩, fun n => absurd ⟨HG.out, by omega, by omega⟩ n⟩
        have OF : Hid (∀ w, Shps w x l S → _) := OF
        have FC : Hid (∀ w, Shps w x l S → _) := FC
        have c0 := B8.out.at 0 rfl
        have c1 := B8.out.at 1 rfl
        have c2 := B8.out.at 2 rfl
        have c3 := B8.out.at 3 rfl
        have c4 := B8.out.at 4 rfl
        have c5 := B8.out.at 5 rfl
        have c6 := B8.out.at 6 rfl
        have c7 := B8.out.at 7 rfl
        have c8 := B8.out.at 8 rfl
        go_wp2_with fail
        refine (OF.out _ (HS.out.kept (K6.out.trans KK.out))).mono ?_
        rintro e w9 ⟨rfl, K⟩
        have B9 : Hid (Blk w9 w.heap.size _) := B8.out.kept K
        have M9 : Hid (Blk w9 w6.heap.size _) := MM.out.kept K
        have K9 : Hid (Kept w6 w9) := KK.out.trans K
        clear K B8 MM KK OF c0 c1 c2 c3 c4 c5 c6 c7 c8
        have c0 := B9.out.at 0 rfl
        have c1 := B9.out.at 1 rfl
        have c2 := B9.out.at 2 rfl
        have c3 := B9.out.at 3 rfl
        have c4 := B9.out.at 4 rfl
        have c5 := B9.out.at 5 rfl
        have c6 := B9.out.at 6 rfl
        have c7 := B9.out.at 7 rfl
        have c8 := B9.out.at 8 rfl
        go_wp2_with fail
        refine (FC.out _ (HS.out.kept (K6.out.trans K9.out))).mono ?_
        rintro e w10 ⟨rfl, K⟩
        have B10 : Hid (Blk w10 w.heap.size _) := B9.out.kept K
        have M10 : Hid (Blk w10 w6.heap.size _) := M9.out.kept K
        have K10 : Hid (Kept w6 w10) := K9.out.trans K
        clear K B9 M9 K9 FC c0 c1 c2 c3 c4 c5 c6 c7 c8
        have m0 := M10.out.at 0 rfl
        have m1 := M10.out.at 1 rfl
        have m2 := M10.out.at 2 rfl
        have m3 := M10.out.at 3 rfl
        have m4 := M10.out.at 4 rfl
        have fz := M10.out.fz 1
        go_wp2
        go_roundg (gk - 1)
        case measure => have := HM.out; omega
        case rel =>
          have := HM.out
          refine ⟨j + 1, t1 + 1, t2, t3, t4, by go_num, by omega, by omega, ?_, ?_, ?_⟩
          · have := HC.out.s1 (by omega) (by omega) (by omega)
            simpa using this
          · exact K10.out.setCell (Nat.le_refl _) _
          · exact M10.out.set (i := 1) rfl _
      · by_cases g1 : (j : Int) < 8 * n0 + n1
        · have OF := fun w h => of_any n0 n1 n2 n3 n4 n5 n6 n7 x l c S j 2 0 ((j : Int) - 8 * n0) w h ⟨fun n => absurd ⟨HG.out, by omega, by omega⟩ n, fun _ _ _ => by omega, fun _ _ _ => ⟨rfl, rfl, rfl⟩, fun _ _ _ => by omega, fun _ _ _ => by omega⟩
          have FC := fun w h => spine_any n0 n1 n2 n3 n4 n5 n6 n7 x l c S 0 ((j : Int) - 8 * n0) j 0 w h ⟨fun _ => ⟨by omega, rfl⟩, fun n => absurd ⟨HG.out, by omega, by omega⟩ n⟩
          have OF : Hid (∀ w, Shps w x l S → _) := OF
          have FC : Hid (∀ w, Shps w x l S → _) := FC
          have c0 := B8.out.at 0 rfl
          have c1 := B8.out.at 1 rfl
          have c2 := B8.out.at 2 rfl
          have c3 := B8.out.at 3 rfl
          have c4 := B8.out.at 4 rfl
          have c5 := B8.out.at 5 rfl
          have c6 := B8.out.at 6 rfl
          have c7 := B8.out.at 7 rfl
          have c8 := B8.out.at 8 rfl
          go_wp2_with fail
          refine (OF.out _ (HS.out.kept (K6.out.trans KK.out))).mono ?_
          rintro e w9 ⟨rfl, K⟩
          have B9 : Hid (Blk w9 w.heap.size _) := B8.out.kept K
          have M9 : Hid (Blk w9 w6.heap.size _) := MM.out.kept K
          have K9 : Hid (Kept w6 w9) := KK.out.trans K
          clear K B8 MM KK OF c0 c1 c2 c3 c4 c5 c6 c7 c8
          have c0 := B9.out.at 0 rfl
          have c1 := B9.out.at 1 rfl
          have c2 := B9.out.at 2 rfl
          have c3 := B9.out.at 3 rfl
          have c4 := B9.out.at 4 rfl
          have c5 := B9.out.at 5 rfl
          have c6 := B9.out.at 6 rfl
          have c7 := B9.out.at 7 rfl
          have c8 := B9.out.at 8 rfl
          go_wp2_with fail
          refine (FC.out _ (HS.out.kept (K6.out.trans K9.out))).mono ?_
          rintro e w10 ⟨rfl, K⟩
          have B10 : Hid (Blk w10 w.heap.size _) := B9.out.kept K
          have M10 : Hid (Blk w10 w6.heap.size _) := M9.out.kept K
          have K10 : Hid (Kept w6 w10) := K9.out.trans K
          clear K B9 M9 K9 FC c0 c1 c2 c3 c4 c5 c6 c7 c8
          have m0 := M10.out.at 0 rfl
          have m1 := M10.out.at 1 rfl
          have m2 := M10.out.at 2 rfl
          have m3 := M10.out.at 3 rfl
          have m4 := M10.out.at 4 rfl
          have fz := M10.out.fz 2
          go_wp2
          go_roundg (gk - 1)
          case measure => have := HM.out; omega
          case rel =>
            have := HM.out
            refine ⟨j + 1, t1, t2 + 1, t3, t4, by go_num, by omega, by omega, ?_, ?_, ?_⟩
            · have := HC.out.s2 (by omega) (by omega) (by omega)
              simpa using this
            · exact K10.out.setCell (Nat.le_refl _) _
            · exact M10.out.set (i := 2) rfl _
        · by_cases g2 : (j : Int) < 8 * n0 + 2 * n1
          · have OF := fun w h => of_any n0 n1 n2 n3 n4 n5 n6 n7 x l c S j 3 0 ((j : Int) - 8 * n0 - n1) w h ⟨fun n => absurd ⟨HG.out, by omega, by omega⟩ n, fun _ _ _ => by omega, fun _ _ _ => by omega, fun _ _ _ => ⟨rfl, rfl, rfl⟩, fun _ _ _ => by omega⟩
            have FC := fun w h => spine_any n0 n1 n2 n3 n4 n5 n6 n7 x l c S 1 ((j : Int) - 8 * n0 - n1) j 0 w h ⟨fun _ => ⟨by omega, rfl⟩, fun n => absurd ⟨HG.out, by omega, by omega⟩ n⟩
            have OF : Hid (∀ w, Shps w x l S → _) := OF
            have FC : Hid (∀ w, Shps w x l S → _) := FC
            have c0 := B8.out.at 0 rfl
            have c1 := B8.out.at 1 rfl
            have c2 := B8.out.at 2 rfl
            have c3 := B8.out.at 3 rfl
            have c4 := B8.out.at 4 rfl
            have c5 := B8.out.at 5 rfl
            have c6 := B8.out.at 6 rfl
            have c7 := B8.out.at 7 rfl
            have c8 := B8.out.at 8 rfl
            go_wp2_with fail
            refine (OF.out _ (HS.out.kept (K6.out.trans KK.out))).mono ?_
            rintro e w9 ⟨rfl, K⟩
            have B9 : Hid (Blk w9 w.heap.size _) := B8.out.kept K
            have M9 : Hid (Blk w9 w6.heap.size _) := MM.out.kept K
            have K9 : Hid (Kept w6 w9) := KK.out.trans K
            clear K B8 MM KK OF c0 c1 c2 c3 c4 c5 c6 c7 c8
            have c0 := B9.out.at 0 rfl
            have c1 := B9.out.at 1 rfl
            have c2 := B9.out.at 2 rfl
            have c3 := B9.out.at 3 rfl
            have c4 := B9.out.at 4 rfl
            have c5 := B9.out.at 5 rfl
            have c6 := B9.out.at 6 rfl
            have c7 := B9.out.at 7 rfl
            have c8 := B9.out.at 8 rfl
            go_wp2_with fail
            refine (FC.out _ (HS.out.kept (K6.out.trans K9.out))).mono ?_
            rintro e w10 ⟨rfl, K⟩
            have B10 : Hid (Blk w10 w.heap.size _) := B9.out.kept K
            have M10 : Hid (Blk w10 w6.heap.size _) := M9.out.kept K
            have K10 : Hid (Kept w6 w10) := K9.out.trans K
            clear K B9 M9 K9 FC c0 c1 c2 c3 c4 c5 c6 c7 c8
            have m0 := M10.out.at 0 rfl
            have m1 := M10.out.at 1 rfl
            have m2 := M10.out.at 2 rfl
            have m3 := M10.out.at 3 rfl
            have m4 := M10.out.at 4 rfl
            have fz := M10.out.fz 3
            go_wp2
            go_roundg (gk - 1)
            case measure => have := HM.out; omega
            case rel =>
              have := HM.out
              refine ⟨j + 1, t1, t2, t3 + 1, t4, by go_num, by omega, by omega, ?_, ?_, ?_⟩
              · have := HC.out.s3 (by omega) (by omega) (by omega) (by omega)
                simpa using this
              · exact K10.out.setCell (Nat.le_refl _) _
              · exact M10.out.set (i := 3) rfl _
          · have OF := fun w h => of_any n0 n1 n2 n3 n4 n5 n6 n7 x l c S j 4 0 ((j : Int) - 8 * n0 - 2 * n1) w h ⟨fun n => absurd ⟨HG.out, by omega, by omega⟩ n, fun _ _ _ => by omega, fun _ _ _ => by omega, fun _ _ _ => by omega, fun _ _ _ => ⟨rfl, rfl, rfl⟩⟩
            have FC := fun w h => global_any n0 n1 n2 n3 n4 n5 n6 n7 x l c S ((j : Int) - 8 * n0 - 2 * n1) j 0 w h ⟨fun _ => ⟨by omega, rfl⟩, fun n => absurd ⟨HG.out, by omega, by omega⟩ n⟩
            have OF : Hid (∀ w, Shps w x l S → _) := OF
            have FC : Hid (∀ w, Shps w x l S → _) := FC
            have c0 := B8.out.at 0 rfl
            have c1 := B8.out.at 1 rfl
            have c2 := B8.out.at 2 rfl
            have c3 := B8.out.at 3 rfl
            have c4 := B8.out.at 4 rfl
            have c5 := B8.out.at 5 rfl
            have c6 := B8.out.at 6 rfl
            have c7 := B8.out.at 7 rfl
            have c8 := B8.out.at 8 rfl
            go_wp2_with fail
            refine (OF.out _ (HS.out.kept (K6.out.trans KK.out))).mono ?_
            rintro e w9 ⟨rfl, K⟩
            have B9 : Hid (Blk w9 w.heap.size _) := B8.out.kept K
            have M9 : Hid (Blk w9 w6.heap.size _) := MM.out.kept K
            have K9 : Hid (Kept w6 w9) := KK.out.trans K
            clear K B8 MM KK OF c0 c1 c2 c3 c4 c5 c6 c7 c8
            have c0 := B9.out.at 0 rfl
            have c1 := B9.out.at 1 rfl
            have c2 := B9.out.at 2 rfl
            have c3 := B9.out.at 3 rfl
            have c4 := B9.out.at 4 rfl
            have c5 := B9.out.at 5 rfl
            have c6 := B9.out.at 6 rfl
            have c7 := B9.out.at 7 rfl
            have c8 := B9.out.at 8 rfl
            go_wp2_with fail
            refine (FC.out _ (HS.out.kept (K6.out.trans K9.out))).mono ?_
            rintro e w10 ⟨rfl, K⟩
            have B10 : Hid (Blk w10 w.heap.size _) := B9.out.kept K
            have M10 : Hid (Blk w10 w6.heap.size _) := M9.out.kept K
            have K10 : Hid (Kept w6 w10) := K9.out.trans K
            clear K B9 M9 K9 FC c0 c1 c2 c3 c4 c5 c6 c7 c8
            have m0 := M10.out.at 0 rfl
            have m1 := M10.out.at 1 rfl
            have m2 := M10.out.at 2 rfl
            have m3 := M10.out.at 3 rfl
            have m4 := M10.out.at 4 rfl
            have fz := M10.out.fz 4
            go_wp2
            go_roundg (gk - 1)
            case measure => have := HM.out; omega
            case rel =>
              have := HM.out
              refine ⟨j + 1, t1, t2, t3, t4 + 1, by go_num, by omega, by omega, ?_, ?_, ?_⟩
              · have := HC.out.s4 (by omega) (by omega) (by omega)
                simpa using this
              · exact K10.out.setCell (Nat.le_refl _) _
              · exact M10.out.set (i := 4) rfl _
    · obtain ⟨e1, e2, e3, e4⟩ := HC.out.all (by omega) (by omega) (by omega) (by omega)
      rw [e1, e2, e3, e4] at MM
      clear e1 e2 e3 e4
      have ej : (j : Int) = 8 * n0 + 2 * n1 + n2 := by omega
      have K8 : Hid (Kept w wr) := K6.out.trans KK.out
      clear HC KK p1 p2 p3 p4 p5 p6 p7 p8 ej
      have c0 := B8.out.at 0 rfl
      have c1 := B8.out.at 1 rfl
      have c2 := B8.out.at 2 rfl
      have c3 := B8.out.at 3 rfl
      have c4 := B8.out.at 4 rfl
      have c5 := B8.out.at 5 rfl
      have c6 := B8.out.at 6 rfl
      have c7 := B8.out.at 7 rfl
      have c8 := B8.out.at 8 rfl
      go_wp2_with fail
      refine (ON.out _ (HS.out.kept K8.out)).mono ?_
      rintro e w9 ⟨rfl, K⟩
      have B9 : Hid (Blk w9 w.heap.size _) := B8.out.kept K
      have M9 : Hid (Blk w9 w6.heap.size _) := MM.out.kept K
      have K9 : Hid (Kept w w9) := K8.out.trans K
      clear K B8 K8 c0 c1 c2 c3 c4 c5 c6 c7 c8
      have c0 := B9.out.at 0 rfl
      have c1 := B9.out.at 1 rfl
      have c2 := B9.out.at 2 rfl
      have c3 := B9.out.at 3 rfl
      have c4 := B9.out.at 4 rfl
      have c5 := B9.out.at 5 rfl
      have c6 := B9.out.at 6 rfl
      have c7 := B9.out.at 7 rfl
      have c8 := B9.out.at 8 rfl
      go_wp2_with fail
      refine (OM.out _ (HS.out.kept K9.out)).mono ?_
      rintro e w10 ⟨rfl, K⟩
      have B10 : Hid (Blk w10 w.heap.size _) := B9.out.kept K
      have M10 : Hid (Blk w10 w6.heap.size _) := M9.out.kept K
      have K10 : Hid (Kept w w10) := K9.out.trans K
      clear K B9 K9 c0 c1 c2 c3 c4 c5 c6 c7 c8
      go_wp2_with fail
      refine (first_any _).mono ?_
      rintro e w11 ⟨rfl, K⟩
      have B11 : Hid (Blk w11 w.heap.size _) := B10.out.kept K
      have M11 : Hid (Blk w11 w6.heap.size _) := M10.out.kept K
      have K11 : Hid (Kept w w11) := K10.out.trans K
      clear K B10 M10 K10
      have c0 := B11.out.at 0 rfl
      have c1 := B11.out.at 1 rfl
      have c2 := B11.out.at 2 rfl
      have m0 := M11.out.at 0 rfl
      have m1 := M11.out.at 1 rfl
      have m2 := M11.out.at 2 rfl
      have m3 := M11.out.at 3 rfl
      have m4 := M11.out.at 4 rfl
      go_wp2
      go_ret
      exact ⟨rfl, K11.out⟩

theorem areaEach_any (n0 n1 n2 n3 n4 n5 n6 n7 : Int) (x8 : Option Addr) (l8 c8 : Nat) (S8 : Nat → Sh) (R8 : Nat → Nat → Bool) (w : World) (_lo0 : IntKind.min .i64 ≤ n0) (_hi0 : n0 ≤ IntKind.max .i64) (_lo1 : IntKind.min .i64 ≤ n1) (_hi1 : n1 ≤ IntKind.max .i64) (_lo2 : IntKind.min .i64 ≤ n2) (_hi2 : n2 ≤ IntKind.max .i64) (_lo3 : IntKind.min .i64 ≤ n3) (_hi3 : n3 ≤ IntKind.max .i64) (_lo4 : IntKind.min .i64 ≤ n4) (_hi4 : n4 ≤ IntKind.max .i64) (_lo5 : IntKind.min .i64 ≤ n5) (_hi5 : n5 ≤ IntKind.max .i64) (_lo6 : IntKind.min .i64 ≤ n6) (_hi6 : n6 ≤ IntKind.max .i64) (_lo7 : IntKind.min .i64 ≤ n7) (_hi7 : n7 ≤ IntKind.max .i64) (_h8c : l8 ≤ c8) (hS8 : Shps w x8 l8 S8) (_hR8 : ∀ i, i < l8 → Refs w (S8 i).x (S8 i).l (R8 i)) :
    Calls Try.prog 4 #[.agg #[.int .i64 n0, .int .i64 n1, .int .i64 n2, .int .i64 n3, .int .i64 n4, .int .i64 n5, .int .i64 n6, .int .i64 n7, .slice x8 l8 c8]] w fun e w' => e = .returned (.bool true) ∧ Kept w w' := by
  by_cases hf : Small l8 S8
  · by_cases hg : Good n0 n1 n2 n3 n4 n5 n6 n7 l8 S8
    · exact each_good n0 n1 n2 n3 n4 n5 n6 n7 x8 l8 c8 S8 w hS8 hf hg
    · exact each_bad n0 n1 n2 n3 n4 n5 n6 n7 x8 l8 c8 S8 w hS8 hf hg
  · exact each_many n0 n1 n2 n3 n4 n5 n6 n7 x8 l8 c8 S8 w hS8 hf
end Go.Proofs.Ytdmempomofpodaa
