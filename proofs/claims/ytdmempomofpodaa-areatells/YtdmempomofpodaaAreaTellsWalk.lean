/-
  AreaTells: the walk.
-/
import Derived.Test.YtdmempomofpodaaFirst5
import Derived.Test.YtdmempomofpodaaRef5
import Derived.Test.YtdmempomofpodaaOpen
namespace Go.Proofs.Ytdmempomofpodaa
open Go.RowKit

set_option maxHeartbeats 2000000 in
theorem tells_many (n0 n1 n2 n3 n4 n5 n6 n7 : Int) (x : Option Addr) (l c : Nat) (S : Nat → Sh) (i k a : Int) (w : World) (hS : Shps w x l S) (hf : ¬ Small l S) :
    Calls Try.prog 3 #[.agg #[.int .i64 n0, .int .i64 n1, .int .i64 n2, .int .i64 n3, .int .i64 n4, .int .i64 n5, .int .i64 n6, .int .i64 n7, .slice x l c], .int .i64 i, .int .i64 k, .int .i64 a] w fun e w' => e = .returned (.bool true) ∧ Kept w w' := by
  have HS : Hid (Shps w x l S) := hS
  have F : Hid (∀ w, Shps w x l S → _) := fun w h => few_any n0 n1 n2 n3 n4 n5 n6 n7 x l c S false w h (by simp [hf])
  clear hS
  go_enter Try.func3, Try.ntmps3
  go_wp2_with fail
  generalize hW1 : w.alloc _ = W1
  have B1 : Hid (Blk W1 w.heap.size (cl n0 n1 n2 n3 n4 n5 n6 n7 (.slice x l c))) := by rw [← hW1]; exact Blk.new w _ _
  have K1 : Hid (Kept w W1) := by rw [← hW1]; exact (Kept.refl w).alloc _ _
  clear hW1
  refine (first_any _).mono ?_
  rintro e w2 ⟨rfl, K⟩
  have B2 : Hid (Blk w2 w.heap.size _) := B1.out.kept K
  have K2 : Hid (Kept w w2) := K1.out.trans K
  clear K K1 B1
  have c0 := B2.out.at 0 rfl
  have c1 := B2.out.at 1 rfl
  have c2 := B2.out.at 2 rfl
  have c3 := B2.out.at 3 rfl
  have c4 := B2.out.at 4 rfl
  have c5 := B2.out.at 5 rfl
  have c6 := B2.out.at 6 rfl
  have c7 := B2.out.at 7 rfl
  have c8 := B2.out.at 8 rfl
  go_wp2_with fail
  refine (F.out _ (HS.out.kept K2.out)).mono ?_
  rintro e w3 ⟨rfl, K⟩
  have B3 : Hid (Blk w3 w.heap.size _) := B2.out.kept K
  have K3 : Hid (Kept w w3) := K2.out.trans K
  clear K B2 K2 c0 c1 c2 c3 c4 c5 c6 c7 c8
  go_wp2_with fail
  refine (first_any _).mono ?_
  rintro e w9 ⟨rfl, K⟩
  have K9 : Hid (Kept w w9) := K3.out.trans K
  clear K
  go_wp2
  go_ret
  exact ⟨rfl, K9.out⟩

set_option maxHeartbeats 4000000 in
theorem tells_few (n0 n1 n2 n3 n4 n5 n6 n7 : Int) (x : Option Addr) (l c : Nat) (S : Nat → Sh) (i k a : Int) (w : World) (hS : Shps w x l S) (hf : Small l S) :
    Calls Try.prog 3 #[.agg #[.int .i64 n0, .int .i64 n1, .int .i64 n2, .int .i64 n3, .int .i64 n4, .int .i64 n5, .int .i64 n6, .int .i64 n7, .slice x l c], .int .i64 i, .int .i64 k, .int .i64 a] w fun e w' => e = .returned (.bool true) ∧ Kept w w' := by
  have HS : Hid (Shps w x l S) := hS
  have F : Hid (∀ w, Shps w x l S → _) := fun w h => few_any n0 n1 n2 n3 n4 n5 n6 n7 x l c S true w h (by simp [hf])
  obtain ⟨p, e, hp⟩ := At.some (Good n0 n1 n2 n3 n4 n5 n6 n7 l S ∧ (0 ≤ i ∧ i < n0) ∧ (0 ≤ k ∧ k < 8)) (i * 8 + k)
  obtain ⟨s, g, hs⟩ := At.some (Good n0 n1 n2 n3 n4 n5 n6 n7 l S ∧ (0 ≤ i ∧ i < 2) ∧ (0 ≤ k ∧ k < n1)) (8 * n0 + i * n1 + k)
  obtain ⟨u, m, hu⟩ := At.some (Good n0 n1 n2 n3 n4 n5 n6 n7 l S ∧ (0 ≤ i ∧ i < n2)) (8 * n0 + 2 * n1 + i)
  obtain ⟨x1, y1, z1, ho⟩ := OfIs.some (n0 := n0) (n1 := n1) (n2 := n2) (n3 := n3) (n4 := n4) (n5 := n5) (n6 := n6) (n7 := n7) (l := l) (S := S) a
  obtain ⟨v, hv⟩ := Is.some (Good n0 n1 n2 n3 n4 n5 n6 n7 l S) (8 * n0 + 2 * n1 + n2)
  have A1 : Hid (∀ w, Shps w x l S → _) := fun w h => frag_any n0 n1 n2 n3 n4 n5 n6 n7 x l c S i k p e w h hp
  have A2 : Hid (∀ w, Shps w x l S → _) := fun w h => ref_frag n0 n1 n2 n3 n4 n5 n6 n7 x l c S i k p e w h hp
  have A3 : Hid (∀ w, Shps w x l S → _) := fun w h => spine_any n0 n1 n2 n3 n4 n5 n6 n7 x l c S i k s g w h hs
  have A4 : Hid (∀ w, Shps w x l S → _) := fun w h => ref_spine n0 n1 n2 n3 n4 n5 n6 n7 x l c S i k s g w h hs
  have A5 : Hid (∀ w, Shps w x l S → _) := fun w h => global_any n0 n1 n2 n3 n4 n5 n6 n7 x l c S i u m w h hu
  have A6 : Hid (∀ w, Shps w x l S → _) := fun w h => ref_global n0 n1 n2 n3 n4 n5 n6 n7 x l c S i u m w h hu
  have A7 : Hid (∀ w, Shps w x l S → _) := fun w h => of_any n0 n1 n2 n3 n4 n5 n6 n7 x l c S a x1 y1 z1 w h ho
  have A8 : Hid (∀ w, Shps w x l S → _) := fun w h => ref_of n0 n1 n2 n3 n4 n5 n6 n7 x l c S a x1 y1 z1 w h ho
  have A9 : Hid (∀ w, Shps w x l S → _) := fun w h => words_any n0 n1 n2 n3 n4 n5 n6 n7 x l c S v w h hv
  have A10 : Hid (∀ w, Shps w x l S → _) := fun w h => ref_words n0 n1 n2 n3 n4 n5 n6 n7 x l c S v w h hv
  clear hS hf hp hs hu ho hv
  go_enter Try.func3, Try.ntmps3
  go_wp2_with fail
  generalize hW1 : w.alloc _ = W1
  have B1 : Hid (Blk W1 w.heap.size (cl n0 n1 n2 n3 n4 n5 n6 n7 (.slice x l c))) := by rw [← hW1]; exact Blk.new w _ _
  have K1 : Hid (Kept w W1) := by rw [← hW1]; exact (Kept.refl w).alloc _ _
  clear hW1
  refine (first_any _).mono ?_
  rintro e w2 ⟨rfl, K⟩
  have B2 : Hid (Blk w2 w.heap.size _) := B1.out.kept K
  have K2 : Hid (Kept w w2) := K1.out.trans K
  clear K K1 B1
  have c0 := B2.out.at 0 rfl
  have c1 := B2.out.at 1 rfl
  have c2 := B2.out.at 2 rfl
  have c3 := B2.out.at 3 rfl
  have c4 := B2.out.at 4 rfl
  have c5 := B2.out.at 5 rfl
  have c6 := B2.out.at 6 rfl
  have c7 := B2.out.at 7 rfl
  have c8 := B2.out.at 8 rfl
  go_wp2_with fail
  refine (F.out _ (HS.out.kept K2.out)).mono ?_
  rintro e w3 ⟨rfl, K⟩
  have B3 : Hid (Blk w3 w.heap.size _) := B2.out.kept K
  have K3 : Hid (Kept w w3) := K2.out.trans K
  clear K B2 K2 c0 c1 c2 c3 c4 c5 c6 c7 c8
  have c0 := B3.out.at 0 rfl
  have c1 := B3.out.at 1 rfl
  have c2 := B3.out.at 2 rfl
  have c3 := B3.out.at 3 rfl
  have c4 := B3.out.at 4 rfl
  have c5 := B3.out.at 5 rfl
  have c6 := B3.out.at 6 rfl
  have c7 := B3.out.at 7 rfl
  have c8 := B3.out.at 8 rfl
  go_wp2_with fail
  refine (A1.out _ (HS.out.kept K3.out)).mono ?_
  rintro e w4 ⟨rfl, K⟩
  have B4 : Hid (Blk w4 w.heap.size _) := B3.out.kept K
  have K4 : Hid (Kept w w4) := K3.out.trans K
  clear K B3 K3 c0 c1 c2 c3 c4 c5 c6 c7 c8
  have c0 := B4.out.at 0 rfl
  have c1 := B4.out.at 1 rfl
  have c2 := B4.out.at 2 rfl
  have c3 := B4.out.at 3 rfl
  have c4 := B4.out.at 4 rfl
  have c5 := B4.out.at 5 rfl
  have c6 := B4.out.at 6 rfl
  have c7 := B4.out.at 7 rfl
  have c8 := B4.out.at 8 rfl
  go_wp2_with fail
  refine (A2.out _ (HS.out.kept K4.out)).mono ?_
  rintro e w5 ⟨rfl, K⟩
  have B5 : Hid (Blk w5 w.heap.size _) := B4.out.kept K
  have K5 : Hid (Kept w w5) := K4.out.trans K
  clear K B4 K4 c0 c1 c2 c3 c4 c5 c6 c7 c8
  have c0 := B5.out.at 0 rfl
  have c1 := B5.out.at 1 rfl
  have c2 := B5.out.at 2 rfl
  have c3 := B5.out.at 3 rfl
  have c4 := B5.out.at 4 rfl
  have c5 := B5.out.at 5 rfl
  have c6 := B5.out.at 6 rfl
  have c7 := B5.out.at 7 rfl
  have c8 := B5.out.at 8 rfl
  go_wp2_with fail
  refine (A3.out _ (HS.out.kept K5.out)).mono ?_
  rintro e w6 ⟨rfl, K⟩
  have B6 : Hid (Blk w6 w.heap.size _) := B5.out.kept K
  have K6 : Hid (Kept w w6) := K5.out.trans K
  clear K B5 K5 c0 c1 c2 c3 c4 c5 c6 c7 c8
  have c0 := B6.out.at 0 rfl
  have c1 := B6.out.at 1 rfl
  have c2 := B6.out.at 2 rfl
  have c3 := B6.out.at 3 rfl
  have c4 := B6.out.at 4 rfl
  have c5 := B6.out.at 5 rfl
  have c6 := B6.out.at 6 rfl
  have c7 := B6.out.at 7 rfl
  have c8 := B6.out.at 8 rfl
  go_wp2_with fail
  refine (A4.out _ (HS.out.kept K6.out)).mono ?_
  rintro e w7 ⟨rfl, K⟩
  have B7 : Hid (Blk w7 w.heap.size _) := B6.out.kept K
  have K7 : Hid (Kept w w7) := K6.out.trans K
  clear K B6 K6 c0 c1 c2 c3 c4 c5 c6 c7 c8
  have c0 := B7.out.at 0 rfl
  have c1 := B7.out.at 1 rfl
  have c2 := B7.out.at 2 rfl
  have c3 := B7.out.at 3 rfl
  have c4 := B7.out.at 4 rfl
  have c5 := B7.out.at 5 rfl
  have c6 := B7.out.at 6 rfl
  have c7 := B7.out.at 7 rfl
  have c8 := B7.out.at 8 rfl
  go_wp2_with fail
  refine (A5.out _ (HS.out.kept K7.out)).mono ?_
  rintro e w8 ⟨rfl, K⟩
  have B8 : Hid (Blk w8 w.heap.size _) := B7.out.kept K
  have K8 : Hid (Kept w w8) := K7.out.trans K
  clear K B7 K7 c0 c1 c2 c3 c4 c5 c6 c7 c8
  have c0 := B8.out.at 0 rfl
  have c1 := B8.out.at 1 rfl
  have c2 := B8.out.at 2 rfl
  have c3 := B8.out.at 3 rfl
  have c4 := B8.out.at 4 rfl
  have c5 := B8.out.at 5 rfl
  have c6 := B8.out.at 6 rfl
  have c7 := B8.out.at 7 rfl
  have c8 := B8.out.at 8 rfl
  go_wp2_with fail
  refine (A6.out _ (HS.out.kept K8.out)).mono ?_
  rintro e w9 ⟨rfl, K⟩
  have B9 : Hid (Blk w9 w.heap.size _) := B8.out.kept K
  have K9 : Hid (Kept w w9) := K8.out.trans K
  clear K B8 K8 c0 c1 c2 c3 c4 c5 c6 c7 c8
  have c0 := B9.out.at 0 rfl
  have c1 := B9.out.at 1 rfl
  have c2 := B9.out.at 2 rfl
  have c3 := B9.out.at 3 rfl
  have c4 := B9.out.at 4 rfl
  have c5 := B9.out.at 5 rfl
  have c6 := B9.out.at 6 rfl
  have c7 := B9.out.at 7 rfl
  have c8 := B9.out.at 8 rfl
  go_wp2_with fail
  refine (A7.out _ (HS.out.kept K9.out)).mono ?_
  rintro e w10 ⟨rfl, K⟩
  have B10 : Hid (Blk w10 w.heap.size _) := B9.out.kept K
  have K10 : Hid (Kept w w10) := K9.out.trans K
  clear K B9 K9 c0 c1 c2 c3 c4 c5 c6 c7 c8
  have c0 := B10.out.at 0 rfl
  have c1 := B10.out.at 1 rfl
  have c2 := B10.out.at 2 rfl
  have c3 := B10.out.at 3 rfl
  have c4 := B10.out.at 4 rfl
  have c5 := B10.out.at 5 rfl
  have c6 := B10.out.at 6 rfl
  have c7 := B10.out.at 7 rfl
  have c8 := B10.out.at 8 rfl
  go_wp2_with fail
  refine (A8.out _ (HS.out.kept K10.out)).mono ?_
  rintro e w11 ⟨rfl, K⟩
  have B11 : Hid (Blk w11 w.heap.size _) := B10.out.kept K
  have K11 : Hid (Kept w w11) := K10.out.trans K
  clear K B10 K10 c0 c1 c2 c3 c4 c5 c6 c7 c8
  have c0 := B11.out.at 0 rfl
  have c1 := B11.out.at 1 rfl
  have c2 := B11.out.at 2 rfl
  have c3 := B11.out.at 3 rfl
  have c4 := B11.out.at 4 rfl
  have c5 := B11.out.at 5 rfl
  have c6 := B11.out.at 6 rfl
  have c7 := B11.out.at 7 rfl
  have c8 := B11.out.at 8 rfl
  go_wp2_with fail
  clear c0 c1 c2 c3 c4 c5 c6 c7 c8
  have S11 : Hid (∀ z : KW w11, Shps z.it x l S) := fun z => (HS.out.kept K11.out).kept z.ok
  have d0 := fun z : KW w11 => z.cell B11.out.lt (B11.out.at 0 rfl)
  have d1 := fun z : KW w11 => z.cell B11.out.lt (B11.out.at 1 rfl)
  have d2 := fun z : KW w11 => z.cell B11.out.lt (B11.out.at 2 rfl)
  have d3 := fun z : KW w11 => z.cell B11.out.lt (B11.out.at 3 rfl)
  have d4 := fun z : KW w11 => z.cell B11.out.lt (B11.out.at 4 rfl)
  have d5 := fun z : KW w11 => z.cell B11.out.lt (B11.out.at 5 rfl)
  have d6 := fun z : KW w11 => z.cell B11.out.lt (B11.out.at 6 rfl)
  have d7 := fun z : KW w11 => z.cell B11.out.lt (B11.out.at 7 rfl)
  have d8 := fun z : KW w11 => z.cell B11.out.lt (B11.out.at 8 rfl)
  refine wp_region_kept (by kernel_rfl) (by kernel_rfl) fun _ => ?_
  repeat (go_big_quiet_step (first | (go_at_call 7; exact kept_of (first_any _)) | (go_at_call 17; exact kept_of (A9.out _ (S11.out _))) | (go_at_call 18; exact kept_of (A10.out _ (S11.out _)))))
  refine wpQuiet_nil ?_
  rintro _ ⟨z, rfl⟩
  clear d0 d1 d2 d3 d4 d5 d6 d7 d8
  go_wp2
  go_ret
  exact ⟨rfl, K11.out.trans z.ok⟩

theorem areaTells_any (n0 n1 n2 n3 n4 n5 n6 n7 : Int) (x8 : Option Addr) (l8 c8 : Nat) (S8 : Nat → Sh) (R8 : Nat → Nat → Bool) (n9 n10 n11 : Int) (w : World) (_lo0 : IntKind.min .i64 ≤ n0) (_hi0 : n0 ≤ IntKind.max .i64) (_lo1 : IntKind.min .i64 ≤ n1) (_hi1 : n1 ≤ IntKind.max .i64) (_lo2 : IntKind.min .i64 ≤ n2) (_hi2 : n2 ≤ IntKind.max .i64) (_lo3 : IntKind.min .i64 ≤ n3) (_hi3 : n3 ≤ IntKind.max .i64) (_lo4 : IntKind.min .i64 ≤ n4) (_hi4 : n4 ≤ IntKind.max .i64) (_lo5 : IntKind.min .i64 ≤ n5) (_hi5 : n5 ≤ IntKind.max .i64) (_lo6 : IntKind.min .i64 ≤ n6) (_hi6 : n6 ≤ IntKind.max .i64) (_lo7 : IntKind.min .i64 ≤ n7) (_hi7 : n7 ≤ IntKind.max .i64) (_h8c : l8 ≤ c8) (hS8 : Shps w x8 l8 S8) (_hR8 : ∀ i, i < l8 → Refs w (S8 i).x (S8 i).l (R8 i)) (_lo9 : IntKind.min .i64 ≤ n9) (_hi9 : n9 ≤ IntKind.max .i64) (_lo10 : IntKind.min .i64 ≤ n10) (_hi10 : n10 ≤ IntKind.max .i64) (_lo11 : IntKind.min .i64 ≤ n11) (_hi11 : n11 ≤ IntKind.max .i64) :
    Calls Try.prog 3 #[.agg #[.int .i64 n0, .int .i64 n1, .int .i64 n2, .int .i64 n3, .int .i64 n4, .int .i64 n5, .int .i64 n6, .int .i64 n7, .slice x8 l8 c8], .int .i64 n9, .int .i64 n10, .int .i64 n11] w fun e w' => e = .returned (.bool true) ∧ Kept w w' := by
  by_cases hf : Small l8 S8
  · exact tells_few n0 n1 n2 n3 n4 n5 n6 n7 x8 l8 c8 S8 n9 n10 n11 w hS8 hf
  · exact tells_many n0 n1 n2 n3 n4 n5 n6 n7 x8 l8 c8 S8 n9 n10 n11 w hS8 hf
end Go.Proofs.Ytdmempomofpodaa
