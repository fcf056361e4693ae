/-
  Contracts of the laws' own package sporef1, chapter 5: Words, Frag, SpineAt, Global, Of.
-/
import Derived.Test.YtgnikgkpbibmgaaArea12
import Derived.Test.YtgnikgkpbibmgaaRefCheck12
namespace Go.Proofs.Ytgnikgkpbibmgaa
open Go.RowKit


set_option maxHeartbeats 1000000 in
theorem ref_words (n0 n1 n2 n3 n4 n5 n6 n7 : Int) (x : Option Addr) (l c : Nat) (S : Nat → Sh) (v : Int) (w : World) (hS : Shps w x l S) (h : Is (Good n0 n1 n2 n3 n4 n5 n6 n7 l S) (8 * n0 + 2 * n1 + n2) v) :
    Calls Try.prog 32 #[.agg #[.int .i64 n0, .int .i64 n1, .int .i64 n2, .int .i64 n3, .int .i64 n4, .int .i64 n5, .int .i64 n6, .int .i64 n7, .slice x l c]] w fun e w' => e = .returned (.int .i64 v) ∧ Kept w w' := by
  by_cases hg : Good n0 n1 n2 n3 n4 n5 n6 n7 l S
  · obtain rfl := h.yes hg
    have C : Hid (∀ w, Shps w x l S → Calls Try.prog 47 #[.agg #[.int .i64 n0, .int .i64 n1, .int .i64 n2, .int .i64 n3, .int .i64 n4, .int .i64 n5, .int .i64 n6, .int .i64 n7, .slice x l c]] w fun e w' => e = .returned (.int .i64 0) ∧ Kept w w') := fun w h => ref_check n0 n1 n2 n3 n4 n5 n6 n7 x l c S 0 w h (Checks.of_ok hg.1 hg.2)
    have HS : Hid (Shps w x l S) := hS
    obtain ⟨⟨⟨a0, a1⟩, ⟨a2, a3⟩, ⟨a4, a5⟩, _⟩, _⟩ := id hg
    clear hS hg h
    go_enter Try.func32, Try.ntmps32
    go_wp2_with fail
    generalize hW1 : w.alloc _ = W1
    have B1 : Hid (Blk W1 w.heap.size (cl n0 n1 n2 n3 n4 n5 n6 n7 (.slice x l c))) := by rw [← hW1]; exact Blk.new w _ _
    have K1 : Hid (Kept w W1) := by rw [← hW1]; exact (Kept.refl w).alloc _ _
    clear hW1
    refine (C.out _ (HS.out.kept K1.out)).mono ?_
    rintro e w2 ⟨rfl, K⟩
    have B2 : Hid (Blk w2 w.heap.size _) := B1.out.kept K
    have K2 : Hid (Kept w w2) := K1.out.trans K
    clear K B1 K1 C HS
    have c0 := B2.out.at 0 rfl
    have c1 := B2.out.at 1 rfl
    have c2 := B2.out.at 2 rfl
    have c3 := B2.out.at 3 rfl
    have c4 := B2.out.at 4 rfl
    have c5 := B2.out.at 5 rfl
    have c6 := B2.out.at 6 rfl
    have c7 := B2.out.at 7 rfl
    have c8 := B2.out.at 8 rfl
    go_wp2
    go_ret
    exact ⟨by (first | rfl | (congr 4; omega) | (simp; omega)), K2.out⟩
  · obtain ⟨r0, hr0, _⟩ := Checks.some n0 n1 n2 n3 n4 n5 n6 n7 l S
    have t0 : (r0 != 0) = true := by
      simp only [bne_iff_ne, ne_eq]
      intro e
      exact hg (Checks.zero (e ▸ hr0))
    have C : Hid (∀ w, Shps w x l S → _) := fun w h => ref_check n0 n1 n2 n3 n4 n5 n6 n7 x l c S r0 w h hr0
    have HS : Hid (Shps w x l S) := hS
    obtain rfl := h.no (fun g => hg g)
    clear hS hr0 hg h
    go_enter Try.func32, Try.ntmps32
    go_wp2_with fail
    generalize hW1 : w.alloc _ = W1
    have B1 : Hid (Blk W1 w.heap.size (cl n0 n1 n2 n3 n4 n5 n6 n7 (.slice x l c))) := by rw [← hW1]; exact Blk.new w _ _
    have K1 : Hid (Kept w W1) := by rw [← hW1]; exact (Kept.refl w).alloc _ _
    clear hW1
    refine (C.out _ (HS.out.kept K1.out)).mono ?_
    rintro e w2 ⟨rfl, K⟩
    have B2 : Hid (Blk w2 w.heap.size _) := B1.out.kept K
    have K2 : Hid (Kept w w2) := K1.out.trans K
    clear K B1 K1 C HS
    go_wp2
    go_ret
    exact ⟨rfl, K2.out⟩


end Go.Proofs.Ytgnikgkpbibmgaa
