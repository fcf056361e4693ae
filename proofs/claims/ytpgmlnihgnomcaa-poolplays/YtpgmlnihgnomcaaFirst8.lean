/-
  The laws' own 'first' of layer 8.
-/
import Derived.Test.YtpgmlnihgnomcaaPoolD
namespace Go.Proofs.Ytpgmlnihgnomcaa
open Go.RowKit

set_option maxHeartbeats 1000000 in
theorem first_any (w : World) : Calls Try.prog 7 #[] w fun e w' => e = .returned (.bool true) ∧ Kept w w' := by
  have HN : Hid (∀ w, _) := fun w => new_any 5 w (by omega)
  go_enter Try.func7, Try.ntmps7
  go_wp2_with fail
  refine (HN.out _).mono ?_
  rintro e w1 ⟨b, g, rfl, ht, hb, hg, k1⟩
  have H1 : Hid (PTab 46 w1 b g 5 F1 ∧ w.heap.size ≤ b ∧ w.heap.size ≤ g ∧ Kept w w1) := ⟨ht, hb, hg, k1⟩
  clear ht hb hg k1 HN
  go_wp2_with fail
  refine (take_any 2 _ H1.out.1).mono ?_
  rintro e w2 ⟨v, rfl, hgot, hp, hm⟩
  have e0 : takeB 5 F1 2 = true := by decide
  have e1 : takeL 5 F1 2 = [3, 4] := by decide
  rw [e1] at hgot hp
  rw [e0]
  clear e0 e1
  obtain ⟨x, c, rfl⟩ := hgot.form
  have H2 : Hid (PTab 46 w2 b g 5 (dropF F1 [3, 4]) ∧ Rd w2 x [3, 4] ∧ Kept w w2) := ⟨hp, hgot.rd, H1.out.2.2.2.muts hm (by simpa using H1.out.2.2.1)⟩
  clear hgot hp hm H1
  go_wp2_with fail
  have HR : Hid (Rd (w2.alloc (.cells #[.int .i64 3, .int .i64 4] 3)) (some ⟨w2.heap.size, 0, none⟩) [3, 4]) := fun _ => ⟨w2.heap.size, rfl, by simp, fun j hj => by
    match j, hj with
    | 0, _ => simp
    | 1, _ => simp⟩
  refine (ints_any (T := [3, 4]) _ (by simp) (H2.out.2.1.kept ((Kept.refl _).alloc _ _)) HR.out).mono ?_
  rintro e w3 ⟨rfl, k3⟩
  have H3 : Hid (PTab 46 w3 b g 5 (dropF F1 [3, 4]) ∧ Kept w w3) := ⟨H2.out.1.kept k3.ofAlloc, H2.out.2.2.trans k3.ofAlloc⟩
  clear k3 H2 HR
  go_wp2_with fail
  refine (free_any _ H3.out.1).mono ?_
  rintro e w4 ⟨rfl, rfl⟩
  have e0 : cntB (dropF F1 [3, 4]) 5 = 3 := by decide
  rw [e0]
  clear e0
  go_wp2
  go_ret
  exact ⟨rfl, H3.out.2⟩
end Go.Proofs.Ytpgmlnihgnomcaa
