/-
  The laws' own 'first' of layer 9.
-/
import Derived.Test.YtfeloacafkebhaaSide
namespace Go.Proofs.Ytfeloacafkebhaa
open Go.RowKit

theorem rdi_lit (w : World) (C : List Int) : Rdi (w.alloc (.cells (C.map (Value.int .i64)).toArray 3)) (some ⟨w.heap.size, 0, none⟩) C := fun _ => ⟨w.heap.size, 0, rfl, by simp, fun j hj => by simp [hj]⟩
theorem Rdi.rdf {w : World} {x : Option Addr} {T : List Int} (h : Rdi w x T) : Rdf w x T.length (fun j => T.getD j 0) := fun h0 => by
  obtain ⟨g, o, e, hl, hc⟩ := h h0
  exact ⟨g, o, e, hl, fun j hj => by rw [hc j hj]; simp [hj]⟩

set_option maxHeartbeats 2000000 in
theorem first_any (w : World) : Calls Try.prog 8 #[] w fun e w' => e = .returned (.bool true) ∧ Kept w w' := by
  have HN : Hid (∀ w : World, _) := fun w => new_any 2 w (by omega) (base := w.heap.size) (Nat.le_refl _)
  go_enter Try.func8, Try.ntmps8
  go_wp2_with fail
  refine (HN.out _).mono ?_
  rintro e w1 ⟨b, rfl, ht, k1, hb⟩
  have H1 : Hid (STab 46 w1 w.heap.size b 2 (.slice none 0 0) [] ∧ Kept w w1) := ⟨ht, k1⟩
  clear ht hb k1 HN
  go_wp2_with fail
  refine (put_yes (N := [5, 6]) (T := []) _ (H1.out.1.kept ((Kept.refl _).alloc _ _)) (rdi_lit w1 [5, 6]) (by simp)).mono ?_
  rintro e w2 ⟨rfl, v2, s2, m2, f2⟩
  have H2 : Hid (STab 46 w2 w.heap.size b 2 v2 [5, 6] ∧ Kept w w2) := ⟨by simpa using s2, (H1.out.2.alloc _ _).muts m2 (by simpa [Value.ownBlock] using H1.out.1.lo)⟩
  clear s2 m2 f2 H1
  go_wp2_with fail
  refine (put_no (N := [7]) (T := [5, 6]) _ (H2.out.1.kept ((Kept.refl _).alloc _ _)) (by simp)).mono ?_
  rintro e w3 ⟨rfl, k3⟩
  have H3 : Hid (STab 46 w3 w.heap.size b 2 v2 [5, 6] ∧ Kept w w3) := ⟨H2.out.1.kept k3.ofAlloc, H2.out.2.trans k3.ofAlloc⟩
  clear k3 H2
  go_wp2_with fail
  refine (len_any _ H3.out.1).mono ?_
  rintro e w4 ⟨rfl, rfl⟩
  have e0 : (((([5, 6] : List Int).length : Nat)) : Int) = 2 := rfl
  rw [e0]
  go_wp2_with fail
  refine (room_any _ H3.out.1).mono ?_
  rintro e w5 ⟨rfl, k5⟩
  rw [e0]
  have H5 : Hid (Kept w w5) := H3.out.2.trans k5
  clear k5 H3 e0
  go_wp2_with fail
  refine (side_any (l := 3) (L := fun j => ([3, 4, 6] : List Int).getD j 0) _ (by decide) (rdi_lit w5 [3, 4, 6]).rdf ?_).mono ?_
  · intro j hj
    match j, hj with
    | 0, _ => decide
    | 1, _ => decide
    | 2, _ => decide
  rintro e w6 ⟨rfl, k6⟩
  have e1 : sideU (fun j => ([3, 4, 6] : List Int).getD j 0) 3 = false := by decide
  rw [e1]
  have H6 : Hid (Kept w w6) := H5.out.trans k6.ofAlloc
  clear k6 H5 e1
  go_wp2_with fail
  refine (side_any (l := 0) (L := fun _ => 0) _ (by decide) (fun h => by omega) (fun j h => by omega)).mono ?_
  rintro e w7 ⟨rfl, k7⟩
  have H7 : Hid (Kept w w7) := H6.out.trans k7
  clear k7 H6
  have e1 : sideU (fun _ => 0) 0 = true := rfl
  rw [e1]
  go_wp2
  go_ret
  exact ⟨rfl, H7.out⟩
end Go.Proofs.Ytfeloacafkebhaa
