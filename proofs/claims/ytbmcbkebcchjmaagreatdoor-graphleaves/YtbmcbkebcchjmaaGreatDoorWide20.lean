/-
  The laws' configurations.
-/
import Derived.Test.YtbmcbkebcchjmaaGreatDoorOne20
namespace Go.Proofs.YtbmcbkebcchjmaaGreatDoor
open Go.RowKit
attribute [local go_sem] run_store_complex

/-- The laws' own: f words and fragments; an object of two references and a number, an array of references, an array of numbers. -/
def Cw (f s : Int) : Cf := ⟨f, s, 2, 2, 4, 0, 4, 0, 3, fun k => decide (k ≠ 0), fun k => if k = 0 then 3 else 1, fun k j => if k = 0 then decide (j ≠ 2) else decide (k = 1)⟩
/-- Of one empty object. -/
def C1 : Cf := ⟨4, 0, 0, 1, 1, 0, 1, 0, 1, fun _ => false, fun _ => 0, fun _ _ => false⟩
theorem Cw.ok (f s : Int) (h : f = 60 ∨ f = 100) (k : s = 60 ∨ s = 100) : (Cw f s).Ok where
  fits := by rcases h with rfl | rfl <;> rcases k with rfl | rfl <;> (unfold Fits Cw; decide)
  l1 := by show 1 ≤ 3; omega
  l8 := by show 3 ≤ 8; omega
  arr := fun i _ h => by
    have h : i ≠ 0 := by simpa [Cw] using h
    simp [Cw, h]
  obj := fun i _ h => by
    have h : i = 0 := by simpa [Cw] using h
    simp [Cw, h]
theorem C1.ok : C1.Ok where
  fits := by unfold Fits C1; decide
  l1 := Nat.le_refl _
  l8 := by show 1 ≤ 8; omega
  arr := fun i _ h => by simp [C1] at h
  obj := fun i _ _ => by simp [C1]

/-- Five new blocks. -/
theorem fiveNew (w : World) (L0 L1 L2 L3 L4 : List Value) (t0 t1 t2 t3 t4 : TypeId) :
    Own (((((w.alloc (.cells L0.toArray t0)).alloc (.cells L1.toArray t1)).alloc (.cells L2.toArray t2)).alloc (.cells L3.toArray t3)).alloc (.cells L4.toArray t4)) w.heap.size t0 L0 ∧
    Own (((((w.alloc (.cells L0.toArray t0)).alloc (.cells L1.toArray t1)).alloc (.cells L2.toArray t2)).alloc (.cells L3.toArray t3)).alloc (.cells L4.toArray t4)) (w.heap.size + 1) t1 L1 ∧
    Own (((((w.alloc (.cells L0.toArray t0)).alloc (.cells L1.toArray t1)).alloc (.cells L2.toArray t2)).alloc (.cells L3.toArray t3)).alloc (.cells L4.toArray t4)) (w.heap.size + 1 + 1) t2 L2 ∧
    Own (((((w.alloc (.cells L0.toArray t0)).alloc (.cells L1.toArray t1)).alloc (.cells L2.toArray t2)).alloc (.cells L3.toArray t3)).alloc (.cells L4.toArray t4)) (w.heap.size + 1 + 1 + 1) t3 L3 ∧
    Own (((((w.alloc (.cells L0.toArray t0)).alloc (.cells L1.toArray t1)).alloc (.cells L2.toArray t2)).alloc (.cells L3.toArray t3)).alloc (.cells L4.toArray t4)) (w.heap.size + 1 + 1 + 1 + 1) t4 L4 ∧
    Kept w (((((w.alloc (.cells L0.toArray t0)).alloc (.cells L1.toArray t1)).alloc (.cells L2.toArray t2)).alloc (.cells L3.toArray t3)).alloc (.cells L4.toArray t4)) := by
  have z : ∀ (u : World) (L : List Value) (t : TypeId), (u.alloc (.cells L.toArray t)).heap.size = u.heap.size + 1 := fun u L t => by simp
  have o0 := Own.new w L0 t0
  have k0 : Kept w (w.alloc (.cells L0.toArray t0)) := (Kept.refl _).alloc _ _
  have e0 := z w L0 t0
  generalize w.alloc (.cells L0.toArray t0) = w1 at *
  have o1 := Own.new w1 L1 t1
  have k1 := k0.alloc L1.toArray t1
  have e1 := z w1 L1 t1
  replace o0 := o0.alloc (.cells L1.toArray t1)
  generalize w1.alloc (.cells L1.toArray t1) = w2 at *
  have o2 := Own.new w2 L2 t2
  have k2 := k1.alloc L2.toArray t2
  have e2 := z w2 L2 t2
  replace o0 := o0.alloc (.cells L2.toArray t2)
  replace o1 := o1.alloc (.cells L2.toArray t2)
  generalize w2.alloc (.cells L2.toArray t2) = w3 at *
  have o3 := Own.new w3 L3 t3
  have k3 := k2.alloc L3.toArray t3
  have e3 := z w3 L3 t3
  replace o0 := o0.alloc (.cells L3.toArray t3)
  replace o1 := o1.alloc (.cells L3.toArray t3)
  replace o2 := o2.alloc (.cells L3.toArray t3)
  generalize w3.alloc (.cells L3.toArray t3) = w4 at *
  have o4 := Own.new w4 L4 t4
  have k4 := k3.alloc L4.toArray t4
  replace o0 := o0.alloc (.cells L4.toArray t4)
  replace o1 := o1.alloc (.cells L4.toArray t4)
  replace o2 := o2.alloc (.cells L4.toArray t4)
  replace o3 := o3.alloc (.cells L4.toArray t4)
  rw [e0] at o1 e1
  rw [e1] at o2 e2
  rw [e2] at o3 e3
  rw [e3] at o4
  exact ⟨o0, o1, o2, o3, o4, k4⟩

set_option maxHeartbeats 4000000 in
theorem wide_any (w : World) : Calls Tryz.prog 6 #[] w fun e w' => ∃ g S, e = .returned ((Cw 60 60).val (.slice (some ⟨g, 0, none⟩) 3 3)) ∧ CM (Cw 60 60) w' (some ⟨g, 0, none⟩) S ∧ Kept w w' := by
  go_enter Tryz.func6, Tryz.ntmps6
  go_wp2_with fail
  obtain ⟨o0, o1, o2, o3, o4, K⟩ := fiveNew w [.int .i64 60, .int .i64 60, .int .i64 2, .int .i64 2, .int .i64 4, .int .i64 0, .int .i64 4, .int .i64 0, .slice (some ⟨w.heap.size + 1 + 1 + 1 + 1, 0, none⟩) 3 3] [.bool true, .bool true, .bool false] [.bool true] [.bool false]
    [.bool false, .slice (some ⟨w.heap.size + 1, 0, none⟩) 3 3, .bool true, .slice (some ⟨w.heap.size + 1 + 1, 0, none⟩) 1 1, .bool true, .slice (some ⟨w.heap.size + 1 + 1 + 1, 0, none⟩) 1 1] 25 4 4 4 43
  refine bodyPost_ret_by (v := (Cw 60 60).val (.slice (some ⟨w.heap.size + 1 + 1 + 1 + 1, 0, none⟩) 3 3)) (results_blk rfl _ _ w.heap.size _ rfl o0.blk Tryz.underlying25 (by kernel_rfl)) rfl ?_
  refine ⟨_, fun k => if k = 0 then ⟨false, some ⟨w.heap.size + 1, 0, none⟩, 3, 3⟩ else if k = 1 then ⟨true, some ⟨w.heap.size + 1 + 1, 0, none⟩, 1, 1⟩ else ⟨true, some ⟨w.heap.size + 1 + 1 + 1, 0, none⟩, 1, 1⟩, rfl, ⟨fun _ => ⟨_, 0, rfl, o4.lt, fun i hi => ?_⟩, fun i hi => ?_, fun i hi => ?_, fun i hi => ?_⟩, K⟩
  · have hi : i < 3 := hi
    rcases (by omega : i = 0 ∨ i = 1 ∨ i = 2) with rfl | rfl | rfl <;> exact ⟨o4.blk.at _ rfl, o4.blk.at _ rfl⟩
  · have hi : i < 3 := hi
    rcases (by omega : i = 0 ∨ i = 1 ∨ i = 2) with rfl | rfl | rfl
    · refine fun _ => ⟨_, 0, rfl, o1.lt, fun k hk => ?_⟩
      have hk : k < 3 := hk
      rcases (by omega : k = 0 ∨ k = 1 ∨ k = 2) with rfl | rfl | rfl <;> exact o1.blk.at _ rfl
    · refine fun _ => ⟨_, 0, rfl, o2.lt, fun k hk => ?_⟩
      have hk : k < 1 := hk
      obtain rfl : k = 0 := by omega
      exact o2.blk.at _ rfl
    · refine fun _ => ⟨_, 0, rfl, o3.lt, fun k hk => ?_⟩
      have hk : k < 1 := hk
      obtain rfl : k = 0 := by omega
      exact o3.blk.at _ rfl
  · have hi : i < 3 := hi
    rcases (by omega : i = 0 ∨ i = 1 ∨ i = 2) with rfl | rfl | rfl <;> rfl
  · have hi : i < 3 := hi
    rcases (by omega : i = 0 ∨ i = 1 ∨ i = 2) with rfl | rfl | rfl <;> rfl
end Go.Proofs.YtbmcbkebcchjmaaGreatDoor
