/-
  Contracts of the laws' own package sporef1, as far as chapter 4 goes: Check, Shape, SameConf and what they call.
-/
import Derived.Test.YtpdclckgnajcdaaRefCheck12
import Derived.Test.YtpdclckgnajcdaaCopy12
namespace Go.Proofs.Ytpdclckgnajcdaa
open Go.RowKit

set_option maxHeartbeats 1000000 in
theorem ref_shape_out (n0 n1 n2 n3 n4 n5 n6 n7 : Int) (x : Option Addr) (l c : Nat) (k : Int) (w : World) (h : k < 0 ∨ (l : Int) ≤ k) :
    Calls Try.prog 46 #[.agg #[.int .i64 n0, .int .i64 n1, .int .i64 n2, .int .i64 n3, .int .i64 n4, .int .i64 n5, .int .i64 n6, .int .i64 n7, .slice x l c], .int .i64 k] w fun e w' => e = .returned (.tuple #[.agg #[.bool false, .slice none 0 0], .bool false]) ∧ Kept w w' := by
  by_cases h0 : k < 0
  · clear h
    go_enter Try.func46, Try.ntmps46
    go_wp2
    (try simp only [Exit.inBlock, Exit.then])
    exact bodyPost_ret_by (results_blk_tmp rfl _ _ (w.heap.size + 1) [.bool false, .slice none 0 0] rfl (Blk.new2 _ _ _ _ _) Try.underlying38 (by kernel_rfl)) rfl ⟨rfl, ((Kept.refl w).alloc _ _).alloc _ _⟩
  · have h1 : k ≥ (l : Int) := by omega
    clear h
    go_enter Try.func46, Try.ntmps46
    go_wp2
    (try simp only [Exit.inBlock, Exit.then])
    exact bodyPost_ret_by (results_blk_tmp rfl _ _ (w.heap.size + 1) [.bool false, .slice none 0 0] rfl (Blk.new2 _ _ _ _ _) Try.underlying38 (by kernel_rfl)) rfl ⟨rfl, ((Kept.refl w).alloc _ _).alloc _ _⟩

set_option maxHeartbeats 1000000 in
theorem ref_shape_in (n0 n1 n2 n3 n4 n5 n6 n7 : Int) (x : Option Addr) (l c : Nat) (S : Nat → Sh) (k : Nat) (w : World) (hk : k < l) (hS : Shps w x l S) :
    Calls Try.prog 46 #[.agg #[.int .i64 n0, .int .i64 n1, .int .i64 n2, .int .i64 n3, .int .i64 n4, .int .i64 n5, .int .i64 n6, .int .i64 n7, .slice x l c], .int .i64 k] w fun e w' => e = .returned (.tuple #[.agg #[.bool (S k).arr, .slice (S k).x (S k).l (S k).c], .bool true]) ∧ Kept w w' := by
  obtain ⟨b, o, rfl, hb, hc⟩ := hS (by omega)
  have h0 : ¬ (k : Int) < 0 := by omega
  have h1 : ¬ (k : Int) ≥ (l : Int) := by omega
  have a0 := fun (A B : Array Value) (t u : TypeId) => ((((Kept.refl w).alloc A t).alloc B u).cell (a := ⟨b, o + k * 2, none⟩) hb).trans (hc k hk).1
  have a1 := fun (A B : Array Value) (t u : TypeId) => ((((Kept.refl w).alloc A t).alloc B u).cell (a := ⟨b, o + k * 2 + 1, none⟩) hb).trans (hc k hk).2
  clear hS hc
  go_enter Try.func46, Try.ntmps46
  go_wp2
  (try simp only [Exit.inBlock, Exit.then])
  exact bodyPost_ret_by (results_blk_tmp rfl _ _ (w.heap.size + 1) [_, _] rfl (Blk.new2 _ _ _ _ _) Try.underlying38 (by kernel_rfl)) rfl ⟨rfl, ((Kept.refl w).alloc _ _).alloc _ _⟩

end Go.Proofs.Ytpdclckgnajcdaa
