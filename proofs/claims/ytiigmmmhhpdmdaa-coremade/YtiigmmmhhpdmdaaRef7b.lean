/-
  The document's table (package sporef6): Set, NewTable, Counts.
-/
import Derived.Test.YtiigmmmhhpdmdaaRef7
namespace Go.Proofs.Ytiigmmmhhpdmdaa
open Go.RowKit

theorem info_bool7 : (Try.prog.info? 4).map (fun i => (i.zero, i.size, i.bytes)) = some (some (.bool false), 1, 1) := by kernel_rfl
theorem info_int7 : (Try.prog.info? 3).map (fun i => (i.zero, i.size, i.bytes)) = some (some (.int .i64 0), 1, 8) := by kernel_rfl

set_option maxHeartbeats 800000 in
theorem trnew_bad (n : Int) (w : World) (hn : ¬ (0 ≤ n ∧ n ≤ 1024)) :
    Calls Try.prog 81 #[.int .i64 n] w fun e w' => e = .returned (.tuple #[.pointer none, .int .i64 1]) ∧ w' = w := by
  by_cases h0 : n < 0
  · clear hn
    go_enter Try.func81, Try.ntmps81
    go_wp2
    go_ret2
    exact ⟨rfl, rfl⟩
  · have h1 : 1024 < n := by omega
    clear hn
    go_enter Try.func81, Try.ntmps81
    go_wp2
    go_ret2
    exact ⟨rfl, rfl⟩

section
variable (w : World) (z : Value) (n : Nat) (t : TypeId) (A B : Obj)
theorem made_0 : (((w.alloc (.cells (madeCells #[z] n) t)).alloc A).alloc B).rowIs w.heap.size t n (fun _ => z) := ((World.rowIs_made w z n t).alloc _).alloc _
theorem made_1 : (((w.alloc A).alloc (.cells (madeCells #[z] n) t)).alloc B).rowIs (w.heap.size + 1) t n (fun _ => z) := by
  have h := World.rowIs_made (w.alloc A) z n t
  have e : (w.alloc A).heap.size = w.heap.size + 1 := by simp
  rw [e] at h
  exact h.alloc _
theorem made_2 : (((w.alloc A).alloc B).alloc (.cells (madeCells #[z] n) t)).rowIs (w.heap.size + 1 + 1) t n (fun _ => z) := by
  have h := World.rowIs_made ((w.alloc A).alloc B) z n t
  have e : ((w.alloc A).alloc B).heap.size = w.heap.size + 1 + 1 := by simp
  rw [e] at h
  exact h
end
theorem rtab_new {W : World} {b gs gh gc n : Nat} (hb : W.heap.size = b) (hn : n ≤ 1024) (rs : W.rowIs gs 3 n (fun _ => .int .i64 0)) (rh : W.rowIs gh 4 n (fun _ => .bool false)) (rc : W.rowIs gc 4 n (fun _ => .bool false)) (ne : gh ≠ gc) :
    RtT (W.alloc (.cells #[.slice (some ⟨gs, 0, none⟩) n n, .slice (some ⟨gh, 0, none⟩) n n, .slice (some ⟨gc, 0, none⟩) n n] 156)).drew b gs gh gc n T0 := by
  subst hb
  exact ⟨Own.new W [_, _, _] _, rs.alloc _, rh.alloc _, rc.alloc _, ne, hn⟩

set_option maxHeartbeats 4000000 in
theorem trnew_any (n : Nat) (w : World) (hn : n ≤ 1024) :
    Calls Try.prog 81 #[.int .i64 n] w fun e w' => ∃ b gs gh gc, e = .returned (.tuple #[.pointer (some ⟨b, 0, none⟩), .int .i64 0]) ∧ RtT w' b gs gh gc n T0 ∧ w.heap.size ≤ b ∧ w.heap.size ≤ gs ∧ w.heap.size ≤ gh ∧ w.heap.size ≤ gc ∧ Kept w w' := by
  have hmk := run_make_row' (P := Try.prog) 70 4 (.bool false) 1 Try.underlying70 info_bool7 rfl .i64 .i64 n (by omega) (by omega)
  have hmi := run_make_row' (P := Try.prog) 59 3 (.int .i64 0) 8 Try.underlying59 info_int7 rfl .i64 .i64 n (by omega) (by omega)
  go_enter Try.func81, Try.ntmps81
  go_wp2
  go_region
  all_goals go_wp2
  all_goals go_ret2
  all_goals refine ⟨_, _, _, _, rfl, rtab_new (by simp) hn (by first | exact made_0 _ _ _ _ _ _ | exact made_1 _ _ _ _ _ _ | exact made_2 _ _ _ _ _ _) (by first | exact made_0 _ _ _ _ _ _ | exact made_1 _ _ _ _ _ _ | exact made_2 _ _ _ _ _ _) (by first | exact made_0 _ _ _ _ _ _ | exact made_1 _ _ _ _ _ _ | exact made_2 _ _ _ _ _ _) (by omega), by omega, by omega, by omega, by omega, (((((Kept.refl w).alloc _ _).alloc _ _).alloc _ _).alloc _ _).drew⟩

end Go.Proofs.Ytiigmmmhhpdmdaa
