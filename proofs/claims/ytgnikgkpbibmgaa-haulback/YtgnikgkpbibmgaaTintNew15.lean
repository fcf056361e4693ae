/-
  Contracts of package tint's New.
-/
import Derived.Test.YtgnikgkpbibmgaaTint15
namespace Go.Proofs.Ytgnikgkpbibmgaa
open Go.RowKit

theorem info_frag : (Try.prog.info? 76).map (fun i => (i.zero, i.size, i.bytes)) = some (some (.agg #[.int .i64 0, .bool false, .bool false]), 3, 16) := by kernel_rfl

theorem run_make_frags (n : Nat) (h : n ≤ 1024) (w : World) :
    (Instr.makeSlice 77 (.int .i64 (n : Int)) (.int .i64 (n : Int))).run Try.prog w = .ok (.slice (some ⟨w.heap.size, 0, none⟩) n n) (w.alloc (.cells (madeCells #[.int .i64 0, .bool false, .bool false] (n * 3)) 76)) := by
  obtain ⟨i, hi, hz, hs, hb⟩ := info_parts info_frag
  have hr := run_make (P := Try.prog) w 77 76 i _ Try.underlying77 hi hz .i64 .i64 n n (by omega) (Int.le_refl _) (by rw [hb]; omega) (by omega)
  simp only [Int.toNat_natCast, hs] at hr
  exact hr

/-- All Free, none a head. -/
def T0 : Nat → Fr := fun _ => ⟨0, false, false⟩

theorem frags_made (w : World) (n : Nat) (t : TypeId) : (w.alloc (.cells (madeCells #[.int .i64 0, .bool false, .bool false] (n * 3)) t)).rowIs w.heap.size t (n * 3) (fc T0) := by
  have h := World.rowIs_alloc w (madeCells #[.int .i64 0, .bool false, .bool false] (n * 3)) t (fc T0) (fun i hi => by
    rw [size_madeCells] at hi
    have h3 : i % 3 = 0 ∨ i % 3 = 1 ∨ i % 3 = 2 := by omega
    rcases h3 with e | e | e
    · simp [madeCells, hi, fc, T0, e]
    · simp [madeCells, hi, fc, T0, e]
    · simp [madeCells, hi, fc, T0, e])
  rwa [size_madeCells] at h

set_option maxHeartbeats 800000 in
theorem tnew_bad (n : Int) (w : World) (hn : ¬ (0 ≤ n ∧ n ≤ 1024)) :
    Calls Try.prog 34 #[.int .i64 n] w fun e w' => e = .returned (.tuple #[.pointer none, .int .i64 1]) ∧ w' = w := by
  by_cases h0 : n < 0
  · clear hn
    go_enter Try.func34, Try.ntmps34
    go_wp2
    go_ret2
    exact ⟨rfl, rfl⟩
  · have h1 : 1024 < n := by omega
    clear hn
    go_enter Try.func34, Try.ntmps34
    go_wp2
    go_ret2
    exact ⟨rfl, rfl⟩

set_option maxHeartbeats 800000 in
theorem tnew_any (n : Nat) (w : World) (hn : n ≤ 1024) :
    Calls Try.prog 34 #[.int .i64 n] w fun e w' => ∃ b g, e = .returned (.tuple #[.pointer (some ⟨b, 0, none⟩), .int .i64 0]) ∧ Tab w' b g n T0 ∧ w.heap.size ≤ b ∧ w.heap.size ≤ g ∧ Kept w w' := by
  have hmk := run_make_frags n hn
  go_enter Try.func34, Try.ntmps34
  go_wp2
  go_ret2
  refine ⟨w.heap.size + 1, w.heap.size, rfl, ⟨?_, ?_, hn⟩, by omega, by omega, ((Kept.refl w).alloc _ _).alloc _ _⟩
  · have h := Own.new (w.alloc (.cells (madeCells #[.int .i64 0, .bool false, .bool false] (n * 3)) 76)) [.slice (some ⟨w.heap.size, 0, none⟩) n n] 79
    simpa using h
  · exact (frags_made w n _).alloc _

end Go.Proofs.Ytgnikgkpbibmgaa
